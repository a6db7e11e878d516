/-
  Helpers of the claims beside this text: plain mathematics: a sorted list without its repeats.
-/
import Derived.Test.YtjgjcppkbfojpaaMath
import Derived.Lib.SlicesCompact
import Derived.Test.YtjgjcppkbfojpaaSort
namespace Go.Proofs.Ytjgjcppkbfojpaa.Rhy
set_option linter.unusedVariables false
open Go.Lib

theorem cup_zero (d : Array Int) : compactUpTo d 0 = [] := by simp [compactUpTo]
theorem cup_spec (d : Array Int) (hs : ∀ i j, i < j → j < d.size → d[i]! ≤ d[j]!) :
    ∀ m, m ≤ d.size → (compactUpTo d m).Pairwise (· < ·) ∧ (∀ x, x ∈ compactUpTo d m ↔ ∃ j, j < m ∧ d[j]! = x) := by
  intro m
  induction m with
  | zero =>
    intro _
    rw [cup_zero]
    exact ⟨List.Pairwise.nil, fun x => by simp⟩
  | succ m ih =>
    intro hm
    obtain ⟨h1, h2⟩ := ih (by omega)
    rw [compactUpTo_succ]
    cases hk : keeps d m
    · have h0 : 0 < m := by
        rcases Nat.eq_zero_or_pos m with h | h
        · rw [h, keeps_lt_one d 0 (by omega)] at hk
          cases hk
        · exact h
      have he : d[m]! = d[m - 1]! := by
        rcases Classical.em (d[m]! = d[m - 1]!) with h | h
        · exact h
        · rw [keeps_pos h] at hk; cases hk
      refine ⟨by simpa using h1, fun x => ?_⟩
      simp only [Bool.false_eq_true, if_false, List.append_nil]
      rw [h2]
      constructor
      · rintro ⟨j, hj, e⟩; exact ⟨j, by omega, e⟩
      · rintro ⟨j, hj, e⟩
        by_cases hjm : j = m
        · subst hjm; exact ⟨j - 1, by omega, by rw [← he]; exact e⟩
        · exact ⟨j, by omega, e⟩
    · simp only [if_true]
      refine ⟨?_, fun x => ?_⟩
      · rw [List.pairwise_append]
        refine ⟨h1, by simp, fun x hx y hy => ?_⟩
        simp at hy
        subst hy
        obtain ⟨j, hj, e⟩ := (h2 x).1 hx
        have hle : d[j]! ≤ d[m]! := hs j m hj (by omega)
        rcases Nat.eq_zero_or_pos m with h0 | h0
        · omega
        · have hne : d[m]! ≠ d[m - 1]! := fun q => by
            rw [keeps_neg h0 q] at hk
            cases hk
          have h3 : d[m - 1]! ≤ d[m]! := hs (m - 1) m (by omega) (by omega)
          have h4 : d[j]! ≤ d[m - 1]! := by
            by_cases hj1 : j = m - 1
            · rw [hj1]; exact Int.le_refl _
            · exact hs j (m - 1) (by omega) (by omega)
          omega
      · rw [List.mem_append, h2]
        constructor
        · rintro (⟨j, hj, e⟩ | h)
          · exact ⟨j, by omega, e⟩
          · simp at h
            exact ⟨m, by omega, h.symm⟩
        · rintro ⟨j, hj, e⟩
          by_cases hjm : j = m
          · subst hjm; right; simp [e]
          · left; exact ⟨j, by omega, e⟩

/-- A sorted list of numbers from 0 up to n, without its repeats. -/
theorem compact_ofZ {n : Nat} {l s : List Int} (hs : s.Pairwise (· ≤ ·)) (hm : ∀ x, x ∈ s ↔ x ∈ l) (hr : ∀ x ∈ l, 0 ≤ x ∧ x < n) : Lib.compact s = ofZ n l := by
  have hmono : ∀ i j, i < j → j < s.toArray.size → s.toArray[i]! ≤ s.toArray[j]! := by
    intro i j hij hj
    have hj' : j < s.length := by simpa using hj
    have := List.pairwise_iff_getElem.1 hs i j (by omega) hj' hij
    rw [getElem!_pos s.toArray i (by simp; omega), getElem!_pos s.toArray j (by simp; omega)]
    simpa using this
  obtain ⟨h1, h2⟩ := cup_spec s.toArray hmono s.length (by simp)
  refine lt_uniq h1 (ofZ_sorted n l) (fun x => ?_)
  show x ∈ compactUpTo s.toArray s.length ↔ _
  rw [h2, ofZ_mem]
  constructor
  · rintro ⟨j, hj, e⟩
    have hx : x ∈ s := by
      rw [getElem!_pos s.toArray j (by simp; omega)] at e
      rw [← e]
      simp
    have hl := (hm x).1 hx
    exact ⟨hr x hl, hl⟩
  · rintro ⟨_, hl⟩
    obtain ⟨j, hj, e⟩ := List.mem_iff_getElem.1 ((hm x).2 hl)
    exact ⟨j, hj, by rw [getElem!_pos s.toArray j (by simp; omega)]; simpa using e⟩
theorem sort_le (l : List Int) : (l.mergeSort fun x y => decide (x ≤ y)).Pairwise (· ≤ ·) :=
  (List.pairwise_mergeSort (le := fun x y : Int => decide (x ≤ y)) (fun a b c h1 h2 => by simp at *; omega) (fun a b => by simp; omega) l).imp (fun h => by simpa using h)
theorem compact_sort {n : Nat} {l : List Int} (hr : ∀ x ∈ l, 0 ≤ x ∧ x < n) : Lib.compact (l.mergeSort fun x y => decide (x ≤ y)) = ofZ n l :=
  compact_ofZ (sort_le l) (fun x => (List.mergeSort_perm l _).mem_iff) hr
end Go.Proofs.Ytjgjcppkbfojpaa.Rhy

/-
  Helpers of the claims beside this text: the library's Compact at a slice of the call's own.
-/
namespace Go.Proofs.Ytjgjcppkbfojpaa.Rhy
open Go.RowKit
set_option linter.unusedVariables false

theorem compact_own (B : Nat) (a : Option Addr) (n cap : Nat) (l : List Int) (w : World) (h : w.ownsRow B 3 1 (.slice a n cap) n (ints l)) (hn : n ≤ 4194304) (hB : B ≤ w.heap.size) :
    Calls Try.prog 66 #[.slice a n cap] w fun e w' => e = .returned (.slice a (Lib.compact l).length cap) ∧ w'.ownsRow B 3 1 (.slice a (Lib.compact l).length cap) (Lib.compact l).length (ints (Lib.compact l)) ∧ Below B w w' := by
  have hl : l.length = n := (own_shape h).1
  have hle := Lib.compact_length_le l
  by_cases h0 : n = 0
  · subst h0
    have e : l = [] := List.eq_nil_of_length_eq_zero hl
    refine (Try.slices_Compact_int_empty a cap w).mono ?_
    rintro e' w' ⟨rfl, rfl⟩
    subst e
    have hc : Lib.compact ([] : List Int) = [] := List.eq_nil_of_length_eq_zero (by simpa using hle)
    rw [hc]
    exact ⟨rfl, h, Below.refl _ _⟩
  · have hown := h
    obtain ⟨h1, ⟨hv, hn0⟩ | ⟨g, cap', cur, hv, hBg, hg, hnc, hm, hs, ht⟩⟩ := h
    · exact absurd hn0 h0
    · simp at hv
      obtain ⟨rfl, rfl⟩ := hv
      have ht' : cur.toList.take l.length = l.map (Value.int .i64) := by rw [hl]; simpa [ints] using ht
      subst hl
      refine (Try.slices_Compact_int g 0 cap l w (holds_of_blockI hg ht') (by omega) hnc).mono ?_
      rintro e' w' ⟨rfl, q, rfl⟩
      refine ⟨rfl, ?_, ?_⟩
      · have := Lib.ownsRow_putRow (enc := Value.int .i64) (q := q) (ys := Lib.compact l ++ List.replicate (l.length - (Lib.compact l).length) 0) (k := (Lib.compact l).length) hown (by simp; omega) hle
        rw [List.take_left] at this
        exact this
      · exact Lib.below_putRow (Below.refl B w) hBg

end Go.Proofs.Ytjgjcppkbfojpaa.Rhy
