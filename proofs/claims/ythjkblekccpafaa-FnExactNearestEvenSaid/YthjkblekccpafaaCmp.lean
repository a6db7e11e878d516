/-
  Helpers of the claims beside this text: plain mathematics: a sorted list without its repeats.
-/
import Derived.Test.YthjkblekccpafaaMath
import Derived.Lib.SlicesCompact
import Derived.Test.YthjkblekccpafaaSort
namespace Go.Proofs.Ythjkblekccpafaa.Rhy
set_option linter.unusedVariables false
open Go.Lib

theorem cup_zero (d : Array Int) : compactUpTo d 0 = [] := by simp [compactUpTo]
theorem cup_spec (d : Array Int) (hs : ∀ i j, i < j → j < d.size → d[i]! ≤ d[j]!) :
    ∀ m, m ≤ d.size → (compactUpTo d m).Pairwise (· < ·) ∧ (∀ x, x ∈ compactUpTo d m ↔ ∃ j, j < m ∧ d[j]! = x) := by
  intro m
  induction m with
  | zero =>
    intro _
    rw [cup_zero]
    exact ⟨List.Pairwise.nil, fun x => by simp⟩
  | succ m ih =>
    intro hm
    obtain ⟨h1, h2⟩ := ih (by omega)
    rw [compactUpTo_succ]
    cases hk : keeps d m
    · have h0 : 0 < m := by
        rcases Nat.eq_zero_or_pos m with h | h
        · rw [h, keeps_lt_one d 0 (by omega)] at hk
          cases hk
        · exact h
      have he : d[m]! = d[m - 1]! := by
        rcases Classical.em (d[m]! = d[m - 1]!) with h | h
        · exact h
        · rw [keeps_pos h] at hk; cases hk
      refine ⟨by simpa using h1, fun x => ?_⟩
      simp only [Bool.false_eq_true, if_false, List.append_nil]
      rw [h2]
      constructor
      · rintro ⟨j, hj, e⟩; exact ⟨j, by omega, e⟩
      · rintro ⟨j, hj, e⟩
        by_cases hjm : j = m
        · subst hjm; exact ⟨j - 1, by omega, by rw [← he]; exact e⟩
        · exact ⟨j, by omega, e⟩
    · simp only [if_true]
      refine ⟨?_, fun x => ?_⟩
      · rw [List.pairwise_append]
        refine ⟨h1, by simp, fun x hx y hy => ?_⟩
        simp at hy
        subst hy
        obtain ⟨j, hj, e⟩ := (h2 x).1 hx
        have hle : d[j]! ≤ d[m]! := hs j m hj (by omega)
        rcases Nat.eq_zero_or_pos m with h0 | h0
        · omega
        · have hne : d[m]! ≠ d[m - 1]! := fun q => by
            rw [keeps_neg h0 q] at hk
            cases hk
          have h3 : d[m - 1]! ≤ d[m]! := hs (m - 1) m (by omega) (by omega)
          have h4 : d[j]! ≤ d[m - 1]! := by
            by_cases hj1 : j = m - 1
            · rw [hj1]; exact Int.le_refl _
            · exact hs j (m - 1) (by omega) (by omega)
          omega
      · rw [List.mem_append, h2]
        constructor
        · rintro (⟨j, hj, e⟩ | h)
          · exact ⟨j, by omega, e⟩
          · simp at h
            exact ⟨m, by omega, h.symm⟩
        · rintro ⟨j, hj, e⟩
          by_cases hjm : j = m
          · subst hjm; right; simp [e]
          · left; exact ⟨j, by omega, e⟩

/-- A sorted list of numbers from 0 up to n, without its repeats. -/
theorem compact_ofZ {n : Nat} {l s : List Int} (hs : s.Pairwise (· ≤ ·)) (hm : ∀ x, x ∈ s ↔ x ∈ l) (hr : ∀ x ∈ l, 0 ≤ x ∧ x < n) : Lib.compact s = ofZ n l := by
  have hmono : ∀ i j, i < j → j < s.toArray.size → s.toArray[i]! ≤ s.toArray[j]! := by
    intro i j hij hj
    have hj' : j < s.length := by simpa using hj
    have := List.pairwise_iff_getElem.1 hs i j (by omega) hj' hij
    rw [getElem!_pos s.toArray i (by simp; omega), getElem!_pos s.toArray j (by simp; omega)]
    simpa using this
  obtain ⟨h1, h2⟩ := cup_spec s.toArray hmono s.length (by simp)
  refine lt_uniq h1 (ofZ_sorted n l) (fun x => ?_)
  show x ∈ compactUpTo s.toArray s.length ↔ _
  rw [h2, ofZ_mem]
  constructor
  · rintro ⟨j, hj, e⟩
    have hx : x ∈ s := by
      rw [getElem!_pos s.toArray j (by simp; omega)] at e
      rw [← e]
      simp
    have hl := (hm x).1 hx
    exact ⟨hr x hl, hl⟩
  · rintro ⟨_, hl⟩
    obtain ⟨j, hj, e⟩ := List.mem_iff_getElem.1 ((hm x).2 hl)
    exact ⟨j, hj, by rw [getElem!_pos s.toArray j (by simp; omega)]; simpa using e⟩
theorem sort_le (l : List Int) : (l.mergeSort fun x y => decide (x ≤ y)).Pairwise (· ≤ ·) :=
  (List.pairwise_mergeSort (le := fun x y : Int => decide (x ≤ y)) (fun a b c h1 h2 => by simp at *; omega) (fun a b => by simp; omega) l).imp (fun h => by simpa using h)
theorem compact_sort {n : Nat} {l : List Int} (hr : ∀ x ∈ l, 0 ≤ x ∧ x < n) : Lib.compact (l.mergeSort fun x y => decide (x ≤ y)) = ofZ n l :=
  compact_ofZ (sort_le l) (fun x => (List.mergeSort_perm l _).mem_iff) hr
end Go.Proofs.Ythjkblekccpafaa.Rhy
namespace Go.Proofs.Ythjkblekccpafaa.Rhy
open Go.RowKit
end Go.Proofs.Ythjkblekccpafaa.Rhy
