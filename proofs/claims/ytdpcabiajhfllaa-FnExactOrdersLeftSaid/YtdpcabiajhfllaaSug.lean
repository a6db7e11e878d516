/-
  Helpers of the claims beside this text: direct sums, tilings and gaps: both sides.
-/
import Derived.Test.YtdpcabiajhfllaaSuf
namespace Go.Proofs.Ytdpcabiajhfllaa.Rhy
open Go.RowKit
set_option linter.unusedVariables false
set_option linter.unusedSimpArgs false

theorem foldl_maxS : ∀ (l : List Int) (a : Int), (l.foldl max a = a ∨ l.foldl max a ∈ l) ∧ a ≤ l.foldl max a ∧ ∀ x ∈ l, x ≤ l.foldl max a
  | [], a => ⟨.inl rfl, Int.le_refl _, fun x hx => by cases hx⟩
  | y :: l, a => by
    obtain ⟨h1, h2, h3⟩ := foldl_maxS l (max a y)
    rw [List.foldl_cons]
    refine ⟨?_, by omega, fun x hx => ?_⟩
    · rcases h1 with q | q
      · rw [q]
        rcases Int.le_total a y with r | r
        · right; rw [Int.max_eq_right r]; simp
        · left; exact Int.max_eq_left r
      · exact .inr (List.mem_cons_of_mem _ q)
    · rcases List.mem_cons.1 hx with rfl | q
      · omega
      · exact h3 x q
theorem maxS_mem {l : List Int} (h : 0 < l.length) : Lib.maxOf l ∈ l ∧ ∀ x ∈ l, x ≤ Lib.maxOf l := by
  obtain ⟨y, l, rfl⟩ := List.exists_cons_of_length_pos h
  obtain ⟨h1, h2, h3⟩ := foldl_maxS (y :: l) y
  unfold Lib.maxOf
  rw [List.headD_cons]
  refine ⟨?_, h3⟩
  rcases h1 with q | q
  · rw [q]; simp
  · exact q
theorem ints_cells {w : World} {a : Option Addr} {n : Nat} {zs : List Int} (h : IntsAt w a n zs) (hn : 0 < n) : ∃ b off, a = some ⟨b, off, none⟩ ∧ ∀ j, j < zs.length → w.cell? ⟨b, off + j, none⟩ = some (.int .i64 (zs.getD j 0)) := by
  obtain ⟨b, off, rfl, _, hc⟩ := h.2.2 hn
  refine ⟨b, off, rfl, fun j hj => hc j _ ?_⟩
  rw [List.getD_eq_getElem?_getD, List.getElem?_eq_getElem hj]
  rfl

/-- All counts of the pulses below n lie between two numbers. -/
def btwC (n : Nat) (L : List Int) (lo hi : Int) : Prop := ∀ p : Nat, p < n → lo ≤ ((L.count (p : Int) : Nat) : Int) ∧ ((L.count (p : Int) : Nat) : Int) ≤ hi
theorem btw_snoc {k : Nat} {L : List Int} {lo hi : Int} (h : btwC k L lo hi) (h1 : lo ≤ ((L.count (k : Int) : Nat) : Int)) (h2 : ((L.count (k : Int) : Nat) : Int) ≤ hi) : btwC (k + 1) L lo hi := by
  intro p hp
  by_cases e : p = k
  · subst e; exact ⟨h1, h2⟩
  · exact h p (by omega)
theorem btw_dir {n : Nat} {xs ys : List Int} (hn : 1 ≤ n) : btwC n (sumL n xs ys) 0 1 ↔ dirC n xs ys := by
  rw [dir_count]
  constructor
  · intro h x
    by_cases hx : x ∈ sumL n xs ys
    · have hb := sumL_range (by omega) x hx
      have := (h x.toNat (by omega)).2
      rw [show ((x.toNat : Nat) : Int) = x by omega] at this
      omega
    · rw [List.count_eq_zero.2 hx]; omega
  · intro h p _
    have := h (p : Int)
    omega
theorem btw_til {n : Nat} {xs ys : List Int} : btwC n (sumL n xs ys) 1 1 ↔ tilC n xs ys := by
  constructor
  · intro h x h0 h1
    have := h x.toNat (by omega)
    rw [show ((x.toNat : Nat) : Int) = x by omega] at this
    omega
  · intro h p hp
    have := h (p : Int) (by omega) (by omega)
    omega
noncomputable def btwB (s : Int) (xs : List Int) (t : Int) (ys : List Int) (lo hi : Int) : Bool := cB ((Ok s xs ∧ Ok t ys ∧ s = t) ∧ btwC s.toNat (sumL s xs ys) lo hi)
/-- What both answer. -/
noncomputable def dirB (s : Int) (xs : List Int) (t : Int) (ys : List Int) : Bool := cB ((Ok s xs ∧ Ok t ys ∧ s = t) ∧ dirC s xs ys)
noncomputable def tilB (s : Int) (xs : List Int) (t : Int) (ys : List Int) : Bool := cB ((Ok s xs ∧ Ok t ys ∧ s = t) ∧ tilC s xs ys)
noncomputable def gapB (s : Int) (xs : List Int) (t : Int) (ys : List Int) : List Int := cZ (Ok s xs ∧ Ok t ys ∧ s = t) (gapZ s xs ys)
theorem cB_iff {c d : Prop} (h : c ↔ d) : cB c = cB d := by rw [propext h]
theorem dirB_btw (s : Int) (xs : List Int) (t : Int) (ys : List Int) : btwB s xs t ys 0 1 = dirB s xs t ys := by
  refine cB_iff ⟨fun h => ⟨h.1, ?_⟩, fun h => ⟨h.1, ?_⟩⟩
  · obtain ⟨q, rfl⟩ : ∃ q : Nat, s = q := ⟨s.toNat, by have := h.1.1.1; omega⟩
    exact (btw_dir (by have := h.1.1.1; omega)).1 h.2
  · obtain ⟨q, rfl⟩ : ∃ q : Nat, s = q := ⟨s.toNat, by have := h.1.1.1; omega⟩
    exact (btw_dir (by have := h.1.1.1; omega)).2 h.2
theorem tilB_btw (s : Int) (xs : List Int) (t : Int) (ys : List Int) : btwB s xs t ys 1 1 = tilB s xs t ys := by
  refine cB_iff ⟨fun h => ⟨h.1, ?_⟩, fun h => ⟨h.1, ?_⟩⟩
  · obtain ⟨q, rfl⟩ : ∃ q : Nat, s = q := ⟨s.toNat, by have := h.1.1.1; omega⟩
    exact btw_til.1 h.2
  · obtain ⟨q, rfl⟩ : ∃ q : Nat, s = q := ⟨s.toNat, by have := h.1.1.1; omega⟩
    exact btw_til.2 h.2

/-- The pulses below k that a list lacks. -/
def gpP (L : List Int) (k : Nat) : List Int := ((List.range k).filter fun p => decide (L.count ((p : Nat) : Int) = 0)).map fun p => ((p : Nat) : Int)
theorem gpP_yes {L : List Int} {k : Nat} (h : L.count (k : Int) = 0) : gpP L (k + 1) = gpP L k ++ [(k : Int)] := by
  unfold gpP
  rw [List.range_succ, List.filter_append, List.map_append]
  congr 1
  rw [List.filter_cons_of_pos (by simpa using h)]
  rfl
theorem gpP_no {L : List Int} {k : Nat} (h : ¬ L.count (k : Int) = 0) : gpP L (k + 1) = gpP L k := by
  unfold gpP
  rw [List.range_succ, List.filter_append, List.map_append]
  rw [List.filter_cons_of_neg (by simpa using h)]
  simp
theorem gpP_len (L : List Int) (k : Nat) : (gpP L k).length ≤ k := by
  unfold gpP
  rw [List.length_map]
  exact Nat.le_trans (List.length_filter_le _ _) (by simp)
theorem gpP_all (n : Nat) (xs ys : List Int) : gpP (sumL n xs ys) n = gapZ n xs ys := by
  unfold gpP gapZ
  rw [Int.toNat_natCast, List.filter_map]
  congr 1
  refine List.filter_congr fun p _ => ?_
  simp [Function.comp, List.count_eq_zero]
theorem gap_not {n : Nat} {xs ys : List Int} (hn : 1 ≤ n) : gapZ n xs ys = notZ n (suZ n xs ys) := by
  unfold gapZ notZ
  rw [Int.toNat_natCast]
  refine List.filter_congr fun p _ => ?_
  have h := su_mem (n := n) (xs := xs) (ys := ys) (by omega) (x := p)
  by_cases hc : p ∈ sumL n xs ys
  · simp [hc, h.2 hc]
  · have : ¬ p ∈ suZ n xs ys := fun q => hc (h.1 q)
    simp [hc, this]
theorem gapL_len (n : Nat) (xs ys : List Int) : (gapZ n xs ys).length ≤ n := by rw [← gpP_all]; exact gpP_len _ _
theorem gapB_int (s : Int) (xs : List Int) (t : Int) (ys : List Int) : AllInt (gapB s xs t ys) := by
  unfold gapB
  by_cases h : (Ok s xs ∧ Ok t ys ∧ s = t)
  · rw [cZ_yes h]; intro z hz; have := (gap_mem.1 hz).1; have := h.1.1; omega
  · rw [cZ_no h]; intro z hz; cases hz
theorem gapB_len (s : Int) (xs : List Int) (t : Int) (ys : List Int) : (gapB s xs t ys).length ≤ 24 := by
  unfold gapB
  by_cases h : (Ok s xs ∧ Ok t ys ∧ s = t)
  · obtain ⟨q, rfl⟩ : ∃ q : Nat, s = q := ⟨s.toNat, by have := h.1.1; omega⟩
    rw [cZ_yes h]; exact Nat.le_trans (gapL_len q xs ys) (by have := h.1.1; omega)
  · rw [cZ_no h]; simp





end Go.Proofs.Ytdpcabiajhfllaa.Rhy
