/-
  Helpers of the claims beside this text: the program's TurnSteps.
-/
import Derived.Test.YtpbceckbmalabaaStp
import Derived.Test.YtpbceckbmalabaaRot
import Derived.Deep.RegionWith
import Derived.Test.YtpbceckbmalabaaFrm
namespace Go.Proofs.Ytpbceckbmalabaa.Rhy
open Go.RowKit
set_option linter.unusedVariables false

theorem steps_at {s : Int} {zs : List Int} {k : Nat} (h : k < zs.length) : (stepsZ s zs)[k]? = some (stepAt s zs k) := by simp [stepsZ, stepsP, h]
theorem steps_len (s : Int) (zs : List Int) : (stepsZ s zs).length = zs.length := stepsP_len _ _ _
theorem rev_sum {s : Int} {zs : List Int} : ∀ j, j + 1 ≤ zs.length → ((stepsZ s zs).reverse.take (j + 1)).sum = zs[0]?.getD 0 + s - zs[zs.length - 1 - j]?.getD 0 := by
  intro j
  induction j with
  | zero =>
    intro h
    have e : (stepsZ s zs).reverse[0]? = some (stepAt s zs (zs.length - 1)) := by
      rw [List.getElem?_reverse (by rw [steps_len]; omega), steps_len]
      exact steps_at (by omega)
    rw [sum_snoc e]
    have : zs[zs.length - 1 + 1]? = none := List.getElem?_eq_none (by omega)
    simp [stepAt, this]
  | succ j ih =>
    intro h
    have e : (stepsZ s zs).reverse[j + 1]? = some (stepAt s zs (zs.length - 1 - (j + 1))) := by
      rw [List.getElem?_reverse (by rw [steps_len]; omega), steps_len]
      exact steps_at (by omega)
    rw [sum_snoc e, ih (by omega)]
    have e2 : zs.length - 1 - (j + 1) + 1 = zs.length - 1 - j := by omega
    have e3 := List.getElem?_eq_getElem (show zs.length - 1 - j < zs.length by omega)
    unfold stepAt
    rw [e2, e3]
    simp
    omega

theorem rem_s (a s : Int) : remB (a + s) s = remB a s := by unfold remB; simp
theorem turn_set {s : Int} {zs : List Int} (ho : Ok s zs) (h0 : 0 < zs.length) : ofZ s.toNat (turnZ s zs) = ofZ s.toNat (mapL s zs (-1) (2 * zs[0]?.getD 0)) := by
  refine ofZ_congr fun x => ?_
  have hm : ∀ j, j < zs.length → ∃ i, i < zs.length ∧ remB (zs[0]?.getD 0 + (((stepsZ s zs).reverse.take j).sum)) s = remB (-1 * (zs[i]?.getD 0) + 2 * zs[0]?.getD 0) s ∧ (j = 0 → i = 0) ∧ (0 < j → i = zs.length - j) := by
    intro j hj
    cases j with
    | zero => exact ⟨0, h0, by congr 1; simp; omega, fun _ => rfl, fun q => absurd q (by omega)⟩
    | succ j =>
      refine ⟨zs.length - 1 - j, by omega, ?_, fun q => by omega, fun _ => by omega⟩
      rw [rev_sum j (by omega)]
      rw [← rem_s (-1 * (zs[zs.length - 1 - j]?.getD 0) + 2 * zs[0]?.getD 0) s]
      congr 1
      omega
  unfold turnZ turnL mapL
  rw [stB_yes ho, steps_len, List.mem_map, List.mem_map]
  constructor
  · rintro ⟨j, hj, rfl⟩
    rw [List.mem_range] at hj
    obtain ⟨i, hi, he, _⟩ := hm j hj
    exact ⟨zs[i]?.getD 0, by rw [List.getElem?_eq_getElem hi]; exact List.getElem_mem hi, he.symm⟩
  · rintro ⟨y, hy, rfl⟩
    obtain ⟨i, hi, rfl⟩ := List.getElem_of_mem hy
    by_cases h : i = 0
    · subst h
      obtain ⟨i, hi, he, h1, _⟩ := hm 0 h0
      rw [h1 rfl, List.getElem?_eq_getElem h0] at he
      exact ⟨0, by rw [List.mem_range]; exact h0, by rw [List.getElem?_eq_getElem h0]; exact he⟩
    · obtain ⟨i', hi', he, _, h1⟩ := hm (zs.length - i) (by omega)
      have e : i' = i := by have := h1 (by omega); omega
      rw [e, List.getElem?_eq_getElem hi] at he
      exact ⟨zs.length - i, by rw [List.mem_range]; omega, he⟩


end Go.Proofs.Ytpbceckbmalabaa.Rhy

/-
  Helpers of the claims beside this text: the program's FromSteps.
-/
namespace Go.Proofs.Ytpbceckbmalabaa.Rhy
open Go.RowKit
set_option linter.unusedVariables false

/-- When steps fill a bar. -/
def SizC (zs : List Int) : Prop := 0 < zs.length ∧ (∀ x ∈ zs, 1 ≤ x ∧ x ≤ 24) ∧ zs.sum ≤ 24
/-- What the first k steps must be for the rest to be looked at. -/
def SizP (zs : List Int) (k : Nat) : Prop := (∀ x ∈ zs.take k, 1 ≤ x ∧ x ≤ 24) ∧ (zs.take k).sum ≤ 24
theorem sizP_ge {zs : List Int} {k : Nat} (h : SizP zs k) : 0 ≤ (zs.take k).sum := by
  have := sum_ge (m := zs.take k) (fun x hx => (h.1 x hx).1)
  omega
theorem sizP_next {zs : List Int} {k : Nat} {z : Int} (h : SizP zs k) (hs : zs[k]? = some z) (hz : 1 ≤ z) (hn : z ≤ 24 - (zs.take k).sum) : SizP zs (k + 1) := by
  have := sizP_ge h
  refine ⟨?_, by rw [sum_snoc hs]; omega⟩
  intro x hx
  rw [List.take_add_one, hs] at hx
  rcases List.mem_append.mp hx with q | q
  · exact h.1 x q
  · have : x = z := by simpa using q
    omega
theorem sizC_not {zs : List Int} {k : Nat} {z : Int} (h : SizP zs k) (hs : zs[k]? = some z) (hz : z < 1 ∨ 24 - (zs.take k).sum < z) : ¬ SizC zs := by
  rintro ⟨_, h1, h2⟩
  have hx := h1 z (List.mem_of_getElem? hs)
  have h3 := sum_mono (m := zs) (fun x hx => by have := h1 x hx; omega) (k + 1)
  rw [sum_snoc hs] at h3
  omega



end Go.Proofs.Ytpbceckbmalabaa.Rhy

/-
  Helpers of the claims beside this text: plain mathematics: steps once around, made into the rhythm again, turned by a mirror.
-/
namespace Go.Proofs.Ytpbceckbmalabaa.Rhy
set_option linter.unusedVariables false

theorem stB_len_ok {s : Int} {zs : List Int} (ho : Ok s zs) : (stB s zs).length = zs.length := by rw [stB_yes ho]; exact steps_len s zs
theorem stB_sum {s : Int} {zs : List Int} (ho : Ok s zs) (h0 : 0 < zs.length) : (stB s zs).sum = s := by
  rw [stB_yes ho]
  have h := rev_sum (s := s) (zs := zs) (zs.length - 1) (by omega)
  rw [show zs.length - 1 + 1 = zs.length by omega, List.take_of_length_le (by simp [steps_len]), List.sum_reverse, show zs.length - 1 - (zs.length - 1) = 0 by omega] at h
  omega
/-- The first k steps lead from the first beat to beat k. -/
theorem steps_sum {s : Int} {zs : List Int} (k : Nat) (hk : k < zs.length) : ((stepsZ s zs).take k).sum = zs[k]?.getD 0 - zs[0]?.getD 0 := by
  induction k with
  | zero => simp
  | succ k ih =>
    rw [sum_snoc (steps_at (by omega)), ih (by omega)]
    have h1 := List.getElem?_eq_getElem hk
    unfold stepAt
    rw [h1]
    simp
    omega
theorem from_steps {s : Int} {zs : List Int} (ho : Ok s zs) (h0 : 0 < zs.length) : FromC (stB s zs) (zs[0]?.getD 0) ∧ fromL (zs[0]?.getD 0) (stB s zs) (stB s zs).length = zs := by
  have hz0 := List.getElem?_eq_getElem h0
  have hb0 := ok_at ho hz0
  have hl := List.getElem?_eq_getElem (show zs.length - 1 < zs.length by omega)
  have hbl := ok_at ho hl
  refine ⟨⟨by rw [stB_len_ok ho]; exact h0, stB_bd s zs, by rw [stB_sum ho h0]; exact ho.1.2, by rw [hz0]; exact hb0.1, ?_⟩, ?_⟩
  · rw [stB_len_ok ho, stB_yes ho, steps_at (by omega)]
    have e : zs[zs.length - 1 + 1]? = none := List.getElem?_eq_none (by omega)
    unfold stepAt
    rw [e, hl, hz0]
    simp
    omega
  · rw [stB_len_ok ho, stB_yes ho]
    unfold fromL
    apply List.ext_getElem
    · simp
    · intro i h1 h2
      have hi := List.getElem?_eq_getElem h2
      simp only [List.getElem_map, List.getElem_range]
      rw [steps_sum i h2, hi]
      simp
      omega
/-- The sum of k steps around is that of all, for k all of them. -/
theorem span_all (l : List Int) : ∀ i, i < l.length → spanL l i l.length = l.sum := by
  have key : ∀ i k, i + k ≤ l.length → spanL l i k = (l.take (i + k)).sum - (l.take i).sum := by
    intro i k
    induction k with
    | zero => intro _; simp [spanL]
    | succ k ih =>
      intro h
      have e := List.getElem?_eq_getElem (show i + k < l.length by omega)
      rw [spanL_snoc (by rw [Nat.mod_eq_of_lt (by omega)]; exact e), ih (by omega), show i + (k + 1) = i + k + 1 by omega, sum_snoc e]
      omega
  have key2 : ∀ i k, i < l.length → k ≤ i → spanL l i (l.length - i + k) = l.sum - (l.take i).sum + (l.take k).sum := by
    intro i k hi
    induction k with
    | zero =>
      intro _
      rw [Nat.add_zero, key i _ (by omega), show i + (l.length - i) = l.length by omega, List.take_length]
      simp
    | succ k ih =>
      intro h
      have e := List.getElem?_eq_getElem (show k < l.length by omega)
      rw [← Nat.add_assoc, spanL_snoc (z := l[k]) (by rw [show i + (l.length - i + k) = l.length + k by omega, Nat.add_mod_left, Nat.mod_eq_of_lt (by omega)]; exact e), ih (by omega), sum_snoc e]
      omega
  intro i hi
  have := key2 i i hi (Nat.le_refl _)
  rw [show l.length - i + i = l.length by omega] at this
  rw [this]
  omega
theorem span_one {l : List Int} {i : Nat} {z : Int} (h : l[i]? = some z) : spanL l i 1 = z := by
  have hi : i < l.length := by
    rcases Nat.lt_or_ge i l.length with q | q
    · exact q
    · rw [List.getElem?_eq_none q] at h; cases h
  have := spanL_snoc (l := l) (i := i) (k := 0) (by rw [Nat.add_zero, Nat.mod_eq_of_lt hi]; exact h)
  simpa [spanL] using this
theorem spans_one {l : List Int} (h : ∀ x ∈ l, 1 ≤ x ∧ x ≤ 24) : ofZ 577 (spansL l 1 l.length) = ofZ 25 l := by
  have e : spansL l 1 l.length = l := by
    unfold spansL
    apply List.ext_getElem
    · simp
    · intro i h1 h2
      simp only [List.getElem_map, List.getElem_range]
      exact span_one (List.getElem?_eq_getElem h2)
  rw [e]
  refine lt_uniq (ofZ_sorted _ _) (ofZ_sorted _ _) fun x => ?_
  rw [ofZ_mem, ofZ_mem]
  exact ⟨fun q => ⟨by have := h x q.2; omega, q.2⟩, fun q => ⟨by have := h x q.2; omega, q.2⟩⟩
theorem spans_all {l : List Int} (h0 : 0 < l.length) (hs : 0 ≤ l.sum ∧ l.sum < 577) : ofZ 577 (spansL l l.length l.length) = [l.sum] := by
  refine lt_uniq (ofZ_sorted _ _) (by simp) fun x => ?_
  rw [ofZ_mem, List.mem_singleton]
  unfold spansL
  rw [List.mem_map]
  constructor
  · rintro ⟨_, i, hi, rfl⟩
    rw [List.mem_range] at hi
    exact span_all l i hi
  · rintro rfl
    exact ⟨by omega, 0, by rw [List.mem_range]; exact h0, span_all l 0 h0⟩

/-- The least and the greatest of a list stand first and last among its different numbers. -/
theorem sizes_first {l : List Int} (h : ∀ x ∈ l, 1 ≤ x ∧ x ≤ 24) (h0 : 0 < l.length) : 0 < (ofZ 25 l).length ∧ (ofZ 25 l)[0]? = some (minL l) ∧ (ofZ 25 l)[(ofZ 25 l).length - 1]? = some (maxL l) := by
  have hmin : minL l ∈ l ∧ ∀ x ∈ l, minL l ≤ x := by
    have key : ∀ k, 0 < k → k ≤ l.length → minP l k ∈ l ∧ ∀ x ∈ l.take k, minP l k ≤ x := by
      intro k
      induction k with
      | zero => intro q; omega
      | succ k ih =>
        intro _ hk
        have e := List.getElem?_eq_getElem (show k < l.length by omega)
        have hd : l.getD k 0 = l[k] := by rw [List.getD_eq_getElem?_getD, e]; rfl
        have hm := List.mem_of_getElem? e
        rw [List.take_add_one, e]
        simp only [minP, hd]
        by_cases hk0 : k = 0
        · subst hk0
          rw [if_pos (.inl rfl)]
          exact ⟨hm, fun x hx => by have : x = l[0] := (by simpa using hx); omega⟩
        · obtain ⟨i1, i2⟩ := ih (by omega) (by omega)
          by_cases q : l[k] < minP l k
          · rw [if_pos (.inr q)]
            refine ⟨hm, fun x hx => ?_⟩
            rcases List.mem_append.1 hx with hx | hx
            · have := i2 x hx; omega
            · have : x = l[k] := (by simpa using hx); omega
          · rw [if_neg (by rintro (q2 | q2); exact hk0 q2; exact q q2)]
            refine ⟨i1, fun x hx => ?_⟩
            rcases List.mem_append.1 hx with hx | hx
            · exact i2 x hx
            · have : x = l[k] := (by simpa using hx); omega
    have := key l.length h0 (Nat.le_refl _)
    rwa [List.take_length] at this
  have hmax : maxL l ∈ l ∧ ∀ x ∈ l, x ≤ maxL l := by
    have key : ∀ k, 0 < k → k ≤ l.length → maxL (l.take k) ∈ l ∧ ∀ x ∈ l.take k, x ≤ maxL (l.take k) := by
      intro k
      induction k with
      | zero => intro q; omega
      | succ k ih =>
        intro _ hk
        have e := List.getElem?_eq_getElem (show k < l.length by omega)
        have hm := List.mem_of_getElem? e
        have hx1 := (h _ hm).1
        rw [maxL_snoc e, List.take_add_one, e]
        by_cases hk0 : k = 0
        · subst hk0
          have e0 : maxL (l.take 0) = 0 := by simp [maxL]
          rw [e0, show max (0 : Int) l[0] = l[0] by omega]
          exact ⟨hm, fun x hx => by have : x = l[0] := (by simpa using hx); omega⟩
        · obtain ⟨i1, i2⟩ := ih (by omega) (by omega)
          by_cases q : maxL (l.take k) ≤ l[k]
          · rw [show max (maxL (l.take k)) l[k] = l[k] by omega]
            refine ⟨hm, fun x hx => ?_⟩
            rcases List.mem_append.1 hx with hx | hx
            · have := i2 x hx; omega
            · have : x = l[k] := (by simpa using hx); omega
          · rw [show max (maxL (l.take k)) l[k] = maxL (l.take k) by omega]
            refine ⟨i1, fun x hx => ?_⟩
            rcases List.mem_append.1 hx with hx | hx
            · exact i2 x hx
            · have : x = l[k] := (by simpa using hx); omega
    have := key l.length h0 (Nat.le_refl _)
    rwa [List.take_length] at this
  have hs := ofZ_sorted 25 l
  have m1 : minL l ∈ ofZ 25 l := ofZ_mem.2 ⟨by have := h _ hmin.1; omega, hmin.1⟩
  have m2 : maxL l ∈ ofZ 25 l := ofZ_mem.2 ⟨by have := h _ hmax.1; omega, hmax.1⟩
  have hpos : 0 < (ofZ 25 l).length := List.length_pos_of_mem m1
  refine ⟨hpos, ?_, ?_⟩
  · obtain ⟨i, hi, e⟩ := List.getElem_of_mem m1
    rw [List.getElem?_eq_getElem hpos]
    congr 1
    have hle := hmin.2 _ (ofZ_mem.1 (List.getElem_mem hpos)).2
    by_cases q : i = 0
    · subst q; exact e
    · have := List.pairwise_iff_getElem.1 hs 0 i hpos hi (by omega)
      omega
  · obtain ⟨i, hi, e⟩ := List.getElem_of_mem m2
    have hlast : (ofZ 25 l).length - 1 < (ofZ 25 l).length := by omega
    rw [List.getElem?_eq_getElem hlast]
    congr 1
    have hle := hmax.2 _ (ofZ_mem.1 (List.getElem_mem hlast)).2
    by_cases q : i = (ofZ 25 l).length - 1
    · subst q; exact e
    · have := List.pairwise_iff_getElem.1 hs i _ hi hlast (by omega)
      omega
/-- The rhythm with its steps in reverse order is a turn of the mirror, and has as many beats. -/
theorem turn_mir {s : Int} {zs : List Int} (ho : Ok s zs) (h0 : 0 < zs.length) : ofZ s.toNat (turnZ s zs) = rotZ s zs (-1) (2 * zs[0]?.getD 0) ∧ ∃ k : Int, rotZ s (ofZ s.toNat (turnZ s zs)) 1 k = rotZ s zs (-1) 0 := by
  have e : ofZ s.toNat (turnZ s zs) = rotZ s zs (-1) (2 * zs[0]?.getD 0) := turn_set ho h0
  refine ⟨e, -(2 * zs[0]?.getD 0), ?_⟩
  rw [e, rot_mir ho, show 2 * zs[0]?.getD 0 + -(2 * zs[0]?.getD 0) = 0 by omega]
/-- Turns and mirrors keep the number of beats. -/
theorem moved_len {s : Int} {zs : List Int} (ho : Ok s zs) {u k : Int} (hc : Nat.gcd u.natAbs s.natAbs = 1) : (rotZ s zs u k).length = zs.length := by
  unfold rotZ
  rw [← moved_eq ho hc, sortZ_len, mapL_len]
end Go.Proofs.Ytpbceckbmalabaa.Rhy
