/-
  Helpers of the claims beside this text: the program's TurnSteps.
-/
import Derived.Test.YtgmhdmhnedljcaaStp
import Derived.Test.YtgmhdmhnedljcaaRot
import Derived.Deep.RegionWith
import Derived.Test.YtgmhdmhnedljcaaFrm
import Derived.Test.YtgmhdmhnedljcaaGnm
import Derived.Test.YtgmhdmhnedljcaaIvl
namespace Go.Proofs.Ytgmhdmhnedljcaa.Rhy
open Go.RowKit
set_option linter.unusedSimpArgs false
set_option linter.unusedVariables false

theorem steps_at {s : Int} {zs : List Int} {k : Nat} (h : k < zs.length) : (stepsZ s zs)[k]? = some (stepAt s zs k) := by simp [stepsZ, stepsP, h]
theorem steps_len (s : Int) (zs : List Int) : (stepsZ s zs).length = zs.length := stepsP_len _ _ _
theorem rev_sum {s : Int} {zs : List Int} : ∀ j, j + 1 ≤ zs.length → ((stepsZ s zs).reverse.take (j + 1)).sum = zs[0]?.getD 0 + s - zs[zs.length - 1 - j]?.getD 0 := by
  intro j
  induction j with
  | zero =>
    intro h
    have e : (stepsZ s zs).reverse[0]? = some (stepAt s zs (zs.length - 1)) := by
      rw [List.getElem?_reverse (by rw [steps_len]; omega), steps_len]
      exact steps_at (by omega)
    rw [sum_snoc e]
    have : zs[zs.length - 1 + 1]? = none := List.getElem?_eq_none (by omega)
    simp [stepAt, this]
  | succ j ih =>
    intro h
    have e : (stepsZ s zs).reverse[j + 1]? = some (stepAt s zs (zs.length - 1 - (j + 1))) := by
      rw [List.getElem?_reverse (by rw [steps_len]; omega), steps_len]
      exact steps_at (by omega)
    rw [sum_snoc e, ih (by omega)]
    have e2 : zs.length - 1 - (j + 1) + 1 = zs.length - 1 - j := by omega
    have e3 := List.getElem?_eq_getElem (show zs.length - 1 - j < zs.length by omega)
    unfold stepAt
    rw [e2, e3]
    simp
    omega

theorem rem_s (a s : Int) : remB (a + s) s = remB a s := by unfold remB; simp
theorem turn_set {s : Int} {zs : List Int} (ho : Ok s zs) (h0 : 0 < zs.length) : ofZ s.toNat (turnZ s zs) = ofZ s.toNat (mapL s zs (-1) (2 * zs[0]?.getD 0)) := by
  refine ofZ_congr fun x => ?_
  have hm : ∀ j, j < zs.length → ∃ i, i < zs.length ∧ remB (zs[0]?.getD 0 + (((stepsZ s zs).reverse.take j).sum)) s = remB (-1 * (zs[i]?.getD 0) + 2 * zs[0]?.getD 0) s ∧ (j = 0 → i = 0) ∧ (0 < j → i = zs.length - j) := by
    intro j hj
    cases j with
    | zero => exact ⟨0, h0, by congr 1; simp; omega, fun _ => rfl, fun q => absurd q (by omega)⟩
    | succ j =>
      refine ⟨zs.length - 1 - j, by omega, ?_, fun q => by omega, fun _ => by omega⟩
      rw [rev_sum j (by omega)]
      rw [← rem_s (-1 * (zs[zs.length - 1 - j]?.getD 0) + 2 * zs[0]?.getD 0) s]
      congr 1
      omega
  unfold turnZ turnL mapL
  rw [stB_yes ho, steps_len, List.mem_map, List.mem_map]
  constructor
  · rintro ⟨j, hj, rfl⟩
    rw [List.mem_range] at hj
    obtain ⟨i, hi, he, _⟩ := hm j hj
    exact ⟨zs[i]?.getD 0, by rw [List.getElem?_eq_getElem hi]; exact List.getElem_mem hi, he.symm⟩
  · rintro ⟨y, hy, rfl⟩
    obtain ⟨i, hi, rfl⟩ := List.getElem_of_mem hy
    by_cases h : i = 0
    · subst h
      obtain ⟨i, hi, he, h1, _⟩ := hm 0 h0
      rw [h1 rfl, List.getElem?_eq_getElem h0] at he
      exact ⟨0, by rw [List.mem_range]; exact h0, by rw [List.getElem?_eq_getElem h0]; exact he⟩
    · obtain ⟨i', hi', he, _, h1⟩ := hm (zs.length - i) (by omega)
      have e : i' = i := by have := h1 (by omega); omega
      rw [e, List.getElem?_eq_getElem hi] at he
      exact ⟨zs.length - i, by rw [List.mem_range]; omega, he⟩


end Go.Proofs.Ytgmhdmhnedljcaa.Rhy

/-
  Helpers of the claims beside this text: the program's FromSteps.
-/
namespace Go.Proofs.Ytgmhdmhnedljcaa.Rhy
open Go.RowKit
set_option linter.unusedVariables false

/-- When steps fill a bar. -/
def SizC (zs : List Int) : Prop := 0 < zs.length ∧ (∀ x ∈ zs, 1 ≤ x ∧ x ≤ 24) ∧ zs.sum ≤ 24
/-- What the first k steps must be for the rest to be looked at. -/
def SizP (zs : List Int) (k : Nat) : Prop := (∀ x ∈ zs.take k, 1 ≤ x ∧ x ≤ 24) ∧ (zs.take k).sum ≤ 24
theorem sizP_ge {zs : List Int} {k : Nat} (h : SizP zs k) : 0 ≤ (zs.take k).sum := by
  have := sum_ge (m := zs.take k) (fun x hx => (h.1 x hx).1)
  omega
theorem sizP_next {zs : List Int} {k : Nat} {z : Int} (h : SizP zs k) (hs : zs[k]? = some z) (hz : 1 ≤ z) (hn : z ≤ 24 - (zs.take k).sum) : SizP zs (k + 1) := by
  have := sizP_ge h
  refine ⟨?_, by rw [sum_snoc hs]; omega⟩
  intro x hx
  rw [List.take_add_one, hs] at hx
  rcases List.mem_append.mp hx with q | q
  · exact h.1 x q
  · have : x = z := by simpa using q
    omega
theorem sizC_not {zs : List Int} {k : Nat} {z : Int} (h : SizP zs k) (hs : zs[k]? = some z) (hz : z < 1 ∨ 24 - (zs.take k).sum < z) : ¬ SizC zs := by
  rintro ⟨_, h1, h2⟩
  have hx := h1 z (List.mem_of_getElem? hs)
  have h3 := sum_mono (m := zs) (fun x hx => by have := h1 x hx; omega) (k + 1)
  rw [sum_snoc hs] at h3
  omega



end Go.Proofs.Ytgmhdmhnedljcaa.Rhy

/-
  Helpers of the claims beside this text: plain mathematics: steps once around, made into the rhythm again, turned by a mirror.
-/
namespace Go.Proofs.Ytgmhdmhnedljcaa.Rhy
set_option linter.unusedVariables false

theorem stB_len_ok {s : Int} {zs : List Int} (ho : Ok s zs) : (stB s zs).length = zs.length := by rw [stB_yes ho]; exact steps_len s zs
theorem stB_sum {s : Int} {zs : List Int} (ho : Ok s zs) (h0 : 0 < zs.length) : (stB s zs).sum = s := by
  rw [stB_yes ho]
  have h := rev_sum (s := s) (zs := zs) (zs.length - 1) (by omega)
  rw [show zs.length - 1 + 1 = zs.length by omega, List.take_of_length_le (by simp [steps_len]), List.sum_reverse, show zs.length - 1 - (zs.length - 1) = 0 by omega] at h
  omega
/-- The first k steps lead from the first beat to beat k. -/
theorem steps_sum {s : Int} {zs : List Int} (k : Nat) (hk : k < zs.length) : ((stepsZ s zs).take k).sum = zs[k]?.getD 0 - zs[0]?.getD 0 := by
  induction k with
  | zero => simp
  | succ k ih =>
    rw [sum_snoc (steps_at (by omega)), ih (by omega)]
    have h1 := List.getElem?_eq_getElem hk
    unfold stepAt
    rw [h1]
    simp
    omega
theorem from_steps {s : Int} {zs : List Int} (ho : Ok s zs) (h0 : 0 < zs.length) : FromC (stB s zs) (zs[0]?.getD 0) ∧ fromL (zs[0]?.getD 0) (stB s zs) (stB s zs).length = zs := by
  have hz0 := List.getElem?_eq_getElem h0
  have hb0 := ok_at ho hz0
  have hl := List.getElem?_eq_getElem (show zs.length - 1 < zs.length by omega)
  have hbl := ok_at ho hl
  refine ⟨⟨by rw [stB_len_ok ho]; exact h0, stB_bd s zs, by rw [stB_sum ho h0]; exact ho.1.2, by rw [hz0]; exact hb0.1, ?_⟩, ?_⟩
  · rw [stB_len_ok ho, stB_yes ho, steps_at (by omega)]
    have e : zs[zs.length - 1 + 1]? = none := List.getElem?_eq_none (by omega)
    unfold stepAt
    rw [e, hl, hz0]
    simp
    omega
  · rw [stB_len_ok ho, stB_yes ho]
    unfold fromL
    apply List.ext_getElem
    · simp
    · intro i h1 h2
      have hi := List.getElem?_eq_getElem h2
      simp only [List.getElem_map, List.getElem_range]
      rw [steps_sum i h2, hi]
      simp
      omega
/-- The sum of k steps around is that of all, for k all of them. -/
theorem span_all (l : List Int) : ∀ i, i < l.length → spanL l i l.length = l.sum := by
  have key : ∀ i k, i + k ≤ l.length → spanL l i k = (l.take (i + k)).sum - (l.take i).sum := by
    intro i k
    induction k with
    | zero => intro _; simp [spanL]
    | succ k ih =>
      intro h
      have e := List.getElem?_eq_getElem (show i + k < l.length by omega)
      rw [spanL_snoc (by rw [Nat.mod_eq_of_lt (by omega)]; exact e), ih (by omega), show i + (k + 1) = i + k + 1 by omega, sum_snoc e]
      omega
  have key2 : ∀ i k, i < l.length → k ≤ i → spanL l i (l.length - i + k) = l.sum - (l.take i).sum + (l.take k).sum := by
    intro i k hi
    induction k with
    | zero =>
      intro _
      rw [Nat.add_zero, key i _ (by omega), show i + (l.length - i) = l.length by omega, List.take_length]
      simp
    | succ k ih =>
      intro h
      have e := List.getElem?_eq_getElem (show k < l.length by omega)
      rw [← Nat.add_assoc, spanL_snoc (z := l[k]) (by rw [show i + (l.length - i + k) = l.length + k by omega, Nat.add_mod_left, Nat.mod_eq_of_lt (by omega)]; exact e), ih (by omega), sum_snoc e]
      omega
  intro i hi
  have := key2 i i hi (Nat.le_refl _)
  rw [show l.length - i + i = l.length by omega] at this
  rw [this]
  omega
theorem span_one {l : List Int} {i : Nat} {z : Int} (h : l[i]? = some z) : spanL l i 1 = z := by
  have hi : i < l.length := by
    rcases Nat.lt_or_ge i l.length with q | q
    · exact q
    · rw [List.getElem?_eq_none q] at h; cases h
  have := spanL_snoc (l := l) (i := i) (k := 0) (by rw [Nat.add_zero, Nat.mod_eq_of_lt hi]; exact h)
  simpa [spanL] using this
theorem spans_one {l : List Int} (h : ∀ x ∈ l, 1 ≤ x ∧ x ≤ 24) : ofZ 577 (spansL l 1 l.length) = ofZ 25 l := by
  have e : spansL l 1 l.length = l := by
    unfold spansL
    apply List.ext_getElem
    · simp
    · intro i h1 h2
      simp only [List.getElem_map, List.getElem_range]
      exact span_one (List.getElem?_eq_getElem h2)
  rw [e]
  refine lt_uniq (ofZ_sorted _ _) (ofZ_sorted _ _) fun x => ?_
  rw [ofZ_mem, ofZ_mem]
  exact ⟨fun q => ⟨by have := h x q.2; omega, q.2⟩, fun q => ⟨by have := h x q.2; omega, q.2⟩⟩
theorem spans_all {l : List Int} (h0 : 0 < l.length) (hs : 0 ≤ l.sum ∧ l.sum < 577) : ofZ 577 (spansL l l.length l.length) = [l.sum] := by
  refine lt_uniq (ofZ_sorted _ _) (by simp) fun x => ?_
  rw [ofZ_mem, List.mem_singleton]
  unfold spansL
  rw [List.mem_map]
  constructor
  · rintro ⟨_, i, hi, rfl⟩
    rw [List.mem_range] at hi
    exact span_all l i hi
  · rintro rfl
    exact ⟨by omega, 0, by rw [List.mem_range]; exact h0, span_all l 0 h0⟩

/-- The least and the greatest of a list stand first and last among its different numbers. -/
theorem sizes_first {l : List Int} (h : ∀ x ∈ l, 1 ≤ x ∧ x ≤ 24) (h0 : 0 < l.length) : 0 < (ofZ 25 l).length ∧ (ofZ 25 l)[0]? = some (minL l) ∧ (ofZ 25 l)[(ofZ 25 l).length - 1]? = some (maxL l) := by
  have hmin : minL l ∈ l ∧ ∀ x ∈ l, minL l ≤ x := by
    have key : ∀ k, 0 < k → k ≤ l.length → minP l k ∈ l ∧ ∀ x ∈ l.take k, minP l k ≤ x := by
      intro k
      induction k with
      | zero => intro q; omega
      | succ k ih =>
        intro _ hk
        have e := List.getElem?_eq_getElem (show k < l.length by omega)
        have hd : l.getD k 0 = l[k] := by rw [List.getD_eq_getElem?_getD, e]; rfl
        have hm := List.mem_of_getElem? e
        rw [List.take_add_one, e]
        simp only [minP, hd]
        by_cases hk0 : k = 0
        · subst hk0
          rw [if_pos (.inl rfl)]
          exact ⟨hm, fun x hx => by have : x = l[0] := (by simpa using hx); omega⟩
        · obtain ⟨i1, i2⟩ := ih (by omega) (by omega)
          by_cases q : l[k] < minP l k
          · rw [if_pos (.inr q)]
            refine ⟨hm, fun x hx => ?_⟩
            rcases List.mem_append.1 hx with hx | hx
            · have := i2 x hx; omega
            · have : x = l[k] := (by simpa using hx); omega
          · rw [if_neg (by rintro (q2 | q2); exact hk0 q2; exact q q2)]
            refine ⟨i1, fun x hx => ?_⟩
            rcases List.mem_append.1 hx with hx | hx
            · exact i2 x hx
            · have : x = l[k] := (by simpa using hx); omega
    have := key l.length h0 (Nat.le_refl _)
    rwa [List.take_length] at this
  have hmax : maxL l ∈ l ∧ ∀ x ∈ l, x ≤ maxL l := by
    have key : ∀ k, 0 < k → k ≤ l.length → maxL (l.take k) ∈ l ∧ ∀ x ∈ l.take k, x ≤ maxL (l.take k) := by
      intro k
      induction k with
      | zero => intro q; omega
      | succ k ih =>
        intro _ hk
        have e := List.getElem?_eq_getElem (show k < l.length by omega)
        have hm := List.mem_of_getElem? e
        have hx1 := (h _ hm).1
        rw [maxL_snoc e, List.take_add_one, e]
        by_cases hk0 : k = 0
        · subst hk0
          have e0 : maxL (l.take 0) = 0 := by simp [maxL]
          rw [e0, show max (0 : Int) l[0] = l[0] by omega]
          exact ⟨hm, fun x hx => by have : x = l[0] := (by simpa using hx); omega⟩
        · obtain ⟨i1, i2⟩ := ih (by omega) (by omega)
          by_cases q : maxL (l.take k) ≤ l[k]
          · rw [show max (maxL (l.take k)) l[k] = l[k] by omega]
            refine ⟨hm, fun x hx => ?_⟩
            rcases List.mem_append.1 hx with hx | hx
            · have := i2 x hx; omega
            · have : x = l[k] := (by simpa using hx); omega
          · rw [show max (maxL (l.take k)) l[k] = maxL (l.take k) by omega]
            refine ⟨i1, fun x hx => ?_⟩
            rcases List.mem_append.1 hx with hx | hx
            · exact i2 x hx
            · have : x = l[k] := (by simpa using hx); omega
    have := key l.length h0 (Nat.le_refl _)
    rwa [List.take_length] at this
  have hs := ofZ_sorted 25 l
  have m1 : minL l ∈ ofZ 25 l := ofZ_mem.2 ⟨by have := h _ hmin.1; omega, hmin.1⟩
  have m2 : maxL l ∈ ofZ 25 l := ofZ_mem.2 ⟨by have := h _ hmax.1; omega, hmax.1⟩
  have hpos : 0 < (ofZ 25 l).length := List.length_pos_of_mem m1
  refine ⟨hpos, ?_, ?_⟩
  · obtain ⟨i, hi, e⟩ := List.getElem_of_mem m1
    rw [List.getElem?_eq_getElem hpos]
    congr 1
    have hle := hmin.2 _ (ofZ_mem.1 (List.getElem_mem hpos)).2
    by_cases q : i = 0
    · subst q; exact e
    · have := List.pairwise_iff_getElem.1 hs 0 i hpos hi (by omega)
      omega
  · obtain ⟨i, hi, e⟩ := List.getElem_of_mem m2
    have hlast : (ofZ 25 l).length - 1 < (ofZ 25 l).length := by omega
    rw [List.getElem?_eq_getElem hlast]
    congr 1
    have hle := hmax.2 _ (ofZ_mem.1 (List.getElem_mem hlast)).2
    by_cases q : i = (ofZ 25 l).length - 1
    · subst q; exact e
    · have := List.pairwise_iff_getElem.1 hs i _ hi hlast (by omega)
      omega
/-- The rhythm with its steps in reverse order is a turn of the mirror, and has as many beats. -/
theorem turn_mir {s : Int} {zs : List Int} (ho : Ok s zs) (h0 : 0 < zs.length) : ofZ s.toNat (turnZ s zs) = rotZ s zs (-1) (2 * zs[0]?.getD 0) ∧ ∃ k : Int, rotZ s (ofZ s.toNat (turnZ s zs)) 1 k = rotZ s zs (-1) 0 := by
  have e : ofZ s.toNat (turnZ s zs) = rotZ s zs (-1) (2 * zs[0]?.getD 0) := turn_set ho h0
  refine ⟨e, -(2 * zs[0]?.getD 0), ?_⟩
  rw [e, rot_mir ho, show 2 * zs[0]?.getD 0 + -(2 * zs[0]?.getD 0) = 0 by omega]
/-- Turns and mirrors keep the number of beats. -/
theorem moved_len {s : Int} {zs : List Int} (ho : Ok s zs) {u k : Int} (hc : Nat.gcd u.natAbs s.natAbs = 1) : (rotZ s zs u k).length = zs.length := by
  unfold rotZ
  rw [← moved_eq ho hc, sortZ_len, mapL_len]
end Go.Proofs.Ytgmhdmhnedljcaa.Rhy

/-
  Helpers of the claims beside this text: plain mathematics of generated rhythms: how many beats they may have, their generators, their chains, what is behind them, their other pulses, their steps.
-/
namespace Go.Proofs.Ytgmhdmhnedljcaa.Rhy
set_option linter.unusedVariables false

theorem eq_mod {n a b : Int} : a % n = b % n ↔ n ∣ a - b := by
  rw [Int.emod_eq_emod_iff_emod_sub_eq_zero]
  exact ⟨Int.dvd_of_emod_eq_zero, Int.emod_eq_zero_of_dvd⟩
/-- A number of turns by g is none at all. -/
theorem turn_dvd {n g d : Nat} (hn : 1 ≤ n) : (n : Int) ∣ (d : Int) * g ↔ n / Nat.gcd g n ∣ d := by
  have hp : 0 < Nat.gcd g n := Nat.gcd_pos_of_pos_right _ (by omega)
  have hc := Nat.coprime_div_gcd_div_gcd hp
  obtain ⟨a, ha⟩ := Nat.gcd_dvd_left g n
  obtain ⟨b, hb⟩ := Nat.gcd_dvd_right g n
  obtain ⟨c, hcc⟩ : ∃ c, Nat.gcd g n = c := ⟨_, rfl⟩
  rw [hcc] at ha hb hc hp ⊢
  have e1 : n / c = b := by rw [hb]; exact Nat.mul_div_cancel_left _ hp
  have e2 : g / c = a := by rw [ha]; exact Nat.mul_div_cancel_left _ hp
  rw [e1, e2] at hc
  rw [e1, ← Int.natCast_mul, Int.natCast_dvd_natCast]
  constructor
  · intro h
    have h2 : c * b ∣ c * (d * a) := by
      have : d * g = c * (d * a) := by rw [ha, Nat.mul_left_comm]
      rw [← hb, ← this]; exact h
    have h3 : b ∣ d * a := Nat.dvd_of_mul_dvd_mul_left hp h2
    exact Nat.Coprime.dvd_of_dvd_mul_right hc.symm h3
  · rintro ⟨x, rfl⟩
    refine ⟨x * a, ?_⟩
    rw [ha]
    conv => rhs; rw [hb]
    rw [Nat.mul_assoc b x, Nat.mul_left_comm x c a, ← Nat.mul_assoc, Nat.mul_comm b c]
theorem genT_eq {n g : Int} {i j : Nat} : genT n g i = genT n g j ↔ n ∣ ((i : Int) - j) * g := by
  unfold genT
  rw [eq_mod, Int.sub_mul]
theorem div_le {n k d : Nat} (hd : 0 < d) (h : d ∣ n) : k * d ≤ n ↔ k ≤ n / d := (Nat.le_div_iff_mul_le hd).symm
theorem genC_iff {n k g : Nat} (hn : 1 ≤ n ∧ n ≤ 24) (hk : k ≤ n) (hg : 1 ≤ g ∧ g ≤ n) : GenC n k g ↔ k * Nat.gcd g n ≤ n := by
  have hp : 0 < Nat.gcd g n := Nat.gcd_pos_of_pos_right _ (by omega)
  rw [div_le hp (Nat.gcd_dvd_right g n)]
  obtain ⟨m, hm⟩ : ∃ m, n / Nat.gcd g n = m := ⟨_, rfl⟩
  have ht := fun d => turn_dvd (n := n) (g := g) (d := d) hn.1
  rw [hm] at ht ⊢
  unfold GenC
  rw [genP_nodup, Int.toNat_natCast]
  constructor
  · rintro ⟨_, _, h⟩
    rcases Nat.lt_or_ge m k with q | q
    · exfalso
      have hm0 : 0 < m := by
        rw [← hm]
        exact Nat.div_pos (Nat.le_of_dvd (by omega) (Nat.gcd_dvd_right g n)) hp
      refine h 0 m hm0 q ?_
      rw [genT_eq]
      have := (ht m).2 ⟨1, by simp⟩
      have e : (((0 : Nat) : Int) - (m : Int)) * (g : Int) = -((m : Int) * g) := by rw [← Int.neg_mul]; simp
      rw [e]
      exact Int.dvd_neg.2 this
    · exact q
  · intro h
    refine ⟨⟨by omega, by omega, by omega, by omega⟩, ⟨by omega, by omega⟩, fun i j hij hj e => ?_⟩
    rw [genT_eq] at e
    have e2 : (n : Int) ∣ ((j - i : Nat) : Int) * g := by
      have : ((i : Int) - j) * (g : Int) = -(((j - i : Nat) : Int) * g) := by rw [← Int.neg_mul]; congr 1; omega
      rw [this] at e
      exact Int.dvd_neg.1 e
    obtain ⟨x, hx⟩ := (ht _).1 e2
    have hx0 : x ≠ 0 := by rintro rfl; omega
    have := Nat.le_mul_of_pos_right m (Nat.pos_of_ne_zero hx0)
    omega
theorem genZ_len {n k g : Int} (h : GenC n k g) : ((genZ n k g).length : Int) = k := by
  have h1 := h.1
  unfold genZ
  rw [← sort_ofZ h.2.2 (fun x hx => by
    obtain ⟨i, _, rfl⟩ := genP_mem.1 hx
    have := genT_bd h1.1 g i
    have := h1.1
    omega), List.length_mergeSort, genP_len]
  have := h1.2.2.1
  omega
/-- A generated rhythm, turned. -/
def rrZ (n k : Nat) (g t : Int) : List Int := rotZ n (genZ n k g) 1 t
theorem rr_ok {n k : Nat} {g t : Int} (hn : 1 ≤ n ∧ n ≤ 24) : Ok n (rrZ n k g t) := rot_ok (by omega) _ _
theorem rr_mem {n k : Nat} {g t x : Int} (hn : 1 ≤ n ∧ n ≤ 24) : x ∈ rrZ n k g t ↔ ∃ i : Nat, i < k ∧ (t + i * g) % n = x := by
  have hn1 : (1 : Int) ≤ (n : Int) ∧ (n : Int) ≤ 24 := by omega
  unfold rrZ
  rw [rot_mem (genZ_ok hn1), genZ_mem hn1.1]
  constructor
  · rintro ⟨hx, i, hi, e⟩
    refine ⟨i, by omega, ?_⟩
    unfold genT at e
    rw [← add_em t, e, add_em, show t + (x - t) = x by omega]
    exact Int.emod_eq_of_lt hx.1 hx.2
  · rintro ⟨i, hi, rfl⟩
    have := em_bd (t + i * g) hn1.1
    refine ⟨this, i, by omega, ?_⟩
    unfold genT
    rw [em_sub, show t + (i : Int) * g - t = (i : Int) * g by omega]
theorem rr_len {n k : Nat} {g t : Int} (h : GenC n k g) : (rrZ n k g t).length = k := by
  have h1 := h.1
  unfold rrZ
  rw [moved_len (genZ_ok ⟨h1.1, h1.2.1⟩) (by simp)]
  have := genZ_len h
  omega
theorem ok_ext' {n : Nat} {xs ys : List Int} (hx : Ok n xs) (hy : Ok n ys) (h : ∀ x, x ∈ xs ↔ x ∈ ys) : xs = ys := ok_ext hx hy fun x _ => h x

/-! ### generators -/
theorem gnQ_rr {n k : Nat} {g t : Int} (hc : GenC n k g) : gnQ n (rrZ n k g t) g := by
  have h1 := hc.1
  have hn : 1 ≤ n ∧ n ≤ 24 := by have := h1.1; have := h1.2.1; omega
  unfold gnQ
  rw [rr_len hc]
  refine ⟨hc, ?_⟩
  rw [rotToB_yes (genZ_ok (by omega)) (rr_ok hn)]
  unfold rotToW
  rw [if_pos rfl, rotTo_iff (genZ_ok (by omega))]
  exact ⟨t, rfl⟩
theorem gn_has {n k : Nat} {g t : Int} (hc : GenC n k g) (hg : g < n) : hasB (gnB n (rrZ n k g t)) g = true := by
  have h1 := hc.1
  have hn : 1 ≤ n ∧ n ≤ 24 := by have := h1.1; have := h1.2.1; omega
  unfold hasB
  rw [List.contains_iff_mem, gnB_yes (rr_ok hn), gnP_mem, Int.toNat_natCast]
  exact ⟨⟨hc.2.1.1, hg⟩, gnQ_rr hc⟩
theorem gn_any {s g : Int} {zs : List Int} (h : hasB (gnB s zs) g = true) : isgB s zs = true := by
  unfold hasB at h
  have := List.length_pos_of_mem (List.contains_iff_mem.1 h)
  unfold isgB
  exact decide_eq_true this
theorem rr_opp {n k g : Nat} {t : Int} (hn : 1 ≤ n ∧ n ≤ 24) (hg : g ≤ n) : rrZ n k ((n - g : Nat) : Int) (t + ((k : Int) - 1) * g) = rrZ n k g t := by
  refine ok_ext' (rr_ok hn) (rr_ok hn) fun x => ?_
  rw [rr_mem hn, rr_mem hn]
  have key : ∀ i : Nat, i < k → (t + ((k : Int) - 1) * g + i * ((n - g : Nat) : Int)) % n = (t + ((k - 1 - i : Nat) : Int) * g) % n := by
    intro i hi
    rw [eq_mod]
    refine ⟨i, ?_⟩
    have e1 : ((n - g : Nat) : Int) = n - g := by omega
    have e2 : ((k - 1 - i : Nat) : Int) = (k : Int) - 1 - i := by omega
    rw [e1, e2, Int.mul_sub, Int.sub_mul ((k : Int) - 1) i, Int.mul_comm (n : Int) i]
    omega
  constructor
  · rintro ⟨i, hi, e⟩
    exact ⟨k - 1 - i, by omega, by rw [← key i hi]; exact e⟩
  · rintro ⟨i, hi, e⟩
    refine ⟨k - 1 - i, by omega, ?_⟩
    rw [key _ (by omega), show k - 1 - (k - 1 - i) = i by omega]
    exact e

/-! ### chains -/
theorem chG_spec (n : Int) (zs : List Int) (g : Int) : ∀ f i, (∃ j, i ≤ j ∧ j < i + f ∧ beatB n zs (zs[j]?.getD 0 - g) = false ∧ chG n zs g f i = zs[j]?.getD 0) ∨
    (chG n zs g f i = zs[0]?.getD 0 ∧ ∀ j, i ≤ j → j < i + f → beatB n zs (zs[j]?.getD 0 - g) = true)
  | 0, i => .inr ⟨rfl, fun j h1 h2 => absurd h2 (by omega)⟩
  | f + 1, i => by
    simp only [chG]
    cases hb : beatB n zs (zs[i]?.getD 0 - g)
    · rw [if_pos rfl]
      exact .inl ⟨i, Nat.le_refl _, by omega, hb, rfl⟩
    · rw [if_neg (by simp)]
      rcases chG_spec n zs g f (i + 1) with ⟨j, h1, h2, h3, h4⟩ | ⟨h1, h2⟩
      · exact .inl ⟨j, by omega, by omega, h3, h4⟩
      · refine .inr ⟨h1, fun j h3 h4 => ?_⟩
        by_cases e : j = i
        · subst e; exact hb
        · exact h2 j (by omega) (by omega)
theorem beat_at {n : Nat} {zs : List Int} (ho : Ok n zs) {x : Int} : beatB n zs x = true ↔ x % n ∈ zs := by
  rw [beatB_yes ho]
  unfold hasB remB
  exact List.contains_iff_mem
theorem getD_mem {zs : List Int} {i : Nat} (h : i < zs.length) : zs[i]?.getD 0 ∈ zs := by
  rw [List.getElem?_eq_getElem h]; exact List.getElem_mem h
theorem mem_getD {zs : List Int} {x : Int} (h : x ∈ zs) : ∃ i, i < zs.length ∧ zs[i]?.getD 0 = x := by
  obtain ⟨i, hi, e⟩ := List.getElem_of_mem h
  exact ⟨i, hi, by rw [List.getElem?_eq_getElem hi]; exact e⟩
/-- The chain begins where it was begun, or goes all around. -/
theorem chain_from {n k : Nat} {g t : Int} (hc : GenC n k g) (hk : 1 ≤ k) : chF n (rrZ n k g t) g = t % n ∨ ((n : Int) ∣ (k : Int) * g ∧ ∃ j : Nat, j < k ∧ chF n (rrZ n k g t) g = (t + j * g) % n) := by
  have h1 := hc.1
  have hn : 1 ≤ n ∧ n ≤ 24 := by have := h1.1; have := h1.2.1; omega
  have ho := rr_ok (n := n) (k := k) (g := g) (t := t) hn
  have hl := rr_len (t := t) hc
  obtain ⟨zs, hz⟩ : ∃ zs, rrZ n k g t = zs := ⟨_, rfl⟩
  have hm : ∀ x, x ∈ zs ↔ ∃ i : Nat, i < k ∧ (t + i * g) % n = x := fun x => by rw [← hz]; exact rr_mem hn
  rw [hz] at ho hl ⊢
  rcases chG_spec n zs g zs.length 0 with ⟨j, _, hj, hb, e⟩ | ⟨e, hall⟩
  · left
    have e' : chF n zs g = zs[j]?.getD 0 := e
    obtain ⟨i, hi, ei⟩ := (hm _).1 (getD_mem (show j < zs.length by omega))
    rw [e', ← ei]
    by_cases h0 : i = 0
    · subst h0; simp
    · exfalso
      have hp : beatB n zs (zs[j]?.getD 0 - g) = true := by
        rw [beat_at ho, hm]
        refine ⟨i - 1, by omega, ?_⟩
        rw [← ei, em_sub]
        congr 1
        have : ((i - 1 : Nat) : Int) = (i : Int) - 1 := by omega
        rw [this, Int.sub_mul]
        omega
      rw [hb] at hp; cases hp
  · right
    have e' : chF n zs g = zs[0]?.getD 0 := e
    obtain ⟨i0, hi0, e0⟩ := mem_getD ((hm (t % n)).2 ⟨0, by omega, by simp⟩)
    have hb := hall i0 (by omega) (by omega)
    rw [e0, beat_at ho, em_sub, hm] at hb
    obtain ⟨i, hi, ei⟩ := hb
    rw [eq_mod, show t + (i : Int) * g - (t - g) = ((i : Int) + 1) * g by rw [Int.add_mul]; omega] at ei
    have hik : i + 1 = k := by
      rcases Nat.lt_or_ge (i + 1) k with q | q
      · exfalso
        have hnd := hc.2.2
        rw [genP_nodup, Int.toNat_natCast] at hnd
        refine hnd 0 (i + 1) (by omega) q ?_
        rw [genT_eq]
        have e5 : (((0 : Nat) : Int) - ((i + 1 : Nat) : Int)) * g = -(((i : Int) + 1) * g) := by rw [← Int.neg_mul]; congr 1 <;> omega
        rw [e5]
        exact Int.dvd_neg.2 ei
      · omega
    refine ⟨?_, ?_⟩
    · rw [← hik]; simpa using ei
    · obtain ⟨j, hj, ej⟩ := (hm _).1 (getD_mem (show 0 < zs.length by omega))
      exact ⟨j, hj, by rw [e', ej]⟩
theorem chain_in {n k : Nat} {g t : Int} (hc : GenC n k g) {i : Nat} (hi : i < k) : (chF n (rrZ n k g t) g + i * g) % n ∈ rrZ n k g t := by
  have h1 := hc.1
  have hn : 1 ≤ n ∧ n ≤ 24 := by have := h1.1; have := h1.2.1; omega
  rw [rr_mem hn]
  rcases chain_from (t := t) hc (by omega) with e | ⟨hd, j, hj, e⟩
  · exact ⟨i, hi, by rw [e, em_add]⟩
  · rw [e, em_add]
    by_cases hji : j + i < k
    · refine ⟨j + i, hji, ?_⟩
      congr 1
      rw [Int.natCast_add, Int.add_mul]
      omega
    · refine ⟨j + i - k, by omega, ?_⟩
      rw [eq_mod]
      have e2 : t + ((j + i - k : Nat) : Int) * g - (t + j * g + i * g) = -((k : Int) * g) := by
        have : ((j + i - k : Nat) : Int) = (j : Int) + i - k := by omega
        rw [this, Int.sub_mul, Int.add_mul]
        omega
      rw [e2]
      exact Int.dvd_neg.2 hd
/-- Is there room behind the chain? -/
theorem room_iff {n k g : Nat} (hn : 1 ≤ n ∧ n ≤ 24) (hg : 1 ≤ g) (hk : 1 ≤ k) (hc : k * Nat.gcd g n ≤ n) : ¬ (n : Int) ∣ (k : Int) * g ↔ (k + 1) * Nat.gcd g n ≤ n := by
  have hp : 0 < Nat.gcd g n := Nat.gcd_pos_of_pos_right _ (by omega)
  rw [turn_dvd hn.1]
  rw [div_le hp (Nat.gcd_dvd_right g n)] at hc ⊢
  obtain ⟨m, hm⟩ : ∃ m, n / Nat.gcd g n = m := ⟨_, rfl⟩
  rw [hm] at hc ⊢
  constructor
  · intro h
    rcases Nat.lt_or_ge k m with q | q
    · exact q
    · exact absurd ⟨1, by omega⟩ h
  · rintro h ⟨x, hx⟩
    rcases Nat.eq_zero_or_pos x with q | q
    · subst q; omega
    · have := Nat.le_mul_of_pos_right m q
      omega
end Go.Proofs.Ytgmhdmhnedljcaa.Rhy

/-
  Helpers of the claims beside this text: plain mathematics of chains: how long a chain is, and when it holds all beats.
-/
namespace Go.Proofs.Ytgmhdmhnedljcaa.Rhy
set_option linter.unusedVariables false

/-- Place j of the chain from s on. -/
def chX (n s g : Int) (j : Nat) : Int := (s + (j : Int) * g) % n
theorem chX_next (n s g : Int) (j : Nat) : (chX n s g j + g) % n = chX n s g (j + 1) := by
  unfold chX
  rw [em_add, show ((j + 1 : Nat) : Int) = (j : Int) + 1 by omega, Int.add_mul, Int.one_mul, Int.add_assoc]
theorem chX_zero {n s : Int} (g : Int) (h : 0 ≤ s ∧ s < n) : chX n s g 0 = s := by
  unfold chX
  rw [show ((0 : Nat) : Int) * g = 0 from Int.zero_mul _, Int.add_zero, em_self h]
theorem chP_next (n s g : Int) (j : Nat) : chP n s g (j + 1) = chP n s g j ++ [chX n s g j] := chP_snoc n s g j
theorem chX_eq {n s g : Int} {i j : Nat} : chX n s g i = chX n s g j ↔ n ∣ ((i : Int) - j) * g := by
  unfold chX
  rw [eq_mod, show s + (i : Int) * g - (s + (j : Int) * g) = ((i : Int) - j) * g by rw [Int.sub_mul]; omega]
/-- The chain from s on has m beats: then there is no beat, or it is closed. -/
def ChM (n : Int) (zs : List Int) (s g : Int) (m : Nat) : Prop :=
  (1 ≤ m ∧ (m : Int) ≤ n) ∧ (∀ j, j < m → chX n s g j ∈ zs) ∧ (∀ j, 1 ≤ j → j < m → chX n s g j ≠ s) ∧ (chX n s g m ∉ zs ∨ chX n s g m = s)
theorem least_ex (P : Nat → Prop) : ∀ n, P n → ∃ m, m ≤ n ∧ P m ∧ ∀ j, j < m → ¬ P j := by
  intro n
  induction n using Nat.strongRecOn with
  | _ n ih =>
    intro h
    by_cases hx : ∃ k, k < n ∧ P k
    · obtain ⟨k, hk, hp⟩ := hx
      obtain ⟨m, h1, h2, h3⟩ := ih k hk hp
      exact ⟨m, by omega, h2, h3⟩
    · exact ⟨n, Nat.le_refl _, h, fun j hj hp => hx ⟨j, hj, hp⟩⟩
theorem chM_ex {n : Int} {zs : List Int} {s : Int} (ho : Ok n zs) (hs : s ∈ zs) (g : Int) : ∃ m, ChM n zs s g m := by
  have hb := ok_range ho s hs
  have h1 := ho.1
  obtain ⟨m, hm1, hm2, hm3⟩ := least_ex (fun j => 1 ≤ j ∧ (chX n s g j ∉ zs ∨ chX n s g j = s)) n.toNat ⟨by omega, .inr (by
    unfold chX
    rw [show ((n.toNat : Nat) : Int) = n by omega, Int.add_mul_emod_self_left, em_self hb])⟩
  refine ⟨m, ⟨hm2.1, by omega⟩, fun j hj => ?_, fun j h1 h2 e => hm3 j h2 ⟨h1, .inr e⟩, hm2.2⟩
  by_cases h0 : j = 0
  · subst h0; rw [chX_zero g hb]; exact hs
  · exact Decidable.byContradiction fun q => hm3 j hj ⟨by omega, .inl q⟩
theorem chM_inj {n : Int} {zs : List Int} {s g : Int} {m : Nat} (hb : 0 ≤ s ∧ s < n) (h : ChM n zs s g m) {i j : Nat} (hij : i < j) (hj : j < m) : chX n s g i ≠ chX n s g j := by
  intro e
  have e2 := e.symm
  rw [chX_eq] at e2
  refine h.2.2.1 (j - i) (by omega) (by omega) ?_
  have : chX n s g (j - i) = chX n s g 0 := by
    rw [chX_eq]
    have : (((j - i : Nat) : Int) - ((0 : Nat) : Int)) = (j : Int) - i := by omega
    rw [this]; exact e2
  rw [this, chX_zero g hb]
theorem chP_nodup {n : Int} {zs : List Int} {s g : Int} {m : Nat} (hb : 0 ≤ s ∧ s < n) (h : ChM n zs s g m) : (chP n s g m).Nodup := by
  show ((List.range m).map (chX n s g)).Nodup
  rw [List.Nodup, List.pairwise_map]
  refine List.Pairwise.imp_of_mem ?_ (List.pairwise_lt_range (n := m))
  intro a b ha hb2 hlt
  exact chM_inj hb h hlt (List.mem_range.1 hb2)
theorem chP_in {n : Int} {zs : List Int} {s g : Int} {m : Nat} (h : ChM n zs s g m) : ∀ x ∈ chP n s g m, x ∈ zs := by
  intro x hx
  have : x ∈ (List.range m).map (chX n s g) := hx
  rw [List.mem_map] at this
  obtain ⟨i, hi, rfl⟩ := this
  exact h.2.1 i (List.mem_range.1 hi)
/-- As many numbers as there are, each once: all of them. -/
theorem sub_all : ∀ (A B : List Int), A.Nodup → (∀ x ∈ A, x ∈ B) → A.length ≤ B.length ∧ (B.length ≤ A.length → ∀ x ∈ B, x ∈ A)
  | [], B, _, _ => ⟨by simp, fun h x hx => by
      have : B = [] := List.eq_nil_of_length_eq_zero (by simp at h; simp [h])
      rw [this] at hx; cases hx⟩
  | a :: A, B, hn, hs => by
    have ha : a ∈ B := hs a (by simp)
    have hn2 := List.nodup_cons.1 hn
    have ih := sub_all A (B.erase a) hn2.2 (fun x hx => (List.mem_erase_of_ne (fun e => hn2.1 (by rw [← e]; exact hx))).2 (hs x (by simp [hx])))
    have hl := List.length_erase_of_mem ha
    have hp := List.length_pos_of_mem ha
    refine ⟨by simp; omega, fun hle x hx => ?_⟩
    by_cases e : x = a
    · subst e; simp
    · have := ih.2 (by simp at hle; omega) x ((List.mem_erase_of_ne e).2 hx)
      simp [this]
theorem chM_le {n : Int} {zs : List Int} {s g : Int} {m : Nat} (hb : 0 ≤ s ∧ s < n) (h : ChM n zs s g m) : m ≤ zs.length := by
  have := (sub_all _ _ (chP_nodup hb h) (chP_in h)).1
  rwa [chP_len] at this
theorem gnQ_all {n g : Nat} {zs : List Int} {m : Nat} (ho : Ok n zs) (hg : 1 ≤ g ∧ g < n) (h0 : 0 < zs.length) (h : ChM n zs (chF n zs g) g m) (he : m = zs.length) : gnQ n zs g := by
  have hn := ho.1
  have hb := chF_bd ho h0 g
  obtain ⟨s, hs⟩ : ∃ s, chF n zs g = s := ⟨_, rfl⟩
  rw [hs] at h hb
  have hm := h.1
  have hin := (sub_all _ _ (chP_nodup hb h) (chP_in h)).2 (by rw [chP_len]; omega)
  have hc : GenC n (m : Nat) g := by
    refine ⟨⟨by omega, by omega, by omega, by omega⟩, ⟨by omega, by omega⟩, ?_⟩
    rw [genP_nodup, Int.toNat_natCast]
    intro i j hij hj e
    rw [genT_eq] at e
    exact chM_inj hb h hij hj (chX_eq.2 e)
  have hz : zs = rrZ n m g s := by
    refine ok_ext' ho (rr_ok (by omega)) fun x => ?_
    rw [rr_mem (by omega)]
    constructor
    · intro hx
      have : x ∈ (List.range m).map (chX n s g) := hin x hx
      rw [List.mem_map] at this
      obtain ⟨i, hi, e⟩ := this
      exact ⟨i, List.mem_range.1 hi, e⟩
    · rintro ⟨i, hi, rfl⟩
      exact h.2.1 i hi
  rw [hz]
  exact gnQ_rr hc
theorem gnQ_none {n g : Nat} (hn : 1 ≤ n ∧ n ≤ 24) (hg : 1 ≤ g ∧ g < n) : gnQ n [] g := by
  have hc : GenC n (0 : Nat) g := ⟨⟨by omega, by omega, by omega, by omega⟩, ⟨by omega, by omega⟩, by simp [genP]⟩
  have := gnQ_rr (t := 0) hc
  have e : rrZ n 0 g 0 = [] := List.eq_nil_of_length_eq_zero (rr_len hc)
  rwa [e] at this
theorem gnQ_len {n g : Nat} {zs : List Int} {m : Nat} (ho : Ok n zs) (hg : 1 ≤ g ∧ g < n) (h0 : 0 < zs.length) (h : ChM n zs (chF n zs g) g m) (hq : gnQ n zs g) : m = zs.length := by
  have hn := ho.1
  have hb := chF_bd ho h0 g
  obtain ⟨hc, hr⟩ := hq
  have hok : Ok (n : Int) (genZ n (zs.length : Nat) g) := genZ_ok (by omega)
  rw [rotToB_yes hok ho] at hr
  unfold rotToW at hr
  rw [if_pos rfl, rotTo_iff hok] at hr
  obtain ⟨t, ht⟩ := hr
  have hz : rrZ n zs.length g t = zs := ht
  have hle := chM_le hb h
  rcases Nat.lt_or_ge m zs.length with q | q
  · exfalso
    have hin := chain_in (t := t) hc (i := m) q
    rw [hz] at hin
    have e : chX n (chF n zs g) g m = chF n zs g := by
      rcases h.2.2.2 with w | w
      · exact absurd hin w
      · exact w
    have e2 : chX n (chF n zs g) g m = chX n (chF n zs g) g 0 := by rw [e, chX_zero _ hb]
    rw [chX_eq] at e2
    have hnd := hc.2.2
    rw [genP_nodup, Int.toNat_natCast] at hnd
    refine hnd 0 m (by have := h.1.1; omega) q (Eq.symm ?_)
    rw [genT_eq]
    exact e2
  · omega
/-- The first beat that is not g after one, looked for from the front. -/
theorem chG_skip {n : Int} {zs : List Int} {g : Int} {j : Nat} (hj : j < zs.length) (hb : beatB n zs (zs[j]?.getD 0 - g) = true) : chG n zs g (zs.length - j) j = chG n zs g (zs.length - (j + 1)) (j + 1) := by
  obtain ⟨f, hf⟩ : ∃ f, zs.length - j = f + 1 := ⟨zs.length - j - 1, by omega⟩
  rw [hf, show zs.length - (j + 1) = f by omega]
  simp only [chG]
  rw [if_neg (by rw [hb]; simp)]
theorem chG_here {n : Int} {zs : List Int} {g : Int} {j : Nat} (hj : j < zs.length) (hb : beatB n zs (zs[j]?.getD 0 - g) = false) : chG n zs g (zs.length - j) j = zs[j]?.getD 0 := by
  obtain ⟨f, hf⟩ : ∃ f, zs.length - j = f + 1 := ⟨zs.length - j - 1, by omega⟩
  rw [hf]
  simp only [chG]
  rw [if_pos hb]
theorem chF_in {n : Int} {zs : List Int} (g : Int) (h0 : 0 < zs.length) : chF n zs g ∈ zs := by
  rcases chG_spec n zs g zs.length 0 with ⟨j, _, hj, hb, e⟩ | ⟨e, _⟩
  · have e' : chF n zs g = zs[j]?.getD 0 := e
    rw [e']; exact getD_mem (by omega)
  · have e' : chF n zs g = zs[0]?.getD 0 := e
    rw [e']; exact getD_mem h0
/-- Is g among the generators? -/
theorem gn_iff {n g : Nat} {zs : List Int} (ho : Ok n zs) (hg : 1 ≤ g ∧ g < n) : hasB (gnB n zs) g = true ↔ gnQ n zs g := by
  unfold hasB
  rw [List.contains_iff_mem, gnB_yes ho, gnP_mem, Int.toNat_natCast]
  exact ⟨fun h => h.2, fun h => ⟨by omega, h⟩⟩
end Go.Proofs.Ytgmhdmhnedljcaa.Rhy
