/-
  Helpers of the claims beside this text: the program's TurnSteps.
-/
import Derived.Test.YtmlhpllppgcgkaaDoorStp
import Derived.Test.YtmlhpllppgcgkaaDoorRot
import Derived.Deep.RegionWith
namespace Go.Proofs.YtmlhpllppgcgkaaDoor.Rhy
open Go.RowKit
set_option linter.unusedVariables false

theorem steps_at {s : Int} {zs : List Int} {k : Nat} (h : k < zs.length) : (stepsZ s zs)[k]? = some (stepAt s zs k) := by simp [stepsZ, stepsP, h]
theorem steps_len (s : Int) (zs : List Int) : (stepsZ s zs).length = zs.length := stepsP_len _ _ _
theorem rev_sum {s : Int} {zs : List Int} : ∀ j, j + 1 ≤ zs.length → ((stepsZ s zs).reverse.take (j + 1)).sum = zs[0]?.getD 0 + s - zs[zs.length - 1 - j]?.getD 0 := by
  intro j
  induction j with
  | zero =>
    intro h
    have e : (stepsZ s zs).reverse[0]? = some (stepAt s zs (zs.length - 1)) := by
      rw [List.getElem?_reverse (by rw [steps_len]; omega), steps_len]
      exact steps_at (by omega)
    rw [sum_snoc e]
    have : zs[zs.length - 1 + 1]? = none := List.getElem?_eq_none (by omega)
    simp [stepAt, this]
  | succ j ih =>
    intro h
    have e : (stepsZ s zs).reverse[j + 1]? = some (stepAt s zs (zs.length - 1 - (j + 1))) := by
      rw [List.getElem?_reverse (by rw [steps_len]; omega), steps_len]
      exact steps_at (by omega)
    rw [sum_snoc e, ih (by omega)]
    have e2 : zs.length - 1 - (j + 1) + 1 = zs.length - 1 - j := by omega
    have e3 := List.getElem?_eq_getElem (show zs.length - 1 - j < zs.length by omega)
    unfold stepAt
    rw [e2, e3]
    simp
    omega

theorem rem_s (a s : Int) : remB (a + s) s = remB a s := by unfold remB; simp
theorem turn_set {s : Int} {zs : List Int} (ho : Ok s zs) (h0 : 0 < zs.length) : ofZ s.toNat (turnZ s zs) = ofZ s.toNat (mapL s zs (-1) (2 * zs[0]?.getD 0)) := by
  refine ofZ_congr fun x => ?_
  have hm : ∀ j, j < zs.length → ∃ i, i < zs.length ∧ remB (zs[0]?.getD 0 + (((stepsZ s zs).reverse.take j).sum)) s = remB (-1 * (zs[i]?.getD 0) + 2 * zs[0]?.getD 0) s ∧ (j = 0 → i = 0) ∧ (0 < j → i = zs.length - j) := by
    intro j hj
    cases j with
    | zero => exact ⟨0, h0, by congr 1; simp; omega, fun _ => rfl, fun q => absurd q (by omega)⟩
    | succ j =>
      refine ⟨zs.length - 1 - j, by omega, ?_, fun q => by omega, fun _ => by omega⟩
      rw [rev_sum j (by omega)]
      rw [← rem_s (-1 * (zs[zs.length - 1 - j]?.getD 0) + 2 * zs[0]?.getD 0) s]
      congr 1
      omega
  unfold turnZ turnL mapL
  rw [stB_yes ho, steps_len, List.mem_map, List.mem_map]
  constructor
  · rintro ⟨j, hj, rfl⟩
    rw [List.mem_range] at hj
    obtain ⟨i, hi, he, _⟩ := hm j hj
    exact ⟨zs[i]?.getD 0, by rw [List.getElem?_eq_getElem hi]; exact List.getElem_mem hi, he.symm⟩
  · rintro ⟨y, hy, rfl⟩
    obtain ⟨i, hi, rfl⟩ := List.getElem_of_mem hy
    by_cases h : i = 0
    · subst h
      obtain ⟨i, hi, he, h1, _⟩ := hm 0 h0
      rw [h1 rfl, List.getElem?_eq_getElem h0] at he
      exact ⟨0, by rw [List.mem_range]; exact h0, by rw [List.getElem?_eq_getElem h0]; exact he⟩
    · obtain ⟨i', hi', he, _, h1⟩ := hm (zs.length - i) (by omega)
      have e : i' = i := by have := h1 (by omega); omega
      rw [e, List.getElem?_eq_getElem hi] at he
      exact ⟨zs.length - i, by rw [List.mem_range]; omega, he⟩

set_option maxHeartbeats 1000000 in
theorem turn_impl (s : Int) (a : Option Addr) (len cap : Nat) (zs : List Int) (w : World) (h : IntsAt w a len zs) (hm : zs.length ≤ 1048576) :
    Calls Tryd.prog 11 #[rhy s a len cap] w (CPost (TurnC s zs) s (ofZ s.toNat (turnZ s zs)) w) := by
  have HS := Lib.hid h
  have hl : len ≤ 1048576 := by have := h.1; omega
  have hlen := h.len
  clear h
  obtain ⟨W0, hW⟩ : ∃ W0, W0 = (w.alloc (.cells #[.int .i64 s, .slice a len cap] 25)).alloc (.cells #[.int .i64 0, .slice none 0 0] 25) := ⟨_, rfl⟩
  have HW := Lib.hid hW
  have HB := Lib.hid (show Below w.heap.size w W0 by rw [hW]; exact bel2 w _ _)
  have HT := Lib.hid (show Two W0 w.heap.size (.int .i64 s) (.slice a len cap) by rw [hW]; exact (two_new w _ _ _).keep (bel1 _ _))
  have HU := Lib.hid (show Box W0 (w.heap.size + 1) (.int .i64 0) (.slice none 0 0) 25 by
    rw [hW]
    have := box_new (w.alloc (.cells #[.int .i64 s, .slice a len cap] 25)) (.int .i64 0) (.slice none 0 0) 25
    simpa using this)
  have hz0 := HU.out.lt
  clear hW
  by_cases ho : Ok s zs
  · have HO := Lib.hid ho
    by_cases h0 : 0 < len
    · have HC := Lib.hid (show TurnC s zs from ⟨ho, by omega⟩)
      have hd : ((len : Int) == 0) = false := by simp; omega
      obtain ⟨hs1, hs2⟩ := ho.1
      obtain ⟨b, off, z0, rfl, _, hs0, _, _, _⟩ := HS.out.at h0
      have hE := turn_set ho (by omega)
      rw [show zs[0]?.getD 0 = z0 by rw [hs0]; rfl] at hE
      have HE := Lib.hid hE
      rw [HE.out]
      obtain ⟨r1, r2⟩ := ok_at ho hs0
      have HZ := Lib.hid hs0
      clear ho hlen hs0 hE
      go_enter Tryd.func11, Tryd.ntmps11
      go_wp2_with fail
      rw [← HW.out]
      refine (valid_yes s _ len cap zs _ (HS.out.below HB.out) hl HO.out).mono ?_
      rintro e w1 ⟨rfl, hb1⟩
      have B1 := Lib.hid (HB.out.trans (hb1.mono HB.out.size))
      have T1 := Lib.hid (HT.out.keep hb1)
      have U1 := Lib.hid (HU.out.keep hb1 hz0)
      obtain ⟨t1, t1a, t1b⟩ := T1.out
      have l1 := U1.out.lt
      clear hb1
      obtain ⟨b', off', z', he', hb, hs', hc0, _, _⟩ := (HS.out.below B1.out).at h0
      obtain ⟨rfl, rfl⟩ : b = b' ∧ off = off' := by simpa using he'
      obtain rfl : z0 = z' := by rw [HZ.out] at hs'; simpa using hs'
      rw [Nat.add_zero] at hc0
      clear he' hs'
      have HM := Lib.hid (moved_of s (some ⟨b, off, none⟩) len cap zs (-1) (2 * z0) w1.drew (HS.out.below (B1.out.trans (Below.refl _ _).drew)) hl HO.out (by omega) (by omega) (by omega) (by omega) (gcd_mone s))
      have hw2 : IntKind.i64.wrap (2 * z0) = 2 * z0 := IntWalk.i64_in _ (by omega)
      have UD : Hid (Box w1.drew (w.heap.size + 1) (.int .i64 0) (.slice none 0 0) 25) := Lib.hid U1.out
      have BD := Lib.hid (B1.out.trans (Below.refl _ _).drew)
      go_wp2
      go_region_with (go_at_call 30; refine HM.out.mono ?_; rintro e w2 ⟨a2, cap2, rfl, hown2, hb2⟩; have HO2 := Lib.hid hown2; have HB2 := Lib.hid hb2; have U2 := Lib.hid (UD.out.keep hb2 l1); obtain ⟨q0, q1, q2, q3⟩ := U2.out.facts; have l2 := U2.out.lt; clear hown2 hb2)
      all_goals (
        go_wp2
        refine bodyPost_ret (v := .tuple #[rhy s a2 (ofZ s.toNat (mapL s zs (-1) (2 * z0))).length cap2, .bool true]) (by simp [results, Tryd.results11, go_sem, *]) rfl (cpost_yes HC.out rfl ?_ ?_)
        · exact own_base (ownsRow_setCell_below (ownsRow_setCell_below HO2.out (by show w.heap.size + 1 < w1.heap.size; omega) _) (by show w.heap.size + 1 < w1.heap.size; omega) _) (by show w.heap.size ≤ w1.heap.size; omega)
        · exact ((BD.out.trans (HB2.out.mono (by show w.heap.size ≤ w1.heap.size; omega))).setCell (by simp) _).setCell (by simp) _)
    · have HC := Lib.hid (show ¬ TurnC s zs from fun q => by have := q.2; omega)
      have e0 : len = 0 := by omega
      subst e0
      clear ho hlen
      go_enter Tryd.func11, Tryd.ntmps11
      go_wp2_with fail
      rw [← HW.out]
      refine (valid_yes s a 0 cap zs _ (HS.out.below HB.out) hl HO.out).mono ?_
      rintro e w1 ⟨rfl, hb1⟩
      have B1 := Lib.hid (HB.out.trans (hb1.mono HB.out.size))
      have T1 := Lib.hid (HT.out.keep hb1)
      have U1 := Lib.hid (HU.out.keep hb1 hz0)
      obtain ⟨t1, t1a, t1b⟩ := T1.out
      obtain ⟨q0, q1, q2, q3⟩ := U1.out.facts
      have l1 := U1.out.lt
      clear hb1
      go_wp2
      refine bodyPost_ret (v := .tuple #[rhy 0 none 0 0, .bool false]) (by simp [results, Tryd.results11, go_sem, *]) rfl (cpost_no HC.out ?_)
      exact (B1.out.setCell (by simp) _).setCell (by simp) _
  · have HO := Lib.hid ho
    have HC := Lib.hid (show ¬ TurnC s zs from fun q => ho q.1)
    clear ho hlen
    go_enter Tryd.func11, Tryd.ntmps11
    go_wp2_with fail
    rw [← HW.out]
    refine (valid_no s a len cap zs _ (HS.out.below HB.out) hl HO.out).mono ?_
    rintro e w1 ⟨rfl, hb1⟩
    have B1 := Lib.hid (HB.out.trans (hb1.mono HB.out.size))
    have U1 := Lib.hid (HU.out.keep hb1 hz0)
    clear hb1
    obtain ⟨q0, q1, q2, q3⟩ := U1.out.facts
    have l1 := U1.out.lt
    go_wp2
    refine bodyPost_ret (v := .tuple #[rhy 0 none 0 0, .bool false]) (by simp [results, Tryd.results11, go_sem, *]) rfl (cpost_no HC.out ?_)
    exact (B1.out.setCell (by simp) _).setCell (by simp) _
end Go.Proofs.YtmlhpllppgcgkaaDoor.Rhy
