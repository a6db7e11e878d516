/-
  Helpers of the claims beside this text: RotationsOf and IsLeastRotation of both sides.
-/
import Derived.Test.YtmlhpllppgcgkaaLsj
namespace Go.Proofs.Ytmlhpllppgcgkaa.Rhy
open Go.RowKit
set_option linter.unusedVariables false

/-- What both answer: no rotations of a rhythm that is not valid. -/
noncomputable def roB (s : Int) (zs : List Int) : List (List Int) := @ite _ (Ok s zs) (Classical.propDecidable _) (rotsZ s zs) []
theorem roB_yes {s : Int} {zs : List Int} (h : Ok s zs) : roB s zs = rotsZ s zs := by simp [roB, h]
theorem roB_no {s : Int} {zs : List Int} (h : ¬ Ok s zs) : roB s zs = [] := by simp [roB, h]
noncomputable def ilrB (s : Int) (zs : List Int) : Bool := okB s zs && eqB (leastZ s zs) zs
theorem rs_none (s : Int) {w w' : World} (hb : Below w.heap.size w w') : RSPost s [] w (.returned (.slice none 0 0)) w' :=
  ⟨none, 0, [], rfl, items_nil _ _, rfl, hb⟩

set_option maxHeartbeats 400000 in
theorem rots_impl (s : Int) (a : Option Addr) (len cap : Nat) (zs : List Int) (w : World) (h : IntsAt w a len zs) (hm : zs.length ≤ 1048576) :
    Calls Try.prog 30 #[rhy s a len cap] w (RSPost s (roB s zs) w) := by
  have HS := Lib.hid h
  have hl' : len ≤ 1048576 := by have := h.1; omega
  clear h
  by_cases ho : Ok s zs
  · have HE := Lib.hid (roB_yes ho)
    obtain ⟨n, rfl⟩ : ∃ n : Nat, s = n := ⟨s.toNat, by have := ho.1.1; omega⟩
    have HOK := Lib.hid ho
    clear ho
    go_enter Try.func30, Try.ntmps30
    go_wp2_with fail
    refine (valid_yes n a len cap zs _ (HS.out.below (bel1 w _)) hl' HOK.out).mono ?_
    rintro e w0 ⟨rfl, hb0⟩
    have HB0 := Lib.hid ((bel1 w (.cells #[.int .i64 n, .slice a len cap] 25)).trans (hb0.mono (by simp)))
    have T1 := Lib.hid ((two_new w (.int .i64 n) (.slice a len cap) 25).keep hb0)
    obtain ⟨t1, t1a, t1b⟩ := T1.out
    clear hb0
    go_wp2_with fail
    refine (rotations_any n a len cap zs w0 (HS.out.below HB0.out) hl' HOK.out).mono ?_
    rintro e w1 ⟨b, c, L, rfl, hit, hvl, hb1⟩
    have HIT := Lib.hid hit
    have HVL := Lib.hid hvl
    have HB1 := Lib.hid hb1
    clear hb1 hit hvl
    go_wp2
    go_ret
    rw [HE.out]
    exact ⟨b, c, L, rfl, HIT.out.base HB0.out.size, HVL.out, HB0.out.trans (HB1.out.mono HB0.out.size)⟩
  · have HOK := Lib.hid ho
    have HE := Lib.hid (roB_no ho)
    clear ho
    go_enter Try.func30, Try.ntmps30
    go_wp2_with fail
    refine (valid_no s a len cap zs _ (HS.out.below (bel1 w _)) hl' HOK.out).mono ?_
    rintro e w0 ⟨rfl, hb0⟩
    have HB0 := Lib.hid ((bel1 w (.cells #[.int .i64 s, .slice a len cap] 25)).trans (hb0.mono (by simp)))
    clear hb0
    go_wp2
    go_ret
    rw [HE.out]
    exact rs_none s HB0.out



set_option maxHeartbeats 1000000 in
theorem isleast_impl (s : Int) (a : Option Addr) (len cap : Nat) (zs : List Int) (w : World) (h : IntsAt w a len zs) (hm : zs.length ≤ 1048576) :
    Calls Try.prog 35 #[rhy s a len cap] w fun e w' => e = .returned (.bool (ilrB s zs)) ∧ Below w.heap.size w w' := by
  have HS := Lib.hid h
  have hl' : len ≤ 1048576 := by have := h.1; omega
  clear h
  by_cases ho : Ok s zs
  · obtain ⟨n, rfl⟩ : ∃ n : Nat, s = n := ⟨s.toNat, by have := ho.1.1; omega⟩
    have HE : Hid (ilrB n zs = eqB (leastZ n zs) zs) := Lib.hid (by unfold ilrB; rw [okB_yes ho, Bool.true_and])
    have HOK := Lib.hid ho
    have HOL := Lib.hid (least_ok ho)
    have hll := ok_len (least_ok ho)
    clear ho
    obtain ⟨W0, hW⟩ : ∃ W0, W0 = w.alloc (.cells #[.int .i64 n, .slice a len cap] 25) := ⟨_, rfl⟩
    have HW := Lib.hid hW
    have B0 := Lib.hid (show Below w.heap.size w W0 by rw [hW]; exact bel1 w _)
    have HT := Lib.hid (show Two W0 w.heap.size (.int .i64 n) (.slice a len cap) by rw [hW]; exact two_new w _ _ _)
    clear hW
    have HI := Lib.hid (HS.out.below B0.out)
    have HK : Hid (∀ W, Below W0.heap.size W0 W → W.cell? ⟨w.heap.size, 0, none⟩ = some (.int .i64 n) ∧ W.cell? ⟨w.heap.size, 1, none⟩ = some (.slice a len cap) ∧ Below W0.heap.size W0 W) :=
      Lib.hid (fun W hW => ⟨(HT.out.keep hW).2.1, (HT.out.keep hW).2.2, hW⟩)
    go_enter Try.func35, Try.ntmps35
    go_wp2
    rw [← HW.out]
    refine wp_region_held_drew (S := fun W => W.cell? ⟨w.heap.size, 0, none⟩ = some (.int .i64 n) ∧ W.cell? ⟨w.heap.size, 1, none⟩ = some (.slice a len cap) ∧ Below W0.heap.size W0 W) (by kernel_rfl) (HK.out _ (Below.refl _ _).drew) (fun hS0 => ?_)
    refine wpAnyH_take (i := 0) (oi := ⟨some 3, _, _, _, _, _⟩) (v := rhy n a len cap) rfl (by kernel_rfl) (by kernel_rfl) (by kernel_rfl) (fun _ _ _ h => h) (Or.inl ⟨by rfl, fun w hSw => by obtain ⟨q1, q2, _⟩ := hSw; go_simp⟩) (by assumption) ?_
    try simp only [Act.put, List.setIfInBounds_toArray, List.set_cons_zero, List.set_cons_succ]
    refine wpAnyH_ready (rs := [1]) (by kernel_rfl) (by simp) ?_
    refine AllReadyH.cons rfl (fun K hKK => ?_) AllReadyH.nil
    go_simp
    go_at_call 59
    refine (valid_yes n a len cap zs _ (HI.out.below (Below.refl _ _).drew) hl' HOK.out).mono ?_
    rintro e w1 ⟨rfl, hc1⟩
    have hb1 := (Below.refl W0.heap.size W0).drew.trans hc1
    clear hc1
    refine hKK.out _ _ (HK.out _ hb1) (fun hS1 => ?_)
    clear hKK K
    try simp only [Act.put, List.setIfInBounds_toArray, List.set_cons_zero, List.set_cons_succ]
    refine wpAnyH_take (i := 2) (oi := ⟨some 5, _, _, _, _, _⟩) (v := .bool true) rfl (by kernel_rfl) (by kernel_rfl) (by kernel_rfl) (fun _ _ _ h => h) (Or.inl ⟨by rfl, fun w hSw => by go_simp⟩) (by assumption) ?_
    try simp only [Act.put, List.setIfInBounds_toArray, List.set_cons_zero, List.set_cons_succ]
    refine wpAnyH_take (i := 3) (oi := ⟨some 6, _, _, _, _, _⟩) (v := rhy n a len cap) rfl (by kernel_rfl) (by kernel_rfl) (by kernel_rfl) (fun _ _ _ h => h) (Or.inl ⟨by rfl, fun w hSw => by obtain ⟨q1, q2, _⟩ := hSw; go_simp⟩) (by assumption) ?_
    try simp only [Act.put, List.setIfInBounds_toArray, List.set_cons_zero, List.set_cons_succ]
    refine wpAnyH_take (i := 6) (oi := ⟨some 9, _, _, _, _, _⟩) (v := rhy n a len cap) rfl (by kernel_rfl) (by kernel_rfl) (by kernel_rfl) (fun _ _ _ h => h) (Or.inl ⟨by rfl, fun w hSw => by obtain ⟨q1, q2, _⟩ := hSw; go_simp⟩) (by assumption) ?_
    try simp only [Act.put, List.setIfInBounds_toArray, List.set_cons_zero, List.set_cons_succ]
    refine wpAnyH_ready (rs := [4]) (by kernel_rfl) (by simp) ?_
    refine AllReadyH.cons rfl (fun K hKK => ?_) AllReadyH.nil
    go_simp
    go_at_call 74
    refine (leastRot_any n a len cap zs w1 (HI.out.below hb1) hl' HOK.out).mono ?_
    rintro e w2 ⟨b2, c2, rfl, hown2, hc2⟩
    have hi2 : IntsAt w2 b2 (leastZ n zs).length (leastZ n zs) := intsAt_own hown2 (ok_int HOL.out)
    have hb2 := hb1.trans (hc2.mono hb1.size)
    clear hc2 hown2
    refine hKK.out _ _ (HK.out _ hb2) (fun hS2 => ?_)
    clear hKK K
    try simp only [Act.put, List.setIfInBounds_toArray, List.set_cons_zero, List.set_cons_succ]
    refine wpAnyH_ready (rs := [5]) (by kernel_rfl) (by simp) ?_
    refine AllReadyH.cons rfl (fun K hKK => ?_) AllReadyH.nil
    go_simp
    go_at_call 76
    refine (form_any n b2 (leastZ n zs).length c2 (leastZ n zs) w2 hi2 (by omega) HOL.out).mono ?_
    rintro e w3 ⟨rfl, hc3⟩
    have hb3 := hb2.trans (hc3.mono hb2.size)
    clear hc3
    refine hKK.out _ _ (HK.out _ hb3) (fun hS3 => ?_)
    clear hKK K
    try simp only [Act.put, List.setIfInBounds_toArray, List.set_cons_zero, List.set_cons_succ]
    refine wpAnyH_ready (rs := [7]) (by kernel_rfl) (by simp) ?_
    refine AllReadyH.cons rfl (fun K hKK => ?_) AllReadyH.nil
    go_simp
    go_at_call 76
    refine (form_any n a len cap zs w3 (HI.out.below hb3) hl' HOK.out).mono ?_
    rintro e w4 ⟨rfl, hc4⟩
    have hb4 := hb3.trans (hc4.mono hb3.size)
    clear hc4
    refine hKK.out _ _ (HK.out _ hb4) (fun hS4 => ?_)
    clear hKK K
    try simp only [Act.put, List.setIfInBounds_toArray, List.set_cons_zero, List.set_cons_succ]
    refine wpAnyH_take (i := 8) (oi := ⟨some 11, _, _, _, _, _⟩) (v := .bool (eqB (leastZ n zs) zs)) rfl (by kernel_rfl) (by kernel_rfl) (by kernel_rfl) (fun _ _ _ h => h) (Or.inl ⟨by rfl, fun w' hSw => (exec_eql rfl (s := n) (xs := leastZ n zs) (t := n) (ys := zs) rfl rfl w').trans (by rw [eqF_ok HOL.out HOK.out]; simp)⟩) (by assumption) ?_
    try simp only [Act.put, List.setIfInBounds_toArray, List.set_cons_zero, List.set_cons_succ]
    refine wpAnyH_take (i := 9) (oi := ⟨some 12, _, _, _, _, _⟩) (v := .bool (eqB (leastZ n zs) zs)) rfl (by kernel_rfl) (by kernel_rfl) (by kernel_rfl) (fun _ _ _ h => h) (Or.inl ⟨by rfl, fun w hSw => by go_simp⟩) (by assumption) ?_
    try simp only [Act.put, List.setIfInBounds_toArray, List.set_cons_zero, List.set_cons_succ]
    refine wpAnyH_take (i := 10) (oi := ⟨some 2, _, _, _, _, _⟩) (v := .bool (eqB (leastZ n zs) zs)) rfl (by kernel_rfl) (by kernel_rfl) (by kernel_rfl) (fun _ _ _ h => h) (Or.inl ⟨by rfl, fun w hSw => by go_simp⟩) (by assumption) ?_
    try simp only [Act.put, List.setIfInBounds_toArray, List.set_cons_zero, List.set_cons_succ]
    refine wpAnyH_done (by kernel_rfl) ?_ _
    have HX2 := Lib.hid (B0.out.trans (hb4.mono B0.out.size))
    clear HK
    go_wp2
    go_ret
    exact ⟨ret_bool HE.out.symm, HX2.out⟩
  · have HE : Hid (ilrB s zs = false) := Lib.hid (by unfold ilrB; rw [okB_no ho, Bool.false_and])
    have HOK := Lib.hid ho
    clear ho
    obtain ⟨W0, hW⟩ : ∃ W0, W0 = w.alloc (.cells #[.int .i64 s, .slice a len cap] 25) := ⟨_, rfl⟩
    have HW := Lib.hid hW
    have B0 := Lib.hid (show Below w.heap.size w W0 by rw [hW]; exact bel1 w _)
    have HT := Lib.hid (show Two W0 w.heap.size (.int .i64 s) (.slice a len cap) by rw [hW]; exact two_new w _ _ _)
    clear hW
    have HI := Lib.hid (HS.out.below B0.out)
    have HK : Hid (∀ W, Below W0.heap.size W0 W → W.cell? ⟨w.heap.size, 0, none⟩ = some (.int .i64 s) ∧ W.cell? ⟨w.heap.size, 1, none⟩ = some (.slice a len cap) ∧ Below W0.heap.size W0 W) :=
      Lib.hid (fun W hW => ⟨(HT.out.keep hW).2.1, (HT.out.keep hW).2.2, hW⟩)
    go_enter Try.func35, Try.ntmps35
    go_wp2
    rw [← HW.out]
    refine wp_region_held_drew (S := fun W => W.cell? ⟨w.heap.size, 0, none⟩ = some (.int .i64 s) ∧ W.cell? ⟨w.heap.size, 1, none⟩ = some (.slice a len cap) ∧ Below W0.heap.size W0 W) (by kernel_rfl) (HK.out _ (Below.refl _ _).drew) (fun hS0 => ?_)
    refine wpAnyH_take (i := 0) (oi := ⟨some 3, _, _, _, _, _⟩) (v := rhy s a len cap) rfl (by kernel_rfl) (by kernel_rfl) (by kernel_rfl) (fun _ _ _ h => h) (Or.inl ⟨by rfl, fun w hSw => by obtain ⟨q1, q2, _⟩ := hSw; go_simp⟩) (by assumption) ?_
    try simp only [Act.put, List.setIfInBounds_toArray, List.set_cons_zero, List.set_cons_succ]
    refine wpAnyH_ready (rs := [1]) (by kernel_rfl) (by simp) ?_
    refine AllReadyH.cons rfl (fun K hKK => ?_) AllReadyH.nil
    go_simp
    go_at_call 59
    refine (valid_no s a len cap zs _ (HI.out.below (Below.refl _ _).drew) hl' HOK.out).mono ?_
    rintro e w1 ⟨rfl, hc1⟩
    have hb1 := (Below.refl W0.heap.size W0).drew.trans hc1
    clear hc1
    refine hKK.out _ _ (HK.out _ hb1) (fun hS1 => ?_)
    clear hKK K
    try simp only [Act.put, List.setIfInBounds_toArray, List.set_cons_zero, List.set_cons_succ]
    refine wpAnyH_take (i := 2) (oi := ⟨some 5, _, _, _, _, _⟩) (v := .bool false) rfl (by kernel_rfl) (by kernel_rfl) (by kernel_rfl) (fun _ _ _ h => h) (Or.inl ⟨by rfl, fun w hSw => by go_simp⟩) (by assumption) ?_
    try simp only [Act.put, List.setIfInBounds_toArray, List.set_cons_zero, List.set_cons_succ]
    refine wpAnyH_take (i := 3) (oi := ⟨some 6, _, _, _, _, _⟩) (v := undef) rfl (by kernel_rfl) (by kernel_rfl) (by kernel_rfl) (fun _ _ _ h => h) (Or.inr ⟨by rfl, rfl⟩) (by assumption) ?_
    try simp only [Act.put, List.setIfInBounds_toArray, List.set_cons_zero, List.set_cons_succ]
    refine wpAnyH_take (i := 4) (oi := ⟨some 7, _, _, _, _, _⟩) (v := undef) rfl (by kernel_rfl) (by kernel_rfl) (by kernel_rfl) (fun _ _ _ h => h) (Or.inr ⟨by rfl, rfl⟩) (by assumption) ?_
    try simp only [Act.put, List.setIfInBounds_toArray, List.set_cons_zero, List.set_cons_succ]
    refine wpAnyH_take (i := 5) (oi := ⟨some 8, _, _, _, _, _⟩) (v := undef) rfl (by kernel_rfl) (by kernel_rfl) (by kernel_rfl) (fun _ _ _ h => h) (Or.inr ⟨by rfl, rfl⟩) (by assumption) ?_
    try simp only [Act.put, List.setIfInBounds_toArray, List.set_cons_zero, List.set_cons_succ]
    refine wpAnyH_take (i := 6) (oi := ⟨some 9, _, _, _, _, _⟩) (v := undef) rfl (by kernel_rfl) (by kernel_rfl) (by kernel_rfl) (fun _ _ _ h => h) (Or.inr ⟨by rfl, rfl⟩) (by assumption) ?_
    try simp only [Act.put, List.setIfInBounds_toArray, List.set_cons_zero, List.set_cons_succ]
    refine wpAnyH_take (i := 7) (oi := ⟨some 10, _, _, _, _, _⟩) (v := undef) rfl (by kernel_rfl) (by kernel_rfl) (by kernel_rfl) (fun _ _ _ h => h) (Or.inr ⟨by rfl, rfl⟩) (by assumption) ?_
    try simp only [Act.put, List.setIfInBounds_toArray, List.set_cons_zero, List.set_cons_succ]
    refine wpAnyH_take (i := 8) (oi := ⟨some 11, _, _, _, _, _⟩) (v := undef) rfl (by kernel_rfl) (by kernel_rfl) (by kernel_rfl) (fun _ _ _ h => h) (Or.inr ⟨by rfl, rfl⟩) (by assumption) ?_
    try simp only [Act.put, List.setIfInBounds_toArray, List.set_cons_zero, List.set_cons_succ]
    refine wpAnyH_take (i := 9) (oi := ⟨some 12, _, _, _, _, _⟩) (v := .bool false) rfl (by kernel_rfl) (by kernel_rfl) (by kernel_rfl) (fun _ _ _ h => h) (Or.inl ⟨by rfl, fun w hSw => by go_simp⟩) (by assumption) ?_
    try simp only [Act.put, List.setIfInBounds_toArray, List.set_cons_zero, List.set_cons_succ]
    refine wpAnyH_take (i := 10) (oi := ⟨some 2, _, _, _, _, _⟩) (v := .bool false) rfl (by kernel_rfl) (by kernel_rfl) (by kernel_rfl) (fun _ _ _ h => h) (Or.inl ⟨by rfl, fun w hSw => by go_simp⟩) (by assumption) ?_
    try simp only [Act.put, List.setIfInBounds_toArray, List.set_cons_zero, List.set_cons_succ]
    refine wpAnyH_done (by kernel_rfl) ?_ _
    have HX2 := Lib.hid (B0.out.trans (hb1.mono B0.out.size))
    clear hb1 hS0 hS1 HK
    go_wp2
    go_ret
    exact ⟨ret_bool HE.out.symm, HX2.out⟩

end Go.Proofs.Ytmlhpllppgcgkaa.Rhy
