/-
  For every canon, CountClashes of the program answers as the model does, changes nothing of its argument, and its answer is its own.
-/
import Derived.Test.YthnlakdfbalgdaaCni
import Derived.Deep.RegionHeld3
import Derived.ProofKit
namespace Go.Proofs.Ythnlakdfbalgdaa.fnExactCountClashes
open Go.ChangeShapes Go.WideShapes Go.ChangeAt Go.RowKit Rhy
set_option linter.unusedVariables false


set_option maxHeartbeats 1000000 in
set_option maxRecDepth 100000 in
theorem walk (sP : Int) (aP : Option Addr) (lenP capP : Nat) (zP : List Int) (sQ : Int) (aQ : Option Addr) (lenQ capQ : Nat) (zQ : List Int)  (w : World) (w0 : OpenedC w sP aP lenP zP sQ aQ lenQ zQ)  :
    Calls Try.prog 5 #[can sP aP lenP capP sQ aQ lenQ capQ] w fun e w' => e = .returned (.bool true) ∧ Below w.heap.size w w' := by
  obtain ⟨⟨iP, mP, slP, suP⟩, ⟨iQ, mQ, slQ, suQ⟩⟩ := w0
  have HP := Lib.hid iP
  have HQ := Lib.hid iQ
  clear iP iQ
  go_enter Try.func5, Try.ntmps5
  go_wp2_with fail
  refine (size_canon sP aP lenP capP sQ aQ lenQ capQ _ _ mP mQ (by omega) (by omega)).mono ?_
  rintro e w1 ⟨⟨r, rfl, hr | ⟨hr, hlen, he⟩, h1, h2⟩, hb1⟩
  · have HB1 := Lib.hid hb1
    clear hb1
    go_wp2
    go_ret
    exact ⟨rfl, (bel1 w _).trans (HB1.out.mono (bel1 w (.cells #[.int .i64 (sP), .slice aP lenP capP, .int .i64 (sQ), .slice aQ lenQ capQ] 51)).size)⟩
  · have hr0 : ¬ r < 0 := by omega
    have leP : lenP ≤ 1048576 := by omega
    have leQ : lenQ ≤ 1048576 := by omega
    have lzP : zP.length ≤ 1048576 := by have := HP.out.1; omega
    have lzQ : zQ.length ≤ 1048576 := by have := HQ.out.1; omega
    clear he hr h1 h2
    have p1 := Lib.hid (bel1 w (.cells #[.int .i64 (sP), .slice aP lenP capP, .int .i64 (sQ), .slice aQ lenQ capQ] 51))
    have B1 : Hid (Below w.heap.size w w1) := Lib.hid (p1.out.trans (hb1.mono p1.out.size))
    have B1_size := B1.out.size
    have pz1 : w.heap.size + 1 ≤ w1.heap.size := by have := hb1.size; simp at this; omega
    have Ta_1 : Hid (Four w1 w.heap.size (.int .i64 (sP)) (.slice aP lenP capP) (.int .i64 (sQ)) (.slice aQ lenQ capQ)) := Lib.hid ((four_new w (.int .i64 (sP)) (.slice aP lenP capP) (.int .i64 (sQ)) (.slice aQ lenQ capQ) 51).keep hb1)
    obtain ⟨Ta_1_l, Ta_1_a, Ta_1_b, Ta_1_c, Ta_1_d⟩ := Ta_1.out
    have A1 : Hid (Below w.heap.size w w1) := Lib.hid (B1.out)
    clear hb1
    go_wp2_with fail
    refine (to_canon sP aP lenP capP zP sQ aQ lenQ capQ zQ _ (HP.out.below A1.out) leP (HQ.out.below A1.out) leQ).mono ?_
    rintro e w2 ⟨b2, c2, d2, e2, rfl, hown2, hb2⟩
    have Op_2 : Hid (RowC w2 w1.heap.size w2.heap.size b2 c2 zP d2 e2 zQ) := Lib.hid (RowC.lo hown2 (Nat.le_refl _))
    have B2 : Hid (Below w1.heap.size w1 w2) := Lib.hid (hb2)
    have B2_size := B2.out.size
    have Ta_2 : Hid (Four w2 w.heap.size (.int .i64 (sP)) (.slice aP lenP capP) (.int .i64 (sQ)) (.slice aQ lenQ capQ)) := Lib.hid (Ta_1.out.keep B2.out)
    obtain ⟨Ta_2_l, Ta_2_a, Ta_2_b, Ta_2_c, Ta_2_d⟩ := Ta_2.out
    clear Ta_1 Ta_1_l Ta_1_a Ta_1_b Ta_1_c Ta_1_d
    have A2 : Hid (Below w.heap.size w w2) := Lib.hid (A1.out.trans (B2.out.mono A1.out.size))
    clear A1
    clear hown2 hb2
    go_wp2_with fail
    refine (cla_spec sP b2 zP.length c2 zP sQ d2 zQ.length e2 zQ  _ (Op_2.out.at0 HP.out.int) lzP (Op_2.out.at1 HQ.out.int) lzQ ).mono ?_
    rintro e w3 ⟨rfl, hb3⟩
    have B3 : Hid (Below w2.heap.size w2 w3) := Lib.hid (hb3)
    have B3_size := B3.out.size
    have Ta_3 : Hid (Four w3 w.heap.size (.int .i64 (sP)) (.slice aP lenP capP) (.int .i64 (sQ)) (.slice aQ lenQ capQ)) := Lib.hid (Ta_2.out.keep B3.out)
    obtain ⟨Ta_3_l, Ta_3_a, Ta_3_b, Ta_3_c, Ta_3_d⟩ := Ta_3.out
    clear Ta_2 Ta_2_l Ta_2_a Ta_2_b Ta_2_c Ta_2_d
    have Op_3 : Hid (RowC w3 w1.heap.size w2.heap.size b2 c2 zP d2 e2 zQ) := Lib.hid (Op_2.out.keep B3.out)
    clear Op_2
    have A3 : Hid (Below w.heap.size w w3) := Lib.hid (A2.out.trans (B3.out.mono A2.out.size))
    clear A2
    clear hb3
    go_wp2_with fail
    refine (to_canon sP aP lenP capP zP sQ aQ lenQ capQ zQ _ (HP.out.below A3.out) leP (HQ.out.below A3.out) leQ).mono ?_
    rintro e w4 ⟨b4, c4, d4, e4, rfl, hown4, hb4⟩
    have Ox_4 : Hid (RowC w4 w3.heap.size w4.heap.size b4 c4 zP d4 e4 zQ) := Lib.hid (RowC.lo hown4 (Nat.le_refl _))
    have B4 : Hid (Below w3.heap.size w3 w4) := Lib.hid (hb4)
    have B4_size := B4.out.size
    have Ta_4 : Hid (Four w4 w.heap.size (.int .i64 (sP)) (.slice aP lenP capP) (.int .i64 (sQ)) (.slice aQ lenQ capQ)) := Lib.hid (Ta_3.out.keep B4.out)
    obtain ⟨Ta_4_l, Ta_4_a, Ta_4_b, Ta_4_c, Ta_4_d⟩ := Ta_4.out
    clear Ta_3 Ta_3_l Ta_3_a Ta_3_b Ta_3_c Ta_3_d
    have Op_4 : Hid (RowC w4 w1.heap.size w2.heap.size b2 c2 zP d2 e2 zQ) := Lib.hid (Op_3.out.keep B4.out)
    clear Op_3
    have A4 : Hid (Below w.heap.size w w4) := Lib.hid (A3.out.trans (B4.out.mono A3.out.size))
    clear A3
    clear hown4 hb4
    go_wp2_with fail
    refine (cla_impl sP b4 zP.length c4 zP sQ d4 zQ.length e4 zQ  _ ((Ox_4.out.keep (bel1 _ (.cells #[.int .i64 (sP), .slice b4 zP.length c4, .int .i64 (sQ), .slice d4 zQ.length e4] 29))).at0 HP.out.int) lzP ((Ox_4.out.keep (bel1 _ (.cells #[.int .i64 (sP), .slice b4 zP.length c4, .int .i64 (sQ), .slice d4 zQ.length e4] 29))).at1 HQ.out.int) lzQ ).mono ?_
    rintro e w5 ⟨rfl, hb5⟩
    have p5 := Lib.hid (bel1 w4 (.cells #[.int .i64 (sP), .slice b4 zP.length c4, .int .i64 (sQ), .slice d4 zQ.length e4] 29))
    have B5 : Hid (Below w4.heap.size w4 w5) := Lib.hid (p5.out.trans (hb5.mono p5.out.size))
    have B5_size := B5.out.size
    have pz5 : w4.heap.size + 1 ≤ w5.heap.size := by have := hb5.size; simp at this; omega
    have Ta_5 : Hid (Four w5 w.heap.size (.int .i64 (sP)) (.slice aP lenP capP) (.int .i64 (sQ)) (.slice aQ lenQ capQ)) := Lib.hid (Ta_4.out.keep B5.out)
    obtain ⟨Ta_5_l, Ta_5_a, Ta_5_b, Ta_5_c, Ta_5_d⟩ := Ta_5.out
    clear Ta_4 Ta_4_l Ta_4_a Ta_4_b Ta_4_c Ta_4_d
    have Tx_5 : Hid (Four w5 w4.heap.size (.int .i64 (sP)) (.slice b4 zP.length c4) (.int .i64 (sQ)) (.slice d4 zQ.length e4)) := Lib.hid ((four_new w4 (.int .i64 (sP)) (.slice b4 zP.length c4) (.int .i64 (sQ)) (.slice d4 zQ.length e4) 29).keep hb5)
    obtain ⟨Tx_5_l, Tx_5_a, Tx_5_b, Tx_5_c, Tx_5_d⟩ := Tx_5.out
    have Op_5 : Hid (RowC w5 w1.heap.size w2.heap.size b2 c2 zP d2 e2 zQ) := Lib.hid (Op_4.out.keep B5.out)
    clear Op_4
    have Ox_5 : Hid (RowC w5 w3.heap.size w4.heap.size b4 c4 zP d4 e4 zQ) := Lib.hid (Ox_4.out.keep B5.out)
    clear Ox_4
    have A5 : Hid (Below w.heap.size w w5) := Lib.hid (A4.out.trans (B5.out.mono A4.out.size))
    clear A4
    clear hb5
    go_wp2
    have HTP : Hid (∀ W, Below w5.heap.size w5 W → IntsAt W aP lenP zP) := Lib.hid (fun W hW => HP.out.below (A5.out.trans (hW.mono A5.out.size)))
    have HTQ : Hid (∀ W, Below w5.heap.size w5 W → IntsAt W aQ lenQ zQ) := Lib.hid (fun W hW => HQ.out.below (A5.out.trans (hW.mono A5.out.size)))
    have HK : Hid (∀ W, Below w5.heap.size w5 W → W.cell? ⟨w.heap.size, 0, none⟩ = some (.int .i64 (sP)) ∧ W.cell? ⟨w.heap.size, 1, none⟩ = some (.slice aP lenP capP) ∧ W.cell? ⟨w.heap.size, 2, none⟩ = some (.int .i64 (sQ)) ∧ W.cell? ⟨w.heap.size, 3, none⟩ = some (.slice aQ lenQ capQ) ∧ W.cell? ⟨w4.heap.size, 0, none⟩ = some (.int .i64 (sP)) ∧ W.cell? ⟨w4.heap.size, 1, none⟩ = some (.slice b4 zP.length c4) ∧ W.cell? ⟨w4.heap.size, 2, none⟩ = some (.int .i64 (sQ)) ∧ W.cell? ⟨w4.heap.size, 3, none⟩ = some (.slice d4 zQ.length e4) ∧ Below w5.heap.size w5 W) := Lib.hid (fun W hW => ⟨(Ta_5.out.keep hW).2.1, (Ta_5.out.keep hW).2.2.1, (Ta_5.out.keep hW).2.2.2.1, (Ta_5.out.keep hW).2.2.2.2, (Tx_5.out.keep hW).2.1, (Tx_5.out.keep hW).2.2.1, (Tx_5.out.keep hW).2.2.2.1, (Tx_5.out.keep hW).2.2.2.2, hW⟩)
    have HX : Hid (∀ W, Below w5.heap.size w5 W → RowC W w3.heap.size w4.heap.size b4 c4 zP d4 e4 zQ) := Lib.hid (fun W hW => Ox_5.out.keep hW)
    go_region_held3 (fun w' => w'.cell? ⟨w.heap.size, 0, none⟩ = some (.int .i64 (sP)) ∧ w'.cell? ⟨w.heap.size, 1, none⟩ = some (.slice aP lenP capP) ∧ w'.cell? ⟨w.heap.size, 2, none⟩ = some (.int .i64 (sQ)) ∧ w'.cell? ⟨w.heap.size, 3, none⟩ = some (.slice aQ lenQ capQ) ∧ w'.cell? ⟨w4.heap.size, 0, none⟩ = some (.int .i64 (sP)) ∧ w'.cell? ⟨w4.heap.size, 1, none⟩ = some (.slice b4 zP.length c4) ∧ w'.cell? ⟨w4.heap.size, 2, none⟩ = some (.int .i64 (sQ)) ∧ w'.cell? ⟨w4.heap.size, 3, none⟩ = some (.slice d4 zQ.length e4) ∧ Below w5.heap.size w5 w')
      (first | exact HK.out _ (Below.refl _ _).drew | exact HK.out _ hb6 | exact HK.out _ hb7)
      ((first
        | (go_at_call 34; refine (to_canon sP aP lenP capP zP sQ aQ lenQ capQ zQ _ (HTP.out _ (Below.refl _ _).drew) leP (HTQ.out _ (Below.refl _ _).drew) leQ).mono ?_; rintro e w6 ⟨b6, c6, d6, e6, rfl, hown6, hc6⟩; have HO6 := Lib.hid hown6; have hb6 := (Below.refl w5.heap.size w5).drew.trans hc6; clear hown6 hc6)
        | (go_at_call 35; refine (eq_canon sP b4 b6 c4 c6 zP.length zP sQ d4 d6 e4 e6 zQ.length zQ _ ((HX.out _ hb6).at0 HP.out.int) (HO6.out.at0 HP.out.int) (by omega) ((HX.out _ hb6).at1 HQ.out.int) (HO6.out.at1 HQ.out.int) (by omega)).mono ?_; rintro e w7 ⟨rfl, hc7⟩; have hb7 := hb6.trans (hc7.mono hb6.size); clear hc7)))
    clear HTP HTQ HK HX hb6 HO6
    rename_i hHeld
    clear hHeld
    have B7 : Hid (Below w5.heap.size w5 w7) := Lib.hid (hb7)
    have B7_size := B7.out.size
    have Ta_7 : Hid (Four w7 w.heap.size (.int .i64 (sP)) (.slice aP lenP capP) (.int .i64 (sQ)) (.slice aQ lenQ capQ)) := Lib.hid (Ta_5.out.keep B7.out)
    obtain ⟨Ta_7_l, Ta_7_a, Ta_7_b, Ta_7_c, Ta_7_d⟩ := Ta_7.out
    clear Ta_5 Ta_5_l Ta_5_a Ta_5_b Ta_5_c Ta_5_d
    have Tx_7 : Hid (Four w7 w4.heap.size (.int .i64 (sP)) (.slice b4 zP.length c4) (.int .i64 (sQ)) (.slice d4 zQ.length e4)) := Lib.hid (Tx_5.out.keep B7.out)
    obtain ⟨Tx_7_l, Tx_7_a, Tx_7_b, Tx_7_c, Tx_7_d⟩ := Tx_7.out
    clear Tx_5 Tx_5_l Tx_5_a Tx_5_b Tx_5_c Tx_5_d
    have Op_7 : Hid (RowC w7 w1.heap.size w2.heap.size b2 c2 zP d2 e2 zQ) := Lib.hid (Op_5.out.keep B7.out)
    clear Op_5
    have Ox_7 : Hid (RowC w7 w3.heap.size w4.heap.size b4 c4 zP d4 e4 zQ) := Lib.hid (Ox_5.out.keep B7.out)
    clear Ox_5
    have A7 : Hid (Below w.heap.size w w7) := Lib.hid (A5.out.trans (B7.out.mono A5.out.size))
    clear A5
    clear hb7
    go_wp2
    go_ret
    exact ⟨rfl, A7.out⟩

set_option maxRecDepth 100000 in
theorem lifted (os : Os) (started : os.Started) (H : Type) (enc : TypeId × Value → H) :
    ReturnsInHanded {} Try.checked os 5 .any (Rows.fnExactCountClashesSpec.pre6 enc Try.prog Try.f5 Rows.fnExactCountClashesRow.domain false) (Rows.fnExactCountClashesSpec.post enc Try.prog Try.f5 false true false false) := by
  refine returnsInHanded_of_change (C := Try.checked) own started (by kernel_rfl) Try.func5
    (ChangeSpec.witness6 (enc := enc) (C := Try.checked) false ⟨#[], #[.agg #[.int .i64 0, .slice none 0 0, .int .i64 0, .slice none 0 0]], []⟩ 8 (by kernel_rfl) (by kernel_rfl) (by kernel_rfl) (by kernel_rfl)) ?_
  intro W base args ds gs before hval0 hW hcnd _
  have hval : ∀ (j : Nat) t v, Try.f5.params[j]? = some t → args[j]? = some v → Value.okWide Try.prog W .any base t v := hval0
  have hW' := hW
  obtain ⟨p, q, hA0, hV, rfl, hfz, hnd⟩ := hW
  have hA : DataW.TrodAll enc Try.prog W 0 (fun _ => true) true Try.f5.params.toList args.toList ds p := hA0
  rw [Try.params5] at hA hval
  obtain ⟨v0, vs0, d0, ds0, p0, q0, hargs, rfl, rfl, h0, r0⟩ := trodAll_cons hA
  obtain ⟨rfl, rfl, rfl⟩ := trodAll_nil r0
  obtain rfl : args = #[v0] := by cases args; simp_all
  obtain ⟨rfl, rfl⟩ := trodVars_none hV
  have k0 := h0
  have lt0 : ∀ x ∈ p0, x.block < W.heap.size := by obtain ⟨m, hm⟩ := k0; exact DataW.trod_lt m _ _ _ hm
  obtain ⟨s0, a0, len0, cap0, z0, t0, b0, m0, d0', y0, rfl, w0⟩ := openedC (hval 0 51 v0 rfl rfl) h0
  clear hA0 hval0
  refine (walk s0 a0 len0 cap0 z0 t0 b0 m0 d0' y0 W w0).mono fun e W' ⟨he, bel⟩ => ?_
  subst he
  exact ⟨_, rfl, _, _, _, [], _, [], hW', trodAll_mk1 (shut_bool Try.underlying4 _), (trodAll_cons_mk (Below.trod laidOut (by kernel_rfl) (of_decide_eq_true (by kernel_rfl)) k0 bel lt0) trodAll_mk0), rfl, bel.frame _, fun h => by cases h⟩

theorem proved : Rows.FnExactCountClashesSaid :=
  OpenClaim.holds_of_wide 5 Try.f5 rfl rfl rfl rfl rfl rfl rfl ⟨rfl, rfl, rfl, rfl, rfl⟩ rfl rfl rfl rfl rfl (by kernel_rfl) Try.func5 (by kernel_rfl)
    (of_decide_eq_true (by kernel_rfl)) (by unfold Func.isWrapper; rw [if_neg (of_decide_eq_false (by kernel_rfl))]; exact ⟨rfl, rfl⟩)
    (fun os started H enc _ => lifted os started H enc)
#print axioms proved
end Go.Proofs.Ythnlakdfbalgdaa.fnExactCountClashes
