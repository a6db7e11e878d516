/-
  'VanishesAt' of the program answers, at every rhythm and number, as its model does. No condition.
-/
import Derived.Test.YtoejafpijcacoaaPlm
import Derived.Test.YtoejafpijcacoaaOpen
import Derived.Deep.RegionHeld3
import Derived.ProofKit
namespace Go.Proofs.Ytoejafpijcacoaa.fnExactVanishesAt
open Go.ChangeShapes Go.WideShapes Go.ChangeAt Go.RowKit Rhy
set_option linter.unusedVariables false


set_option maxHeartbeats 1000000 in
set_option maxRecDepth 100000 in
theorem walk (s0 : Int) (a0 : Option Addr) (len0 cap0 : Nat) (z0 : List Int) (a1 : Int) (w : World) (w0 : Opened w s0 a0 len0 z0) (w1 : (Lit.int .i64 a1).wf = true) :
    Calls Try.prog 10 #[rhy s0 a0 len0 cap0, .int .i64 a1] w fun e w' => e = .returned (.bool true) ∧ Below w.heap.size w w' := by
  obtain ⟨i0, m0, sl0, su0⟩ := w0
  have HS0 := Lib.hid i0
  clear i0
  obtain ⟨kl1, ku1⟩ := bounds_i64 w1
  go_enter Try.func10, Try.ntmps10
  go_wp2_with fail
  refine (size_rhythm s0 _ a0 len0 cap0 _ m0 (by omega) (by omega)).mono ?_
  rintro e w1 ⟨⟨r0, rfl, hr | ⟨hr, hlen0, he0⟩, h1, h2⟩, hb1⟩
  · have HB1 := Lib.hid hb1
    clear hb1
    go_wp2
    go_ret
    exact ⟨rfl, (bel1 w (.cells #[.int .i64 s0, .slice a0 len0 cap0] 44)).trans (HB1.out.mono (bel1 w (.cells #[.int .i64 s0, .slice a0 len0 cap0] 44)).size)⟩
  · have hr0 : ¬ r0 < 0 := by omega
    have le0 : len0 ≤ 1048576 := by omega
    have lz0 : z0.length ≤ 1048576 := by have := HS0.out.1; omega
    have hq0 : 0 ≤ r0 := hr
    have hq'0 : r0 ≤ 1048576 := by omega
    clear he0 hr h1 h2
    have p1 := Lib.hid (bel1 w (.cells #[.int .i64 s0, .slice a0 len0 cap0] 44))
    have B1 : Hid (Below w.heap.size w w1) := Lib.hid (p1.out.trans (hb1.mono p1.out.size))
    have B1_size := B1.out.size
    have pz1 : w.heap.size + 1 ≤ w1.heap.size := by have := hb1.size; simp at this; omega
    have Ta0_1 : Hid (Two w1 w.heap.size (.int .i64 s0) (.slice a0 len0 cap0)) := Lib.hid ((two_new w (.int .i64 s0) (.slice a0 len0 cap0) 44).keep hb1)
    obtain ⟨Ta0_1_l, Ta0_1_a, Ta0_1_b⟩ := Ta0_1.out
    have A1 : Hid (Below w.heap.size w w1) := Lib.hid (B1.out)
    clear hb1
    go_wp2_with fail
    refine (to_rhythm s0 a0 len0 cap0 z0 _ (HS0.out.below A1.out) le0).mono ?_
    rintro e w2 ⟨b2, c2, rfl, hown2, hb2⟩
    have Op0_2 : Hid (Row w2 w1.heap.size w2.heap.size b2 z0.length c2 z0) := Lib.hid (row_of (own_base hown2 (Nat.le_refl _)))
    have B2 : Hid (Below w1.heap.size w1 w2) := Lib.hid (hb2)
    have B2_size := B2.out.size
    have Ta0_2 : Hid (Two w2 w.heap.size (.int .i64 s0) (.slice a0 len0 cap0)) := Lib.hid (Ta0_1.out.keep B2.out)
    obtain ⟨Ta0_2_l, Ta0_2_a, Ta0_2_b⟩ := Ta0_2.out
    clear Ta0_1 Ta0_1_l Ta0_1_a Ta0_1_b
    have A2 : Hid (Below w.heap.size w w2) := Lib.hid (A1.out.trans (B2.out.mono A1.out.size))
    clear A1
    clear hown2 hb2
    go_wp2_with fail
    refine (vat_spec s0 b2 z0.length c2 z0 a1 _ (Op0_2.out.at HS0.out.int) lz0 kl1 ku1).mono ?_
    rintro e w3 ⟨rfl, hb3⟩
    have B3 : Hid (Below w2.heap.size w2 w3) := Lib.hid (hb3)
    have B3_size := B3.out.size
    have Ta0_3 : Hid (Two w3 w.heap.size (.int .i64 s0) (.slice a0 len0 cap0)) := Lib.hid (Ta0_2.out.keep B3.out)
    obtain ⟨Ta0_3_l, Ta0_3_a, Ta0_3_b⟩ := Ta0_3.out
    clear Ta0_2 Ta0_2_l Ta0_2_a Ta0_2_b
    have Op0_3 : Hid (Row w3 w1.heap.size w2.heap.size b2 z0.length c2 z0) := Lib.hid (Op0_2.out.keep B3.out)
    clear Op0_2
    have A3 : Hid (Below w.heap.size w w3) := Lib.hid (A2.out.trans (B3.out.mono A2.out.size))
    clear A2
    clear hb3
    go_wp2_with fail
    refine (to_rhythm s0 a0 len0 cap0 z0 _ (HS0.out.below A3.out) le0).mono ?_
    rintro e w4 ⟨b4, c4, rfl, hown4, hb4⟩
    have Ox0_4 : Hid (Row w4 w3.heap.size w4.heap.size b4 z0.length c4 z0) := Lib.hid (row_of (own_base hown4 (Nat.le_refl _)))
    have B4 : Hid (Below w3.heap.size w3 w4) := Lib.hid (hb4)
    have B4_size := B4.out.size
    have Ta0_4 : Hid (Two w4 w.heap.size (.int .i64 s0) (.slice a0 len0 cap0)) := Lib.hid (Ta0_3.out.keep B4.out)
    obtain ⟨Ta0_4_l, Ta0_4_a, Ta0_4_b⟩ := Ta0_4.out
    clear Ta0_3 Ta0_3_l Ta0_3_a Ta0_3_b
    have Op0_4 : Hid (Row w4 w1.heap.size w2.heap.size b2 z0.length c2 z0) := Lib.hid (Op0_3.out.keep B4.out)
    clear Op0_3
    have A4 : Hid (Below w.heap.size w w4) := Lib.hid (A3.out.trans (B4.out.mono A3.out.size))
    clear A3
    clear hown4 hb4
    go_wp2_with fail
    refine (vat_impl s0 b4 z0.length c4 z0 a1 _ ((Ox0_4.out.at HS0.out.int).below (bel1 _ (.cells #[.int .i64 s0, .slice b4 z0.length c4] 30))) lz0 kl1 ku1).mono ?_
    rintro e w5 ⟨rfl, hb5⟩
    have p5 := Lib.hid (bel1 w4 (.cells #[.int .i64 s0, .slice b4 z0.length c4] 30))
    have B5 : Hid (Below w4.heap.size w4 w5) := Lib.hid (p5.out.trans (hb5.mono p5.out.size))
    have B5_size := B5.out.size
    have pz5 : w4.heap.size + 1 ≤ w5.heap.size := by have := hb5.size; simp at this; omega
    have Ta0_5 : Hid (Two w5 w.heap.size (.int .i64 s0) (.slice a0 len0 cap0)) := Lib.hid (Ta0_4.out.keep B5.out)
    obtain ⟨Ta0_5_l, Ta0_5_a, Ta0_5_b⟩ := Ta0_5.out
    clear Ta0_4 Ta0_4_l Ta0_4_a Ta0_4_b
    have Tx0_5 : Hid (Two w5 w4.heap.size (.int .i64 s0) (.slice b4 z0.length c4)) := Lib.hid ((two_new w4 (.int .i64 s0) (.slice b4 z0.length c4) 30).keep hb5)
    obtain ⟨Tx0_5_l, Tx0_5_a, Tx0_5_b⟩ := Tx0_5.out
    have Op0_5 : Hid (Row w5 w1.heap.size w2.heap.size b2 z0.length c2 z0) := Lib.hid (Op0_4.out.keep B5.out)
    clear Op0_4
    have Ox0_5 : Hid (Row w5 w3.heap.size w4.heap.size b4 z0.length c4 z0) := Lib.hid (Ox0_4.out.keep B5.out)
    clear Ox0_4
    have A5 : Hid (Below w.heap.size w w5) := Lib.hid (A4.out.trans (B5.out.mono A4.out.size))
    clear A4
    clear hb5
    go_wp2
    have HT : Hid (∀ W, Below w5.heap.size w5 W → IntsAt W a0 len0 z0) := Lib.hid (fun W hW => HS0.out.below (A5.out.trans (hW.mono A5.out.size)))
    have HK : Hid (∀ W, Below w5.heap.size w5 W → W.cell? ⟨w.heap.size, 0, none⟩ = some (.int .i64 s0) ∧ W.cell? ⟨w.heap.size, 1, none⟩ = some (.slice a0 len0 cap0) ∧ W.cell? ⟨w4.heap.size, 0, none⟩ = some (.int .i64 s0) ∧ W.cell? ⟨w4.heap.size, 1, none⟩ = some (.slice b4 z0.length c4) ∧ Below w5.heap.size w5 W) := Lib.hid (fun W hW => ⟨(Ta0_5.out.keep hW).2.1, (Ta0_5.out.keep hW).2.2, (Tx0_5.out.keep hW).2.1, (Tx0_5.out.keep hW).2.2, hW⟩)
    have HX : Hid (∀ W, Below w5.heap.size w5 W → Row W w3.heap.size w4.heap.size b4 z0.length c4 z0) := Lib.hid (fun W hW => Ox0_5.out.keep hW)
    go_region_held3 (fun w' => w'.cell? ⟨w.heap.size, 0, none⟩ = some (.int .i64 s0) ∧ w'.cell? ⟨w.heap.size, 1, none⟩ = some (.slice a0 len0 cap0) ∧ w'.cell? ⟨w4.heap.size, 0, none⟩ = some (.int .i64 s0) ∧ w'.cell? ⟨w4.heap.size, 1, none⟩ = some (.slice b4 z0.length c4) ∧ Below w5.heap.size w5 w')
      (first | exact HK.out _ (Below.refl _ _).drew | exact HK.out _ hb6 | exact HK.out _ hb7)
      ((first
        | (go_at_call 33; refine (to_rhythm s0 a0 len0 cap0 z0 _ (HT.out _ (Below.refl _ _).drew) le0).mono ?_; rintro e w6 ⟨b6, c6, rfl, hown6, hc6⟩; have HO6 := Lib.hid hown6; have hb6 := (Below.refl w5.heap.size w5).drew.trans hc6; clear hown6 hc6)
        | (go_at_call 34; refine (eq_rhythm s0 b4 _ c4 _ z0.length z0 _ ((HX.out _ hb6).at HS0.out.int) (intsAt_own HO6.out HS0.out.int) (by omega)).mono ?_; rintro e w7 ⟨rfl, hc7⟩; have hb7 := hb6.trans (hc7.mono hb6.size); clear hc7)))
    clear HT HK HX hb6 HO6
    rename_i hHeld
    clear hHeld
    have B7 : Hid (Below w5.heap.size w5 w7) := Lib.hid (hb7)
    have B7_size := B7.out.size
    have Ta0_7 : Hid (Two w7 w.heap.size (.int .i64 s0) (.slice a0 len0 cap0)) := Lib.hid (Ta0_5.out.keep B7.out)
    obtain ⟨Ta0_7_l, Ta0_7_a, Ta0_7_b⟩ := Ta0_7.out
    clear Ta0_5 Ta0_5_l Ta0_5_a Ta0_5_b
    have Tx0_7 : Hid (Two w7 w4.heap.size (.int .i64 s0) (.slice b4 z0.length c4)) := Lib.hid (Tx0_5.out.keep B7.out)
    obtain ⟨Tx0_7_l, Tx0_7_a, Tx0_7_b⟩ := Tx0_7.out
    clear Tx0_5 Tx0_5_l Tx0_5_a Tx0_5_b
    have Op0_7 : Hid (Row w7 w1.heap.size w2.heap.size b2 z0.length c2 z0) := Lib.hid (Op0_5.out.keep B7.out)
    clear Op0_5
    have Ox0_7 : Hid (Row w7 w3.heap.size w4.heap.size b4 z0.length c4 z0) := Lib.hid (Ox0_5.out.keep B7.out)
    clear Ox0_5
    have A7 : Hid (Below w.heap.size w w7) := Lib.hid (A5.out.trans (B7.out.mono A5.out.size))
    clear A5
    clear hb7
    go_wp2
    go_ret
    exact ⟨rfl, A7.out⟩

set_option maxRecDepth 100000 in
theorem lifted (os : Os) (started : os.Started) (H : Type) (enc : TypeId × Value → H) :
    ReturnsInHanded {} Try.checked os 10 .any (Rows.fnExactVanishesAtSpec.pre6 enc Try.prog Try.f10 Rows.fnExactVanishesAtRow.domain false) (Rows.fnExactVanishesAtSpec.post enc Try.prog Try.f10 false true false false) := by
  refine returnsInHanded_of_change (C := Try.checked) own started (by kernel_rfl) Try.func10
    (ChangeSpec.witness6 (enc := enc) (C := Try.checked) false ⟨#[], #[.agg #[.int .i64 0, .slice none 0 0], .int .i64 0], []⟩ 8 (by kernel_rfl) (by kernel_rfl) (by kernel_rfl) (by kernel_rfl)) ?_
  intro W base args ds gs before hval0 hW hcnd _
  have hval : ∀ (j : Nat) t v, Try.f10.params[j]? = some t → args[j]? = some v → Value.okWide Try.prog W .any base t v := hval0
  have hW' := hW
  obtain ⟨p, q, hA0, hV, rfl, hfz, hnd⟩ := hW
  have hA : DataW.TrodAll enc Try.prog W 0 (fun _ => true) true Try.f10.params.toList args.toList ds p := hA0
  rw [Try.params10] at hA hval
  obtain ⟨v0, vs0, d0, ds0, p0, q0, hargs, rfl, rfl, h0, r0⟩ := trodAll_cons hA
  obtain ⟨v1, vs1, d1, ds1, p1, q1, rfl, rfl, rfl, h1, r1⟩ := trodAll_cons r0
  obtain ⟨rfl, rfl, rfl⟩ := trodAll_nil r1
  obtain rfl : args = #[v0, v1] := by cases args; simp_all
  obtain ⟨rfl, rfl⟩ := trodVars_none hV
  have k0 := h0
  have lt0 : ∀ x ∈ p0, x.block < W.heap.size := by obtain ⟨m, hm⟩ := k0; exact DataW.trod_lt m _ _ _ hm
  obtain ⟨s0, a0, len0, cap0, z0, rfl, w0⟩ := opened (hval 0 44 v0 rfl rfl) h0
  obtain ⟨a1, rfl, rfl, rfl, w1⟩ := open_int Try.underlying3 (hval 1 3 v1 rfl rfl) h1
  clear hA0 hval0
  refine (walk s0 a0 len0 cap0 z0 a1 W w0 w1).mono fun e W' ⟨he, bel⟩ => ?_
  subst he
  exact ⟨_, rfl, _, _, _, [], _, [], hW', trodAll_mk1 (shut_bool Try.underlying4 _), (trodAll_cons_mk (Below.trod laidOut (by kernel_rfl) (of_decide_eq_true (by kernel_rfl)) k0 bel lt0) (trodAll_cons_mk (shut_int Try.underlying3 w1) trodAll_mk0)), rfl, bel.frame _, fun h => by cases h⟩

theorem proved : Rows.FnExactVanishesAtSaid :=
  OpenClaim.holds_of_wide 10 Try.f10 rfl rfl rfl rfl rfl rfl rfl ⟨rfl, rfl, rfl, rfl, rfl⟩ rfl rfl rfl rfl rfl (by kernel_rfl) Try.func10 (by kernel_rfl)
    (of_decide_eq_true (by kernel_rfl)) (by unfold Func.isWrapper; rw [if_neg (of_decide_eq_false (by kernel_rfl))]; exact ⟨rfl, rfl⟩)
    (fun os started H enc _ => lifted os started H enc)
#print axioms proved
end Go.Proofs.Ytoejafpijcacoaa.fnExactVanishesAt
