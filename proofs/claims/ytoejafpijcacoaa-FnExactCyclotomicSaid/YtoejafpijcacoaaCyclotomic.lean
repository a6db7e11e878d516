/-
  'Cyclotomic' of the program answers, at every number, as its model does, leaves its arguments as they were, and owns the memory of its answer. No condition.
-/
import Derived.Test.YtoejafpijcacoaaPlk
import Derived.Test.YtoejafpijcacoaaOpen
import Derived.Deep.RegionHeld3
import Derived.ProofKit
namespace Go.Proofs.Ytoejafpijcacoaa.fnExactCyclotomic
open Go.ChangeShapes Go.WideShapes Go.ChangeAt Go.RowKit Rhy
set_option linter.unusedVariables false


set_option maxHeartbeats 1000000 in
set_option maxRecDepth 100000 in
theorem walk (a0 : Int) (w0 : (Lit.int .i64 a0).wf = true) (w : World) :
    Calls Try.prog 8 #[.int .i64 a0] w fun e w' => e = .returned (.bool true) ∧ Below w.heap.size w w' := by
  obtain ⟨kl0, ku0⟩ := bounds_i64 w0
  go_enter Try.func8, Try.ntmps8
  have HZ : Hid (AllInt (cycB a0)) := Lib.hid (cycB_int a0)
  have hzl : (cycB a0).length ≤ 1048576 := Nat.le_trans (cycB_len a0) (by omega)
  go_wp2_with fail
  refine (cyc_spec a0 _ kl0 ku0).mono ?_
  rintro e w1 ⟨b1, c1, rfl, hown1, hb1⟩
  have Om_1 : Hid (PRow w1 w.heap.size w1.heap.size b1 (cycB a0).length c1 (cycB a0)) := Lib.hid (PRow.lo hown1 (Nat.le_refl _))
  have B1 : Hid (Below w.heap.size w w1) := Lib.hid (hb1)
  have B1_size := B1.out.size
  have A1 : Hid (Below w.heap.size w w1) := Lib.hid (B1.out)
  clear hown1 hb1
  go_wp2_with fail
  refine (cyc_impl a0 _ kl0 ku0).mono ?_
  rintro e w2 ⟨b2, c2, rfl, hown2, hb2⟩
  have Og_2 : Hid (PRow w2 w1.heap.size w2.heap.size b2 (cycB a0).length c2 (cycB a0)) := Lib.hid (PRow.lo hown2 (Nat.le_refl _))
  have B2 : Hid (Below w1.heap.size w1 w2) := Lib.hid (hb2)
  have B2_size := B2.out.size
  have Om_2 : Hid (PRow w2 w.heap.size w1.heap.size b1 (cycB a0).length c1 (cycB a0)) := Lib.hid (Om_1.out.keep B2.out)
  clear Om_1
  have A2 : Hid (Below w.heap.size w w2) := Lib.hid (A1.out.trans (B2.out.mono A1.out.size))
  clear A1
  clear hown2 hb2
  go_wp2_with fail
  refine (eq_ints b2 b1 c2 c1 _ (cycB a0) _ (Og_2.out.at HZ.out) (Om_2.out.at HZ.out) (by omega)).mono ?_
  rintro e w3 ⟨rfl, hb3⟩
  have B3 : Hid (Below w2.heap.size w2 w3) := Lib.hid (hb3)
  have B3_size := B3.out.size
  have Om_3 : Hid (PRow w3 w.heap.size w1.heap.size b1 (cycB a0).length c1 (cycB a0)) := Lib.hid (Om_2.out.keep B3.out)
  clear Om_2
  have Og_3 : Hid (PRow w3 w1.heap.size w2.heap.size b2 (cycB a0).length c2 (cycB a0)) := Lib.hid (Og_2.out.keep B3.out)
  clear Og_2
  have A3 : Hid (Below w.heap.size w w3) := Lib.hid (A2.out.trans (B3.out.mono A2.out.size))
  clear A2
  clear hb3
  go_wp2_with fail
  refine (mark_part w1.heap.size w2.heap.size (1) b2 c2 _ _ _ Og_3.out (by omega) (by omega)).mono ?_
  rintro e w4 ⟨rfl, hown4, hb4⟩
  have B4 : Hid (Within w1.heap.size w2.heap.size w3 w4) := Lib.hid (hb4)
  have B4_size := B4.out.size
  have Om_4 : Hid (PRow w4 w.heap.size w1.heap.size b1 (cycB a0).length c1 (cycB a0)) := Lib.hid (Om_3.out.within B4.out (by omega))
  clear Om_3
  have A4 : Hid (Below w.heap.size w w4) := Lib.hid (Rhy.Below.within A3.out B4.out (by omega) A3.out.size)
  clear A3
  have Og_4 : Hid (PRow w4 w1.heap.size w2.heap.size b2 (cycB a0).length c2 (marks (1) (cycB a0).length)) := Lib.hid hown4
  clear hown4 hb4 Og_3
  go_wp2_with fail
  refine (held_ints (1) b2 c2 (cycB a0).length _ (Og_4.out.at (marks_int _ _ (by omega))) (by omega) (by omega)).mono ?_
  rintro e w5 ⟨rfl, hb5⟩
  have B5 : Hid (Below w4.heap.size w4 w5) := Lib.hid (hb5)
  have B5_size := B5.out.size
  have Om_5 : Hid (PRow w5 w.heap.size w1.heap.size b1 (cycB a0).length c1 (cycB a0)) := Lib.hid (Om_4.out.keep B5.out)
  clear Om_4
  have Og_5 : Hid (PRow w5 w1.heap.size w2.heap.size b2 (cycB a0).length c2 (marks (1) (cycB a0).length)) := Lib.hid (Og_4.out.keep B5.out)
  clear Og_4
  have A5 : Hid (Below w.heap.size w w5) := Lib.hid (A4.out.trans (B5.out.mono A4.out.size))
  clear A4
  clear hb5
  go_wp2_with fail
  refine (cyc_impl a0 _ kl0 ku0).mono ?_
  rintro e w6 ⟨b6, c6, rfl, hown6, hb6⟩
  have Oh_6 : Hid (PRow w6 w5.heap.size w6.heap.size b6 (cycB a0).length c6 (cycB a0)) := Lib.hid (PRow.lo hown6 (Nat.le_refl _))
  have B6 : Hid (Below w5.heap.size w5 w6) := Lib.hid (hb6)
  have B6_size := B6.out.size
  have Om_6 : Hid (PRow w6 w.heap.size w1.heap.size b1 (cycB a0).length c1 (cycB a0)) := Lib.hid (Om_5.out.keep B6.out)
  clear Om_5
  have Og_6 : Hid (PRow w6 w1.heap.size w2.heap.size b2 (cycB a0).length c2 (marks (1) (cycB a0).length)) := Lib.hid (Og_5.out.keep B6.out)
  clear Og_5
  have A6 : Hid (Below w.heap.size w w6) := Lib.hid (A5.out.trans (B6.out.mono A5.out.size))
  clear A5
  clear hown6 hb6
  go_wp2_with fail
  refine (eq_ints b6 b1 c6 c1 _ (cycB a0) _ (Oh_6.out.at HZ.out) (Om_6.out.at HZ.out) (by omega)).mono ?_
  rintro e w7 ⟨rfl, hb7⟩
  have B7 : Hid (Below w6.heap.size w6 w7) := Lib.hid (hb7)
  have B7_size := B7.out.size
  have Om_7 : Hid (PRow w7 w.heap.size w1.heap.size b1 (cycB a0).length c1 (cycB a0)) := Lib.hid (Om_6.out.keep B7.out)
  clear Om_6
  have Og_7 : Hid (PRow w7 w1.heap.size w2.heap.size b2 (cycB a0).length c2 (marks (1) (cycB a0).length)) := Lib.hid (Og_6.out.keep B7.out)
  clear Og_6
  have Oh_7 : Hid (PRow w7 w5.heap.size w6.heap.size b6 (cycB a0).length c6 (cycB a0)) := Lib.hid (Oh_6.out.keep B7.out)
  clear Oh_6
  have A7 : Hid (Below w.heap.size w w7) := Lib.hid (A6.out.trans (B7.out.mono A6.out.size))
  clear A6
  clear hb7
  go_wp2_with fail
  refine (held_ints (1) b2 c2 (cycB a0).length _ (Og_7.out.at (marks_int _ _ (by omega))) (by omega) (by omega)).mono ?_
  rintro e w8 ⟨rfl, hb8⟩
  have B8 : Hid (Below w7.heap.size w7 w8) := Lib.hid (hb8)
  have B8_size := B8.out.size
  have Om_8 : Hid (PRow w8 w.heap.size w1.heap.size b1 (cycB a0).length c1 (cycB a0)) := Lib.hid (Om_7.out.keep B8.out)
  clear Om_7
  have Og_8 : Hid (PRow w8 w1.heap.size w2.heap.size b2 (cycB a0).length c2 (marks (1) (cycB a0).length)) := Lib.hid (Og_7.out.keep B8.out)
  clear Og_7
  have Oh_8 : Hid (PRow w8 w5.heap.size w6.heap.size b6 (cycB a0).length c6 (cycB a0)) := Lib.hid (Oh_7.out.keep B8.out)
  clear Oh_7
  have A8 : Hid (Below w.heap.size w w8) := Lib.hid (A7.out.trans (B8.out.mono A7.out.size))
  clear A7
  clear hb8
  go_wp2
  go_ret
  exact ⟨rfl, A8.out⟩

set_option maxRecDepth 100000 in
theorem lifted (os : Os) (started : os.Started) (H : Type) (enc : TypeId × Value → H) :
    ReturnsInHanded {} Try.checked os 8 .any (Rows.fnExactCyclotomicSpec.pre6 enc Try.prog Try.f8 Rows.fnExactCyclotomicRow.domain false) (Rows.fnExactCyclotomicSpec.post enc Try.prog Try.f8 false true false false) := by
  refine returnsInHanded_of_change (C := Try.checked) own started (by kernel_rfl) Try.func8
    (ChangeSpec.witness6 (enc := enc) (C := Try.checked) false ⟨#[], #[.int .i64 0], []⟩ 8 (by kernel_rfl) (by kernel_rfl) (by kernel_rfl) (by kernel_rfl)) ?_
  intro W base args ds gs before hval0 hW hcnd _
  have hval : ∀ (j : Nat) t v, Try.f8.params[j]? = some t → args[j]? = some v → Value.okWide Try.prog W .any base t v := hval0
  have hW' := hW
  obtain ⟨p, q, hA0, hV, rfl, hfz, hnd⟩ := hW
  have hA : DataW.TrodAll enc Try.prog W 0 (fun _ => true) true Try.f8.params.toList args.toList ds p := hA0
  rw [Try.params8] at hA hval
  obtain ⟨v0, vs0, d0, ds0, p0, q0, hargs, rfl, rfl, h0, r0⟩ := trodAll_cons hA
  obtain ⟨rfl, rfl, rfl⟩ := trodAll_nil r0
  obtain rfl : args = #[v0] := by cases args; simp_all
  obtain ⟨rfl, rfl⟩ := trodVars_none hV
  obtain ⟨a0, rfl, rfl, rfl, w0⟩ := open_int Try.underlying3 (hval 0 3 v0 rfl rfl) h0
  clear hA0 hval0
  simp only [List.append_nil] at hW'
  refine (walk a0 w0 W).mono fun e W' ⟨he, bel⟩ => ?_
  subst he
  exact ⟨_, rfl, _, _, _, [], [], [], hW', trodAll_mk1 (shut_bool Try.underlying4 _), (trodAll_cons_mk (shut_int Try.underlying3 w0) trodAll_mk0), rfl, bel.frame _, fun h => by cases h⟩

theorem proved : Rows.FnExactCyclotomicSaid :=
  OpenClaim.holds_of_wide 8 Try.f8 rfl rfl rfl rfl rfl rfl rfl ⟨rfl, rfl, rfl, rfl, rfl⟩ rfl rfl rfl rfl rfl (by kernel_rfl) Try.func8 (by kernel_rfl)
    (of_decide_eq_true (by kernel_rfl)) (by unfold Func.isWrapper; rw [if_neg (of_decide_eq_false (by kernel_rfl))]; exact ⟨rfl, rfl⟩)
    (fun os started H enc _ => lifted os started H enc)
#print axioms proved
end Go.Proofs.Ytoejafpijcacoaa.fnExactCyclotomic
