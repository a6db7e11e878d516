/-
  'CirclesOf' of the program answers, at every two integers, as its model does, and owns the memory of its answer, of each slice in it. No condition.
-/
import Derived.Test.YtpbceckbmalabaaOch
import Derived.Test.YtpbceckbmalabaaOpen
import Derived.Deep.RegionHeld3
import Derived.ProofKit
namespace Go.Proofs.Ytpbceckbmalabaa.fnExactCirclesOf
open Go.ChangeShapes Go.WideShapes Go.ChangeAt Go.RowKit Rhy
set_option linter.unusedVariables false

theorem ci_facts {n d : Int} {L : List Rhy.Lit} (h : valsL L = cirB n d) : (∀ (i : Nat) (r : Rhy.Lit), L[i]? = some r → AllInt r.zs ∧ r.zs.length ≤ 24) ∧ (L.length ≤ 24 ∧ totM 1 L ≤ 1000) := by
  have hok : ∀ x ∈ cirB n d, AllInt x ∧ x.length ≤ 24 := fun x hx => by
    by_cases hc : MoC n d
    · rw [cirB_yes hc] at hx
      unfold cirsZ at hx
      rw [List.mem_map] at hx
      obtain ⟨p, _, rfl⟩ := hx
      have h1 := hc.1
      refine ⟨cirZ_int ⟨by omega, by omega⟩, ?_⟩
      rw [cirZ_len]
      have : n.toNat / Nat.gcd n.toNat d.toNat ≤ n.toNat := Nat.div_le_self _ _
      omega
    · rw [cirB_no hc] at hx; cases hx
  have hlen : L.length ≤ 24 := by
    rw [valsL_len h]
    by_cases hc : MoC n d
    · rw [cirB_yes hc, cirsZ_len]
      have h1 := hc.1
      have : Nat.gcd n.toNat d.toNat ≤ n.toNat := Nat.gcd_le_left _ (by omega)
      omega
    · rw [cirB_no hc]; simp
  have hi : ∀ (i : Nat) (r : Rhy.Lit), L[i]? = some r → AllInt r.zs ∧ r.zs.length ≤ 24 := fun i r hi => hok _ (List.mem_of_getElem? (valsL_at h hi))
  refine ⟨hi, hlen, Nat.le_trans (totM_bound 1 L 24 fun r hr => ?_) (by omega)⟩
  obtain ⟨i, e⟩ := List.mem_iff_getElem?.1 hr
  exact (hi i r e).2

set_option maxHeartbeats 1000000 in
set_option maxRecDepth 100000 in
theorem walk (a0 : Int) (a1 : Int) (w0 : (Lit.int .i64 a0).wf = true) (w1 : (Lit.int .i64 a1).wf = true) (w : World) :
    Calls Try.prog 7 #[.int .i64 a0, .int .i64 a1] w fun e w' => e = .returned (.bool true) ∧ Below w.heap.size w w' := by
  obtain ⟨kl0, ku0⟩ := bounds_i64 w0
  obtain ⟨kl1, ku1⟩ := bounds_i64 w1
  go_enter Try.func7, Try.ntmps7
  go_wp2_with fail
  refine (cir_spec a0 a1 _ kl0 ku0 kl1 ku1).mono ?_
  rintro e w1 ⟨b1, c1, L1, rfl, hit1, hvl1, hb1⟩
  have Sm_1 : Hid (RowL w1 w.heap.size w1.heap.size (.slice b1 (cirB a0 a1).length c1) L1) := Lib.hid (rowL_of (hit1.base (Nat.le_refl _)))
  have Vm := Lib.hid hvl1
  have Fm := Lib.hid (ci_facts hvl1)
  obtain ⟨lnm, ltm⟩ := (ci_facts hvl1).2
  have B1 : Hid (Below w.heap.size w w1) := Lib.hid (hb1)
  have B1_size := B1.out.size
  have A1 : Hid (Below w.heap.size w w1) := Lib.hid (B1.out)
  clear hit1 hvl1 hb1
  go_wp2_with fail
  refine (cir_impl a0 a1 _ kl0 ku0 kl1 ku1).mono ?_
  rintro e w2 ⟨b2, c2, L2, rfl, hit2, hvl2, hb2⟩
  have Sg_2 : Hid (RowL w2 w1.heap.size w2.heap.size (.slice b2 (cirB a0 a1).length c2) L2) := Lib.hid (rowL_of (hit2.base (Nat.le_refl _)))
  have Vg := Lib.hid hvl2
  have Fg := Lib.hid (ci_facts hvl2)
  obtain ⟨lng, ltg⟩ := (ci_facts hvl2).2
  have B2 : Hid (Below w1.heap.size w1 w2) := Lib.hid (hb2)
  have B2_size := B2.out.size
  have Sm_2 : Hid (RowL w2 w.heap.size w1.heap.size (.slice b1 (cirB a0 a1).length c1) L1) := Lib.hid (Sm_1.out.keep B2.out)
  clear Sm_1
  have A2 : Hid (Below w.heap.size w w2) := Lib.hid (A1.out.trans (B2.out.mono A1.out.size))
  clear A1
  clear hit2 hvl2 hb2
  go_wp2_with fail
  refine (eq_lits (.slice b2 (cirB a0 a1).length c2) (.slice b1 (cirB a0 a1).length c1) L2 L1 _ (Sg_2.out.at (fun i r hi => (Fg.out.1 i r hi).1)) (Sm_2.out.at (fun i r hi => (Fm.out.1 i r hi).1)) (by rw [Vg.out, Vm.out]) (by omega) (fun i r hi => Nat.le_trans (Fg.out.1 i r hi).2 (by omega))).mono ?_
  rintro e w3 ⟨rfl, hb3⟩
  have B3 : Hid (Below w2.heap.size w2 w3) := Lib.hid (hb3)
  have B3_size := B3.out.size
  have Sm_3 : Hid (RowL w3 w.heap.size w1.heap.size (.slice b1 (cirB a0 a1).length c1) L1) := Lib.hid (Sm_2.out.keep B3.out)
  clear Sm_2
  have Sg_3 : Hid (RowL w3 w1.heap.size w2.heap.size (.slice b2 (cirB a0 a1).length c2) L2) := Lib.hid (Sg_2.out.keep B3.out)
  clear Sg_2
  have A3 : Hid (Below w.heap.size w w3) := Lib.hid (A2.out.trans (B3.out.mono A2.out.size))
  clear A2
  clear hb3
  go_wp2_with fail
  refine (mark_lits w1.heap.size w2.heap.size 1 (.slice b2 (cirB a0 a1).length c2) L2 _ Sg_3.out (by omega) (by omega)).mono ?_
  rintro e w4 ⟨rfl, hown4, hb4⟩
  have B4 : Hid (Within w1.heap.size w2.heap.size w3 w4) := Lib.hid (hb4)
  have B4_size := B4.out.size
  have Sm_4 : Hid (RowL w4 w.heap.size w1.heap.size (.slice b1 (cirB a0 a1).length c1) L1) := Lib.hid (Sm_3.out.within B4.out (by omega))
  clear Sm_3
  have A4 : Hid (Below w.heap.size w w4) := Lib.hid (Rhy.Below.within A3.out B4.out (by omega) A3.out.size)
  clear A3
  have Sg_4 : Hid (RowL w4 w1.heap.size w2.heap.size (.slice b2 (cirB a0 a1).length c2) (markM 1 L2)) := Lib.hid hown4
  clear hown4 hb4 Sg_3
  go_wp2_with fail
  refine (held_lits 1 (.slice b2 (cirB a0 a1).length c2) L2 _ (Sg_4.out.at (markM_int (by omega))) (by omega) (by omega)).mono ?_
  rintro e w5 ⟨rfl, hb5⟩
  have B5 : Hid (Below w4.heap.size w4 w5) := Lib.hid (hb5)
  have B5_size := B5.out.size
  have Sm_5 : Hid (RowL w5 w.heap.size w1.heap.size (.slice b1 (cirB a0 a1).length c1) L1) := Lib.hid (Sm_4.out.keep B5.out)
  clear Sm_4
  have Sg_5 : Hid (RowL w5 w1.heap.size w2.heap.size (.slice b2 (cirB a0 a1).length c2) (markM 1 L2)) := Lib.hid (Sg_4.out.keep B5.out)
  clear Sg_4
  have A5 : Hid (Below w.heap.size w w5) := Lib.hid (A4.out.trans (B5.out.mono A4.out.size))
  clear A4
  clear hb5
  go_wp2_with fail
  refine (cir_impl a0 a1 _ kl0 ku0 kl1 ku1).mono ?_
  rintro e w6 ⟨b6, c6, L6, rfl, hit6, hvl6, hb6⟩
  have Sh_6 : Hid (RowL w6 w5.heap.size w6.heap.size (.slice b6 (cirB a0 a1).length c6) L6) := Lib.hid (rowL_of (hit6.base (Nat.le_refl _)))
  have Vh := Lib.hid hvl6
  have Fh := Lib.hid (ci_facts hvl6)
  obtain ⟨lnh, lth⟩ := (ci_facts hvl6).2
  have B6 : Hid (Below w5.heap.size w5 w6) := Lib.hid (hb6)
  have B6_size := B6.out.size
  have Sm_6 : Hid (RowL w6 w.heap.size w1.heap.size (.slice b1 (cirB a0 a1).length c1) L1) := Lib.hid (Sm_5.out.keep B6.out)
  clear Sm_5
  have Sg_6 : Hid (RowL w6 w1.heap.size w2.heap.size (.slice b2 (cirB a0 a1).length c2) (markM 1 L2)) := Lib.hid (Sg_5.out.keep B6.out)
  clear Sg_5
  have A6 : Hid (Below w.heap.size w w6) := Lib.hid (A5.out.trans (B6.out.mono A5.out.size))
  clear A5
  clear hit6 hvl6 hb6
  go_wp2_with fail
  refine (eq_lits (.slice b6 (cirB a0 a1).length c6) (.slice b1 (cirB a0 a1).length c1) L6 L1 _ (Sh_6.out.at (fun i r hi => (Fh.out.1 i r hi).1)) (Sm_6.out.at (fun i r hi => (Fm.out.1 i r hi).1)) (by rw [Vh.out, Vm.out]) (by omega) (fun i r hi => Nat.le_trans (Fh.out.1 i r hi).2 (by omega))).mono ?_
  rintro e w7 ⟨rfl, hb7⟩
  have B7 : Hid (Below w6.heap.size w6 w7) := Lib.hid (hb7)
  have B7_size := B7.out.size
  have Sm_7 : Hid (RowL w7 w.heap.size w1.heap.size (.slice b1 (cirB a0 a1).length c1) L1) := Lib.hid (Sm_6.out.keep B7.out)
  clear Sm_6
  have Sg_7 : Hid (RowL w7 w1.heap.size w2.heap.size (.slice b2 (cirB a0 a1).length c2) (markM 1 L2)) := Lib.hid (Sg_6.out.keep B7.out)
  clear Sg_6
  have Sh_7 : Hid (RowL w7 w5.heap.size w6.heap.size (.slice b6 (cirB a0 a1).length c6) L6) := Lib.hid (Sh_6.out.keep B7.out)
  clear Sh_6
  have A7 : Hid (Below w.heap.size w w7) := Lib.hid (A6.out.trans (B7.out.mono A6.out.size))
  clear A6
  clear hb7
  go_wp2_with fail
  refine (held_lits 1 (.slice b2 (cirB a0 a1).length c2) L2 _ (Sg_7.out.at (markM_int (by omega))) (by omega) (by omega)).mono ?_
  rintro e w8 ⟨rfl, hb8⟩
  have B8 : Hid (Below w7.heap.size w7 w8) := Lib.hid (hb8)
  have B8_size := B8.out.size
  have Sm_8 : Hid (RowL w8 w.heap.size w1.heap.size (.slice b1 (cirB a0 a1).length c1) L1) := Lib.hid (Sm_7.out.keep B8.out)
  clear Sm_7
  have Sg_8 : Hid (RowL w8 w1.heap.size w2.heap.size (.slice b2 (cirB a0 a1).length c2) (markM 1 L2)) := Lib.hid (Sg_7.out.keep B8.out)
  clear Sg_7
  have Sh_8 : Hid (RowL w8 w5.heap.size w6.heap.size (.slice b6 (cirB a0 a1).length c6) L6) := Lib.hid (Sh_7.out.keep B8.out)
  clear Sh_7
  have A8 : Hid (Below w.heap.size w w8) := Lib.hid (A7.out.trans (B8.out.mono A7.out.size))
  clear A7
  clear hb8
  go_wp2
  go_ret
  exact ⟨rfl, A8.out⟩

set_option maxRecDepth 100000 in
theorem lifted (os : Os) (started : os.Started) (H : Type) (enc : TypeId × Value → H) :
    ReturnsInHanded {} Try.checked os 7 .any (Rows.fnExactCirclesOfSpec.pre6 enc Try.prog Try.f7 Rows.fnExactCirclesOfRow.domain false) (Rows.fnExactCirclesOfSpec.post enc Try.prog Try.f7 false true false false) := by
  refine returnsInHanded_of_change (C := Try.checked) own started (by kernel_rfl) Try.func7
    (ChangeSpec.witness6 (enc := enc) (C := Try.checked) false ⟨#[], #[.int .i64 0, .int .i64 0], []⟩ 8 (by kernel_rfl) (by kernel_rfl) (by kernel_rfl) (by kernel_rfl)) ?_
  intro W base args ds gs before hval0 hW hcnd _
  have hval : ∀ (j : Nat) t v, Try.f7.params[j]? = some t → args[j]? = some v → Value.okWide Try.prog W .any base t v := hval0
  have hW' := hW
  obtain ⟨p, q, hA0, hV, rfl, hfz, hnd⟩ := hW
  have hA : DataW.TrodAll enc Try.prog W 0 (fun _ => true) true Try.f7.params.toList args.toList ds p := hA0
  rw [Try.params7] at hA hval
  obtain ⟨v0, vs0, d0, ds0, p0, q0, hargs, rfl, rfl, h0, r0⟩ := trodAll_cons hA
  obtain ⟨v1, vs1, d1, ds1, p1, q1, rfl, rfl, rfl, h1, r1⟩ := trodAll_cons r0
  obtain ⟨rfl, rfl, rfl⟩ := trodAll_nil r1
  obtain rfl : args = #[v0, v1] := by cases args; simp_all
  obtain ⟨rfl, rfl⟩ := trodVars_none hV
  obtain ⟨a0, rfl, rfl, rfl, w0⟩ := open_int Try.underlying3 (hval 0 3 v0 rfl rfl) h0
  obtain ⟨a1, rfl, rfl, rfl, w1⟩ := open_int Try.underlying3 (hval 1 3 v1 rfl rfl) h1
  clear hA0 hval0
  simp only [List.append_nil] at hW'
  refine (walk a0 a1 w0 w1 W).mono fun e W' ⟨he, bel⟩ => ?_
  subst he
  exact ⟨_, rfl, _, _, _, [], [], [], hW', trodAll_mk1 (shut_bool Try.underlying4 _), (trodAll_cons_mk (shut_int Try.underlying3 w0) (trodAll_cons_mk (shut_int Try.underlying3 w1) trodAll_mk0)), rfl, bel.frame _, fun h => by cases h⟩

theorem proved : Rows.FnExactCirclesOfSaid :=
  OpenClaim.holds_of_wide 7 Try.f7 rfl rfl rfl rfl rfl rfl rfl ⟨rfl, rfl, rfl, rfl, rfl⟩ rfl rfl rfl rfl rfl (by kernel_rfl) Try.func7 (by kernel_rfl)
    (of_decide_eq_true (by kernel_rfl)) (by unfold Func.isWrapper; rw [if_neg (of_decide_eq_false (by kernel_rfl))]; exact ⟨rfl, rfl⟩)
    (fun os started H enc _ => lifted os started H enc)
#print axioms proved
end Go.Proofs.Ytpbceckbmalabaa.fnExactCirclesOf
