/-
  'BlockLength' of the program answers, at every list of numbers, as its model does, leaves its argument as it was. No condition.
-/
import Derived.Test.YtldpikcgeijkpaaLnh
import Derived.Test.YtldpikcgeijkpaaOpen
import Derived.Deep.RegionHeld3
import Derived.ProofKit
namespace Go.Proofs.Ytldpikcgeijkpaa.fnExactBlockLength
open Go.ChangeShapes Go.WideShapes Go.ChangeAt Go.RowKit Rhy
set_option linter.unusedVariables false


set_option maxHeartbeats 1000000 in
set_option maxRecDepth 100000 in
theorem walk (a0 : Option Addr) (len0 cap0 : Nat) (z0 : List Int) (w : World) (w0 : OpenedI w a0 len0 z0) :
    Calls Try.prog 11 #[.slice a0 len0 cap0] w fun e w' => e = .returned (.bool true) ∧ Below w.heap.size w w' := by
  obtain ⟨i0, m0⟩ := w0
  have HS0 := Lib.hid i0
  clear i0
  by_cases hl0 : 1048576 < len0
  · go_enter Try.func11, Try.ntmps11
    go_wp2
    go_ret
    exact ⟨rfl, Below.refl _ _⟩
  have le0 : len0 ≤ 1048576 := by omega
  have lz0 : z0.length ≤ 1048576 := by have := HS0.out.1; omega
  go_enter Try.func11, Try.ntmps11
  go_wp2_with fail
  refine (copy_len a0 len0 cap0 z0 _ (HS0.out) le0).mono ?_
  rintro e w1 ⟨b1, c1, rfl, hown1, hb1⟩
  have Op0_1 : Hid (Row w1 w.heap.size w1.heap.size b1 z0.length c1 z0) := Lib.hid (row_of (own_base hown1 (Nat.le_refl _)))
  have B1 : Hid (Below w.heap.size w w1) := Lib.hid (hb1)
  have B1_size := B1.out.size
  have A1 : Hid (Below w.heap.size w w1) := Lib.hid (B1.out)
  clear hown1 hb1
  go_wp2_with fail
  refine (lbl_spec b1 z0.length c1 z0 _ (Op0_1.out.at HS0.out.int) lz0).mono ?_
  rintro e w2 ⟨rfl, hb2⟩
  have B2 : Hid (Below w1.heap.size w1 w2) := Lib.hid (hb2)
  have B2_size := B2.out.size
  have Op0_2 : Hid (Row w2 w.heap.size w1.heap.size b1 z0.length c1 z0) := Lib.hid (Op0_1.out.keep B2.out)
  clear Op0_1
  have A2 : Hid (Below w.heap.size w w2) := Lib.hid (A1.out.trans (B2.out.mono A1.out.size))
  clear A1
  clear hb2
  go_wp2_with fail
  refine (copy_len a0 len0 cap0 z0 _ (HS0.out.below A2.out) le0).mono ?_
  rintro e w3 ⟨b3, c3, rfl, hown3, hb3⟩
  have Ox0_3 : Hid (Row w3 w2.heap.size w3.heap.size b3 z0.length c3 z0) := Lib.hid (row_of (own_base hown3 (Nat.le_refl _)))
  have B3 : Hid (Below w2.heap.size w2 w3) := Lib.hid (hb3)
  have B3_size := B3.out.size
  have Op0_3 : Hid (Row w3 w.heap.size w1.heap.size b1 z0.length c1 z0) := Lib.hid (Op0_2.out.keep B3.out)
  clear Op0_2
  have A3 : Hid (Below w.heap.size w w3) := Lib.hid (A2.out.trans (B3.out.mono A2.out.size))
  clear A2
  clear hown3 hb3
  go_wp2_with fail
  refine (lbl_impl b3 z0.length c3 z0 _ (Ox0_3.out.at HS0.out.int) lz0 (own_cap Ox0_3.out.1)).mono ?_
  rintro e w4 ⟨rfl, hb4⟩
  have B4 : Hid (Below w3.heap.size w3 w4) := Lib.hid (hb4)
  have B4_size := B4.out.size
  have Op0_4 : Hid (Row w4 w.heap.size w1.heap.size b1 z0.length c1 z0) := Lib.hid (Op0_3.out.keep B4.out)
  clear Op0_3
  have Ox0_4 : Hid (Row w4 w2.heap.size w3.heap.size b3 z0.length c3 z0) := Lib.hid (Ox0_3.out.keep B4.out)
  clear Ox0_3
  have A4 : Hid (Below w.heap.size w w4) := Lib.hid (A3.out.trans (B4.out.mono A3.out.size))
  clear A3
  clear hb4
  go_wp2_with fail
  refine (copy_len a0 len0 cap0 z0 _ (HS0.out.below A4.out) le0).mono ?_
  rintro e w5 ⟨b5, c5, rfl, hown5, hb5⟩
  have Oz0_5 : Hid (Row w5 w4.heap.size w5.heap.size b5 z0.length c5 z0) := Lib.hid (row_of (own_base hown5 (Nat.le_refl _)))
  have B5 : Hid (Below w4.heap.size w4 w5) := Lib.hid (hb5)
  have B5_size := B5.out.size
  have Op0_5 : Hid (Row w5 w.heap.size w1.heap.size b1 z0.length c1 z0) := Lib.hid (Op0_4.out.keep B5.out)
  clear Op0_4
  have Ox0_5 : Hid (Row w5 w2.heap.size w3.heap.size b3 z0.length c3 z0) := Lib.hid (Ox0_4.out.keep B5.out)
  clear Ox0_4
  have A5 : Hid (Below w.heap.size w w5) := Lib.hid (A4.out.trans (B5.out.mono A4.out.size))
  clear A4
  clear hown5 hb5
  go_wp2_with fail
  refine (eq_ints b3 b5 c3 c5 _ z0 _ (Ox0_5.out.at HS0.out.int) (Oz0_5.out.at HS0.out.int) (by omega)).mono ?_
  rintro e w6 ⟨rfl, hb6⟩
  have B6 : Hid (Below w5.heap.size w5 w6) := Lib.hid (hb6)
  have B6_size := B6.out.size
  have Op0_6 : Hid (Row w6 w.heap.size w1.heap.size b1 z0.length c1 z0) := Lib.hid (Op0_5.out.keep B6.out)
  clear Op0_5
  have Ox0_6 : Hid (Row w6 w2.heap.size w3.heap.size b3 z0.length c3 z0) := Lib.hid (Ox0_5.out.keep B6.out)
  clear Ox0_5
  have Oz0_6 : Hid (Row w6 w4.heap.size w5.heap.size b5 z0.length c5 z0) := Lib.hid (Oz0_5.out.keep B6.out)
  clear Oz0_5
  have A6 : Hid (Below w.heap.size w w6) := Lib.hid (A5.out.trans (B6.out.mono A5.out.size))
  clear A5
  clear hb6
  go_wp2
  go_ret
  exact ⟨rfl, A6.out⟩

set_option maxRecDepth 100000 in
theorem lifted (os : Os) (started : os.Started) (H : Type) (enc : TypeId × Value → H) :
    ReturnsInHanded {} Try.checked os 11 .any (Rows.fnExactBlockLengthSpec.pre6 enc Try.prog Try.f11 Rows.fnExactBlockLengthRow.domain false) (Rows.fnExactBlockLengthSpec.post enc Try.prog Try.f11 false true false false) := by
  refine returnsInHanded_of_change (C := Try.checked) own started (by kernel_rfl) Try.func11
    (ChangeSpec.witness6 (enc := enc) (C := Try.checked) false ⟨#[], #[.slice none 0 0], []⟩ 8 (by kernel_rfl) (by kernel_rfl) (by kernel_rfl) (by kernel_rfl)) ?_
  intro W base args ds gs before hval0 hW hcnd _
  have hval : ∀ (j : Nat) t v, Try.f11.params[j]? = some t → args[j]? = some v → Value.okWide Try.prog W .any base t v := hval0
  have hW' := hW
  obtain ⟨p, q, hA0, hV, rfl, hfz, hnd⟩ := hW
  have hA : DataW.TrodAll enc Try.prog W 0 (fun _ => true) true Try.f11.params.toList args.toList ds p := hA0
  rw [Try.params11] at hA hval
  obtain ⟨v0, vs0, d0, ds0, p0, q0, hargs, rfl, rfl, h0, r0⟩ := trodAll_cons hA
  obtain ⟨rfl, rfl, rfl⟩ := trodAll_nil r0
  obtain rfl : args = #[v0] := by cases args; simp_all
  obtain ⟨rfl, rfl⟩ := trodVars_none hV
  have k0 := h0
  have lt0 : ∀ x ∈ p0, x.block < W.heap.size := by obtain ⟨m, hm⟩ := k0; exact DataW.trod_lt m _ _ _ hm
  obtain ⟨a0, len0, cap0, z0, rfl, w0⟩ := openedI (hval 0 23 v0 rfl rfl) h0
  clear hA0 hval0
  refine (walk a0 len0 cap0 z0 W w0).mono fun e W' ⟨he, bel⟩ => ?_
  subst he
  exact ⟨_, rfl, _, _, _, [], _, [], hW', trodAll_mk1 (shut_bool Try.underlying4 _), (trodAll_cons_mk (Below.trod laidOut (by kernel_rfl) (of_decide_eq_true (by kernel_rfl)) k0 bel lt0) trodAll_mk0), rfl, bel.frame _, fun h => by cases h⟩

theorem proved : Rows.FnExactBlockLengthSaid :=
  OpenClaim.holds_of_wide 11 Try.f11 rfl rfl rfl rfl rfl rfl rfl ⟨rfl, rfl, rfl, rfl, rfl⟩ rfl rfl rfl rfl rfl (by kernel_rfl) Try.func11 (by kernel_rfl)
    (of_decide_eq_true (by kernel_rfl)) (by unfold Func.isWrapper; rw [if_neg (of_decide_eq_false (by kernel_rfl))]; exact ⟨rfl, rfl⟩)
    (fun os started H enc _ => lifted os started H enc)
#print axioms proved
end Go.Proofs.Ytldpikcgeijkpaa.fnExactBlockLength
