/-
  'EntriesOf' of the program answers, at every list of numbers and every number, as its model does, leaves its argument as it was, and owns the memory of its answer. No condition.
-/
import Derived.Test.YtldpikcgeijkpaaLnh
import Derived.Test.YtldpikcgeijkpaaOpen
import Derived.Deep.RegionHeld3
import Derived.ProofKit
namespace Go.Proofs.Ytldpikcgeijkpaa.fnExactEntriesOf
open Go.ChangeShapes Go.WideShapes Go.ChangeAt Go.RowKit Rhy
set_option linter.unusedVariables false


set_option maxHeartbeats 1000000 in
set_option maxRecDepth 100000 in
theorem walk (a0 : Option Addr) (len0 cap0 : Nat) (z0 : List Int) (a1 : Int) (w : World) (w0 : OpenedI w a0 len0 z0) (w1 : (Lit.int .i64 a1).wf = true) :
    Calls Try.prog 5 #[.slice a0 len0 cap0, .int .i64 a1] w fun e w' => e = .returned (.bool true) ∧ Below w.heap.size w w' := by
  obtain ⟨i0, m0⟩ := w0
  have HS0 := Lib.hid i0
  clear i0
  obtain ⟨kl1, ku1⟩ := bounds_i64 w1
  by_cases hl0 : 1048576 < len0
  · go_enter Try.func5, Try.ntmps5
    go_wp2
    go_ret
    exact ⟨rfl, Below.refl _ _⟩
  have le0 : len0 ≤ 1048576 := by omega
  have lz0 : z0.length ≤ 1048576 := by have := HS0.out.1; omega
  go_enter Try.func5, Try.ntmps5
  have HZ : Hid (AllInt (entB z0 a1)) := Lib.hid ((entB_fact z0 a1).1)
  have hzl : (entB z0 a1).length ≤ 1048576 := Nat.le_trans (entB_fact z0 a1).2 (by omega)
  go_wp2_with fail
  refine (copy_len a0 len0 cap0 z0 _ (HS0.out) le0).mono ?_
  rintro e w1 ⟨b1, c1, rfl, hown1, hb1⟩
  have Op0_1 : Hid (Row w1 w.heap.size w1.heap.size b1 z0.length c1 z0) := Lib.hid (row_of (own_base hown1 (Nat.le_refl _)))
  have B1 : Hid (Below w.heap.size w w1) := Lib.hid (hb1)
  have B1_size := B1.out.size
  have A1 : Hid (Below w.heap.size w w1) := Lib.hid (B1.out)
  clear hown1 hb1
  go_wp2_with fail
  refine (lent_spec b1 z0.length c1 z0 a1 _ (Op0_1.out.at HS0.out.int) lz0 kl1 ku1).mono ?_
  rintro e w2 ⟨b2, c2, rfl, hown2, hb2⟩
  have Om_2 : Hid (Row w2 w1.heap.size w2.heap.size b2 (entB z0 a1).length c2 (entB z0 a1)) := Lib.hid (row_of (own_base hown2 (Nat.le_refl _)))
  have B2 : Hid (Below w1.heap.size w1 w2) := Lib.hid (hb2)
  have B2_size := B2.out.size
  have Op0_2 : Hid (Row w2 w.heap.size w1.heap.size b1 z0.length c1 z0) := Lib.hid (Op0_1.out.keep B2.out)
  clear Op0_1
  have A2 : Hid (Below w.heap.size w w2) := Lib.hid (A1.out.trans (B2.out.mono A1.out.size))
  clear A1
  clear hown2 hb2
  go_wp2_with fail
  refine (copy_len a0 len0 cap0 z0 _ (HS0.out.below A2.out) le0).mono ?_
  rintro e w3 ⟨b3, c3, rfl, hown3, hb3⟩
  have Ox0_3 : Hid (Row w3 w2.heap.size w3.heap.size b3 z0.length c3 z0) := Lib.hid (row_of (own_base hown3 (Nat.le_refl _)))
  have B3 : Hid (Below w2.heap.size w2 w3) := Lib.hid (hb3)
  have B3_size := B3.out.size
  have Op0_3 : Hid (Row w3 w.heap.size w1.heap.size b1 z0.length c1 z0) := Lib.hid (Op0_2.out.keep B3.out)
  clear Op0_2
  have Om_3 : Hid (Row w3 w1.heap.size w2.heap.size b2 (entB z0 a1).length c2 (entB z0 a1)) := Lib.hid (Om_2.out.keep B3.out)
  clear Om_2
  have A3 : Hid (Below w.heap.size w w3) := Lib.hid (A2.out.trans (B3.out.mono A2.out.size))
  clear A2
  clear hown3 hb3
  go_wp2_with fail
  refine (lent_impl b3 z0.length c3 z0 a1 _ (Ox0_3.out.at HS0.out.int) lz0 (own_cap Ox0_3.out.1) kl1 ku1).mono ?_
  rintro e w4 ⟨b4, c4, rfl, hown4, hb4⟩
  have Og_4 : Hid (Row w4 w3.heap.size w4.heap.size b4 (entB z0 a1).length c4 (entB z0 a1)) := Lib.hid (row_of (own_base hown4 (Nat.le_refl _)))
  have B4 : Hid (Below w3.heap.size w3 w4) := Lib.hid (hb4)
  have B4_size := B4.out.size
  have Op0_4 : Hid (Row w4 w.heap.size w1.heap.size b1 z0.length c1 z0) := Lib.hid (Op0_3.out.keep B4.out)
  clear Op0_3
  have Om_4 : Hid (Row w4 w1.heap.size w2.heap.size b2 (entB z0 a1).length c2 (entB z0 a1)) := Lib.hid (Om_3.out.keep B4.out)
  clear Om_3
  have Ox0_4 : Hid (Row w4 w2.heap.size w3.heap.size b3 z0.length c3 z0) := Lib.hid (Ox0_3.out.keep B4.out)
  clear Ox0_3
  have A4 : Hid (Below w.heap.size w w4) := Lib.hid (A3.out.trans (B4.out.mono A3.out.size))
  clear A3
  clear hown4 hb4
  go_wp2_with fail
  refine (eq_ints b4 b2 c4 c2 _ (entB z0 a1) _ (Og_4.out.at HZ.out) (Om_4.out.at HZ.out) (by omega)).mono ?_
  rintro e w5 ⟨rfl, hb5⟩
  have B5 : Hid (Below w4.heap.size w4 w5) := Lib.hid (hb5)
  have B5_size := B5.out.size
  have Op0_5 : Hid (Row w5 w.heap.size w1.heap.size b1 z0.length c1 z0) := Lib.hid (Op0_4.out.keep B5.out)
  clear Op0_4
  have Om_5 : Hid (Row w5 w1.heap.size w2.heap.size b2 (entB z0 a1).length c2 (entB z0 a1)) := Lib.hid (Om_4.out.keep B5.out)
  clear Om_4
  have Ox0_5 : Hid (Row w5 w2.heap.size w3.heap.size b3 z0.length c3 z0) := Lib.hid (Ox0_4.out.keep B5.out)
  clear Ox0_4
  have Og_5 : Hid (Row w5 w3.heap.size w4.heap.size b4 (entB z0 a1).length c4 (entB z0 a1)) := Lib.hid (Og_4.out.keep B5.out)
  clear Og_4
  have A5 : Hid (Below w.heap.size w w5) := Lib.hid (A4.out.trans (B5.out.mono A4.out.size))
  clear A4
  clear hb5
  go_wp2_with fail
  refine (copy_len a0 len0 cap0 z0 _ (HS0.out.below A5.out) le0).mono ?_
  rintro e w6 ⟨b6, c6, rfl, hown6, hb6⟩
  have Oz0_6 : Hid (Row w6 w5.heap.size w6.heap.size b6 z0.length c6 z0) := Lib.hid (row_of (own_base hown6 (Nat.le_refl _)))
  have B6 : Hid (Below w5.heap.size w5 w6) := Lib.hid (hb6)
  have B6_size := B6.out.size
  have Op0_6 : Hid (Row w6 w.heap.size w1.heap.size b1 z0.length c1 z0) := Lib.hid (Op0_5.out.keep B6.out)
  clear Op0_5
  have Om_6 : Hid (Row w6 w1.heap.size w2.heap.size b2 (entB z0 a1).length c2 (entB z0 a1)) := Lib.hid (Om_5.out.keep B6.out)
  clear Om_5
  have Ox0_6 : Hid (Row w6 w2.heap.size w3.heap.size b3 z0.length c3 z0) := Lib.hid (Ox0_5.out.keep B6.out)
  clear Ox0_5
  have Og_6 : Hid (Row w6 w3.heap.size w4.heap.size b4 (entB z0 a1).length c4 (entB z0 a1)) := Lib.hid (Og_5.out.keep B6.out)
  clear Og_5
  have A6 : Hid (Below w.heap.size w w6) := Lib.hid (A5.out.trans (B6.out.mono A5.out.size))
  clear A5
  clear hown6 hb6
  go_wp2_with fail
  refine (eq_ints b3 b6 c3 c6 _ z0 _ (Ox0_6.out.at HS0.out.int) (Oz0_6.out.at HS0.out.int) (by omega)).mono ?_
  rintro e w7 ⟨rfl, hb7⟩
  have B7 : Hid (Below w6.heap.size w6 w7) := Lib.hid (hb7)
  have B7_size := B7.out.size
  have Op0_7 : Hid (Row w7 w.heap.size w1.heap.size b1 z0.length c1 z0) := Lib.hid (Op0_6.out.keep B7.out)
  clear Op0_6
  have Om_7 : Hid (Row w7 w1.heap.size w2.heap.size b2 (entB z0 a1).length c2 (entB z0 a1)) := Lib.hid (Om_6.out.keep B7.out)
  clear Om_6
  have Ox0_7 : Hid (Row w7 w2.heap.size w3.heap.size b3 z0.length c3 z0) := Lib.hid (Ox0_6.out.keep B7.out)
  clear Ox0_6
  have Og_7 : Hid (Row w7 w3.heap.size w4.heap.size b4 (entB z0 a1).length c4 (entB z0 a1)) := Lib.hid (Og_6.out.keep B7.out)
  clear Og_6
  have Oz0_7 : Hid (Row w7 w5.heap.size w6.heap.size b6 z0.length c6 z0) := Lib.hid (Oz0_6.out.keep B7.out)
  clear Oz0_6
  have A7 : Hid (Below w.heap.size w w7) := Lib.hid (A6.out.trans (B7.out.mono A6.out.size))
  clear A6
  clear hb7
  go_wp2_with fail
  refine (mark_ints w2.heap.size w3.heap.size (1) b3 c3 _ _ _ Ox0_7.out (by omega) (by omega)).mono ?_
  rintro e w8 ⟨rfl, hown8, hb8⟩
  have B8 : Hid (Within w2.heap.size w3.heap.size w7 w8) := Lib.hid (hb8)
  have B8_size := B8.out.size
  have Op0_8 : Hid (Row w8 w.heap.size w1.heap.size b1 z0.length c1 z0) := Lib.hid (Op0_7.out.within B8.out (by omega))
  clear Op0_7
  have Om_8 : Hid (Row w8 w1.heap.size w2.heap.size b2 (entB z0 a1).length c2 (entB z0 a1)) := Lib.hid (Om_7.out.within B8.out (by omega))
  clear Om_7
  have Og_8 : Hid (Row w8 w3.heap.size w4.heap.size b4 (entB z0 a1).length c4 (entB z0 a1)) := Lib.hid (Og_7.out.within B8.out (by omega))
  clear Og_7
  have A8 : Hid (Below w.heap.size w w8) := Lib.hid (Rhy.Below.within A7.out B8.out (by omega) A7.out.size)
  clear A7
  have Ox0_8 : Hid (Row w8 w2.heap.size w3.heap.size b3 z0.length c3 (marks (1) z0.length)) := Lib.hid hown8
  clear hown8 hb8 Ox0_7
  go_wp2_with fail
  refine (eq_ints b4 b2 c4 c2 _ (entB z0 a1) _ (Og_8.out.at HZ.out) (Om_8.out.at HZ.out) (by omega)).mono ?_
  rintro e w9 ⟨rfl, hb9⟩
  have B9 : Hid (Below w8.heap.size w8 w9) := Lib.hid (hb9)
  have B9_size := B9.out.size
  have Op0_9 : Hid (Row w9 w.heap.size w1.heap.size b1 z0.length c1 z0) := Lib.hid (Op0_8.out.keep B9.out)
  clear Op0_8
  have Om_9 : Hid (Row w9 w1.heap.size w2.heap.size b2 (entB z0 a1).length c2 (entB z0 a1)) := Lib.hid (Om_8.out.keep B9.out)
  clear Om_8
  have Ox0_9 : Hid (Row w9 w2.heap.size w3.heap.size b3 z0.length c3 (marks (1) z0.length)) := Lib.hid (Ox0_8.out.keep B9.out)
  clear Ox0_8
  have Og_9 : Hid (Row w9 w3.heap.size w4.heap.size b4 (entB z0 a1).length c4 (entB z0 a1)) := Lib.hid (Og_8.out.keep B9.out)
  clear Og_8
  have A9 : Hid (Below w.heap.size w w9) := Lib.hid (A8.out.trans (B9.out.mono A8.out.size))
  clear A8
  clear hb9
  go_wp2_with fail
  refine (mark_ints w3.heap.size w4.heap.size (1) b4 c4 _ _ _ Og_9.out (by omega) (by omega)).mono ?_
  rintro e w10 ⟨rfl, hown10, hb10⟩
  have B10 : Hid (Within w3.heap.size w4.heap.size w9 w10) := Lib.hid (hb10)
  have B10_size := B10.out.size
  have Op0_10 : Hid (Row w10 w.heap.size w1.heap.size b1 z0.length c1 z0) := Lib.hid (Op0_9.out.within B10.out (by omega))
  clear Op0_9
  have Om_10 : Hid (Row w10 w1.heap.size w2.heap.size b2 (entB z0 a1).length c2 (entB z0 a1)) := Lib.hid (Om_9.out.within B10.out (by omega))
  clear Om_9
  have Ox0_10 : Hid (Row w10 w2.heap.size w3.heap.size b3 z0.length c3 (marks (1) z0.length)) := Lib.hid (Ox0_9.out.within B10.out (by omega))
  clear Ox0_9
  have A10 : Hid (Below w.heap.size w w10) := Lib.hid (Rhy.Below.within A9.out B10.out (by omega) A9.out.size)
  clear A9
  have Og_10 : Hid (Row w10 w3.heap.size w4.heap.size b4 (entB z0 a1).length c4 (marks (1) (entB z0 a1).length)) := Lib.hid hown10
  clear hown10 hb10 Og_9
  go_wp2_with fail
  refine (held_ints (1) b4 c4 (entB z0 a1).length _ (Og_10.out.at (marks_int _ _ (by omega))) (by omega) (by omega)).mono ?_
  rintro e w11 ⟨rfl, hb11⟩
  have B11 : Hid (Below w10.heap.size w10 w11) := Lib.hid (hb11)
  have B11_size := B11.out.size
  have Op0_11 : Hid (Row w11 w.heap.size w1.heap.size b1 z0.length c1 z0) := Lib.hid (Op0_10.out.keep B11.out)
  clear Op0_10
  have Om_11 : Hid (Row w11 w1.heap.size w2.heap.size b2 (entB z0 a1).length c2 (entB z0 a1)) := Lib.hid (Om_10.out.keep B11.out)
  clear Om_10
  have Ox0_11 : Hid (Row w11 w2.heap.size w3.heap.size b3 z0.length c3 (marks (1) z0.length)) := Lib.hid (Ox0_10.out.keep B11.out)
  clear Ox0_10
  have Og_11 : Hid (Row w11 w3.heap.size w4.heap.size b4 (entB z0 a1).length c4 (marks (1) (entB z0 a1).length)) := Lib.hid (Og_10.out.keep B11.out)
  clear Og_10
  have A11 : Hid (Below w.heap.size w w11) := Lib.hid (A10.out.trans (B11.out.mono A10.out.size))
  clear A10
  clear hb11
  go_wp2_with fail
  refine (copy_len a0 len0 cap0 z0 _ (HS0.out.below A11.out) le0).mono ?_
  rintro e w12 ⟨b12, c12, rfl, hown12, hb12⟩
  have Oy0_12 : Hid (Row w12 w11.heap.size w12.heap.size b12 z0.length c12 z0) := Lib.hid (row_of (own_base hown12 (Nat.le_refl _)))
  have B12 : Hid (Below w11.heap.size w11 w12) := Lib.hid (hb12)
  have B12_size := B12.out.size
  have Op0_12 : Hid (Row w12 w.heap.size w1.heap.size b1 z0.length c1 z0) := Lib.hid (Op0_11.out.keep B12.out)
  clear Op0_11
  have Om_12 : Hid (Row w12 w1.heap.size w2.heap.size b2 (entB z0 a1).length c2 (entB z0 a1)) := Lib.hid (Om_11.out.keep B12.out)
  clear Om_11
  have Ox0_12 : Hid (Row w12 w2.heap.size w3.heap.size b3 z0.length c3 (marks (1) z0.length)) := Lib.hid (Ox0_11.out.keep B12.out)
  clear Ox0_11
  have Og_12 : Hid (Row w12 w3.heap.size w4.heap.size b4 (entB z0 a1).length c4 (marks (1) (entB z0 a1).length)) := Lib.hid (Og_11.out.keep B12.out)
  clear Og_11
  have A12 : Hid (Below w.heap.size w w12) := Lib.hid (A11.out.trans (B12.out.mono A11.out.size))
  clear A11
  clear hown12 hb12
  go_wp2_with fail
  refine (lent_impl b12 z0.length c12 z0 a1 _ (Oy0_12.out.at HS0.out.int) lz0 (own_cap Oy0_12.out.1) kl1 ku1).mono ?_
  rintro e w13 ⟨b13, c13, rfl, hown13, hb13⟩
  have Oh_13 : Hid (Row w13 w12.heap.size w13.heap.size b13 (entB z0 a1).length c13 (entB z0 a1)) := Lib.hid (row_of (own_base hown13 (Nat.le_refl _)))
  have B13 : Hid (Below w12.heap.size w12 w13) := Lib.hid (hb13)
  have B13_size := B13.out.size
  have Op0_13 : Hid (Row w13 w.heap.size w1.heap.size b1 z0.length c1 z0) := Lib.hid (Op0_12.out.keep B13.out)
  clear Op0_12
  have Om_13 : Hid (Row w13 w1.heap.size w2.heap.size b2 (entB z0 a1).length c2 (entB z0 a1)) := Lib.hid (Om_12.out.keep B13.out)
  clear Om_12
  have Ox0_13 : Hid (Row w13 w2.heap.size w3.heap.size b3 z0.length c3 (marks (1) z0.length)) := Lib.hid (Ox0_12.out.keep B13.out)
  clear Ox0_12
  have Og_13 : Hid (Row w13 w3.heap.size w4.heap.size b4 (entB z0 a1).length c4 (marks (1) (entB z0 a1).length)) := Lib.hid (Og_12.out.keep B13.out)
  clear Og_12
  have Oy0_13 : Hid (Row w13 w11.heap.size w12.heap.size b12 z0.length c12 z0) := Lib.hid (Oy0_12.out.keep B13.out)
  clear Oy0_12
  have A13 : Hid (Below w.heap.size w w13) := Lib.hid (A12.out.trans (B13.out.mono A12.out.size))
  clear A12
  clear hown13 hb13
  go_wp2_with fail
  refine (eq_ints b13 b2 c13 c2 _ (entB z0 a1) _ (Oh_13.out.at HZ.out) (Om_13.out.at HZ.out) (by omega)).mono ?_
  rintro e w14 ⟨rfl, hb14⟩
  have B14 : Hid (Below w13.heap.size w13 w14) := Lib.hid (hb14)
  have B14_size := B14.out.size
  have Op0_14 : Hid (Row w14 w.heap.size w1.heap.size b1 z0.length c1 z0) := Lib.hid (Op0_13.out.keep B14.out)
  clear Op0_13
  have Om_14 : Hid (Row w14 w1.heap.size w2.heap.size b2 (entB z0 a1).length c2 (entB z0 a1)) := Lib.hid (Om_13.out.keep B14.out)
  clear Om_13
  have Ox0_14 : Hid (Row w14 w2.heap.size w3.heap.size b3 z0.length c3 (marks (1) z0.length)) := Lib.hid (Ox0_13.out.keep B14.out)
  clear Ox0_13
  have Og_14 : Hid (Row w14 w3.heap.size w4.heap.size b4 (entB z0 a1).length c4 (marks (1) (entB z0 a1).length)) := Lib.hid (Og_13.out.keep B14.out)
  clear Og_13
  have Oy0_14 : Hid (Row w14 w11.heap.size w12.heap.size b12 z0.length c12 z0) := Lib.hid (Oy0_13.out.keep B14.out)
  clear Oy0_13
  have Oh_14 : Hid (Row w14 w12.heap.size w13.heap.size b13 (entB z0 a1).length c13 (entB z0 a1)) := Lib.hid (Oh_13.out.keep B14.out)
  clear Oh_13
  have A14 : Hid (Below w.heap.size w w14) := Lib.hid (A13.out.trans (B14.out.mono A13.out.size))
  clear A13
  clear hb14
  go_wp2_with fail
  refine (held_ints (1) b4 c4 (entB z0 a1).length _ (Og_14.out.at (marks_int _ _ (by omega))) (by omega) (by omega)).mono ?_
  rintro e w15 ⟨rfl, hb15⟩
  have B15 : Hid (Below w14.heap.size w14 w15) := Lib.hid (hb15)
  have B15_size := B15.out.size
  have Op0_15 : Hid (Row w15 w.heap.size w1.heap.size b1 z0.length c1 z0) := Lib.hid (Op0_14.out.keep B15.out)
  clear Op0_14
  have Om_15 : Hid (Row w15 w1.heap.size w2.heap.size b2 (entB z0 a1).length c2 (entB z0 a1)) := Lib.hid (Om_14.out.keep B15.out)
  clear Om_14
  have Ox0_15 : Hid (Row w15 w2.heap.size w3.heap.size b3 z0.length c3 (marks (1) z0.length)) := Lib.hid (Ox0_14.out.keep B15.out)
  clear Ox0_14
  have Og_15 : Hid (Row w15 w3.heap.size w4.heap.size b4 (entB z0 a1).length c4 (marks (1) (entB z0 a1).length)) := Lib.hid (Og_14.out.keep B15.out)
  clear Og_14
  have Oy0_15 : Hid (Row w15 w11.heap.size w12.heap.size b12 z0.length c12 z0) := Lib.hid (Oy0_14.out.keep B15.out)
  clear Oy0_14
  have Oh_15 : Hid (Row w15 w12.heap.size w13.heap.size b13 (entB z0 a1).length c13 (entB z0 a1)) := Lib.hid (Oh_14.out.keep B15.out)
  clear Oh_14
  have A15 : Hid (Below w.heap.size w w15) := Lib.hid (A14.out.trans (B15.out.mono A14.out.size))
  clear A14
  clear hb15
  go_wp2
  go_ret
  exact ⟨rfl, A15.out⟩

set_option maxRecDepth 100000 in
theorem lifted (os : Os) (started : os.Started) (H : Type) (enc : TypeId × Value → H) :
    ReturnsInHanded {} Try.checked os 5 .any (Rows.fnExactEntriesOfSpec.pre6 enc Try.prog Try.f5 Rows.fnExactEntriesOfRow.domain false) (Rows.fnExactEntriesOfSpec.post enc Try.prog Try.f5 false true false false) := by
  refine returnsInHanded_of_change (C := Try.checked) own started (by kernel_rfl) Try.func5
    (ChangeSpec.witness6 (enc := enc) (C := Try.checked) false ⟨#[], #[.slice none 0 0, .int .i64 0], []⟩ 8 (by kernel_rfl) (by kernel_rfl) (by kernel_rfl) (by kernel_rfl)) ?_
  intro W base args ds gs before hval0 hW hcnd _
  have hval : ∀ (j : Nat) t v, Try.f5.params[j]? = some t → args[j]? = some v → Value.okWide Try.prog W .any base t v := hval0
  have hW' := hW
  obtain ⟨p, q, hA0, hV, rfl, hfz, hnd⟩ := hW
  have hA : DataW.TrodAll enc Try.prog W 0 (fun _ => true) true Try.f5.params.toList args.toList ds p := hA0
  rw [Try.params5] at hA hval
  obtain ⟨v0, vs0, d0, ds0, p0, q0, hargs, rfl, rfl, h0, r0⟩ := trodAll_cons hA
  obtain ⟨v1, vs1, d1, ds1, p1, q1, rfl, rfl, rfl, h1, r1⟩ := trodAll_cons r0
  obtain ⟨rfl, rfl, rfl⟩ := trodAll_nil r1
  obtain rfl : args = #[v0, v1] := by cases args; simp_all
  obtain ⟨rfl, rfl⟩ := trodVars_none hV
  have k0 := h0
  have lt0 : ∀ x ∈ p0, x.block < W.heap.size := by obtain ⟨m, hm⟩ := k0; exact DataW.trod_lt m _ _ _ hm
  obtain ⟨a0, len0, cap0, z0, rfl, w0⟩ := openedI (hval 0 23 v0 rfl rfl) h0
  obtain ⟨a1, rfl, rfl, rfl, w1⟩ := open_int Try.underlying3 (hval 1 3 v1 rfl rfl) h1
  clear hA0 hval0
  refine (walk a0 len0 cap0 z0 a1 W w0 w1).mono fun e W' ⟨he, bel⟩ => ?_
  subst he
  exact ⟨_, rfl, _, _, _, [], _, [], hW', trodAll_mk1 (shut_bool Try.underlying4 _), (trodAll_cons_mk (Below.trod laidOut (by kernel_rfl) (of_decide_eq_true (by kernel_rfl)) k0 bel lt0) (trodAll_cons_mk (shut_int Try.underlying3 w1) trodAll_mk0)), rfl, bel.frame _, fun h => by cases h⟩

theorem proved : Rows.FnExactEntriesOfSaid :=
  OpenClaim.holds_of_wide 5 Try.f5 rfl rfl rfl rfl rfl rfl rfl ⟨rfl, rfl, rfl, rfl, rfl⟩ rfl rfl rfl rfl rfl (by kernel_rfl) Try.func5 (by kernel_rfl)
    (of_decide_eq_true (by kernel_rfl)) (by unfold Func.isWrapper; rw [if_neg (of_decide_eq_false (by kernel_rfl))]; exact ⟨rfl, rfl⟩)
    (fun os started H enc _ => lifted os started H enc)
#print axioms proved
end Go.Proofs.Ytldpikcgeijkpaa.fnExactEntriesOf
