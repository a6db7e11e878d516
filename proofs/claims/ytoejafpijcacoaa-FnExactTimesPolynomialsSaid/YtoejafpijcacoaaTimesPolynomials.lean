/-
  'TimesPolynomials' of the program answers, at every two lists of numbers, as its model does, leaves its arguments as they were, and owns the memory of its answer. No condition.
-/
import Derived.Test.YtoejafpijcacoaaPlf
import Derived.Test.YtoejafpijcacoaaOpen
import Derived.Deep.RegionHeld3
import Derived.ProofKit
namespace Go.Proofs.Ytoejafpijcacoaa.fnExactTimesPolynomials
open Go.ChangeShapes Go.WideShapes Go.ChangeAt Go.RowKit Rhy
set_option linter.unusedVariables false


set_option maxHeartbeats 1000000 in
set_option maxRecDepth 100000 in
theorem walk (a0 : Option Addr) (len0 cap0 : Nat) (z0 : List Int) (a1 : Option Addr) (len1 cap1 : Nat) (z1 : List Int) (w : World) (w0 : OpenedI w a0 len0 z0) (w1 : OpenedI w a1 len1 z1) :
    Calls Try.prog 7 #[.slice a0 len0 cap0, .slice a1 len1 cap1] w fun e w' => e = .returned (.bool true) ∧ Below w.heap.size w w' := by
  obtain ⟨i0, m0⟩ := w0
  have HS0 := Lib.hid i0
  clear i0
  obtain ⟨i1, m1⟩ := w1
  have HS1 := Lib.hid i1
  clear i1
  by_cases hl0 : 1048576 < len0
  · go_enter Try.func7, Try.ntmps7
    go_wp2
    go_ret
    exact ⟨rfl, Below.refl _ _⟩
  have le0 : len0 ≤ 1048576 := by omega
  have lz0 : z0.length ≤ 1048576 := by have := HS0.out.1; omega
  by_cases hl1 : 1048576 < len1
  · go_enter Try.func7, Try.ntmps7
    go_wp2
    go_ret
    exact ⟨rfl, Below.refl _ _⟩
  have le1 : len1 ≤ 1048576 := by omega
  have lz1 : z1.length ≤ 1048576 := by have := HS1.out.1; omega
  go_enter Try.func7, Try.ntmps7
  have HZ : Hid (AllInt (timB z0 z1)) := Lib.hid (timB_int z0 z1)
  have hzl : (timB z0 z1).length ≤ 1048576 := Nat.le_trans (timB_len z0 z1) (by omega)
  go_wp2_with fail
  refine (copy_len a0 len0 cap0 z0 _ (HS0.out) le0).mono ?_
  rintro e w1 ⟨b1, c1, rfl, hown1, hb1⟩
  have Op0_1 : Hid (Row w1 w.heap.size w1.heap.size b1 z0.length c1 z0) := Lib.hid (row_of (own_base hown1 (Nat.le_refl _)))
  have B1 : Hid (Below w.heap.size w w1) := Lib.hid (hb1)
  have B1_size := B1.out.size
  have A1 : Hid (Below w.heap.size w w1) := Lib.hid (B1.out)
  clear hown1 hb1
  go_wp2_with fail
  refine (copy_len a1 len1 cap1 z1 _ (HS1.out.below A1.out) le1).mono ?_
  rintro e w2 ⟨b2, c2, rfl, hown2, hb2⟩
  have Op1_2 : Hid (Row w2 w1.heap.size w2.heap.size b2 z1.length c2 z1) := Lib.hid (row_of (own_base hown2 (Nat.le_refl _)))
  have B2 : Hid (Below w1.heap.size w1 w2) := Lib.hid (hb2)
  have B2_size := B2.out.size
  have Op0_2 : Hid (Row w2 w.heap.size w1.heap.size b1 z0.length c1 z0) := Lib.hid (Op0_1.out.keep B2.out)
  clear Op0_1
  have A2 : Hid (Below w.heap.size w w2) := Lib.hid (A1.out.trans (B2.out.mono A1.out.size))
  clear A1
  clear hown2 hb2
  go_wp2_with fail
  refine (tim_spec b1 z0.length c1 z0 b2 z1.length c2 z1 _ (Op0_2.out.at HS0.out.int) lz0 (Op1_2.out.at HS1.out.int) lz1).mono ?_
  rintro e w3 ⟨b3, c3, rfl, hown3, hb3⟩
  have Om_3 : Hid (PRow w3 w2.heap.size w3.heap.size b3 (timB z0 z1).length c3 (timB z0 z1)) := Lib.hid (PRow.lo hown3 (Nat.le_refl _))
  have B3 : Hid (Below w2.heap.size w2 w3) := Lib.hid (hb3)
  have B3_size := B3.out.size
  have Op0_3 : Hid (Row w3 w.heap.size w1.heap.size b1 z0.length c1 z0) := Lib.hid (Op0_2.out.keep B3.out)
  clear Op0_2
  have Op1_3 : Hid (Row w3 w1.heap.size w2.heap.size b2 z1.length c2 z1) := Lib.hid (Op1_2.out.keep B3.out)
  clear Op1_2
  have A3 : Hid (Below w.heap.size w w3) := Lib.hid (A2.out.trans (B3.out.mono A2.out.size))
  clear A2
  clear hown3 hb3
  go_wp2_with fail
  refine (copy_len a0 len0 cap0 z0 _ (HS0.out.below A3.out) le0).mono ?_
  rintro e w4 ⟨b4, c4, rfl, hown4, hb4⟩
  have Ox0_4 : Hid (Row w4 w3.heap.size w4.heap.size b4 z0.length c4 z0) := Lib.hid (row_of (own_base hown4 (Nat.le_refl _)))
  have B4 : Hid (Below w3.heap.size w3 w4) := Lib.hid (hb4)
  have B4_size := B4.out.size
  have Op0_4 : Hid (Row w4 w.heap.size w1.heap.size b1 z0.length c1 z0) := Lib.hid (Op0_3.out.keep B4.out)
  clear Op0_3
  have Op1_4 : Hid (Row w4 w1.heap.size w2.heap.size b2 z1.length c2 z1) := Lib.hid (Op1_3.out.keep B4.out)
  clear Op1_3
  have Om_4 : Hid (PRow w4 w2.heap.size w3.heap.size b3 (timB z0 z1).length c3 (timB z0 z1)) := Lib.hid (Om_3.out.keep B4.out)
  clear Om_3
  have A4 : Hid (Below w.heap.size w w4) := Lib.hid (A3.out.trans (B4.out.mono A3.out.size))
  clear A3
  clear hown4 hb4
  go_wp2_with fail
  refine (copy_len a1 len1 cap1 z1 _ (HS1.out.below A4.out) le1).mono ?_
  rintro e w5 ⟨b5, c5, rfl, hown5, hb5⟩
  have Ox1_5 : Hid (Row w5 w4.heap.size w5.heap.size b5 z1.length c5 z1) := Lib.hid (row_of (own_base hown5 (Nat.le_refl _)))
  have B5 : Hid (Below w4.heap.size w4 w5) := Lib.hid (hb5)
  have B5_size := B5.out.size
  have Op0_5 : Hid (Row w5 w.heap.size w1.heap.size b1 z0.length c1 z0) := Lib.hid (Op0_4.out.keep B5.out)
  clear Op0_4
  have Op1_5 : Hid (Row w5 w1.heap.size w2.heap.size b2 z1.length c2 z1) := Lib.hid (Op1_4.out.keep B5.out)
  clear Op1_4
  have Om_5 : Hid (PRow w5 w2.heap.size w3.heap.size b3 (timB z0 z1).length c3 (timB z0 z1)) := Lib.hid (Om_4.out.keep B5.out)
  clear Om_4
  have Ox0_5 : Hid (Row w5 w3.heap.size w4.heap.size b4 z0.length c4 z0) := Lib.hid (Ox0_4.out.keep B5.out)
  clear Ox0_4
  have A5 : Hid (Below w.heap.size w w5) := Lib.hid (A4.out.trans (B5.out.mono A4.out.size))
  clear A4
  clear hown5 hb5
  go_wp2_with fail
  refine (tim_impl b4 z0.length c4 z0 b5 z1.length c5 z1 _ (Ox0_5.out.at HS0.out.int) lz0 (Ox1_5.out.at HS1.out.int) lz1).mono ?_
  rintro e w6 ⟨b6, c6, rfl, hown6, hb6⟩
  have Og_6 : Hid (PRow w6 w5.heap.size w6.heap.size b6 (timB z0 z1).length c6 (timB z0 z1)) := Lib.hid (PRow.lo hown6 (Nat.le_refl _))
  have B6 : Hid (Below w5.heap.size w5 w6) := Lib.hid (hb6)
  have B6_size := B6.out.size
  have Op0_6 : Hid (Row w6 w.heap.size w1.heap.size b1 z0.length c1 z0) := Lib.hid (Op0_5.out.keep B6.out)
  clear Op0_5
  have Op1_6 : Hid (Row w6 w1.heap.size w2.heap.size b2 z1.length c2 z1) := Lib.hid (Op1_5.out.keep B6.out)
  clear Op1_5
  have Om_6 : Hid (PRow w6 w2.heap.size w3.heap.size b3 (timB z0 z1).length c3 (timB z0 z1)) := Lib.hid (Om_5.out.keep B6.out)
  clear Om_5
  have Ox0_6 : Hid (Row w6 w3.heap.size w4.heap.size b4 z0.length c4 z0) := Lib.hid (Ox0_5.out.keep B6.out)
  clear Ox0_5
  have Ox1_6 : Hid (Row w6 w4.heap.size w5.heap.size b5 z1.length c5 z1) := Lib.hid (Ox1_5.out.keep B6.out)
  clear Ox1_5
  have A6 : Hid (Below w.heap.size w w6) := Lib.hid (A5.out.trans (B6.out.mono A5.out.size))
  clear A5
  clear hown6 hb6
  go_wp2_with fail
  refine (eq_ints b6 b3 c6 c3 _ (timB z0 z1) _ (Og_6.out.at HZ.out) (Om_6.out.at HZ.out) (by omega)).mono ?_
  rintro e w7 ⟨rfl, hb7⟩
  have B7 : Hid (Below w6.heap.size w6 w7) := Lib.hid (hb7)
  have B7_size := B7.out.size
  have Op0_7 : Hid (Row w7 w.heap.size w1.heap.size b1 z0.length c1 z0) := Lib.hid (Op0_6.out.keep B7.out)
  clear Op0_6
  have Op1_7 : Hid (Row w7 w1.heap.size w2.heap.size b2 z1.length c2 z1) := Lib.hid (Op1_6.out.keep B7.out)
  clear Op1_6
  have Om_7 : Hid (PRow w7 w2.heap.size w3.heap.size b3 (timB z0 z1).length c3 (timB z0 z1)) := Lib.hid (Om_6.out.keep B7.out)
  clear Om_6
  have Ox0_7 : Hid (Row w7 w3.heap.size w4.heap.size b4 z0.length c4 z0) := Lib.hid (Ox0_6.out.keep B7.out)
  clear Ox0_6
  have Ox1_7 : Hid (Row w7 w4.heap.size w5.heap.size b5 z1.length c5 z1) := Lib.hid (Ox1_6.out.keep B7.out)
  clear Ox1_6
  have Og_7 : Hid (PRow w7 w5.heap.size w6.heap.size b6 (timB z0 z1).length c6 (timB z0 z1)) := Lib.hid (Og_6.out.keep B7.out)
  clear Og_6
  have A7 : Hid (Below w.heap.size w w7) := Lib.hid (A6.out.trans (B7.out.mono A6.out.size))
  clear A6
  clear hb7
  go_wp2_with fail
  refine (copy_len a0 len0 cap0 z0 _ (HS0.out.below A7.out) le0).mono ?_
  rintro e w8 ⟨b8, c8, rfl, hown8, hb8⟩
  have Oz0_8 : Hid (Row w8 w7.heap.size w8.heap.size b8 z0.length c8 z0) := Lib.hid (row_of (own_base hown8 (Nat.le_refl _)))
  have B8 : Hid (Below w7.heap.size w7 w8) := Lib.hid (hb8)
  have B8_size := B8.out.size
  have Op0_8 : Hid (Row w8 w.heap.size w1.heap.size b1 z0.length c1 z0) := Lib.hid (Op0_7.out.keep B8.out)
  clear Op0_7
  have Op1_8 : Hid (Row w8 w1.heap.size w2.heap.size b2 z1.length c2 z1) := Lib.hid (Op1_7.out.keep B8.out)
  clear Op1_7
  have Om_8 : Hid (PRow w8 w2.heap.size w3.heap.size b3 (timB z0 z1).length c3 (timB z0 z1)) := Lib.hid (Om_7.out.keep B8.out)
  clear Om_7
  have Ox0_8 : Hid (Row w8 w3.heap.size w4.heap.size b4 z0.length c4 z0) := Lib.hid (Ox0_7.out.keep B8.out)
  clear Ox0_7
  have Ox1_8 : Hid (Row w8 w4.heap.size w5.heap.size b5 z1.length c5 z1) := Lib.hid (Ox1_7.out.keep B8.out)
  clear Ox1_7
  have Og_8 : Hid (PRow w8 w5.heap.size w6.heap.size b6 (timB z0 z1).length c6 (timB z0 z1)) := Lib.hid (Og_7.out.keep B8.out)
  clear Og_7
  have A8 : Hid (Below w.heap.size w w8) := Lib.hid (A7.out.trans (B8.out.mono A7.out.size))
  clear A7
  clear hown8 hb8
  go_wp2_with fail
  refine (eq_ints b4 b8 c4 c8 _ z0 _ (Ox0_8.out.at HS0.out.int) (Oz0_8.out.at HS0.out.int) (by omega)).mono ?_
  rintro e w9 ⟨rfl, hb9⟩
  have B9 : Hid (Below w8.heap.size w8 w9) := Lib.hid (hb9)
  have B9_size := B9.out.size
  have Op0_9 : Hid (Row w9 w.heap.size w1.heap.size b1 z0.length c1 z0) := Lib.hid (Op0_8.out.keep B9.out)
  clear Op0_8
  have Op1_9 : Hid (Row w9 w1.heap.size w2.heap.size b2 z1.length c2 z1) := Lib.hid (Op1_8.out.keep B9.out)
  clear Op1_8
  have Om_9 : Hid (PRow w9 w2.heap.size w3.heap.size b3 (timB z0 z1).length c3 (timB z0 z1)) := Lib.hid (Om_8.out.keep B9.out)
  clear Om_8
  have Ox0_9 : Hid (Row w9 w3.heap.size w4.heap.size b4 z0.length c4 z0) := Lib.hid (Ox0_8.out.keep B9.out)
  clear Ox0_8
  have Ox1_9 : Hid (Row w9 w4.heap.size w5.heap.size b5 z1.length c5 z1) := Lib.hid (Ox1_8.out.keep B9.out)
  clear Ox1_8
  have Og_9 : Hid (PRow w9 w5.heap.size w6.heap.size b6 (timB z0 z1).length c6 (timB z0 z1)) := Lib.hid (Og_8.out.keep B9.out)
  clear Og_8
  have Oz0_9 : Hid (Row w9 w7.heap.size w8.heap.size b8 z0.length c8 z0) := Lib.hid (Oz0_8.out.keep B9.out)
  clear Oz0_8
  have A9 : Hid (Below w.heap.size w w9) := Lib.hid (A8.out.trans (B9.out.mono A8.out.size))
  clear A8
  clear hb9
  go_wp2_with fail
  refine (copy_len a1 len1 cap1 z1 _ (HS1.out.below A9.out) le1).mono ?_
  rintro e w10 ⟨b10, c10, rfl, hown10, hb10⟩
  have Oz1_10 : Hid (Row w10 w9.heap.size w10.heap.size b10 z1.length c10 z1) := Lib.hid (row_of (own_base hown10 (Nat.le_refl _)))
  have B10 : Hid (Below w9.heap.size w9 w10) := Lib.hid (hb10)
  have B10_size := B10.out.size
  have Op0_10 : Hid (Row w10 w.heap.size w1.heap.size b1 z0.length c1 z0) := Lib.hid (Op0_9.out.keep B10.out)
  clear Op0_9
  have Op1_10 : Hid (Row w10 w1.heap.size w2.heap.size b2 z1.length c2 z1) := Lib.hid (Op1_9.out.keep B10.out)
  clear Op1_9
  have Om_10 : Hid (PRow w10 w2.heap.size w3.heap.size b3 (timB z0 z1).length c3 (timB z0 z1)) := Lib.hid (Om_9.out.keep B10.out)
  clear Om_9
  have Ox0_10 : Hid (Row w10 w3.heap.size w4.heap.size b4 z0.length c4 z0) := Lib.hid (Ox0_9.out.keep B10.out)
  clear Ox0_9
  have Ox1_10 : Hid (Row w10 w4.heap.size w5.heap.size b5 z1.length c5 z1) := Lib.hid (Ox1_9.out.keep B10.out)
  clear Ox1_9
  have Og_10 : Hid (PRow w10 w5.heap.size w6.heap.size b6 (timB z0 z1).length c6 (timB z0 z1)) := Lib.hid (Og_9.out.keep B10.out)
  clear Og_9
  have A10 : Hid (Below w.heap.size w w10) := Lib.hid (A9.out.trans (B10.out.mono A9.out.size))
  clear A9
  clear hown10 hb10
  go_wp2_with fail
  refine (eq_ints b5 b10 c5 c10 _ z1 _ (Ox1_10.out.at HS1.out.int) (Oz1_10.out.at HS1.out.int) (by omega)).mono ?_
  rintro e w11 ⟨rfl, hb11⟩
  have B11 : Hid (Below w10.heap.size w10 w11) := Lib.hid (hb11)
  have B11_size := B11.out.size
  have Op0_11 : Hid (Row w11 w.heap.size w1.heap.size b1 z0.length c1 z0) := Lib.hid (Op0_10.out.keep B11.out)
  clear Op0_10
  have Op1_11 : Hid (Row w11 w1.heap.size w2.heap.size b2 z1.length c2 z1) := Lib.hid (Op1_10.out.keep B11.out)
  clear Op1_10
  have Om_11 : Hid (PRow w11 w2.heap.size w3.heap.size b3 (timB z0 z1).length c3 (timB z0 z1)) := Lib.hid (Om_10.out.keep B11.out)
  clear Om_10
  have Ox0_11 : Hid (Row w11 w3.heap.size w4.heap.size b4 z0.length c4 z0) := Lib.hid (Ox0_10.out.keep B11.out)
  clear Ox0_10
  have Ox1_11 : Hid (Row w11 w4.heap.size w5.heap.size b5 z1.length c5 z1) := Lib.hid (Ox1_10.out.keep B11.out)
  clear Ox1_10
  have Og_11 : Hid (PRow w11 w5.heap.size w6.heap.size b6 (timB z0 z1).length c6 (timB z0 z1)) := Lib.hid (Og_10.out.keep B11.out)
  clear Og_10
  have Oz1_11 : Hid (Row w11 w9.heap.size w10.heap.size b10 z1.length c10 z1) := Lib.hid (Oz1_10.out.keep B11.out)
  clear Oz1_10
  have A11 : Hid (Below w.heap.size w w11) := Lib.hid (A10.out.trans (B11.out.mono A10.out.size))
  clear A10
  clear hb11
  go_wp2_with fail
  refine (mark_ints w3.heap.size w4.heap.size (1) b4 c4 _ _ _ Ox0_11.out (by omega) (by omega)).mono ?_
  rintro e w12 ⟨rfl, hown12, hb12⟩
  have B12 : Hid (Within w3.heap.size w4.heap.size w11 w12) := Lib.hid (hb12)
  have B12_size := B12.out.size
  have Op0_12 : Hid (Row w12 w.heap.size w1.heap.size b1 z0.length c1 z0) := Lib.hid (Op0_11.out.within B12.out (by omega))
  clear Op0_11
  have Op1_12 : Hid (Row w12 w1.heap.size w2.heap.size b2 z1.length c2 z1) := Lib.hid (Op1_11.out.within B12.out (by omega))
  clear Op1_11
  have Om_12 : Hid (PRow w12 w2.heap.size w3.heap.size b3 (timB z0 z1).length c3 (timB z0 z1)) := Lib.hid (Om_11.out.within B12.out (by omega))
  clear Om_11
  have Ox1_12 : Hid (Row w12 w4.heap.size w5.heap.size b5 z1.length c5 z1) := Lib.hid (Ox1_11.out.within B12.out (by omega))
  clear Ox1_11
  have Og_12 : Hid (PRow w12 w5.heap.size w6.heap.size b6 (timB z0 z1).length c6 (timB z0 z1)) := Lib.hid (Og_11.out.within B12.out (by omega))
  clear Og_11
  have A12 : Hid (Below w.heap.size w w12) := Lib.hid (Rhy.Below.within A11.out B12.out (by omega) A11.out.size)
  clear A11
  have Ox0_12 : Hid (Row w12 w3.heap.size w4.heap.size b4 z0.length c4 (marks (1) z0.length)) := Lib.hid hown12
  clear hown12 hb12 Ox0_11
  go_wp2_with fail
  refine (mark_ints w4.heap.size w5.heap.size (1 + z0.length) b5 c5 _ _ _ Ox1_12.out (by omega) (by omega)).mono ?_
  rintro e w13 ⟨rfl, hown13, hb13⟩
  have B13 : Hid (Within w4.heap.size w5.heap.size w12 w13) := Lib.hid (hb13)
  have B13_size := B13.out.size
  have Op0_13 : Hid (Row w13 w.heap.size w1.heap.size b1 z0.length c1 z0) := Lib.hid (Op0_12.out.within B13.out (by omega))
  clear Op0_12
  have Op1_13 : Hid (Row w13 w1.heap.size w2.heap.size b2 z1.length c2 z1) := Lib.hid (Op1_12.out.within B13.out (by omega))
  clear Op1_12
  have Om_13 : Hid (PRow w13 w2.heap.size w3.heap.size b3 (timB z0 z1).length c3 (timB z0 z1)) := Lib.hid (Om_12.out.within B13.out (by omega))
  clear Om_12
  have Ox0_13 : Hid (Row w13 w3.heap.size w4.heap.size b4 z0.length c4 (marks (1) z0.length)) := Lib.hid (Ox0_12.out.within B13.out (by omega))
  clear Ox0_12
  have Og_13 : Hid (PRow w13 w5.heap.size w6.heap.size b6 (timB z0 z1).length c6 (timB z0 z1)) := Lib.hid (Og_12.out.within B13.out (by omega))
  clear Og_12
  have A13 : Hid (Below w.heap.size w w13) := Lib.hid (Rhy.Below.within A12.out B13.out (by omega) A12.out.size)
  clear A12
  have Ox1_13 : Hid (Row w13 w4.heap.size w5.heap.size b5 z1.length c5 (marks (1 + z0.length) z1.length)) := Lib.hid hown13
  clear hown13 hb13 Ox1_12
  go_wp2_with fail
  refine (eq_ints b6 b3 c6 c3 _ (timB z0 z1) _ (Og_13.out.at HZ.out) (Om_13.out.at HZ.out) (by omega)).mono ?_
  rintro e w14 ⟨rfl, hb14⟩
  have B14 : Hid (Below w13.heap.size w13 w14) := Lib.hid (hb14)
  have B14_size := B14.out.size
  have Op0_14 : Hid (Row w14 w.heap.size w1.heap.size b1 z0.length c1 z0) := Lib.hid (Op0_13.out.keep B14.out)
  clear Op0_13
  have Op1_14 : Hid (Row w14 w1.heap.size w2.heap.size b2 z1.length c2 z1) := Lib.hid (Op1_13.out.keep B14.out)
  clear Op1_13
  have Om_14 : Hid (PRow w14 w2.heap.size w3.heap.size b3 (timB z0 z1).length c3 (timB z0 z1)) := Lib.hid (Om_13.out.keep B14.out)
  clear Om_13
  have Ox0_14 : Hid (Row w14 w3.heap.size w4.heap.size b4 z0.length c4 (marks (1) z0.length)) := Lib.hid (Ox0_13.out.keep B14.out)
  clear Ox0_13
  have Ox1_14 : Hid (Row w14 w4.heap.size w5.heap.size b5 z1.length c5 (marks (1 + z0.length) z1.length)) := Lib.hid (Ox1_13.out.keep B14.out)
  clear Ox1_13
  have Og_14 : Hid (PRow w14 w5.heap.size w6.heap.size b6 (timB z0 z1).length c6 (timB z0 z1)) := Lib.hid (Og_13.out.keep B14.out)
  clear Og_13
  have A14 : Hid (Below w.heap.size w w14) := Lib.hid (A13.out.trans (B14.out.mono A13.out.size))
  clear A13
  clear hb14
  go_wp2_with fail
  refine (mark_part w5.heap.size w6.heap.size (1) b6 c6 _ _ _ Og_14.out (by omega) (by omega)).mono ?_
  rintro e w15 ⟨rfl, hown15, hb15⟩
  have B15 : Hid (Within w5.heap.size w6.heap.size w14 w15) := Lib.hid (hb15)
  have B15_size := B15.out.size
  have Op0_15 : Hid (Row w15 w.heap.size w1.heap.size b1 z0.length c1 z0) := Lib.hid (Op0_14.out.within B15.out (by omega))
  clear Op0_14
  have Op1_15 : Hid (Row w15 w1.heap.size w2.heap.size b2 z1.length c2 z1) := Lib.hid (Op1_14.out.within B15.out (by omega))
  clear Op1_14
  have Om_15 : Hid (PRow w15 w2.heap.size w3.heap.size b3 (timB z0 z1).length c3 (timB z0 z1)) := Lib.hid (Om_14.out.within B15.out (by omega))
  clear Om_14
  have Ox0_15 : Hid (Row w15 w3.heap.size w4.heap.size b4 z0.length c4 (marks (1) z0.length)) := Lib.hid (Ox0_14.out.within B15.out (by omega))
  clear Ox0_14
  have Ox1_15 : Hid (Row w15 w4.heap.size w5.heap.size b5 z1.length c5 (marks (1 + z0.length) z1.length)) := Lib.hid (Ox1_14.out.within B15.out (by omega))
  clear Ox1_14
  have A15 : Hid (Below w.heap.size w w15) := Lib.hid (Rhy.Below.within A14.out B15.out (by omega) A14.out.size)
  clear A14
  have Og_15 : Hid (PRow w15 w5.heap.size w6.heap.size b6 (timB z0 z1).length c6 (marks (1) (timB z0 z1).length)) := Lib.hid hown15
  clear hown15 hb15 Og_14
  go_wp2_with fail
  refine (held_ints (1) b6 c6 (timB z0 z1).length _ (Og_15.out.at (marks_int _ _ (by omega))) (by omega) (by omega)).mono ?_
  rintro e w16 ⟨rfl, hb16⟩
  have B16 : Hid (Below w15.heap.size w15 w16) := Lib.hid (hb16)
  have B16_size := B16.out.size
  have Op0_16 : Hid (Row w16 w.heap.size w1.heap.size b1 z0.length c1 z0) := Lib.hid (Op0_15.out.keep B16.out)
  clear Op0_15
  have Op1_16 : Hid (Row w16 w1.heap.size w2.heap.size b2 z1.length c2 z1) := Lib.hid (Op1_15.out.keep B16.out)
  clear Op1_15
  have Om_16 : Hid (PRow w16 w2.heap.size w3.heap.size b3 (timB z0 z1).length c3 (timB z0 z1)) := Lib.hid (Om_15.out.keep B16.out)
  clear Om_15
  have Ox0_16 : Hid (Row w16 w3.heap.size w4.heap.size b4 z0.length c4 (marks (1) z0.length)) := Lib.hid (Ox0_15.out.keep B16.out)
  clear Ox0_15
  have Ox1_16 : Hid (Row w16 w4.heap.size w5.heap.size b5 z1.length c5 (marks (1 + z0.length) z1.length)) := Lib.hid (Ox1_15.out.keep B16.out)
  clear Ox1_15
  have Og_16 : Hid (PRow w16 w5.heap.size w6.heap.size b6 (timB z0 z1).length c6 (marks (1) (timB z0 z1).length)) := Lib.hid (Og_15.out.keep B16.out)
  clear Og_15
  have A16 : Hid (Below w.heap.size w w16) := Lib.hid (A15.out.trans (B16.out.mono A15.out.size))
  clear A15
  clear hb16
  go_wp2_with fail
  refine (copy_len a0 len0 cap0 z0 _ (HS0.out.below A16.out) le0).mono ?_
  rintro e w17 ⟨b17, c17, rfl, hown17, hb17⟩
  have Oy0_17 : Hid (Row w17 w16.heap.size w17.heap.size b17 z0.length c17 z0) := Lib.hid (row_of (own_base hown17 (Nat.le_refl _)))
  have B17 : Hid (Below w16.heap.size w16 w17) := Lib.hid (hb17)
  have B17_size := B17.out.size
  have Op0_17 : Hid (Row w17 w.heap.size w1.heap.size b1 z0.length c1 z0) := Lib.hid (Op0_16.out.keep B17.out)
  clear Op0_16
  have Op1_17 : Hid (Row w17 w1.heap.size w2.heap.size b2 z1.length c2 z1) := Lib.hid (Op1_16.out.keep B17.out)
  clear Op1_16
  have Om_17 : Hid (PRow w17 w2.heap.size w3.heap.size b3 (timB z0 z1).length c3 (timB z0 z1)) := Lib.hid (Om_16.out.keep B17.out)
  clear Om_16
  have Ox0_17 : Hid (Row w17 w3.heap.size w4.heap.size b4 z0.length c4 (marks (1) z0.length)) := Lib.hid (Ox0_16.out.keep B17.out)
  clear Ox0_16
  have Ox1_17 : Hid (Row w17 w4.heap.size w5.heap.size b5 z1.length c5 (marks (1 + z0.length) z1.length)) := Lib.hid (Ox1_16.out.keep B17.out)
  clear Ox1_16
  have Og_17 : Hid (PRow w17 w5.heap.size w6.heap.size b6 (timB z0 z1).length c6 (marks (1) (timB z0 z1).length)) := Lib.hid (Og_16.out.keep B17.out)
  clear Og_16
  have A17 : Hid (Below w.heap.size w w17) := Lib.hid (A16.out.trans (B17.out.mono A16.out.size))
  clear A16
  clear hown17 hb17
  go_wp2_with fail
  refine (copy_len a1 len1 cap1 z1 _ (HS1.out.below A17.out) le1).mono ?_
  rintro e w18 ⟨b18, c18, rfl, hown18, hb18⟩
  have Oy1_18 : Hid (Row w18 w17.heap.size w18.heap.size b18 z1.length c18 z1) := Lib.hid (row_of (own_base hown18 (Nat.le_refl _)))
  have B18 : Hid (Below w17.heap.size w17 w18) := Lib.hid (hb18)
  have B18_size := B18.out.size
  have Op0_18 : Hid (Row w18 w.heap.size w1.heap.size b1 z0.length c1 z0) := Lib.hid (Op0_17.out.keep B18.out)
  clear Op0_17
  have Op1_18 : Hid (Row w18 w1.heap.size w2.heap.size b2 z1.length c2 z1) := Lib.hid (Op1_17.out.keep B18.out)
  clear Op1_17
  have Om_18 : Hid (PRow w18 w2.heap.size w3.heap.size b3 (timB z0 z1).length c3 (timB z0 z1)) := Lib.hid (Om_17.out.keep B18.out)
  clear Om_17
  have Ox0_18 : Hid (Row w18 w3.heap.size w4.heap.size b4 z0.length c4 (marks (1) z0.length)) := Lib.hid (Ox0_17.out.keep B18.out)
  clear Ox0_17
  have Ox1_18 : Hid (Row w18 w4.heap.size w5.heap.size b5 z1.length c5 (marks (1 + z0.length) z1.length)) := Lib.hid (Ox1_17.out.keep B18.out)
  clear Ox1_17
  have Og_18 : Hid (PRow w18 w5.heap.size w6.heap.size b6 (timB z0 z1).length c6 (marks (1) (timB z0 z1).length)) := Lib.hid (Og_17.out.keep B18.out)
  clear Og_17
  have Oy0_18 : Hid (Row w18 w16.heap.size w17.heap.size b17 z0.length c17 z0) := Lib.hid (Oy0_17.out.keep B18.out)
  clear Oy0_17
  have A18 : Hid (Below w.heap.size w w18) := Lib.hid (A17.out.trans (B18.out.mono A17.out.size))
  clear A17
  clear hown18 hb18
  go_wp2_with fail
  refine (tim_impl b17 z0.length c17 z0 b18 z1.length c18 z1 _ (Oy0_18.out.at HS0.out.int) lz0 (Oy1_18.out.at HS1.out.int) lz1).mono ?_
  rintro e w19 ⟨b19, c19, rfl, hown19, hb19⟩
  have Oh_19 : Hid (PRow w19 w18.heap.size w19.heap.size b19 (timB z0 z1).length c19 (timB z0 z1)) := Lib.hid (PRow.lo hown19 (Nat.le_refl _))
  have B19 : Hid (Below w18.heap.size w18 w19) := Lib.hid (hb19)
  have B19_size := B19.out.size
  have Op0_19 : Hid (Row w19 w.heap.size w1.heap.size b1 z0.length c1 z0) := Lib.hid (Op0_18.out.keep B19.out)
  clear Op0_18
  have Op1_19 : Hid (Row w19 w1.heap.size w2.heap.size b2 z1.length c2 z1) := Lib.hid (Op1_18.out.keep B19.out)
  clear Op1_18
  have Om_19 : Hid (PRow w19 w2.heap.size w3.heap.size b3 (timB z0 z1).length c3 (timB z0 z1)) := Lib.hid (Om_18.out.keep B19.out)
  clear Om_18
  have Ox0_19 : Hid (Row w19 w3.heap.size w4.heap.size b4 z0.length c4 (marks (1) z0.length)) := Lib.hid (Ox0_18.out.keep B19.out)
  clear Ox0_18
  have Ox1_19 : Hid (Row w19 w4.heap.size w5.heap.size b5 z1.length c5 (marks (1 + z0.length) z1.length)) := Lib.hid (Ox1_18.out.keep B19.out)
  clear Ox1_18
  have Og_19 : Hid (PRow w19 w5.heap.size w6.heap.size b6 (timB z0 z1).length c6 (marks (1) (timB z0 z1).length)) := Lib.hid (Og_18.out.keep B19.out)
  clear Og_18
  have Oy0_19 : Hid (Row w19 w16.heap.size w17.heap.size b17 z0.length c17 z0) := Lib.hid (Oy0_18.out.keep B19.out)
  clear Oy0_18
  have Oy1_19 : Hid (Row w19 w17.heap.size w18.heap.size b18 z1.length c18 z1) := Lib.hid (Oy1_18.out.keep B19.out)
  clear Oy1_18
  have A19 : Hid (Below w.heap.size w w19) := Lib.hid (A18.out.trans (B19.out.mono A18.out.size))
  clear A18
  clear hown19 hb19
  go_wp2_with fail
  refine (eq_ints b19 b3 c19 c3 _ (timB z0 z1) _ (Oh_19.out.at HZ.out) (Om_19.out.at HZ.out) (by omega)).mono ?_
  rintro e w20 ⟨rfl, hb20⟩
  have B20 : Hid (Below w19.heap.size w19 w20) := Lib.hid (hb20)
  have B20_size := B20.out.size
  have Op0_20 : Hid (Row w20 w.heap.size w1.heap.size b1 z0.length c1 z0) := Lib.hid (Op0_19.out.keep B20.out)
  clear Op0_19
  have Op1_20 : Hid (Row w20 w1.heap.size w2.heap.size b2 z1.length c2 z1) := Lib.hid (Op1_19.out.keep B20.out)
  clear Op1_19
  have Om_20 : Hid (PRow w20 w2.heap.size w3.heap.size b3 (timB z0 z1).length c3 (timB z0 z1)) := Lib.hid (Om_19.out.keep B20.out)
  clear Om_19
  have Ox0_20 : Hid (Row w20 w3.heap.size w4.heap.size b4 z0.length c4 (marks (1) z0.length)) := Lib.hid (Ox0_19.out.keep B20.out)
  clear Ox0_19
  have Ox1_20 : Hid (Row w20 w4.heap.size w5.heap.size b5 z1.length c5 (marks (1 + z0.length) z1.length)) := Lib.hid (Ox1_19.out.keep B20.out)
  clear Ox1_19
  have Og_20 : Hid (PRow w20 w5.heap.size w6.heap.size b6 (timB z0 z1).length c6 (marks (1) (timB z0 z1).length)) := Lib.hid (Og_19.out.keep B20.out)
  clear Og_19
  have Oy0_20 : Hid (Row w20 w16.heap.size w17.heap.size b17 z0.length c17 z0) := Lib.hid (Oy0_19.out.keep B20.out)
  clear Oy0_19
  have Oy1_20 : Hid (Row w20 w17.heap.size w18.heap.size b18 z1.length c18 z1) := Lib.hid (Oy1_19.out.keep B20.out)
  clear Oy1_19
  have Oh_20 : Hid (PRow w20 w18.heap.size w19.heap.size b19 (timB z0 z1).length c19 (timB z0 z1)) := Lib.hid (Oh_19.out.keep B20.out)
  clear Oh_19
  have A20 : Hid (Below w.heap.size w w20) := Lib.hid (A19.out.trans (B20.out.mono A19.out.size))
  clear A19
  clear hb20
  go_wp2_with fail
  refine (held_ints (1) b6 c6 (timB z0 z1).length _ (Og_20.out.at (marks_int _ _ (by omega))) (by omega) (by omega)).mono ?_
  rintro e w21 ⟨rfl, hb21⟩
  have B21 : Hid (Below w20.heap.size w20 w21) := Lib.hid (hb21)
  have B21_size := B21.out.size
  have Op0_21 : Hid (Row w21 w.heap.size w1.heap.size b1 z0.length c1 z0) := Lib.hid (Op0_20.out.keep B21.out)
  clear Op0_20
  have Op1_21 : Hid (Row w21 w1.heap.size w2.heap.size b2 z1.length c2 z1) := Lib.hid (Op1_20.out.keep B21.out)
  clear Op1_20
  have Om_21 : Hid (PRow w21 w2.heap.size w3.heap.size b3 (timB z0 z1).length c3 (timB z0 z1)) := Lib.hid (Om_20.out.keep B21.out)
  clear Om_20
  have Ox0_21 : Hid (Row w21 w3.heap.size w4.heap.size b4 z0.length c4 (marks (1) z0.length)) := Lib.hid (Ox0_20.out.keep B21.out)
  clear Ox0_20
  have Ox1_21 : Hid (Row w21 w4.heap.size w5.heap.size b5 z1.length c5 (marks (1 + z0.length) z1.length)) := Lib.hid (Ox1_20.out.keep B21.out)
  clear Ox1_20
  have Og_21 : Hid (PRow w21 w5.heap.size w6.heap.size b6 (timB z0 z1).length c6 (marks (1) (timB z0 z1).length)) := Lib.hid (Og_20.out.keep B21.out)
  clear Og_20
  have Oy0_21 : Hid (Row w21 w16.heap.size w17.heap.size b17 z0.length c17 z0) := Lib.hid (Oy0_20.out.keep B21.out)
  clear Oy0_20
  have Oy1_21 : Hid (Row w21 w17.heap.size w18.heap.size b18 z1.length c18 z1) := Lib.hid (Oy1_20.out.keep B21.out)
  clear Oy1_20
  have Oh_21 : Hid (PRow w21 w18.heap.size w19.heap.size b19 (timB z0 z1).length c19 (timB z0 z1)) := Lib.hid (Oh_20.out.keep B21.out)
  clear Oh_20
  have A21 : Hid (Below w.heap.size w w21) := Lib.hid (A20.out.trans (B21.out.mono A20.out.size))
  clear A20
  clear hb21
  go_wp2
  go_ret
  exact ⟨rfl, A21.out⟩

set_option maxRecDepth 100000 in
theorem lifted (os : Os) (started : os.Started) (H : Type) (enc : TypeId × Value → H) :
    ReturnsInHanded {} Try.checked os 7 .any (Rows.fnExactTimesPolynomialsSpec.pre6 enc Try.prog Try.f7 Rows.fnExactTimesPolynomialsRow.domain false) (Rows.fnExactTimesPolynomialsSpec.post enc Try.prog Try.f7 false true false false) := by
  refine returnsInHanded_of_change (C := Try.checked) own started (by kernel_rfl) Try.func7
    (ChangeSpec.witness6 (enc := enc) (C := Try.checked) false ⟨#[], #[.slice none 0 0, .slice none 0 0], []⟩ 8 (by kernel_rfl) (by kernel_rfl) (by kernel_rfl) (by kernel_rfl)) ?_
  intro W base args ds gs before hval0 hW hcnd _
  have hval : ∀ (j : Nat) t v, Try.f7.params[j]? = some t → args[j]? = some v → Value.okWide Try.prog W .any base t v := hval0
  have hW' := hW
  obtain ⟨p, q, hA0, hV, rfl, hfz, hnd⟩ := hW
  have hA : DataW.TrodAll enc Try.prog W 0 (fun _ => true) true Try.f7.params.toList args.toList ds p := hA0
  rw [Try.params7] at hA hval
  obtain ⟨v0, vs0, d0, ds0, p0, q0, hargs, rfl, rfl, h0, r0⟩ := trodAll_cons hA
  obtain ⟨v1, vs1, d1, ds1, p1, q1, rfl, rfl, rfl, h1, r1⟩ := trodAll_cons r0
  obtain ⟨rfl, rfl, rfl⟩ := trodAll_nil r1
  obtain rfl : args = #[v0, v1] := by cases args; simp_all
  obtain ⟨rfl, rfl⟩ := trodVars_none hV
  have k0 := h0
  have lt0 : ∀ x ∈ p0, x.block < W.heap.size := by obtain ⟨m, hm⟩ := k0; exact DataW.trod_lt m _ _ _ hm
  obtain ⟨a0, len0, cap0, z0, rfl, w0⟩ := openedI (hval 0 24 v0 rfl rfl) h0
  have k1 := h1
  have lt1 : ∀ x ∈ p1, x.block < W.heap.size := by obtain ⟨m, hm⟩ := k1; exact DataW.trod_lt m _ _ _ hm
  obtain ⟨a1, len1, cap1, z1, rfl, w1⟩ := openedI (hval 1 24 v1 rfl rfl) h1
  clear hA0 hval0
  refine (walk a0 len0 cap0 z0 a1 len1 cap1 z1 W w0 w1).mono fun e W' ⟨he, bel⟩ => ?_
  subst he
  exact ⟨_, rfl, _, _, _, [], _, [], hW', trodAll_mk1 (shut_bool Try.underlying4 _), (trodAll_cons_mk (Below.trod laidOut (by kernel_rfl) (of_decide_eq_true (by kernel_rfl)) k0 bel lt0) (trodAll_cons_mk (Below.trod laidOut (by kernel_rfl) (of_decide_eq_true (by kernel_rfl)) k1 bel lt1) trodAll_mk0)), rfl, bel.frame _, fun h => by cases h⟩

theorem proved : Rows.FnExactTimesPolynomialsSaid :=
  OpenClaim.holds_of_wide 7 Try.f7 rfl rfl rfl rfl rfl rfl rfl ⟨rfl, rfl, rfl, rfl, rfl⟩ rfl rfl rfl rfl rfl (by kernel_rfl) Try.func7 (by kernel_rfl)
    (of_decide_eq_true (by kernel_rfl)) (by unfold Func.isWrapper; rw [if_neg (of_decide_eq_false (by kernel_rfl))]; exact ⟨rfl, rfl⟩)
    (fun os started H enc _ => lifted os started H enc)
#print axioms proved
end Go.Proofs.Ytoejafpijcacoaa.fnExactTimesPolynomials
