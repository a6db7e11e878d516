/-
  'LineTiling' of the program answers, at every list of numbers, as its model does, leaves its argument as it was, and owns the memory of its answer. No condition.
-/
import Derived.Test.YtldpikcgeijkpaaLni
import Derived.Test.YtldpikcgeijkpaaOpen
import Derived.Deep.RegionHeld3
import Derived.ProofKit
namespace Go.Proofs.Ytldpikcgeijkpaa.fnExactLineTiling
open Go.ChangeShapes Go.WideShapes Go.ChangeAt Go.RowKit Rhy
set_option linter.unusedVariables false


set_option maxHeartbeats 1000000 in
set_option maxRecDepth 100000 in
theorem walk (a0 : Option Addr) (len0 cap0 : Nat) (z0 : List Int) (w : World) (w0 : OpenedI w a0 len0 z0) :
    Calls Try.prog 9 #[.slice a0 len0 cap0] w fun e w' => e = .returned (.bool true) ∧ Below w.heap.size w w' := by
  obtain ⟨i0, m0⟩ := w0
  have HS0 := Lib.hid i0
  clear i0
  by_cases hl0 : 1048576 < len0
  · go_enter Try.func9, Try.ntmps9
    go_wp2
    go_ret
    exact ⟨rfl, Below.refl _ _⟩
  have le0 : len0 ≤ 1048576 := by omega
  have lz0 : z0.length ≤ 1048576 := by have := HS0.out.1; omega
  go_enter Try.func9, Try.ntmps9
  have HX : Hid (AllInt (cZ (GoC z0) z0)) := Lib.hid ((lt_x z0).1)
  have hlX : (cZ (GoC z0) z0).length ≤ 576 := (lt_x z0).2
  have HY : Hid (AllInt (cZ (GoC z0) (perL z0))) := Lib.hid ((lt_y z0).1)
  have hlY : (cZ (GoC z0) (perL z0)).length ≤ 576 := (lt_y z0).2
  go_wp2_with fail
  refine (copy_len a0 len0 cap0 z0 _ (HS0.out) le0).mono ?_
  rintro e w1 ⟨b1, c1, rfl, hown1, hb1⟩
  have Op0_1 : Hid (Row w1 w.heap.size w1.heap.size b1 z0.length c1 z0) := Lib.hid (row_of (own_base hown1 (Nat.le_refl _)))
  have B1 : Hid (Below w.heap.size w w1) := Lib.hid (hb1)
  have B1_size := B1.out.size
  have A1 : Hid (Below w.heap.size w w1) := Lib.hid (B1.out)
  clear hown1 hb1
  go_wp2_with fail
  refine (llt_spec b1 z0.length c1 z0 _ (Op0_1.out.at HS0.out.int) lz0).mono ?_
  rintro e w2 ⟨b2, c2, d2, e2, m2, rfl, hr2, hs2, hm2, hb2⟩
  have Om0_2 : Hid (Row w2 w1.heap.size m2 b2 (cZ (GoC z0) z0).length c2 (cZ (GoC z0) z0)) := Lib.hid (hr2.lo (Nat.le_refl _))
  have Om1_2 : Hid (Row w2 m2 w2.heap.size d2 (cZ (GoC z0) (perL z0)).length e2 (cZ (GoC z0) (perL z0))) := Lib.hid hs2
  have mz2 := hr2.2.2
  have ml2 : w1.heap.size ≤ m2 := by have := hm2; first | omega | (simp at this; omega)
  have B2 : Hid (Below w1.heap.size w1 w2) := Lib.hid (hb2)
  have B2_size := B2.out.size
  have Op0_2 : Hid (Row w2 w.heap.size w1.heap.size b1 z0.length c1 z0) := Lib.hid (Op0_1.out.keep B2.out)
  clear Op0_1
  have A2 : Hid (Below w.heap.size w w2) := Lib.hid (A1.out.trans (B2.out.mono A1.out.size))
  clear A1
  clear hr2 hs2 hm2 hb2
  go_wp2_with fail
  refine (copy_len a0 len0 cap0 z0 _ ((HS0.out.below A2.out).below (bel2 _ (.cells #[.int .i64 (cS (GoC z0) (linS z0)), .slice b2 (cZ (GoC z0) z0).length c2] 25) (.cells #[.int .i64 (cS (GoC z0) (linS z0)), .slice d2 (cZ (GoC z0) (perL z0)).length e2] 25))) le0).mono ?_
  rintro e w3 ⟨b3, c3, rfl, hown3, hb3⟩
  have Ox0_3 : Hid (Row w3 (w2.heap.size + 2) w3.heap.size b3 z0.length c3 z0) := Lib.hid (row_of (own_base hown3 (by simp)))
  have p3 := Lib.hid (bel2 w2 (.cells #[.int .i64 (cS (GoC z0) (linS z0)), .slice b2 (cZ (GoC z0) z0).length c2] 25) (.cells #[.int .i64 (cS (GoC z0) (linS z0)), .slice d2 (cZ (GoC z0) (perL z0)).length e2] 25))
  have B3 : Hid (Below w2.heap.size w2 w3) := Lib.hid (p3.out.trans (hb3.mono p3.out.size))
  have B3_size := B3.out.size
  have pz3 : w2.heap.size + 2 ≤ w3.heap.size := by have := hb3.size; simp at this; omega
  have Tm0_3 : Hid (Two w3 w2.heap.size (.int .i64 (cS (GoC z0) (linS z0))) (.slice b2 (cZ (GoC z0) z0).length c2)) := Lib.hid (((two_new w2 (.int .i64 (cS (GoC z0) (linS z0))) (.slice b2 (cZ (GoC z0) z0).length c2) 25).keep (bel1 _ (.cells #[.int .i64 (cS (GoC z0) (linS z0)), .slice d2 (cZ (GoC z0) (perL z0)).length e2] 25))).keep hb3)
  obtain ⟨Tm0_3_l, Tm0_3_a, Tm0_3_b⟩ := Tm0_3.out
  have Tm1_3 : Hid (Two w3 (w2.heap.size + 1) (.int .i64 (cS (GoC z0) (linS z0))) (.slice d2 (cZ (GoC z0) (perL z0)).length e2)) := Lib.hid (by simpa using ((two_new (w2.alloc (.cells #[.int .i64 (cS (GoC z0) (linS z0)), .slice b2 (cZ (GoC z0) z0).length c2] 25)) (.int .i64 (cS (GoC z0) (linS z0))) (.slice d2 (cZ (GoC z0) (perL z0)).length e2) 25).keep hb3 : Two _ _ _ _))
  obtain ⟨Tm1_3_l, Tm1_3_a, Tm1_3_b⟩ := Tm1_3.out
  have Op0_3 : Hid (Row w3 w.heap.size w1.heap.size b1 z0.length c1 z0) := Lib.hid (Op0_2.out.keep B3.out)
  clear Op0_2
  have Om0_3 : Hid (Row w3 w1.heap.size m2 b2 (cZ (GoC z0) z0).length c2 (cZ (GoC z0) z0)) := Lib.hid (Om0_2.out.keep B3.out)
  clear Om0_2
  have Om1_3 : Hid (Row w3 m2 w2.heap.size d2 (cZ (GoC z0) (perL z0)).length e2 (cZ (GoC z0) (perL z0))) := Lib.hid (Om1_2.out.keep B3.out)
  clear Om1_2
  have A3 : Hid (Below w.heap.size w w3) := Lib.hid (A2.out.trans (B3.out.mono A2.out.size))
  clear A2
  clear hown3 hb3
  go_wp2_with fail
  refine (llt_impl b3 z0.length c3 z0 _ (Ox0_3.out.at HS0.out.int) lz0 (own_cap Ox0_3.out.1)).mono ?_
  rintro e w4 ⟨b4, c4, d4, e4, m4, rfl, hr4, hs4, hm4, hb4⟩
  have Og0_4 : Hid (Row w4 w3.heap.size m4 b4 (cZ (GoC z0) z0).length c4 (cZ (GoC z0) z0)) := Lib.hid (hr4.lo (Nat.le_refl _))
  have Og1_4 : Hid (Row w4 m4 w4.heap.size d4 (cZ (GoC z0) (perL z0)).length e4 (cZ (GoC z0) (perL z0))) := Lib.hid hs4
  have mz4 := hr4.2.2
  have ml4 : w3.heap.size ≤ m4 := by have := hm4; first | omega | (simp at this; omega)
  have B4 : Hid (Below w3.heap.size w3 w4) := Lib.hid (hb4)
  have B4_size := B4.out.size
  have Tm0_4 : Hid (Two w4 w2.heap.size (.int .i64 (cS (GoC z0) (linS z0))) (.slice b2 (cZ (GoC z0) z0).length c2)) := Lib.hid (Tm0_3.out.keep B4.out)
  obtain ⟨Tm0_4_l, Tm0_4_a, Tm0_4_b⟩ := Tm0_4.out
  clear Tm0_3 Tm0_3_l Tm0_3_a Tm0_3_b
  have Tm1_4 : Hid (Two w4 (w2.heap.size + 1) (.int .i64 (cS (GoC z0) (linS z0))) (.slice d2 (cZ (GoC z0) (perL z0)).length e2)) := Lib.hid (Tm1_3.out.keep B4.out)
  obtain ⟨Tm1_4_l, Tm1_4_a, Tm1_4_b⟩ := Tm1_4.out
  clear Tm1_3 Tm1_3_l Tm1_3_a Tm1_3_b
  have Op0_4 : Hid (Row w4 w.heap.size w1.heap.size b1 z0.length c1 z0) := Lib.hid (Op0_3.out.keep B4.out)
  clear Op0_3
  have Om0_4 : Hid (Row w4 w1.heap.size m2 b2 (cZ (GoC z0) z0).length c2 (cZ (GoC z0) z0)) := Lib.hid (Om0_3.out.keep B4.out)
  clear Om0_3
  have Om1_4 : Hid (Row w4 m2 w2.heap.size d2 (cZ (GoC z0) (perL z0)).length e2 (cZ (GoC z0) (perL z0))) := Lib.hid (Om1_3.out.keep B4.out)
  clear Om1_3
  have Ox0_4 : Hid (Row w4 (w2.heap.size + 2) w3.heap.size b3 z0.length c3 z0) := Lib.hid (Ox0_3.out.keep B4.out)
  clear Ox0_3
  have A4 : Hid (Below w.heap.size w w4) := Lib.hid (A3.out.trans (B4.out.mono A3.out.size))
  clear A3
  clear hr4 hs4 hm4 hb4
  go_wp2_with fail
  refine (eq_rhythm _ b4 b2 c4 c2 _ (cZ (GoC z0) z0) _ ((Og0_4.out.at HX.out).below (bel2 _ (.cells #[.int .i64 (cS (GoC z0) (linS z0)), .slice b4 (cZ (GoC z0) z0).length c4] 25) (.cells #[.int .i64 (cS (GoC z0) (linS z0)), .slice d4 (cZ (GoC z0) (perL z0)).length e4] 25))) ((Om0_4.out.at HX.out).below (bel2 _ (.cells #[.int .i64 (cS (GoC z0) (linS z0)), .slice b4 (cZ (GoC z0) z0).length c4] 25) (.cells #[.int .i64 (cS (GoC z0) (linS z0)), .slice d4 (cZ (GoC z0) (perL z0)).length e4] 25))) (by omega)).mono ?_
  rintro e w5 ⟨rfl, hb5⟩
  have p5 := Lib.hid (bel2 w4 (.cells #[.int .i64 (cS (GoC z0) (linS z0)), .slice b4 (cZ (GoC z0) z0).length c4] 25) (.cells #[.int .i64 (cS (GoC z0) (linS z0)), .slice d4 (cZ (GoC z0) (perL z0)).length e4] 25))
  have B5 : Hid (Below w4.heap.size w4 w5) := Lib.hid (p5.out.trans (hb5.mono p5.out.size))
  have B5_size := B5.out.size
  have pz5 : w4.heap.size + 2 ≤ w5.heap.size := by have := hb5.size; simp at this; omega
  have Tm0_5 : Hid (Two w5 w2.heap.size (.int .i64 (cS (GoC z0) (linS z0))) (.slice b2 (cZ (GoC z0) z0).length c2)) := Lib.hid (Tm0_4.out.keep B5.out)
  obtain ⟨Tm0_5_l, Tm0_5_a, Tm0_5_b⟩ := Tm0_5.out
  clear Tm0_4 Tm0_4_l Tm0_4_a Tm0_4_b
  have Tm1_5 : Hid (Two w5 (w2.heap.size + 1) (.int .i64 (cS (GoC z0) (linS z0))) (.slice d2 (cZ (GoC z0) (perL z0)).length e2)) := Lib.hid (Tm1_4.out.keep B5.out)
  obtain ⟨Tm1_5_l, Tm1_5_a, Tm1_5_b⟩ := Tm1_5.out
  clear Tm1_4 Tm1_4_l Tm1_4_a Tm1_4_b
  have Tg0_5 : Hid (Two w5 w4.heap.size (.int .i64 (cS (GoC z0) (linS z0))) (.slice b4 (cZ (GoC z0) z0).length c4)) := Lib.hid (((two_new w4 (.int .i64 (cS (GoC z0) (linS z0))) (.slice b4 (cZ (GoC z0) z0).length c4) 25).keep (bel1 _ (.cells #[.int .i64 (cS (GoC z0) (linS z0)), .slice d4 (cZ (GoC z0) (perL z0)).length e4] 25))).keep hb5)
  obtain ⟨Tg0_5_l, Tg0_5_a, Tg0_5_b⟩ := Tg0_5.out
  have Tg1_5 : Hid (Two w5 (w4.heap.size + 1) (.int .i64 (cS (GoC z0) (linS z0))) (.slice d4 (cZ (GoC z0) (perL z0)).length e4)) := Lib.hid (by simpa using ((two_new (w4.alloc (.cells #[.int .i64 (cS (GoC z0) (linS z0)), .slice b4 (cZ (GoC z0) z0).length c4] 25)) (.int .i64 (cS (GoC z0) (linS z0))) (.slice d4 (cZ (GoC z0) (perL z0)).length e4) 25).keep hb5 : Two _ _ _ _))
  obtain ⟨Tg1_5_l, Tg1_5_a, Tg1_5_b⟩ := Tg1_5.out
  have Op0_5 : Hid (Row w5 w.heap.size w1.heap.size b1 z0.length c1 z0) := Lib.hid (Op0_4.out.keep B5.out)
  clear Op0_4
  have Om0_5 : Hid (Row w5 w1.heap.size m2 b2 (cZ (GoC z0) z0).length c2 (cZ (GoC z0) z0)) := Lib.hid (Om0_4.out.keep B5.out)
  clear Om0_4
  have Om1_5 : Hid (Row w5 m2 w2.heap.size d2 (cZ (GoC z0) (perL z0)).length e2 (cZ (GoC z0) (perL z0))) := Lib.hid (Om1_4.out.keep B5.out)
  clear Om1_4
  have Ox0_5 : Hid (Row w5 (w2.heap.size + 2) w3.heap.size b3 z0.length c3 z0) := Lib.hid (Ox0_4.out.keep B5.out)
  clear Ox0_4
  have Og0_5 : Hid (Row w5 w3.heap.size m4 b4 (cZ (GoC z0) z0).length c4 (cZ (GoC z0) z0)) := Lib.hid (Og0_4.out.keep B5.out)
  clear Og0_4
  have Og1_5 : Hid (Row w5 m4 w4.heap.size d4 (cZ (GoC z0) (perL z0)).length e4 (cZ (GoC z0) (perL z0))) := Lib.hid (Og1_4.out.keep B5.out)
  clear Og1_4
  have A5 : Hid (Below w.heap.size w w5) := Lib.hid (A4.out.trans (B5.out.mono A4.out.size))
  clear A4
  clear hb5
  go_wp2_with fail
  refine (eq_rhythm _ d4 d2 e4 e2 _ (cZ (GoC z0) (perL z0)) _ (Og1_5.out.at HY.out) (Om1_5.out.at HY.out) (by omega)).mono ?_
  rintro e w6 ⟨rfl, hb6⟩
  have B6 : Hid (Below w5.heap.size w5 w6) := Lib.hid (hb6)
  have B6_size := B6.out.size
  have Tm0_6 : Hid (Two w6 w2.heap.size (.int .i64 (cS (GoC z0) (linS z0))) (.slice b2 (cZ (GoC z0) z0).length c2)) := Lib.hid (Tm0_5.out.keep B6.out)
  obtain ⟨Tm0_6_l, Tm0_6_a, Tm0_6_b⟩ := Tm0_6.out
  clear Tm0_5 Tm0_5_l Tm0_5_a Tm0_5_b
  have Tm1_6 : Hid (Two w6 (w2.heap.size + 1) (.int .i64 (cS (GoC z0) (linS z0))) (.slice d2 (cZ (GoC z0) (perL z0)).length e2)) := Lib.hid (Tm1_5.out.keep B6.out)
  obtain ⟨Tm1_6_l, Tm1_6_a, Tm1_6_b⟩ := Tm1_6.out
  clear Tm1_5 Tm1_5_l Tm1_5_a Tm1_5_b
  have Tg0_6 : Hid (Two w6 w4.heap.size (.int .i64 (cS (GoC z0) (linS z0))) (.slice b4 (cZ (GoC z0) z0).length c4)) := Lib.hid (Tg0_5.out.keep B6.out)
  obtain ⟨Tg0_6_l, Tg0_6_a, Tg0_6_b⟩ := Tg0_6.out
  clear Tg0_5 Tg0_5_l Tg0_5_a Tg0_5_b
  have Tg1_6 : Hid (Two w6 (w4.heap.size + 1) (.int .i64 (cS (GoC z0) (linS z0))) (.slice d4 (cZ (GoC z0) (perL z0)).length e4)) := Lib.hid (Tg1_5.out.keep B6.out)
  obtain ⟨Tg1_6_l, Tg1_6_a, Tg1_6_b⟩ := Tg1_6.out
  clear Tg1_5 Tg1_5_l Tg1_5_a Tg1_5_b
  have Op0_6 : Hid (Row w6 w.heap.size w1.heap.size b1 z0.length c1 z0) := Lib.hid (Op0_5.out.keep B6.out)
  clear Op0_5
  have Om0_6 : Hid (Row w6 w1.heap.size m2 b2 (cZ (GoC z0) z0).length c2 (cZ (GoC z0) z0)) := Lib.hid (Om0_5.out.keep B6.out)
  clear Om0_5
  have Om1_6 : Hid (Row w6 m2 w2.heap.size d2 (cZ (GoC z0) (perL z0)).length e2 (cZ (GoC z0) (perL z0))) := Lib.hid (Om1_5.out.keep B6.out)
  clear Om1_5
  have Ox0_6 : Hid (Row w6 (w2.heap.size + 2) w3.heap.size b3 z0.length c3 z0) := Lib.hid (Ox0_5.out.keep B6.out)
  clear Ox0_5
  have Og0_6 : Hid (Row w6 w3.heap.size m4 b4 (cZ (GoC z0) z0).length c4 (cZ (GoC z0) z0)) := Lib.hid (Og0_5.out.keep B6.out)
  clear Og0_5
  have Og1_6 : Hid (Row w6 m4 w4.heap.size d4 (cZ (GoC z0) (perL z0)).length e4 (cZ (GoC z0) (perL z0))) := Lib.hid (Og1_5.out.keep B6.out)
  clear Og1_5
  have A6 : Hid (Below w.heap.size w w6) := Lib.hid (A5.out.trans (B6.out.mono A5.out.size))
  clear A5
  clear hb6
  go_wp2_with fail
  refine (copy_len a0 len0 cap0 z0 _ (HS0.out.below A6.out) le0).mono ?_
  rintro e w7 ⟨b7, c7, rfl, hown7, hb7⟩
  have Oz0_7 : Hid (Row w7 w6.heap.size w7.heap.size b7 z0.length c7 z0) := Lib.hid (row_of (own_base hown7 (Nat.le_refl _)))
  have B7 : Hid (Below w6.heap.size w6 w7) := Lib.hid (hb7)
  have B7_size := B7.out.size
  have Tm0_7 : Hid (Two w7 w2.heap.size (.int .i64 (cS (GoC z0) (linS z0))) (.slice b2 (cZ (GoC z0) z0).length c2)) := Lib.hid (Tm0_6.out.keep B7.out)
  obtain ⟨Tm0_7_l, Tm0_7_a, Tm0_7_b⟩ := Tm0_7.out
  clear Tm0_6 Tm0_6_l Tm0_6_a Tm0_6_b
  have Tm1_7 : Hid (Two w7 (w2.heap.size + 1) (.int .i64 (cS (GoC z0) (linS z0))) (.slice d2 (cZ (GoC z0) (perL z0)).length e2)) := Lib.hid (Tm1_6.out.keep B7.out)
  obtain ⟨Tm1_7_l, Tm1_7_a, Tm1_7_b⟩ := Tm1_7.out
  clear Tm1_6 Tm1_6_l Tm1_6_a Tm1_6_b
  have Tg0_7 : Hid (Two w7 w4.heap.size (.int .i64 (cS (GoC z0) (linS z0))) (.slice b4 (cZ (GoC z0) z0).length c4)) := Lib.hid (Tg0_6.out.keep B7.out)
  obtain ⟨Tg0_7_l, Tg0_7_a, Tg0_7_b⟩ := Tg0_7.out
  clear Tg0_6 Tg0_6_l Tg0_6_a Tg0_6_b
  have Tg1_7 : Hid (Two w7 (w4.heap.size + 1) (.int .i64 (cS (GoC z0) (linS z0))) (.slice d4 (cZ (GoC z0) (perL z0)).length e4)) := Lib.hid (Tg1_6.out.keep B7.out)
  obtain ⟨Tg1_7_l, Tg1_7_a, Tg1_7_b⟩ := Tg1_7.out
  clear Tg1_6 Tg1_6_l Tg1_6_a Tg1_6_b
  have Op0_7 : Hid (Row w7 w.heap.size w1.heap.size b1 z0.length c1 z0) := Lib.hid (Op0_6.out.keep B7.out)
  clear Op0_6
  have Om0_7 : Hid (Row w7 w1.heap.size m2 b2 (cZ (GoC z0) z0).length c2 (cZ (GoC z0) z0)) := Lib.hid (Om0_6.out.keep B7.out)
  clear Om0_6
  have Om1_7 : Hid (Row w7 m2 w2.heap.size d2 (cZ (GoC z0) (perL z0)).length e2 (cZ (GoC z0) (perL z0))) := Lib.hid (Om1_6.out.keep B7.out)
  clear Om1_6
  have Ox0_7 : Hid (Row w7 (w2.heap.size + 2) w3.heap.size b3 z0.length c3 z0) := Lib.hid (Ox0_6.out.keep B7.out)
  clear Ox0_6
  have Og0_7 : Hid (Row w7 w3.heap.size m4 b4 (cZ (GoC z0) z0).length c4 (cZ (GoC z0) z0)) := Lib.hid (Og0_6.out.keep B7.out)
  clear Og0_6
  have Og1_7 : Hid (Row w7 m4 w4.heap.size d4 (cZ (GoC z0) (perL z0)).length e4 (cZ (GoC z0) (perL z0))) := Lib.hid (Og1_6.out.keep B7.out)
  clear Og1_6
  have A7 : Hid (Below w.heap.size w w7) := Lib.hid (A6.out.trans (B7.out.mono A6.out.size))
  clear A6
  clear hown7 hb7
  go_wp2_with fail
  refine (eq_ints b3 b7 c3 c7 _ z0 _ (Ox0_7.out.at HS0.out.int) (Oz0_7.out.at HS0.out.int) (by omega)).mono ?_
  rintro e w8 ⟨rfl, hb8⟩
  have B8 : Hid (Below w7.heap.size w7 w8) := Lib.hid (hb8)
  have B8_size := B8.out.size
  have Tm0_8 : Hid (Two w8 w2.heap.size (.int .i64 (cS (GoC z0) (linS z0))) (.slice b2 (cZ (GoC z0) z0).length c2)) := Lib.hid (Tm0_7.out.keep B8.out)
  obtain ⟨Tm0_8_l, Tm0_8_a, Tm0_8_b⟩ := Tm0_8.out
  clear Tm0_7 Tm0_7_l Tm0_7_a Tm0_7_b
  have Tm1_8 : Hid (Two w8 (w2.heap.size + 1) (.int .i64 (cS (GoC z0) (linS z0))) (.slice d2 (cZ (GoC z0) (perL z0)).length e2)) := Lib.hid (Tm1_7.out.keep B8.out)
  obtain ⟨Tm1_8_l, Tm1_8_a, Tm1_8_b⟩ := Tm1_8.out
  clear Tm1_7 Tm1_7_l Tm1_7_a Tm1_7_b
  have Tg0_8 : Hid (Two w8 w4.heap.size (.int .i64 (cS (GoC z0) (linS z0))) (.slice b4 (cZ (GoC z0) z0).length c4)) := Lib.hid (Tg0_7.out.keep B8.out)
  obtain ⟨Tg0_8_l, Tg0_8_a, Tg0_8_b⟩ := Tg0_8.out
  clear Tg0_7 Tg0_7_l Tg0_7_a Tg0_7_b
  have Tg1_8 : Hid (Two w8 (w4.heap.size + 1) (.int .i64 (cS (GoC z0) (linS z0))) (.slice d4 (cZ (GoC z0) (perL z0)).length e4)) := Lib.hid (Tg1_7.out.keep B8.out)
  obtain ⟨Tg1_8_l, Tg1_8_a, Tg1_8_b⟩ := Tg1_8.out
  clear Tg1_7 Tg1_7_l Tg1_7_a Tg1_7_b
  have Op0_8 : Hid (Row w8 w.heap.size w1.heap.size b1 z0.length c1 z0) := Lib.hid (Op0_7.out.keep B8.out)
  clear Op0_7
  have Om0_8 : Hid (Row w8 w1.heap.size m2 b2 (cZ (GoC z0) z0).length c2 (cZ (GoC z0) z0)) := Lib.hid (Om0_7.out.keep B8.out)
  clear Om0_7
  have Om1_8 : Hid (Row w8 m2 w2.heap.size d2 (cZ (GoC z0) (perL z0)).length e2 (cZ (GoC z0) (perL z0))) := Lib.hid (Om1_7.out.keep B8.out)
  clear Om1_7
  have Ox0_8 : Hid (Row w8 (w2.heap.size + 2) w3.heap.size b3 z0.length c3 z0) := Lib.hid (Ox0_7.out.keep B8.out)
  clear Ox0_7
  have Og0_8 : Hid (Row w8 w3.heap.size m4 b4 (cZ (GoC z0) z0).length c4 (cZ (GoC z0) z0)) := Lib.hid (Og0_7.out.keep B8.out)
  clear Og0_7
  have Og1_8 : Hid (Row w8 m4 w4.heap.size d4 (cZ (GoC z0) (perL z0)).length e4 (cZ (GoC z0) (perL z0))) := Lib.hid (Og1_7.out.keep B8.out)
  clear Og1_7
  have Oz0_8 : Hid (Row w8 w6.heap.size w7.heap.size b7 z0.length c7 z0) := Lib.hid (Oz0_7.out.keep B8.out)
  clear Oz0_7
  have A8 : Hid (Below w.heap.size w w8) := Lib.hid (A7.out.trans (B8.out.mono A7.out.size))
  clear A7
  clear hb8
  go_wp2_with fail
  refine (mark_ints (w2.heap.size + 2) w3.heap.size (1) b3 c3 _ _ _ Ox0_8.out (by omega) (by omega)).mono ?_
  rintro e w9 ⟨rfl, hown9, hb9⟩
  have B9 : Hid (Within (w2.heap.size + 2) w3.heap.size w8 w9) := Lib.hid (hb9)
  have B9_size := B9.out.size
  have Tm0_9 : Hid (Two w9 w2.heap.size (.int .i64 (cS (GoC z0) (linS z0))) (.slice b2 (cZ (GoC z0) z0).length c2)) := Lib.hid (Tm0_8.out.within B9.out (by omega))
  obtain ⟨Tm0_9_l, Tm0_9_a, Tm0_9_b⟩ := Tm0_9.out
  clear Tm0_8 Tm0_8_l Tm0_8_a Tm0_8_b
  have Tm1_9 : Hid (Two w9 (w2.heap.size + 1) (.int .i64 (cS (GoC z0) (linS z0))) (.slice d2 (cZ (GoC z0) (perL z0)).length e2)) := Lib.hid (Tm1_8.out.within B9.out (by omega))
  obtain ⟨Tm1_9_l, Tm1_9_a, Tm1_9_b⟩ := Tm1_9.out
  clear Tm1_8 Tm1_8_l Tm1_8_a Tm1_8_b
  have Tg0_9 : Hid (Two w9 w4.heap.size (.int .i64 (cS (GoC z0) (linS z0))) (.slice b4 (cZ (GoC z0) z0).length c4)) := Lib.hid (Tg0_8.out.within B9.out (by omega))
  obtain ⟨Tg0_9_l, Tg0_9_a, Tg0_9_b⟩ := Tg0_9.out
  clear Tg0_8 Tg0_8_l Tg0_8_a Tg0_8_b
  have Tg1_9 : Hid (Two w9 (w4.heap.size + 1) (.int .i64 (cS (GoC z0) (linS z0))) (.slice d4 (cZ (GoC z0) (perL z0)).length e4)) := Lib.hid (Tg1_8.out.within B9.out (by omega))
  obtain ⟨Tg1_9_l, Tg1_9_a, Tg1_9_b⟩ := Tg1_9.out
  clear Tg1_8 Tg1_8_l Tg1_8_a Tg1_8_b
  have Op0_9 : Hid (Row w9 w.heap.size w1.heap.size b1 z0.length c1 z0) := Lib.hid (Op0_8.out.within B9.out (by omega))
  clear Op0_8
  have Om0_9 : Hid (Row w9 w1.heap.size m2 b2 (cZ (GoC z0) z0).length c2 (cZ (GoC z0) z0)) := Lib.hid (Om0_8.out.within B9.out (by omega))
  clear Om0_8
  have Om1_9 : Hid (Row w9 m2 w2.heap.size d2 (cZ (GoC z0) (perL z0)).length e2 (cZ (GoC z0) (perL z0))) := Lib.hid (Om1_8.out.within B9.out (by omega))
  clear Om1_8
  have Og0_9 : Hid (Row w9 w3.heap.size m4 b4 (cZ (GoC z0) z0).length c4 (cZ (GoC z0) z0)) := Lib.hid (Og0_8.out.within B9.out (by omega))
  clear Og0_8
  have Og1_9 : Hid (Row w9 m4 w4.heap.size d4 (cZ (GoC z0) (perL z0)).length e4 (cZ (GoC z0) (perL z0))) := Lib.hid (Og1_8.out.within B9.out (by omega))
  clear Og1_8
  have A9 : Hid (Below w.heap.size w w9) := Lib.hid (Rhy.Below.within A8.out B9.out (by omega) A8.out.size)
  clear A8
  have Ox0_9 : Hid (Row w9 (w2.heap.size + 2) w3.heap.size b3 z0.length c3 (marks (1) z0.length)) := Lib.hid hown9
  clear hown9 hb9 Ox0_8
  go_wp2_with fail
  refine (eq_rhythm _ b4 b2 c4 c2 _ (cZ (GoC z0) z0) _ (Og0_9.out.at HX.out) (Om0_9.out.at HX.out) (by omega)).mono ?_
  rintro e w10 ⟨rfl, hb10⟩
  have B10 : Hid (Below w9.heap.size w9 w10) := Lib.hid (hb10)
  have B10_size := B10.out.size
  have Tm0_10 : Hid (Two w10 w2.heap.size (.int .i64 (cS (GoC z0) (linS z0))) (.slice b2 (cZ (GoC z0) z0).length c2)) := Lib.hid (Tm0_9.out.keep B10.out)
  obtain ⟨Tm0_10_l, Tm0_10_a, Tm0_10_b⟩ := Tm0_10.out
  clear Tm0_9 Tm0_9_l Tm0_9_a Tm0_9_b
  have Tm1_10 : Hid (Two w10 (w2.heap.size + 1) (.int .i64 (cS (GoC z0) (linS z0))) (.slice d2 (cZ (GoC z0) (perL z0)).length e2)) := Lib.hid (Tm1_9.out.keep B10.out)
  obtain ⟨Tm1_10_l, Tm1_10_a, Tm1_10_b⟩ := Tm1_10.out
  clear Tm1_9 Tm1_9_l Tm1_9_a Tm1_9_b
  have Tg0_10 : Hid (Two w10 w4.heap.size (.int .i64 (cS (GoC z0) (linS z0))) (.slice b4 (cZ (GoC z0) z0).length c4)) := Lib.hid (Tg0_9.out.keep B10.out)
  obtain ⟨Tg0_10_l, Tg0_10_a, Tg0_10_b⟩ := Tg0_10.out
  clear Tg0_9 Tg0_9_l Tg0_9_a Tg0_9_b
  have Tg1_10 : Hid (Two w10 (w4.heap.size + 1) (.int .i64 (cS (GoC z0) (linS z0))) (.slice d4 (cZ (GoC z0) (perL z0)).length e4)) := Lib.hid (Tg1_9.out.keep B10.out)
  obtain ⟨Tg1_10_l, Tg1_10_a, Tg1_10_b⟩ := Tg1_10.out
  clear Tg1_9 Tg1_9_l Tg1_9_a Tg1_9_b
  have Op0_10 : Hid (Row w10 w.heap.size w1.heap.size b1 z0.length c1 z0) := Lib.hid (Op0_9.out.keep B10.out)
  clear Op0_9
  have Om0_10 : Hid (Row w10 w1.heap.size m2 b2 (cZ (GoC z0) z0).length c2 (cZ (GoC z0) z0)) := Lib.hid (Om0_9.out.keep B10.out)
  clear Om0_9
  have Om1_10 : Hid (Row w10 m2 w2.heap.size d2 (cZ (GoC z0) (perL z0)).length e2 (cZ (GoC z0) (perL z0))) := Lib.hid (Om1_9.out.keep B10.out)
  clear Om1_9
  have Ox0_10 : Hid (Row w10 (w2.heap.size + 2) w3.heap.size b3 z0.length c3 (marks (1) z0.length)) := Lib.hid (Ox0_9.out.keep B10.out)
  clear Ox0_9
  have Og0_10 : Hid (Row w10 w3.heap.size m4 b4 (cZ (GoC z0) z0).length c4 (cZ (GoC z0) z0)) := Lib.hid (Og0_9.out.keep B10.out)
  clear Og0_9
  have Og1_10 : Hid (Row w10 m4 w4.heap.size d4 (cZ (GoC z0) (perL z0)).length e4 (cZ (GoC z0) (perL z0))) := Lib.hid (Og1_9.out.keep B10.out)
  clear Og1_9
  have A10 : Hid (Below w.heap.size w w10) := Lib.hid (A9.out.trans (B10.out.mono A9.out.size))
  clear A9
  clear hb10
  go_wp2_with fail
  refine (eq_rhythm _ d4 d2 e4 e2 _ (cZ (GoC z0) (perL z0)) _ (Og1_10.out.at HY.out) (Om1_10.out.at HY.out) (by omega)).mono ?_
  rintro e w11 ⟨rfl, hb11⟩
  have B11 : Hid (Below w10.heap.size w10 w11) := Lib.hid (hb11)
  have B11_size := B11.out.size
  have Tm0_11 : Hid (Two w11 w2.heap.size (.int .i64 (cS (GoC z0) (linS z0))) (.slice b2 (cZ (GoC z0) z0).length c2)) := Lib.hid (Tm0_10.out.keep B11.out)
  obtain ⟨Tm0_11_l, Tm0_11_a, Tm0_11_b⟩ := Tm0_11.out
  clear Tm0_10 Tm0_10_l Tm0_10_a Tm0_10_b
  have Tm1_11 : Hid (Two w11 (w2.heap.size + 1) (.int .i64 (cS (GoC z0) (linS z0))) (.slice d2 (cZ (GoC z0) (perL z0)).length e2)) := Lib.hid (Tm1_10.out.keep B11.out)
  obtain ⟨Tm1_11_l, Tm1_11_a, Tm1_11_b⟩ := Tm1_11.out
  clear Tm1_10 Tm1_10_l Tm1_10_a Tm1_10_b
  have Tg0_11 : Hid (Two w11 w4.heap.size (.int .i64 (cS (GoC z0) (linS z0))) (.slice b4 (cZ (GoC z0) z0).length c4)) := Lib.hid (Tg0_10.out.keep B11.out)
  obtain ⟨Tg0_11_l, Tg0_11_a, Tg0_11_b⟩ := Tg0_11.out
  clear Tg0_10 Tg0_10_l Tg0_10_a Tg0_10_b
  have Tg1_11 : Hid (Two w11 (w4.heap.size + 1) (.int .i64 (cS (GoC z0) (linS z0))) (.slice d4 (cZ (GoC z0) (perL z0)).length e4)) := Lib.hid (Tg1_10.out.keep B11.out)
  obtain ⟨Tg1_11_l, Tg1_11_a, Tg1_11_b⟩ := Tg1_11.out
  clear Tg1_10 Tg1_10_l Tg1_10_a Tg1_10_b
  have Op0_11 : Hid (Row w11 w.heap.size w1.heap.size b1 z0.length c1 z0) := Lib.hid (Op0_10.out.keep B11.out)
  clear Op0_10
  have Om0_11 : Hid (Row w11 w1.heap.size m2 b2 (cZ (GoC z0) z0).length c2 (cZ (GoC z0) z0)) := Lib.hid (Om0_10.out.keep B11.out)
  clear Om0_10
  have Om1_11 : Hid (Row w11 m2 w2.heap.size d2 (cZ (GoC z0) (perL z0)).length e2 (cZ (GoC z0) (perL z0))) := Lib.hid (Om1_10.out.keep B11.out)
  clear Om1_10
  have Ox0_11 : Hid (Row w11 (w2.heap.size + 2) w3.heap.size b3 z0.length c3 (marks (1) z0.length)) := Lib.hid (Ox0_10.out.keep B11.out)
  clear Ox0_10
  have Og0_11 : Hid (Row w11 w3.heap.size m4 b4 (cZ (GoC z0) z0).length c4 (cZ (GoC z0) z0)) := Lib.hid (Og0_10.out.keep B11.out)
  clear Og0_10
  have Og1_11 : Hid (Row w11 m4 w4.heap.size d4 (cZ (GoC z0) (perL z0)).length e4 (cZ (GoC z0) (perL z0))) := Lib.hid (Og1_10.out.keep B11.out)
  clear Og1_10
  have A11 : Hid (Below w.heap.size w w11) := Lib.hid (A10.out.trans (B11.out.mono A10.out.size))
  clear A10
  clear hb11
  go_wp2_with fail
  refine (mark_rhythm w3.heap.size m4 (1) _ b4 c4 _ _ _ Og0_11.out (by omega) (by omega)).mono ?_
  rintro e w12 ⟨rfl, hown12, hb12⟩
  have B12 : Hid (Within w3.heap.size m4 w11 w12) := Lib.hid (hb12)
  have B12_size := B12.out.size
  have Tm0_12 : Hid (Two w12 w2.heap.size (.int .i64 (cS (GoC z0) (linS z0))) (.slice b2 (cZ (GoC z0) z0).length c2)) := Lib.hid (Tm0_11.out.within B12.out (by omega))
  obtain ⟨Tm0_12_l, Tm0_12_a, Tm0_12_b⟩ := Tm0_12.out
  clear Tm0_11 Tm0_11_l Tm0_11_a Tm0_11_b
  have Tm1_12 : Hid (Two w12 (w2.heap.size + 1) (.int .i64 (cS (GoC z0) (linS z0))) (.slice d2 (cZ (GoC z0) (perL z0)).length e2)) := Lib.hid (Tm1_11.out.within B12.out (by omega))
  obtain ⟨Tm1_12_l, Tm1_12_a, Tm1_12_b⟩ := Tm1_12.out
  clear Tm1_11 Tm1_11_l Tm1_11_a Tm1_11_b
  have Tg0_12 : Hid (Two w12 w4.heap.size (.int .i64 (cS (GoC z0) (linS z0))) (.slice b4 (cZ (GoC z0) z0).length c4)) := Lib.hid (Tg0_11.out.within B12.out (by omega))
  obtain ⟨Tg0_12_l, Tg0_12_a, Tg0_12_b⟩ := Tg0_12.out
  clear Tg0_11 Tg0_11_l Tg0_11_a Tg0_11_b
  have Tg1_12 : Hid (Two w12 (w4.heap.size + 1) (.int .i64 (cS (GoC z0) (linS z0))) (.slice d4 (cZ (GoC z0) (perL z0)).length e4)) := Lib.hid (Tg1_11.out.within B12.out (by omega))
  obtain ⟨Tg1_12_l, Tg1_12_a, Tg1_12_b⟩ := Tg1_12.out
  clear Tg1_11 Tg1_11_l Tg1_11_a Tg1_11_b
  have Op0_12 : Hid (Row w12 w.heap.size w1.heap.size b1 z0.length c1 z0) := Lib.hid (Op0_11.out.within B12.out (by omega))
  clear Op0_11
  have Om0_12 : Hid (Row w12 w1.heap.size m2 b2 (cZ (GoC z0) z0).length c2 (cZ (GoC z0) z0)) := Lib.hid (Om0_11.out.within B12.out (by omega))
  clear Om0_11
  have Om1_12 : Hid (Row w12 m2 w2.heap.size d2 (cZ (GoC z0) (perL z0)).length e2 (cZ (GoC z0) (perL z0))) := Lib.hid (Om1_11.out.within B12.out (by omega))
  clear Om1_11
  have Ox0_12 : Hid (Row w12 (w2.heap.size + 2) w3.heap.size b3 z0.length c3 (marks (1) z0.length)) := Lib.hid (Ox0_11.out.within B12.out (by omega))
  clear Ox0_11
  have Og1_12 : Hid (Row w12 m4 w4.heap.size d4 (cZ (GoC z0) (perL z0)).length e4 (cZ (GoC z0) (perL z0))) := Lib.hid (Og1_11.out.within B12.out (by omega))
  clear Og1_11
  have A12 : Hid (Below w.heap.size w w12) := Lib.hid (Rhy.Below.within A11.out B12.out (by omega) A11.out.size)
  clear A11
  have Og0_12 : Hid (Row w12 w3.heap.size m4 b4 (cZ (GoC z0) z0).length c4 (marks (1) (cZ (GoC z0) z0).length)) := Lib.hid hown12
  clear hown12 hb12 Og0_11
  go_wp2_with fail
  refine (mark_rhythm m4 w4.heap.size (1 + (cZ (GoC z0) z0).length) _ d4 e4 _ _ _ Og1_12.out (by omega) (by omega)).mono ?_
  rintro e w13 ⟨rfl, hown13, hb13⟩
  have B13 : Hid (Within m4 w4.heap.size w12 w13) := Lib.hid (hb13)
  have B13_size := B13.out.size
  have Tm0_13 : Hid (Two w13 w2.heap.size (.int .i64 (cS (GoC z0) (linS z0))) (.slice b2 (cZ (GoC z0) z0).length c2)) := Lib.hid (Tm0_12.out.within B13.out (by omega))
  obtain ⟨Tm0_13_l, Tm0_13_a, Tm0_13_b⟩ := Tm0_13.out
  clear Tm0_12 Tm0_12_l Tm0_12_a Tm0_12_b
  have Tm1_13 : Hid (Two w13 (w2.heap.size + 1) (.int .i64 (cS (GoC z0) (linS z0))) (.slice d2 (cZ (GoC z0) (perL z0)).length e2)) := Lib.hid (Tm1_12.out.within B13.out (by omega))
  obtain ⟨Tm1_13_l, Tm1_13_a, Tm1_13_b⟩ := Tm1_13.out
  clear Tm1_12 Tm1_12_l Tm1_12_a Tm1_12_b
  have Tg0_13 : Hid (Two w13 w4.heap.size (.int .i64 (cS (GoC z0) (linS z0))) (.slice b4 (cZ (GoC z0) z0).length c4)) := Lib.hid (Tg0_12.out.within B13.out (by omega))
  obtain ⟨Tg0_13_l, Tg0_13_a, Tg0_13_b⟩ := Tg0_13.out
  clear Tg0_12 Tg0_12_l Tg0_12_a Tg0_12_b
  have Tg1_13 : Hid (Two w13 (w4.heap.size + 1) (.int .i64 (cS (GoC z0) (linS z0))) (.slice d4 (cZ (GoC z0) (perL z0)).length e4)) := Lib.hid (Tg1_12.out.within B13.out (by omega))
  obtain ⟨Tg1_13_l, Tg1_13_a, Tg1_13_b⟩ := Tg1_13.out
  clear Tg1_12 Tg1_12_l Tg1_12_a Tg1_12_b
  have Op0_13 : Hid (Row w13 w.heap.size w1.heap.size b1 z0.length c1 z0) := Lib.hid (Op0_12.out.within B13.out (by omega))
  clear Op0_12
  have Om0_13 : Hid (Row w13 w1.heap.size m2 b2 (cZ (GoC z0) z0).length c2 (cZ (GoC z0) z0)) := Lib.hid (Om0_12.out.within B13.out (by omega))
  clear Om0_12
  have Om1_13 : Hid (Row w13 m2 w2.heap.size d2 (cZ (GoC z0) (perL z0)).length e2 (cZ (GoC z0) (perL z0))) := Lib.hid (Om1_12.out.within B13.out (by omega))
  clear Om1_12
  have Ox0_13 : Hid (Row w13 (w2.heap.size + 2) w3.heap.size b3 z0.length c3 (marks (1) z0.length)) := Lib.hid (Ox0_12.out.within B13.out (by omega))
  clear Ox0_12
  have Og0_13 : Hid (Row w13 w3.heap.size m4 b4 (cZ (GoC z0) z0).length c4 (marks (1) (cZ (GoC z0) z0).length)) := Lib.hid (Og0_12.out.within B13.out (by omega))
  clear Og0_12
  have A13 : Hid (Below w.heap.size w w13) := Lib.hid (Rhy.Below.within A12.out B13.out (by omega) A12.out.size)
  clear A12
  have Og1_13 : Hid (Row w13 m4 w4.heap.size d4 (cZ (GoC z0) (perL z0)).length e4 (marks (1 + (cZ (GoC z0) z0).length) (cZ (GoC z0) (perL z0)).length)) := Lib.hid hown13
  clear hown13 hb13 Og1_12
  go_wp2_with fail
  refine (held_rhythm (1) _ b4 c4 (cZ (GoC z0) z0).length _ (Og0_13.out.at (marks_int _ _ (by omega))) (by omega) (by omega)).mono ?_
  rintro e w14 ⟨rfl, hb14⟩
  have B14 : Hid (Below w13.heap.size w13 w14) := Lib.hid (hb14)
  have B14_size := B14.out.size
  have Tm0_14 : Hid (Two w14 w2.heap.size (.int .i64 (cS (GoC z0) (linS z0))) (.slice b2 (cZ (GoC z0) z0).length c2)) := Lib.hid (Tm0_13.out.keep B14.out)
  obtain ⟨Tm0_14_l, Tm0_14_a, Tm0_14_b⟩ := Tm0_14.out
  clear Tm0_13 Tm0_13_l Tm0_13_a Tm0_13_b
  have Tm1_14 : Hid (Two w14 (w2.heap.size + 1) (.int .i64 (cS (GoC z0) (linS z0))) (.slice d2 (cZ (GoC z0) (perL z0)).length e2)) := Lib.hid (Tm1_13.out.keep B14.out)
  obtain ⟨Tm1_14_l, Tm1_14_a, Tm1_14_b⟩ := Tm1_14.out
  clear Tm1_13 Tm1_13_l Tm1_13_a Tm1_13_b
  have Tg0_14 : Hid (Two w14 w4.heap.size (.int .i64 (cS (GoC z0) (linS z0))) (.slice b4 (cZ (GoC z0) z0).length c4)) := Lib.hid (Tg0_13.out.keep B14.out)
  obtain ⟨Tg0_14_l, Tg0_14_a, Tg0_14_b⟩ := Tg0_14.out
  clear Tg0_13 Tg0_13_l Tg0_13_a Tg0_13_b
  have Tg1_14 : Hid (Two w14 (w4.heap.size + 1) (.int .i64 (cS (GoC z0) (linS z0))) (.slice d4 (cZ (GoC z0) (perL z0)).length e4)) := Lib.hid (Tg1_13.out.keep B14.out)
  obtain ⟨Tg1_14_l, Tg1_14_a, Tg1_14_b⟩ := Tg1_14.out
  clear Tg1_13 Tg1_13_l Tg1_13_a Tg1_13_b
  have Op0_14 : Hid (Row w14 w.heap.size w1.heap.size b1 z0.length c1 z0) := Lib.hid (Op0_13.out.keep B14.out)
  clear Op0_13
  have Om0_14 : Hid (Row w14 w1.heap.size m2 b2 (cZ (GoC z0) z0).length c2 (cZ (GoC z0) z0)) := Lib.hid (Om0_13.out.keep B14.out)
  clear Om0_13
  have Om1_14 : Hid (Row w14 m2 w2.heap.size d2 (cZ (GoC z0) (perL z0)).length e2 (cZ (GoC z0) (perL z0))) := Lib.hid (Om1_13.out.keep B14.out)
  clear Om1_13
  have Ox0_14 : Hid (Row w14 (w2.heap.size + 2) w3.heap.size b3 z0.length c3 (marks (1) z0.length)) := Lib.hid (Ox0_13.out.keep B14.out)
  clear Ox0_13
  have Og0_14 : Hid (Row w14 w3.heap.size m4 b4 (cZ (GoC z0) z0).length c4 (marks (1) (cZ (GoC z0) z0).length)) := Lib.hid (Og0_13.out.keep B14.out)
  clear Og0_13
  have Og1_14 : Hid (Row w14 m4 w4.heap.size d4 (cZ (GoC z0) (perL z0)).length e4 (marks (1 + (cZ (GoC z0) z0).length) (cZ (GoC z0) (perL z0)).length)) := Lib.hid (Og1_13.out.keep B14.out)
  clear Og1_13
  have A14 : Hid (Below w.heap.size w w14) := Lib.hid (A13.out.trans (B14.out.mono A13.out.size))
  clear A13
  clear hb14
  go_wp2_with fail
  refine (held_rhythm (1 + (cZ (GoC z0) z0).length) _ d4 e4 (cZ (GoC z0) (perL z0)).length _ (Og1_14.out.at (marks_int _ _ (by omega))) (by omega) (by omega)).mono ?_
  rintro e w15 ⟨rfl, hb15⟩
  have B15 : Hid (Below w14.heap.size w14 w15) := Lib.hid (hb15)
  have B15_size := B15.out.size
  have Tm0_15 : Hid (Two w15 w2.heap.size (.int .i64 (cS (GoC z0) (linS z0))) (.slice b2 (cZ (GoC z0) z0).length c2)) := Lib.hid (Tm0_14.out.keep B15.out)
  obtain ⟨Tm0_15_l, Tm0_15_a, Tm0_15_b⟩ := Tm0_15.out
  clear Tm0_14 Tm0_14_l Tm0_14_a Tm0_14_b
  have Tm1_15 : Hid (Two w15 (w2.heap.size + 1) (.int .i64 (cS (GoC z0) (linS z0))) (.slice d2 (cZ (GoC z0) (perL z0)).length e2)) := Lib.hid (Tm1_14.out.keep B15.out)
  obtain ⟨Tm1_15_l, Tm1_15_a, Tm1_15_b⟩ := Tm1_15.out
  clear Tm1_14 Tm1_14_l Tm1_14_a Tm1_14_b
  have Tg0_15 : Hid (Two w15 w4.heap.size (.int .i64 (cS (GoC z0) (linS z0))) (.slice b4 (cZ (GoC z0) z0).length c4)) := Lib.hid (Tg0_14.out.keep B15.out)
  obtain ⟨Tg0_15_l, Tg0_15_a, Tg0_15_b⟩ := Tg0_15.out
  clear Tg0_14 Tg0_14_l Tg0_14_a Tg0_14_b
  have Tg1_15 : Hid (Two w15 (w4.heap.size + 1) (.int .i64 (cS (GoC z0) (linS z0))) (.slice d4 (cZ (GoC z0) (perL z0)).length e4)) := Lib.hid (Tg1_14.out.keep B15.out)
  obtain ⟨Tg1_15_l, Tg1_15_a, Tg1_15_b⟩ := Tg1_15.out
  clear Tg1_14 Tg1_14_l Tg1_14_a Tg1_14_b
  have Op0_15 : Hid (Row w15 w.heap.size w1.heap.size b1 z0.length c1 z0) := Lib.hid (Op0_14.out.keep B15.out)
  clear Op0_14
  have Om0_15 : Hid (Row w15 w1.heap.size m2 b2 (cZ (GoC z0) z0).length c2 (cZ (GoC z0) z0)) := Lib.hid (Om0_14.out.keep B15.out)
  clear Om0_14
  have Om1_15 : Hid (Row w15 m2 w2.heap.size d2 (cZ (GoC z0) (perL z0)).length e2 (cZ (GoC z0) (perL z0))) := Lib.hid (Om1_14.out.keep B15.out)
  clear Om1_14
  have Ox0_15 : Hid (Row w15 (w2.heap.size + 2) w3.heap.size b3 z0.length c3 (marks (1) z0.length)) := Lib.hid (Ox0_14.out.keep B15.out)
  clear Ox0_14
  have Og0_15 : Hid (Row w15 w3.heap.size m4 b4 (cZ (GoC z0) z0).length c4 (marks (1) (cZ (GoC z0) z0).length)) := Lib.hid (Og0_14.out.keep B15.out)
  clear Og0_14
  have Og1_15 : Hid (Row w15 m4 w4.heap.size d4 (cZ (GoC z0) (perL z0)).length e4 (marks (1 + (cZ (GoC z0) z0).length) (cZ (GoC z0) (perL z0)).length)) := Lib.hid (Og1_14.out.keep B15.out)
  clear Og1_14
  have A15 : Hid (Below w.heap.size w w15) := Lib.hid (A14.out.trans (B15.out.mono A14.out.size))
  clear A14
  clear hb15
  go_wp2_with fail
  refine (copy_len a0 len0 cap0 z0 _ (HS0.out.below A15.out) le0).mono ?_
  rintro e w16 ⟨b16, c16, rfl, hown16, hb16⟩
  have Oy0_16 : Hid (Row w16 w15.heap.size w16.heap.size b16 z0.length c16 z0) := Lib.hid (row_of (own_base hown16 (Nat.le_refl _)))
  have B16 : Hid (Below w15.heap.size w15 w16) := Lib.hid (hb16)
  have B16_size := B16.out.size
  have Tm0_16 : Hid (Two w16 w2.heap.size (.int .i64 (cS (GoC z0) (linS z0))) (.slice b2 (cZ (GoC z0) z0).length c2)) := Lib.hid (Tm0_15.out.keep B16.out)
  obtain ⟨Tm0_16_l, Tm0_16_a, Tm0_16_b⟩ := Tm0_16.out
  clear Tm0_15 Tm0_15_l Tm0_15_a Tm0_15_b
  have Tm1_16 : Hid (Two w16 (w2.heap.size + 1) (.int .i64 (cS (GoC z0) (linS z0))) (.slice d2 (cZ (GoC z0) (perL z0)).length e2)) := Lib.hid (Tm1_15.out.keep B16.out)
  obtain ⟨Tm1_16_l, Tm1_16_a, Tm1_16_b⟩ := Tm1_16.out
  clear Tm1_15 Tm1_15_l Tm1_15_a Tm1_15_b
  have Tg0_16 : Hid (Two w16 w4.heap.size (.int .i64 (cS (GoC z0) (linS z0))) (.slice b4 (cZ (GoC z0) z0).length c4)) := Lib.hid (Tg0_15.out.keep B16.out)
  obtain ⟨Tg0_16_l, Tg0_16_a, Tg0_16_b⟩ := Tg0_16.out
  clear Tg0_15 Tg0_15_l Tg0_15_a Tg0_15_b
  have Tg1_16 : Hid (Two w16 (w4.heap.size + 1) (.int .i64 (cS (GoC z0) (linS z0))) (.slice d4 (cZ (GoC z0) (perL z0)).length e4)) := Lib.hid (Tg1_15.out.keep B16.out)
  obtain ⟨Tg1_16_l, Tg1_16_a, Tg1_16_b⟩ := Tg1_16.out
  clear Tg1_15 Tg1_15_l Tg1_15_a Tg1_15_b
  have Op0_16 : Hid (Row w16 w.heap.size w1.heap.size b1 z0.length c1 z0) := Lib.hid (Op0_15.out.keep B16.out)
  clear Op0_15
  have Om0_16 : Hid (Row w16 w1.heap.size m2 b2 (cZ (GoC z0) z0).length c2 (cZ (GoC z0) z0)) := Lib.hid (Om0_15.out.keep B16.out)
  clear Om0_15
  have Om1_16 : Hid (Row w16 m2 w2.heap.size d2 (cZ (GoC z0) (perL z0)).length e2 (cZ (GoC z0) (perL z0))) := Lib.hid (Om1_15.out.keep B16.out)
  clear Om1_15
  have Ox0_16 : Hid (Row w16 (w2.heap.size + 2) w3.heap.size b3 z0.length c3 (marks (1) z0.length)) := Lib.hid (Ox0_15.out.keep B16.out)
  clear Ox0_15
  have Og0_16 : Hid (Row w16 w3.heap.size m4 b4 (cZ (GoC z0) z0).length c4 (marks (1) (cZ (GoC z0) z0).length)) := Lib.hid (Og0_15.out.keep B16.out)
  clear Og0_15
  have Og1_16 : Hid (Row w16 m4 w4.heap.size d4 (cZ (GoC z0) (perL z0)).length e4 (marks (1 + (cZ (GoC z0) z0).length) (cZ (GoC z0) (perL z0)).length)) := Lib.hid (Og1_15.out.keep B16.out)
  clear Og1_15
  have A16 : Hid (Below w.heap.size w w16) := Lib.hid (A15.out.trans (B16.out.mono A15.out.size))
  clear A15
  clear hown16 hb16
  go_wp2_with fail
  refine (llt_impl b16 z0.length c16 z0 _ (Oy0_16.out.at HS0.out.int) lz0 (own_cap Oy0_16.out.1)).mono ?_
  rintro e w17 ⟨b17, c17, d17, e17, m17, rfl, hr17, hs17, hm17, hb17⟩
  have Oh0_17 : Hid (Row w17 w16.heap.size m17 b17 (cZ (GoC z0) z0).length c17 (cZ (GoC z0) z0)) := Lib.hid (hr17.lo (Nat.le_refl _))
  have Oh1_17 : Hid (Row w17 m17 w17.heap.size d17 (cZ (GoC z0) (perL z0)).length e17 (cZ (GoC z0) (perL z0))) := Lib.hid hs17
  have mz17 := hr17.2.2
  have ml17 : w16.heap.size ≤ m17 := by have := hm17; first | omega | (simp at this; omega)
  have B17 : Hid (Below w16.heap.size w16 w17) := Lib.hid (hb17)
  have B17_size := B17.out.size
  have Tm0_17 : Hid (Two w17 w2.heap.size (.int .i64 (cS (GoC z0) (linS z0))) (.slice b2 (cZ (GoC z0) z0).length c2)) := Lib.hid (Tm0_16.out.keep B17.out)
  obtain ⟨Tm0_17_l, Tm0_17_a, Tm0_17_b⟩ := Tm0_17.out
  clear Tm0_16 Tm0_16_l Tm0_16_a Tm0_16_b
  have Tm1_17 : Hid (Two w17 (w2.heap.size + 1) (.int .i64 (cS (GoC z0) (linS z0))) (.slice d2 (cZ (GoC z0) (perL z0)).length e2)) := Lib.hid (Tm1_16.out.keep B17.out)
  obtain ⟨Tm1_17_l, Tm1_17_a, Tm1_17_b⟩ := Tm1_17.out
  clear Tm1_16 Tm1_16_l Tm1_16_a Tm1_16_b
  have Tg0_17 : Hid (Two w17 w4.heap.size (.int .i64 (cS (GoC z0) (linS z0))) (.slice b4 (cZ (GoC z0) z0).length c4)) := Lib.hid (Tg0_16.out.keep B17.out)
  obtain ⟨Tg0_17_l, Tg0_17_a, Tg0_17_b⟩ := Tg0_17.out
  clear Tg0_16 Tg0_16_l Tg0_16_a Tg0_16_b
  have Tg1_17 : Hid (Two w17 (w4.heap.size + 1) (.int .i64 (cS (GoC z0) (linS z0))) (.slice d4 (cZ (GoC z0) (perL z0)).length e4)) := Lib.hid (Tg1_16.out.keep B17.out)
  obtain ⟨Tg1_17_l, Tg1_17_a, Tg1_17_b⟩ := Tg1_17.out
  clear Tg1_16 Tg1_16_l Tg1_16_a Tg1_16_b
  have Op0_17 : Hid (Row w17 w.heap.size w1.heap.size b1 z0.length c1 z0) := Lib.hid (Op0_16.out.keep B17.out)
  clear Op0_16
  have Om0_17 : Hid (Row w17 w1.heap.size m2 b2 (cZ (GoC z0) z0).length c2 (cZ (GoC z0) z0)) := Lib.hid (Om0_16.out.keep B17.out)
  clear Om0_16
  have Om1_17 : Hid (Row w17 m2 w2.heap.size d2 (cZ (GoC z0) (perL z0)).length e2 (cZ (GoC z0) (perL z0))) := Lib.hid (Om1_16.out.keep B17.out)
  clear Om1_16
  have Ox0_17 : Hid (Row w17 (w2.heap.size + 2) w3.heap.size b3 z0.length c3 (marks (1) z0.length)) := Lib.hid (Ox0_16.out.keep B17.out)
  clear Ox0_16
  have Og0_17 : Hid (Row w17 w3.heap.size m4 b4 (cZ (GoC z0) z0).length c4 (marks (1) (cZ (GoC z0) z0).length)) := Lib.hid (Og0_16.out.keep B17.out)
  clear Og0_16
  have Og1_17 : Hid (Row w17 m4 w4.heap.size d4 (cZ (GoC z0) (perL z0)).length e4 (marks (1 + (cZ (GoC z0) z0).length) (cZ (GoC z0) (perL z0)).length)) := Lib.hid (Og1_16.out.keep B17.out)
  clear Og1_16
  have Oy0_17 : Hid (Row w17 w15.heap.size w16.heap.size b16 z0.length c16 z0) := Lib.hid (Oy0_16.out.keep B17.out)
  clear Oy0_16
  have A17 : Hid (Below w.heap.size w w17) := Lib.hid (A16.out.trans (B17.out.mono A16.out.size))
  clear A16
  clear hr17 hs17 hm17 hb17
  go_wp2_with fail
  refine (eq_rhythm _ b17 b2 c17 c2 _ (cZ (GoC z0) z0) _ ((Oh0_17.out.at HX.out).below (bel2 _ (.cells #[.int .i64 (cS (GoC z0) (linS z0)), .slice b17 (cZ (GoC z0) z0).length c17] 25) (.cells #[.int .i64 (cS (GoC z0) (linS z0)), .slice d17 (cZ (GoC z0) (perL z0)).length e17] 25))) ((Om0_17.out.at HX.out).below (bel2 _ (.cells #[.int .i64 (cS (GoC z0) (linS z0)), .slice b17 (cZ (GoC z0) z0).length c17] 25) (.cells #[.int .i64 (cS (GoC z0) (linS z0)), .slice d17 (cZ (GoC z0) (perL z0)).length e17] 25))) (by omega)).mono ?_
  rintro e w18 ⟨rfl, hb18⟩
  have p18 := Lib.hid (bel2 w17 (.cells #[.int .i64 (cS (GoC z0) (linS z0)), .slice b17 (cZ (GoC z0) z0).length c17] 25) (.cells #[.int .i64 (cS (GoC z0) (linS z0)), .slice d17 (cZ (GoC z0) (perL z0)).length e17] 25))
  have B18 : Hid (Below w17.heap.size w17 w18) := Lib.hid (p18.out.trans (hb18.mono p18.out.size))
  have B18_size := B18.out.size
  have pz18 : w17.heap.size + 2 ≤ w18.heap.size := by have := hb18.size; simp at this; omega
  have Tm0_18 : Hid (Two w18 w2.heap.size (.int .i64 (cS (GoC z0) (linS z0))) (.slice b2 (cZ (GoC z0) z0).length c2)) := Lib.hid (Tm0_17.out.keep B18.out)
  obtain ⟨Tm0_18_l, Tm0_18_a, Tm0_18_b⟩ := Tm0_18.out
  clear Tm0_17 Tm0_17_l Tm0_17_a Tm0_17_b
  have Tm1_18 : Hid (Two w18 (w2.heap.size + 1) (.int .i64 (cS (GoC z0) (linS z0))) (.slice d2 (cZ (GoC z0) (perL z0)).length e2)) := Lib.hid (Tm1_17.out.keep B18.out)
  obtain ⟨Tm1_18_l, Tm1_18_a, Tm1_18_b⟩ := Tm1_18.out
  clear Tm1_17 Tm1_17_l Tm1_17_a Tm1_17_b
  have Tg0_18 : Hid (Two w18 w4.heap.size (.int .i64 (cS (GoC z0) (linS z0))) (.slice b4 (cZ (GoC z0) z0).length c4)) := Lib.hid (Tg0_17.out.keep B18.out)
  obtain ⟨Tg0_18_l, Tg0_18_a, Tg0_18_b⟩ := Tg0_18.out
  clear Tg0_17 Tg0_17_l Tg0_17_a Tg0_17_b
  have Tg1_18 : Hid (Two w18 (w4.heap.size + 1) (.int .i64 (cS (GoC z0) (linS z0))) (.slice d4 (cZ (GoC z0) (perL z0)).length e4)) := Lib.hid (Tg1_17.out.keep B18.out)
  obtain ⟨Tg1_18_l, Tg1_18_a, Tg1_18_b⟩ := Tg1_18.out
  clear Tg1_17 Tg1_17_l Tg1_17_a Tg1_17_b
  have Th0_18 : Hid (Two w18 w17.heap.size (.int .i64 (cS (GoC z0) (linS z0))) (.slice b17 (cZ (GoC z0) z0).length c17)) := Lib.hid (((two_new w17 (.int .i64 (cS (GoC z0) (linS z0))) (.slice b17 (cZ (GoC z0) z0).length c17) 25).keep (bel1 _ (.cells #[.int .i64 (cS (GoC z0) (linS z0)), .slice d17 (cZ (GoC z0) (perL z0)).length e17] 25))).keep hb18)
  obtain ⟨Th0_18_l, Th0_18_a, Th0_18_b⟩ := Th0_18.out
  have Th1_18 : Hid (Two w18 (w17.heap.size + 1) (.int .i64 (cS (GoC z0) (linS z0))) (.slice d17 (cZ (GoC z0) (perL z0)).length e17)) := Lib.hid (by simpa using ((two_new (w17.alloc (.cells #[.int .i64 (cS (GoC z0) (linS z0)), .slice b17 (cZ (GoC z0) z0).length c17] 25)) (.int .i64 (cS (GoC z0) (linS z0))) (.slice d17 (cZ (GoC z0) (perL z0)).length e17) 25).keep hb18 : Two _ _ _ _))
  obtain ⟨Th1_18_l, Th1_18_a, Th1_18_b⟩ := Th1_18.out
  have Op0_18 : Hid (Row w18 w.heap.size w1.heap.size b1 z0.length c1 z0) := Lib.hid (Op0_17.out.keep B18.out)
  clear Op0_17
  have Om0_18 : Hid (Row w18 w1.heap.size m2 b2 (cZ (GoC z0) z0).length c2 (cZ (GoC z0) z0)) := Lib.hid (Om0_17.out.keep B18.out)
  clear Om0_17
  have Om1_18 : Hid (Row w18 m2 w2.heap.size d2 (cZ (GoC z0) (perL z0)).length e2 (cZ (GoC z0) (perL z0))) := Lib.hid (Om1_17.out.keep B18.out)
  clear Om1_17
  have Ox0_18 : Hid (Row w18 (w2.heap.size + 2) w3.heap.size b3 z0.length c3 (marks (1) z0.length)) := Lib.hid (Ox0_17.out.keep B18.out)
  clear Ox0_17
  have Og0_18 : Hid (Row w18 w3.heap.size m4 b4 (cZ (GoC z0) z0).length c4 (marks (1) (cZ (GoC z0) z0).length)) := Lib.hid (Og0_17.out.keep B18.out)
  clear Og0_17
  have Og1_18 : Hid (Row w18 m4 w4.heap.size d4 (cZ (GoC z0) (perL z0)).length e4 (marks (1 + (cZ (GoC z0) z0).length) (cZ (GoC z0) (perL z0)).length)) := Lib.hid (Og1_17.out.keep B18.out)
  clear Og1_17
  have Oy0_18 : Hid (Row w18 w15.heap.size w16.heap.size b16 z0.length c16 z0) := Lib.hid (Oy0_17.out.keep B18.out)
  clear Oy0_17
  have Oh0_18 : Hid (Row w18 w16.heap.size m17 b17 (cZ (GoC z0) z0).length c17 (cZ (GoC z0) z0)) := Lib.hid (Oh0_17.out.keep B18.out)
  clear Oh0_17
  have Oh1_18 : Hid (Row w18 m17 w17.heap.size d17 (cZ (GoC z0) (perL z0)).length e17 (cZ (GoC z0) (perL z0))) := Lib.hid (Oh1_17.out.keep B18.out)
  clear Oh1_17
  have A18 : Hid (Below w.heap.size w w18) := Lib.hid (A17.out.trans (B18.out.mono A17.out.size))
  clear A17
  clear hb18
  go_wp2_with fail
  refine (eq_rhythm _ d17 d2 e17 e2 _ (cZ (GoC z0) (perL z0)) _ (Oh1_18.out.at HY.out) (Om1_18.out.at HY.out) (by omega)).mono ?_
  rintro e w19 ⟨rfl, hb19⟩
  have B19 : Hid (Below w18.heap.size w18 w19) := Lib.hid (hb19)
  have B19_size := B19.out.size
  have Tm0_19 : Hid (Two w19 w2.heap.size (.int .i64 (cS (GoC z0) (linS z0))) (.slice b2 (cZ (GoC z0) z0).length c2)) := Lib.hid (Tm0_18.out.keep B19.out)
  obtain ⟨Tm0_19_l, Tm0_19_a, Tm0_19_b⟩ := Tm0_19.out
  clear Tm0_18 Tm0_18_l Tm0_18_a Tm0_18_b
  have Tm1_19 : Hid (Two w19 (w2.heap.size + 1) (.int .i64 (cS (GoC z0) (linS z0))) (.slice d2 (cZ (GoC z0) (perL z0)).length e2)) := Lib.hid (Tm1_18.out.keep B19.out)
  obtain ⟨Tm1_19_l, Tm1_19_a, Tm1_19_b⟩ := Tm1_19.out
  clear Tm1_18 Tm1_18_l Tm1_18_a Tm1_18_b
  have Tg0_19 : Hid (Two w19 w4.heap.size (.int .i64 (cS (GoC z0) (linS z0))) (.slice b4 (cZ (GoC z0) z0).length c4)) := Lib.hid (Tg0_18.out.keep B19.out)
  obtain ⟨Tg0_19_l, Tg0_19_a, Tg0_19_b⟩ := Tg0_19.out
  clear Tg0_18 Tg0_18_l Tg0_18_a Tg0_18_b
  have Tg1_19 : Hid (Two w19 (w4.heap.size + 1) (.int .i64 (cS (GoC z0) (linS z0))) (.slice d4 (cZ (GoC z0) (perL z0)).length e4)) := Lib.hid (Tg1_18.out.keep B19.out)
  obtain ⟨Tg1_19_l, Tg1_19_a, Tg1_19_b⟩ := Tg1_19.out
  clear Tg1_18 Tg1_18_l Tg1_18_a Tg1_18_b
  have Th0_19 : Hid (Two w19 w17.heap.size (.int .i64 (cS (GoC z0) (linS z0))) (.slice b17 (cZ (GoC z0) z0).length c17)) := Lib.hid (Th0_18.out.keep B19.out)
  obtain ⟨Th0_19_l, Th0_19_a, Th0_19_b⟩ := Th0_19.out
  clear Th0_18 Th0_18_l Th0_18_a Th0_18_b
  have Th1_19 : Hid (Two w19 (w17.heap.size + 1) (.int .i64 (cS (GoC z0) (linS z0))) (.slice d17 (cZ (GoC z0) (perL z0)).length e17)) := Lib.hid (Th1_18.out.keep B19.out)
  obtain ⟨Th1_19_l, Th1_19_a, Th1_19_b⟩ := Th1_19.out
  clear Th1_18 Th1_18_l Th1_18_a Th1_18_b
  have Op0_19 : Hid (Row w19 w.heap.size w1.heap.size b1 z0.length c1 z0) := Lib.hid (Op0_18.out.keep B19.out)
  clear Op0_18
  have Om0_19 : Hid (Row w19 w1.heap.size m2 b2 (cZ (GoC z0) z0).length c2 (cZ (GoC z0) z0)) := Lib.hid (Om0_18.out.keep B19.out)
  clear Om0_18
  have Om1_19 : Hid (Row w19 m2 w2.heap.size d2 (cZ (GoC z0) (perL z0)).length e2 (cZ (GoC z0) (perL z0))) := Lib.hid (Om1_18.out.keep B19.out)
  clear Om1_18
  have Ox0_19 : Hid (Row w19 (w2.heap.size + 2) w3.heap.size b3 z0.length c3 (marks (1) z0.length)) := Lib.hid (Ox0_18.out.keep B19.out)
  clear Ox0_18
  have Og0_19 : Hid (Row w19 w3.heap.size m4 b4 (cZ (GoC z0) z0).length c4 (marks (1) (cZ (GoC z0) z0).length)) := Lib.hid (Og0_18.out.keep B19.out)
  clear Og0_18
  have Og1_19 : Hid (Row w19 m4 w4.heap.size d4 (cZ (GoC z0) (perL z0)).length e4 (marks (1 + (cZ (GoC z0) z0).length) (cZ (GoC z0) (perL z0)).length)) := Lib.hid (Og1_18.out.keep B19.out)
  clear Og1_18
  have Oy0_19 : Hid (Row w19 w15.heap.size w16.heap.size b16 z0.length c16 z0) := Lib.hid (Oy0_18.out.keep B19.out)
  clear Oy0_18
  have Oh0_19 : Hid (Row w19 w16.heap.size m17 b17 (cZ (GoC z0) z0).length c17 (cZ (GoC z0) z0)) := Lib.hid (Oh0_18.out.keep B19.out)
  clear Oh0_18
  have Oh1_19 : Hid (Row w19 m17 w17.heap.size d17 (cZ (GoC z0) (perL z0)).length e17 (cZ (GoC z0) (perL z0))) := Lib.hid (Oh1_18.out.keep B19.out)
  clear Oh1_18
  have A19 : Hid (Below w.heap.size w w19) := Lib.hid (A18.out.trans (B19.out.mono A18.out.size))
  clear A18
  clear hb19
  go_wp2_with fail
  refine (held_rhythm (1) _ b4 c4 (cZ (GoC z0) z0).length _ (Og0_19.out.at (marks_int _ _ (by omega))) (by omega) (by omega)).mono ?_
  rintro e w20 ⟨rfl, hb20⟩
  have B20 : Hid (Below w19.heap.size w19 w20) := Lib.hid (hb20)
  have B20_size := B20.out.size
  have Tm0_20 : Hid (Two w20 w2.heap.size (.int .i64 (cS (GoC z0) (linS z0))) (.slice b2 (cZ (GoC z0) z0).length c2)) := Lib.hid (Tm0_19.out.keep B20.out)
  obtain ⟨Tm0_20_l, Tm0_20_a, Tm0_20_b⟩ := Tm0_20.out
  clear Tm0_19 Tm0_19_l Tm0_19_a Tm0_19_b
  have Tm1_20 : Hid (Two w20 (w2.heap.size + 1) (.int .i64 (cS (GoC z0) (linS z0))) (.slice d2 (cZ (GoC z0) (perL z0)).length e2)) := Lib.hid (Tm1_19.out.keep B20.out)
  obtain ⟨Tm1_20_l, Tm1_20_a, Tm1_20_b⟩ := Tm1_20.out
  clear Tm1_19 Tm1_19_l Tm1_19_a Tm1_19_b
  have Tg0_20 : Hid (Two w20 w4.heap.size (.int .i64 (cS (GoC z0) (linS z0))) (.slice b4 (cZ (GoC z0) z0).length c4)) := Lib.hid (Tg0_19.out.keep B20.out)
  obtain ⟨Tg0_20_l, Tg0_20_a, Tg0_20_b⟩ := Tg0_20.out
  clear Tg0_19 Tg0_19_l Tg0_19_a Tg0_19_b
  have Tg1_20 : Hid (Two w20 (w4.heap.size + 1) (.int .i64 (cS (GoC z0) (linS z0))) (.slice d4 (cZ (GoC z0) (perL z0)).length e4)) := Lib.hid (Tg1_19.out.keep B20.out)
  obtain ⟨Tg1_20_l, Tg1_20_a, Tg1_20_b⟩ := Tg1_20.out
  clear Tg1_19 Tg1_19_l Tg1_19_a Tg1_19_b
  have Th0_20 : Hid (Two w20 w17.heap.size (.int .i64 (cS (GoC z0) (linS z0))) (.slice b17 (cZ (GoC z0) z0).length c17)) := Lib.hid (Th0_19.out.keep B20.out)
  obtain ⟨Th0_20_l, Th0_20_a, Th0_20_b⟩ := Th0_20.out
  clear Th0_19 Th0_19_l Th0_19_a Th0_19_b
  have Th1_20 : Hid (Two w20 (w17.heap.size + 1) (.int .i64 (cS (GoC z0) (linS z0))) (.slice d17 (cZ (GoC z0) (perL z0)).length e17)) := Lib.hid (Th1_19.out.keep B20.out)
  obtain ⟨Th1_20_l, Th1_20_a, Th1_20_b⟩ := Th1_20.out
  clear Th1_19 Th1_19_l Th1_19_a Th1_19_b
  have Op0_20 : Hid (Row w20 w.heap.size w1.heap.size b1 z0.length c1 z0) := Lib.hid (Op0_19.out.keep B20.out)
  clear Op0_19
  have Om0_20 : Hid (Row w20 w1.heap.size m2 b2 (cZ (GoC z0) z0).length c2 (cZ (GoC z0) z0)) := Lib.hid (Om0_19.out.keep B20.out)
  clear Om0_19
  have Om1_20 : Hid (Row w20 m2 w2.heap.size d2 (cZ (GoC z0) (perL z0)).length e2 (cZ (GoC z0) (perL z0))) := Lib.hid (Om1_19.out.keep B20.out)
  clear Om1_19
  have Ox0_20 : Hid (Row w20 (w2.heap.size + 2) w3.heap.size b3 z0.length c3 (marks (1) z0.length)) := Lib.hid (Ox0_19.out.keep B20.out)
  clear Ox0_19
  have Og0_20 : Hid (Row w20 w3.heap.size m4 b4 (cZ (GoC z0) z0).length c4 (marks (1) (cZ (GoC z0) z0).length)) := Lib.hid (Og0_19.out.keep B20.out)
  clear Og0_19
  have Og1_20 : Hid (Row w20 m4 w4.heap.size d4 (cZ (GoC z0) (perL z0)).length e4 (marks (1 + (cZ (GoC z0) z0).length) (cZ (GoC z0) (perL z0)).length)) := Lib.hid (Og1_19.out.keep B20.out)
  clear Og1_19
  have Oy0_20 : Hid (Row w20 w15.heap.size w16.heap.size b16 z0.length c16 z0) := Lib.hid (Oy0_19.out.keep B20.out)
  clear Oy0_19
  have Oh0_20 : Hid (Row w20 w16.heap.size m17 b17 (cZ (GoC z0) z0).length c17 (cZ (GoC z0) z0)) := Lib.hid (Oh0_19.out.keep B20.out)
  clear Oh0_19
  have Oh1_20 : Hid (Row w20 m17 w17.heap.size d17 (cZ (GoC z0) (perL z0)).length e17 (cZ (GoC z0) (perL z0))) := Lib.hid (Oh1_19.out.keep B20.out)
  clear Oh1_19
  have A20 : Hid (Below w.heap.size w w20) := Lib.hid (A19.out.trans (B20.out.mono A19.out.size))
  clear A19
  clear hb20
  go_wp2_with fail
  refine (held_rhythm (1 + (cZ (GoC z0) z0).length) _ d4 e4 (cZ (GoC z0) (perL z0)).length _ (Og1_20.out.at (marks_int _ _ (by omega))) (by omega) (by omega)).mono ?_
  rintro e w21 ⟨rfl, hb21⟩
  have B21 : Hid (Below w20.heap.size w20 w21) := Lib.hid (hb21)
  have B21_size := B21.out.size
  have Tm0_21 : Hid (Two w21 w2.heap.size (.int .i64 (cS (GoC z0) (linS z0))) (.slice b2 (cZ (GoC z0) z0).length c2)) := Lib.hid (Tm0_20.out.keep B21.out)
  obtain ⟨Tm0_21_l, Tm0_21_a, Tm0_21_b⟩ := Tm0_21.out
  clear Tm0_20 Tm0_20_l Tm0_20_a Tm0_20_b
  have Tm1_21 : Hid (Two w21 (w2.heap.size + 1) (.int .i64 (cS (GoC z0) (linS z0))) (.slice d2 (cZ (GoC z0) (perL z0)).length e2)) := Lib.hid (Tm1_20.out.keep B21.out)
  obtain ⟨Tm1_21_l, Tm1_21_a, Tm1_21_b⟩ := Tm1_21.out
  clear Tm1_20 Tm1_20_l Tm1_20_a Tm1_20_b
  have Tg0_21 : Hid (Two w21 w4.heap.size (.int .i64 (cS (GoC z0) (linS z0))) (.slice b4 (cZ (GoC z0) z0).length c4)) := Lib.hid (Tg0_20.out.keep B21.out)
  obtain ⟨Tg0_21_l, Tg0_21_a, Tg0_21_b⟩ := Tg0_21.out
  clear Tg0_20 Tg0_20_l Tg0_20_a Tg0_20_b
  have Tg1_21 : Hid (Two w21 (w4.heap.size + 1) (.int .i64 (cS (GoC z0) (linS z0))) (.slice d4 (cZ (GoC z0) (perL z0)).length e4)) := Lib.hid (Tg1_20.out.keep B21.out)
  obtain ⟨Tg1_21_l, Tg1_21_a, Tg1_21_b⟩ := Tg1_21.out
  clear Tg1_20 Tg1_20_l Tg1_20_a Tg1_20_b
  have Th0_21 : Hid (Two w21 w17.heap.size (.int .i64 (cS (GoC z0) (linS z0))) (.slice b17 (cZ (GoC z0) z0).length c17)) := Lib.hid (Th0_20.out.keep B21.out)
  obtain ⟨Th0_21_l, Th0_21_a, Th0_21_b⟩ := Th0_21.out
  clear Th0_20 Th0_20_l Th0_20_a Th0_20_b
  have Th1_21 : Hid (Two w21 (w17.heap.size + 1) (.int .i64 (cS (GoC z0) (linS z0))) (.slice d17 (cZ (GoC z0) (perL z0)).length e17)) := Lib.hid (Th1_20.out.keep B21.out)
  obtain ⟨Th1_21_l, Th1_21_a, Th1_21_b⟩ := Th1_21.out
  clear Th1_20 Th1_20_l Th1_20_a Th1_20_b
  have Op0_21 : Hid (Row w21 w.heap.size w1.heap.size b1 z0.length c1 z0) := Lib.hid (Op0_20.out.keep B21.out)
  clear Op0_20
  have Om0_21 : Hid (Row w21 w1.heap.size m2 b2 (cZ (GoC z0) z0).length c2 (cZ (GoC z0) z0)) := Lib.hid (Om0_20.out.keep B21.out)
  clear Om0_20
  have Om1_21 : Hid (Row w21 m2 w2.heap.size d2 (cZ (GoC z0) (perL z0)).length e2 (cZ (GoC z0) (perL z0))) := Lib.hid (Om1_20.out.keep B21.out)
  clear Om1_20
  have Ox0_21 : Hid (Row w21 (w2.heap.size + 2) w3.heap.size b3 z0.length c3 (marks (1) z0.length)) := Lib.hid (Ox0_20.out.keep B21.out)
  clear Ox0_20
  have Og0_21 : Hid (Row w21 w3.heap.size m4 b4 (cZ (GoC z0) z0).length c4 (marks (1) (cZ (GoC z0) z0).length)) := Lib.hid (Og0_20.out.keep B21.out)
  clear Og0_20
  have Og1_21 : Hid (Row w21 m4 w4.heap.size d4 (cZ (GoC z0) (perL z0)).length e4 (marks (1 + (cZ (GoC z0) z0).length) (cZ (GoC z0) (perL z0)).length)) := Lib.hid (Og1_20.out.keep B21.out)
  clear Og1_20
  have Oy0_21 : Hid (Row w21 w15.heap.size w16.heap.size b16 z0.length c16 z0) := Lib.hid (Oy0_20.out.keep B21.out)
  clear Oy0_20
  have Oh0_21 : Hid (Row w21 w16.heap.size m17 b17 (cZ (GoC z0) z0).length c17 (cZ (GoC z0) z0)) := Lib.hid (Oh0_20.out.keep B21.out)
  clear Oh0_20
  have Oh1_21 : Hid (Row w21 m17 w17.heap.size d17 (cZ (GoC z0) (perL z0)).length e17 (cZ (GoC z0) (perL z0))) := Lib.hid (Oh1_20.out.keep B21.out)
  clear Oh1_20
  have A21 : Hid (Below w.heap.size w w21) := Lib.hid (A20.out.trans (B21.out.mono A20.out.size))
  clear A20
  clear hb21
  go_wp2
  go_ret
  exact ⟨rfl, A21.out⟩

set_option maxRecDepth 100000 in
theorem lifted (os : Os) (started : os.Started) (H : Type) (enc : TypeId × Value → H) :
    ReturnsInHanded {} Try.checked os 9 .any (Rows.fnExactLineTilingSpec.pre6 enc Try.prog Try.f9 Rows.fnExactLineTilingRow.domain false) (Rows.fnExactLineTilingSpec.post enc Try.prog Try.f9 false true false false) := by
  refine returnsInHanded_of_change (C := Try.checked) own started (by kernel_rfl) Try.func9
    (ChangeSpec.witness6 (enc := enc) (C := Try.checked) false ⟨#[], #[.slice none 0 0], []⟩ 8 (by kernel_rfl) (by kernel_rfl) (by kernel_rfl) (by kernel_rfl)) ?_
  intro W base args ds gs before hval0 hW hcnd _
  have hval : ∀ (j : Nat) t v, Try.f9.params[j]? = some t → args[j]? = some v → Value.okWide Try.prog W .any base t v := hval0
  have hW' := hW
  obtain ⟨p, q, hA0, hV, rfl, hfz, hnd⟩ := hW
  have hA : DataW.TrodAll enc Try.prog W 0 (fun _ => true) true Try.f9.params.toList args.toList ds p := hA0
  rw [Try.params9] at hA hval
  obtain ⟨v0, vs0, d0, ds0, p0, q0, hargs, rfl, rfl, h0, r0⟩ := trodAll_cons hA
  obtain ⟨rfl, rfl, rfl⟩ := trodAll_nil r0
  obtain rfl : args = #[v0] := by cases args; simp_all
  obtain ⟨rfl, rfl⟩ := trodVars_none hV
  have k0 := h0
  have lt0 : ∀ x ∈ p0, x.block < W.heap.size := by obtain ⟨m, hm⟩ := k0; exact DataW.trod_lt m _ _ _ hm
  obtain ⟨a0, len0, cap0, z0, rfl, w0⟩ := openedI (hval 0 23 v0 rfl rfl) h0
  clear hA0 hval0
  refine (walk a0 len0 cap0 z0 W w0).mono fun e W' ⟨he, bel⟩ => ?_
  subst he
  exact ⟨_, rfl, _, _, _, [], _, [], hW', trodAll_mk1 (shut_bool Try.underlying4 _), (trodAll_cons_mk (Below.trod laidOut (by kernel_rfl) (of_decide_eq_true (by kernel_rfl)) k0 bel lt0) trodAll_mk0), rfl, bel.frame _, fun h => by cases h⟩

theorem proved : Rows.FnExactLineTilingSaid :=
  OpenClaim.holds_of_wide 9 Try.f9 rfl rfl rfl rfl rfl rfl rfl ⟨rfl, rfl, rfl, rfl, rfl⟩ rfl rfl rfl rfl rfl (by kernel_rfl) Try.func9 (by kernel_rfl)
    (of_decide_eq_true (by kernel_rfl)) (by unfold Func.isWrapper; rw [if_neg (of_decide_eq_false (by kernel_rfl))]; exact ⟨rfl, rfl⟩)
    (fun os started H enc _ => lifted os started H enc)
#print axioms proved
end Go.Proofs.Ytldpikcgeijkpaa.fnExactLineTiling
