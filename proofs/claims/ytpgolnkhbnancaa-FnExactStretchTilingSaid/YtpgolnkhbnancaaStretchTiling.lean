/-
  'StretchTiling' of the program answers, at every two rhythms and every number, as its model does, leaves its arguments as they were, and owns the memory of its answer. No condition.
-/
import Derived.Test.YtpgolnkhbnancaaSuo
import Derived.Test.YtpgolnkhbnancaaOpen
import Derived.Deep.RegionHeld3
import Derived.ProofKit
namespace Go.Proofs.Ytpgolnkhbnancaa.fnExactStretchTiling
open Go.ChangeShapes Go.WideShapes Go.ChangeAt Go.RowKit Rhy
set_option linter.unusedVariables false


set_option maxHeartbeats 1000000 in
set_option maxRecDepth 100000 in
theorem walk (s0 : Int) (a0 : Option Addr) (len0 cap0 : Nat) (z0 : List Int) (s1 : Int) (a1 : Option Addr) (len1 cap1 : Nat) (z1 : List Int) (a2 : Int) (w : World) (w0 : Opened w s0 a0 len0 z0) (w1 : Opened w s1 a1 len1 z1) (w2 : (Lit.int .i64 a2).wf = true) :
    Calls Try.prog 13 #[rhy s0 a0 len0 cap0, rhy s1 a1 len1 cap1, .int .i64 a2] w fun e w' => e = .returned (.bool true) ∧ Below w.heap.size w w' := by
  obtain ⟨i0, m0, sl0, su0⟩ := w0
  have HS0 := Lib.hid i0
  clear i0
  obtain ⟨i1, m1, sl1, su1⟩ := w1
  have HS1 := Lib.hid i1
  clear i1
  obtain ⟨kl2, ku2⟩ := bounds_i64 w2
  go_enter Try.func13, Try.ntmps13
  go_wp2_with fail
  refine (size_rhythm s0 _ a0 len0 cap0 _ m0 (by omega) (by omega)).mono ?_
  rintro e w1 ⟨⟨r0, rfl, hr | ⟨hr, hlen0, he0⟩, h1, h2⟩, hb1⟩
  · have HB1 := Lib.hid hb1
    clear hb1
    go_wp2
    go_ret
    exact ⟨rfl, (bel2 w (.cells #[.int .i64 s0, .slice a0 len0 cap0] 39) (.cells #[.int .i64 s1, .slice a1 len1 cap1] 39)).trans (HB1.out.mono (bel2 w (.cells #[.int .i64 s0, .slice a0 len0 cap0] 39) (.cells #[.int .i64 s1, .slice a1 len1 cap1] 39)).size)⟩
  · have hr0 : ¬ r0 < 0 := by omega
    have le0 : len0 ≤ 1048576 := by omega
    have lz0 : z0.length ≤ 1048576 := by have := HS0.out.1; omega
    have hq0 : 0 ≤ r0 := hr
    have hq'0 : r0 ≤ 1048576 := by omega
    clear he0 hr h1 h2
    have p1 := Lib.hid (bel2 w (.cells #[.int .i64 s0, .slice a0 len0 cap0] 39) (.cells #[.int .i64 s1, .slice a1 len1 cap1] 39))
    have B1 : Hid (Below w.heap.size w w1) := Lib.hid (p1.out.trans (hb1.mono p1.out.size))
    have B1_size := B1.out.size
    have pz1 : w.heap.size + 2 ≤ w1.heap.size := by have := hb1.size; simp at this; omega
    have Ta0_1 : Hid (Two w1 w.heap.size (.int .i64 s0) (.slice a0 len0 cap0)) := Lib.hid (((two_new w (.int .i64 s0) (.slice a0 len0 cap0) 39).keep (bel1 _ (.cells #[.int .i64 s1, .slice a1 len1 cap1] 39))).keep hb1)
    obtain ⟨Ta0_1_l, Ta0_1_a, Ta0_1_b⟩ := Ta0_1.out
    have Ta1_1 : Hid (Two w1 (w.heap.size + 1) (.int .i64 s1) (.slice a1 len1 cap1)) := Lib.hid (by simpa using ((two_new (w.alloc (.cells #[.int .i64 s0, .slice a0 len0 cap0] 39)) (.int .i64 s1) (.slice a1 len1 cap1) 39).keep hb1 : Two _ _ _ _))
    obtain ⟨Ta1_1_l, Ta1_1_a, Ta1_1_b⟩ := Ta1_1.out
    have A1 : Hid (Below w.heap.size w w1) := Lib.hid (B1.out)
    clear hb1
    go_wp2_with fail
    refine (size_rhythm s1 _ a1 len1 cap1 _ m1 (by omega) (by omega)).mono ?_
    rintro e w2 ⟨⟨r1, rfl, hr | ⟨hr, hlen1, he1⟩, h1, h2⟩, hb2⟩
    · have HB2 := Lib.hid hb2
      clear hb2
      go_wp2
      go_ret
      exact ⟨rfl, A1.out.trans (HB2.out.mono A1.out.size)⟩
    · have hr1 : ¬ r1 < 0 := by omega
      have le1 : len1 ≤ 1048576 := by omega
      have lz1 : z1.length ≤ 1048576 := by have := HS1.out.1; omega
      have hq1 : 0 ≤ r1 := hr
      have hq'1 : r1 ≤ 1048576 := by omega
      clear he1 hr h1 h2
      have B2 : Hid (Below w1.heap.size w1 w2) := Lib.hid (hb2)
      have B2_size := B2.out.size
      have Ta0_2 : Hid (Two w2 w.heap.size (.int .i64 s0) (.slice a0 len0 cap0)) := Lib.hid (Ta0_1.out.keep B2.out)
      obtain ⟨Ta0_2_l, Ta0_2_a, Ta0_2_b⟩ := Ta0_2.out
      clear Ta0_1 Ta0_1_l Ta0_1_a Ta0_1_b
      have Ta1_2 : Hid (Two w2 (w.heap.size + 1) (.int .i64 s1) (.slice a1 len1 cap1)) := Lib.hid (Ta1_1.out.keep B2.out)
      obtain ⟨Ta1_2_l, Ta1_2_a, Ta1_2_b⟩ := Ta1_2.out
      clear Ta1_1 Ta1_1_l Ta1_1_a Ta1_1_b
      have A2 : Hid (Below w.heap.size w w2) := Lib.hid (A1.out.trans (B2.out.mono A1.out.size))
      clear A1
      clear hb2
      have HX : Hid (AllInt (stlX s0 z0 s1 z1 a2)) := Lib.hid ((st_x s0 z0 s1 z1 a2).1)
      have hlX : (stlX s0 z0 s1 z1 a2).length ≤ 576 := (st_x s0 z0 s1 z1 a2).2
      have HY : Hid (AllInt (stlY s0 z0 s1 z1 a2)) := Lib.hid ((st_y s0 z0 s1 z1 a2).1)
      have hlY : (stlY s0 z0 s1 z1 a2).length ≤ 576 := (st_y s0 z0 s1 z1 a2).2
      go_upto_region 8 with fail
      refine wp_code (c' := rgOf Try.f13 8) (by kernel_rfl) ?_
      refine stl8 _ _ s0 a0 len0 cap0 z0 s1 a1 len1 cap1 z1 a2 (stlS s0 z0 s1 z1 a2) (stlX s0 z0 s1 z1 a2) (stlY s0 z0 s1 z1 a2) (stlB s0 z0 s1 z1 a2) w w2 Ta0_2.out Ta1_2.out (HS0.out.below A2.out) (HS1.out.below A2.out) le0 le1 HS0.out.int HS1.out.int (fun p0 c0 p1 c1 W h0 h1 => st_spec s0 p0 z0.length c0 z0 s1 p1 z1.length c1 z1 a2 W h0 lz0 h1 lz1 kl2 ku2) ?_
      intro x0 x1 x2 x3 x4 x5 x6 x7 x8 x9 g3 h3 b3 d3 c3 e3 w3 ht3 hu3 hr3 hs3 hb3
      have Om0_3 : Hid (Row w3 w2.heap.size w3.heap.size b3 (stlX s0 z0 s1 z1 a2).length c3 (stlX s0 z0 s1 z1 a2)) := Lib.hid hr3
      have Om1_3 : Hid (Row w3 w2.heap.size w3.heap.size d3 (stlY s0 z0 s1 z1 a2).length e3 (stlY s0 z0 s1 z1 a2)) := Lib.hid hs3
      have Tm0_3 : Hid (Two w3 g3 (.int .i64 (stlS s0 z0 s1 z1 a2)) (.slice b3 (stlX s0 z0 s1 z1 a2).length c3)) := Lib.hid ht3
      have Tm1_3 : Hid (Two w3 h3 (.int .i64 (stlS s0 z0 s1 z1 a2)) (.slice d3 (stlY s0 z0 s1 z1 a2).length e3)) := Lib.hid hu3
      have B3 : Hid (Below w2.heap.size w2 w3) := Lib.hid (hb3)
      have B3_size := B3.out.size
      have Ta0_3 : Hid (Two w3 w.heap.size (.int .i64 s0) (.slice a0 len0 cap0)) := Lib.hid (Ta0_2.out.keep B3.out)
      obtain ⟨Ta0_3_l, Ta0_3_a, Ta0_3_b⟩ := Ta0_3.out
      clear Ta0_2 Ta0_2_l Ta0_2_a Ta0_2_b
      have Ta1_3 : Hid (Two w3 (w.heap.size + 1) (.int .i64 s1) (.slice a1 len1 cap1)) := Lib.hid (Ta1_2.out.keep B3.out)
      obtain ⟨Ta1_3_l, Ta1_3_a, Ta1_3_b⟩ := Ta1_3.out
      clear Ta1_2 Ta1_2_l Ta1_2_a Ta1_2_b
      have A3 : Hid (Below w.heap.size w w3) := Lib.hid (A2.out.trans (B3.out.mono A2.out.size))
      clear A2
      have g3_lt := Tm0_3.out.1
      obtain ⟨Tm0_3_l, Tm0_3_a, Tm0_3_b⟩ := Tm0_3.out
      have h3_lt := Tm1_3.out.1
      obtain ⟨Tm1_3_l, Tm1_3_a, Tm1_3_b⟩ := Tm1_3.out
      clear ht3 hu3 hr3 hs3 hb3
      go_wp2_with fail
      refine (to_rhythm s0 a0 len0 cap0 z0 _ (HS0.out.below A3.out) le0).mono ?_
      rintro e w4 ⟨b4, c4, rfl, hown4, hb4⟩
      have Ox0_4 : Hid (Row w4 w3.heap.size w4.heap.size b4 z0.length c4 z0) := Lib.hid (row_of (own_base hown4 (Nat.le_refl _)))
      have B4 : Hid (Below w3.heap.size w3 w4) := Lib.hid (hb4)
      have B4_size := B4.out.size
      have Ta0_4 : Hid (Two w4 w.heap.size (.int .i64 s0) (.slice a0 len0 cap0)) := Lib.hid (Ta0_3.out.keep B4.out)
      obtain ⟨Ta0_4_l, Ta0_4_a, Ta0_4_b⟩ := Ta0_4.out
      clear Ta0_3 Ta0_3_l Ta0_3_a Ta0_3_b
      have Ta1_4 : Hid (Two w4 (w.heap.size + 1) (.int .i64 s1) (.slice a1 len1 cap1)) := Lib.hid (Ta1_3.out.keep B4.out)
      obtain ⟨Ta1_4_l, Ta1_4_a, Ta1_4_b⟩ := Ta1_4.out
      clear Ta1_3 Ta1_3_l Ta1_3_a Ta1_3_b
      have Tm0_4 : Hid (Two w4 g3 (.int .i64 (stlS s0 z0 s1 z1 a2)) (.slice b3 (stlX s0 z0 s1 z1 a2).length c3)) := Lib.hid (Tm0_3.out.keep B4.out)
      obtain ⟨Tm0_4_l, Tm0_4_a, Tm0_4_b⟩ := Tm0_4.out
      clear Tm0_3 Tm0_3_l Tm0_3_a Tm0_3_b
      have Tm1_4 : Hid (Two w4 h3 (.int .i64 (stlS s0 z0 s1 z1 a2)) (.slice d3 (stlY s0 z0 s1 z1 a2).length e3)) := Lib.hid (Tm1_3.out.keep B4.out)
      obtain ⟨Tm1_4_l, Tm1_4_a, Tm1_4_b⟩ := Tm1_4.out
      clear Tm1_3 Tm1_3_l Tm1_3_a Tm1_3_b
      have Om0_4 : Hid (Row w4 w2.heap.size w3.heap.size b3 (stlX s0 z0 s1 z1 a2).length c3 (stlX s0 z0 s1 z1 a2)) := Lib.hid (Om0_3.out.keep B4.out)
      clear Om0_3
      have Om1_4 : Hid (Row w4 w2.heap.size w3.heap.size d3 (stlY s0 z0 s1 z1 a2).length e3 (stlY s0 z0 s1 z1 a2)) := Lib.hid (Om1_3.out.keep B4.out)
      clear Om1_3
      have A4 : Hid (Below w.heap.size w w4) := Lib.hid (A3.out.trans (B4.out.mono A3.out.size))
      clear A3
      clear hown4 hb4
      go_wp2_with fail
      refine (to_rhythm s1 a1 len1 cap1 z1 _ ((HS1.out.below A4.out).below (bel1 _ (.cells #[.int .i64 s0, .slice b4 z0.length c4] 26))) le1).mono ?_
      rintro e w5 ⟨b5, c5, rfl, hown5, hb5⟩
      have Ox1_5 : Hid (Row w5 (w4.heap.size + 1) w5.heap.size b5 z1.length c5 z1) := Lib.hid (row_of (own_base hown5 (by simp)))
      have p5 := Lib.hid (bel1 w4 (.cells #[.int .i64 s0, .slice b4 z0.length c4] 26))
      have B5 : Hid (Below w4.heap.size w4 w5) := Lib.hid (p5.out.trans (hb5.mono p5.out.size))
      have B5_size := B5.out.size
      have pz5 : w4.heap.size + 1 ≤ w5.heap.size := by have := hb5.size; simp at this; omega
      have Ta0_5 : Hid (Two w5 w.heap.size (.int .i64 s0) (.slice a0 len0 cap0)) := Lib.hid (Ta0_4.out.keep B5.out)
      obtain ⟨Ta0_5_l, Ta0_5_a, Ta0_5_b⟩ := Ta0_5.out
      clear Ta0_4 Ta0_4_l Ta0_4_a Ta0_4_b
      have Ta1_5 : Hid (Two w5 (w.heap.size + 1) (.int .i64 s1) (.slice a1 len1 cap1)) := Lib.hid (Ta1_4.out.keep B5.out)
      obtain ⟨Ta1_5_l, Ta1_5_a, Ta1_5_b⟩ := Ta1_5.out
      clear Ta1_4 Ta1_4_l Ta1_4_a Ta1_4_b
      have Tm0_5 : Hid (Two w5 g3 (.int .i64 (stlS s0 z0 s1 z1 a2)) (.slice b3 (stlX s0 z0 s1 z1 a2).length c3)) := Lib.hid (Tm0_4.out.keep B5.out)
      obtain ⟨Tm0_5_l, Tm0_5_a, Tm0_5_b⟩ := Tm0_5.out
      clear Tm0_4 Tm0_4_l Tm0_4_a Tm0_4_b
      have Tm1_5 : Hid (Two w5 h3 (.int .i64 (stlS s0 z0 s1 z1 a2)) (.slice d3 (stlY s0 z0 s1 z1 a2).length e3)) := Lib.hid (Tm1_4.out.keep B5.out)
      obtain ⟨Tm1_5_l, Tm1_5_a, Tm1_5_b⟩ := Tm1_5.out
      clear Tm1_4 Tm1_4_l Tm1_4_a Tm1_4_b
      have Tx0_5 : Hid (Two w5 w4.heap.size (.int .i64 s0) (.slice b4 z0.length c4)) := Lib.hid ((two_new w4 (.int .i64 s0) (.slice b4 z0.length c4) 26).keep hb5)
      obtain ⟨Tx0_5_l, Tx0_5_a, Tx0_5_b⟩ := Tx0_5.out
      have Om0_5 : Hid (Row w5 w2.heap.size w3.heap.size b3 (stlX s0 z0 s1 z1 a2).length c3 (stlX s0 z0 s1 z1 a2)) := Lib.hid (Om0_4.out.keep B5.out)
      clear Om0_4
      have Om1_5 : Hid (Row w5 w2.heap.size w3.heap.size d3 (stlY s0 z0 s1 z1 a2).length e3 (stlY s0 z0 s1 z1 a2)) := Lib.hid (Om1_4.out.keep B5.out)
      clear Om1_4
      have Ox0_5 : Hid (Row w5 w3.heap.size w4.heap.size b4 z0.length c4 z0) := Lib.hid (Ox0_4.out.keep B5.out)
      clear Ox0_4
      have A5 : Hid (Below w.heap.size w w5) := Lib.hid (A4.out.trans (B5.out.mono A4.out.size))
      clear A4
      clear hown5 hb5
      go_wp2_with fail
      refine (st_impl s0 b4 z0.length c4 z0 s1 b5 z1.length c5 z1 a2 _ ((Ox0_5.out.at HS0.out.int).below (bel1 _ (.cells #[.int .i64 s1, .slice b5 z1.length c5] 26))) lz0 ((Ox1_5.out.at HS1.out.int).below (bel1 _ (.cells #[.int .i64 s1, .slice b5 z1.length c5] 26))) lz1 kl2 ku2).mono ?_
      rintro e w6 ⟨b6, c6, d6, e6, m6, rfl, hr6, hs6, hm6, hb6⟩
      have Og0_6 : Hid (Row w6 (w5.heap.size + 1) m6 b6 (stlX s0 z0 s1 z1 a2).length c6 (stlX s0 z0 s1 z1 a2)) := Lib.hid (hr6.lo (by simp))
      have Og1_6 : Hid (Row w6 m6 w6.heap.size d6 (stlY s0 z0 s1 z1 a2).length e6 (stlY s0 z0 s1 z1 a2)) := Lib.hid hs6
      have mz6 := hr6.2.2
      have ml6 : (w5.heap.size + 1) ≤ m6 := by have := hm6; simp at this; omega
      have p6 := Lib.hid (bel1 w5 (.cells #[.int .i64 s1, .slice b5 z1.length c5] 26))
      have B6 : Hid (Below w5.heap.size w5 w6) := Lib.hid (p6.out.trans (hb6.mono p6.out.size))
      have B6_size := B6.out.size
      have pz6 : w5.heap.size + 1 ≤ w6.heap.size := by have := hb6.size; simp at this; omega
      have Ta0_6 : Hid (Two w6 w.heap.size (.int .i64 s0) (.slice a0 len0 cap0)) := Lib.hid (Ta0_5.out.keep B6.out)
      obtain ⟨Ta0_6_l, Ta0_6_a, Ta0_6_b⟩ := Ta0_6.out
      clear Ta0_5 Ta0_5_l Ta0_5_a Ta0_5_b
      have Ta1_6 : Hid (Two w6 (w.heap.size + 1) (.int .i64 s1) (.slice a1 len1 cap1)) := Lib.hid (Ta1_5.out.keep B6.out)
      obtain ⟨Ta1_6_l, Ta1_6_a, Ta1_6_b⟩ := Ta1_6.out
      clear Ta1_5 Ta1_5_l Ta1_5_a Ta1_5_b
      have Tm0_6 : Hid (Two w6 g3 (.int .i64 (stlS s0 z0 s1 z1 a2)) (.slice b3 (stlX s0 z0 s1 z1 a2).length c3)) := Lib.hid (Tm0_5.out.keep B6.out)
      obtain ⟨Tm0_6_l, Tm0_6_a, Tm0_6_b⟩ := Tm0_6.out
      clear Tm0_5 Tm0_5_l Tm0_5_a Tm0_5_b
      have Tm1_6 : Hid (Two w6 h3 (.int .i64 (stlS s0 z0 s1 z1 a2)) (.slice d3 (stlY s0 z0 s1 z1 a2).length e3)) := Lib.hid (Tm1_5.out.keep B6.out)
      obtain ⟨Tm1_6_l, Tm1_6_a, Tm1_6_b⟩ := Tm1_6.out
      clear Tm1_5 Tm1_5_l Tm1_5_a Tm1_5_b
      have Tx0_6 : Hid (Two w6 w4.heap.size (.int .i64 s0) (.slice b4 z0.length c4)) := Lib.hid (Tx0_5.out.keep B6.out)
      obtain ⟨Tx0_6_l, Tx0_6_a, Tx0_6_b⟩ := Tx0_6.out
      clear Tx0_5 Tx0_5_l Tx0_5_a Tx0_5_b
      have Tx1_6 : Hid (Two w6 w5.heap.size (.int .i64 s1) (.slice b5 z1.length c5)) := Lib.hid ((two_new w5 (.int .i64 s1) (.slice b5 z1.length c5) 26).keep hb6)
      obtain ⟨Tx1_6_l, Tx1_6_a, Tx1_6_b⟩ := Tx1_6.out
      have Om0_6 : Hid (Row w6 w2.heap.size w3.heap.size b3 (stlX s0 z0 s1 z1 a2).length c3 (stlX s0 z0 s1 z1 a2)) := Lib.hid (Om0_5.out.keep B6.out)
      clear Om0_5
      have Om1_6 : Hid (Row w6 w2.heap.size w3.heap.size d3 (stlY s0 z0 s1 z1 a2).length e3 (stlY s0 z0 s1 z1 a2)) := Lib.hid (Om1_5.out.keep B6.out)
      clear Om1_5
      have Ox0_6 : Hid (Row w6 w3.heap.size w4.heap.size b4 z0.length c4 z0) := Lib.hid (Ox0_5.out.keep B6.out)
      clear Ox0_5
      have Ox1_6 : Hid (Row w6 (w4.heap.size + 1) w5.heap.size b5 z1.length c5 z1) := Lib.hid (Ox1_5.out.keep B6.out)
      clear Ox1_5
      have A6 : Hid (Below w.heap.size w w6) := Lib.hid (A5.out.trans (B6.out.mono A5.out.size))
      clear A5
      clear hr6 hs6 hm6 hb6
      go_wp2_with fail
      refine (eq_rhythm _ b6 b3 c6 c3 _ (stlX s0 z0 s1 z1 a2) _ ((Og0_6.out.at HX.out).below (bel2 _ (.cells #[.int .i64 (stlS s0 z0 s1 z1 a2), .slice b6 (stlX s0 z0 s1 z1 a2).length c6] 26) (.cells #[.int .i64 (stlS s0 z0 s1 z1 a2), .slice d6 (stlY s0 z0 s1 z1 a2).length e6] 26))) ((Om0_6.out.at HX.out).below (bel2 _ (.cells #[.int .i64 (stlS s0 z0 s1 z1 a2), .slice b6 (stlX s0 z0 s1 z1 a2).length c6] 26) (.cells #[.int .i64 (stlS s0 z0 s1 z1 a2), .slice d6 (stlY s0 z0 s1 z1 a2).length e6] 26))) (by omega)).mono ?_
      rintro e w7 ⟨rfl, hb7⟩
      have p7 := Lib.hid (bel2 w6 (.cells #[.int .i64 (stlS s0 z0 s1 z1 a2), .slice b6 (stlX s0 z0 s1 z1 a2).length c6] 26) (.cells #[.int .i64 (stlS s0 z0 s1 z1 a2), .slice d6 (stlY s0 z0 s1 z1 a2).length e6] 26))
      have B7 : Hid (Below w6.heap.size w6 w7) := Lib.hid (p7.out.trans (hb7.mono p7.out.size))
      have B7_size := B7.out.size
      have pz7 : w6.heap.size + 2 ≤ w7.heap.size := by have := hb7.size; simp at this; omega
      have Ta0_7 : Hid (Two w7 w.heap.size (.int .i64 s0) (.slice a0 len0 cap0)) := Lib.hid (Ta0_6.out.keep B7.out)
      obtain ⟨Ta0_7_l, Ta0_7_a, Ta0_7_b⟩ := Ta0_7.out
      clear Ta0_6 Ta0_6_l Ta0_6_a Ta0_6_b
      have Ta1_7 : Hid (Two w7 (w.heap.size + 1) (.int .i64 s1) (.slice a1 len1 cap1)) := Lib.hid (Ta1_6.out.keep B7.out)
      obtain ⟨Ta1_7_l, Ta1_7_a, Ta1_7_b⟩ := Ta1_7.out
      clear Ta1_6 Ta1_6_l Ta1_6_a Ta1_6_b
      have Tm0_7 : Hid (Two w7 g3 (.int .i64 (stlS s0 z0 s1 z1 a2)) (.slice b3 (stlX s0 z0 s1 z1 a2).length c3)) := Lib.hid (Tm0_6.out.keep B7.out)
      obtain ⟨Tm0_7_l, Tm0_7_a, Tm0_7_b⟩ := Tm0_7.out
      clear Tm0_6 Tm0_6_l Tm0_6_a Tm0_6_b
      have Tm1_7 : Hid (Two w7 h3 (.int .i64 (stlS s0 z0 s1 z1 a2)) (.slice d3 (stlY s0 z0 s1 z1 a2).length e3)) := Lib.hid (Tm1_6.out.keep B7.out)
      obtain ⟨Tm1_7_l, Tm1_7_a, Tm1_7_b⟩ := Tm1_7.out
      clear Tm1_6 Tm1_6_l Tm1_6_a Tm1_6_b
      have Tx0_7 : Hid (Two w7 w4.heap.size (.int .i64 s0) (.slice b4 z0.length c4)) := Lib.hid (Tx0_6.out.keep B7.out)
      obtain ⟨Tx0_7_l, Tx0_7_a, Tx0_7_b⟩ := Tx0_7.out
      clear Tx0_6 Tx0_6_l Tx0_6_a Tx0_6_b
      have Tx1_7 : Hid (Two w7 w5.heap.size (.int .i64 s1) (.slice b5 z1.length c5)) := Lib.hid (Tx1_6.out.keep B7.out)
      obtain ⟨Tx1_7_l, Tx1_7_a, Tx1_7_b⟩ := Tx1_7.out
      clear Tx1_6 Tx1_6_l Tx1_6_a Tx1_6_b
      have Tg0_7 : Hid (Two w7 w6.heap.size (.int .i64 (stlS s0 z0 s1 z1 a2)) (.slice b6 (stlX s0 z0 s1 z1 a2).length c6)) := Lib.hid (((two_new w6 (.int .i64 (stlS s0 z0 s1 z1 a2)) (.slice b6 (stlX s0 z0 s1 z1 a2).length c6) 26).keep (bel1 _ (.cells #[.int .i64 (stlS s0 z0 s1 z1 a2), .slice d6 (stlY s0 z0 s1 z1 a2).length e6] 26))).keep hb7)
      obtain ⟨Tg0_7_l, Tg0_7_a, Tg0_7_b⟩ := Tg0_7.out
      have Tg1_7 : Hid (Two w7 (w6.heap.size + 1) (.int .i64 (stlS s0 z0 s1 z1 a2)) (.slice d6 (stlY s0 z0 s1 z1 a2).length e6)) := Lib.hid (by simpa using ((two_new (w6.alloc (.cells #[.int .i64 (stlS s0 z0 s1 z1 a2), .slice b6 (stlX s0 z0 s1 z1 a2).length c6] 26)) (.int .i64 (stlS s0 z0 s1 z1 a2)) (.slice d6 (stlY s0 z0 s1 z1 a2).length e6) 26).keep hb7 : Two _ _ _ _))
      obtain ⟨Tg1_7_l, Tg1_7_a, Tg1_7_b⟩ := Tg1_7.out
      have Om0_7 : Hid (Row w7 w2.heap.size w3.heap.size b3 (stlX s0 z0 s1 z1 a2).length c3 (stlX s0 z0 s1 z1 a2)) := Lib.hid (Om0_6.out.keep B7.out)
      clear Om0_6
      have Om1_7 : Hid (Row w7 w2.heap.size w3.heap.size d3 (stlY s0 z0 s1 z1 a2).length e3 (stlY s0 z0 s1 z1 a2)) := Lib.hid (Om1_6.out.keep B7.out)
      clear Om1_6
      have Ox0_7 : Hid (Row w7 w3.heap.size w4.heap.size b4 z0.length c4 z0) := Lib.hid (Ox0_6.out.keep B7.out)
      clear Ox0_6
      have Ox1_7 : Hid (Row w7 (w4.heap.size + 1) w5.heap.size b5 z1.length c5 z1) := Lib.hid (Ox1_6.out.keep B7.out)
      clear Ox1_6
      have Og0_7 : Hid (Row w7 (w5.heap.size + 1) m6 b6 (stlX s0 z0 s1 z1 a2).length c6 (stlX s0 z0 s1 z1 a2)) := Lib.hid (Og0_6.out.keep B7.out)
      clear Og0_6
      have Og1_7 : Hid (Row w7 m6 w6.heap.size d6 (stlY s0 z0 s1 z1 a2).length e6 (stlY s0 z0 s1 z1 a2)) := Lib.hid (Og1_6.out.keep B7.out)
      clear Og1_6
      have A7 : Hid (Below w.heap.size w w7) := Lib.hid (A6.out.trans (B7.out.mono A6.out.size))
      clear A6
      clear hb7
      go_wp2_with fail
      refine (eq_rhythm _ d6 d3 e6 e3 _ (stlY s0 z0 s1 z1 a2) _ (Og1_7.out.at HY.out) (Om1_7.out.at HY.out) (by omega)).mono ?_
      rintro e w8 ⟨rfl, hb8⟩
      have B8 : Hid (Below w7.heap.size w7 w8) := Lib.hid (hb8)
      have B8_size := B8.out.size
      have Ta0_8 : Hid (Two w8 w.heap.size (.int .i64 s0) (.slice a0 len0 cap0)) := Lib.hid (Ta0_7.out.keep B8.out)
      obtain ⟨Ta0_8_l, Ta0_8_a, Ta0_8_b⟩ := Ta0_8.out
      clear Ta0_7 Ta0_7_l Ta0_7_a Ta0_7_b
      have Ta1_8 : Hid (Two w8 (w.heap.size + 1) (.int .i64 s1) (.slice a1 len1 cap1)) := Lib.hid (Ta1_7.out.keep B8.out)
      obtain ⟨Ta1_8_l, Ta1_8_a, Ta1_8_b⟩ := Ta1_8.out
      clear Ta1_7 Ta1_7_l Ta1_7_a Ta1_7_b
      have Tm0_8 : Hid (Two w8 g3 (.int .i64 (stlS s0 z0 s1 z1 a2)) (.slice b3 (stlX s0 z0 s1 z1 a2).length c3)) := Lib.hid (Tm0_7.out.keep B8.out)
      obtain ⟨Tm0_8_l, Tm0_8_a, Tm0_8_b⟩ := Tm0_8.out
      clear Tm0_7 Tm0_7_l Tm0_7_a Tm0_7_b
      have Tm1_8 : Hid (Two w8 h3 (.int .i64 (stlS s0 z0 s1 z1 a2)) (.slice d3 (stlY s0 z0 s1 z1 a2).length e3)) := Lib.hid (Tm1_7.out.keep B8.out)
      obtain ⟨Tm1_8_l, Tm1_8_a, Tm1_8_b⟩ := Tm1_8.out
      clear Tm1_7 Tm1_7_l Tm1_7_a Tm1_7_b
      have Tx0_8 : Hid (Two w8 w4.heap.size (.int .i64 s0) (.slice b4 z0.length c4)) := Lib.hid (Tx0_7.out.keep B8.out)
      obtain ⟨Tx0_8_l, Tx0_8_a, Tx0_8_b⟩ := Tx0_8.out
      clear Tx0_7 Tx0_7_l Tx0_7_a Tx0_7_b
      have Tx1_8 : Hid (Two w8 w5.heap.size (.int .i64 s1) (.slice b5 z1.length c5)) := Lib.hid (Tx1_7.out.keep B8.out)
      obtain ⟨Tx1_8_l, Tx1_8_a, Tx1_8_b⟩ := Tx1_8.out
      clear Tx1_7 Tx1_7_l Tx1_7_a Tx1_7_b
      have Tg0_8 : Hid (Two w8 w6.heap.size (.int .i64 (stlS s0 z0 s1 z1 a2)) (.slice b6 (stlX s0 z0 s1 z1 a2).length c6)) := Lib.hid (Tg0_7.out.keep B8.out)
      obtain ⟨Tg0_8_l, Tg0_8_a, Tg0_8_b⟩ := Tg0_8.out
      clear Tg0_7 Tg0_7_l Tg0_7_a Tg0_7_b
      have Tg1_8 : Hid (Two w8 (w6.heap.size + 1) (.int .i64 (stlS s0 z0 s1 z1 a2)) (.slice d6 (stlY s0 z0 s1 z1 a2).length e6)) := Lib.hid (Tg1_7.out.keep B8.out)
      obtain ⟨Tg1_8_l, Tg1_8_a, Tg1_8_b⟩ := Tg1_8.out
      clear Tg1_7 Tg1_7_l Tg1_7_a Tg1_7_b
      have Om0_8 : Hid (Row w8 w2.heap.size w3.heap.size b3 (stlX s0 z0 s1 z1 a2).length c3 (stlX s0 z0 s1 z1 a2)) := Lib.hid (Om0_7.out.keep B8.out)
      clear Om0_7
      have Om1_8 : Hid (Row w8 w2.heap.size w3.heap.size d3 (stlY s0 z0 s1 z1 a2).length e3 (stlY s0 z0 s1 z1 a2)) := Lib.hid (Om1_7.out.keep B8.out)
      clear Om1_7
      have Ox0_8 : Hid (Row w8 w3.heap.size w4.heap.size b4 z0.length c4 z0) := Lib.hid (Ox0_7.out.keep B8.out)
      clear Ox0_7
      have Ox1_8 : Hid (Row w8 (w4.heap.size + 1) w5.heap.size b5 z1.length c5 z1) := Lib.hid (Ox1_7.out.keep B8.out)
      clear Ox1_7
      have Og0_8 : Hid (Row w8 (w5.heap.size + 1) m6 b6 (stlX s0 z0 s1 z1 a2).length c6 (stlX s0 z0 s1 z1 a2)) := Lib.hid (Og0_7.out.keep B8.out)
      clear Og0_7
      have Og1_8 : Hid (Row w8 m6 w6.heap.size d6 (stlY s0 z0 s1 z1 a2).length e6 (stlY s0 z0 s1 z1 a2)) := Lib.hid (Og1_7.out.keep B8.out)
      clear Og1_7
      have A8 : Hid (Below w.heap.size w w8) := Lib.hid (A7.out.trans (B8.out.mono A7.out.size))
      clear A7
      clear hb8
      go_wp2
      have HT : Hid (∀ W, Below w8.heap.size w8 W → IntsAt W a0 len0 z0) := Lib.hid (fun W hW => HS0.out.below (A8.out.trans (hW.mono A8.out.size)))
      have HK : Hid (∀ W, Below w8.heap.size w8 W → W.cell? ⟨w.heap.size, 0, none⟩ = some (.int .i64 s0) ∧ W.cell? ⟨w.heap.size, 1, none⟩ = some (.slice a0 len0 cap0) ∧ W.cell? ⟨w4.heap.size, 0, none⟩ = some (.int .i64 s0) ∧ W.cell? ⟨w4.heap.size, 1, none⟩ = some (.slice b4 z0.length c4) ∧ Below w8.heap.size w8 W) := Lib.hid (fun W hW => ⟨(Ta0_8.out.keep hW).2.1, (Ta0_8.out.keep hW).2.2, (Tx0_8.out.keep hW).2.1, (Tx0_8.out.keep hW).2.2, hW⟩)
      have HX : Hid (∀ W, Below w8.heap.size w8 W → Row W w3.heap.size w4.heap.size b4 z0.length c4 z0) := Lib.hid (fun W hW => Ox0_8.out.keep hW)
      go_region_held3 (fun w' => w'.cell? ⟨w.heap.size, 0, none⟩ = some (.int .i64 s0) ∧ w'.cell? ⟨w.heap.size, 1, none⟩ = some (.slice a0 len0 cap0) ∧ w'.cell? ⟨w4.heap.size, 0, none⟩ = some (.int .i64 s0) ∧ w'.cell? ⟨w4.heap.size, 1, none⟩ = some (.slice b4 z0.length c4) ∧ Below w8.heap.size w8 w')
        (first | exact HK.out _ (Below.refl _ _).drew | exact HK.out _ hb9 | exact HK.out _ hb10)
        ((first
          | (go_at_call 30; refine (to_rhythm s0 a0 len0 cap0 z0 _ (HT.out _ (Below.refl _ _).drew) le0).mono ?_; rintro e w9 ⟨b9, c9, rfl, hown9, hc9⟩; have HO9 := Lib.hid hown9; have hb9 := (Below.refl w8.heap.size w8).drew.trans hc9; clear hown9 hc9)
          | (go_at_call 32; refine (eq_rhythm s0 b4 _ c4 _ z0.length z0 _ ((HX.out _ hb9).at HS0.out.int) (intsAt_own HO9.out HS0.out.int) (by omega)).mono ?_; rintro e w10 ⟨rfl, hc10⟩; have hb10 := hb9.trans (hc10.mono hb9.size); clear hc10)))
      clear HT HK HX hb9 HO9
      rename_i hHeld
      clear hHeld
      have B10 : Hid (Below w8.heap.size w8 w10) := Lib.hid (hb10)
      have B10_size := B10.out.size
      have Ta0_10 : Hid (Two w10 w.heap.size (.int .i64 s0) (.slice a0 len0 cap0)) := Lib.hid (Ta0_8.out.keep B10.out)
      obtain ⟨Ta0_10_l, Ta0_10_a, Ta0_10_b⟩ := Ta0_10.out
      clear Ta0_8 Ta0_8_l Ta0_8_a Ta0_8_b
      have Ta1_10 : Hid (Two w10 (w.heap.size + 1) (.int .i64 s1) (.slice a1 len1 cap1)) := Lib.hid (Ta1_8.out.keep B10.out)
      obtain ⟨Ta1_10_l, Ta1_10_a, Ta1_10_b⟩ := Ta1_10.out
      clear Ta1_8 Ta1_8_l Ta1_8_a Ta1_8_b
      have Tm0_10 : Hid (Two w10 g3 (.int .i64 (stlS s0 z0 s1 z1 a2)) (.slice b3 (stlX s0 z0 s1 z1 a2).length c3)) := Lib.hid (Tm0_8.out.keep B10.out)
      obtain ⟨Tm0_10_l, Tm0_10_a, Tm0_10_b⟩ := Tm0_10.out
      clear Tm0_8 Tm0_8_l Tm0_8_a Tm0_8_b
      have Tm1_10 : Hid (Two w10 h3 (.int .i64 (stlS s0 z0 s1 z1 a2)) (.slice d3 (stlY s0 z0 s1 z1 a2).length e3)) := Lib.hid (Tm1_8.out.keep B10.out)
      obtain ⟨Tm1_10_l, Tm1_10_a, Tm1_10_b⟩ := Tm1_10.out
      clear Tm1_8 Tm1_8_l Tm1_8_a Tm1_8_b
      have Tx0_10 : Hid (Two w10 w4.heap.size (.int .i64 s0) (.slice b4 z0.length c4)) := Lib.hid (Tx0_8.out.keep B10.out)
      obtain ⟨Tx0_10_l, Tx0_10_a, Tx0_10_b⟩ := Tx0_10.out
      clear Tx0_8 Tx0_8_l Tx0_8_a Tx0_8_b
      have Tx1_10 : Hid (Two w10 w5.heap.size (.int .i64 s1) (.slice b5 z1.length c5)) := Lib.hid (Tx1_8.out.keep B10.out)
      obtain ⟨Tx1_10_l, Tx1_10_a, Tx1_10_b⟩ := Tx1_10.out
      clear Tx1_8 Tx1_8_l Tx1_8_a Tx1_8_b
      have Tg0_10 : Hid (Two w10 w6.heap.size (.int .i64 (stlS s0 z0 s1 z1 a2)) (.slice b6 (stlX s0 z0 s1 z1 a2).length c6)) := Lib.hid (Tg0_8.out.keep B10.out)
      obtain ⟨Tg0_10_l, Tg0_10_a, Tg0_10_b⟩ := Tg0_10.out
      clear Tg0_8 Tg0_8_l Tg0_8_a Tg0_8_b
      have Tg1_10 : Hid (Two w10 (w6.heap.size + 1) (.int .i64 (stlS s0 z0 s1 z1 a2)) (.slice d6 (stlY s0 z0 s1 z1 a2).length e6)) := Lib.hid (Tg1_8.out.keep B10.out)
      obtain ⟨Tg1_10_l, Tg1_10_a, Tg1_10_b⟩ := Tg1_10.out
      clear Tg1_8 Tg1_8_l Tg1_8_a Tg1_8_b
      have Om0_10 : Hid (Row w10 w2.heap.size w3.heap.size b3 (stlX s0 z0 s1 z1 a2).length c3 (stlX s0 z0 s1 z1 a2)) := Lib.hid (Om0_8.out.keep B10.out)
      clear Om0_8
      have Om1_10 : Hid (Row w10 w2.heap.size w3.heap.size d3 (stlY s0 z0 s1 z1 a2).length e3 (stlY s0 z0 s1 z1 a2)) := Lib.hid (Om1_8.out.keep B10.out)
      clear Om1_8
      have Ox0_10 : Hid (Row w10 w3.heap.size w4.heap.size b4 z0.length c4 z0) := Lib.hid (Ox0_8.out.keep B10.out)
      clear Ox0_8
      have Ox1_10 : Hid (Row w10 (w4.heap.size + 1) w5.heap.size b5 z1.length c5 z1) := Lib.hid (Ox1_8.out.keep B10.out)
      clear Ox1_8
      have Og0_10 : Hid (Row w10 (w5.heap.size + 1) m6 b6 (stlX s0 z0 s1 z1 a2).length c6 (stlX s0 z0 s1 z1 a2)) := Lib.hid (Og0_8.out.keep B10.out)
      clear Og0_8
      have Og1_10 : Hid (Row w10 m6 w6.heap.size d6 (stlY s0 z0 s1 z1 a2).length e6 (stlY s0 z0 s1 z1 a2)) := Lib.hid (Og1_8.out.keep B10.out)
      clear Og1_8
      have A10 : Hid (Below w.heap.size w w10) := Lib.hid (A8.out.trans (B10.out.mono A8.out.size))
      clear A8
      clear hb10
      go_wp2
      have HT : Hid (∀ W, Below w10.heap.size w10 W → IntsAt W a1 len1 z1) := Lib.hid (fun W hW => HS1.out.below (A10.out.trans (hW.mono A10.out.size)))
      have HK : Hid (∀ W, Below w10.heap.size w10 W → W.cell? ⟨(w.heap.size + 1), 0, none⟩ = some (.int .i64 s1) ∧ W.cell? ⟨(w.heap.size + 1), 1, none⟩ = some (.slice a1 len1 cap1) ∧ W.cell? ⟨w5.heap.size, 0, none⟩ = some (.int .i64 s1) ∧ W.cell? ⟨w5.heap.size, 1, none⟩ = some (.slice b5 z1.length c5) ∧ Below w10.heap.size w10 W) := Lib.hid (fun W hW => ⟨(Ta1_10.out.keep hW).2.1, (Ta1_10.out.keep hW).2.2, (Tx1_10.out.keep hW).2.1, (Tx1_10.out.keep hW).2.2, hW⟩)
      have HX : Hid (∀ W, Below w10.heap.size w10 W → Row W (w4.heap.size + 1) w5.heap.size b5 z1.length c5 z1) := Lib.hid (fun W hW => Ox1_10.out.keep hW)
      go_region_held3 (fun w' => w'.cell? ⟨(w.heap.size + 1), 0, none⟩ = some (.int .i64 s1) ∧ w'.cell? ⟨(w.heap.size + 1), 1, none⟩ = some (.slice a1 len1 cap1) ∧ w'.cell? ⟨w5.heap.size, 0, none⟩ = some (.int .i64 s1) ∧ w'.cell? ⟨w5.heap.size, 1, none⟩ = some (.slice b5 z1.length c5) ∧ Below w10.heap.size w10 w')
        (first | exact HK.out _ (Below.refl _ _).drew | exact HK.out _ hb11 | exact HK.out _ hb12)
        ((first
          | (go_at_call 30; refine (to_rhythm s1 a1 len1 cap1 z1 _ (HT.out _ (Below.refl _ _).drew) le1).mono ?_; rintro e w11 ⟨b11, c11, rfl, hown11, hc11⟩; have HO11 := Lib.hid hown11; have hb11 := (Below.refl w10.heap.size w10).drew.trans hc11; clear hown11 hc11)
          | (go_at_call 32; refine (eq_rhythm s1 b5 _ c5 _ z1.length z1 _ ((HX.out _ hb11).at HS1.out.int) (intsAt_own HO11.out HS1.out.int) (by omega)).mono ?_; rintro e w12 ⟨rfl, hc12⟩; have hb12 := hb11.trans (hc12.mono hb11.size); clear hc12)))
      clear HT HK HX hb11 HO11
      rename_i hHeld
      clear hHeld
      have B12 : Hid (Below w10.heap.size w10 w12) := Lib.hid (hb12)
      have B12_size := B12.out.size
      have Ta0_12 : Hid (Two w12 w.heap.size (.int .i64 s0) (.slice a0 len0 cap0)) := Lib.hid (Ta0_10.out.keep B12.out)
      obtain ⟨Ta0_12_l, Ta0_12_a, Ta0_12_b⟩ := Ta0_12.out
      clear Ta0_10 Ta0_10_l Ta0_10_a Ta0_10_b
      have Ta1_12 : Hid (Two w12 (w.heap.size + 1) (.int .i64 s1) (.slice a1 len1 cap1)) := Lib.hid (Ta1_10.out.keep B12.out)
      obtain ⟨Ta1_12_l, Ta1_12_a, Ta1_12_b⟩ := Ta1_12.out
      clear Ta1_10 Ta1_10_l Ta1_10_a Ta1_10_b
      have Tm0_12 : Hid (Two w12 g3 (.int .i64 (stlS s0 z0 s1 z1 a2)) (.slice b3 (stlX s0 z0 s1 z1 a2).length c3)) := Lib.hid (Tm0_10.out.keep B12.out)
      obtain ⟨Tm0_12_l, Tm0_12_a, Tm0_12_b⟩ := Tm0_12.out
      clear Tm0_10 Tm0_10_l Tm0_10_a Tm0_10_b
      have Tm1_12 : Hid (Two w12 h3 (.int .i64 (stlS s0 z0 s1 z1 a2)) (.slice d3 (stlY s0 z0 s1 z1 a2).length e3)) := Lib.hid (Tm1_10.out.keep B12.out)
      obtain ⟨Tm1_12_l, Tm1_12_a, Tm1_12_b⟩ := Tm1_12.out
      clear Tm1_10 Tm1_10_l Tm1_10_a Tm1_10_b
      have Tx0_12 : Hid (Two w12 w4.heap.size (.int .i64 s0) (.slice b4 z0.length c4)) := Lib.hid (Tx0_10.out.keep B12.out)
      obtain ⟨Tx0_12_l, Tx0_12_a, Tx0_12_b⟩ := Tx0_12.out
      clear Tx0_10 Tx0_10_l Tx0_10_a Tx0_10_b
      have Tx1_12 : Hid (Two w12 w5.heap.size (.int .i64 s1) (.slice b5 z1.length c5)) := Lib.hid (Tx1_10.out.keep B12.out)
      obtain ⟨Tx1_12_l, Tx1_12_a, Tx1_12_b⟩ := Tx1_12.out
      clear Tx1_10 Tx1_10_l Tx1_10_a Tx1_10_b
      have Tg0_12 : Hid (Two w12 w6.heap.size (.int .i64 (stlS s0 z0 s1 z1 a2)) (.slice b6 (stlX s0 z0 s1 z1 a2).length c6)) := Lib.hid (Tg0_10.out.keep B12.out)
      obtain ⟨Tg0_12_l, Tg0_12_a, Tg0_12_b⟩ := Tg0_12.out
      clear Tg0_10 Tg0_10_l Tg0_10_a Tg0_10_b
      have Tg1_12 : Hid (Two w12 (w6.heap.size + 1) (.int .i64 (stlS s0 z0 s1 z1 a2)) (.slice d6 (stlY s0 z0 s1 z1 a2).length e6)) := Lib.hid (Tg1_10.out.keep B12.out)
      obtain ⟨Tg1_12_l, Tg1_12_a, Tg1_12_b⟩ := Tg1_12.out
      clear Tg1_10 Tg1_10_l Tg1_10_a Tg1_10_b
      have Om0_12 : Hid (Row w12 w2.heap.size w3.heap.size b3 (stlX s0 z0 s1 z1 a2).length c3 (stlX s0 z0 s1 z1 a2)) := Lib.hid (Om0_10.out.keep B12.out)
      clear Om0_10
      have Om1_12 : Hid (Row w12 w2.heap.size w3.heap.size d3 (stlY s0 z0 s1 z1 a2).length e3 (stlY s0 z0 s1 z1 a2)) := Lib.hid (Om1_10.out.keep B12.out)
      clear Om1_10
      have Ox0_12 : Hid (Row w12 w3.heap.size w4.heap.size b4 z0.length c4 z0) := Lib.hid (Ox0_10.out.keep B12.out)
      clear Ox0_10
      have Ox1_12 : Hid (Row w12 (w4.heap.size + 1) w5.heap.size b5 z1.length c5 z1) := Lib.hid (Ox1_10.out.keep B12.out)
      clear Ox1_10
      have Og0_12 : Hid (Row w12 (w5.heap.size + 1) m6 b6 (stlX s0 z0 s1 z1 a2).length c6 (stlX s0 z0 s1 z1 a2)) := Lib.hid (Og0_10.out.keep B12.out)
      clear Og0_10
      have Og1_12 : Hid (Row w12 m6 w6.heap.size d6 (stlY s0 z0 s1 z1 a2).length e6 (stlY s0 z0 s1 z1 a2)) := Lib.hid (Og1_10.out.keep B12.out)
      clear Og1_10
      have A12 : Hid (Below w.heap.size w w12) := Lib.hid (A10.out.trans (B12.out.mono A10.out.size))
      clear A10
      clear hb12
      go_wp2_with fail
      refine (mark_rhythm w3.heap.size w4.heap.size (1) _ b4 c4 _ _ _ Ox0_12.out (by omega) (by omega)).mono ?_
      rintro e w13 ⟨rfl, hown13, hb13⟩
      have B13 : Hid (Within w3.heap.size w4.heap.size w12 w13) := Lib.hid (hb13)
      have B13_size := B13.out.size
      have Ta0_13 : Hid (Two w13 w.heap.size (.int .i64 s0) (.slice a0 len0 cap0)) := Lib.hid (Ta0_12.out.within B13.out (by omega))
      obtain ⟨Ta0_13_l, Ta0_13_a, Ta0_13_b⟩ := Ta0_13.out
      clear Ta0_12 Ta0_12_l Ta0_12_a Ta0_12_b
      have Ta1_13 : Hid (Two w13 (w.heap.size + 1) (.int .i64 s1) (.slice a1 len1 cap1)) := Lib.hid (Ta1_12.out.within B13.out (by omega))
      obtain ⟨Ta1_13_l, Ta1_13_a, Ta1_13_b⟩ := Ta1_13.out
      clear Ta1_12 Ta1_12_l Ta1_12_a Ta1_12_b
      have Tm0_13 : Hid (Two w13 g3 (.int .i64 (stlS s0 z0 s1 z1 a2)) (.slice b3 (stlX s0 z0 s1 z1 a2).length c3)) := Lib.hid (Tm0_12.out.within B13.out (by omega))
      obtain ⟨Tm0_13_l, Tm0_13_a, Tm0_13_b⟩ := Tm0_13.out
      clear Tm0_12 Tm0_12_l Tm0_12_a Tm0_12_b
      have Tm1_13 : Hid (Two w13 h3 (.int .i64 (stlS s0 z0 s1 z1 a2)) (.slice d3 (stlY s0 z0 s1 z1 a2).length e3)) := Lib.hid (Tm1_12.out.within B13.out (by omega))
      obtain ⟨Tm1_13_l, Tm1_13_a, Tm1_13_b⟩ := Tm1_13.out
      clear Tm1_12 Tm1_12_l Tm1_12_a Tm1_12_b
      have Tx0_13 : Hid (Two w13 w4.heap.size (.int .i64 s0) (.slice b4 z0.length c4)) := Lib.hid (Tx0_12.out.within B13.out (by omega))
      obtain ⟨Tx0_13_l, Tx0_13_a, Tx0_13_b⟩ := Tx0_13.out
      clear Tx0_12 Tx0_12_l Tx0_12_a Tx0_12_b
      have Tx1_13 : Hid (Two w13 w5.heap.size (.int .i64 s1) (.slice b5 z1.length c5)) := Lib.hid (Tx1_12.out.within B13.out (by omega))
      obtain ⟨Tx1_13_l, Tx1_13_a, Tx1_13_b⟩ := Tx1_13.out
      clear Tx1_12 Tx1_12_l Tx1_12_a Tx1_12_b
      have Tg0_13 : Hid (Two w13 w6.heap.size (.int .i64 (stlS s0 z0 s1 z1 a2)) (.slice b6 (stlX s0 z0 s1 z1 a2).length c6)) := Lib.hid (Tg0_12.out.within B13.out (by omega))
      obtain ⟨Tg0_13_l, Tg0_13_a, Tg0_13_b⟩ := Tg0_13.out
      clear Tg0_12 Tg0_12_l Tg0_12_a Tg0_12_b
      have Tg1_13 : Hid (Two w13 (w6.heap.size + 1) (.int .i64 (stlS s0 z0 s1 z1 a2)) (.slice d6 (stlY s0 z0 s1 z1 a2).length e6)) := Lib.hid (Tg1_12.out.within B13.out (by omega))
      obtain ⟨Tg1_13_l, Tg1_13_a, Tg1_13_b⟩ := Tg1_13.out
      clear Tg1_12 Tg1_12_l Tg1_12_a Tg1_12_b
      have Om0_13 : Hid (Row w13 w2.heap.size w3.heap.size b3 (stlX s0 z0 s1 z1 a2).length c3 (stlX s0 z0 s1 z1 a2)) := Lib.hid (Om0_12.out.within B13.out (by omega))
      clear Om0_12
      have Om1_13 : Hid (Row w13 w2.heap.size w3.heap.size d3 (stlY s0 z0 s1 z1 a2).length e3 (stlY s0 z0 s1 z1 a2)) := Lib.hid (Om1_12.out.within B13.out (by omega))
      clear Om1_12
      have Ox1_13 : Hid (Row w13 (w4.heap.size + 1) w5.heap.size b5 z1.length c5 z1) := Lib.hid (Ox1_12.out.within B13.out (by omega))
      clear Ox1_12
      have Og0_13 : Hid (Row w13 (w5.heap.size + 1) m6 b6 (stlX s0 z0 s1 z1 a2).length c6 (stlX s0 z0 s1 z1 a2)) := Lib.hid (Og0_12.out.within B13.out (by omega))
      clear Og0_12
      have Og1_13 : Hid (Row w13 m6 w6.heap.size d6 (stlY s0 z0 s1 z1 a2).length e6 (stlY s0 z0 s1 z1 a2)) := Lib.hid (Og1_12.out.within B13.out (by omega))
      clear Og1_12
      have A13 : Hid (Below w.heap.size w w13) := Lib.hid (Rhy.Below.within A12.out B13.out (by omega) A12.out.size)
      clear A12
      have Ox0_13 : Hid (Row w13 w3.heap.size w4.heap.size b4 z0.length c4 (marks (1) z0.length)) := Lib.hid hown13
      clear hown13 hb13 Ox0_12
      go_wp2_with fail
      refine (mark_rhythm (w4.heap.size + 1) w5.heap.size (1 + z0.length) _ b5 c5 _ _ _ Ox1_13.out (by omega) (by omega)).mono ?_
      rintro e w14 ⟨rfl, hown14, hb14⟩
      have B14 : Hid (Within (w4.heap.size + 1) w5.heap.size w13 w14) := Lib.hid (hb14)
      have B14_size := B14.out.size
      have Ta0_14 : Hid (Two w14 w.heap.size (.int .i64 s0) (.slice a0 len0 cap0)) := Lib.hid (Ta0_13.out.within B14.out (by omega))
      obtain ⟨Ta0_14_l, Ta0_14_a, Ta0_14_b⟩ := Ta0_14.out
      clear Ta0_13 Ta0_13_l Ta0_13_a Ta0_13_b
      have Ta1_14 : Hid (Two w14 (w.heap.size + 1) (.int .i64 s1) (.slice a1 len1 cap1)) := Lib.hid (Ta1_13.out.within B14.out (by omega))
      obtain ⟨Ta1_14_l, Ta1_14_a, Ta1_14_b⟩ := Ta1_14.out
      clear Ta1_13 Ta1_13_l Ta1_13_a Ta1_13_b
      have Tm0_14 : Hid (Two w14 g3 (.int .i64 (stlS s0 z0 s1 z1 a2)) (.slice b3 (stlX s0 z0 s1 z1 a2).length c3)) := Lib.hid (Tm0_13.out.within B14.out (by omega))
      obtain ⟨Tm0_14_l, Tm0_14_a, Tm0_14_b⟩ := Tm0_14.out
      clear Tm0_13 Tm0_13_l Tm0_13_a Tm0_13_b
      have Tm1_14 : Hid (Two w14 h3 (.int .i64 (stlS s0 z0 s1 z1 a2)) (.slice d3 (stlY s0 z0 s1 z1 a2).length e3)) := Lib.hid (Tm1_13.out.within B14.out (by omega))
      obtain ⟨Tm1_14_l, Tm1_14_a, Tm1_14_b⟩ := Tm1_14.out
      clear Tm1_13 Tm1_13_l Tm1_13_a Tm1_13_b
      have Tx0_14 : Hid (Two w14 w4.heap.size (.int .i64 s0) (.slice b4 z0.length c4)) := Lib.hid (Tx0_13.out.within B14.out (by omega))
      obtain ⟨Tx0_14_l, Tx0_14_a, Tx0_14_b⟩ := Tx0_14.out
      clear Tx0_13 Tx0_13_l Tx0_13_a Tx0_13_b
      have Tx1_14 : Hid (Two w14 w5.heap.size (.int .i64 s1) (.slice b5 z1.length c5)) := Lib.hid (Tx1_13.out.within B14.out (by omega))
      obtain ⟨Tx1_14_l, Tx1_14_a, Tx1_14_b⟩ := Tx1_14.out
      clear Tx1_13 Tx1_13_l Tx1_13_a Tx1_13_b
      have Tg0_14 : Hid (Two w14 w6.heap.size (.int .i64 (stlS s0 z0 s1 z1 a2)) (.slice b6 (stlX s0 z0 s1 z1 a2).length c6)) := Lib.hid (Tg0_13.out.within B14.out (by omega))
      obtain ⟨Tg0_14_l, Tg0_14_a, Tg0_14_b⟩ := Tg0_14.out
      clear Tg0_13 Tg0_13_l Tg0_13_a Tg0_13_b
      have Tg1_14 : Hid (Two w14 (w6.heap.size + 1) (.int .i64 (stlS s0 z0 s1 z1 a2)) (.slice d6 (stlY s0 z0 s1 z1 a2).length e6)) := Lib.hid (Tg1_13.out.within B14.out (by omega))
      obtain ⟨Tg1_14_l, Tg1_14_a, Tg1_14_b⟩ := Tg1_14.out
      clear Tg1_13 Tg1_13_l Tg1_13_a Tg1_13_b
      have Om0_14 : Hid (Row w14 w2.heap.size w3.heap.size b3 (stlX s0 z0 s1 z1 a2).length c3 (stlX s0 z0 s1 z1 a2)) := Lib.hid (Om0_13.out.within B14.out (by omega))
      clear Om0_13
      have Om1_14 : Hid (Row w14 w2.heap.size w3.heap.size d3 (stlY s0 z0 s1 z1 a2).length e3 (stlY s0 z0 s1 z1 a2)) := Lib.hid (Om1_13.out.within B14.out (by omega))
      clear Om1_13
      have Ox0_14 : Hid (Row w14 w3.heap.size w4.heap.size b4 z0.length c4 (marks (1) z0.length)) := Lib.hid (Ox0_13.out.within B14.out (by omega))
      clear Ox0_13
      have Og0_14 : Hid (Row w14 (w5.heap.size + 1) m6 b6 (stlX s0 z0 s1 z1 a2).length c6 (stlX s0 z0 s1 z1 a2)) := Lib.hid (Og0_13.out.within B14.out (by omega))
      clear Og0_13
      have Og1_14 : Hid (Row w14 m6 w6.heap.size d6 (stlY s0 z0 s1 z1 a2).length e6 (stlY s0 z0 s1 z1 a2)) := Lib.hid (Og1_13.out.within B14.out (by omega))
      clear Og1_13
      have A14 : Hid (Below w.heap.size w w14) := Lib.hid (Rhy.Below.within A13.out B14.out (by omega) A13.out.size)
      clear A13
      have Ox1_14 : Hid (Row w14 (w4.heap.size + 1) w5.heap.size b5 z1.length c5 (marks (1 + z0.length) z1.length)) := Lib.hid hown14
      clear hown14 hb14 Ox1_13
      go_wp2_with fail
      refine (eq_rhythm _ b6 b3 c6 c3 _ (stlX s0 z0 s1 z1 a2) _ (Og0_14.out.at HX.out) (Om0_14.out.at HX.out) (by omega)).mono ?_
      rintro e w15 ⟨rfl, hb15⟩
      have B15 : Hid (Below w14.heap.size w14 w15) := Lib.hid (hb15)
      have B15_size := B15.out.size
      have Ta0_15 : Hid (Two w15 w.heap.size (.int .i64 s0) (.slice a0 len0 cap0)) := Lib.hid (Ta0_14.out.keep B15.out)
      obtain ⟨Ta0_15_l, Ta0_15_a, Ta0_15_b⟩ := Ta0_15.out
      clear Ta0_14 Ta0_14_l Ta0_14_a Ta0_14_b
      have Ta1_15 : Hid (Two w15 (w.heap.size + 1) (.int .i64 s1) (.slice a1 len1 cap1)) := Lib.hid (Ta1_14.out.keep B15.out)
      obtain ⟨Ta1_15_l, Ta1_15_a, Ta1_15_b⟩ := Ta1_15.out
      clear Ta1_14 Ta1_14_l Ta1_14_a Ta1_14_b
      have Tm0_15 : Hid (Two w15 g3 (.int .i64 (stlS s0 z0 s1 z1 a2)) (.slice b3 (stlX s0 z0 s1 z1 a2).length c3)) := Lib.hid (Tm0_14.out.keep B15.out)
      obtain ⟨Tm0_15_l, Tm0_15_a, Tm0_15_b⟩ := Tm0_15.out
      clear Tm0_14 Tm0_14_l Tm0_14_a Tm0_14_b
      have Tm1_15 : Hid (Two w15 h3 (.int .i64 (stlS s0 z0 s1 z1 a2)) (.slice d3 (stlY s0 z0 s1 z1 a2).length e3)) := Lib.hid (Tm1_14.out.keep B15.out)
      obtain ⟨Tm1_15_l, Tm1_15_a, Tm1_15_b⟩ := Tm1_15.out
      clear Tm1_14 Tm1_14_l Tm1_14_a Tm1_14_b
      have Tx0_15 : Hid (Two w15 w4.heap.size (.int .i64 s0) (.slice b4 z0.length c4)) := Lib.hid (Tx0_14.out.keep B15.out)
      obtain ⟨Tx0_15_l, Tx0_15_a, Tx0_15_b⟩ := Tx0_15.out
      clear Tx0_14 Tx0_14_l Tx0_14_a Tx0_14_b
      have Tx1_15 : Hid (Two w15 w5.heap.size (.int .i64 s1) (.slice b5 z1.length c5)) := Lib.hid (Tx1_14.out.keep B15.out)
      obtain ⟨Tx1_15_l, Tx1_15_a, Tx1_15_b⟩ := Tx1_15.out
      clear Tx1_14 Tx1_14_l Tx1_14_a Tx1_14_b
      have Tg0_15 : Hid (Two w15 w6.heap.size (.int .i64 (stlS s0 z0 s1 z1 a2)) (.slice b6 (stlX s0 z0 s1 z1 a2).length c6)) := Lib.hid (Tg0_14.out.keep B15.out)
      obtain ⟨Tg0_15_l, Tg0_15_a, Tg0_15_b⟩ := Tg0_15.out
      clear Tg0_14 Tg0_14_l Tg0_14_a Tg0_14_b
      have Tg1_15 : Hid (Two w15 (w6.heap.size + 1) (.int .i64 (stlS s0 z0 s1 z1 a2)) (.slice d6 (stlY s0 z0 s1 z1 a2).length e6)) := Lib.hid (Tg1_14.out.keep B15.out)
      obtain ⟨Tg1_15_l, Tg1_15_a, Tg1_15_b⟩ := Tg1_15.out
      clear Tg1_14 Tg1_14_l Tg1_14_a Tg1_14_b
      have Om0_15 : Hid (Row w15 w2.heap.size w3.heap.size b3 (stlX s0 z0 s1 z1 a2).length c3 (stlX s0 z0 s1 z1 a2)) := Lib.hid (Om0_14.out.keep B15.out)
      clear Om0_14
      have Om1_15 : Hid (Row w15 w2.heap.size w3.heap.size d3 (stlY s0 z0 s1 z1 a2).length e3 (stlY s0 z0 s1 z1 a2)) := Lib.hid (Om1_14.out.keep B15.out)
      clear Om1_14
      have Ox0_15 : Hid (Row w15 w3.heap.size w4.heap.size b4 z0.length c4 (marks (1) z0.length)) := Lib.hid (Ox0_14.out.keep B15.out)
      clear Ox0_14
      have Ox1_15 : Hid (Row w15 (w4.heap.size + 1) w5.heap.size b5 z1.length c5 (marks (1 + z0.length) z1.length)) := Lib.hid (Ox1_14.out.keep B15.out)
      clear Ox1_14
      have Og0_15 : Hid (Row w15 (w5.heap.size + 1) m6 b6 (stlX s0 z0 s1 z1 a2).length c6 (stlX s0 z0 s1 z1 a2)) := Lib.hid (Og0_14.out.keep B15.out)
      clear Og0_14
      have Og1_15 : Hid (Row w15 m6 w6.heap.size d6 (stlY s0 z0 s1 z1 a2).length e6 (stlY s0 z0 s1 z1 a2)) := Lib.hid (Og1_14.out.keep B15.out)
      clear Og1_14
      have A15 : Hid (Below w.heap.size w w15) := Lib.hid (A14.out.trans (B15.out.mono A14.out.size))
      clear A14
      clear hb15
      go_wp2_with fail
      refine (eq_rhythm _ d6 d3 e6 e3 _ (stlY s0 z0 s1 z1 a2) _ (Og1_15.out.at HY.out) (Om1_15.out.at HY.out) (by omega)).mono ?_
      rintro e w16 ⟨rfl, hb16⟩
      have B16 : Hid (Below w15.heap.size w15 w16) := Lib.hid (hb16)
      have B16_size := B16.out.size
      have Ta0_16 : Hid (Two w16 w.heap.size (.int .i64 s0) (.slice a0 len0 cap0)) := Lib.hid (Ta0_15.out.keep B16.out)
      obtain ⟨Ta0_16_l, Ta0_16_a, Ta0_16_b⟩ := Ta0_16.out
      clear Ta0_15 Ta0_15_l Ta0_15_a Ta0_15_b
      have Ta1_16 : Hid (Two w16 (w.heap.size + 1) (.int .i64 s1) (.slice a1 len1 cap1)) := Lib.hid (Ta1_15.out.keep B16.out)
      obtain ⟨Ta1_16_l, Ta1_16_a, Ta1_16_b⟩ := Ta1_16.out
      clear Ta1_15 Ta1_15_l Ta1_15_a Ta1_15_b
      have Tm0_16 : Hid (Two w16 g3 (.int .i64 (stlS s0 z0 s1 z1 a2)) (.slice b3 (stlX s0 z0 s1 z1 a2).length c3)) := Lib.hid (Tm0_15.out.keep B16.out)
      obtain ⟨Tm0_16_l, Tm0_16_a, Tm0_16_b⟩ := Tm0_16.out
      clear Tm0_15 Tm0_15_l Tm0_15_a Tm0_15_b
      have Tm1_16 : Hid (Two w16 h3 (.int .i64 (stlS s0 z0 s1 z1 a2)) (.slice d3 (stlY s0 z0 s1 z1 a2).length e3)) := Lib.hid (Tm1_15.out.keep B16.out)
      obtain ⟨Tm1_16_l, Tm1_16_a, Tm1_16_b⟩ := Tm1_16.out
      clear Tm1_15 Tm1_15_l Tm1_15_a Tm1_15_b
      have Tx0_16 : Hid (Two w16 w4.heap.size (.int .i64 s0) (.slice b4 z0.length c4)) := Lib.hid (Tx0_15.out.keep B16.out)
      obtain ⟨Tx0_16_l, Tx0_16_a, Tx0_16_b⟩ := Tx0_16.out
      clear Tx0_15 Tx0_15_l Tx0_15_a Tx0_15_b
      have Tx1_16 : Hid (Two w16 w5.heap.size (.int .i64 s1) (.slice b5 z1.length c5)) := Lib.hid (Tx1_15.out.keep B16.out)
      obtain ⟨Tx1_16_l, Tx1_16_a, Tx1_16_b⟩ := Tx1_16.out
      clear Tx1_15 Tx1_15_l Tx1_15_a Tx1_15_b
      have Tg0_16 : Hid (Two w16 w6.heap.size (.int .i64 (stlS s0 z0 s1 z1 a2)) (.slice b6 (stlX s0 z0 s1 z1 a2).length c6)) := Lib.hid (Tg0_15.out.keep B16.out)
      obtain ⟨Tg0_16_l, Tg0_16_a, Tg0_16_b⟩ := Tg0_16.out
      clear Tg0_15 Tg0_15_l Tg0_15_a Tg0_15_b
      have Tg1_16 : Hid (Two w16 (w6.heap.size + 1) (.int .i64 (stlS s0 z0 s1 z1 a2)) (.slice d6 (stlY s0 z0 s1 z1 a2).length e6)) := Lib.hid (Tg1_15.out.keep B16.out)
      obtain ⟨Tg1_16_l, Tg1_16_a, Tg1_16_b⟩ := Tg1_16.out
      clear Tg1_15 Tg1_15_l Tg1_15_a Tg1_15_b
      have Om0_16 : Hid (Row w16 w2.heap.size w3.heap.size b3 (stlX s0 z0 s1 z1 a2).length c3 (stlX s0 z0 s1 z1 a2)) := Lib.hid (Om0_15.out.keep B16.out)
      clear Om0_15
      have Om1_16 : Hid (Row w16 w2.heap.size w3.heap.size d3 (stlY s0 z0 s1 z1 a2).length e3 (stlY s0 z0 s1 z1 a2)) := Lib.hid (Om1_15.out.keep B16.out)
      clear Om1_15
      have Ox0_16 : Hid (Row w16 w3.heap.size w4.heap.size b4 z0.length c4 (marks (1) z0.length)) := Lib.hid (Ox0_15.out.keep B16.out)
      clear Ox0_15
      have Ox1_16 : Hid (Row w16 (w4.heap.size + 1) w5.heap.size b5 z1.length c5 (marks (1 + z0.length) z1.length)) := Lib.hid (Ox1_15.out.keep B16.out)
      clear Ox1_15
      have Og0_16 : Hid (Row w16 (w5.heap.size + 1) m6 b6 (stlX s0 z0 s1 z1 a2).length c6 (stlX s0 z0 s1 z1 a2)) := Lib.hid (Og0_15.out.keep B16.out)
      clear Og0_15
      have Og1_16 : Hid (Row w16 m6 w6.heap.size d6 (stlY s0 z0 s1 z1 a2).length e6 (stlY s0 z0 s1 z1 a2)) := Lib.hid (Og1_15.out.keep B16.out)
      clear Og1_15
      have A16 : Hid (Below w.heap.size w w16) := Lib.hid (A15.out.trans (B16.out.mono A15.out.size))
      clear A15
      clear hb16
      go_wp2_with fail
      refine (mark_rhythm (w5.heap.size + 1) m6 (1) _ b6 c6 _ _ _ Og0_16.out (by omega) (by omega)).mono ?_
      rintro e w17 ⟨rfl, hown17, hb17⟩
      have B17 : Hid (Within (w5.heap.size + 1) m6 w16 w17) := Lib.hid (hb17)
      have B17_size := B17.out.size
      have Ta0_17 : Hid (Two w17 w.heap.size (.int .i64 s0) (.slice a0 len0 cap0)) := Lib.hid (Ta0_16.out.within B17.out (by omega))
      obtain ⟨Ta0_17_l, Ta0_17_a, Ta0_17_b⟩ := Ta0_17.out
      clear Ta0_16 Ta0_16_l Ta0_16_a Ta0_16_b
      have Ta1_17 : Hid (Two w17 (w.heap.size + 1) (.int .i64 s1) (.slice a1 len1 cap1)) := Lib.hid (Ta1_16.out.within B17.out (by omega))
      obtain ⟨Ta1_17_l, Ta1_17_a, Ta1_17_b⟩ := Ta1_17.out
      clear Ta1_16 Ta1_16_l Ta1_16_a Ta1_16_b
      have Tm0_17 : Hid (Two w17 g3 (.int .i64 (stlS s0 z0 s1 z1 a2)) (.slice b3 (stlX s0 z0 s1 z1 a2).length c3)) := Lib.hid (Tm0_16.out.within B17.out (by omega))
      obtain ⟨Tm0_17_l, Tm0_17_a, Tm0_17_b⟩ := Tm0_17.out
      clear Tm0_16 Tm0_16_l Tm0_16_a Tm0_16_b
      have Tm1_17 : Hid (Two w17 h3 (.int .i64 (stlS s0 z0 s1 z1 a2)) (.slice d3 (stlY s0 z0 s1 z1 a2).length e3)) := Lib.hid (Tm1_16.out.within B17.out (by omega))
      obtain ⟨Tm1_17_l, Tm1_17_a, Tm1_17_b⟩ := Tm1_17.out
      clear Tm1_16 Tm1_16_l Tm1_16_a Tm1_16_b
      have Tx0_17 : Hid (Two w17 w4.heap.size (.int .i64 s0) (.slice b4 z0.length c4)) := Lib.hid (Tx0_16.out.within B17.out (by omega))
      obtain ⟨Tx0_17_l, Tx0_17_a, Tx0_17_b⟩ := Tx0_17.out
      clear Tx0_16 Tx0_16_l Tx0_16_a Tx0_16_b
      have Tx1_17 : Hid (Two w17 w5.heap.size (.int .i64 s1) (.slice b5 z1.length c5)) := Lib.hid (Tx1_16.out.within B17.out (by omega))
      obtain ⟨Tx1_17_l, Tx1_17_a, Tx1_17_b⟩ := Tx1_17.out
      clear Tx1_16 Tx1_16_l Tx1_16_a Tx1_16_b
      have Tg0_17 : Hid (Two w17 w6.heap.size (.int .i64 (stlS s0 z0 s1 z1 a2)) (.slice b6 (stlX s0 z0 s1 z1 a2).length c6)) := Lib.hid (Tg0_16.out.within B17.out (by omega))
      obtain ⟨Tg0_17_l, Tg0_17_a, Tg0_17_b⟩ := Tg0_17.out
      clear Tg0_16 Tg0_16_l Tg0_16_a Tg0_16_b
      have Tg1_17 : Hid (Two w17 (w6.heap.size + 1) (.int .i64 (stlS s0 z0 s1 z1 a2)) (.slice d6 (stlY s0 z0 s1 z1 a2).length e6)) := Lib.hid (Tg1_16.out.within B17.out (by omega))
      obtain ⟨Tg1_17_l, Tg1_17_a, Tg1_17_b⟩ := Tg1_17.out
      clear Tg1_16 Tg1_16_l Tg1_16_a Tg1_16_b
      have Om0_17 : Hid (Row w17 w2.heap.size w3.heap.size b3 (stlX s0 z0 s1 z1 a2).length c3 (stlX s0 z0 s1 z1 a2)) := Lib.hid (Om0_16.out.within B17.out (by omega))
      clear Om0_16
      have Om1_17 : Hid (Row w17 w2.heap.size w3.heap.size d3 (stlY s0 z0 s1 z1 a2).length e3 (stlY s0 z0 s1 z1 a2)) := Lib.hid (Om1_16.out.within B17.out (by omega))
      clear Om1_16
      have Ox0_17 : Hid (Row w17 w3.heap.size w4.heap.size b4 z0.length c4 (marks (1) z0.length)) := Lib.hid (Ox0_16.out.within B17.out (by omega))
      clear Ox0_16
      have Ox1_17 : Hid (Row w17 (w4.heap.size + 1) w5.heap.size b5 z1.length c5 (marks (1 + z0.length) z1.length)) := Lib.hid (Ox1_16.out.within B17.out (by omega))
      clear Ox1_16
      have Og1_17 : Hid (Row w17 m6 w6.heap.size d6 (stlY s0 z0 s1 z1 a2).length e6 (stlY s0 z0 s1 z1 a2)) := Lib.hid (Og1_16.out.within B17.out (by omega))
      clear Og1_16
      have A17 : Hid (Below w.heap.size w w17) := Lib.hid (Rhy.Below.within A16.out B17.out (by omega) A16.out.size)
      clear A16
      have Og0_17 : Hid (Row w17 (w5.heap.size + 1) m6 b6 (stlX s0 z0 s1 z1 a2).length c6 (marks (1) (stlX s0 z0 s1 z1 a2).length)) := Lib.hid hown17
      clear hown17 hb17 Og0_16
      go_wp2_with fail
      refine (mark_rhythm m6 w6.heap.size (1 + (stlX s0 z0 s1 z1 a2).length) _ d6 e6 _ _ _ Og1_17.out (by omega) (by omega)).mono ?_
      rintro e w18 ⟨rfl, hown18, hb18⟩
      have B18 : Hid (Within m6 w6.heap.size w17 w18) := Lib.hid (hb18)
      have B18_size := B18.out.size
      have Ta0_18 : Hid (Two w18 w.heap.size (.int .i64 s0) (.slice a0 len0 cap0)) := Lib.hid (Ta0_17.out.within B18.out (by omega))
      obtain ⟨Ta0_18_l, Ta0_18_a, Ta0_18_b⟩ := Ta0_18.out
      clear Ta0_17 Ta0_17_l Ta0_17_a Ta0_17_b
      have Ta1_18 : Hid (Two w18 (w.heap.size + 1) (.int .i64 s1) (.slice a1 len1 cap1)) := Lib.hid (Ta1_17.out.within B18.out (by omega))
      obtain ⟨Ta1_18_l, Ta1_18_a, Ta1_18_b⟩ := Ta1_18.out
      clear Ta1_17 Ta1_17_l Ta1_17_a Ta1_17_b
      have Tm0_18 : Hid (Two w18 g3 (.int .i64 (stlS s0 z0 s1 z1 a2)) (.slice b3 (stlX s0 z0 s1 z1 a2).length c3)) := Lib.hid (Tm0_17.out.within B18.out (by omega))
      obtain ⟨Tm0_18_l, Tm0_18_a, Tm0_18_b⟩ := Tm0_18.out
      clear Tm0_17 Tm0_17_l Tm0_17_a Tm0_17_b
      have Tm1_18 : Hid (Two w18 h3 (.int .i64 (stlS s0 z0 s1 z1 a2)) (.slice d3 (stlY s0 z0 s1 z1 a2).length e3)) := Lib.hid (Tm1_17.out.within B18.out (by omega))
      obtain ⟨Tm1_18_l, Tm1_18_a, Tm1_18_b⟩ := Tm1_18.out
      clear Tm1_17 Tm1_17_l Tm1_17_a Tm1_17_b
      have Tx0_18 : Hid (Two w18 w4.heap.size (.int .i64 s0) (.slice b4 z0.length c4)) := Lib.hid (Tx0_17.out.within B18.out (by omega))
      obtain ⟨Tx0_18_l, Tx0_18_a, Tx0_18_b⟩ := Tx0_18.out
      clear Tx0_17 Tx0_17_l Tx0_17_a Tx0_17_b
      have Tx1_18 : Hid (Two w18 w5.heap.size (.int .i64 s1) (.slice b5 z1.length c5)) := Lib.hid (Tx1_17.out.within B18.out (by omega))
      obtain ⟨Tx1_18_l, Tx1_18_a, Tx1_18_b⟩ := Tx1_18.out
      clear Tx1_17 Tx1_17_l Tx1_17_a Tx1_17_b
      have Tg0_18 : Hid (Two w18 w6.heap.size (.int .i64 (stlS s0 z0 s1 z1 a2)) (.slice b6 (stlX s0 z0 s1 z1 a2).length c6)) := Lib.hid (Tg0_17.out.within B18.out (by omega))
      obtain ⟨Tg0_18_l, Tg0_18_a, Tg0_18_b⟩ := Tg0_18.out
      clear Tg0_17 Tg0_17_l Tg0_17_a Tg0_17_b
      have Tg1_18 : Hid (Two w18 (w6.heap.size + 1) (.int .i64 (stlS s0 z0 s1 z1 a2)) (.slice d6 (stlY s0 z0 s1 z1 a2).length e6)) := Lib.hid (Tg1_17.out.within B18.out (by omega))
      obtain ⟨Tg1_18_l, Tg1_18_a, Tg1_18_b⟩ := Tg1_18.out
      clear Tg1_17 Tg1_17_l Tg1_17_a Tg1_17_b
      have Om0_18 : Hid (Row w18 w2.heap.size w3.heap.size b3 (stlX s0 z0 s1 z1 a2).length c3 (stlX s0 z0 s1 z1 a2)) := Lib.hid (Om0_17.out.within B18.out (by omega))
      clear Om0_17
      have Om1_18 : Hid (Row w18 w2.heap.size w3.heap.size d3 (stlY s0 z0 s1 z1 a2).length e3 (stlY s0 z0 s1 z1 a2)) := Lib.hid (Om1_17.out.within B18.out (by omega))
      clear Om1_17
      have Ox0_18 : Hid (Row w18 w3.heap.size w4.heap.size b4 z0.length c4 (marks (1) z0.length)) := Lib.hid (Ox0_17.out.within B18.out (by omega))
      clear Ox0_17
      have Ox1_18 : Hid (Row w18 (w4.heap.size + 1) w5.heap.size b5 z1.length c5 (marks (1 + z0.length) z1.length)) := Lib.hid (Ox1_17.out.within B18.out (by omega))
      clear Ox1_17
      have Og0_18 : Hid (Row w18 (w5.heap.size + 1) m6 b6 (stlX s0 z0 s1 z1 a2).length c6 (marks (1) (stlX s0 z0 s1 z1 a2).length)) := Lib.hid (Og0_17.out.within B18.out (by omega))
      clear Og0_17
      have A18 : Hid (Below w.heap.size w w18) := Lib.hid (Rhy.Below.within A17.out B18.out (by omega) A17.out.size)
      clear A17
      have Og1_18 : Hid (Row w18 m6 w6.heap.size d6 (stlY s0 z0 s1 z1 a2).length e6 (marks (1 + (stlX s0 z0 s1 z1 a2).length) (stlY s0 z0 s1 z1 a2).length)) := Lib.hid hown18
      clear hown18 hb18 Og1_17
      go_wp2_with fail
      refine (held_rhythm (1) _ b6 c6 (stlX s0 z0 s1 z1 a2).length _ (Og0_18.out.at (marks_int _ _ (by omega))) (by omega) (by omega)).mono ?_
      rintro e w19 ⟨rfl, hb19⟩
      have B19 : Hid (Below w18.heap.size w18 w19) := Lib.hid (hb19)
      have B19_size := B19.out.size
      have Ta0_19 : Hid (Two w19 w.heap.size (.int .i64 s0) (.slice a0 len0 cap0)) := Lib.hid (Ta0_18.out.keep B19.out)
      obtain ⟨Ta0_19_l, Ta0_19_a, Ta0_19_b⟩ := Ta0_19.out
      clear Ta0_18 Ta0_18_l Ta0_18_a Ta0_18_b
      have Ta1_19 : Hid (Two w19 (w.heap.size + 1) (.int .i64 s1) (.slice a1 len1 cap1)) := Lib.hid (Ta1_18.out.keep B19.out)
      obtain ⟨Ta1_19_l, Ta1_19_a, Ta1_19_b⟩ := Ta1_19.out
      clear Ta1_18 Ta1_18_l Ta1_18_a Ta1_18_b
      have Tm0_19 : Hid (Two w19 g3 (.int .i64 (stlS s0 z0 s1 z1 a2)) (.slice b3 (stlX s0 z0 s1 z1 a2).length c3)) := Lib.hid (Tm0_18.out.keep B19.out)
      obtain ⟨Tm0_19_l, Tm0_19_a, Tm0_19_b⟩ := Tm0_19.out
      clear Tm0_18 Tm0_18_l Tm0_18_a Tm0_18_b
      have Tm1_19 : Hid (Two w19 h3 (.int .i64 (stlS s0 z0 s1 z1 a2)) (.slice d3 (stlY s0 z0 s1 z1 a2).length e3)) := Lib.hid (Tm1_18.out.keep B19.out)
      obtain ⟨Tm1_19_l, Tm1_19_a, Tm1_19_b⟩ := Tm1_19.out
      clear Tm1_18 Tm1_18_l Tm1_18_a Tm1_18_b
      have Tx0_19 : Hid (Two w19 w4.heap.size (.int .i64 s0) (.slice b4 z0.length c4)) := Lib.hid (Tx0_18.out.keep B19.out)
      obtain ⟨Tx0_19_l, Tx0_19_a, Tx0_19_b⟩ := Tx0_19.out
      clear Tx0_18 Tx0_18_l Tx0_18_a Tx0_18_b
      have Tx1_19 : Hid (Two w19 w5.heap.size (.int .i64 s1) (.slice b5 z1.length c5)) := Lib.hid (Tx1_18.out.keep B19.out)
      obtain ⟨Tx1_19_l, Tx1_19_a, Tx1_19_b⟩ := Tx1_19.out
      clear Tx1_18 Tx1_18_l Tx1_18_a Tx1_18_b
      have Tg0_19 : Hid (Two w19 w6.heap.size (.int .i64 (stlS s0 z0 s1 z1 a2)) (.slice b6 (stlX s0 z0 s1 z1 a2).length c6)) := Lib.hid (Tg0_18.out.keep B19.out)
      obtain ⟨Tg0_19_l, Tg0_19_a, Tg0_19_b⟩ := Tg0_19.out
      clear Tg0_18 Tg0_18_l Tg0_18_a Tg0_18_b
      have Tg1_19 : Hid (Two w19 (w6.heap.size + 1) (.int .i64 (stlS s0 z0 s1 z1 a2)) (.slice d6 (stlY s0 z0 s1 z1 a2).length e6)) := Lib.hid (Tg1_18.out.keep B19.out)
      obtain ⟨Tg1_19_l, Tg1_19_a, Tg1_19_b⟩ := Tg1_19.out
      clear Tg1_18 Tg1_18_l Tg1_18_a Tg1_18_b
      have Om0_19 : Hid (Row w19 w2.heap.size w3.heap.size b3 (stlX s0 z0 s1 z1 a2).length c3 (stlX s0 z0 s1 z1 a2)) := Lib.hid (Om0_18.out.keep B19.out)
      clear Om0_18
      have Om1_19 : Hid (Row w19 w2.heap.size w3.heap.size d3 (stlY s0 z0 s1 z1 a2).length e3 (stlY s0 z0 s1 z1 a2)) := Lib.hid (Om1_18.out.keep B19.out)
      clear Om1_18
      have Ox0_19 : Hid (Row w19 w3.heap.size w4.heap.size b4 z0.length c4 (marks (1) z0.length)) := Lib.hid (Ox0_18.out.keep B19.out)
      clear Ox0_18
      have Ox1_19 : Hid (Row w19 (w4.heap.size + 1) w5.heap.size b5 z1.length c5 (marks (1 + z0.length) z1.length)) := Lib.hid (Ox1_18.out.keep B19.out)
      clear Ox1_18
      have Og0_19 : Hid (Row w19 (w5.heap.size + 1) m6 b6 (stlX s0 z0 s1 z1 a2).length c6 (marks (1) (stlX s0 z0 s1 z1 a2).length)) := Lib.hid (Og0_18.out.keep B19.out)
      clear Og0_18
      have Og1_19 : Hid (Row w19 m6 w6.heap.size d6 (stlY s0 z0 s1 z1 a2).length e6 (marks (1 + (stlX s0 z0 s1 z1 a2).length) (stlY s0 z0 s1 z1 a2).length)) := Lib.hid (Og1_18.out.keep B19.out)
      clear Og1_18
      have A19 : Hid (Below w.heap.size w w19) := Lib.hid (A18.out.trans (B19.out.mono A18.out.size))
      clear A18
      clear hb19
      go_wp2_with fail
      refine (held_rhythm (1 + (stlX s0 z0 s1 z1 a2).length) _ d6 e6 (stlY s0 z0 s1 z1 a2).length _ (Og1_19.out.at (marks_int _ _ (by omega))) (by omega) (by omega)).mono ?_
      rintro e w20 ⟨rfl, hb20⟩
      have B20 : Hid (Below w19.heap.size w19 w20) := Lib.hid (hb20)
      have B20_size := B20.out.size
      have Ta0_20 : Hid (Two w20 w.heap.size (.int .i64 s0) (.slice a0 len0 cap0)) := Lib.hid (Ta0_19.out.keep B20.out)
      obtain ⟨Ta0_20_l, Ta0_20_a, Ta0_20_b⟩ := Ta0_20.out
      clear Ta0_19 Ta0_19_l Ta0_19_a Ta0_19_b
      have Ta1_20 : Hid (Two w20 (w.heap.size + 1) (.int .i64 s1) (.slice a1 len1 cap1)) := Lib.hid (Ta1_19.out.keep B20.out)
      obtain ⟨Ta1_20_l, Ta1_20_a, Ta1_20_b⟩ := Ta1_20.out
      clear Ta1_19 Ta1_19_l Ta1_19_a Ta1_19_b
      have Tm0_20 : Hid (Two w20 g3 (.int .i64 (stlS s0 z0 s1 z1 a2)) (.slice b3 (stlX s0 z0 s1 z1 a2).length c3)) := Lib.hid (Tm0_19.out.keep B20.out)
      obtain ⟨Tm0_20_l, Tm0_20_a, Tm0_20_b⟩ := Tm0_20.out
      clear Tm0_19 Tm0_19_l Tm0_19_a Tm0_19_b
      have Tm1_20 : Hid (Two w20 h3 (.int .i64 (stlS s0 z0 s1 z1 a2)) (.slice d3 (stlY s0 z0 s1 z1 a2).length e3)) := Lib.hid (Tm1_19.out.keep B20.out)
      obtain ⟨Tm1_20_l, Tm1_20_a, Tm1_20_b⟩ := Tm1_20.out
      clear Tm1_19 Tm1_19_l Tm1_19_a Tm1_19_b
      have Tx0_20 : Hid (Two w20 w4.heap.size (.int .i64 s0) (.slice b4 z0.length c4)) := Lib.hid (Tx0_19.out.keep B20.out)
      obtain ⟨Tx0_20_l, Tx0_20_a, Tx0_20_b⟩ := Tx0_20.out
      clear Tx0_19 Tx0_19_l Tx0_19_a Tx0_19_b
      have Tx1_20 : Hid (Two w20 w5.heap.size (.int .i64 s1) (.slice b5 z1.length c5)) := Lib.hid (Tx1_19.out.keep B20.out)
      obtain ⟨Tx1_20_l, Tx1_20_a, Tx1_20_b⟩ := Tx1_20.out
      clear Tx1_19 Tx1_19_l Tx1_19_a Tx1_19_b
      have Tg0_20 : Hid (Two w20 w6.heap.size (.int .i64 (stlS s0 z0 s1 z1 a2)) (.slice b6 (stlX s0 z0 s1 z1 a2).length c6)) := Lib.hid (Tg0_19.out.keep B20.out)
      obtain ⟨Tg0_20_l, Tg0_20_a, Tg0_20_b⟩ := Tg0_20.out
      clear Tg0_19 Tg0_19_l Tg0_19_a Tg0_19_b
      have Tg1_20 : Hid (Two w20 (w6.heap.size + 1) (.int .i64 (stlS s0 z0 s1 z1 a2)) (.slice d6 (stlY s0 z0 s1 z1 a2).length e6)) := Lib.hid (Tg1_19.out.keep B20.out)
      obtain ⟨Tg1_20_l, Tg1_20_a, Tg1_20_b⟩ := Tg1_20.out
      clear Tg1_19 Tg1_19_l Tg1_19_a Tg1_19_b
      have Om0_20 : Hid (Row w20 w2.heap.size w3.heap.size b3 (stlX s0 z0 s1 z1 a2).length c3 (stlX s0 z0 s1 z1 a2)) := Lib.hid (Om0_19.out.keep B20.out)
      clear Om0_19
      have Om1_20 : Hid (Row w20 w2.heap.size w3.heap.size d3 (stlY s0 z0 s1 z1 a2).length e3 (stlY s0 z0 s1 z1 a2)) := Lib.hid (Om1_19.out.keep B20.out)
      clear Om1_19
      have Ox0_20 : Hid (Row w20 w3.heap.size w4.heap.size b4 z0.length c4 (marks (1) z0.length)) := Lib.hid (Ox0_19.out.keep B20.out)
      clear Ox0_19
      have Ox1_20 : Hid (Row w20 (w4.heap.size + 1) w5.heap.size b5 z1.length c5 (marks (1 + z0.length) z1.length)) := Lib.hid (Ox1_19.out.keep B20.out)
      clear Ox1_19
      have Og0_20 : Hid (Row w20 (w5.heap.size + 1) m6 b6 (stlX s0 z0 s1 z1 a2).length c6 (marks (1) (stlX s0 z0 s1 z1 a2).length)) := Lib.hid (Og0_19.out.keep B20.out)
      clear Og0_19
      have Og1_20 : Hid (Row w20 m6 w6.heap.size d6 (stlY s0 z0 s1 z1 a2).length e6 (marks (1 + (stlX s0 z0 s1 z1 a2).length) (stlY s0 z0 s1 z1 a2).length)) := Lib.hid (Og1_19.out.keep B20.out)
      clear Og1_19
      have A20 : Hid (Below w.heap.size w w20) := Lib.hid (A19.out.trans (B20.out.mono A19.out.size))
      clear A19
      clear hb20
      go_upto_region 35 with fail
      refine wp_code (c' := rgOf Try.f13 35) (by kernel_rfl) ?_
      refine stl35 _ _ s0 a0 len0 cap0 z0 s1 a1 len1 cap1 z1 a2 (stlS s0 z0 s1 z1 a2) (stlX s0 z0 s1 z1 a2) (stlY s0 z0 s1 z1 a2) (stlB s0 z0 s1 z1 a2) w w20 Ta0_20.out Ta1_20.out (HS0.out.below A20.out) (HS1.out.below A20.out) le0 le1 HS0.out.int HS1.out.int (fun p0 c0 p1 c1 W h0 h1 => st_impl s0 p0 z0.length c0 z0 s1 p1 z1.length c1 z1 a2 W h0 lz0 h1 lz1 kl2 ku2) ?_
      intro x0 x1 x2 x3 x4 x5 x6 x7 x8 x9 g21 h21 b21 d21 c21 e21 w21 ht21 hu21 hr21 hs21 hb21
      have Oh0_21 : Hid (Row w21 w20.heap.size w21.heap.size b21 (stlX s0 z0 s1 z1 a2).length c21 (stlX s0 z0 s1 z1 a2)) := Lib.hid hr21
      have Oh1_21 : Hid (Row w21 w20.heap.size w21.heap.size d21 (stlY s0 z0 s1 z1 a2).length e21 (stlY s0 z0 s1 z1 a2)) := Lib.hid hs21
      have Th0_21 : Hid (Two w21 g21 (.int .i64 (stlS s0 z0 s1 z1 a2)) (.slice b21 (stlX s0 z0 s1 z1 a2).length c21)) := Lib.hid ht21
      have Th1_21 : Hid (Two w21 h21 (.int .i64 (stlS s0 z0 s1 z1 a2)) (.slice d21 (stlY s0 z0 s1 z1 a2).length e21)) := Lib.hid hu21
      have B21 : Hid (Below w20.heap.size w20 w21) := Lib.hid (hb21)
      have B21_size := B21.out.size
      have Ta0_21 : Hid (Two w21 w.heap.size (.int .i64 s0) (.slice a0 len0 cap0)) := Lib.hid (Ta0_20.out.keep B21.out)
      obtain ⟨Ta0_21_l, Ta0_21_a, Ta0_21_b⟩ := Ta0_21.out
      clear Ta0_20 Ta0_20_l Ta0_20_a Ta0_20_b
      have Ta1_21 : Hid (Two w21 (w.heap.size + 1) (.int .i64 s1) (.slice a1 len1 cap1)) := Lib.hid (Ta1_20.out.keep B21.out)
      obtain ⟨Ta1_21_l, Ta1_21_a, Ta1_21_b⟩ := Ta1_21.out
      clear Ta1_20 Ta1_20_l Ta1_20_a Ta1_20_b
      have Tm0_21 : Hid (Two w21 g3 (.int .i64 (stlS s0 z0 s1 z1 a2)) (.slice b3 (stlX s0 z0 s1 z1 a2).length c3)) := Lib.hid (Tm0_20.out.keep B21.out)
      obtain ⟨Tm0_21_l, Tm0_21_a, Tm0_21_b⟩ := Tm0_21.out
      clear Tm0_20 Tm0_20_l Tm0_20_a Tm0_20_b
      have Tm1_21 : Hid (Two w21 h3 (.int .i64 (stlS s0 z0 s1 z1 a2)) (.slice d3 (stlY s0 z0 s1 z1 a2).length e3)) := Lib.hid (Tm1_20.out.keep B21.out)
      obtain ⟨Tm1_21_l, Tm1_21_a, Tm1_21_b⟩ := Tm1_21.out
      clear Tm1_20 Tm1_20_l Tm1_20_a Tm1_20_b
      have Tx0_21 : Hid (Two w21 w4.heap.size (.int .i64 s0) (.slice b4 z0.length c4)) := Lib.hid (Tx0_20.out.keep B21.out)
      obtain ⟨Tx0_21_l, Tx0_21_a, Tx0_21_b⟩ := Tx0_21.out
      clear Tx0_20 Tx0_20_l Tx0_20_a Tx0_20_b
      have Tx1_21 : Hid (Two w21 w5.heap.size (.int .i64 s1) (.slice b5 z1.length c5)) := Lib.hid (Tx1_20.out.keep B21.out)
      obtain ⟨Tx1_21_l, Tx1_21_a, Tx1_21_b⟩ := Tx1_21.out
      clear Tx1_20 Tx1_20_l Tx1_20_a Tx1_20_b
      have Tg0_21 : Hid (Two w21 w6.heap.size (.int .i64 (stlS s0 z0 s1 z1 a2)) (.slice b6 (stlX s0 z0 s1 z1 a2).length c6)) := Lib.hid (Tg0_20.out.keep B21.out)
      obtain ⟨Tg0_21_l, Tg0_21_a, Tg0_21_b⟩ := Tg0_21.out
      clear Tg0_20 Tg0_20_l Tg0_20_a Tg0_20_b
      have Tg1_21 : Hid (Two w21 (w6.heap.size + 1) (.int .i64 (stlS s0 z0 s1 z1 a2)) (.slice d6 (stlY s0 z0 s1 z1 a2).length e6)) := Lib.hid (Tg1_20.out.keep B21.out)
      obtain ⟨Tg1_21_l, Tg1_21_a, Tg1_21_b⟩ := Tg1_21.out
      clear Tg1_20 Tg1_20_l Tg1_20_a Tg1_20_b
      have Om0_21 : Hid (Row w21 w2.heap.size w3.heap.size b3 (stlX s0 z0 s1 z1 a2).length c3 (stlX s0 z0 s1 z1 a2)) := Lib.hid (Om0_20.out.keep B21.out)
      clear Om0_20
      have Om1_21 : Hid (Row w21 w2.heap.size w3.heap.size d3 (stlY s0 z0 s1 z1 a2).length e3 (stlY s0 z0 s1 z1 a2)) := Lib.hid (Om1_20.out.keep B21.out)
      clear Om1_20
      have Ox0_21 : Hid (Row w21 w3.heap.size w4.heap.size b4 z0.length c4 (marks (1) z0.length)) := Lib.hid (Ox0_20.out.keep B21.out)
      clear Ox0_20
      have Ox1_21 : Hid (Row w21 (w4.heap.size + 1) w5.heap.size b5 z1.length c5 (marks (1 + z0.length) z1.length)) := Lib.hid (Ox1_20.out.keep B21.out)
      clear Ox1_20
      have Og0_21 : Hid (Row w21 (w5.heap.size + 1) m6 b6 (stlX s0 z0 s1 z1 a2).length c6 (marks (1) (stlX s0 z0 s1 z1 a2).length)) := Lib.hid (Og0_20.out.keep B21.out)
      clear Og0_20
      have Og1_21 : Hid (Row w21 m6 w6.heap.size d6 (stlY s0 z0 s1 z1 a2).length e6 (marks (1 + (stlX s0 z0 s1 z1 a2).length) (stlY s0 z0 s1 z1 a2).length)) := Lib.hid (Og1_20.out.keep B21.out)
      clear Og1_20
      have A21 : Hid (Below w.heap.size w w21) := Lib.hid (A20.out.trans (B21.out.mono A20.out.size))
      clear A20
      have g21_lt := Th0_21.out.1
      obtain ⟨Th0_21_l, Th0_21_a, Th0_21_b⟩ := Th0_21.out
      have h21_lt := Th1_21.out.1
      obtain ⟨Th1_21_l, Th1_21_a, Th1_21_b⟩ := Th1_21.out
      clear ht21 hu21 hr21 hs21 hb21
      go_wp2_with fail
      refine (eq_rhythm _ b21 b3 c21 c3 _ (stlX s0 z0 s1 z1 a2) _ (Oh0_21.out.at HX.out) (Om0_21.out.at HX.out) (by omega)).mono ?_
      rintro e w22 ⟨rfl, hb22⟩
      have B22 : Hid (Below w21.heap.size w21 w22) := Lib.hid (hb22)
      have B22_size := B22.out.size
      have Ta0_22 : Hid (Two w22 w.heap.size (.int .i64 s0) (.slice a0 len0 cap0)) := Lib.hid (Ta0_21.out.keep B22.out)
      obtain ⟨Ta0_22_l, Ta0_22_a, Ta0_22_b⟩ := Ta0_22.out
      clear Ta0_21 Ta0_21_l Ta0_21_a Ta0_21_b
      have Ta1_22 : Hid (Two w22 (w.heap.size + 1) (.int .i64 s1) (.slice a1 len1 cap1)) := Lib.hid (Ta1_21.out.keep B22.out)
      obtain ⟨Ta1_22_l, Ta1_22_a, Ta1_22_b⟩ := Ta1_22.out
      clear Ta1_21 Ta1_21_l Ta1_21_a Ta1_21_b
      have Tm0_22 : Hid (Two w22 g3 (.int .i64 (stlS s0 z0 s1 z1 a2)) (.slice b3 (stlX s0 z0 s1 z1 a2).length c3)) := Lib.hid (Tm0_21.out.keep B22.out)
      obtain ⟨Tm0_22_l, Tm0_22_a, Tm0_22_b⟩ := Tm0_22.out
      clear Tm0_21 Tm0_21_l Tm0_21_a Tm0_21_b
      have Tm1_22 : Hid (Two w22 h3 (.int .i64 (stlS s0 z0 s1 z1 a2)) (.slice d3 (stlY s0 z0 s1 z1 a2).length e3)) := Lib.hid (Tm1_21.out.keep B22.out)
      obtain ⟨Tm1_22_l, Tm1_22_a, Tm1_22_b⟩ := Tm1_22.out
      clear Tm1_21 Tm1_21_l Tm1_21_a Tm1_21_b
      have Tx0_22 : Hid (Two w22 w4.heap.size (.int .i64 s0) (.slice b4 z0.length c4)) := Lib.hid (Tx0_21.out.keep B22.out)
      obtain ⟨Tx0_22_l, Tx0_22_a, Tx0_22_b⟩ := Tx0_22.out
      clear Tx0_21 Tx0_21_l Tx0_21_a Tx0_21_b
      have Tx1_22 : Hid (Two w22 w5.heap.size (.int .i64 s1) (.slice b5 z1.length c5)) := Lib.hid (Tx1_21.out.keep B22.out)
      obtain ⟨Tx1_22_l, Tx1_22_a, Tx1_22_b⟩ := Tx1_22.out
      clear Tx1_21 Tx1_21_l Tx1_21_a Tx1_21_b
      have Tg0_22 : Hid (Two w22 w6.heap.size (.int .i64 (stlS s0 z0 s1 z1 a2)) (.slice b6 (stlX s0 z0 s1 z1 a2).length c6)) := Lib.hid (Tg0_21.out.keep B22.out)
      obtain ⟨Tg0_22_l, Tg0_22_a, Tg0_22_b⟩ := Tg0_22.out
      clear Tg0_21 Tg0_21_l Tg0_21_a Tg0_21_b
      have Tg1_22 : Hid (Two w22 (w6.heap.size + 1) (.int .i64 (stlS s0 z0 s1 z1 a2)) (.slice d6 (stlY s0 z0 s1 z1 a2).length e6)) := Lib.hid (Tg1_21.out.keep B22.out)
      obtain ⟨Tg1_22_l, Tg1_22_a, Tg1_22_b⟩ := Tg1_22.out
      clear Tg1_21 Tg1_21_l Tg1_21_a Tg1_21_b
      have Th0_22 : Hid (Two w22 g21 (.int .i64 (stlS s0 z0 s1 z1 a2)) (.slice b21 (stlX s0 z0 s1 z1 a2).length c21)) := Lib.hid (Th0_21.out.keep B22.out)
      obtain ⟨Th0_22_l, Th0_22_a, Th0_22_b⟩ := Th0_22.out
      clear Th0_21 Th0_21_l Th0_21_a Th0_21_b
      have Th1_22 : Hid (Two w22 h21 (.int .i64 (stlS s0 z0 s1 z1 a2)) (.slice d21 (stlY s0 z0 s1 z1 a2).length e21)) := Lib.hid (Th1_21.out.keep B22.out)
      obtain ⟨Th1_22_l, Th1_22_a, Th1_22_b⟩ := Th1_22.out
      clear Th1_21 Th1_21_l Th1_21_a Th1_21_b
      have Om0_22 : Hid (Row w22 w2.heap.size w3.heap.size b3 (stlX s0 z0 s1 z1 a2).length c3 (stlX s0 z0 s1 z1 a2)) := Lib.hid (Om0_21.out.keep B22.out)
      clear Om0_21
      have Om1_22 : Hid (Row w22 w2.heap.size w3.heap.size d3 (stlY s0 z0 s1 z1 a2).length e3 (stlY s0 z0 s1 z1 a2)) := Lib.hid (Om1_21.out.keep B22.out)
      clear Om1_21
      have Ox0_22 : Hid (Row w22 w3.heap.size w4.heap.size b4 z0.length c4 (marks (1) z0.length)) := Lib.hid (Ox0_21.out.keep B22.out)
      clear Ox0_21
      have Ox1_22 : Hid (Row w22 (w4.heap.size + 1) w5.heap.size b5 z1.length c5 (marks (1 + z0.length) z1.length)) := Lib.hid (Ox1_21.out.keep B22.out)
      clear Ox1_21
      have Og0_22 : Hid (Row w22 (w5.heap.size + 1) m6 b6 (stlX s0 z0 s1 z1 a2).length c6 (marks (1) (stlX s0 z0 s1 z1 a2).length)) := Lib.hid (Og0_21.out.keep B22.out)
      clear Og0_21
      have Og1_22 : Hid (Row w22 m6 w6.heap.size d6 (stlY s0 z0 s1 z1 a2).length e6 (marks (1 + (stlX s0 z0 s1 z1 a2).length) (stlY s0 z0 s1 z1 a2).length)) := Lib.hid (Og1_21.out.keep B22.out)
      clear Og1_21
      have Oh0_22 : Hid (Row w22 w20.heap.size w21.heap.size b21 (stlX s0 z0 s1 z1 a2).length c21 (stlX s0 z0 s1 z1 a2)) := Lib.hid (Oh0_21.out.keep B22.out)
      clear Oh0_21
      have Oh1_22 : Hid (Row w22 w20.heap.size w21.heap.size d21 (stlY s0 z0 s1 z1 a2).length e21 (stlY s0 z0 s1 z1 a2)) := Lib.hid (Oh1_21.out.keep B22.out)
      clear Oh1_21
      have A22 : Hid (Below w.heap.size w w22) := Lib.hid (A21.out.trans (B22.out.mono A21.out.size))
      clear A21
      clear hb22
      go_wp2_with fail
      refine (eq_rhythm _ d21 d3 e21 e3 _ (stlY s0 z0 s1 z1 a2) _ (Oh1_22.out.at HY.out) (Om1_22.out.at HY.out) (by omega)).mono ?_
      rintro e w23 ⟨rfl, hb23⟩
      have B23 : Hid (Below w22.heap.size w22 w23) := Lib.hid (hb23)
      have B23_size := B23.out.size
      have Ta0_23 : Hid (Two w23 w.heap.size (.int .i64 s0) (.slice a0 len0 cap0)) := Lib.hid (Ta0_22.out.keep B23.out)
      obtain ⟨Ta0_23_l, Ta0_23_a, Ta0_23_b⟩ := Ta0_23.out
      clear Ta0_22 Ta0_22_l Ta0_22_a Ta0_22_b
      have Ta1_23 : Hid (Two w23 (w.heap.size + 1) (.int .i64 s1) (.slice a1 len1 cap1)) := Lib.hid (Ta1_22.out.keep B23.out)
      obtain ⟨Ta1_23_l, Ta1_23_a, Ta1_23_b⟩ := Ta1_23.out
      clear Ta1_22 Ta1_22_l Ta1_22_a Ta1_22_b
      have Tm0_23 : Hid (Two w23 g3 (.int .i64 (stlS s0 z0 s1 z1 a2)) (.slice b3 (stlX s0 z0 s1 z1 a2).length c3)) := Lib.hid (Tm0_22.out.keep B23.out)
      obtain ⟨Tm0_23_l, Tm0_23_a, Tm0_23_b⟩ := Tm0_23.out
      clear Tm0_22 Tm0_22_l Tm0_22_a Tm0_22_b
      have Tm1_23 : Hid (Two w23 h3 (.int .i64 (stlS s0 z0 s1 z1 a2)) (.slice d3 (stlY s0 z0 s1 z1 a2).length e3)) := Lib.hid (Tm1_22.out.keep B23.out)
      obtain ⟨Tm1_23_l, Tm1_23_a, Tm1_23_b⟩ := Tm1_23.out
      clear Tm1_22 Tm1_22_l Tm1_22_a Tm1_22_b
      have Tx0_23 : Hid (Two w23 w4.heap.size (.int .i64 s0) (.slice b4 z0.length c4)) := Lib.hid (Tx0_22.out.keep B23.out)
      obtain ⟨Tx0_23_l, Tx0_23_a, Tx0_23_b⟩ := Tx0_23.out
      clear Tx0_22 Tx0_22_l Tx0_22_a Tx0_22_b
      have Tx1_23 : Hid (Two w23 w5.heap.size (.int .i64 s1) (.slice b5 z1.length c5)) := Lib.hid (Tx1_22.out.keep B23.out)
      obtain ⟨Tx1_23_l, Tx1_23_a, Tx1_23_b⟩ := Tx1_23.out
      clear Tx1_22 Tx1_22_l Tx1_22_a Tx1_22_b
      have Tg0_23 : Hid (Two w23 w6.heap.size (.int .i64 (stlS s0 z0 s1 z1 a2)) (.slice b6 (stlX s0 z0 s1 z1 a2).length c6)) := Lib.hid (Tg0_22.out.keep B23.out)
      obtain ⟨Tg0_23_l, Tg0_23_a, Tg0_23_b⟩ := Tg0_23.out
      clear Tg0_22 Tg0_22_l Tg0_22_a Tg0_22_b
      have Tg1_23 : Hid (Two w23 (w6.heap.size + 1) (.int .i64 (stlS s0 z0 s1 z1 a2)) (.slice d6 (stlY s0 z0 s1 z1 a2).length e6)) := Lib.hid (Tg1_22.out.keep B23.out)
      obtain ⟨Tg1_23_l, Tg1_23_a, Tg1_23_b⟩ := Tg1_23.out
      clear Tg1_22 Tg1_22_l Tg1_22_a Tg1_22_b
      have Th0_23 : Hid (Two w23 g21 (.int .i64 (stlS s0 z0 s1 z1 a2)) (.slice b21 (stlX s0 z0 s1 z1 a2).length c21)) := Lib.hid (Th0_22.out.keep B23.out)
      obtain ⟨Th0_23_l, Th0_23_a, Th0_23_b⟩ := Th0_23.out
      clear Th0_22 Th0_22_l Th0_22_a Th0_22_b
      have Th1_23 : Hid (Two w23 h21 (.int .i64 (stlS s0 z0 s1 z1 a2)) (.slice d21 (stlY s0 z0 s1 z1 a2).length e21)) := Lib.hid (Th1_22.out.keep B23.out)
      obtain ⟨Th1_23_l, Th1_23_a, Th1_23_b⟩ := Th1_23.out
      clear Th1_22 Th1_22_l Th1_22_a Th1_22_b
      have Om0_23 : Hid (Row w23 w2.heap.size w3.heap.size b3 (stlX s0 z0 s1 z1 a2).length c3 (stlX s0 z0 s1 z1 a2)) := Lib.hid (Om0_22.out.keep B23.out)
      clear Om0_22
      have Om1_23 : Hid (Row w23 w2.heap.size w3.heap.size d3 (stlY s0 z0 s1 z1 a2).length e3 (stlY s0 z0 s1 z1 a2)) := Lib.hid (Om1_22.out.keep B23.out)
      clear Om1_22
      have Ox0_23 : Hid (Row w23 w3.heap.size w4.heap.size b4 z0.length c4 (marks (1) z0.length)) := Lib.hid (Ox0_22.out.keep B23.out)
      clear Ox0_22
      have Ox1_23 : Hid (Row w23 (w4.heap.size + 1) w5.heap.size b5 z1.length c5 (marks (1 + z0.length) z1.length)) := Lib.hid (Ox1_22.out.keep B23.out)
      clear Ox1_22
      have Og0_23 : Hid (Row w23 (w5.heap.size + 1) m6 b6 (stlX s0 z0 s1 z1 a2).length c6 (marks (1) (stlX s0 z0 s1 z1 a2).length)) := Lib.hid (Og0_22.out.keep B23.out)
      clear Og0_22
      have Og1_23 : Hid (Row w23 m6 w6.heap.size d6 (stlY s0 z0 s1 z1 a2).length e6 (marks (1 + (stlX s0 z0 s1 z1 a2).length) (stlY s0 z0 s1 z1 a2).length)) := Lib.hid (Og1_22.out.keep B23.out)
      clear Og1_22
      have Oh0_23 : Hid (Row w23 w20.heap.size w21.heap.size b21 (stlX s0 z0 s1 z1 a2).length c21 (stlX s0 z0 s1 z1 a2)) := Lib.hid (Oh0_22.out.keep B23.out)
      clear Oh0_22
      have Oh1_23 : Hid (Row w23 w20.heap.size w21.heap.size d21 (stlY s0 z0 s1 z1 a2).length e21 (stlY s0 z0 s1 z1 a2)) := Lib.hid (Oh1_22.out.keep B23.out)
      clear Oh1_22
      have A23 : Hid (Below w.heap.size w w23) := Lib.hid (A22.out.trans (B23.out.mono A22.out.size))
      clear A22
      clear hb23
      go_wp2_with fail
      refine (held_rhythm (1) _ b6 c6 (stlX s0 z0 s1 z1 a2).length _ (Og0_23.out.at (marks_int _ _ (by omega))) (by omega) (by omega)).mono ?_
      rintro e w24 ⟨rfl, hb24⟩
      have B24 : Hid (Below w23.heap.size w23 w24) := Lib.hid (hb24)
      have B24_size := B24.out.size
      have Ta0_24 : Hid (Two w24 w.heap.size (.int .i64 s0) (.slice a0 len0 cap0)) := Lib.hid (Ta0_23.out.keep B24.out)
      obtain ⟨Ta0_24_l, Ta0_24_a, Ta0_24_b⟩ := Ta0_24.out
      clear Ta0_23 Ta0_23_l Ta0_23_a Ta0_23_b
      have Ta1_24 : Hid (Two w24 (w.heap.size + 1) (.int .i64 s1) (.slice a1 len1 cap1)) := Lib.hid (Ta1_23.out.keep B24.out)
      obtain ⟨Ta1_24_l, Ta1_24_a, Ta1_24_b⟩ := Ta1_24.out
      clear Ta1_23 Ta1_23_l Ta1_23_a Ta1_23_b
      have Tm0_24 : Hid (Two w24 g3 (.int .i64 (stlS s0 z0 s1 z1 a2)) (.slice b3 (stlX s0 z0 s1 z1 a2).length c3)) := Lib.hid (Tm0_23.out.keep B24.out)
      obtain ⟨Tm0_24_l, Tm0_24_a, Tm0_24_b⟩ := Tm0_24.out
      clear Tm0_23 Tm0_23_l Tm0_23_a Tm0_23_b
      have Tm1_24 : Hid (Two w24 h3 (.int .i64 (stlS s0 z0 s1 z1 a2)) (.slice d3 (stlY s0 z0 s1 z1 a2).length e3)) := Lib.hid (Tm1_23.out.keep B24.out)
      obtain ⟨Tm1_24_l, Tm1_24_a, Tm1_24_b⟩ := Tm1_24.out
      clear Tm1_23 Tm1_23_l Tm1_23_a Tm1_23_b
      have Tx0_24 : Hid (Two w24 w4.heap.size (.int .i64 s0) (.slice b4 z0.length c4)) := Lib.hid (Tx0_23.out.keep B24.out)
      obtain ⟨Tx0_24_l, Tx0_24_a, Tx0_24_b⟩ := Tx0_24.out
      clear Tx0_23 Tx0_23_l Tx0_23_a Tx0_23_b
      have Tx1_24 : Hid (Two w24 w5.heap.size (.int .i64 s1) (.slice b5 z1.length c5)) := Lib.hid (Tx1_23.out.keep B24.out)
      obtain ⟨Tx1_24_l, Tx1_24_a, Tx1_24_b⟩ := Tx1_24.out
      clear Tx1_23 Tx1_23_l Tx1_23_a Tx1_23_b
      have Tg0_24 : Hid (Two w24 w6.heap.size (.int .i64 (stlS s0 z0 s1 z1 a2)) (.slice b6 (stlX s0 z0 s1 z1 a2).length c6)) := Lib.hid (Tg0_23.out.keep B24.out)
      obtain ⟨Tg0_24_l, Tg0_24_a, Tg0_24_b⟩ := Tg0_24.out
      clear Tg0_23 Tg0_23_l Tg0_23_a Tg0_23_b
      have Tg1_24 : Hid (Two w24 (w6.heap.size + 1) (.int .i64 (stlS s0 z0 s1 z1 a2)) (.slice d6 (stlY s0 z0 s1 z1 a2).length e6)) := Lib.hid (Tg1_23.out.keep B24.out)
      obtain ⟨Tg1_24_l, Tg1_24_a, Tg1_24_b⟩ := Tg1_24.out
      clear Tg1_23 Tg1_23_l Tg1_23_a Tg1_23_b
      have Th0_24 : Hid (Two w24 g21 (.int .i64 (stlS s0 z0 s1 z1 a2)) (.slice b21 (stlX s0 z0 s1 z1 a2).length c21)) := Lib.hid (Th0_23.out.keep B24.out)
      obtain ⟨Th0_24_l, Th0_24_a, Th0_24_b⟩ := Th0_24.out
      clear Th0_23 Th0_23_l Th0_23_a Th0_23_b
      have Th1_24 : Hid (Two w24 h21 (.int .i64 (stlS s0 z0 s1 z1 a2)) (.slice d21 (stlY s0 z0 s1 z1 a2).length e21)) := Lib.hid (Th1_23.out.keep B24.out)
      obtain ⟨Th1_24_l, Th1_24_a, Th1_24_b⟩ := Th1_24.out
      clear Th1_23 Th1_23_l Th1_23_a Th1_23_b
      have Om0_24 : Hid (Row w24 w2.heap.size w3.heap.size b3 (stlX s0 z0 s1 z1 a2).length c3 (stlX s0 z0 s1 z1 a2)) := Lib.hid (Om0_23.out.keep B24.out)
      clear Om0_23
      have Om1_24 : Hid (Row w24 w2.heap.size w3.heap.size d3 (stlY s0 z0 s1 z1 a2).length e3 (stlY s0 z0 s1 z1 a2)) := Lib.hid (Om1_23.out.keep B24.out)
      clear Om1_23
      have Ox0_24 : Hid (Row w24 w3.heap.size w4.heap.size b4 z0.length c4 (marks (1) z0.length)) := Lib.hid (Ox0_23.out.keep B24.out)
      clear Ox0_23
      have Ox1_24 : Hid (Row w24 (w4.heap.size + 1) w5.heap.size b5 z1.length c5 (marks (1 + z0.length) z1.length)) := Lib.hid (Ox1_23.out.keep B24.out)
      clear Ox1_23
      have Og0_24 : Hid (Row w24 (w5.heap.size + 1) m6 b6 (stlX s0 z0 s1 z1 a2).length c6 (marks (1) (stlX s0 z0 s1 z1 a2).length)) := Lib.hid (Og0_23.out.keep B24.out)
      clear Og0_23
      have Og1_24 : Hid (Row w24 m6 w6.heap.size d6 (stlY s0 z0 s1 z1 a2).length e6 (marks (1 + (stlX s0 z0 s1 z1 a2).length) (stlY s0 z0 s1 z1 a2).length)) := Lib.hid (Og1_23.out.keep B24.out)
      clear Og1_23
      have Oh0_24 : Hid (Row w24 w20.heap.size w21.heap.size b21 (stlX s0 z0 s1 z1 a2).length c21 (stlX s0 z0 s1 z1 a2)) := Lib.hid (Oh0_23.out.keep B24.out)
      clear Oh0_23
      have Oh1_24 : Hid (Row w24 w20.heap.size w21.heap.size d21 (stlY s0 z0 s1 z1 a2).length e21 (stlY s0 z0 s1 z1 a2)) := Lib.hid (Oh1_23.out.keep B24.out)
      clear Oh1_23
      have A24 : Hid (Below w.heap.size w w24) := Lib.hid (A23.out.trans (B24.out.mono A23.out.size))
      clear A23
      clear hb24
      go_wp2_with fail
      refine (held_rhythm (1 + (stlX s0 z0 s1 z1 a2).length) _ d6 e6 (stlY s0 z0 s1 z1 a2).length _ (Og1_24.out.at (marks_int _ _ (by omega))) (by omega) (by omega)).mono ?_
      rintro e w25 ⟨rfl, hb25⟩
      have B25 : Hid (Below w24.heap.size w24 w25) := Lib.hid (hb25)
      have B25_size := B25.out.size
      have Ta0_25 : Hid (Two w25 w.heap.size (.int .i64 s0) (.slice a0 len0 cap0)) := Lib.hid (Ta0_24.out.keep B25.out)
      obtain ⟨Ta0_25_l, Ta0_25_a, Ta0_25_b⟩ := Ta0_25.out
      clear Ta0_24 Ta0_24_l Ta0_24_a Ta0_24_b
      have Ta1_25 : Hid (Two w25 (w.heap.size + 1) (.int .i64 s1) (.slice a1 len1 cap1)) := Lib.hid (Ta1_24.out.keep B25.out)
      obtain ⟨Ta1_25_l, Ta1_25_a, Ta1_25_b⟩ := Ta1_25.out
      clear Ta1_24 Ta1_24_l Ta1_24_a Ta1_24_b
      have Tm0_25 : Hid (Two w25 g3 (.int .i64 (stlS s0 z0 s1 z1 a2)) (.slice b3 (stlX s0 z0 s1 z1 a2).length c3)) := Lib.hid (Tm0_24.out.keep B25.out)
      obtain ⟨Tm0_25_l, Tm0_25_a, Tm0_25_b⟩ := Tm0_25.out
      clear Tm0_24 Tm0_24_l Tm0_24_a Tm0_24_b
      have Tm1_25 : Hid (Two w25 h3 (.int .i64 (stlS s0 z0 s1 z1 a2)) (.slice d3 (stlY s0 z0 s1 z1 a2).length e3)) := Lib.hid (Tm1_24.out.keep B25.out)
      obtain ⟨Tm1_25_l, Tm1_25_a, Tm1_25_b⟩ := Tm1_25.out
      clear Tm1_24 Tm1_24_l Tm1_24_a Tm1_24_b
      have Tx0_25 : Hid (Two w25 w4.heap.size (.int .i64 s0) (.slice b4 z0.length c4)) := Lib.hid (Tx0_24.out.keep B25.out)
      obtain ⟨Tx0_25_l, Tx0_25_a, Tx0_25_b⟩ := Tx0_25.out
      clear Tx0_24 Tx0_24_l Tx0_24_a Tx0_24_b
      have Tx1_25 : Hid (Two w25 w5.heap.size (.int .i64 s1) (.slice b5 z1.length c5)) := Lib.hid (Tx1_24.out.keep B25.out)
      obtain ⟨Tx1_25_l, Tx1_25_a, Tx1_25_b⟩ := Tx1_25.out
      clear Tx1_24 Tx1_24_l Tx1_24_a Tx1_24_b
      have Tg0_25 : Hid (Two w25 w6.heap.size (.int .i64 (stlS s0 z0 s1 z1 a2)) (.slice b6 (stlX s0 z0 s1 z1 a2).length c6)) := Lib.hid (Tg0_24.out.keep B25.out)
      obtain ⟨Tg0_25_l, Tg0_25_a, Tg0_25_b⟩ := Tg0_25.out
      clear Tg0_24 Tg0_24_l Tg0_24_a Tg0_24_b
      have Tg1_25 : Hid (Two w25 (w6.heap.size + 1) (.int .i64 (stlS s0 z0 s1 z1 a2)) (.slice d6 (stlY s0 z0 s1 z1 a2).length e6)) := Lib.hid (Tg1_24.out.keep B25.out)
      obtain ⟨Tg1_25_l, Tg1_25_a, Tg1_25_b⟩ := Tg1_25.out
      clear Tg1_24 Tg1_24_l Tg1_24_a Tg1_24_b
      have Th0_25 : Hid (Two w25 g21 (.int .i64 (stlS s0 z0 s1 z1 a2)) (.slice b21 (stlX s0 z0 s1 z1 a2).length c21)) := Lib.hid (Th0_24.out.keep B25.out)
      obtain ⟨Th0_25_l, Th0_25_a, Th0_25_b⟩ := Th0_25.out
      clear Th0_24 Th0_24_l Th0_24_a Th0_24_b
      have Th1_25 : Hid (Two w25 h21 (.int .i64 (stlS s0 z0 s1 z1 a2)) (.slice d21 (stlY s0 z0 s1 z1 a2).length e21)) := Lib.hid (Th1_24.out.keep B25.out)
      obtain ⟨Th1_25_l, Th1_25_a, Th1_25_b⟩ := Th1_25.out
      clear Th1_24 Th1_24_l Th1_24_a Th1_24_b
      have Om0_25 : Hid (Row w25 w2.heap.size w3.heap.size b3 (stlX s0 z0 s1 z1 a2).length c3 (stlX s0 z0 s1 z1 a2)) := Lib.hid (Om0_24.out.keep B25.out)
      clear Om0_24
      have Om1_25 : Hid (Row w25 w2.heap.size w3.heap.size d3 (stlY s0 z0 s1 z1 a2).length e3 (stlY s0 z0 s1 z1 a2)) := Lib.hid (Om1_24.out.keep B25.out)
      clear Om1_24
      have Ox0_25 : Hid (Row w25 w3.heap.size w4.heap.size b4 z0.length c4 (marks (1) z0.length)) := Lib.hid (Ox0_24.out.keep B25.out)
      clear Ox0_24
      have Ox1_25 : Hid (Row w25 (w4.heap.size + 1) w5.heap.size b5 z1.length c5 (marks (1 + z0.length) z1.length)) := Lib.hid (Ox1_24.out.keep B25.out)
      clear Ox1_24
      have Og0_25 : Hid (Row w25 (w5.heap.size + 1) m6 b6 (stlX s0 z0 s1 z1 a2).length c6 (marks (1) (stlX s0 z0 s1 z1 a2).length)) := Lib.hid (Og0_24.out.keep B25.out)
      clear Og0_24
      have Og1_25 : Hid (Row w25 m6 w6.heap.size d6 (stlY s0 z0 s1 z1 a2).length e6 (marks (1 + (stlX s0 z0 s1 z1 a2).length) (stlY s0 z0 s1 z1 a2).length)) := Lib.hid (Og1_24.out.keep B25.out)
      clear Og1_24
      have Oh0_25 : Hid (Row w25 w20.heap.size w21.heap.size b21 (stlX s0 z0 s1 z1 a2).length c21 (stlX s0 z0 s1 z1 a2)) := Lib.hid (Oh0_24.out.keep B25.out)
      clear Oh0_24
      have Oh1_25 : Hid (Row w25 w20.heap.size w21.heap.size d21 (stlY s0 z0 s1 z1 a2).length e21 (stlY s0 z0 s1 z1 a2)) := Lib.hid (Oh1_24.out.keep B25.out)
      clear Oh1_24
      have A25 : Hid (Below w.heap.size w w25) := Lib.hid (A24.out.trans (B25.out.mono A24.out.size))
      clear A24
      clear hb25
      go_wp2
      go_ret
      exact ⟨rfl, A25.out⟩

set_option maxRecDepth 100000 in
theorem lifted (os : Os) (started : os.Started) (H : Type) (enc : TypeId × Value → H) :
    ReturnsInHanded {} Try.checked os 13 .any (Rows.fnExactStretchTilingSpec.pre6 enc Try.prog Try.f13 Rows.fnExactStretchTilingRow.domain false) (Rows.fnExactStretchTilingSpec.post enc Try.prog Try.f13 false true false false) := by
  refine returnsInHanded_of_change (C := Try.checked) own started (by kernel_rfl) Try.func13
    (ChangeSpec.witness6 (enc := enc) (C := Try.checked) false ⟨#[], #[.agg #[.int .i64 0, .slice none 0 0], .agg #[.int .i64 0, .slice none 0 0], .int .i64 0], []⟩ 8 (by kernel_rfl) (by kernel_rfl) (by kernel_rfl) (by kernel_rfl)) ?_
  intro W base args ds gs before hval0 hW hcnd _
  have hval : ∀ (j : Nat) t v, Try.f13.params[j]? = some t → args[j]? = some v → Value.okWide Try.prog W .any base t v := hval0
  have hW' := hW
  obtain ⟨p, q, hA0, hV, rfl, hfz, hnd⟩ := hW
  have hA : DataW.TrodAll enc Try.prog W 0 (fun _ => true) true Try.f13.params.toList args.toList ds p := hA0
  rw [Try.params13] at hA hval
  obtain ⟨v0, vs0, d0, ds0, p0, q0, hargs, rfl, rfl, h0, r0⟩ := trodAll_cons hA
  obtain ⟨v1, vs1, d1, ds1, p1, q1, rfl, rfl, rfl, h1, r1⟩ := trodAll_cons r0
  obtain ⟨v2, vs2, d2, ds2, p2, q2, rfl, rfl, rfl, h2, r2⟩ := trodAll_cons r1
  obtain ⟨rfl, rfl, rfl⟩ := trodAll_nil r2
  obtain rfl : args = #[v0, v1, v2] := by cases args; simp_all
  obtain ⟨rfl, rfl⟩ := trodVars_none hV
  have k0 := h0
  have lt0 : ∀ x ∈ p0, x.block < W.heap.size := by obtain ⟨m, hm⟩ := k0; exact DataW.trod_lt m _ _ _ hm
  obtain ⟨s0, a0, len0, cap0, z0, rfl, w0⟩ := opened (hval 0 39 v0 rfl rfl) h0
  have k1 := h1
  have lt1 : ∀ x ∈ p1, x.block < W.heap.size := by obtain ⟨m, hm⟩ := k1; exact DataW.trod_lt m _ _ _ hm
  obtain ⟨s1, a1, len1, cap1, z1, rfl, w1⟩ := opened (hval 1 39 v1 rfl rfl) h1
  obtain ⟨a2, rfl, rfl, rfl, w2⟩ := open_int Try.underlying3 (hval 2 3 v2 rfl rfl) h2
  clear hA0 hval0
  refine (walk s0 a0 len0 cap0 z0 s1 a1 len1 cap1 z1 a2 W w0 w1 w2).mono fun e W' ⟨he, bel⟩ => ?_
  subst he
  exact ⟨_, rfl, _, _, _, [], _, [], hW', trodAll_mk1 (shut_bool Try.underlying4 _), (trodAll_cons_mk (Below.trod laidOut (by kernel_rfl) (of_decide_eq_true (by kernel_rfl)) k0 bel lt0) (trodAll_cons_mk (Below.trod laidOut (by kernel_rfl) (of_decide_eq_true (by kernel_rfl)) k1 bel lt1) (trodAll_cons_mk (shut_int Try.underlying3 w2) trodAll_mk0))), rfl, bel.frame _, fun h => by cases h⟩

theorem proved : Rows.FnExactStretchTilingSaid :=
  OpenClaim.holds_of_wide 13 Try.f13 rfl rfl rfl rfl rfl rfl rfl ⟨rfl, rfl, rfl, rfl, rfl⟩ rfl rfl rfl rfl rfl (by kernel_rfl) Try.func13 (by kernel_rfl)
    (of_decide_eq_true (by kernel_rfl)) (by unfold Func.isWrapper; rw [if_neg (of_decide_eq_false (by kernel_rfl))]; exact ⟨rfl, rfl⟩)
    (fun os started H enc _ => lifted os started H enc)
#print axioms proved
end Go.Proofs.Ytpgolnkhbnancaa.fnExactStretchTiling
