/-
  'VanishingOrders' of the program answers, at every rhythm, as its model does, leaves its arguments as they were, and owns the memory of its answer. No condition.
-/
import Derived.Test.YtoejafpijcacoaaPlm
import Derived.Test.YtoejafpijcacoaaOpen
import Derived.Deep.RegionHeld3
import Derived.ProofKit
namespace Go.Proofs.Ytoejafpijcacoaa.fnExactVanishingOrders
open Go.ChangeShapes Go.WideShapes Go.ChangeAt Go.RowKit Rhy
set_option linter.unusedVariables false


set_option maxHeartbeats 1000000 in
set_option maxRecDepth 100000 in
theorem walk (s0 : Int) (a0 : Option Addr) (len0 cap0 : Nat) (z0 : List Int) (w : World) (w0 : Opened w s0 a0 len0 z0) :
    Calls Try.prog 11 #[rhy s0 a0 len0 cap0] w fun e w' => e = .returned (.bool true) ∧ Below w.heap.size w w' := by
  obtain ⟨i0, m0, sl0, su0⟩ := w0
  have HS0 := Lib.hid i0
  clear i0
  go_enter Try.func11, Try.ntmps11
  go_wp2_with fail
  refine (size_rhythm s0 _ a0 len0 cap0 _ m0 (by omega) (by omega)).mono ?_
  rintro e w1 ⟨⟨r0, rfl, hr | ⟨hr, hlen0, he0⟩, h1, h2⟩, hb1⟩
  · have HB1 := Lib.hid hb1
    clear hb1
    go_wp2
    go_ret
    exact ⟨rfl, (bel1 w (.cells #[.int .i64 s0, .slice a0 len0 cap0] 44)).trans (HB1.out.mono (bel1 w (.cells #[.int .i64 s0, .slice a0 len0 cap0] 44)).size)⟩
  · have hr0 : ¬ r0 < 0 := by omega
    have le0 : len0 ≤ 1048576 := by omega
    have lz0 : z0.length ≤ 1048576 := by have := HS0.out.1; omega
    have hq0 : 0 ≤ r0 := hr
    have hq'0 : r0 ≤ 1048576 := by omega
    clear he0 hr h1 h2
    have p1 := Lib.hid (bel1 w (.cells #[.int .i64 s0, .slice a0 len0 cap0] 44))
    have B1 : Hid (Below w.heap.size w w1) := Lib.hid (p1.out.trans (hb1.mono p1.out.size))
    have B1_size := B1.out.size
    have pz1 : w.heap.size + 1 ≤ w1.heap.size := by have := hb1.size; simp at this; omega
    have Ta0_1 : Hid (Two w1 w.heap.size (.int .i64 s0) (.slice a0 len0 cap0)) := Lib.hid ((two_new w (.int .i64 s0) (.slice a0 len0 cap0) 44).keep hb1)
    obtain ⟨Ta0_1_l, Ta0_1_a, Ta0_1_b⟩ := Ta0_1.out
    have A1 : Hid (Below w.heap.size w w1) := Lib.hid (B1.out)
    clear hb1
    have HZ : Hid (AllInt (vorB s0 z0)) := Lib.hid (vorB_int s0 z0)
    have hzl : (vorB s0 z0).length ≤ 1048576 := Nat.le_trans (vorB_len s0 z0) (by omega)
    go_wp2_with fail
    refine (to_rhythm s0 a0 len0 cap0 z0 _ (HS0.out.below A1.out) le0).mono ?_
    rintro e w2 ⟨b2, c2, rfl, hown2, hb2⟩
    have Op0_2 : Hid (Row w2 w1.heap.size w2.heap.size b2 z0.length c2 z0) := Lib.hid (row_of (own_base hown2 (Nat.le_refl _)))
    have B2 : Hid (Below w1.heap.size w1 w2) := Lib.hid (hb2)
    have B2_size := B2.out.size
    have Ta0_2 : Hid (Two w2 w.heap.size (.int .i64 s0) (.slice a0 len0 cap0)) := Lib.hid (Ta0_1.out.keep B2.out)
    obtain ⟨Ta0_2_l, Ta0_2_a, Ta0_2_b⟩ := Ta0_2.out
    clear Ta0_1 Ta0_1_l Ta0_1_a Ta0_1_b
    have A2 : Hid (Below w.heap.size w w2) := Lib.hid (A1.out.trans (B2.out.mono A1.out.size))
    clear A1
    clear hown2 hb2
    go_wp2_with fail
    refine (vor_spec s0 b2 z0.length c2 z0 _ (Op0_2.out.at HS0.out.int) lz0).mono ?_
    rintro e w3 ⟨b3, c3, rfl, hown3, hb3⟩
    have Om_3 : Hid (Row w3 w2.heap.size w3.heap.size b3 (vorB s0 z0).length c3 (vorB s0 z0)) := Lib.hid (row_of (own_base hown3 (Nat.le_refl _)))
    have B3 : Hid (Below w2.heap.size w2 w3) := Lib.hid (hb3)
    have B3_size := B3.out.size
    have Ta0_3 : Hid (Two w3 w.heap.size (.int .i64 s0) (.slice a0 len0 cap0)) := Lib.hid (Ta0_2.out.keep B3.out)
    obtain ⟨Ta0_3_l, Ta0_3_a, Ta0_3_b⟩ := Ta0_3.out
    clear Ta0_2 Ta0_2_l Ta0_2_a Ta0_2_b
    have Op0_3 : Hid (Row w3 w1.heap.size w2.heap.size b2 z0.length c2 z0) := Lib.hid (Op0_2.out.keep B3.out)
    clear Op0_2
    have A3 : Hid (Below w.heap.size w w3) := Lib.hid (A2.out.trans (B3.out.mono A2.out.size))
    clear A2
    clear hown3 hb3
    go_wp2_with fail
    refine (to_rhythm s0 a0 len0 cap0 z0 _ (HS0.out.below A3.out) le0).mono ?_
    rintro e w4 ⟨b4, c4, rfl, hown4, hb4⟩
    have Ox0_4 : Hid (Row w4 w3.heap.size w4.heap.size b4 z0.length c4 z0) := Lib.hid (row_of (own_base hown4 (Nat.le_refl _)))
    have B4 : Hid (Below w3.heap.size w3 w4) := Lib.hid (hb4)
    have B4_size := B4.out.size
    have Ta0_4 : Hid (Two w4 w.heap.size (.int .i64 s0) (.slice a0 len0 cap0)) := Lib.hid (Ta0_3.out.keep B4.out)
    obtain ⟨Ta0_4_l, Ta0_4_a, Ta0_4_b⟩ := Ta0_4.out
    clear Ta0_3 Ta0_3_l Ta0_3_a Ta0_3_b
    have Op0_4 : Hid (Row w4 w1.heap.size w2.heap.size b2 z0.length c2 z0) := Lib.hid (Op0_3.out.keep B4.out)
    clear Op0_3
    have Om_4 : Hid (Row w4 w2.heap.size w3.heap.size b3 (vorB s0 z0).length c3 (vorB s0 z0)) := Lib.hid (Om_3.out.keep B4.out)
    clear Om_3
    have A4 : Hid (Below w.heap.size w w4) := Lib.hid (A3.out.trans (B4.out.mono A3.out.size))
    clear A3
    clear hown4 hb4
    go_wp2_with fail
    refine (vor_impl s0 b4 z0.length c4 z0 _ ((Ox0_4.out.at HS0.out.int).below (bel1 _ (.cells #[.int .i64 s0, .slice b4 z0.length c4] 30))) lz0).mono ?_
    rintro e w5 ⟨b5, c5, rfl, hown5, hb5⟩
    have Og_5 : Hid (Row w5 (w4.heap.size + 1) w5.heap.size b5 (vorB s0 z0).length c5 (vorB s0 z0)) := Lib.hid (row_of (own_base hown5 (by simp)))
    have p5 := Lib.hid (bel1 w4 (.cells #[.int .i64 s0, .slice b4 z0.length c4] 30))
    have B5 : Hid (Below w4.heap.size w4 w5) := Lib.hid (p5.out.trans (hb5.mono p5.out.size))
    have B5_size := B5.out.size
    have pz5 : w4.heap.size + 1 ≤ w5.heap.size := by have := hb5.size; simp at this; omega
    have Ta0_5 : Hid (Two w5 w.heap.size (.int .i64 s0) (.slice a0 len0 cap0)) := Lib.hid (Ta0_4.out.keep B5.out)
    obtain ⟨Ta0_5_l, Ta0_5_a, Ta0_5_b⟩ := Ta0_5.out
    clear Ta0_4 Ta0_4_l Ta0_4_a Ta0_4_b
    have Tx0_5 : Hid (Two w5 w4.heap.size (.int .i64 s0) (.slice b4 z0.length c4)) := Lib.hid ((two_new w4 (.int .i64 s0) (.slice b4 z0.length c4) 30).keep hb5)
    obtain ⟨Tx0_5_l, Tx0_5_a, Tx0_5_b⟩ := Tx0_5.out
    have Op0_5 : Hid (Row w5 w1.heap.size w2.heap.size b2 z0.length c2 z0) := Lib.hid (Op0_4.out.keep B5.out)
    clear Op0_4
    have Om_5 : Hid (Row w5 w2.heap.size w3.heap.size b3 (vorB s0 z0).length c3 (vorB s0 z0)) := Lib.hid (Om_4.out.keep B5.out)
    clear Om_4
    have Ox0_5 : Hid (Row w5 w3.heap.size w4.heap.size b4 z0.length c4 z0) := Lib.hid (Ox0_4.out.keep B5.out)
    clear Ox0_4
    have A5 : Hid (Below w.heap.size w w5) := Lib.hid (A4.out.trans (B5.out.mono A4.out.size))
    clear A4
    clear hown5 hb5
    go_wp2_with fail
    refine (eq_ints b5 b3 c5 c3 _ (vorB s0 z0) _ (Og_5.out.at HZ.out) (Om_5.out.at HZ.out) (by omega)).mono ?_
    rintro e w6 ⟨rfl, hb6⟩
    have B6 : Hid (Below w5.heap.size w5 w6) := Lib.hid (hb6)
    have B6_size := B6.out.size
    have Ta0_6 : Hid (Two w6 w.heap.size (.int .i64 s0) (.slice a0 len0 cap0)) := Lib.hid (Ta0_5.out.keep B6.out)
    obtain ⟨Ta0_6_l, Ta0_6_a, Ta0_6_b⟩ := Ta0_6.out
    clear Ta0_5 Ta0_5_l Ta0_5_a Ta0_5_b
    have Tx0_6 : Hid (Two w6 w4.heap.size (.int .i64 s0) (.slice b4 z0.length c4)) := Lib.hid (Tx0_5.out.keep B6.out)
    obtain ⟨Tx0_6_l, Tx0_6_a, Tx0_6_b⟩ := Tx0_6.out
    clear Tx0_5 Tx0_5_l Tx0_5_a Tx0_5_b
    have Op0_6 : Hid (Row w6 w1.heap.size w2.heap.size b2 z0.length c2 z0) := Lib.hid (Op0_5.out.keep B6.out)
    clear Op0_5
    have Om_6 : Hid (Row w6 w2.heap.size w3.heap.size b3 (vorB s0 z0).length c3 (vorB s0 z0)) := Lib.hid (Om_5.out.keep B6.out)
    clear Om_5
    have Ox0_6 : Hid (Row w6 w3.heap.size w4.heap.size b4 z0.length c4 z0) := Lib.hid (Ox0_5.out.keep B6.out)
    clear Ox0_5
    have Og_6 : Hid (Row w6 (w4.heap.size + 1) w5.heap.size b5 (vorB s0 z0).length c5 (vorB s0 z0)) := Lib.hid (Og_5.out.keep B6.out)
    clear Og_5
    have A6 : Hid (Below w.heap.size w w6) := Lib.hid (A5.out.trans (B6.out.mono A5.out.size))
    clear A5
    clear hb6
    go_wp2
    have HT : Hid (∀ W, Below w6.heap.size w6 W → IntsAt W a0 len0 z0) := Lib.hid (fun W hW => HS0.out.below (A6.out.trans (hW.mono A6.out.size)))
    have HK : Hid (∀ W, Below w6.heap.size w6 W → W.cell? ⟨w.heap.size, 0, none⟩ = some (.int .i64 s0) ∧ W.cell? ⟨w.heap.size, 1, none⟩ = some (.slice a0 len0 cap0) ∧ W.cell? ⟨w4.heap.size, 0, none⟩ = some (.int .i64 s0) ∧ W.cell? ⟨w4.heap.size, 1, none⟩ = some (.slice b4 z0.length c4) ∧ Below w6.heap.size w6 W) := Lib.hid (fun W hW => ⟨(Ta0_6.out.keep hW).2.1, (Ta0_6.out.keep hW).2.2, (Tx0_6.out.keep hW).2.1, (Tx0_6.out.keep hW).2.2, hW⟩)
    have HX : Hid (∀ W, Below w6.heap.size w6 W → Row W w3.heap.size w4.heap.size b4 z0.length c4 z0) := Lib.hid (fun W hW => Ox0_6.out.keep hW)
    go_region_held3 (fun w' => w'.cell? ⟨w.heap.size, 0, none⟩ = some (.int .i64 s0) ∧ w'.cell? ⟨w.heap.size, 1, none⟩ = some (.slice a0 len0 cap0) ∧ w'.cell? ⟨w4.heap.size, 0, none⟩ = some (.int .i64 s0) ∧ w'.cell? ⟨w4.heap.size, 1, none⟩ = some (.slice b4 z0.length c4) ∧ Below w6.heap.size w6 w')
      (first | exact HK.out _ (Below.refl _ _).drew | exact HK.out _ hb7 | exact HK.out _ hb8)
      ((first
        | (go_at_call 33; refine (to_rhythm s0 a0 len0 cap0 z0 _ (HT.out _ (Below.refl _ _).drew) le0).mono ?_; rintro e w7 ⟨b7, c7, rfl, hown7, hc7⟩; have HO7 := Lib.hid hown7; have hb7 := (Below.refl w6.heap.size w6).drew.trans hc7; clear hown7 hc7)
        | (go_at_call 34; refine (eq_rhythm s0 b4 _ c4 _ z0.length z0 _ ((HX.out _ hb7).at HS0.out.int) (intsAt_own HO7.out HS0.out.int) (by omega)).mono ?_; rintro e w8 ⟨rfl, hc8⟩; have hb8 := hb7.trans (hc8.mono hb7.size); clear hc8)))
    clear HT HK HX hb7 HO7
    rename_i hHeld
    clear hHeld
    have B8 : Hid (Below w6.heap.size w6 w8) := Lib.hid (hb8)
    have B8_size := B8.out.size
    have Ta0_8 : Hid (Two w8 w.heap.size (.int .i64 s0) (.slice a0 len0 cap0)) := Lib.hid (Ta0_6.out.keep B8.out)
    obtain ⟨Ta0_8_l, Ta0_8_a, Ta0_8_b⟩ := Ta0_8.out
    clear Ta0_6 Ta0_6_l Ta0_6_a Ta0_6_b
    have Tx0_8 : Hid (Two w8 w4.heap.size (.int .i64 s0) (.slice b4 z0.length c4)) := Lib.hid (Tx0_6.out.keep B8.out)
    obtain ⟨Tx0_8_l, Tx0_8_a, Tx0_8_b⟩ := Tx0_8.out
    clear Tx0_6 Tx0_6_l Tx0_6_a Tx0_6_b
    have Op0_8 : Hid (Row w8 w1.heap.size w2.heap.size b2 z0.length c2 z0) := Lib.hid (Op0_6.out.keep B8.out)
    clear Op0_6
    have Om_8 : Hid (Row w8 w2.heap.size w3.heap.size b3 (vorB s0 z0).length c3 (vorB s0 z0)) := Lib.hid (Om_6.out.keep B8.out)
    clear Om_6
    have Ox0_8 : Hid (Row w8 w3.heap.size w4.heap.size b4 z0.length c4 z0) := Lib.hid (Ox0_6.out.keep B8.out)
    clear Ox0_6
    have Og_8 : Hid (Row w8 (w4.heap.size + 1) w5.heap.size b5 (vorB s0 z0).length c5 (vorB s0 z0)) := Lib.hid (Og_6.out.keep B8.out)
    clear Og_6
    have A8 : Hid (Below w.heap.size w w8) := Lib.hid (A6.out.trans (B8.out.mono A6.out.size))
    clear A6
    clear hb8
    go_wp2_with fail
    refine (mark_rhythm w3.heap.size w4.heap.size (1) _ b4 c4 _ _ _ Ox0_8.out (by omega) (by omega)).mono ?_
    rintro e w9 ⟨rfl, hown9, hb9⟩
    have B9 : Hid (Within w3.heap.size w4.heap.size w8 w9) := Lib.hid (hb9)
    have B9_size := B9.out.size
    have Ta0_9 : Hid (Two w9 w.heap.size (.int .i64 s0) (.slice a0 len0 cap0)) := Lib.hid (Ta0_8.out.within B9.out (by omega))
    obtain ⟨Ta0_9_l, Ta0_9_a, Ta0_9_b⟩ := Ta0_9.out
    clear Ta0_8 Ta0_8_l Ta0_8_a Ta0_8_b
    have Tx0_9 : Hid (Two w9 w4.heap.size (.int .i64 s0) (.slice b4 z0.length c4)) := Lib.hid (Tx0_8.out.within B9.out (by omega))
    obtain ⟨Tx0_9_l, Tx0_9_a, Tx0_9_b⟩ := Tx0_9.out
    clear Tx0_8 Tx0_8_l Tx0_8_a Tx0_8_b
    have Op0_9 : Hid (Row w9 w1.heap.size w2.heap.size b2 z0.length c2 z0) := Lib.hid (Op0_8.out.within B9.out (by omega))
    clear Op0_8
    have Om_9 : Hid (Row w9 w2.heap.size w3.heap.size b3 (vorB s0 z0).length c3 (vorB s0 z0)) := Lib.hid (Om_8.out.within B9.out (by omega))
    clear Om_8
    have Og_9 : Hid (Row w9 (w4.heap.size + 1) w5.heap.size b5 (vorB s0 z0).length c5 (vorB s0 z0)) := Lib.hid (Og_8.out.within B9.out (by omega))
    clear Og_8
    have A9 : Hid (Below w.heap.size w w9) := Lib.hid (Rhy.Below.within A8.out B9.out (by omega) A8.out.size)
    clear A8
    have Ox0_9 : Hid (Row w9 w3.heap.size w4.heap.size b4 z0.length c4 (marks (1) z0.length)) := Lib.hid hown9
    clear hown9 hb9 Ox0_8
    go_wp2_with fail
    refine (eq_ints b5 b3 c5 c3 _ (vorB s0 z0) _ (Og_9.out.at HZ.out) (Om_9.out.at HZ.out) (by omega)).mono ?_
    rintro e w10 ⟨rfl, hb10⟩
    have B10 : Hid (Below w9.heap.size w9 w10) := Lib.hid (hb10)
    have B10_size := B10.out.size
    have Ta0_10 : Hid (Two w10 w.heap.size (.int .i64 s0) (.slice a0 len0 cap0)) := Lib.hid (Ta0_9.out.keep B10.out)
    obtain ⟨Ta0_10_l, Ta0_10_a, Ta0_10_b⟩ := Ta0_10.out
    clear Ta0_9 Ta0_9_l Ta0_9_a Ta0_9_b
    have Tx0_10 : Hid (Two w10 w4.heap.size (.int .i64 s0) (.slice b4 z0.length c4)) := Lib.hid (Tx0_9.out.keep B10.out)
    obtain ⟨Tx0_10_l, Tx0_10_a, Tx0_10_b⟩ := Tx0_10.out
    clear Tx0_9 Tx0_9_l Tx0_9_a Tx0_9_b
    have Op0_10 : Hid (Row w10 w1.heap.size w2.heap.size b2 z0.length c2 z0) := Lib.hid (Op0_9.out.keep B10.out)
    clear Op0_9
    have Om_10 : Hid (Row w10 w2.heap.size w3.heap.size b3 (vorB s0 z0).length c3 (vorB s0 z0)) := Lib.hid (Om_9.out.keep B10.out)
    clear Om_9
    have Ox0_10 : Hid (Row w10 w3.heap.size w4.heap.size b4 z0.length c4 (marks (1) z0.length)) := Lib.hid (Ox0_9.out.keep B10.out)
    clear Ox0_9
    have Og_10 : Hid (Row w10 (w4.heap.size + 1) w5.heap.size b5 (vorB s0 z0).length c5 (vorB s0 z0)) := Lib.hid (Og_9.out.keep B10.out)
    clear Og_9
    have A10 : Hid (Below w.heap.size w w10) := Lib.hid (A9.out.trans (B10.out.mono A9.out.size))
    clear A9
    clear hb10
    go_wp2_with fail
    refine (mark_ints (w4.heap.size + 1) w5.heap.size (1) b5 c5 _ _ _ Og_10.out (by omega) (by omega)).mono ?_
    rintro e w11 ⟨rfl, hown11, hb11⟩
    have B11 : Hid (Within (w4.heap.size + 1) w5.heap.size w10 w11) := Lib.hid (hb11)
    have B11_size := B11.out.size
    have Ta0_11 : Hid (Two w11 w.heap.size (.int .i64 s0) (.slice a0 len0 cap0)) := Lib.hid (Ta0_10.out.within B11.out (by omega))
    obtain ⟨Ta0_11_l, Ta0_11_a, Ta0_11_b⟩ := Ta0_11.out
    clear Ta0_10 Ta0_10_l Ta0_10_a Ta0_10_b
    have Tx0_11 : Hid (Two w11 w4.heap.size (.int .i64 s0) (.slice b4 z0.length c4)) := Lib.hid (Tx0_10.out.within B11.out (by omega))
    obtain ⟨Tx0_11_l, Tx0_11_a, Tx0_11_b⟩ := Tx0_11.out
    clear Tx0_10 Tx0_10_l Tx0_10_a Tx0_10_b
    have Op0_11 : Hid (Row w11 w1.heap.size w2.heap.size b2 z0.length c2 z0) := Lib.hid (Op0_10.out.within B11.out (by omega))
    clear Op0_10
    have Om_11 : Hid (Row w11 w2.heap.size w3.heap.size b3 (vorB s0 z0).length c3 (vorB s0 z0)) := Lib.hid (Om_10.out.within B11.out (by omega))
    clear Om_10
    have Ox0_11 : Hid (Row w11 w3.heap.size w4.heap.size b4 z0.length c4 (marks (1) z0.length)) := Lib.hid (Ox0_10.out.within B11.out (by omega))
    clear Ox0_10
    have A11 : Hid (Below w.heap.size w w11) := Lib.hid (Rhy.Below.within A10.out B11.out (by omega) A10.out.size)
    clear A10
    have Og_11 : Hid (Row w11 (w4.heap.size + 1) w5.heap.size b5 (vorB s0 z0).length c5 (marks (1) (vorB s0 z0).length)) := Lib.hid hown11
    clear hown11 hb11 Og_10
    go_wp2_with fail
    refine (held_ints (1) b5 c5 (vorB s0 z0).length _ (Og_11.out.at (marks_int _ _ (by omega))) (by omega) (by omega)).mono ?_
    rintro e w12 ⟨rfl, hb12⟩
    have B12 : Hid (Below w11.heap.size w11 w12) := Lib.hid (hb12)
    have B12_size := B12.out.size
    have Ta0_12 : Hid (Two w12 w.heap.size (.int .i64 s0) (.slice a0 len0 cap0)) := Lib.hid (Ta0_11.out.keep B12.out)
    obtain ⟨Ta0_12_l, Ta0_12_a, Ta0_12_b⟩ := Ta0_12.out
    clear Ta0_11 Ta0_11_l Ta0_11_a Ta0_11_b
    have Tx0_12 : Hid (Two w12 w4.heap.size (.int .i64 s0) (.slice b4 z0.length c4)) := Lib.hid (Tx0_11.out.keep B12.out)
    obtain ⟨Tx0_12_l, Tx0_12_a, Tx0_12_b⟩ := Tx0_12.out
    clear Tx0_11 Tx0_11_l Tx0_11_a Tx0_11_b
    have Op0_12 : Hid (Row w12 w1.heap.size w2.heap.size b2 z0.length c2 z0) := Lib.hid (Op0_11.out.keep B12.out)
    clear Op0_11
    have Om_12 : Hid (Row w12 w2.heap.size w3.heap.size b3 (vorB s0 z0).length c3 (vorB s0 z0)) := Lib.hid (Om_11.out.keep B12.out)
    clear Om_11
    have Ox0_12 : Hid (Row w12 w3.heap.size w4.heap.size b4 z0.length c4 (marks (1) z0.length)) := Lib.hid (Ox0_11.out.keep B12.out)
    clear Ox0_11
    have Og_12 : Hid (Row w12 (w4.heap.size + 1) w5.heap.size b5 (vorB s0 z0).length c5 (marks (1) (vorB s0 z0).length)) := Lib.hid (Og_11.out.keep B12.out)
    clear Og_11
    have A12 : Hid (Below w.heap.size w w12) := Lib.hid (A11.out.trans (B12.out.mono A11.out.size))
    clear A11
    clear hb12
    go_wp2_with fail
    refine (to_rhythm s0 a0 len0 cap0 z0 _ (HS0.out.below A12.out) le0).mono ?_
    rintro e w13 ⟨b13, c13, rfl, hown13, hb13⟩
    have Oy0_13 : Hid (Row w13 w12.heap.size w13.heap.size b13 z0.length c13 z0) := Lib.hid (row_of (own_base hown13 (Nat.le_refl _)))
    have B13 : Hid (Below w12.heap.size w12 w13) := Lib.hid (hb13)
    have B13_size := B13.out.size
    have Ta0_13 : Hid (Two w13 w.heap.size (.int .i64 s0) (.slice a0 len0 cap0)) := Lib.hid (Ta0_12.out.keep B13.out)
    obtain ⟨Ta0_13_l, Ta0_13_a, Ta0_13_b⟩ := Ta0_13.out
    clear Ta0_12 Ta0_12_l Ta0_12_a Ta0_12_b
    have Tx0_13 : Hid (Two w13 w4.heap.size (.int .i64 s0) (.slice b4 z0.length c4)) := Lib.hid (Tx0_12.out.keep B13.out)
    obtain ⟨Tx0_13_l, Tx0_13_a, Tx0_13_b⟩ := Tx0_13.out
    clear Tx0_12 Tx0_12_l Tx0_12_a Tx0_12_b
    have Op0_13 : Hid (Row w13 w1.heap.size w2.heap.size b2 z0.length c2 z0) := Lib.hid (Op0_12.out.keep B13.out)
    clear Op0_12
    have Om_13 : Hid (Row w13 w2.heap.size w3.heap.size b3 (vorB s0 z0).length c3 (vorB s0 z0)) := Lib.hid (Om_12.out.keep B13.out)
    clear Om_12
    have Ox0_13 : Hid (Row w13 w3.heap.size w4.heap.size b4 z0.length c4 (marks (1) z0.length)) := Lib.hid (Ox0_12.out.keep B13.out)
    clear Ox0_12
    have Og_13 : Hid (Row w13 (w4.heap.size + 1) w5.heap.size b5 (vorB s0 z0).length c5 (marks (1) (vorB s0 z0).length)) := Lib.hid (Og_12.out.keep B13.out)
    clear Og_12
    have A13 : Hid (Below w.heap.size w w13) := Lib.hid (A12.out.trans (B13.out.mono A12.out.size))
    clear A12
    clear hown13 hb13
    go_wp2_with fail
    refine (vor_impl s0 b13 z0.length c13 z0 _ (Oy0_13.out.at HS0.out.int) lz0).mono ?_
    rintro e w14 ⟨b14, c14, rfl, hown14, hb14⟩
    have Oh_14 : Hid (Row w14 w13.heap.size w14.heap.size b14 (vorB s0 z0).length c14 (vorB s0 z0)) := Lib.hid (row_of (own_base hown14 (Nat.le_refl _)))
    have B14 : Hid (Below w13.heap.size w13 w14) := Lib.hid (hb14)
    have B14_size := B14.out.size
    have Ta0_14 : Hid (Two w14 w.heap.size (.int .i64 s0) (.slice a0 len0 cap0)) := Lib.hid (Ta0_13.out.keep B14.out)
    obtain ⟨Ta0_14_l, Ta0_14_a, Ta0_14_b⟩ := Ta0_14.out
    clear Ta0_13 Ta0_13_l Ta0_13_a Ta0_13_b
    have Tx0_14 : Hid (Two w14 w4.heap.size (.int .i64 s0) (.slice b4 z0.length c4)) := Lib.hid (Tx0_13.out.keep B14.out)
    obtain ⟨Tx0_14_l, Tx0_14_a, Tx0_14_b⟩ := Tx0_14.out
    clear Tx0_13 Tx0_13_l Tx0_13_a Tx0_13_b
    have Op0_14 : Hid (Row w14 w1.heap.size w2.heap.size b2 z0.length c2 z0) := Lib.hid (Op0_13.out.keep B14.out)
    clear Op0_13
    have Om_14 : Hid (Row w14 w2.heap.size w3.heap.size b3 (vorB s0 z0).length c3 (vorB s0 z0)) := Lib.hid (Om_13.out.keep B14.out)
    clear Om_13
    have Ox0_14 : Hid (Row w14 w3.heap.size w4.heap.size b4 z0.length c4 (marks (1) z0.length)) := Lib.hid (Ox0_13.out.keep B14.out)
    clear Ox0_13
    have Og_14 : Hid (Row w14 (w4.heap.size + 1) w5.heap.size b5 (vorB s0 z0).length c5 (marks (1) (vorB s0 z0).length)) := Lib.hid (Og_13.out.keep B14.out)
    clear Og_13
    have Oy0_14 : Hid (Row w14 w12.heap.size w13.heap.size b13 z0.length c13 z0) := Lib.hid (Oy0_13.out.keep B14.out)
    clear Oy0_13
    have A14 : Hid (Below w.heap.size w w14) := Lib.hid (A13.out.trans (B14.out.mono A13.out.size))
    clear A13
    clear hown14 hb14
    go_wp2_with fail
    refine (eq_ints b14 b3 c14 c3 _ (vorB s0 z0) _ (Oh_14.out.at HZ.out) (Om_14.out.at HZ.out) (by omega)).mono ?_
    rintro e w15 ⟨rfl, hb15⟩
    have B15 : Hid (Below w14.heap.size w14 w15) := Lib.hid (hb15)
    have B15_size := B15.out.size
    have Ta0_15 : Hid (Two w15 w.heap.size (.int .i64 s0) (.slice a0 len0 cap0)) := Lib.hid (Ta0_14.out.keep B15.out)
    obtain ⟨Ta0_15_l, Ta0_15_a, Ta0_15_b⟩ := Ta0_15.out
    clear Ta0_14 Ta0_14_l Ta0_14_a Ta0_14_b
    have Tx0_15 : Hid (Two w15 w4.heap.size (.int .i64 s0) (.slice b4 z0.length c4)) := Lib.hid (Tx0_14.out.keep B15.out)
    obtain ⟨Tx0_15_l, Tx0_15_a, Tx0_15_b⟩ := Tx0_15.out
    clear Tx0_14 Tx0_14_l Tx0_14_a Tx0_14_b
    have Op0_15 : Hid (Row w15 w1.heap.size w2.heap.size b2 z0.length c2 z0) := Lib.hid (Op0_14.out.keep B15.out)
    clear Op0_14
    have Om_15 : Hid (Row w15 w2.heap.size w3.heap.size b3 (vorB s0 z0).length c3 (vorB s0 z0)) := Lib.hid (Om_14.out.keep B15.out)
    clear Om_14
    have Ox0_15 : Hid (Row w15 w3.heap.size w4.heap.size b4 z0.length c4 (marks (1) z0.length)) := Lib.hid (Ox0_14.out.keep B15.out)
    clear Ox0_14
    have Og_15 : Hid (Row w15 (w4.heap.size + 1) w5.heap.size b5 (vorB s0 z0).length c5 (marks (1) (vorB s0 z0).length)) := Lib.hid (Og_14.out.keep B15.out)
    clear Og_14
    have Oy0_15 : Hid (Row w15 w12.heap.size w13.heap.size b13 z0.length c13 z0) := Lib.hid (Oy0_14.out.keep B15.out)
    clear Oy0_14
    have Oh_15 : Hid (Row w15 w13.heap.size w14.heap.size b14 (vorB s0 z0).length c14 (vorB s0 z0)) := Lib.hid (Oh_14.out.keep B15.out)
    clear Oh_14
    have A15 : Hid (Below w.heap.size w w15) := Lib.hid (A14.out.trans (B15.out.mono A14.out.size))
    clear A14
    clear hb15
    go_wp2_with fail
    refine (held_ints (1) b5 c5 (vorB s0 z0).length _ (Og_15.out.at (marks_int _ _ (by omega))) (by omega) (by omega)).mono ?_
    rintro e w16 ⟨rfl, hb16⟩
    have B16 : Hid (Below w15.heap.size w15 w16) := Lib.hid (hb16)
    have B16_size := B16.out.size
    have Ta0_16 : Hid (Two w16 w.heap.size (.int .i64 s0) (.slice a0 len0 cap0)) := Lib.hid (Ta0_15.out.keep B16.out)
    obtain ⟨Ta0_16_l, Ta0_16_a, Ta0_16_b⟩ := Ta0_16.out
    clear Ta0_15 Ta0_15_l Ta0_15_a Ta0_15_b
    have Tx0_16 : Hid (Two w16 w4.heap.size (.int .i64 s0) (.slice b4 z0.length c4)) := Lib.hid (Tx0_15.out.keep B16.out)
    obtain ⟨Tx0_16_l, Tx0_16_a, Tx0_16_b⟩ := Tx0_16.out
    clear Tx0_15 Tx0_15_l Tx0_15_a Tx0_15_b
    have Op0_16 : Hid (Row w16 w1.heap.size w2.heap.size b2 z0.length c2 z0) := Lib.hid (Op0_15.out.keep B16.out)
    clear Op0_15
    have Om_16 : Hid (Row w16 w2.heap.size w3.heap.size b3 (vorB s0 z0).length c3 (vorB s0 z0)) := Lib.hid (Om_15.out.keep B16.out)
    clear Om_15
    have Ox0_16 : Hid (Row w16 w3.heap.size w4.heap.size b4 z0.length c4 (marks (1) z0.length)) := Lib.hid (Ox0_15.out.keep B16.out)
    clear Ox0_15
    have Og_16 : Hid (Row w16 (w4.heap.size + 1) w5.heap.size b5 (vorB s0 z0).length c5 (marks (1) (vorB s0 z0).length)) := Lib.hid (Og_15.out.keep B16.out)
    clear Og_15
    have Oy0_16 : Hid (Row w16 w12.heap.size w13.heap.size b13 z0.length c13 z0) := Lib.hid (Oy0_15.out.keep B16.out)
    clear Oy0_15
    have Oh_16 : Hid (Row w16 w13.heap.size w14.heap.size b14 (vorB s0 z0).length c14 (vorB s0 z0)) := Lib.hid (Oh_15.out.keep B16.out)
    clear Oh_15
    have A16 : Hid (Below w.heap.size w w16) := Lib.hid (A15.out.trans (B16.out.mono A15.out.size))
    clear A15
    clear hb16
    go_wp2
    go_ret
    exact ⟨rfl, A16.out⟩

set_option maxRecDepth 100000 in
theorem lifted (os : Os) (started : os.Started) (H : Type) (enc : TypeId × Value → H) :
    ReturnsInHanded {} Try.checked os 11 .any (Rows.fnExactVanishingOrdersSpec.pre6 enc Try.prog Try.f11 Rows.fnExactVanishingOrdersRow.domain false) (Rows.fnExactVanishingOrdersSpec.post enc Try.prog Try.f11 false true false false) := by
  refine returnsInHanded_of_change (C := Try.checked) own started (by kernel_rfl) Try.func11
    (ChangeSpec.witness6 (enc := enc) (C := Try.checked) false ⟨#[], #[.agg #[.int .i64 0, .slice none 0 0]], []⟩ 8 (by kernel_rfl) (by kernel_rfl) (by kernel_rfl) (by kernel_rfl)) ?_
  intro W base args ds gs before hval0 hW hcnd _
  have hval : ∀ (j : Nat) t v, Try.f11.params[j]? = some t → args[j]? = some v → Value.okWide Try.prog W .any base t v := hval0
  have hW' := hW
  obtain ⟨p, q, hA0, hV, rfl, hfz, hnd⟩ := hW
  have hA : DataW.TrodAll enc Try.prog W 0 (fun _ => true) true Try.f11.params.toList args.toList ds p := hA0
  rw [Try.params11] at hA hval
  obtain ⟨v0, vs0, d0, ds0, p0, q0, hargs, rfl, rfl, h0, r0⟩ := trodAll_cons hA
  obtain ⟨rfl, rfl, rfl⟩ := trodAll_nil r0
  obtain rfl : args = #[v0] := by cases args; simp_all
  obtain ⟨rfl, rfl⟩ := trodVars_none hV
  have k0 := h0
  have lt0 : ∀ x ∈ p0, x.block < W.heap.size := by obtain ⟨m, hm⟩ := k0; exact DataW.trod_lt m _ _ _ hm
  obtain ⟨s0, a0, len0, cap0, z0, rfl, w0⟩ := opened (hval 0 44 v0 rfl rfl) h0
  clear hA0 hval0
  refine (walk s0 a0 len0 cap0 z0 W w0).mono fun e W' ⟨he, bel⟩ => ?_
  subst he
  exact ⟨_, rfl, _, _, _, [], _, [], hW', trodAll_mk1 (shut_bool Try.underlying4 _), (trodAll_cons_mk (Below.trod laidOut (by kernel_rfl) (of_decide_eq_true (by kernel_rfl)) k0 bel lt0) trodAll_mk0), rfl, bel.frame _, fun h => by cases h⟩

theorem proved : Rows.FnExactVanishingOrdersSaid :=
  OpenClaim.holds_of_wide 11 Try.f11 rfl rfl rfl rfl rfl rfl rfl ⟨rfl, rfl, rfl, rfl, rfl⟩ rfl rfl rfl rfl rfl (by kernel_rfl) Try.func11 (by kernel_rfl)
    (of_decide_eq_true (by kernel_rfl)) (by unfold Func.isWrapper; rw [if_neg (of_decide_eq_false (by kernel_rfl))]; exact ⟨rfl, rfl⟩)
    (fun os started H enc _ => lifted os started H enc)
#print axioms proved
end Go.Proofs.Ytoejafpijcacoaa.fnExactVanishingOrders
