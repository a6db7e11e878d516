/-
  'OrdersLeft' of the program answers, at every two rhythms, as its model does, leaves its arguments as they were, and owns the memory of its answer. No condition.
-/
import Derived.Test.YtdpcabiajhfllaaOrl
import Derived.Test.YtdpcabiajhfllaaOpen
import Derived.Deep.RegionHeld3
import Derived.ProofKit
namespace Go.Proofs.Ytdpcabiajhfllaa.fnExactOrdersLeft
open Go.ChangeShapes Go.WideShapes Go.ChangeAt Go.RowKit Rhy
set_option linter.unusedVariables false


set_option maxHeartbeats 1000000 in
set_option maxRecDepth 100000 in
theorem walk (s0 : Int) (a0 : Option Addr) (len0 cap0 : Nat) (z0 : List Int) (s1 : Int) (a1 : Option Addr) (len1 cap1 : Nat) (z1 : List Int) (w : World) (w0 : Opened w s0 a0 len0 z0) (w1 : Opened w s1 a1 len1 z1) :
    Calls Try.prog 10 #[rhy s0 a0 len0 cap0, rhy s1 a1 len1 cap1] w fun e w' => e = .returned (.bool true) ∧ Below w.heap.size w w' := by
  obtain ⟨i0, m0, sl0, su0⟩ := w0
  have HS0 := Lib.hid i0
  clear i0
  obtain ⟨i1, m1, sl1, su1⟩ := w1
  have HS1 := Lib.hid i1
  clear i1
  go_enter Try.func10, Try.ntmps10
  go_wp2_with fail
  refine (size_rhythm s0 _ a0 len0 cap0 _ m0 (by omega) (by omega)).mono ?_
  rintro e w1 ⟨⟨r0, rfl, hr | ⟨hr, hlen0, he0⟩, h1, h2⟩, hb1⟩
  · have HB1 := Lib.hid hb1
    clear hb1
    go_wp2
    go_ret
    exact ⟨rfl, (bel2 w (.cells #[.int .i64 s0, .slice a0 len0 cap0] 26) (.cells #[.int .i64 s1, .slice a1 len1 cap1] 26)).trans (HB1.out.mono (bel2 w (.cells #[.int .i64 s0, .slice a0 len0 cap0] 26) (.cells #[.int .i64 s1, .slice a1 len1 cap1] 26)).size)⟩
  · have hr0 : ¬ r0 < 0 := by omega
    have le0 : len0 ≤ 1048576 := by omega
    have lz0 : z0.length ≤ 1048576 := by have := HS0.out.1; omega
    have hq0 : 0 ≤ r0 := hr
    have hq'0 : r0 ≤ 1048576 := by omega
    clear he0 hr h1 h2
    have p1 := Lib.hid (bel2 w (.cells #[.int .i64 s0, .slice a0 len0 cap0] 26) (.cells #[.int .i64 s1, .slice a1 len1 cap1] 26))
    have B1 : Hid (Below w.heap.size w w1) := Lib.hid (p1.out.trans (hb1.mono p1.out.size))
    have B1_size := B1.out.size
    have pz1 : w.heap.size + 2 ≤ w1.heap.size := by have := hb1.size; simp at this; omega
    have Ta0_1 : Hid (Two w1 w.heap.size (.int .i64 s0) (.slice a0 len0 cap0)) := Lib.hid (((two_new w (.int .i64 s0) (.slice a0 len0 cap0) 26).keep (bel1 _ (.cells #[.int .i64 s1, .slice a1 len1 cap1] 26))).keep hb1)
    obtain ⟨Ta0_1_l, Ta0_1_a, Ta0_1_b⟩ := Ta0_1.out
    have Ta1_1 : Hid (Two w1 (w.heap.size + 1) (.int .i64 s1) (.slice a1 len1 cap1)) := Lib.hid (by simpa using ((two_new (w.alloc (.cells #[.int .i64 s0, .slice a0 len0 cap0] 26)) (.int .i64 s1) (.slice a1 len1 cap1) 26).keep hb1 : Two _ _ _ _))
    obtain ⟨Ta1_1_l, Ta1_1_a, Ta1_1_b⟩ := Ta1_1.out
    have A1 : Hid (Below w.heap.size w w1) := Lib.hid (B1.out)
    clear hb1
    go_wp2_with fail
    refine (size_rhythm s1 _ a1 len1 cap1 _ m1 (by omega) (by omega)).mono ?_
    rintro e w2 ⟨⟨r1, rfl, hr | ⟨hr, hlen1, he1⟩, h1, h2⟩, hb2⟩
    · have HB2 := Lib.hid hb2
      clear hb2
      go_wp2
      go_ret
      exact ⟨rfl, A1.out.trans (HB2.out.mono A1.out.size)⟩
    · have hr1 : ¬ r1 < 0 := by omega
      have le1 : len1 ≤ 1048576 := by omega
      have lz1 : z1.length ≤ 1048576 := by have := HS1.out.1; omega
      have hq1 : 0 ≤ r1 := hr
      have hq'1 : r1 ≤ 1048576 := by omega
      clear he1 hr h1 h2
      have B2 : Hid (Below w1.heap.size w1 w2) := Lib.hid (hb2)
      have B2_size := B2.out.size
      have Ta0_2 : Hid (Two w2 w.heap.size (.int .i64 s0) (.slice a0 len0 cap0)) := Lib.hid (Ta0_1.out.keep B2.out)
      obtain ⟨Ta0_2_l, Ta0_2_a, Ta0_2_b⟩ := Ta0_2.out
      clear Ta0_1 Ta0_1_l Ta0_1_a Ta0_1_b
      have Ta1_2 : Hid (Two w2 (w.heap.size + 1) (.int .i64 s1) (.slice a1 len1 cap1)) := Lib.hid (Ta1_1.out.keep B2.out)
      obtain ⟨Ta1_2_l, Ta1_2_a, Ta1_2_b⟩ := Ta1_2.out
      clear Ta1_1 Ta1_1_l Ta1_1_a Ta1_1_b
      have A2 : Hid (Below w.heap.size w w2) := Lib.hid (A1.out.trans (B2.out.mono A1.out.size))
      clear A1
      clear hb2
      have HZ : Hid (AllInt (orlB s0 z0 s1 z1)) := Lib.hid (orlB_int s0 z0 s1 z1)
      have hzl : (orlB s0 z0 s1 z1).length ≤ 1048576 := Nat.le_trans (orlB_len s0 z0 s1 z1) (by omega)
      go_wp2
      have HK : Hid (∀ W, Below w2.heap.size w2 W → W.cell? ⟨w.heap.size, 0, none⟩ = some (.int .i64 s0) ∧ W.cell? ⟨w.heap.size, 1, none⟩ = some (.slice a0 len0 cap0) ∧ W.cell? ⟨(w.heap.size + 1), 0, none⟩ = some (.int .i64 s1) ∧ W.cell? ⟨(w.heap.size + 1), 1, none⟩ = some (.slice a1 len1 cap1) ∧ Below w2.heap.size w2 W) := Lib.hid (fun W hW => ⟨(Ta0_2.out.keep hW).2.1, (Ta0_2.out.keep hW).2.2, (Ta1_2.out.keep hW).2.1, (Ta1_2.out.keep hW).2.2, hW⟩)
      have HT0 : Hid (∀ W, Below w2.heap.size w2 W → IntsAt W a0 len0 z0) := Lib.hid (fun W hW => HS0.out.below (A2.out.trans (hW.mono A2.out.size)))
      have HT1 : Hid (∀ W, Below w2.heap.size w2 W → IntsAt W a1 len1 z1) := Lib.hid (fun W hW => HS1.out.below (A2.out.trans (hW.mono A2.out.size)))
      go_region_held3 (fun w' => w'.cell? ⟨w.heap.size, 0, none⟩ = some (.int .i64 s0) ∧ w'.cell? ⟨w.heap.size, 1, none⟩ = some (.slice a0 len0 cap0) ∧ w'.cell? ⟨(w.heap.size + 1), 0, none⟩ = some (.int .i64 s1) ∧ w'.cell? ⟨(w.heap.size + 1), 1, none⟩ = some (.slice a1 len1 cap1) ∧ Below w2.heap.size w2 w')
        (first | exact HK.out _ (Below.refl _ _).drew | exact HK.out _ hb3 | exact HK.out _ hb4 | exact HK.out _ hb5)
        ((first
          | (go_at_call 15; ((with_reducible refine (to_rhythm s0 a0 len0 cap0 z0 _ (HT0.out _ ((Below.refl _ _).drew)) le0).mono ?_); rintro e w3 ⟨b3, c3, rfl, hown3, hc3⟩; have hn3 := row_of hown3; have hb3 := (Below.refl w2.heap.size w2).drew.trans hc3; clear hown3 hc3))
          | (go_at_call 15; ((with_reducible refine (to_rhythm s1 a1 len1 cap1 z1 _ (HT1.out _ (hb3)) le1).mono ?_); rintro e w4 ⟨b4, c4, rfl, hown4, hc4⟩; have hn4 := row_of hown4; have hk4 := hc4; have hb4 := hb3.trans (hc4.mono hb3.size); clear hown4 hc4))
          | (go_at_call 33; ((with_reducible refine (orl_spec s0 b3 z0.length c3 z0 s1 b4 z1.length c4 z1 _ ((hn3.at HS0.out.int).below hk4) lz0 (hn4.at HS1.out.int) lz1).mono ?_); rintro e w5 ⟨b5, c5, rfl, hown5, hc5⟩; have hb5 := hb4.trans (hc5.mono hb4.size); clear hc5; have hn5 := row_of (own_base hown5 hb4.size)))))
      rename_i hHeld
      clear hHeld HK HT0 HT1
      have Om_5 : Hid (Row w5 w2.heap.size w5.heap.size b5 (orlB s0 z0 s1 z1).length c5 (orlB s0 z0 s1 z1)) := Lib.hid hn5
      have B5 : Hid (Below w2.heap.size w2 w5) := Lib.hid (hb5)
      have B5_size := B5.out.size
      have Ta0_5 : Hid (Two w5 w.heap.size (.int .i64 s0) (.slice a0 len0 cap0)) := Lib.hid (Ta0_2.out.keep B5.out)
      obtain ⟨Ta0_5_l, Ta0_5_a, Ta0_5_b⟩ := Ta0_5.out
      clear Ta0_2 Ta0_2_l Ta0_2_a Ta0_2_b
      have Ta1_5 : Hid (Two w5 (w.heap.size + 1) (.int .i64 s1) (.slice a1 len1 cap1)) := Lib.hid (Ta1_2.out.keep B5.out)
      obtain ⟨Ta1_5_l, Ta1_5_a, Ta1_5_b⟩ := Ta1_5.out
      clear Ta1_2 Ta1_2_l Ta1_2_a Ta1_2_b
      have A5 : Hid (Below w.heap.size w w5) := Lib.hid (A2.out.trans (B5.out.mono A2.out.size))
      clear A2
      clear hn5
      clear hb3 hb4 hb5 hn3 hn4 hk4
      go_wp2_with fail
      refine (to_rhythm s0 a0 len0 cap0 z0 _ (HS0.out.below A5.out) le0).mono ?_
      rintro e w6 ⟨b6, c6, rfl, hown6, hb6⟩
      have Ox0_6 : Hid (Row w6 w5.heap.size w6.heap.size b6 z0.length c6 z0) := Lib.hid (row_of (own_base hown6 (Nat.le_refl _)))
      have B6 : Hid (Below w5.heap.size w5 w6) := Lib.hid (hb6)
      have B6_size := B6.out.size
      have Ta0_6 : Hid (Two w6 w.heap.size (.int .i64 s0) (.slice a0 len0 cap0)) := Lib.hid (Ta0_5.out.keep B6.out)
      obtain ⟨Ta0_6_l, Ta0_6_a, Ta0_6_b⟩ := Ta0_6.out
      clear Ta0_5 Ta0_5_l Ta0_5_a Ta0_5_b
      have Ta1_6 : Hid (Two w6 (w.heap.size + 1) (.int .i64 s1) (.slice a1 len1 cap1)) := Lib.hid (Ta1_5.out.keep B6.out)
      obtain ⟨Ta1_6_l, Ta1_6_a, Ta1_6_b⟩ := Ta1_6.out
      clear Ta1_5 Ta1_5_l Ta1_5_a Ta1_5_b
      have Om_6 : Hid (Row w6 w2.heap.size w5.heap.size b5 (orlB s0 z0 s1 z1).length c5 (orlB s0 z0 s1 z1)) := Lib.hid (Om_5.out.keep B6.out)
      clear Om_5
      have A6 : Hid (Below w.heap.size w w6) := Lib.hid (A5.out.trans (B6.out.mono A5.out.size))
      clear A5
      clear hown6 hb6
      go_wp2_with fail
      refine (to_rhythm s1 a1 len1 cap1 z1 _ ((HS1.out.below A6.out).below (bel1 _ (.cells #[.int .i64 s0, .slice b6 z0.length c6] 29))) le1).mono ?_
      rintro e w7 ⟨b7, c7, rfl, hown7, hb7⟩
      have Ox1_7 : Hid (Row w7 (w6.heap.size + 1) w7.heap.size b7 z1.length c7 z1) := Lib.hid (row_of (own_base hown7 (by simp)))
      have p7 := Lib.hid (bel1 w6 (.cells #[.int .i64 s0, .slice b6 z0.length c6] 29))
      have B7 : Hid (Below w6.heap.size w6 w7) := Lib.hid (p7.out.trans (hb7.mono p7.out.size))
      have B7_size := B7.out.size
      have pz7 : w6.heap.size + 1 ≤ w7.heap.size := by have := hb7.size; simp at this; omega
      have Ta0_7 : Hid (Two w7 w.heap.size (.int .i64 s0) (.slice a0 len0 cap0)) := Lib.hid (Ta0_6.out.keep B7.out)
      obtain ⟨Ta0_7_l, Ta0_7_a, Ta0_7_b⟩ := Ta0_7.out
      clear Ta0_6 Ta0_6_l Ta0_6_a Ta0_6_b
      have Ta1_7 : Hid (Two w7 (w.heap.size + 1) (.int .i64 s1) (.slice a1 len1 cap1)) := Lib.hid (Ta1_6.out.keep B7.out)
      obtain ⟨Ta1_7_l, Ta1_7_a, Ta1_7_b⟩ := Ta1_7.out
      clear Ta1_6 Ta1_6_l Ta1_6_a Ta1_6_b
      have Tx0_7 : Hid (Two w7 w6.heap.size (.int .i64 s0) (.slice b6 z0.length c6)) := Lib.hid ((two_new w6 (.int .i64 s0) (.slice b6 z0.length c6) 29).keep hb7)
      obtain ⟨Tx0_7_l, Tx0_7_a, Tx0_7_b⟩ := Tx0_7.out
      have Om_7 : Hid (Row w7 w2.heap.size w5.heap.size b5 (orlB s0 z0 s1 z1).length c5 (orlB s0 z0 s1 z1)) := Lib.hid (Om_6.out.keep B7.out)
      clear Om_6
      have Ox0_7 : Hid (Row w7 w5.heap.size w6.heap.size b6 z0.length c6 z0) := Lib.hid (Ox0_6.out.keep B7.out)
      clear Ox0_6
      have A7 : Hid (Below w.heap.size w w7) := Lib.hid (A6.out.trans (B7.out.mono A6.out.size))
      clear A6
      clear hown7 hb7
      go_wp2_with fail
      refine (orl_impl s0 b6 z0.length c6 z0 s1 b7 z1.length c7 z1 _ ((Ox0_7.out.at HS0.out.int).below (bel1 _ (.cells #[.int .i64 s1, .slice b7 z1.length c7] 29))) lz0 ((Ox1_7.out.at HS1.out.int).below (bel1 _ (.cells #[.int .i64 s1, .slice b7 z1.length c7] 29))) lz1).mono ?_
      rintro e w8 ⟨b8, c8, rfl, hown8, hb8⟩
      have Og_8 : Hid (Row w8 (w7.heap.size + 1) w8.heap.size b8 (orlB s0 z0 s1 z1).length c8 (orlB s0 z0 s1 z1)) := Lib.hid (row_of (own_base hown8 (by simp)))
      have p8 := Lib.hid (bel1 w7 (.cells #[.int .i64 s1, .slice b7 z1.length c7] 29))
      have B8 : Hid (Below w7.heap.size w7 w8) := Lib.hid (p8.out.trans (hb8.mono p8.out.size))
      have B8_size := B8.out.size
      have pz8 : w7.heap.size + 1 ≤ w8.heap.size := by have := hb8.size; simp at this; omega
      have Ta0_8 : Hid (Two w8 w.heap.size (.int .i64 s0) (.slice a0 len0 cap0)) := Lib.hid (Ta0_7.out.keep B8.out)
      obtain ⟨Ta0_8_l, Ta0_8_a, Ta0_8_b⟩ := Ta0_8.out
      clear Ta0_7 Ta0_7_l Ta0_7_a Ta0_7_b
      have Ta1_8 : Hid (Two w8 (w.heap.size + 1) (.int .i64 s1) (.slice a1 len1 cap1)) := Lib.hid (Ta1_7.out.keep B8.out)
      obtain ⟨Ta1_8_l, Ta1_8_a, Ta1_8_b⟩ := Ta1_8.out
      clear Ta1_7 Ta1_7_l Ta1_7_a Ta1_7_b
      have Tx0_8 : Hid (Two w8 w6.heap.size (.int .i64 s0) (.slice b6 z0.length c6)) := Lib.hid (Tx0_7.out.keep B8.out)
      obtain ⟨Tx0_8_l, Tx0_8_a, Tx0_8_b⟩ := Tx0_8.out
      clear Tx0_7 Tx0_7_l Tx0_7_a Tx0_7_b
      have Tx1_8 : Hid (Two w8 w7.heap.size (.int .i64 s1) (.slice b7 z1.length c7)) := Lib.hid ((two_new w7 (.int .i64 s1) (.slice b7 z1.length c7) 29).keep hb8)
      obtain ⟨Tx1_8_l, Tx1_8_a, Tx1_8_b⟩ := Tx1_8.out
      have Om_8 : Hid (Row w8 w2.heap.size w5.heap.size b5 (orlB s0 z0 s1 z1).length c5 (orlB s0 z0 s1 z1)) := Lib.hid (Om_7.out.keep B8.out)
      clear Om_7
      have Ox0_8 : Hid (Row w8 w5.heap.size w6.heap.size b6 z0.length c6 z0) := Lib.hid (Ox0_7.out.keep B8.out)
      clear Ox0_7
      have Ox1_8 : Hid (Row w8 (w6.heap.size + 1) w7.heap.size b7 z1.length c7 z1) := Lib.hid (Ox1_7.out.keep B8.out)
      clear Ox1_7
      have A8 : Hid (Below w.heap.size w w8) := Lib.hid (A7.out.trans (B8.out.mono A7.out.size))
      clear A7
      clear hown8 hb8
      go_wp2_with fail
      refine (eq_ints b8 b5 c8 c5 _ (orlB s0 z0 s1 z1) _ (Og_8.out.at HZ.out) (Om_8.out.at HZ.out) (by omega)).mono ?_
      rintro e w9 ⟨rfl, hb9⟩
      have B9 : Hid (Below w8.heap.size w8 w9) := Lib.hid (hb9)
      have B9_size := B9.out.size
      have Ta0_9 : Hid (Two w9 w.heap.size (.int .i64 s0) (.slice a0 len0 cap0)) := Lib.hid (Ta0_8.out.keep B9.out)
      obtain ⟨Ta0_9_l, Ta0_9_a, Ta0_9_b⟩ := Ta0_9.out
      clear Ta0_8 Ta0_8_l Ta0_8_a Ta0_8_b
      have Ta1_9 : Hid (Two w9 (w.heap.size + 1) (.int .i64 s1) (.slice a1 len1 cap1)) := Lib.hid (Ta1_8.out.keep B9.out)
      obtain ⟨Ta1_9_l, Ta1_9_a, Ta1_9_b⟩ := Ta1_9.out
      clear Ta1_8 Ta1_8_l Ta1_8_a Ta1_8_b
      have Tx0_9 : Hid (Two w9 w6.heap.size (.int .i64 s0) (.slice b6 z0.length c6)) := Lib.hid (Tx0_8.out.keep B9.out)
      obtain ⟨Tx0_9_l, Tx0_9_a, Tx0_9_b⟩ := Tx0_9.out
      clear Tx0_8 Tx0_8_l Tx0_8_a Tx0_8_b
      have Tx1_9 : Hid (Two w9 w7.heap.size (.int .i64 s1) (.slice b7 z1.length c7)) := Lib.hid (Tx1_8.out.keep B9.out)
      obtain ⟨Tx1_9_l, Tx1_9_a, Tx1_9_b⟩ := Tx1_9.out
      clear Tx1_8 Tx1_8_l Tx1_8_a Tx1_8_b
      have Om_9 : Hid (Row w9 w2.heap.size w5.heap.size b5 (orlB s0 z0 s1 z1).length c5 (orlB s0 z0 s1 z1)) := Lib.hid (Om_8.out.keep B9.out)
      clear Om_8
      have Ox0_9 : Hid (Row w9 w5.heap.size w6.heap.size b6 z0.length c6 z0) := Lib.hid (Ox0_8.out.keep B9.out)
      clear Ox0_8
      have Ox1_9 : Hid (Row w9 (w6.heap.size + 1) w7.heap.size b7 z1.length c7 z1) := Lib.hid (Ox1_8.out.keep B9.out)
      clear Ox1_8
      have Og_9 : Hid (Row w9 (w7.heap.size + 1) w8.heap.size b8 (orlB s0 z0 s1 z1).length c8 (orlB s0 z0 s1 z1)) := Lib.hid (Og_8.out.keep B9.out)
      clear Og_8
      have A9 : Hid (Below w.heap.size w w9) := Lib.hid (A8.out.trans (B9.out.mono A8.out.size))
      clear A8
      clear hb9
      go_wp2
      have HT : Hid (∀ W, Below w9.heap.size w9 W → IntsAt W a0 len0 z0) := Lib.hid (fun W hW => HS0.out.below (A9.out.trans (hW.mono A9.out.size)))
      have HK : Hid (∀ W, Below w9.heap.size w9 W → W.cell? ⟨w.heap.size, 0, none⟩ = some (.int .i64 s0) ∧ W.cell? ⟨w.heap.size, 1, none⟩ = some (.slice a0 len0 cap0) ∧ W.cell? ⟨w6.heap.size, 0, none⟩ = some (.int .i64 s0) ∧ W.cell? ⟨w6.heap.size, 1, none⟩ = some (.slice b6 z0.length c6) ∧ Below w9.heap.size w9 W) := Lib.hid (fun W hW => ⟨(Ta0_9.out.keep hW).2.1, (Ta0_9.out.keep hW).2.2, (Tx0_9.out.keep hW).2.1, (Tx0_9.out.keep hW).2.2, hW⟩)
      have HX : Hid (∀ W, Below w9.heap.size w9 W → Row W w5.heap.size w6.heap.size b6 z0.length c6 z0) := Lib.hid (fun W hW => Ox0_9.out.keep hW)
      go_region_held3 (fun w' => w'.cell? ⟨w.heap.size, 0, none⟩ = some (.int .i64 s0) ∧ w'.cell? ⟨w.heap.size, 1, none⟩ = some (.slice a0 len0 cap0) ∧ w'.cell? ⟨w6.heap.size, 0, none⟩ = some (.int .i64 s0) ∧ w'.cell? ⟨w6.heap.size, 1, none⟩ = some (.slice b6 z0.length c6) ∧ Below w9.heap.size w9 w')
        (first | exact HK.out _ (Below.refl _ _).drew | exact HK.out _ hb10 | exact HK.out _ hb11)
        ((first
          | (go_at_call 15; refine (to_rhythm s0 a0 len0 cap0 z0 _ (HT.out _ (Below.refl _ _).drew) le0).mono ?_; rintro e w10 ⟨b10, c10, rfl, hown10, hc10⟩; have HO10 := Lib.hid hown10; have hb10 := (Below.refl w9.heap.size w9).drew.trans hc10; clear hown10 hc10)
          | (go_at_call 18; refine (eq_rhythm s0 b6 _ c6 _ z0.length z0 _ ((HX.out _ hb10).at HS0.out.int) (intsAt_own HO10.out HS0.out.int) (by omega)).mono ?_; rintro e w11 ⟨rfl, hc11⟩; have hb11 := hb10.trans (hc11.mono hb10.size); clear hc11)))
      clear HT HK HX hb10 HO10
      rename_i hHeld
      clear hHeld
      have B11 : Hid (Below w9.heap.size w9 w11) := Lib.hid (hb11)
      have B11_size := B11.out.size
      have Ta0_11 : Hid (Two w11 w.heap.size (.int .i64 s0) (.slice a0 len0 cap0)) := Lib.hid (Ta0_9.out.keep B11.out)
      obtain ⟨Ta0_11_l, Ta0_11_a, Ta0_11_b⟩ := Ta0_11.out
      clear Ta0_9 Ta0_9_l Ta0_9_a Ta0_9_b
      have Ta1_11 : Hid (Two w11 (w.heap.size + 1) (.int .i64 s1) (.slice a1 len1 cap1)) := Lib.hid (Ta1_9.out.keep B11.out)
      obtain ⟨Ta1_11_l, Ta1_11_a, Ta1_11_b⟩ := Ta1_11.out
      clear Ta1_9 Ta1_9_l Ta1_9_a Ta1_9_b
      have Tx0_11 : Hid (Two w11 w6.heap.size (.int .i64 s0) (.slice b6 z0.length c6)) := Lib.hid (Tx0_9.out.keep B11.out)
      obtain ⟨Tx0_11_l, Tx0_11_a, Tx0_11_b⟩ := Tx0_11.out
      clear Tx0_9 Tx0_9_l Tx0_9_a Tx0_9_b
      have Tx1_11 : Hid (Two w11 w7.heap.size (.int .i64 s1) (.slice b7 z1.length c7)) := Lib.hid (Tx1_9.out.keep B11.out)
      obtain ⟨Tx1_11_l, Tx1_11_a, Tx1_11_b⟩ := Tx1_11.out
      clear Tx1_9 Tx1_9_l Tx1_9_a Tx1_9_b
      have Om_11 : Hid (Row w11 w2.heap.size w5.heap.size b5 (orlB s0 z0 s1 z1).length c5 (orlB s0 z0 s1 z1)) := Lib.hid (Om_9.out.keep B11.out)
      clear Om_9
      have Ox0_11 : Hid (Row w11 w5.heap.size w6.heap.size b6 z0.length c6 z0) := Lib.hid (Ox0_9.out.keep B11.out)
      clear Ox0_9
      have Ox1_11 : Hid (Row w11 (w6.heap.size + 1) w7.heap.size b7 z1.length c7 z1) := Lib.hid (Ox1_9.out.keep B11.out)
      clear Ox1_9
      have Og_11 : Hid (Row w11 (w7.heap.size + 1) w8.heap.size b8 (orlB s0 z0 s1 z1).length c8 (orlB s0 z0 s1 z1)) := Lib.hid (Og_9.out.keep B11.out)
      clear Og_9
      have A11 : Hid (Below w.heap.size w w11) := Lib.hid (A9.out.trans (B11.out.mono A9.out.size))
      clear A9
      clear hb11
      go_wp2
      have HT : Hid (∀ W, Below w11.heap.size w11 W → IntsAt W a1 len1 z1) := Lib.hid (fun W hW => HS1.out.below (A11.out.trans (hW.mono A11.out.size)))
      have HK : Hid (∀ W, Below w11.heap.size w11 W → W.cell? ⟨(w.heap.size + 1), 0, none⟩ = some (.int .i64 s1) ∧ W.cell? ⟨(w.heap.size + 1), 1, none⟩ = some (.slice a1 len1 cap1) ∧ W.cell? ⟨w7.heap.size, 0, none⟩ = some (.int .i64 s1) ∧ W.cell? ⟨w7.heap.size, 1, none⟩ = some (.slice b7 z1.length c7) ∧ Below w11.heap.size w11 W) := Lib.hid (fun W hW => ⟨(Ta1_11.out.keep hW).2.1, (Ta1_11.out.keep hW).2.2, (Tx1_11.out.keep hW).2.1, (Tx1_11.out.keep hW).2.2, hW⟩)
      have HX : Hid (∀ W, Below w11.heap.size w11 W → Row W (w6.heap.size + 1) w7.heap.size b7 z1.length c7 z1) := Lib.hid (fun W hW => Ox1_11.out.keep hW)
      go_region_held3 (fun w' => w'.cell? ⟨(w.heap.size + 1), 0, none⟩ = some (.int .i64 s1) ∧ w'.cell? ⟨(w.heap.size + 1), 1, none⟩ = some (.slice a1 len1 cap1) ∧ w'.cell? ⟨w7.heap.size, 0, none⟩ = some (.int .i64 s1) ∧ w'.cell? ⟨w7.heap.size, 1, none⟩ = some (.slice b7 z1.length c7) ∧ Below w11.heap.size w11 w')
        (first | exact HK.out _ (Below.refl _ _).drew | exact HK.out _ hb12 | exact HK.out _ hb13)
        ((first
          | (go_at_call 15; refine (to_rhythm s1 a1 len1 cap1 z1 _ (HT.out _ (Below.refl _ _).drew) le1).mono ?_; rintro e w12 ⟨b12, c12, rfl, hown12, hc12⟩; have HO12 := Lib.hid hown12; have hb12 := (Below.refl w11.heap.size w11).drew.trans hc12; clear hown12 hc12)
          | (go_at_call 18; refine (eq_rhythm s1 b7 _ c7 _ z1.length z1 _ ((HX.out _ hb12).at HS1.out.int) (intsAt_own HO12.out HS1.out.int) (by omega)).mono ?_; rintro e w13 ⟨rfl, hc13⟩; have hb13 := hb12.trans (hc13.mono hb12.size); clear hc13)))
      clear HT HK HX hb12 HO12
      rename_i hHeld
      clear hHeld
      have B13 : Hid (Below w11.heap.size w11 w13) := Lib.hid (hb13)
      have B13_size := B13.out.size
      have Ta0_13 : Hid (Two w13 w.heap.size (.int .i64 s0) (.slice a0 len0 cap0)) := Lib.hid (Ta0_11.out.keep B13.out)
      obtain ⟨Ta0_13_l, Ta0_13_a, Ta0_13_b⟩ := Ta0_13.out
      clear Ta0_11 Ta0_11_l Ta0_11_a Ta0_11_b
      have Ta1_13 : Hid (Two w13 (w.heap.size + 1) (.int .i64 s1) (.slice a1 len1 cap1)) := Lib.hid (Ta1_11.out.keep B13.out)
      obtain ⟨Ta1_13_l, Ta1_13_a, Ta1_13_b⟩ := Ta1_13.out
      clear Ta1_11 Ta1_11_l Ta1_11_a Ta1_11_b
      have Tx0_13 : Hid (Two w13 w6.heap.size (.int .i64 s0) (.slice b6 z0.length c6)) := Lib.hid (Tx0_11.out.keep B13.out)
      obtain ⟨Tx0_13_l, Tx0_13_a, Tx0_13_b⟩ := Tx0_13.out
      clear Tx0_11 Tx0_11_l Tx0_11_a Tx0_11_b
      have Tx1_13 : Hid (Two w13 w7.heap.size (.int .i64 s1) (.slice b7 z1.length c7)) := Lib.hid (Tx1_11.out.keep B13.out)
      obtain ⟨Tx1_13_l, Tx1_13_a, Tx1_13_b⟩ := Tx1_13.out
      clear Tx1_11 Tx1_11_l Tx1_11_a Tx1_11_b
      have Om_13 : Hid (Row w13 w2.heap.size w5.heap.size b5 (orlB s0 z0 s1 z1).length c5 (orlB s0 z0 s1 z1)) := Lib.hid (Om_11.out.keep B13.out)
      clear Om_11
      have Ox0_13 : Hid (Row w13 w5.heap.size w6.heap.size b6 z0.length c6 z0) := Lib.hid (Ox0_11.out.keep B13.out)
      clear Ox0_11
      have Ox1_13 : Hid (Row w13 (w6.heap.size + 1) w7.heap.size b7 z1.length c7 z1) := Lib.hid (Ox1_11.out.keep B13.out)
      clear Ox1_11
      have Og_13 : Hid (Row w13 (w7.heap.size + 1) w8.heap.size b8 (orlB s0 z0 s1 z1).length c8 (orlB s0 z0 s1 z1)) := Lib.hid (Og_11.out.keep B13.out)
      clear Og_11
      have A13 : Hid (Below w.heap.size w w13) := Lib.hid (A11.out.trans (B13.out.mono A11.out.size))
      clear A11
      clear hb13
      go_wp2_with fail
      refine (mark_rhythm w5.heap.size w6.heap.size (1) _ b6 c6 _ _ _ Ox0_13.out (by omega) (by omega)).mono ?_
      rintro e w14 ⟨rfl, hown14, hb14⟩
      have B14 : Hid (Within w5.heap.size w6.heap.size w13 w14) := Lib.hid (hb14)
      have B14_size := B14.out.size
      have Ta0_14 : Hid (Two w14 w.heap.size (.int .i64 s0) (.slice a0 len0 cap0)) := Lib.hid (Ta0_13.out.within B14.out (by omega))
      obtain ⟨Ta0_14_l, Ta0_14_a, Ta0_14_b⟩ := Ta0_14.out
      clear Ta0_13 Ta0_13_l Ta0_13_a Ta0_13_b
      have Ta1_14 : Hid (Two w14 (w.heap.size + 1) (.int .i64 s1) (.slice a1 len1 cap1)) := Lib.hid (Ta1_13.out.within B14.out (by omega))
      obtain ⟨Ta1_14_l, Ta1_14_a, Ta1_14_b⟩ := Ta1_14.out
      clear Ta1_13 Ta1_13_l Ta1_13_a Ta1_13_b
      have Tx0_14 : Hid (Two w14 w6.heap.size (.int .i64 s0) (.slice b6 z0.length c6)) := Lib.hid (Tx0_13.out.within B14.out (by omega))
      obtain ⟨Tx0_14_l, Tx0_14_a, Tx0_14_b⟩ := Tx0_14.out
      clear Tx0_13 Tx0_13_l Tx0_13_a Tx0_13_b
      have Tx1_14 : Hid (Two w14 w7.heap.size (.int .i64 s1) (.slice b7 z1.length c7)) := Lib.hid (Tx1_13.out.within B14.out (by omega))
      obtain ⟨Tx1_14_l, Tx1_14_a, Tx1_14_b⟩ := Tx1_14.out
      clear Tx1_13 Tx1_13_l Tx1_13_a Tx1_13_b
      have Om_14 : Hid (Row w14 w2.heap.size w5.heap.size b5 (orlB s0 z0 s1 z1).length c5 (orlB s0 z0 s1 z1)) := Lib.hid (Om_13.out.within B14.out (by omega))
      clear Om_13
      have Ox1_14 : Hid (Row w14 (w6.heap.size + 1) w7.heap.size b7 z1.length c7 z1) := Lib.hid (Ox1_13.out.within B14.out (by omega))
      clear Ox1_13
      have Og_14 : Hid (Row w14 (w7.heap.size + 1) w8.heap.size b8 (orlB s0 z0 s1 z1).length c8 (orlB s0 z0 s1 z1)) := Lib.hid (Og_13.out.within B14.out (by omega))
      clear Og_13
      have A14 : Hid (Below w.heap.size w w14) := Lib.hid (Rhy.Below.within A13.out B14.out (by omega) A13.out.size)
      clear A13
      have Ox0_14 : Hid (Row w14 w5.heap.size w6.heap.size b6 z0.length c6 (marks (1) z0.length)) := Lib.hid hown14
      clear hown14 hb14 Ox0_13
      go_wp2_with fail
      refine (mark_rhythm (w6.heap.size + 1) w7.heap.size (1 + z0.length) _ b7 c7 _ _ _ Ox1_14.out (by omega) (by omega)).mono ?_
      rintro e w15 ⟨rfl, hown15, hb15⟩
      have B15 : Hid (Within (w6.heap.size + 1) w7.heap.size w14 w15) := Lib.hid (hb15)
      have B15_size := B15.out.size
      have Ta0_15 : Hid (Two w15 w.heap.size (.int .i64 s0) (.slice a0 len0 cap0)) := Lib.hid (Ta0_14.out.within B15.out (by omega))
      obtain ⟨Ta0_15_l, Ta0_15_a, Ta0_15_b⟩ := Ta0_15.out
      clear Ta0_14 Ta0_14_l Ta0_14_a Ta0_14_b
      have Ta1_15 : Hid (Two w15 (w.heap.size + 1) (.int .i64 s1) (.slice a1 len1 cap1)) := Lib.hid (Ta1_14.out.within B15.out (by omega))
      obtain ⟨Ta1_15_l, Ta1_15_a, Ta1_15_b⟩ := Ta1_15.out
      clear Ta1_14 Ta1_14_l Ta1_14_a Ta1_14_b
      have Tx0_15 : Hid (Two w15 w6.heap.size (.int .i64 s0) (.slice b6 z0.length c6)) := Lib.hid (Tx0_14.out.within B15.out (by omega))
      obtain ⟨Tx0_15_l, Tx0_15_a, Tx0_15_b⟩ := Tx0_15.out
      clear Tx0_14 Tx0_14_l Tx0_14_a Tx0_14_b
      have Tx1_15 : Hid (Two w15 w7.heap.size (.int .i64 s1) (.slice b7 z1.length c7)) := Lib.hid (Tx1_14.out.within B15.out (by omega))
      obtain ⟨Tx1_15_l, Tx1_15_a, Tx1_15_b⟩ := Tx1_15.out
      clear Tx1_14 Tx1_14_l Tx1_14_a Tx1_14_b
      have Om_15 : Hid (Row w15 w2.heap.size w5.heap.size b5 (orlB s0 z0 s1 z1).length c5 (orlB s0 z0 s1 z1)) := Lib.hid (Om_14.out.within B15.out (by omega))
      clear Om_14
      have Ox0_15 : Hid (Row w15 w5.heap.size w6.heap.size b6 z0.length c6 (marks (1) z0.length)) := Lib.hid (Ox0_14.out.within B15.out (by omega))
      clear Ox0_14
      have Og_15 : Hid (Row w15 (w7.heap.size + 1) w8.heap.size b8 (orlB s0 z0 s1 z1).length c8 (orlB s0 z0 s1 z1)) := Lib.hid (Og_14.out.within B15.out (by omega))
      clear Og_14
      have A15 : Hid (Below w.heap.size w w15) := Lib.hid (Rhy.Below.within A14.out B15.out (by omega) A14.out.size)
      clear A14
      have Ox1_15 : Hid (Row w15 (w6.heap.size + 1) w7.heap.size b7 z1.length c7 (marks (1 + z0.length) z1.length)) := Lib.hid hown15
      clear hown15 hb15 Ox1_14
      go_wp2_with fail
      refine (eq_ints b8 b5 c8 c5 _ (orlB s0 z0 s1 z1) _ (Og_15.out.at HZ.out) (Om_15.out.at HZ.out) (by omega)).mono ?_
      rintro e w16 ⟨rfl, hb16⟩
      have B16 : Hid (Below w15.heap.size w15 w16) := Lib.hid (hb16)
      have B16_size := B16.out.size
      have Ta0_16 : Hid (Two w16 w.heap.size (.int .i64 s0) (.slice a0 len0 cap0)) := Lib.hid (Ta0_15.out.keep B16.out)
      obtain ⟨Ta0_16_l, Ta0_16_a, Ta0_16_b⟩ := Ta0_16.out
      clear Ta0_15 Ta0_15_l Ta0_15_a Ta0_15_b
      have Ta1_16 : Hid (Two w16 (w.heap.size + 1) (.int .i64 s1) (.slice a1 len1 cap1)) := Lib.hid (Ta1_15.out.keep B16.out)
      obtain ⟨Ta1_16_l, Ta1_16_a, Ta1_16_b⟩ := Ta1_16.out
      clear Ta1_15 Ta1_15_l Ta1_15_a Ta1_15_b
      have Tx0_16 : Hid (Two w16 w6.heap.size (.int .i64 s0) (.slice b6 z0.length c6)) := Lib.hid (Tx0_15.out.keep B16.out)
      obtain ⟨Tx0_16_l, Tx0_16_a, Tx0_16_b⟩ := Tx0_16.out
      clear Tx0_15 Tx0_15_l Tx0_15_a Tx0_15_b
      have Tx1_16 : Hid (Two w16 w7.heap.size (.int .i64 s1) (.slice b7 z1.length c7)) := Lib.hid (Tx1_15.out.keep B16.out)
      obtain ⟨Tx1_16_l, Tx1_16_a, Tx1_16_b⟩ := Tx1_16.out
      clear Tx1_15 Tx1_15_l Tx1_15_a Tx1_15_b
      have Om_16 : Hid (Row w16 w2.heap.size w5.heap.size b5 (orlB s0 z0 s1 z1).length c5 (orlB s0 z0 s1 z1)) := Lib.hid (Om_15.out.keep B16.out)
      clear Om_15
      have Ox0_16 : Hid (Row w16 w5.heap.size w6.heap.size b6 z0.length c6 (marks (1) z0.length)) := Lib.hid (Ox0_15.out.keep B16.out)
      clear Ox0_15
      have Ox1_16 : Hid (Row w16 (w6.heap.size + 1) w7.heap.size b7 z1.length c7 (marks (1 + z0.length) z1.length)) := Lib.hid (Ox1_15.out.keep B16.out)
      clear Ox1_15
      have Og_16 : Hid (Row w16 (w7.heap.size + 1) w8.heap.size b8 (orlB s0 z0 s1 z1).length c8 (orlB s0 z0 s1 z1)) := Lib.hid (Og_15.out.keep B16.out)
      clear Og_15
      have A16 : Hid (Below w.heap.size w w16) := Lib.hid (A15.out.trans (B16.out.mono A15.out.size))
      clear A15
      clear hb16
      go_wp2_with fail
      refine (mark_ints (w7.heap.size + 1) w8.heap.size (1) b8 c8 _ _ _ Og_16.out (by omega) (by omega)).mono ?_
      rintro e w17 ⟨rfl, hown17, hb17⟩
      have B17 : Hid (Within (w7.heap.size + 1) w8.heap.size w16 w17) := Lib.hid (hb17)
      have B17_size := B17.out.size
      have Ta0_17 : Hid (Two w17 w.heap.size (.int .i64 s0) (.slice a0 len0 cap0)) := Lib.hid (Ta0_16.out.within B17.out (by omega))
      obtain ⟨Ta0_17_l, Ta0_17_a, Ta0_17_b⟩ := Ta0_17.out
      clear Ta0_16 Ta0_16_l Ta0_16_a Ta0_16_b
      have Ta1_17 : Hid (Two w17 (w.heap.size + 1) (.int .i64 s1) (.slice a1 len1 cap1)) := Lib.hid (Ta1_16.out.within B17.out (by omega))
      obtain ⟨Ta1_17_l, Ta1_17_a, Ta1_17_b⟩ := Ta1_17.out
      clear Ta1_16 Ta1_16_l Ta1_16_a Ta1_16_b
      have Tx0_17 : Hid (Two w17 w6.heap.size (.int .i64 s0) (.slice b6 z0.length c6)) := Lib.hid (Tx0_16.out.within B17.out (by omega))
      obtain ⟨Tx0_17_l, Tx0_17_a, Tx0_17_b⟩ := Tx0_17.out
      clear Tx0_16 Tx0_16_l Tx0_16_a Tx0_16_b
      have Tx1_17 : Hid (Two w17 w7.heap.size (.int .i64 s1) (.slice b7 z1.length c7)) := Lib.hid (Tx1_16.out.within B17.out (by omega))
      obtain ⟨Tx1_17_l, Tx1_17_a, Tx1_17_b⟩ := Tx1_17.out
      clear Tx1_16 Tx1_16_l Tx1_16_a Tx1_16_b
      have Om_17 : Hid (Row w17 w2.heap.size w5.heap.size b5 (orlB s0 z0 s1 z1).length c5 (orlB s0 z0 s1 z1)) := Lib.hid (Om_16.out.within B17.out (by omega))
      clear Om_16
      have Ox0_17 : Hid (Row w17 w5.heap.size w6.heap.size b6 z0.length c6 (marks (1) z0.length)) := Lib.hid (Ox0_16.out.within B17.out (by omega))
      clear Ox0_16
      have Ox1_17 : Hid (Row w17 (w6.heap.size + 1) w7.heap.size b7 z1.length c7 (marks (1 + z0.length) z1.length)) := Lib.hid (Ox1_16.out.within B17.out (by omega))
      clear Ox1_16
      have A17 : Hid (Below w.heap.size w w17) := Lib.hid (Rhy.Below.within A16.out B17.out (by omega) A16.out.size)
      clear A16
      have Og_17 : Hid (Row w17 (w7.heap.size + 1) w8.heap.size b8 (orlB s0 z0 s1 z1).length c8 (marks (1) (orlB s0 z0 s1 z1).length)) := Lib.hid hown17
      clear hown17 hb17 Og_16
      go_wp2_with fail
      refine (held_ints (1) b8 c8 (orlB s0 z0 s1 z1).length _ (Og_17.out.at (marks_int _ _ (by omega))) (by omega) (by omega)).mono ?_
      rintro e w18 ⟨rfl, hb18⟩
      have B18 : Hid (Below w17.heap.size w17 w18) := Lib.hid (hb18)
      have B18_size := B18.out.size
      have Ta0_18 : Hid (Two w18 w.heap.size (.int .i64 s0) (.slice a0 len0 cap0)) := Lib.hid (Ta0_17.out.keep B18.out)
      obtain ⟨Ta0_18_l, Ta0_18_a, Ta0_18_b⟩ := Ta0_18.out
      clear Ta0_17 Ta0_17_l Ta0_17_a Ta0_17_b
      have Ta1_18 : Hid (Two w18 (w.heap.size + 1) (.int .i64 s1) (.slice a1 len1 cap1)) := Lib.hid (Ta1_17.out.keep B18.out)
      obtain ⟨Ta1_18_l, Ta1_18_a, Ta1_18_b⟩ := Ta1_18.out
      clear Ta1_17 Ta1_17_l Ta1_17_a Ta1_17_b
      have Tx0_18 : Hid (Two w18 w6.heap.size (.int .i64 s0) (.slice b6 z0.length c6)) := Lib.hid (Tx0_17.out.keep B18.out)
      obtain ⟨Tx0_18_l, Tx0_18_a, Tx0_18_b⟩ := Tx0_18.out
      clear Tx0_17 Tx0_17_l Tx0_17_a Tx0_17_b
      have Tx1_18 : Hid (Two w18 w7.heap.size (.int .i64 s1) (.slice b7 z1.length c7)) := Lib.hid (Tx1_17.out.keep B18.out)
      obtain ⟨Tx1_18_l, Tx1_18_a, Tx1_18_b⟩ := Tx1_18.out
      clear Tx1_17 Tx1_17_l Tx1_17_a Tx1_17_b
      have Om_18 : Hid (Row w18 w2.heap.size w5.heap.size b5 (orlB s0 z0 s1 z1).length c5 (orlB s0 z0 s1 z1)) := Lib.hid (Om_17.out.keep B18.out)
      clear Om_17
      have Ox0_18 : Hid (Row w18 w5.heap.size w6.heap.size b6 z0.length c6 (marks (1) z0.length)) := Lib.hid (Ox0_17.out.keep B18.out)
      clear Ox0_17
      have Ox1_18 : Hid (Row w18 (w6.heap.size + 1) w7.heap.size b7 z1.length c7 (marks (1 + z0.length) z1.length)) := Lib.hid (Ox1_17.out.keep B18.out)
      clear Ox1_17
      have Og_18 : Hid (Row w18 (w7.heap.size + 1) w8.heap.size b8 (orlB s0 z0 s1 z1).length c8 (marks (1) (orlB s0 z0 s1 z1).length)) := Lib.hid (Og_17.out.keep B18.out)
      clear Og_17
      have A18 : Hid (Below w.heap.size w w18) := Lib.hid (A17.out.trans (B18.out.mono A17.out.size))
      clear A17
      clear hb18
      go_wp2
      have HK : Hid (∀ W, Below w18.heap.size w18 W → W.cell? ⟨w.heap.size, 0, none⟩ = some (.int .i64 s0) ∧ W.cell? ⟨w.heap.size, 1, none⟩ = some (.slice a0 len0 cap0) ∧ W.cell? ⟨(w.heap.size + 1), 0, none⟩ = some (.int .i64 s1) ∧ W.cell? ⟨(w.heap.size + 1), 1, none⟩ = some (.slice a1 len1 cap1) ∧ Below w18.heap.size w18 W) := Lib.hid (fun W hW => ⟨(Ta0_18.out.keep hW).2.1, (Ta0_18.out.keep hW).2.2, (Ta1_18.out.keep hW).2.1, (Ta1_18.out.keep hW).2.2, hW⟩)
      have HT0 : Hid (∀ W, Below w18.heap.size w18 W → IntsAt W a0 len0 z0) := Lib.hid (fun W hW => HS0.out.below (A18.out.trans (hW.mono A18.out.size)))
      have HT1 : Hid (∀ W, Below w18.heap.size w18 W → IntsAt W a1 len1 z1) := Lib.hid (fun W hW => HS1.out.below (A18.out.trans (hW.mono A18.out.size)))
      go_region_held3 (fun w' => w'.cell? ⟨w.heap.size, 0, none⟩ = some (.int .i64 s0) ∧ w'.cell? ⟨w.heap.size, 1, none⟩ = some (.slice a0 len0 cap0) ∧ w'.cell? ⟨(w.heap.size + 1), 0, none⟩ = some (.int .i64 s1) ∧ w'.cell? ⟨(w.heap.size + 1), 1, none⟩ = some (.slice a1 len1 cap1) ∧ Below w18.heap.size w18 w')
        (first | exact HK.out _ (Below.refl _ _).drew | exact HK.out _ hb19 | exact HK.out _ hb20 | exact HK.out _ hb21)
        ((first
          | (go_at_call 15; ((with_reducible refine (to_rhythm s0 a0 len0 cap0 z0 _ (HT0.out _ ((Below.refl _ _).drew)) le0).mono ?_); rintro e w19 ⟨b19, c19, rfl, hown19, hc19⟩; have hn19 := row_of hown19; have hb19 := (Below.refl w18.heap.size w18).drew.trans hc19; clear hown19 hc19))
          | (go_at_call 15; ((with_reducible refine (to_rhythm s1 a1 len1 cap1 z1 _ (HT1.out _ (hb19)) le1).mono ?_); rintro e w20 ⟨b20, c20, rfl, hown20, hc20⟩; have hn20 := row_of hown20; have hk20 := hc20; have hb20 := hb19.trans (hc20.mono hb19.size); clear hown20 hc20))
          | (go_at_call 34; ((with_reducible refine (orl_impl s0 b19 z0.length c19 z0 s1 b20 z1.length c20 z1 _ ((hn19.at HS0.out.int).below hk20) lz0 (hn20.at HS1.out.int) lz1).mono ?_); rintro e w21 ⟨b21, c21, rfl, hown21, hc21⟩; have hb21 := hb20.trans (hc21.mono hb20.size); clear hc21; have hn21 := row_of (own_base hown21 hb20.size)))))
      rename_i hHeld
      clear hHeld HK HT0 HT1
      have Oh_21 : Hid (Row w21 w18.heap.size w21.heap.size b21 (orlB s0 z0 s1 z1).length c21 (orlB s0 z0 s1 z1)) := Lib.hid hn21
      have B21 : Hid (Below w18.heap.size w18 w21) := Lib.hid (hb21)
      have B21_size := B21.out.size
      have Ta0_21 : Hid (Two w21 w.heap.size (.int .i64 s0) (.slice a0 len0 cap0)) := Lib.hid (Ta0_18.out.keep B21.out)
      obtain ⟨Ta0_21_l, Ta0_21_a, Ta0_21_b⟩ := Ta0_21.out
      clear Ta0_18 Ta0_18_l Ta0_18_a Ta0_18_b
      have Ta1_21 : Hid (Two w21 (w.heap.size + 1) (.int .i64 s1) (.slice a1 len1 cap1)) := Lib.hid (Ta1_18.out.keep B21.out)
      obtain ⟨Ta1_21_l, Ta1_21_a, Ta1_21_b⟩ := Ta1_21.out
      clear Ta1_18 Ta1_18_l Ta1_18_a Ta1_18_b
      have Tx0_21 : Hid (Two w21 w6.heap.size (.int .i64 s0) (.slice b6 z0.length c6)) := Lib.hid (Tx0_18.out.keep B21.out)
      obtain ⟨Tx0_21_l, Tx0_21_a, Tx0_21_b⟩ := Tx0_21.out
      clear Tx0_18 Tx0_18_l Tx0_18_a Tx0_18_b
      have Tx1_21 : Hid (Two w21 w7.heap.size (.int .i64 s1) (.slice b7 z1.length c7)) := Lib.hid (Tx1_18.out.keep B21.out)
      obtain ⟨Tx1_21_l, Tx1_21_a, Tx1_21_b⟩ := Tx1_21.out
      clear Tx1_18 Tx1_18_l Tx1_18_a Tx1_18_b
      have Om_21 : Hid (Row w21 w2.heap.size w5.heap.size b5 (orlB s0 z0 s1 z1).length c5 (orlB s0 z0 s1 z1)) := Lib.hid (Om_18.out.keep B21.out)
      clear Om_18
      have Ox0_21 : Hid (Row w21 w5.heap.size w6.heap.size b6 z0.length c6 (marks (1) z0.length)) := Lib.hid (Ox0_18.out.keep B21.out)
      clear Ox0_18
      have Ox1_21 : Hid (Row w21 (w6.heap.size + 1) w7.heap.size b7 z1.length c7 (marks (1 + z0.length) z1.length)) := Lib.hid (Ox1_18.out.keep B21.out)
      clear Ox1_18
      have Og_21 : Hid (Row w21 (w7.heap.size + 1) w8.heap.size b8 (orlB s0 z0 s1 z1).length c8 (marks (1) (orlB s0 z0 s1 z1).length)) := Lib.hid (Og_18.out.keep B21.out)
      clear Og_18
      have A21 : Hid (Below w.heap.size w w21) := Lib.hid (A18.out.trans (B21.out.mono A18.out.size))
      clear A18
      clear hn21
      clear hb19 hb20 hb21 hn19 hn20 hk20
      go_wp2_with fail
      refine (eq_ints b21 b5 c21 c5 _ (orlB s0 z0 s1 z1) _ (Oh_21.out.at HZ.out) (Om_21.out.at HZ.out) (by omega)).mono ?_
      rintro e w22 ⟨rfl, hb22⟩
      have B22 : Hid (Below w21.heap.size w21 w22) := Lib.hid (hb22)
      have B22_size := B22.out.size
      have Ta0_22 : Hid (Two w22 w.heap.size (.int .i64 s0) (.slice a0 len0 cap0)) := Lib.hid (Ta0_21.out.keep B22.out)
      obtain ⟨Ta0_22_l, Ta0_22_a, Ta0_22_b⟩ := Ta0_22.out
      clear Ta0_21 Ta0_21_l Ta0_21_a Ta0_21_b
      have Ta1_22 : Hid (Two w22 (w.heap.size + 1) (.int .i64 s1) (.slice a1 len1 cap1)) := Lib.hid (Ta1_21.out.keep B22.out)
      obtain ⟨Ta1_22_l, Ta1_22_a, Ta1_22_b⟩ := Ta1_22.out
      clear Ta1_21 Ta1_21_l Ta1_21_a Ta1_21_b
      have Tx0_22 : Hid (Two w22 w6.heap.size (.int .i64 s0) (.slice b6 z0.length c6)) := Lib.hid (Tx0_21.out.keep B22.out)
      obtain ⟨Tx0_22_l, Tx0_22_a, Tx0_22_b⟩ := Tx0_22.out
      clear Tx0_21 Tx0_21_l Tx0_21_a Tx0_21_b
      have Tx1_22 : Hid (Two w22 w7.heap.size (.int .i64 s1) (.slice b7 z1.length c7)) := Lib.hid (Tx1_21.out.keep B22.out)
      obtain ⟨Tx1_22_l, Tx1_22_a, Tx1_22_b⟩ := Tx1_22.out
      clear Tx1_21 Tx1_21_l Tx1_21_a Tx1_21_b
      have Om_22 : Hid (Row w22 w2.heap.size w5.heap.size b5 (orlB s0 z0 s1 z1).length c5 (orlB s0 z0 s1 z1)) := Lib.hid (Om_21.out.keep B22.out)
      clear Om_21
      have Ox0_22 : Hid (Row w22 w5.heap.size w6.heap.size b6 z0.length c6 (marks (1) z0.length)) := Lib.hid (Ox0_21.out.keep B22.out)
      clear Ox0_21
      have Ox1_22 : Hid (Row w22 (w6.heap.size + 1) w7.heap.size b7 z1.length c7 (marks (1 + z0.length) z1.length)) := Lib.hid (Ox1_21.out.keep B22.out)
      clear Ox1_21
      have Og_22 : Hid (Row w22 (w7.heap.size + 1) w8.heap.size b8 (orlB s0 z0 s1 z1).length c8 (marks (1) (orlB s0 z0 s1 z1).length)) := Lib.hid (Og_21.out.keep B22.out)
      clear Og_21
      have Oh_22 : Hid (Row w22 w18.heap.size w21.heap.size b21 (orlB s0 z0 s1 z1).length c21 (orlB s0 z0 s1 z1)) := Lib.hid (Oh_21.out.keep B22.out)
      clear Oh_21
      have A22 : Hid (Below w.heap.size w w22) := Lib.hid (A21.out.trans (B22.out.mono A21.out.size))
      clear A21
      clear hb22
      go_wp2_with fail
      refine (held_ints (1) b8 c8 (orlB s0 z0 s1 z1).length _ (Og_22.out.at (marks_int _ _ (by omega))) (by omega) (by omega)).mono ?_
      rintro e w23 ⟨rfl, hb23⟩
      have B23 : Hid (Below w22.heap.size w22 w23) := Lib.hid (hb23)
      have B23_size := B23.out.size
      have Ta0_23 : Hid (Two w23 w.heap.size (.int .i64 s0) (.slice a0 len0 cap0)) := Lib.hid (Ta0_22.out.keep B23.out)
      obtain ⟨Ta0_23_l, Ta0_23_a, Ta0_23_b⟩ := Ta0_23.out
      clear Ta0_22 Ta0_22_l Ta0_22_a Ta0_22_b
      have Ta1_23 : Hid (Two w23 (w.heap.size + 1) (.int .i64 s1) (.slice a1 len1 cap1)) := Lib.hid (Ta1_22.out.keep B23.out)
      obtain ⟨Ta1_23_l, Ta1_23_a, Ta1_23_b⟩ := Ta1_23.out
      clear Ta1_22 Ta1_22_l Ta1_22_a Ta1_22_b
      have Tx0_23 : Hid (Two w23 w6.heap.size (.int .i64 s0) (.slice b6 z0.length c6)) := Lib.hid (Tx0_22.out.keep B23.out)
      obtain ⟨Tx0_23_l, Tx0_23_a, Tx0_23_b⟩ := Tx0_23.out
      clear Tx0_22 Tx0_22_l Tx0_22_a Tx0_22_b
      have Tx1_23 : Hid (Two w23 w7.heap.size (.int .i64 s1) (.slice b7 z1.length c7)) := Lib.hid (Tx1_22.out.keep B23.out)
      obtain ⟨Tx1_23_l, Tx1_23_a, Tx1_23_b⟩ := Tx1_23.out
      clear Tx1_22 Tx1_22_l Tx1_22_a Tx1_22_b
      have Om_23 : Hid (Row w23 w2.heap.size w5.heap.size b5 (orlB s0 z0 s1 z1).length c5 (orlB s0 z0 s1 z1)) := Lib.hid (Om_22.out.keep B23.out)
      clear Om_22
      have Ox0_23 : Hid (Row w23 w5.heap.size w6.heap.size b6 z0.length c6 (marks (1) z0.length)) := Lib.hid (Ox0_22.out.keep B23.out)
      clear Ox0_22
      have Ox1_23 : Hid (Row w23 (w6.heap.size + 1) w7.heap.size b7 z1.length c7 (marks (1 + z0.length) z1.length)) := Lib.hid (Ox1_22.out.keep B23.out)
      clear Ox1_22
      have Og_23 : Hid (Row w23 (w7.heap.size + 1) w8.heap.size b8 (orlB s0 z0 s1 z1).length c8 (marks (1) (orlB s0 z0 s1 z1).length)) := Lib.hid (Og_22.out.keep B23.out)
      clear Og_22
      have Oh_23 : Hid (Row w23 w18.heap.size w21.heap.size b21 (orlB s0 z0 s1 z1).length c21 (orlB s0 z0 s1 z1)) := Lib.hid (Oh_22.out.keep B23.out)
      clear Oh_22
      have A23 : Hid (Below w.heap.size w w23) := Lib.hid (A22.out.trans (B23.out.mono A22.out.size))
      clear A22
      clear hb23
      go_wp2
      go_ret
      exact ⟨rfl, A23.out⟩

set_option maxRecDepth 100000 in
theorem lifted (os : Os) (started : os.Started) (H : Type) (enc : TypeId × Value → H) :
    ReturnsInHanded {} Try.checked os 10 .any (Rows.fnExactOrdersLeftSpec.pre6 enc Try.prog Try.f10 Rows.fnExactOrdersLeftRow.domain false) (Rows.fnExactOrdersLeftSpec.post enc Try.prog Try.f10 false true false false) := by
  refine returnsInHanded_of_change (C := Try.checked) own started (by kernel_rfl) Try.func10
    (ChangeSpec.witness6 (enc := enc) (C := Try.checked) false ⟨#[], #[.agg #[.int .i64 0, .slice none 0 0], .agg #[.int .i64 0, .slice none 0 0]], []⟩ 8 (by kernel_rfl) (by kernel_rfl) (by kernel_rfl) (by kernel_rfl)) ?_
  intro W base args ds gs before hval0 hW hcnd _
  have hval : ∀ (j : Nat) t v, Try.f10.params[j]? = some t → args[j]? = some v → Value.okWide Try.prog W .any base t v := hval0
  have hW' := hW
  obtain ⟨p, q, hA0, hV, rfl, hfz, hnd⟩ := hW
  have hA : DataW.TrodAll enc Try.prog W 0 (fun _ => true) true Try.f10.params.toList args.toList ds p := hA0
  rw [Try.params10] at hA hval
  obtain ⟨v0, vs0, d0, ds0, p0, q0, hargs, rfl, rfl, h0, r0⟩ := trodAll_cons hA
  obtain ⟨v1, vs1, d1, ds1, p1, q1, rfl, rfl, rfl, h1, r1⟩ := trodAll_cons r0
  obtain ⟨rfl, rfl, rfl⟩ := trodAll_nil r1
  obtain rfl : args = #[v0, v1] := by cases args; simp_all
  obtain ⟨rfl, rfl⟩ := trodVars_none hV
  have k0 := h0
  have lt0 : ∀ x ∈ p0, x.block < W.heap.size := by obtain ⟨m, hm⟩ := k0; exact DataW.trod_lt m _ _ _ hm
  obtain ⟨s0, a0, len0, cap0, z0, rfl, w0⟩ := opened (hval 0 26 v0 rfl rfl) h0
  have k1 := h1
  have lt1 : ∀ x ∈ p1, x.block < W.heap.size := by obtain ⟨m, hm⟩ := k1; exact DataW.trod_lt m _ _ _ hm
  obtain ⟨s1, a1, len1, cap1, z1, rfl, w1⟩ := opened (hval 1 26 v1 rfl rfl) h1
  clear hA0 hval0
  refine (walk s0 a0 len0 cap0 z0 s1 a1 len1 cap1 z1 W w0 w1).mono fun e W' ⟨he, bel⟩ => ?_
  subst he
  exact ⟨_, rfl, _, _, _, [], _, [], hW', trodAll_mk1 (shut_bool Try.underlying4 _), (trodAll_cons_mk (Below.trod laidOut (by kernel_rfl) (of_decide_eq_true (by kernel_rfl)) k0 bel lt0) (trodAll_cons_mk (Below.trod laidOut (by kernel_rfl) (of_decide_eq_true (by kernel_rfl)) k1 bel lt1) trodAll_mk0)), rfl, bel.frame _, fun h => by cases h⟩

theorem proved : Rows.FnExactOrdersLeftSaid :=
  OpenClaim.holds_of_wide 10 Try.f10 rfl rfl rfl rfl rfl rfl rfl ⟨rfl, rfl, rfl, rfl, rfl⟩ rfl rfl rfl rfl rfl (by kernel_rfl) Try.func10 (by kernel_rfl)
    (of_decide_eq_true (by kernel_rfl)) (by unfold Func.isWrapper; rw [if_neg (of_decide_eq_false (by kernel_rfl))]; exact ⟨rfl, rfl⟩)
    (fun os started H enc _ => lifted os started H enc)
#print axioms proved
end Go.Proofs.Ytdpcabiajhfllaa.fnExactOrdersLeft
