/-
  'IsPeriodicTiling' of the program answers, at every two rhythms, as its model does, and leaves its arguments as they were. No condition.
-/
import Derived.Test.YtpgolnkhbnancaaSui
import Derived.Test.YtpgolnkhbnancaaOpen
import Derived.Deep.RegionHeld3
import Derived.ProofKit
namespace Go.Proofs.Ytpgolnkhbnancaa.fnExactIsPeriodicTiling
open Go.ChangeShapes Go.WideShapes Go.ChangeAt Go.RowKit Rhy
set_option linter.unusedVariables false


set_option maxHeartbeats 1000000 in
set_option maxRecDepth 100000 in
theorem walk (s0 : Int) (a0 : Option Addr) (len0 cap0 : Nat) (z0 : List Int) (s1 : Int) (a1 : Option Addr) (len1 cap1 : Nat) (z1 : List Int) (w : World) (w0 : Opened w s0 a0 len0 z0) (w1 : Opened w s1 a1 len1 z1) :
    Calls Try.prog 12 #[rhy s0 a0 len0 cap0, rhy s1 a1 len1 cap1] w fun e w' => e = .returned (.bool true) ∧ Below w.heap.size w w' := by
  obtain ⟨i0, m0, sl0, su0⟩ := w0
  have HS0 := Lib.hid i0
  clear i0
  obtain ⟨i1, m1, sl1, su1⟩ := w1
  have HS1 := Lib.hid i1
  clear i1
  go_enter Try.func12, Try.ntmps12
  go_wp2_with fail
  refine (size_rhythm s0 _ a0 len0 cap0 _ m0 (by omega) (by omega)).mono ?_
  rintro e w1 ⟨⟨r0, rfl, hr | ⟨hr, hlen0, he0⟩, h1, h2⟩, hb1⟩
  · have HB1 := Lib.hid hb1
    clear hb1
    go_wp2
    go_ret
    exact ⟨rfl, (bel2 w (.cells #[.int .i64 s0, .slice a0 len0 cap0] 39) (.cells #[.int .i64 s1, .slice a1 len1 cap1] 39)).trans (HB1.out.mono (bel2 w (.cells #[.int .i64 s0, .slice a0 len0 cap0] 39) (.cells #[.int .i64 s1, .slice a1 len1 cap1] 39)).size)⟩
  · have hr0 : ¬ r0 < 0 := by omega
    have le0 : len0 ≤ 1048576 := by omega
    have lz0 : z0.length ≤ 1048576 := by have := HS0.out.1; omega
    have hq0 : 0 ≤ r0 := hr
    have hq'0 : r0 ≤ 1048576 := by omega
    clear he0 hr h1 h2
    have p1 := Lib.hid (bel2 w (.cells #[.int .i64 s0, .slice a0 len0 cap0] 39) (.cells #[.int .i64 s1, .slice a1 len1 cap1] 39))
    have B1 : Hid (Below w.heap.size w w1) := Lib.hid (p1.out.trans (hb1.mono p1.out.size))
    have B1_size := B1.out.size
    have pz1 : w.heap.size + 2 ≤ w1.heap.size := by have := hb1.size; simp at this; omega
    have Ta0_1 : Hid (Two w1 w.heap.size (.int .i64 s0) (.slice a0 len0 cap0)) := Lib.hid (((two_new w (.int .i64 s0) (.slice a0 len0 cap0) 39).keep (bel1 _ (.cells #[.int .i64 s1, .slice a1 len1 cap1] 39))).keep hb1)
    obtain ⟨Ta0_1_l, Ta0_1_a, Ta0_1_b⟩ := Ta0_1.out
    have Ta1_1 : Hid (Two w1 (w.heap.size + 1) (.int .i64 s1) (.slice a1 len1 cap1)) := Lib.hid (by simpa using ((two_new (w.alloc (.cells #[.int .i64 s0, .slice a0 len0 cap0] 39)) (.int .i64 s1) (.slice a1 len1 cap1) 39).keep hb1 : Two _ _ _ _))
    obtain ⟨Ta1_1_l, Ta1_1_a, Ta1_1_b⟩ := Ta1_1.out
    have A1 : Hid (Below w.heap.size w w1) := Lib.hid (B1.out)
    clear hb1
    go_wp2_with fail
    refine (size_rhythm s1 _ a1 len1 cap1 _ m1 (by omega) (by omega)).mono ?_
    rintro e w2 ⟨⟨r1, rfl, hr | ⟨hr, hlen1, he1⟩, h1, h2⟩, hb2⟩
    · have HB2 := Lib.hid hb2
      clear hb2
      go_wp2
      go_ret
      exact ⟨rfl, A1.out.trans (HB2.out.mono A1.out.size)⟩
    · have hr1 : ¬ r1 < 0 := by omega
      have le1 : len1 ≤ 1048576 := by omega
      have lz1 : z1.length ≤ 1048576 := by have := HS1.out.1; omega
      have hq1 : 0 ≤ r1 := hr
      have hq'1 : r1 ≤ 1048576 := by omega
      clear he1 hr h1 h2
      have B2 : Hid (Below w1.heap.size w1 w2) := Lib.hid (hb2)
      have B2_size := B2.out.size
      have Ta0_2 : Hid (Two w2 w.heap.size (.int .i64 s0) (.slice a0 len0 cap0)) := Lib.hid (Ta0_1.out.keep B2.out)
      obtain ⟨Ta0_2_l, Ta0_2_a, Ta0_2_b⟩ := Ta0_2.out
      clear Ta0_1 Ta0_1_l Ta0_1_a Ta0_1_b
      have Ta1_2 : Hid (Two w2 (w.heap.size + 1) (.int .i64 s1) (.slice a1 len1 cap1)) := Lib.hid (Ta1_1.out.keep B2.out)
      obtain ⟨Ta1_2_l, Ta1_2_a, Ta1_2_b⟩ := Ta1_2.out
      clear Ta1_1 Ta1_1_l Ta1_1_a Ta1_1_b
      have A2 : Hid (Below w.heap.size w w2) := Lib.hid (A1.out.trans (B2.out.mono A1.out.size))
      clear A1
      clear hb2
      go_wp2
      have HK : Hid (∀ W, Below w2.heap.size w2 W → W.cell? ⟨w.heap.size, 0, none⟩ = some (.int .i64 s0) ∧ W.cell? ⟨w.heap.size, 1, none⟩ = some (.slice a0 len0 cap0) ∧ W.cell? ⟨(w.heap.size + 1), 0, none⟩ = some (.int .i64 s1) ∧ W.cell? ⟨(w.heap.size + 1), 1, none⟩ = some (.slice a1 len1 cap1) ∧ Below w2.heap.size w2 W) := Lib.hid (fun W hW => ⟨(Ta0_2.out.keep hW).2.1, (Ta0_2.out.keep hW).2.2, (Ta1_2.out.keep hW).2.1, (Ta1_2.out.keep hW).2.2, hW⟩)
      have HT0 : Hid (∀ W, Below w2.heap.size w2 W → IntsAt W a0 len0 z0) := Lib.hid (fun W hW => HS0.out.below (A2.out.trans (hW.mono A2.out.size)))
      have HT1 : Hid (∀ W, Below w2.heap.size w2 W → IntsAt W a1 len1 z1) := Lib.hid (fun W hW => HS1.out.below (A2.out.trans (hW.mono A2.out.size)))
      go_region_held3 (fun w' => w'.cell? ⟨w.heap.size, 0, none⟩ = some (.int .i64 s0) ∧ w'.cell? ⟨w.heap.size, 1, none⟩ = some (.slice a0 len0 cap0) ∧ w'.cell? ⟨(w.heap.size + 1), 0, none⟩ = some (.int .i64 s1) ∧ w'.cell? ⟨(w.heap.size + 1), 1, none⟩ = some (.slice a1 len1 cap1) ∧ Below w2.heap.size w2 w')
        (first | exact HK.out _ (Below.refl _ _).drew | exact HK.out _ hb3 | exact HK.out _ hb4 | exact HK.out _ hb5)
        ((first
          | (go_at_call 30; ((with_reducible refine (to_rhythm s0 a0 len0 cap0 z0 _ (HT0.out _ ((Below.refl _ _).drew)) le0).mono ?_); rintro e w3 ⟨b3, c3, rfl, hown3, hc3⟩; have hn3 := row_of hown3; have hb3 := (Below.refl w2.heap.size w2).drew.trans hc3; clear hown3 hc3))
          | (go_at_call 30; ((with_reducible refine (to_rhythm s1 a1 len1 cap1 z1 _ (HT1.out _ (hb3)) le1).mono ?_); rintro e w4 ⟨b4, c4, rfl, hown4, hc4⟩; have hn4 := row_of hown4; have hk4 := hc4; have hb4 := hb3.trans (hc4.mono hb3.size); clear hown4 hc4))
          | (go_at_call 50; ((with_reducible refine (pert_spec s0 b3 z0.length c3 z0 s1 b4 z1.length c4 z1 _ ((hn3.at HS0.out.int).below hk4) lz0 (hn4.at HS1.out.int) lz1).mono ?_); rintro e w5 ⟨rfl, hc5⟩; have hb5 := hb4.trans (hc5.mono hb4.size); clear hc5))))
      rename_i hHeld
      clear hHeld HK HT0 HT1
      have B5 : Hid (Below w2.heap.size w2 w5) := Lib.hid (hb5)
      have B5_size := B5.out.size
      have Ta0_5 : Hid (Two w5 w.heap.size (.int .i64 s0) (.slice a0 len0 cap0)) := Lib.hid (Ta0_2.out.keep B5.out)
      obtain ⟨Ta0_5_l, Ta0_5_a, Ta0_5_b⟩ := Ta0_5.out
      clear Ta0_2 Ta0_2_l Ta0_2_a Ta0_2_b
      have Ta1_5 : Hid (Two w5 (w.heap.size + 1) (.int .i64 s1) (.slice a1 len1 cap1)) := Lib.hid (Ta1_2.out.keep B5.out)
      obtain ⟨Ta1_5_l, Ta1_5_a, Ta1_5_b⟩ := Ta1_5.out
      clear Ta1_2 Ta1_2_l Ta1_2_a Ta1_2_b
      have A5 : Hid (Below w.heap.size w w5) := Lib.hid (A2.out.trans (B5.out.mono A2.out.size))
      clear A2
      clear hb3 hb4 hb5 hn3 hn4 hk4
      go_wp2_with fail
      refine (to_rhythm s0 a0 len0 cap0 z0 _ (HS0.out.below A5.out) le0).mono ?_
      rintro e w6 ⟨b6, c6, rfl, hown6, hb6⟩
      have Ox0_6 : Hid (Row w6 w5.heap.size w6.heap.size b6 z0.length c6 z0) := Lib.hid (row_of (own_base hown6 (Nat.le_refl _)))
      have B6 : Hid (Below w5.heap.size w5 w6) := Lib.hid (hb6)
      have B6_size := B6.out.size
      have Ta0_6 : Hid (Two w6 w.heap.size (.int .i64 s0) (.slice a0 len0 cap0)) := Lib.hid (Ta0_5.out.keep B6.out)
      obtain ⟨Ta0_6_l, Ta0_6_a, Ta0_6_b⟩ := Ta0_6.out
      clear Ta0_5 Ta0_5_l Ta0_5_a Ta0_5_b
      have Ta1_6 : Hid (Two w6 (w.heap.size + 1) (.int .i64 s1) (.slice a1 len1 cap1)) := Lib.hid (Ta1_5.out.keep B6.out)
      obtain ⟨Ta1_6_l, Ta1_6_a, Ta1_6_b⟩ := Ta1_6.out
      clear Ta1_5 Ta1_5_l Ta1_5_a Ta1_5_b
      have A6 : Hid (Below w.heap.size w w6) := Lib.hid (A5.out.trans (B6.out.mono A5.out.size))
      clear A5
      clear hown6 hb6
      go_wp2_with fail
      refine (to_rhythm s1 a1 len1 cap1 z1 _ ((HS1.out.below A6.out).below (bel1 _ (.cells #[.int .i64 s0, .slice b6 z0.length c6] 26))) le1).mono ?_
      rintro e w7 ⟨b7, c7, rfl, hown7, hb7⟩
      have Ox1_7 : Hid (Row w7 (w6.heap.size + 1) w7.heap.size b7 z1.length c7 z1) := Lib.hid (row_of (own_base hown7 (by simp)))
      have p7 := Lib.hid (bel1 w6 (.cells #[.int .i64 s0, .slice b6 z0.length c6] 26))
      have B7 : Hid (Below w6.heap.size w6 w7) := Lib.hid (p7.out.trans (hb7.mono p7.out.size))
      have B7_size := B7.out.size
      have pz7 : w6.heap.size + 1 ≤ w7.heap.size := by have := hb7.size; simp at this; omega
      have Ta0_7 : Hid (Two w7 w.heap.size (.int .i64 s0) (.slice a0 len0 cap0)) := Lib.hid (Ta0_6.out.keep B7.out)
      obtain ⟨Ta0_7_l, Ta0_7_a, Ta0_7_b⟩ := Ta0_7.out
      clear Ta0_6 Ta0_6_l Ta0_6_a Ta0_6_b
      have Ta1_7 : Hid (Two w7 (w.heap.size + 1) (.int .i64 s1) (.slice a1 len1 cap1)) := Lib.hid (Ta1_6.out.keep B7.out)
      obtain ⟨Ta1_7_l, Ta1_7_a, Ta1_7_b⟩ := Ta1_7.out
      clear Ta1_6 Ta1_6_l Ta1_6_a Ta1_6_b
      have Tx0_7 : Hid (Two w7 w6.heap.size (.int .i64 s0) (.slice b6 z0.length c6)) := Lib.hid ((two_new w6 (.int .i64 s0) (.slice b6 z0.length c6) 26).keep hb7)
      obtain ⟨Tx0_7_l, Tx0_7_a, Tx0_7_b⟩ := Tx0_7.out
      have Ox0_7 : Hid (Row w7 w5.heap.size w6.heap.size b6 z0.length c6 z0) := Lib.hid (Ox0_6.out.keep B7.out)
      clear Ox0_6
      have A7 : Hid (Below w.heap.size w w7) := Lib.hid (A6.out.trans (B7.out.mono A6.out.size))
      clear A6
      clear hown7 hb7
      go_wp2_with fail
      refine (pert_impl s0 b6 z0.length c6 z0 s1 b7 z1.length c7 z1 _ ((Ox0_7.out.at HS0.out.int).below (bel1 _ (.cells #[.int .i64 s1, .slice b7 z1.length c7] 26))) lz0 ((Ox1_7.out.at HS1.out.int).below (bel1 _ (.cells #[.int .i64 s1, .slice b7 z1.length c7] 26))) lz1).mono ?_
      rintro e w8 ⟨rfl, hb8⟩
      have p8 := Lib.hid (bel1 w7 (.cells #[.int .i64 s1, .slice b7 z1.length c7] 26))
      have B8 : Hid (Below w7.heap.size w7 w8) := Lib.hid (p8.out.trans (hb8.mono p8.out.size))
      have B8_size := B8.out.size
      have pz8 : w7.heap.size + 1 ≤ w8.heap.size := by have := hb8.size; simp at this; omega
      have Ta0_8 : Hid (Two w8 w.heap.size (.int .i64 s0) (.slice a0 len0 cap0)) := Lib.hid (Ta0_7.out.keep B8.out)
      obtain ⟨Ta0_8_l, Ta0_8_a, Ta0_8_b⟩ := Ta0_8.out
      clear Ta0_7 Ta0_7_l Ta0_7_a Ta0_7_b
      have Ta1_8 : Hid (Two w8 (w.heap.size + 1) (.int .i64 s1) (.slice a1 len1 cap1)) := Lib.hid (Ta1_7.out.keep B8.out)
      obtain ⟨Ta1_8_l, Ta1_8_a, Ta1_8_b⟩ := Ta1_8.out
      clear Ta1_7 Ta1_7_l Ta1_7_a Ta1_7_b
      have Tx0_8 : Hid (Two w8 w6.heap.size (.int .i64 s0) (.slice b6 z0.length c6)) := Lib.hid (Tx0_7.out.keep B8.out)
      obtain ⟨Tx0_8_l, Tx0_8_a, Tx0_8_b⟩ := Tx0_8.out
      clear Tx0_7 Tx0_7_l Tx0_7_a Tx0_7_b
      have Tx1_8 : Hid (Two w8 w7.heap.size (.int .i64 s1) (.slice b7 z1.length c7)) := Lib.hid ((two_new w7 (.int .i64 s1) (.slice b7 z1.length c7) 26).keep hb8)
      obtain ⟨Tx1_8_l, Tx1_8_a, Tx1_8_b⟩ := Tx1_8.out
      have Ox0_8 : Hid (Row w8 w5.heap.size w6.heap.size b6 z0.length c6 z0) := Lib.hid (Ox0_7.out.keep B8.out)
      clear Ox0_7
      have Ox1_8 : Hid (Row w8 (w6.heap.size + 1) w7.heap.size b7 z1.length c7 z1) := Lib.hid (Ox1_7.out.keep B8.out)
      clear Ox1_7
      have A8 : Hid (Below w.heap.size w w8) := Lib.hid (A7.out.trans (B8.out.mono A7.out.size))
      clear A7
      clear hb8
      go_wp2
      have HT : Hid (∀ W, Below w8.heap.size w8 W → IntsAt W a0 len0 z0) := Lib.hid (fun W hW => HS0.out.below (A8.out.trans (hW.mono A8.out.size)))
      have HK : Hid (∀ W, Below w8.heap.size w8 W → W.cell? ⟨w.heap.size, 0, none⟩ = some (.int .i64 s0) ∧ W.cell? ⟨w.heap.size, 1, none⟩ = some (.slice a0 len0 cap0) ∧ W.cell? ⟨w6.heap.size, 0, none⟩ = some (.int .i64 s0) ∧ W.cell? ⟨w6.heap.size, 1, none⟩ = some (.slice b6 z0.length c6) ∧ Below w8.heap.size w8 W) := Lib.hid (fun W hW => ⟨(Ta0_8.out.keep hW).2.1, (Ta0_8.out.keep hW).2.2, (Tx0_8.out.keep hW).2.1, (Tx0_8.out.keep hW).2.2, hW⟩)
      have HX : Hid (∀ W, Below w8.heap.size w8 W → Row W w5.heap.size w6.heap.size b6 z0.length c6 z0) := Lib.hid (fun W hW => Ox0_8.out.keep hW)
      go_region_held3 (fun w' => w'.cell? ⟨w.heap.size, 0, none⟩ = some (.int .i64 s0) ∧ w'.cell? ⟨w.heap.size, 1, none⟩ = some (.slice a0 len0 cap0) ∧ w'.cell? ⟨w6.heap.size, 0, none⟩ = some (.int .i64 s0) ∧ w'.cell? ⟨w6.heap.size, 1, none⟩ = some (.slice b6 z0.length c6) ∧ Below w8.heap.size w8 w')
        (first | exact HK.out _ (Below.refl _ _).drew | exact HK.out _ hb9 | exact HK.out _ hb10)
        ((first
          | (go_at_call 30; refine (to_rhythm s0 a0 len0 cap0 z0 _ (HT.out _ (Below.refl _ _).drew) le0).mono ?_; rintro e w9 ⟨b9, c9, rfl, hown9, hc9⟩; have HO9 := Lib.hid hown9; have hb9 := (Below.refl w8.heap.size w8).drew.trans hc9; clear hown9 hc9)
          | (go_at_call 32; refine (eq_rhythm s0 b6 _ c6 _ z0.length z0 _ ((HX.out _ hb9).at HS0.out.int) (intsAt_own HO9.out HS0.out.int) (by omega)).mono ?_; rintro e w10 ⟨rfl, hc10⟩; have hb10 := hb9.trans (hc10.mono hb9.size); clear hc10)))
      clear HT HK HX hb9 HO9
      rename_i hHeld
      clear hHeld
      have B10 : Hid (Below w8.heap.size w8 w10) := Lib.hid (hb10)
      have B10_size := B10.out.size
      have Ta0_10 : Hid (Two w10 w.heap.size (.int .i64 s0) (.slice a0 len0 cap0)) := Lib.hid (Ta0_8.out.keep B10.out)
      obtain ⟨Ta0_10_l, Ta0_10_a, Ta0_10_b⟩ := Ta0_10.out
      clear Ta0_8 Ta0_8_l Ta0_8_a Ta0_8_b
      have Ta1_10 : Hid (Two w10 (w.heap.size + 1) (.int .i64 s1) (.slice a1 len1 cap1)) := Lib.hid (Ta1_8.out.keep B10.out)
      obtain ⟨Ta1_10_l, Ta1_10_a, Ta1_10_b⟩ := Ta1_10.out
      clear Ta1_8 Ta1_8_l Ta1_8_a Ta1_8_b
      have Tx0_10 : Hid (Two w10 w6.heap.size (.int .i64 s0) (.slice b6 z0.length c6)) := Lib.hid (Tx0_8.out.keep B10.out)
      obtain ⟨Tx0_10_l, Tx0_10_a, Tx0_10_b⟩ := Tx0_10.out
      clear Tx0_8 Tx0_8_l Tx0_8_a Tx0_8_b
      have Tx1_10 : Hid (Two w10 w7.heap.size (.int .i64 s1) (.slice b7 z1.length c7)) := Lib.hid (Tx1_8.out.keep B10.out)
      obtain ⟨Tx1_10_l, Tx1_10_a, Tx1_10_b⟩ := Tx1_10.out
      clear Tx1_8 Tx1_8_l Tx1_8_a Tx1_8_b
      have Ox0_10 : Hid (Row w10 w5.heap.size w6.heap.size b6 z0.length c6 z0) := Lib.hid (Ox0_8.out.keep B10.out)
      clear Ox0_8
      have Ox1_10 : Hid (Row w10 (w6.heap.size + 1) w7.heap.size b7 z1.length c7 z1) := Lib.hid (Ox1_8.out.keep B10.out)
      clear Ox1_8
      have A10 : Hid (Below w.heap.size w w10) := Lib.hid (A8.out.trans (B10.out.mono A8.out.size))
      clear A8
      clear hb10
      go_wp2
      have HT : Hid (∀ W, Below w10.heap.size w10 W → IntsAt W a1 len1 z1) := Lib.hid (fun W hW => HS1.out.below (A10.out.trans (hW.mono A10.out.size)))
      have HK : Hid (∀ W, Below w10.heap.size w10 W → W.cell? ⟨(w.heap.size + 1), 0, none⟩ = some (.int .i64 s1) ∧ W.cell? ⟨(w.heap.size + 1), 1, none⟩ = some (.slice a1 len1 cap1) ∧ W.cell? ⟨w7.heap.size, 0, none⟩ = some (.int .i64 s1) ∧ W.cell? ⟨w7.heap.size, 1, none⟩ = some (.slice b7 z1.length c7) ∧ Below w10.heap.size w10 W) := Lib.hid (fun W hW => ⟨(Ta1_10.out.keep hW).2.1, (Ta1_10.out.keep hW).2.2, (Tx1_10.out.keep hW).2.1, (Tx1_10.out.keep hW).2.2, hW⟩)
      have HX : Hid (∀ W, Below w10.heap.size w10 W → Row W (w6.heap.size + 1) w7.heap.size b7 z1.length c7 z1) := Lib.hid (fun W hW => Ox1_10.out.keep hW)
      go_region_held3 (fun w' => w'.cell? ⟨(w.heap.size + 1), 0, none⟩ = some (.int .i64 s1) ∧ w'.cell? ⟨(w.heap.size + 1), 1, none⟩ = some (.slice a1 len1 cap1) ∧ w'.cell? ⟨w7.heap.size, 0, none⟩ = some (.int .i64 s1) ∧ w'.cell? ⟨w7.heap.size, 1, none⟩ = some (.slice b7 z1.length c7) ∧ Below w10.heap.size w10 w')
        (first | exact HK.out _ (Below.refl _ _).drew | exact HK.out _ hb11 | exact HK.out _ hb12)
        ((first
          | (go_at_call 30; refine (to_rhythm s1 a1 len1 cap1 z1 _ (HT.out _ (Below.refl _ _).drew) le1).mono ?_; rintro e w11 ⟨b11, c11, rfl, hown11, hc11⟩; have HO11 := Lib.hid hown11; have hb11 := (Below.refl w10.heap.size w10).drew.trans hc11; clear hown11 hc11)
          | (go_at_call 32; refine (eq_rhythm s1 b7 _ c7 _ z1.length z1 _ ((HX.out _ hb11).at HS1.out.int) (intsAt_own HO11.out HS1.out.int) (by omega)).mono ?_; rintro e w12 ⟨rfl, hc12⟩; have hb12 := hb11.trans (hc12.mono hb11.size); clear hc12)))
      clear HT HK HX hb11 HO11
      rename_i hHeld
      clear hHeld
      have B12 : Hid (Below w10.heap.size w10 w12) := Lib.hid (hb12)
      have B12_size := B12.out.size
      have Ta0_12 : Hid (Two w12 w.heap.size (.int .i64 s0) (.slice a0 len0 cap0)) := Lib.hid (Ta0_10.out.keep B12.out)
      obtain ⟨Ta0_12_l, Ta0_12_a, Ta0_12_b⟩ := Ta0_12.out
      clear Ta0_10 Ta0_10_l Ta0_10_a Ta0_10_b
      have Ta1_12 : Hid (Two w12 (w.heap.size + 1) (.int .i64 s1) (.slice a1 len1 cap1)) := Lib.hid (Ta1_10.out.keep B12.out)
      obtain ⟨Ta1_12_l, Ta1_12_a, Ta1_12_b⟩ := Ta1_12.out
      clear Ta1_10 Ta1_10_l Ta1_10_a Ta1_10_b
      have Tx0_12 : Hid (Two w12 w6.heap.size (.int .i64 s0) (.slice b6 z0.length c6)) := Lib.hid (Tx0_10.out.keep B12.out)
      obtain ⟨Tx0_12_l, Tx0_12_a, Tx0_12_b⟩ := Tx0_12.out
      clear Tx0_10 Tx0_10_l Tx0_10_a Tx0_10_b
      have Tx1_12 : Hid (Two w12 w7.heap.size (.int .i64 s1) (.slice b7 z1.length c7)) := Lib.hid (Tx1_10.out.keep B12.out)
      obtain ⟨Tx1_12_l, Tx1_12_a, Tx1_12_b⟩ := Tx1_12.out
      clear Tx1_10 Tx1_10_l Tx1_10_a Tx1_10_b
      have Ox0_12 : Hid (Row w12 w5.heap.size w6.heap.size b6 z0.length c6 z0) := Lib.hid (Ox0_10.out.keep B12.out)
      clear Ox0_10
      have Ox1_12 : Hid (Row w12 (w6.heap.size + 1) w7.heap.size b7 z1.length c7 z1) := Lib.hid (Ox1_10.out.keep B12.out)
      clear Ox1_10
      have A12 : Hid (Below w.heap.size w w12) := Lib.hid (A10.out.trans (B12.out.mono A10.out.size))
      clear A10
      clear hb12
      go_wp2
      go_ret
      exact ⟨rfl, A12.out⟩

set_option maxRecDepth 100000 in
theorem lifted (os : Os) (started : os.Started) (H : Type) (enc : TypeId × Value → H) :
    ReturnsInHanded {} Try.checked os 12 .any (Rows.fnExactIsPeriodicTilingSpec.pre6 enc Try.prog Try.f12 Rows.fnExactIsPeriodicTilingRow.domain false) (Rows.fnExactIsPeriodicTilingSpec.post enc Try.prog Try.f12 false true false false) := by
  refine returnsInHanded_of_change (C := Try.checked) own started (by kernel_rfl) Try.func12
    (ChangeSpec.witness6 (enc := enc) (C := Try.checked) false ⟨#[], #[.agg #[.int .i64 0, .slice none 0 0], .agg #[.int .i64 0, .slice none 0 0]], []⟩ 8 (by kernel_rfl) (by kernel_rfl) (by kernel_rfl) (by kernel_rfl)) ?_
  intro W base args ds gs before hval0 hW hcnd _
  have hval : ∀ (j : Nat) t v, Try.f12.params[j]? = some t → args[j]? = some v → Value.okWide Try.prog W .any base t v := hval0
  have hW' := hW
  obtain ⟨p, q, hA0, hV, rfl, hfz, hnd⟩ := hW
  have hA : DataW.TrodAll enc Try.prog W 0 (fun _ => true) true Try.f12.params.toList args.toList ds p := hA0
  rw [Try.params12] at hA hval
  obtain ⟨v0, vs0, d0, ds0, p0, q0, hargs, rfl, rfl, h0, r0⟩ := trodAll_cons hA
  obtain ⟨v1, vs1, d1, ds1, p1, q1, rfl, rfl, rfl, h1, r1⟩ := trodAll_cons r0
  obtain ⟨rfl, rfl, rfl⟩ := trodAll_nil r1
  obtain rfl : args = #[v0, v1] := by cases args; simp_all
  obtain ⟨rfl, rfl⟩ := trodVars_none hV
  have k0 := h0
  have lt0 : ∀ x ∈ p0, x.block < W.heap.size := by obtain ⟨m, hm⟩ := k0; exact DataW.trod_lt m _ _ _ hm
  obtain ⟨s0, a0, len0, cap0, z0, rfl, w0⟩ := opened (hval 0 39 v0 rfl rfl) h0
  have k1 := h1
  have lt1 : ∀ x ∈ p1, x.block < W.heap.size := by obtain ⟨m, hm⟩ := k1; exact DataW.trod_lt m _ _ _ hm
  obtain ⟨s1, a1, len1, cap1, z1, rfl, w1⟩ := opened (hval 1 39 v1 rfl rfl) h1
  clear hA0 hval0
  refine (walk s0 a0 len0 cap0 z0 s1 a1 len1 cap1 z1 W w0 w1).mono fun e W' ⟨he, bel⟩ => ?_
  subst he
  exact ⟨_, rfl, _, _, _, [], _, [], hW', trodAll_mk1 (shut_bool Try.underlying4 _), (trodAll_cons_mk (Below.trod laidOut (by kernel_rfl) (of_decide_eq_true (by kernel_rfl)) k0 bel lt0) (trodAll_cons_mk (Below.trod laidOut (by kernel_rfl) (of_decide_eq_true (by kernel_rfl)) k1 bel lt1) trodAll_mk0)), rfl, bel.frame _, fun h => by cases h⟩

theorem proved : Rows.FnExactIsPeriodicTilingSaid :=
  OpenClaim.holds_of_wide 12 Try.f12 rfl rfl rfl rfl rfl rfl rfl ⟨rfl, rfl, rfl, rfl, rfl⟩ rfl rfl rfl rfl rfl (by kernel_rfl) Try.func12 (by kernel_rfl)
    (of_decide_eq_true (by kernel_rfl)) (by unfold Func.isWrapper; rw [if_neg (of_decide_eq_false (by kernel_rfl))]; exact ⟨rfl, rfl⟩)
    (fun os started H enc _ => lifted os started H enc)
#print axioms proved
end Go.Proofs.Ytpgolnkhbnancaa.fnExactIsPeriodicTiling
