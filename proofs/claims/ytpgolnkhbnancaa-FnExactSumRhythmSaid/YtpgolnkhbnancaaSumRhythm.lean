/-
  'SumRhythm' of the program answers, at every two rhythms, as its model does, leaves its arguments as they were, and owns the memory of its answer. No condition.
-/
import Derived.Test.YtpgolnkhbnancaaSuf
import Derived.Test.YtpgolnkhbnancaaReg
import Derived.Test.YtpgolnkhbnancaaOpen
import Derived.Deep.RegionHeld3
import Derived.ProofKit
namespace Go.Proofs.Ytpgolnkhbnancaa.fnExactSumRhythm
open Go.ChangeShapes Go.WideShapes Go.ChangeAt Go.RowKit Rhy
set_option linter.unusedVariables false

theorem suz_int (s : Int) (xs : List Int) (t : Int) (ys : List Int) : AllInt (cZ (Ok s xs ∧ Ok t ys ∧ s = t) (suZ s xs ys)) := by
  by_cases h : Ok s xs ∧ Ok t ys ∧ s = t
  · rw [cZ_yes h]; exact su_int h.1.1
  · rw [cZ_no h]; intro z hz; cases hz
theorem suz_len (s : Int) (xs : List Int) (t : Int) (ys : List Int) : (cZ (Ok s xs ∧ Ok t ys ∧ s = t) (suZ s xs ys)).length ≤ 1048576 :=
  cZ_len (fun h => Nat.le_trans (ok_len (su_ok h.1.1 xs ys)) (by omega))

set_option maxHeartbeats 1000000 in
set_option maxRecDepth 100000 in
theorem walk (s0 : Int) (a0 : Option Addr) (len0 cap0 : Nat) (z0 : List Int) (s1 : Int) (a1 : Option Addr) (len1 cap1 : Nat) (z1 : List Int) (w : World) (w0 : Opened w s0 a0 len0 z0) (w1 : Opened w s1 a1 len1 z1) :
    Calls Try.prog 5 #[rhy s0 a0 len0 cap0, rhy s1 a1 len1 cap1] w fun e w' => e = .returned (.bool true) ∧ Below w.heap.size w w' := by
  obtain ⟨i0, m0, sl0, su0⟩ := w0
  have HS0 := Lib.hid i0
  clear i0
  obtain ⟨i1, m1, sl1, su1⟩ := w1
  have HS1 := Lib.hid i1
  clear i1
  go_enter Try.func5, Try.ntmps5
  go_wp2_with fail
  refine (size_rhythm s0 _ a0 len0 cap0 _ m0 (by omega) (by omega)).mono ?_
  rintro e w1 ⟨⟨r0, rfl, hr | ⟨hr, hlen0, he0⟩, h1, h2⟩, hb1⟩
  · have HB1 := Lib.hid hb1
    clear hb1
    go_wp2
    go_ret
    exact ⟨rfl, (bel2 w (.cells #[.int .i64 s0, .slice a0 len0 cap0] 39) (.cells #[.int .i64 s1, .slice a1 len1 cap1] 39)).trans (HB1.out.mono (bel2 w (.cells #[.int .i64 s0, .slice a0 len0 cap0] 39) (.cells #[.int .i64 s1, .slice a1 len1 cap1] 39)).size)⟩
  · have hr0 : ¬ r0 < 0 := by omega
    have le0 : len0 ≤ 1048576 := by omega
    have lz0 : z0.length ≤ 1048576 := by have := HS0.out.1; omega
    have hq0 : 0 ≤ r0 := hr
    have hq'0 : r0 ≤ 1048576 := by omega
    clear he0 hr h1 h2
    have p1 := Lib.hid (bel2 w (.cells #[.int .i64 s0, .slice a0 len0 cap0] 39) (.cells #[.int .i64 s1, .slice a1 len1 cap1] 39))
    have B1 : Hid (Below w.heap.size w w1) := Lib.hid (p1.out.trans (hb1.mono p1.out.size))
    have B1_size := B1.out.size
    have pz1 : w.heap.size + 2 ≤ w1.heap.size := by have := hb1.size; simp at this; omega
    have Ta0_1 : Hid (Two w1 w.heap.size (.int .i64 s0) (.slice a0 len0 cap0)) := Lib.hid (((two_new w (.int .i64 s0) (.slice a0 len0 cap0) 39).keep (bel1 _ (.cells #[.int .i64 s1, .slice a1 len1 cap1] 39))).keep hb1)
    obtain ⟨Ta0_1_l, Ta0_1_a, Ta0_1_b⟩ := Ta0_1.out
    have Ta1_1 : Hid (Two w1 (w.heap.size + 1) (.int .i64 s1) (.slice a1 len1 cap1)) := Lib.hid (by simpa using ((two_new (w.alloc (.cells #[.int .i64 s0, .slice a0 len0 cap0] 39)) (.int .i64 s1) (.slice a1 len1 cap1) 39).keep hb1 : Two _ _ _ _))
    obtain ⟨Ta1_1_l, Ta1_1_a, Ta1_1_b⟩ := Ta1_1.out
    have A1 : Hid (Below w.heap.size w w1) := Lib.hid (B1.out)
    clear hb1
    go_wp2_with fail
    refine (size_rhythm s1 _ a1 len1 cap1 _ m1 (by omega) (by omega)).mono ?_
    rintro e w2 ⟨⟨r1, rfl, hr | ⟨hr, hlen1, he1⟩, h1, h2⟩, hb2⟩
    · have HB2 := Lib.hid hb2
      clear hb2
      go_wp2
      go_ret
      exact ⟨rfl, A1.out.trans (HB2.out.mono A1.out.size)⟩
    · have hr1 : ¬ r1 < 0 := by omega
      have le1 : len1 ≤ 1048576 := by omega
      have lz1 : z1.length ≤ 1048576 := by have := HS1.out.1; omega
      have hq1 : 0 ≤ r1 := hr
      have hq'1 : r1 ≤ 1048576 := by omega
      clear he1 hr h1 h2
      have B2 : Hid (Below w1.heap.size w1 w2) := Lib.hid (hb2)
      have B2_size := B2.out.size
      have Ta0_2 : Hid (Two w2 w.heap.size (.int .i64 s0) (.slice a0 len0 cap0)) := Lib.hid (Ta0_1.out.keep B2.out)
      obtain ⟨Ta0_2_l, Ta0_2_a, Ta0_2_b⟩ := Ta0_2.out
      clear Ta0_1 Ta0_1_l Ta0_1_a Ta0_1_b
      have Ta1_2 : Hid (Two w2 (w.heap.size + 1) (.int .i64 s1) (.slice a1 len1 cap1)) := Lib.hid (Ta1_1.out.keep B2.out)
      obtain ⟨Ta1_2_l, Ta1_2_a, Ta1_2_b⟩ := Ta1_2.out
      clear Ta1_1 Ta1_1_l Ta1_1_a Ta1_1_b
      have A2 : Hid (Below w.heap.size w w2) := Lib.hid (A1.out.trans (B2.out.mono A1.out.size))
      clear A1
      clear hb2
      have HZ : Hid (AllInt (cZ (Ok s0 z0 ∧ Ok s1 z1 ∧ s0 = s1) (suZ s0 z0 z1))) := Lib.hid (suz_int s0 z0 s1 z1)
      have hzl : (cZ (Ok s0 z0 ∧ Ok s1 z1 ∧ s0 = s1) (suZ s0 z0 z1)).length ≤ 1048576 := suz_len s0 z0 s1 z1
      go_upto_region 8 with fail
      go_cut [6, 7] (fun sa sb wx => ∃ g b c, sa = .pointer (some ⟨g, 0, none⟩) ∧ sb = .bool (cB (Ok s0 z0 ∧ Ok s1 z1 ∧ s0 = s1)) ∧ Two wx g (.int .i64 (cS (Ok s0 z0 ∧ Ok s1 z1 ∧ s0 = s1) s0)) (.slice b (cZ (Ok s0 z0 ∧ Ok s1 z1 ∧ s0 = s1) (suZ s0 z0 z1)).length c) ∧ Row wx w2.heap.size wx.heap.size b (cZ (Ok s0 z0 ∧ Ok s1 z1 ∧ s0 = s1) (suZ s0 z0 z1)).length c (cZ (Ok s0 z0 ∧ Ok s1 z1 ∧ s0 = s1) (suZ s0 z0 z1)) ∧ Below w2.heap.size w2 wx ∧ w2.heap.size ≤ g)
      case first =>
        have HK : Hid (∀ W, Below w2.heap.size w2 W → W.cell? ⟨w.heap.size, 0, none⟩ = some (.int .i64 s0) ∧ W.cell? ⟨w.heap.size, 1, none⟩ = some (.slice a0 len0 cap0) ∧ W.cell? ⟨(w.heap.size + 1), 0, none⟩ = some (.int .i64 s1) ∧ W.cell? ⟨(w.heap.size + 1), 1, none⟩ = some (.slice a1 len1 cap1) ∧ Below w2.heap.size w2 W) := Lib.hid (fun W hW => ⟨(Ta0_2.out.keep hW).2.1, (Ta0_2.out.keep hW).2.2, (Ta1_2.out.keep hW).2.1, (Ta1_2.out.keep hW).2.2, hW⟩)
        have HB : Hid (∀ W, (W.cell? ⟨w.heap.size, 0, none⟩ = some (.int .i64 s0) ∧ W.cell? ⟨w.heap.size, 1, none⟩ = some (.slice a0 len0 cap0) ∧ W.cell? ⟨(w.heap.size + 1), 0, none⟩ = some (.int .i64 s1) ∧ W.cell? ⟨(w.heap.size + 1), 1, none⟩ = some (.slice a1 len1 cap1) ∧ Below w2.heap.size w2 W) → Below w2.heap.size w2 W) := Lib.hid (fun W hW => hW.2.2.2.2)
        have HT0 : Hid (∀ W, (W.cell? ⟨w.heap.size, 0, none⟩ = some (.int .i64 s0) ∧ W.cell? ⟨w.heap.size, 1, none⟩ = some (.slice a0 len0 cap0) ∧ W.cell? ⟨(w.heap.size + 1), 0, none⟩ = some (.int .i64 s1) ∧ W.cell? ⟨(w.heap.size + 1), 1, none⟩ = some (.slice a1 len1 cap1) ∧ Below w2.heap.size w2 W) → IntsAt W a0 len0 z0) := Lib.hid (fun W hW => HS0.out.below (A2.out.trans ((HB.out W hW).mono A2.out.size)))
        have HT1 : Hid (∀ W, (W.cell? ⟨w.heap.size, 0, none⟩ = some (.int .i64 s0) ∧ W.cell? ⟨w.heap.size, 1, none⟩ = some (.slice a0 len0 cap0) ∧ W.cell? ⟨(w.heap.size + 1), 0, none⟩ = some (.int .i64 s1) ∧ W.cell? ⟨(w.heap.size + 1), 1, none⟩ = some (.slice a1 len1 cap1) ∧ Below w2.heap.size w2 W) → IntsAt W a1 len1 z1) := Lib.hid (fun W hW => HS1.out.below (A2.out.trans ((HB.out W hW).mono A2.out.size)))
        go_region_held3 (fun w' => w'.cell? ⟨w.heap.size, 0, none⟩ = some (.int .i64 s0) ∧ w'.cell? ⟨w.heap.size, 1, none⟩ = some (.slice a0 len0 cap0) ∧ w'.cell? ⟨(w.heap.size + 1), 0, none⟩ = some (.int .i64 s1) ∧ w'.cell? ⟨(w.heap.size + 1), 1, none⟩ = some (.slice a1 len1 cap1) ∧ Below w2.heap.size w2 w')
          (first | exact HK.out _ (Below.refl _ _).drew | exact HK.out _ ((Below.refl _ _).drew.alloc (Nat.le_refl _) _) | exact HK.out _ hb4 | exact HK.out _ hb5 | exact HK.out _ hb6 | exact HK.out _ (hb4.alloc hb4.size _) | exact HK.out _ (hb5.alloc hb5.size _) | exact HK.out _ (hb6.alloc hb6.size _) | exact HK.out _ (below_set2 hb6 hN) | exact HK.out _ (below_set2 (hb6.alloc hb6.size _) hb6.size))
          ((first
            | (go_at_call 30; ((with_reducible refine (to_rhythm s0 a0 len0 cap0 z0 _ (HT0.out _ (by assumption)) le0).mono ?_); rintro e w4 ⟨b4, c4, rfl, hown4, hc4⟩); have hb4 := belS hc4 (HB.out _ (by assumption)); have hn4 : Row w4 w2.heap.size w4.heap.size b4 z0.length c4 z0 := row_of (own_base hown4 (sizeS hc4 (HB.out _ (by assumption)))); (first | (have bx : Box w4 w2.heap.size (.int .i64 0) (.slice none 0 0) 26 := kept_boxD hc4; have hN : w2.heap.size ≤ w2.heap.size := Nat.le_refl _; obtain ⟨bx1, bx2, bx3, bx4⟩ := bx.facts) | skip); clear hown4)
            | (go_at_call 30; ((with_reducible refine (to_rhythm s1 a1 len1 cap1 z1 _ (HT1.out _ (by assumption)) le1).mono ?_); rintro e w5 ⟨b5, c5, rfl, hown5, hc5⟩); have hb5 := belS hc5 (HB.out _ (by assumption)); have hn5 : Row w5 w2.heap.size w5.heap.size b5 z1.length c5 z1 := row_of (own_base hown5 (sizeS hc5 (HB.out _ (by assumption)))); have hn4_1 : Row w5 w2.heap.size w4.heap.size b4 z0.length c4 z0 := (by first | exact kept_row hn4 hc5 | exact kept_row2 hn4 hc5); (first | (have bx : Box w5 w4.heap.size (.int .i64 0) (.slice none 0 0) 26 := kept_box hc5; have hN : w2.heap.size ≤ w4.heap.size := hb4.size; obtain ⟨bx1, bx2, bx3, bx4⟩ := bx.facts) | (have bx := kept_box2 bx hc5; obtain ⟨bx1, bx2, bx3, bx4⟩ := bx.facts) | skip); clear hown5)
            | (go_at_call 36; ((with_reducible refine (sumr_spec s0 b4 z0.length c4 z0 s1 b5 z1.length c5 z1 _ (by first | exact hn4_1.at HS0.out.int | exact (kept_row hn4_1 (bel1 _ _)).at HS0.out.int) lz0 (by first | exact hn5.at HS1.out.int | exact (kept_row hn5 (bel1 _ _)).at HS1.out.int) lz1).mono ?_); rintro e w6 ⟨b6, c6, rfl, hown6, hc6⟩); have hb6 := belS hc6 (HB.out _ (by assumption)); have hlo := sizeS hc6 (HB.out _ (by assumption)); (first | (have bx : Box w6 w5.heap.size (.int .i64 0) (.slice none 0 0) 26 := kept_box hc6; have hN : w2.heap.size ≤ w5.heap.size := hb5.size; have hNl := lt_alloc hc6; obtain ⟨bx1, bx2, bx3, bx4⟩ := bx.facts) | (have hNl := bx.lt; have bx := kept_box2 bx hc6; obtain ⟨bx1, bx2, bx3, bx4⟩ := bx.facts) | skip))))
        all_goals
          clear HK HB HT0 HT1
          go_wp2_with fail
          go_meet
          first
          | exact ⟨_, b6, c6, rfl, rfl, two_new _ _ _ _, row_alloc _ hown6 hlo, hb6.alloc hb6.size _, hb6.size⟩
          | exact ⟨_, b6, c6, rfl, rfl, box_set bx, row_set hown6 hNl hlo, below_set2 hb6 hN, hN⟩
      case rest =>
        obtain ⟨g3, b3, c3, rfl, rfl, htwo3, hrow3, hb3, hg3⟩ := hcut
        obtain ⟨w3, rfl⟩ : ∃ w3, w3 = wc := ⟨_, rfl⟩
        have Om_3 : Hid (Row w3 w2.heap.size w3.heap.size b3 (cZ (Ok s0 z0 ∧ Ok s1 z1 ∧ s0 = s1) (suZ s0 z0 z1)).length c3 (cZ (Ok s0 z0 ∧ Ok s1 z1 ∧ s0 = s1) (suZ s0 z0 z1))) := Lib.hid hrow3
        have Tm_3 : Hid (Two w3 g3 (.int .i64 (cS (Ok s0 z0 ∧ Ok s1 z1 ∧ s0 = s1) s0)) (.slice b3 (cZ (Ok s0 z0 ∧ Ok s1 z1 ∧ s0 = s1) (suZ s0 z0 z1)).length c3)) := Lib.hid htwo3
        have B3 : Hid (Below w2.heap.size w2 w3) := Lib.hid (hb3)
        have B3_size := B3.out.size
        have Ta0_3 : Hid (Two w3 w.heap.size (.int .i64 s0) (.slice a0 len0 cap0)) := Lib.hid (Ta0_2.out.keep B3.out)
        obtain ⟨Ta0_3_l, Ta0_3_a, Ta0_3_b⟩ := Ta0_3.out
        clear Ta0_2 Ta0_2_l Ta0_2_a Ta0_2_b
        have Ta1_3 : Hid (Two w3 (w.heap.size + 1) (.int .i64 s1) (.slice a1 len1 cap1)) := Lib.hid (Ta1_2.out.keep B3.out)
        obtain ⟨Ta1_3_l, Ta1_3_a, Ta1_3_b⟩ := Ta1_3.out
        clear Ta1_2 Ta1_2_l Ta1_2_a Ta1_2_b
        have A3 : Hid (Below w.heap.size w w3) := Lib.hid (A2.out.trans (B3.out.mono A2.out.size))
        clear A2
        have g3_lt := Tm_3.out.1
        obtain ⟨Tm_3_l, Tm_3_a, Tm_3_b⟩ := Tm_3.out
        clear htwo3 hrow3 hb3
        go_wp2_with fail
        refine (to_rhythm s0 a0 len0 cap0 z0 _ (HS0.out.below A3.out) le0).mono ?_
        rintro e w7 ⟨b7, c7, rfl, hown7, hb7⟩
        have Ox0_7 : Hid (Row w7 w3.heap.size w7.heap.size b7 z0.length c7 z0) := Lib.hid (row_of (own_base hown7 (Nat.le_refl _)))
        have B7 : Hid (Below w3.heap.size w3 w7) := Lib.hid (hb7)
        have B7_size := B7.out.size
        have Ta0_7 : Hid (Two w7 w.heap.size (.int .i64 s0) (.slice a0 len0 cap0)) := Lib.hid (Ta0_3.out.keep B7.out)
        obtain ⟨Ta0_7_l, Ta0_7_a, Ta0_7_b⟩ := Ta0_7.out
        clear Ta0_3 Ta0_3_l Ta0_3_a Ta0_3_b
        have Ta1_7 : Hid (Two w7 (w.heap.size + 1) (.int .i64 s1) (.slice a1 len1 cap1)) := Lib.hid (Ta1_3.out.keep B7.out)
        obtain ⟨Ta1_7_l, Ta1_7_a, Ta1_7_b⟩ := Ta1_7.out
        clear Ta1_3 Ta1_3_l Ta1_3_a Ta1_3_b
        have Tm_7 : Hid (Two w7 g3 (.int .i64 (cS (Ok s0 z0 ∧ Ok s1 z1 ∧ s0 = s1) s0)) (.slice b3 (cZ (Ok s0 z0 ∧ Ok s1 z1 ∧ s0 = s1) (suZ s0 z0 z1)).length c3)) := Lib.hid (Tm_3.out.keep B7.out)
        obtain ⟨Tm_7_l, Tm_7_a, Tm_7_b⟩ := Tm_7.out
        clear Tm_3 Tm_3_l Tm_3_a Tm_3_b
        have Om_7 : Hid (Row w7 w2.heap.size w3.heap.size b3 (cZ (Ok s0 z0 ∧ Ok s1 z1 ∧ s0 = s1) (suZ s0 z0 z1)).length c3 (cZ (Ok s0 z0 ∧ Ok s1 z1 ∧ s0 = s1) (suZ s0 z0 z1))) := Lib.hid (Om_3.out.keep B7.out)
        clear Om_3
        have A7 : Hid (Below w.heap.size w w7) := Lib.hid (A3.out.trans (B7.out.mono A3.out.size))
        clear A3
        clear hown7 hb7
        go_wp2_with fail
        refine (to_rhythm s1 a1 len1 cap1 z1 _ ((HS1.out.below A7.out).below (bel1 _ (.cells #[.int .i64 s0, .slice b7 z0.length c7] 26))) le1).mono ?_
        rintro e w8 ⟨b8, c8, rfl, hown8, hb8⟩
        have Ox1_8 : Hid (Row w8 (w7.heap.size + 1) w8.heap.size b8 z1.length c8 z1) := Lib.hid (row_of (own_base hown8 (by simp)))
        have p8 := Lib.hid (bel1 w7 (.cells #[.int .i64 s0, .slice b7 z0.length c7] 26))
        have B8 : Hid (Below w7.heap.size w7 w8) := Lib.hid (p8.out.trans (hb8.mono p8.out.size))
        have B8_size := B8.out.size
        have pz8 : w7.heap.size + 1 ≤ w8.heap.size := by have := hb8.size; simp at this; omega
        have Ta0_8 : Hid (Two w8 w.heap.size (.int .i64 s0) (.slice a0 len0 cap0)) := Lib.hid (Ta0_7.out.keep B8.out)
        obtain ⟨Ta0_8_l, Ta0_8_a, Ta0_8_b⟩ := Ta0_8.out
        clear Ta0_7 Ta0_7_l Ta0_7_a Ta0_7_b
        have Ta1_8 : Hid (Two w8 (w.heap.size + 1) (.int .i64 s1) (.slice a1 len1 cap1)) := Lib.hid (Ta1_7.out.keep B8.out)
        obtain ⟨Ta1_8_l, Ta1_8_a, Ta1_8_b⟩ := Ta1_8.out
        clear Ta1_7 Ta1_7_l Ta1_7_a Ta1_7_b
        have Tm_8 : Hid (Two w8 g3 (.int .i64 (cS (Ok s0 z0 ∧ Ok s1 z1 ∧ s0 = s1) s0)) (.slice b3 (cZ (Ok s0 z0 ∧ Ok s1 z1 ∧ s0 = s1) (suZ s0 z0 z1)).length c3)) := Lib.hid (Tm_7.out.keep B8.out)
        obtain ⟨Tm_8_l, Tm_8_a, Tm_8_b⟩ := Tm_8.out
        clear Tm_7 Tm_7_l Tm_7_a Tm_7_b
        have Tx0_8 : Hid (Two w8 w7.heap.size (.int .i64 s0) (.slice b7 z0.length c7)) := Lib.hid ((two_new w7 (.int .i64 s0) (.slice b7 z0.length c7) 26).keep hb8)
        obtain ⟨Tx0_8_l, Tx0_8_a, Tx0_8_b⟩ := Tx0_8.out
        have Om_8 : Hid (Row w8 w2.heap.size w3.heap.size b3 (cZ (Ok s0 z0 ∧ Ok s1 z1 ∧ s0 = s1) (suZ s0 z0 z1)).length c3 (cZ (Ok s0 z0 ∧ Ok s1 z1 ∧ s0 = s1) (suZ s0 z0 z1))) := Lib.hid (Om_7.out.keep B8.out)
        clear Om_7
        have Ox0_8 : Hid (Row w8 w3.heap.size w7.heap.size b7 z0.length c7 z0) := Lib.hid (Ox0_7.out.keep B8.out)
        clear Ox0_7
        have A8 : Hid (Below w.heap.size w w8) := Lib.hid (A7.out.trans (B8.out.mono A7.out.size))
        clear A7
        clear hown8 hb8
        go_wp2_with fail
        refine (sumr_impl s0 b7 z0.length c7 z0 s1 b8 z1.length c8 z1 _ ((Ox0_8.out.at HS0.out.int).below (bel1 _ (.cells #[.int .i64 s1, .slice b8 z1.length c8] 26))) lz0 ((Ox1_8.out.at HS1.out.int).below (bel1 _ (.cells #[.int .i64 s1, .slice b8 z1.length c8] 26))) lz1).mono ?_
        rintro e w9 ⟨b9, c9, rfl, hown9, hb9⟩
        have Og_9 : Hid (Row w9 (w8.heap.size + 1) w9.heap.size b9 (cZ (Ok s0 z0 ∧ Ok s1 z1 ∧ s0 = s1) (suZ s0 z0 z1)).length c9 (cZ (Ok s0 z0 ∧ Ok s1 z1 ∧ s0 = s1) (suZ s0 z0 z1))) := Lib.hid (row_of (own_base hown9 (by simp)))
        have p9 := Lib.hid (bel1 w8 (.cells #[.int .i64 s1, .slice b8 z1.length c8] 26))
        have B9 : Hid (Below w8.heap.size w8 w9) := Lib.hid (p9.out.trans (hb9.mono p9.out.size))
        have B9_size := B9.out.size
        have pz9 : w8.heap.size + 1 ≤ w9.heap.size := by have := hb9.size; simp at this; omega
        have Ta0_9 : Hid (Two w9 w.heap.size (.int .i64 s0) (.slice a0 len0 cap0)) := Lib.hid (Ta0_8.out.keep B9.out)
        obtain ⟨Ta0_9_l, Ta0_9_a, Ta0_9_b⟩ := Ta0_9.out
        clear Ta0_8 Ta0_8_l Ta0_8_a Ta0_8_b
        have Ta1_9 : Hid (Two w9 (w.heap.size + 1) (.int .i64 s1) (.slice a1 len1 cap1)) := Lib.hid (Ta1_8.out.keep B9.out)
        obtain ⟨Ta1_9_l, Ta1_9_a, Ta1_9_b⟩ := Ta1_9.out
        clear Ta1_8 Ta1_8_l Ta1_8_a Ta1_8_b
        have Tm_9 : Hid (Two w9 g3 (.int .i64 (cS (Ok s0 z0 ∧ Ok s1 z1 ∧ s0 = s1) s0)) (.slice b3 (cZ (Ok s0 z0 ∧ Ok s1 z1 ∧ s0 = s1) (suZ s0 z0 z1)).length c3)) := Lib.hid (Tm_8.out.keep B9.out)
        obtain ⟨Tm_9_l, Tm_9_a, Tm_9_b⟩ := Tm_9.out
        clear Tm_8 Tm_8_l Tm_8_a Tm_8_b
        have Tx0_9 : Hid (Two w9 w7.heap.size (.int .i64 s0) (.slice b7 z0.length c7)) := Lib.hid (Tx0_8.out.keep B9.out)
        obtain ⟨Tx0_9_l, Tx0_9_a, Tx0_9_b⟩ := Tx0_9.out
        clear Tx0_8 Tx0_8_l Tx0_8_a Tx0_8_b
        have Tx1_9 : Hid (Two w9 w8.heap.size (.int .i64 s1) (.slice b8 z1.length c8)) := Lib.hid ((two_new w8 (.int .i64 s1) (.slice b8 z1.length c8) 26).keep hb9)
        obtain ⟨Tx1_9_l, Tx1_9_a, Tx1_9_b⟩ := Tx1_9.out
        have Om_9 : Hid (Row w9 w2.heap.size w3.heap.size b3 (cZ (Ok s0 z0 ∧ Ok s1 z1 ∧ s0 = s1) (suZ s0 z0 z1)).length c3 (cZ (Ok s0 z0 ∧ Ok s1 z1 ∧ s0 = s1) (suZ s0 z0 z1))) := Lib.hid (Om_8.out.keep B9.out)
        clear Om_8
        have Ox0_9 : Hid (Row w9 w3.heap.size w7.heap.size b7 z0.length c7 z0) := Lib.hid (Ox0_8.out.keep B9.out)
        clear Ox0_8
        have Ox1_9 : Hid (Row w9 (w7.heap.size + 1) w8.heap.size b8 z1.length c8 z1) := Lib.hid (Ox1_8.out.keep B9.out)
        clear Ox1_8
        have A9 : Hid (Below w.heap.size w w9) := Lib.hid (A8.out.trans (B9.out.mono A8.out.size))
        clear A8
        clear hown9 hb9
        go_wp2_with fail
        refine (eq_rhythm _ b9 b3 c9 c3 _ (cZ (Ok s0 z0 ∧ Ok s1 z1 ∧ s0 = s1) (suZ s0 z0 z1)) _ ((Og_9.out.at HZ.out).below (bel1 _ (.cells #[.int .i64 (cS (Ok s0 z0 ∧ Ok s1 z1 ∧ s0 = s1) s0), .slice b9 (cZ (Ok s0 z0 ∧ Ok s1 z1 ∧ s0 = s1) (suZ s0 z0 z1)).length c9] 26))) ((Om_9.out.at HZ.out).below (bel1 _ (.cells #[.int .i64 (cS (Ok s0 z0 ∧ Ok s1 z1 ∧ s0 = s1) s0), .slice b9 (cZ (Ok s0 z0 ∧ Ok s1 z1 ∧ s0 = s1) (suZ s0 z0 z1)).length c9] 26))) (by omega)).mono ?_
        rintro e w10 ⟨rfl, hb10⟩
        have p10 := Lib.hid (bel1 w9 (.cells #[.int .i64 (cS (Ok s0 z0 ∧ Ok s1 z1 ∧ s0 = s1) s0), .slice b9 (cZ (Ok s0 z0 ∧ Ok s1 z1 ∧ s0 = s1) (suZ s0 z0 z1)).length c9] 26))
        have B10 : Hid (Below w9.heap.size w9 w10) := Lib.hid (p10.out.trans (hb10.mono p10.out.size))
        have B10_size := B10.out.size
        have pz10 : w9.heap.size + 1 ≤ w10.heap.size := by have := hb10.size; simp at this; omega
        have Ta0_10 : Hid (Two w10 w.heap.size (.int .i64 s0) (.slice a0 len0 cap0)) := Lib.hid (Ta0_9.out.keep B10.out)
        obtain ⟨Ta0_10_l, Ta0_10_a, Ta0_10_b⟩ := Ta0_10.out
        clear Ta0_9 Ta0_9_l Ta0_9_a Ta0_9_b
        have Ta1_10 : Hid (Two w10 (w.heap.size + 1) (.int .i64 s1) (.slice a1 len1 cap1)) := Lib.hid (Ta1_9.out.keep B10.out)
        obtain ⟨Ta1_10_l, Ta1_10_a, Ta1_10_b⟩ := Ta1_10.out
        clear Ta1_9 Ta1_9_l Ta1_9_a Ta1_9_b
        have Tm_10 : Hid (Two w10 g3 (.int .i64 (cS (Ok s0 z0 ∧ Ok s1 z1 ∧ s0 = s1) s0)) (.slice b3 (cZ (Ok s0 z0 ∧ Ok s1 z1 ∧ s0 = s1) (suZ s0 z0 z1)).length c3)) := Lib.hid (Tm_9.out.keep B10.out)
        obtain ⟨Tm_10_l, Tm_10_a, Tm_10_b⟩ := Tm_10.out
        clear Tm_9 Tm_9_l Tm_9_a Tm_9_b
        have Tx0_10 : Hid (Two w10 w7.heap.size (.int .i64 s0) (.slice b7 z0.length c7)) := Lib.hid (Tx0_9.out.keep B10.out)
        obtain ⟨Tx0_10_l, Tx0_10_a, Tx0_10_b⟩ := Tx0_10.out
        clear Tx0_9 Tx0_9_l Tx0_9_a Tx0_9_b
        have Tx1_10 : Hid (Two w10 w8.heap.size (.int .i64 s1) (.slice b8 z1.length c8)) := Lib.hid (Tx1_9.out.keep B10.out)
        obtain ⟨Tx1_10_l, Tx1_10_a, Tx1_10_b⟩ := Tx1_10.out
        clear Tx1_9 Tx1_9_l Tx1_9_a Tx1_9_b
        have Tg_10 : Hid (Two w10 w9.heap.size (.int .i64 (cS (Ok s0 z0 ∧ Ok s1 z1 ∧ s0 = s1) s0)) (.slice b9 (cZ (Ok s0 z0 ∧ Ok s1 z1 ∧ s0 = s1) (suZ s0 z0 z1)).length c9)) := Lib.hid ((two_new w9 (.int .i64 (cS (Ok s0 z0 ∧ Ok s1 z1 ∧ s0 = s1) s0)) (.slice b9 (cZ (Ok s0 z0 ∧ Ok s1 z1 ∧ s0 = s1) (suZ s0 z0 z1)).length c9) 26).keep hb10)
        obtain ⟨Tg_10_l, Tg_10_a, Tg_10_b⟩ := Tg_10.out
        have Om_10 : Hid (Row w10 w2.heap.size w3.heap.size b3 (cZ (Ok s0 z0 ∧ Ok s1 z1 ∧ s0 = s1) (suZ s0 z0 z1)).length c3 (cZ (Ok s0 z0 ∧ Ok s1 z1 ∧ s0 = s1) (suZ s0 z0 z1))) := Lib.hid (Om_9.out.keep B10.out)
        clear Om_9
        have Ox0_10 : Hid (Row w10 w3.heap.size w7.heap.size b7 z0.length c7 z0) := Lib.hid (Ox0_9.out.keep B10.out)
        clear Ox0_9
        have Ox1_10 : Hid (Row w10 (w7.heap.size + 1) w8.heap.size b8 z1.length c8 z1) := Lib.hid (Ox1_9.out.keep B10.out)
        clear Ox1_9
        have Og_10 : Hid (Row w10 (w8.heap.size + 1) w9.heap.size b9 (cZ (Ok s0 z0 ∧ Ok s1 z1 ∧ s0 = s1) (suZ s0 z0 z1)).length c9 (cZ (Ok s0 z0 ∧ Ok s1 z1 ∧ s0 = s1) (suZ s0 z0 z1))) := Lib.hid (Og_9.out.keep B10.out)
        clear Og_9
        have A10 : Hid (Below w.heap.size w w10) := Lib.hid (A9.out.trans (B10.out.mono A9.out.size))
        clear A9
        clear hb10
        go_wp2
        have HT : Hid (∀ W, Below w10.heap.size w10 W → IntsAt W a0 len0 z0) := Lib.hid (fun W hW => HS0.out.below (A10.out.trans (hW.mono A10.out.size)))
        have HK : Hid (∀ W, Below w10.heap.size w10 W → W.cell? ⟨w.heap.size, 0, none⟩ = some (.int .i64 s0) ∧ W.cell? ⟨w.heap.size, 1, none⟩ = some (.slice a0 len0 cap0) ∧ W.cell? ⟨w7.heap.size, 0, none⟩ = some (.int .i64 s0) ∧ W.cell? ⟨w7.heap.size, 1, none⟩ = some (.slice b7 z0.length c7) ∧ Below w10.heap.size w10 W) := Lib.hid (fun W hW => ⟨(Ta0_10.out.keep hW).2.1, (Ta0_10.out.keep hW).2.2, (Tx0_10.out.keep hW).2.1, (Tx0_10.out.keep hW).2.2, hW⟩)
        have HX : Hid (∀ W, Below w10.heap.size w10 W → Row W w3.heap.size w7.heap.size b7 z0.length c7 z0) := Lib.hid (fun W hW => Ox0_10.out.keep hW)
        go_region_held3 (fun w' => w'.cell? ⟨w.heap.size, 0, none⟩ = some (.int .i64 s0) ∧ w'.cell? ⟨w.heap.size, 1, none⟩ = some (.slice a0 len0 cap0) ∧ w'.cell? ⟨w7.heap.size, 0, none⟩ = some (.int .i64 s0) ∧ w'.cell? ⟨w7.heap.size, 1, none⟩ = some (.slice b7 z0.length c7) ∧ Below w10.heap.size w10 w')
          (first | exact HK.out _ (Below.refl _ _).drew | exact HK.out _ hb11 | exact HK.out _ hb12)
          ((first
            | (go_at_call 30; refine (to_rhythm s0 a0 len0 cap0 z0 _ (HT.out _ (Below.refl _ _).drew) le0).mono ?_; rintro e w11 ⟨b11, c11, rfl, hown11, hc11⟩; have HO11 := Lib.hid hown11; have hb11 := (Below.refl w10.heap.size w10).drew.trans hc11; clear hown11 hc11)
            | (go_at_call 32; refine (eq_rhythm s0 b7 _ c7 _ z0.length z0 _ ((HX.out _ hb11).at HS0.out.int) (intsAt_own HO11.out HS0.out.int) (by omega)).mono ?_; rintro e w12 ⟨rfl, hc12⟩; have hb12 := hb11.trans (hc12.mono hb11.size); clear hc12)))
        clear HT HK HX hb11 HO11
        rename_i hHeld
        clear hHeld
        have B12 : Hid (Below w10.heap.size w10 w12) := Lib.hid (hb12)
        have B12_size := B12.out.size
        have Ta0_12 : Hid (Two w12 w.heap.size (.int .i64 s0) (.slice a0 len0 cap0)) := Lib.hid (Ta0_10.out.keep B12.out)
        obtain ⟨Ta0_12_l, Ta0_12_a, Ta0_12_b⟩ := Ta0_12.out
        clear Ta0_10 Ta0_10_l Ta0_10_a Ta0_10_b
        have Ta1_12 : Hid (Two w12 (w.heap.size + 1) (.int .i64 s1) (.slice a1 len1 cap1)) := Lib.hid (Ta1_10.out.keep B12.out)
        obtain ⟨Ta1_12_l, Ta1_12_a, Ta1_12_b⟩ := Ta1_12.out
        clear Ta1_10 Ta1_10_l Ta1_10_a Ta1_10_b
        have Tm_12 : Hid (Two w12 g3 (.int .i64 (cS (Ok s0 z0 ∧ Ok s1 z1 ∧ s0 = s1) s0)) (.slice b3 (cZ (Ok s0 z0 ∧ Ok s1 z1 ∧ s0 = s1) (suZ s0 z0 z1)).length c3)) := Lib.hid (Tm_10.out.keep B12.out)
        obtain ⟨Tm_12_l, Tm_12_a, Tm_12_b⟩ := Tm_12.out
        clear Tm_10 Tm_10_l Tm_10_a Tm_10_b
        have Tx0_12 : Hid (Two w12 w7.heap.size (.int .i64 s0) (.slice b7 z0.length c7)) := Lib.hid (Tx0_10.out.keep B12.out)
        obtain ⟨Tx0_12_l, Tx0_12_a, Tx0_12_b⟩ := Tx0_12.out
        clear Tx0_10 Tx0_10_l Tx0_10_a Tx0_10_b
        have Tx1_12 : Hid (Two w12 w8.heap.size (.int .i64 s1) (.slice b8 z1.length c8)) := Lib.hid (Tx1_10.out.keep B12.out)
        obtain ⟨Tx1_12_l, Tx1_12_a, Tx1_12_b⟩ := Tx1_12.out
        clear Tx1_10 Tx1_10_l Tx1_10_a Tx1_10_b
        have Tg_12 : Hid (Two w12 w9.heap.size (.int .i64 (cS (Ok s0 z0 ∧ Ok s1 z1 ∧ s0 = s1) s0)) (.slice b9 (cZ (Ok s0 z0 ∧ Ok s1 z1 ∧ s0 = s1) (suZ s0 z0 z1)).length c9)) := Lib.hid (Tg_10.out.keep B12.out)
        obtain ⟨Tg_12_l, Tg_12_a, Tg_12_b⟩ := Tg_12.out
        clear Tg_10 Tg_10_l Tg_10_a Tg_10_b
        have Om_12 : Hid (Row w12 w2.heap.size w3.heap.size b3 (cZ (Ok s0 z0 ∧ Ok s1 z1 ∧ s0 = s1) (suZ s0 z0 z1)).length c3 (cZ (Ok s0 z0 ∧ Ok s1 z1 ∧ s0 = s1) (suZ s0 z0 z1))) := Lib.hid (Om_10.out.keep B12.out)
        clear Om_10
        have Ox0_12 : Hid (Row w12 w3.heap.size w7.heap.size b7 z0.length c7 z0) := Lib.hid (Ox0_10.out.keep B12.out)
        clear Ox0_10
        have Ox1_12 : Hid (Row w12 (w7.heap.size + 1) w8.heap.size b8 z1.length c8 z1) := Lib.hid (Ox1_10.out.keep B12.out)
        clear Ox1_10
        have Og_12 : Hid (Row w12 (w8.heap.size + 1) w9.heap.size b9 (cZ (Ok s0 z0 ∧ Ok s1 z1 ∧ s0 = s1) (suZ s0 z0 z1)).length c9 (cZ (Ok s0 z0 ∧ Ok s1 z1 ∧ s0 = s1) (suZ s0 z0 z1))) := Lib.hid (Og_10.out.keep B12.out)
        clear Og_10
        have A12 : Hid (Below w.heap.size w w12) := Lib.hid (A10.out.trans (B12.out.mono A10.out.size))
        clear A10
        clear hb12
        go_wp2
        have HT : Hid (∀ W, Below w12.heap.size w12 W → IntsAt W a1 len1 z1) := Lib.hid (fun W hW => HS1.out.below (A12.out.trans (hW.mono A12.out.size)))
        have HK : Hid (∀ W, Below w12.heap.size w12 W → W.cell? ⟨(w.heap.size + 1), 0, none⟩ = some (.int .i64 s1) ∧ W.cell? ⟨(w.heap.size + 1), 1, none⟩ = some (.slice a1 len1 cap1) ∧ W.cell? ⟨w8.heap.size, 0, none⟩ = some (.int .i64 s1) ∧ W.cell? ⟨w8.heap.size, 1, none⟩ = some (.slice b8 z1.length c8) ∧ Below w12.heap.size w12 W) := Lib.hid (fun W hW => ⟨(Ta1_12.out.keep hW).2.1, (Ta1_12.out.keep hW).2.2, (Tx1_12.out.keep hW).2.1, (Tx1_12.out.keep hW).2.2, hW⟩)
        have HX : Hid (∀ W, Below w12.heap.size w12 W → Row W (w7.heap.size + 1) w8.heap.size b8 z1.length c8 z1) := Lib.hid (fun W hW => Ox1_12.out.keep hW)
        go_region_held3 (fun w' => w'.cell? ⟨(w.heap.size + 1), 0, none⟩ = some (.int .i64 s1) ∧ w'.cell? ⟨(w.heap.size + 1), 1, none⟩ = some (.slice a1 len1 cap1) ∧ w'.cell? ⟨w8.heap.size, 0, none⟩ = some (.int .i64 s1) ∧ w'.cell? ⟨w8.heap.size, 1, none⟩ = some (.slice b8 z1.length c8) ∧ Below w12.heap.size w12 w')
          (first | exact HK.out _ (Below.refl _ _).drew | exact HK.out _ hb13 | exact HK.out _ hb14)
          ((first
            | (go_at_call 30; refine (to_rhythm s1 a1 len1 cap1 z1 _ (HT.out _ (Below.refl _ _).drew) le1).mono ?_; rintro e w13 ⟨b13, c13, rfl, hown13, hc13⟩; have HO13 := Lib.hid hown13; have hb13 := (Below.refl w12.heap.size w12).drew.trans hc13; clear hown13 hc13)
            | (go_at_call 32; refine (eq_rhythm s1 b8 _ c8 _ z1.length z1 _ ((HX.out _ hb13).at HS1.out.int) (intsAt_own HO13.out HS1.out.int) (by omega)).mono ?_; rintro e w14 ⟨rfl, hc14⟩; have hb14 := hb13.trans (hc14.mono hb13.size); clear hc14)))
        clear HT HK HX hb13 HO13
        rename_i hHeld
        clear hHeld
        have B14 : Hid (Below w12.heap.size w12 w14) := Lib.hid (hb14)
        have B14_size := B14.out.size
        have Ta0_14 : Hid (Two w14 w.heap.size (.int .i64 s0) (.slice a0 len0 cap0)) := Lib.hid (Ta0_12.out.keep B14.out)
        obtain ⟨Ta0_14_l, Ta0_14_a, Ta0_14_b⟩ := Ta0_14.out
        clear Ta0_12 Ta0_12_l Ta0_12_a Ta0_12_b
        have Ta1_14 : Hid (Two w14 (w.heap.size + 1) (.int .i64 s1) (.slice a1 len1 cap1)) := Lib.hid (Ta1_12.out.keep B14.out)
        obtain ⟨Ta1_14_l, Ta1_14_a, Ta1_14_b⟩ := Ta1_14.out
        clear Ta1_12 Ta1_12_l Ta1_12_a Ta1_12_b
        have Tm_14 : Hid (Two w14 g3 (.int .i64 (cS (Ok s0 z0 ∧ Ok s1 z1 ∧ s0 = s1) s0)) (.slice b3 (cZ (Ok s0 z0 ∧ Ok s1 z1 ∧ s0 = s1) (suZ s0 z0 z1)).length c3)) := Lib.hid (Tm_12.out.keep B14.out)
        obtain ⟨Tm_14_l, Tm_14_a, Tm_14_b⟩ := Tm_14.out
        clear Tm_12 Tm_12_l Tm_12_a Tm_12_b
        have Tx0_14 : Hid (Two w14 w7.heap.size (.int .i64 s0) (.slice b7 z0.length c7)) := Lib.hid (Tx0_12.out.keep B14.out)
        obtain ⟨Tx0_14_l, Tx0_14_a, Tx0_14_b⟩ := Tx0_14.out
        clear Tx0_12 Tx0_12_l Tx0_12_a Tx0_12_b
        have Tx1_14 : Hid (Two w14 w8.heap.size (.int .i64 s1) (.slice b8 z1.length c8)) := Lib.hid (Tx1_12.out.keep B14.out)
        obtain ⟨Tx1_14_l, Tx1_14_a, Tx1_14_b⟩ := Tx1_14.out
        clear Tx1_12 Tx1_12_l Tx1_12_a Tx1_12_b
        have Tg_14 : Hid (Two w14 w9.heap.size (.int .i64 (cS (Ok s0 z0 ∧ Ok s1 z1 ∧ s0 = s1) s0)) (.slice b9 (cZ (Ok s0 z0 ∧ Ok s1 z1 ∧ s0 = s1) (suZ s0 z0 z1)).length c9)) := Lib.hid (Tg_12.out.keep B14.out)
        obtain ⟨Tg_14_l, Tg_14_a, Tg_14_b⟩ := Tg_14.out
        clear Tg_12 Tg_12_l Tg_12_a Tg_12_b
        have Om_14 : Hid (Row w14 w2.heap.size w3.heap.size b3 (cZ (Ok s0 z0 ∧ Ok s1 z1 ∧ s0 = s1) (suZ s0 z0 z1)).length c3 (cZ (Ok s0 z0 ∧ Ok s1 z1 ∧ s0 = s1) (suZ s0 z0 z1))) := Lib.hid (Om_12.out.keep B14.out)
        clear Om_12
        have Ox0_14 : Hid (Row w14 w3.heap.size w7.heap.size b7 z0.length c7 z0) := Lib.hid (Ox0_12.out.keep B14.out)
        clear Ox0_12
        have Ox1_14 : Hid (Row w14 (w7.heap.size + 1) w8.heap.size b8 z1.length c8 z1) := Lib.hid (Ox1_12.out.keep B14.out)
        clear Ox1_12
        have Og_14 : Hid (Row w14 (w8.heap.size + 1) w9.heap.size b9 (cZ (Ok s0 z0 ∧ Ok s1 z1 ∧ s0 = s1) (suZ s0 z0 z1)).length c9 (cZ (Ok s0 z0 ∧ Ok s1 z1 ∧ s0 = s1) (suZ s0 z0 z1))) := Lib.hid (Og_12.out.keep B14.out)
        clear Og_12
        have A14 : Hid (Below w.heap.size w w14) := Lib.hid (A12.out.trans (B14.out.mono A12.out.size))
        clear A12
        clear hb14
        go_wp2_with fail
        refine (mark_rhythm w3.heap.size w7.heap.size (1) _ b7 c7 _ _ _ Ox0_14.out (by omega) (by omega)).mono ?_
        rintro e w15 ⟨rfl, hown15, hb15⟩
        have B15 : Hid (Within w3.heap.size w7.heap.size w14 w15) := Lib.hid (hb15)
        have B15_size := B15.out.size
        have Ta0_15 : Hid (Two w15 w.heap.size (.int .i64 s0) (.slice a0 len0 cap0)) := Lib.hid (Ta0_14.out.within B15.out (by omega))
        obtain ⟨Ta0_15_l, Ta0_15_a, Ta0_15_b⟩ := Ta0_15.out
        clear Ta0_14 Ta0_14_l Ta0_14_a Ta0_14_b
        have Ta1_15 : Hid (Two w15 (w.heap.size + 1) (.int .i64 s1) (.slice a1 len1 cap1)) := Lib.hid (Ta1_14.out.within B15.out (by omega))
        obtain ⟨Ta1_15_l, Ta1_15_a, Ta1_15_b⟩ := Ta1_15.out
        clear Ta1_14 Ta1_14_l Ta1_14_a Ta1_14_b
        have Tm_15 : Hid (Two w15 g3 (.int .i64 (cS (Ok s0 z0 ∧ Ok s1 z1 ∧ s0 = s1) s0)) (.slice b3 (cZ (Ok s0 z0 ∧ Ok s1 z1 ∧ s0 = s1) (suZ s0 z0 z1)).length c3)) := Lib.hid (Tm_14.out.within B15.out (by omega))
        obtain ⟨Tm_15_l, Tm_15_a, Tm_15_b⟩ := Tm_15.out
        clear Tm_14 Tm_14_l Tm_14_a Tm_14_b
        have Tx0_15 : Hid (Two w15 w7.heap.size (.int .i64 s0) (.slice b7 z0.length c7)) := Lib.hid (Tx0_14.out.within B15.out (by omega))
        obtain ⟨Tx0_15_l, Tx0_15_a, Tx0_15_b⟩ := Tx0_15.out
        clear Tx0_14 Tx0_14_l Tx0_14_a Tx0_14_b
        have Tx1_15 : Hid (Two w15 w8.heap.size (.int .i64 s1) (.slice b8 z1.length c8)) := Lib.hid (Tx1_14.out.within B15.out (by omega))
        obtain ⟨Tx1_15_l, Tx1_15_a, Tx1_15_b⟩ := Tx1_15.out
        clear Tx1_14 Tx1_14_l Tx1_14_a Tx1_14_b
        have Tg_15 : Hid (Two w15 w9.heap.size (.int .i64 (cS (Ok s0 z0 ∧ Ok s1 z1 ∧ s0 = s1) s0)) (.slice b9 (cZ (Ok s0 z0 ∧ Ok s1 z1 ∧ s0 = s1) (suZ s0 z0 z1)).length c9)) := Lib.hid (Tg_14.out.within B15.out (by omega))
        obtain ⟨Tg_15_l, Tg_15_a, Tg_15_b⟩ := Tg_15.out
        clear Tg_14 Tg_14_l Tg_14_a Tg_14_b
        have Om_15 : Hid (Row w15 w2.heap.size w3.heap.size b3 (cZ (Ok s0 z0 ∧ Ok s1 z1 ∧ s0 = s1) (suZ s0 z0 z1)).length c3 (cZ (Ok s0 z0 ∧ Ok s1 z1 ∧ s0 = s1) (suZ s0 z0 z1))) := Lib.hid (Om_14.out.within B15.out (by omega))
        clear Om_14
        have Ox1_15 : Hid (Row w15 (w7.heap.size + 1) w8.heap.size b8 z1.length c8 z1) := Lib.hid (Ox1_14.out.within B15.out (by omega))
        clear Ox1_14
        have Og_15 : Hid (Row w15 (w8.heap.size + 1) w9.heap.size b9 (cZ (Ok s0 z0 ∧ Ok s1 z1 ∧ s0 = s1) (suZ s0 z0 z1)).length c9 (cZ (Ok s0 z0 ∧ Ok s1 z1 ∧ s0 = s1) (suZ s0 z0 z1))) := Lib.hid (Og_14.out.within B15.out (by omega))
        clear Og_14
        have A15 : Hid (Below w.heap.size w w15) := Lib.hid (Rhy.Below.within A14.out B15.out (by omega) A14.out.size)
        clear A14
        have Ox0_15 : Hid (Row w15 w3.heap.size w7.heap.size b7 z0.length c7 (marks (1) z0.length)) := Lib.hid hown15
        clear hown15 hb15 Ox0_14
        go_wp2_with fail
        refine (mark_rhythm (w7.heap.size + 1) w8.heap.size (1 + z0.length) _ b8 c8 _ _ _ Ox1_15.out (by omega) (by omega)).mono ?_
        rintro e w16 ⟨rfl, hown16, hb16⟩
        have B16 : Hid (Within (w7.heap.size + 1) w8.heap.size w15 w16) := Lib.hid (hb16)
        have B16_size := B16.out.size
        have Ta0_16 : Hid (Two w16 w.heap.size (.int .i64 s0) (.slice a0 len0 cap0)) := Lib.hid (Ta0_15.out.within B16.out (by omega))
        obtain ⟨Ta0_16_l, Ta0_16_a, Ta0_16_b⟩ := Ta0_16.out
        clear Ta0_15 Ta0_15_l Ta0_15_a Ta0_15_b
        have Ta1_16 : Hid (Two w16 (w.heap.size + 1) (.int .i64 s1) (.slice a1 len1 cap1)) := Lib.hid (Ta1_15.out.within B16.out (by omega))
        obtain ⟨Ta1_16_l, Ta1_16_a, Ta1_16_b⟩ := Ta1_16.out
        clear Ta1_15 Ta1_15_l Ta1_15_a Ta1_15_b
        have Tm_16 : Hid (Two w16 g3 (.int .i64 (cS (Ok s0 z0 ∧ Ok s1 z1 ∧ s0 = s1) s0)) (.slice b3 (cZ (Ok s0 z0 ∧ Ok s1 z1 ∧ s0 = s1) (suZ s0 z0 z1)).length c3)) := Lib.hid (Tm_15.out.within B16.out (by omega))
        obtain ⟨Tm_16_l, Tm_16_a, Tm_16_b⟩ := Tm_16.out
        clear Tm_15 Tm_15_l Tm_15_a Tm_15_b
        have Tx0_16 : Hid (Two w16 w7.heap.size (.int .i64 s0) (.slice b7 z0.length c7)) := Lib.hid (Tx0_15.out.within B16.out (by omega))
        obtain ⟨Tx0_16_l, Tx0_16_a, Tx0_16_b⟩ := Tx0_16.out
        clear Tx0_15 Tx0_15_l Tx0_15_a Tx0_15_b
        have Tx1_16 : Hid (Two w16 w8.heap.size (.int .i64 s1) (.slice b8 z1.length c8)) := Lib.hid (Tx1_15.out.within B16.out (by omega))
        obtain ⟨Tx1_16_l, Tx1_16_a, Tx1_16_b⟩ := Tx1_16.out
        clear Tx1_15 Tx1_15_l Tx1_15_a Tx1_15_b
        have Tg_16 : Hid (Two w16 w9.heap.size (.int .i64 (cS (Ok s0 z0 ∧ Ok s1 z1 ∧ s0 = s1) s0)) (.slice b9 (cZ (Ok s0 z0 ∧ Ok s1 z1 ∧ s0 = s1) (suZ s0 z0 z1)).length c9)) := Lib.hid (Tg_15.out.within B16.out (by omega))
        obtain ⟨Tg_16_l, Tg_16_a, Tg_16_b⟩ := Tg_16.out
        clear Tg_15 Tg_15_l Tg_15_a Tg_15_b
        have Om_16 : Hid (Row w16 w2.heap.size w3.heap.size b3 (cZ (Ok s0 z0 ∧ Ok s1 z1 ∧ s0 = s1) (suZ s0 z0 z1)).length c3 (cZ (Ok s0 z0 ∧ Ok s1 z1 ∧ s0 = s1) (suZ s0 z0 z1))) := Lib.hid (Om_15.out.within B16.out (by omega))
        clear Om_15
        have Ox0_16 : Hid (Row w16 w3.heap.size w7.heap.size b7 z0.length c7 (marks (1) z0.length)) := Lib.hid (Ox0_15.out.within B16.out (by omega))
        clear Ox0_15
        have Og_16 : Hid (Row w16 (w8.heap.size + 1) w9.heap.size b9 (cZ (Ok s0 z0 ∧ Ok s1 z1 ∧ s0 = s1) (suZ s0 z0 z1)).length c9 (cZ (Ok s0 z0 ∧ Ok s1 z1 ∧ s0 = s1) (suZ s0 z0 z1))) := Lib.hid (Og_15.out.within B16.out (by omega))
        clear Og_15
        have A16 : Hid (Below w.heap.size w w16) := Lib.hid (Rhy.Below.within A15.out B16.out (by omega) A15.out.size)
        clear A15
        have Ox1_16 : Hid (Row w16 (w7.heap.size + 1) w8.heap.size b8 z1.length c8 (marks (1 + z0.length) z1.length)) := Lib.hid hown16
        clear hown16 hb16 Ox1_15
        go_wp2_with fail
        refine (eq_rhythm _ b9 b3 c9 c3 _ (cZ (Ok s0 z0 ∧ Ok s1 z1 ∧ s0 = s1) (suZ s0 z0 z1)) _ (Og_16.out.at HZ.out) (Om_16.out.at HZ.out) (by omega)).mono ?_
        rintro e w17 ⟨rfl, hb17⟩
        have B17 : Hid (Below w16.heap.size w16 w17) := Lib.hid (hb17)
        have B17_size := B17.out.size
        have Ta0_17 : Hid (Two w17 w.heap.size (.int .i64 s0) (.slice a0 len0 cap0)) := Lib.hid (Ta0_16.out.keep B17.out)
        obtain ⟨Ta0_17_l, Ta0_17_a, Ta0_17_b⟩ := Ta0_17.out
        clear Ta0_16 Ta0_16_l Ta0_16_a Ta0_16_b
        have Ta1_17 : Hid (Two w17 (w.heap.size + 1) (.int .i64 s1) (.slice a1 len1 cap1)) := Lib.hid (Ta1_16.out.keep B17.out)
        obtain ⟨Ta1_17_l, Ta1_17_a, Ta1_17_b⟩ := Ta1_17.out
        clear Ta1_16 Ta1_16_l Ta1_16_a Ta1_16_b
        have Tm_17 : Hid (Two w17 g3 (.int .i64 (cS (Ok s0 z0 ∧ Ok s1 z1 ∧ s0 = s1) s0)) (.slice b3 (cZ (Ok s0 z0 ∧ Ok s1 z1 ∧ s0 = s1) (suZ s0 z0 z1)).length c3)) := Lib.hid (Tm_16.out.keep B17.out)
        obtain ⟨Tm_17_l, Tm_17_a, Tm_17_b⟩ := Tm_17.out
        clear Tm_16 Tm_16_l Tm_16_a Tm_16_b
        have Tx0_17 : Hid (Two w17 w7.heap.size (.int .i64 s0) (.slice b7 z0.length c7)) := Lib.hid (Tx0_16.out.keep B17.out)
        obtain ⟨Tx0_17_l, Tx0_17_a, Tx0_17_b⟩ := Tx0_17.out
        clear Tx0_16 Tx0_16_l Tx0_16_a Tx0_16_b
        have Tx1_17 : Hid (Two w17 w8.heap.size (.int .i64 s1) (.slice b8 z1.length c8)) := Lib.hid (Tx1_16.out.keep B17.out)
        obtain ⟨Tx1_17_l, Tx1_17_a, Tx1_17_b⟩ := Tx1_17.out
        clear Tx1_16 Tx1_16_l Tx1_16_a Tx1_16_b
        have Tg_17 : Hid (Two w17 w9.heap.size (.int .i64 (cS (Ok s0 z0 ∧ Ok s1 z1 ∧ s0 = s1) s0)) (.slice b9 (cZ (Ok s0 z0 ∧ Ok s1 z1 ∧ s0 = s1) (suZ s0 z0 z1)).length c9)) := Lib.hid (Tg_16.out.keep B17.out)
        obtain ⟨Tg_17_l, Tg_17_a, Tg_17_b⟩ := Tg_17.out
        clear Tg_16 Tg_16_l Tg_16_a Tg_16_b
        have Om_17 : Hid (Row w17 w2.heap.size w3.heap.size b3 (cZ (Ok s0 z0 ∧ Ok s1 z1 ∧ s0 = s1) (suZ s0 z0 z1)).length c3 (cZ (Ok s0 z0 ∧ Ok s1 z1 ∧ s0 = s1) (suZ s0 z0 z1))) := Lib.hid (Om_16.out.keep B17.out)
        clear Om_16
        have Ox0_17 : Hid (Row w17 w3.heap.size w7.heap.size b7 z0.length c7 (marks (1) z0.length)) := Lib.hid (Ox0_16.out.keep B17.out)
        clear Ox0_16
        have Ox1_17 : Hid (Row w17 (w7.heap.size + 1) w8.heap.size b8 z1.length c8 (marks (1 + z0.length) z1.length)) := Lib.hid (Ox1_16.out.keep B17.out)
        clear Ox1_16
        have Og_17 : Hid (Row w17 (w8.heap.size + 1) w9.heap.size b9 (cZ (Ok s0 z0 ∧ Ok s1 z1 ∧ s0 = s1) (suZ s0 z0 z1)).length c9 (cZ (Ok s0 z0 ∧ Ok s1 z1 ∧ s0 = s1) (suZ s0 z0 z1))) := Lib.hid (Og_16.out.keep B17.out)
        clear Og_16
        have A17 : Hid (Below w.heap.size w w17) := Lib.hid (A16.out.trans (B17.out.mono A16.out.size))
        clear A16
        clear hb17
        go_wp2_with fail
        refine (mark_rhythm (w8.heap.size + 1) w9.heap.size (1) _ b9 c9 _ _ _ Og_17.out (by omega) (by omega)).mono ?_
        rintro e w18 ⟨rfl, hown18, hb18⟩
        have B18 : Hid (Within (w8.heap.size + 1) w9.heap.size w17 w18) := Lib.hid (hb18)
        have B18_size := B18.out.size
        have Ta0_18 : Hid (Two w18 w.heap.size (.int .i64 s0) (.slice a0 len0 cap0)) := Lib.hid (Ta0_17.out.within B18.out (by omega))
        obtain ⟨Ta0_18_l, Ta0_18_a, Ta0_18_b⟩ := Ta0_18.out
        clear Ta0_17 Ta0_17_l Ta0_17_a Ta0_17_b
        have Ta1_18 : Hid (Two w18 (w.heap.size + 1) (.int .i64 s1) (.slice a1 len1 cap1)) := Lib.hid (Ta1_17.out.within B18.out (by omega))
        obtain ⟨Ta1_18_l, Ta1_18_a, Ta1_18_b⟩ := Ta1_18.out
        clear Ta1_17 Ta1_17_l Ta1_17_a Ta1_17_b
        have Tm_18 : Hid (Two w18 g3 (.int .i64 (cS (Ok s0 z0 ∧ Ok s1 z1 ∧ s0 = s1) s0)) (.slice b3 (cZ (Ok s0 z0 ∧ Ok s1 z1 ∧ s0 = s1) (suZ s0 z0 z1)).length c3)) := Lib.hid (Tm_17.out.within B18.out (by omega))
        obtain ⟨Tm_18_l, Tm_18_a, Tm_18_b⟩ := Tm_18.out
        clear Tm_17 Tm_17_l Tm_17_a Tm_17_b
        have Tx0_18 : Hid (Two w18 w7.heap.size (.int .i64 s0) (.slice b7 z0.length c7)) := Lib.hid (Tx0_17.out.within B18.out (by omega))
        obtain ⟨Tx0_18_l, Tx0_18_a, Tx0_18_b⟩ := Tx0_18.out
        clear Tx0_17 Tx0_17_l Tx0_17_a Tx0_17_b
        have Tx1_18 : Hid (Two w18 w8.heap.size (.int .i64 s1) (.slice b8 z1.length c8)) := Lib.hid (Tx1_17.out.within B18.out (by omega))
        obtain ⟨Tx1_18_l, Tx1_18_a, Tx1_18_b⟩ := Tx1_18.out
        clear Tx1_17 Tx1_17_l Tx1_17_a Tx1_17_b
        have Tg_18 : Hid (Two w18 w9.heap.size (.int .i64 (cS (Ok s0 z0 ∧ Ok s1 z1 ∧ s0 = s1) s0)) (.slice b9 (cZ (Ok s0 z0 ∧ Ok s1 z1 ∧ s0 = s1) (suZ s0 z0 z1)).length c9)) := Lib.hid (Tg_17.out.within B18.out (by omega))
        obtain ⟨Tg_18_l, Tg_18_a, Tg_18_b⟩ := Tg_18.out
        clear Tg_17 Tg_17_l Tg_17_a Tg_17_b
        have Om_18 : Hid (Row w18 w2.heap.size w3.heap.size b3 (cZ (Ok s0 z0 ∧ Ok s1 z1 ∧ s0 = s1) (suZ s0 z0 z1)).length c3 (cZ (Ok s0 z0 ∧ Ok s1 z1 ∧ s0 = s1) (suZ s0 z0 z1))) := Lib.hid (Om_17.out.within B18.out (by omega))
        clear Om_17
        have Ox0_18 : Hid (Row w18 w3.heap.size w7.heap.size b7 z0.length c7 (marks (1) z0.length)) := Lib.hid (Ox0_17.out.within B18.out (by omega))
        clear Ox0_17
        have Ox1_18 : Hid (Row w18 (w7.heap.size + 1) w8.heap.size b8 z1.length c8 (marks (1 + z0.length) z1.length)) := Lib.hid (Ox1_17.out.within B18.out (by omega))
        clear Ox1_17
        have A18 : Hid (Below w.heap.size w w18) := Lib.hid (Rhy.Below.within A17.out B18.out (by omega) A17.out.size)
        clear A17
        have Og_18 : Hid (Row w18 (w8.heap.size + 1) w9.heap.size b9 (cZ (Ok s0 z0 ∧ Ok s1 z1 ∧ s0 = s1) (suZ s0 z0 z1)).length c9 (marks (1) (cZ (Ok s0 z0 ∧ Ok s1 z1 ∧ s0 = s1) (suZ s0 z0 z1)).length)) := Lib.hid hown18
        clear hown18 hb18 Og_17
        go_wp2_with fail
        refine (held_rhythm (1) _ b9 c9 (cZ (Ok s0 z0 ∧ Ok s1 z1 ∧ s0 = s1) (suZ s0 z0 z1)).length _ (Og_18.out.at (marks_int _ _ (by omega))) (by omega) (by omega)).mono ?_
        rintro e w19 ⟨rfl, hb19⟩
        have B19 : Hid (Below w18.heap.size w18 w19) := Lib.hid (hb19)
        have B19_size := B19.out.size
        have Ta0_19 : Hid (Two w19 w.heap.size (.int .i64 s0) (.slice a0 len0 cap0)) := Lib.hid (Ta0_18.out.keep B19.out)
        obtain ⟨Ta0_19_l, Ta0_19_a, Ta0_19_b⟩ := Ta0_19.out
        clear Ta0_18 Ta0_18_l Ta0_18_a Ta0_18_b
        have Ta1_19 : Hid (Two w19 (w.heap.size + 1) (.int .i64 s1) (.slice a1 len1 cap1)) := Lib.hid (Ta1_18.out.keep B19.out)
        obtain ⟨Ta1_19_l, Ta1_19_a, Ta1_19_b⟩ := Ta1_19.out
        clear Ta1_18 Ta1_18_l Ta1_18_a Ta1_18_b
        have Tm_19 : Hid (Two w19 g3 (.int .i64 (cS (Ok s0 z0 ∧ Ok s1 z1 ∧ s0 = s1) s0)) (.slice b3 (cZ (Ok s0 z0 ∧ Ok s1 z1 ∧ s0 = s1) (suZ s0 z0 z1)).length c3)) := Lib.hid (Tm_18.out.keep B19.out)
        obtain ⟨Tm_19_l, Tm_19_a, Tm_19_b⟩ := Tm_19.out
        clear Tm_18 Tm_18_l Tm_18_a Tm_18_b
        have Tx0_19 : Hid (Two w19 w7.heap.size (.int .i64 s0) (.slice b7 z0.length c7)) := Lib.hid (Tx0_18.out.keep B19.out)
        obtain ⟨Tx0_19_l, Tx0_19_a, Tx0_19_b⟩ := Tx0_19.out
        clear Tx0_18 Tx0_18_l Tx0_18_a Tx0_18_b
        have Tx1_19 : Hid (Two w19 w8.heap.size (.int .i64 s1) (.slice b8 z1.length c8)) := Lib.hid (Tx1_18.out.keep B19.out)
        obtain ⟨Tx1_19_l, Tx1_19_a, Tx1_19_b⟩ := Tx1_19.out
        clear Tx1_18 Tx1_18_l Tx1_18_a Tx1_18_b
        have Tg_19 : Hid (Two w19 w9.heap.size (.int .i64 (cS (Ok s0 z0 ∧ Ok s1 z1 ∧ s0 = s1) s0)) (.slice b9 (cZ (Ok s0 z0 ∧ Ok s1 z1 ∧ s0 = s1) (suZ s0 z0 z1)).length c9)) := Lib.hid (Tg_18.out.keep B19.out)
        obtain ⟨Tg_19_l, Tg_19_a, Tg_19_b⟩ := Tg_19.out
        clear Tg_18 Tg_18_l Tg_18_a Tg_18_b
        have Om_19 : Hid (Row w19 w2.heap.size w3.heap.size b3 (cZ (Ok s0 z0 ∧ Ok s1 z1 ∧ s0 = s1) (suZ s0 z0 z1)).length c3 (cZ (Ok s0 z0 ∧ Ok s1 z1 ∧ s0 = s1) (suZ s0 z0 z1))) := Lib.hid (Om_18.out.keep B19.out)
        clear Om_18
        have Ox0_19 : Hid (Row w19 w3.heap.size w7.heap.size b7 z0.length c7 (marks (1) z0.length)) := Lib.hid (Ox0_18.out.keep B19.out)
        clear Ox0_18
        have Ox1_19 : Hid (Row w19 (w7.heap.size + 1) w8.heap.size b8 z1.length c8 (marks (1 + z0.length) z1.length)) := Lib.hid (Ox1_18.out.keep B19.out)
        clear Ox1_18
        have Og_19 : Hid (Row w19 (w8.heap.size + 1) w9.heap.size b9 (cZ (Ok s0 z0 ∧ Ok s1 z1 ∧ s0 = s1) (suZ s0 z0 z1)).length c9 (marks (1) (cZ (Ok s0 z0 ∧ Ok s1 z1 ∧ s0 = s1) (suZ s0 z0 z1)).length)) := Lib.hid (Og_18.out.keep B19.out)
        clear Og_18
        have A19 : Hid (Below w.heap.size w w19) := Lib.hid (A18.out.trans (B19.out.mono A18.out.size))
        clear A18
        clear hb19
        go_upto_region 31 with fail
        go_cut [15, 16] (fun sa sb wx => ∃ g b c, sa = .pointer (some ⟨g, 0, none⟩) ∧ sb = .bool (cB (Ok s0 z0 ∧ Ok s1 z1 ∧ s0 = s1)) ∧ Two wx g (.int .i64 (cS (Ok s0 z0 ∧ Ok s1 z1 ∧ s0 = s1) s0)) (.slice b (cZ (Ok s0 z0 ∧ Ok s1 z1 ∧ s0 = s1) (suZ s0 z0 z1)).length c) ∧ Row wx w19.heap.size wx.heap.size b (cZ (Ok s0 z0 ∧ Ok s1 z1 ∧ s0 = s1) (suZ s0 z0 z1)).length c (cZ (Ok s0 z0 ∧ Ok s1 z1 ∧ s0 = s1) (suZ s0 z0 z1)) ∧ Below w19.heap.size w19 wx ∧ w19.heap.size ≤ g)
        case first =>
          have HK : Hid (∀ W, Below w19.heap.size w19 W → W.cell? ⟨w.heap.size, 0, none⟩ = some (.int .i64 s0) ∧ W.cell? ⟨w.heap.size, 1, none⟩ = some (.slice a0 len0 cap0) ∧ W.cell? ⟨(w.heap.size + 1), 0, none⟩ = some (.int .i64 s1) ∧ W.cell? ⟨(w.heap.size + 1), 1, none⟩ = some (.slice a1 len1 cap1) ∧ Below w19.heap.size w19 W) := Lib.hid (fun W hW => ⟨(Ta0_19.out.keep hW).2.1, (Ta0_19.out.keep hW).2.2, (Ta1_19.out.keep hW).2.1, (Ta1_19.out.keep hW).2.2, hW⟩)
          have HB : Hid (∀ W, (W.cell? ⟨w.heap.size, 0, none⟩ = some (.int .i64 s0) ∧ W.cell? ⟨w.heap.size, 1, none⟩ = some (.slice a0 len0 cap0) ∧ W.cell? ⟨(w.heap.size + 1), 0, none⟩ = some (.int .i64 s1) ∧ W.cell? ⟨(w.heap.size + 1), 1, none⟩ = some (.slice a1 len1 cap1) ∧ Below w19.heap.size w19 W) → Below w19.heap.size w19 W) := Lib.hid (fun W hW => hW.2.2.2.2)
          have HT0 : Hid (∀ W, (W.cell? ⟨w.heap.size, 0, none⟩ = some (.int .i64 s0) ∧ W.cell? ⟨w.heap.size, 1, none⟩ = some (.slice a0 len0 cap0) ∧ W.cell? ⟨(w.heap.size + 1), 0, none⟩ = some (.int .i64 s1) ∧ W.cell? ⟨(w.heap.size + 1), 1, none⟩ = some (.slice a1 len1 cap1) ∧ Below w19.heap.size w19 W) → IntsAt W a0 len0 z0) := Lib.hid (fun W hW => HS0.out.below (A19.out.trans ((HB.out W hW).mono A19.out.size)))
          have HT1 : Hid (∀ W, (W.cell? ⟨w.heap.size, 0, none⟩ = some (.int .i64 s0) ∧ W.cell? ⟨w.heap.size, 1, none⟩ = some (.slice a0 len0 cap0) ∧ W.cell? ⟨(w.heap.size + 1), 0, none⟩ = some (.int .i64 s1) ∧ W.cell? ⟨(w.heap.size + 1), 1, none⟩ = some (.slice a1 len1 cap1) ∧ Below w19.heap.size w19 W) → IntsAt W a1 len1 z1) := Lib.hid (fun W hW => HS1.out.below (A19.out.trans ((HB.out W hW).mono A19.out.size)))
          go_region_held3 (fun w' => w'.cell? ⟨w.heap.size, 0, none⟩ = some (.int .i64 s0) ∧ w'.cell? ⟨w.heap.size, 1, none⟩ = some (.slice a0 len0 cap0) ∧ w'.cell? ⟨(w.heap.size + 1), 0, none⟩ = some (.int .i64 s1) ∧ w'.cell? ⟨(w.heap.size + 1), 1, none⟩ = some (.slice a1 len1 cap1) ∧ Below w19.heap.size w19 w')
            (first | exact HK.out _ (Below.refl _ _).drew | exact HK.out _ ((Below.refl _ _).drew.alloc (Nat.le_refl _) _) | exact HK.out _ hb21 | exact HK.out _ hb22 | exact HK.out _ hb23 | exact HK.out _ (hb21.alloc hb21.size _) | exact HK.out _ (hb22.alloc hb22.size _) | exact HK.out _ (hb23.alloc hb23.size _) | exact HK.out _ (below_set2 hb23 hN) | exact HK.out _ (below_set2 (hb23.alloc hb23.size _) hb23.size))
            ((first
              | (go_at_call 30; ((with_reducible refine (to_rhythm s0 a0 len0 cap0 z0 _ (HT0.out _ (by assumption)) le0).mono ?_); rintro e w21 ⟨b21, c21, rfl, hown21, hc21⟩); have hb21 := belS hc21 (HB.out _ (by assumption)); have hn21 : Row w21 w19.heap.size w21.heap.size b21 z0.length c21 z0 := row_of (own_base hown21 (sizeS hc21 (HB.out _ (by assumption)))); (first | (have bx : Box w21 w19.heap.size (.int .i64 0) (.slice none 0 0) 26 := kept_boxD hc21; have hN : w19.heap.size ≤ w19.heap.size := Nat.le_refl _; obtain ⟨bx1, bx2, bx3, bx4⟩ := bx.facts) | skip); clear hown21)
              | (go_at_call 30; ((with_reducible refine (to_rhythm s1 a1 len1 cap1 z1 _ (HT1.out _ (by assumption)) le1).mono ?_); rintro e w22 ⟨b22, c22, rfl, hown22, hc22⟩); have hb22 := belS hc22 (HB.out _ (by assumption)); have hn22 : Row w22 w19.heap.size w22.heap.size b22 z1.length c22 z1 := row_of (own_base hown22 (sizeS hc22 (HB.out _ (by assumption)))); have hn21_1 : Row w22 w19.heap.size w21.heap.size b21 z0.length c21 z0 := (by first | exact kept_row hn21 hc22 | exact kept_row2 hn21 hc22); (first | (have bx : Box w22 w21.heap.size (.int .i64 0) (.slice none 0 0) 26 := kept_box hc22; have hN : w19.heap.size ≤ w21.heap.size := hb21.size; obtain ⟨bx1, bx2, bx3, bx4⟩ := bx.facts) | (have bx := kept_box2 bx hc22; obtain ⟨bx1, bx2, bx3, bx4⟩ := bx.facts) | skip); clear hown22)
              | (go_at_call 17; ((with_reducible refine (sumr_impl s0 b21 z0.length c21 z0 s1 b22 z1.length c22 z1 _ (by first | exact hn21_1.at HS0.out.int | exact (kept_row hn21_1 (bel1 _ _)).at HS0.out.int) lz0 (by first | exact hn22.at HS1.out.int | exact (kept_row hn22 (bel1 _ _)).at HS1.out.int) lz1).mono ?_); rintro e w23 ⟨b23, c23, rfl, hown23, hc23⟩); have hb23 := belS hc23 (HB.out _ (by assumption)); have hlo := sizeS hc23 (HB.out _ (by assumption)); (first | (have bx : Box w23 w22.heap.size (.int .i64 0) (.slice none 0 0) 26 := kept_box hc23; have hN : w19.heap.size ≤ w22.heap.size := hb22.size; have hNl := lt_alloc hc23; obtain ⟨bx1, bx2, bx3, bx4⟩ := bx.facts) | (have hNl := bx.lt; have bx := kept_box2 bx hc23; obtain ⟨bx1, bx2, bx3, bx4⟩ := bx.facts) | skip))))
          all_goals
            clear HK HB HT0 HT1
            go_wp2_with fail
            go_meet
            first
            | exact ⟨_, b23, c23, rfl, rfl, two_new _ _ _ _, row_alloc _ hown23 hlo, hb23.alloc hb23.size _, hb23.size⟩
            | exact ⟨_, b23, c23, rfl, rfl, box_set bx, row_set hown23 hNl hlo, below_set2 hb23 hN, hN⟩
        case rest =>
          obtain ⟨g20, b20, c20, rfl, rfl, htwo20, hrow20, hb20, hg20⟩ := hcut
          obtain ⟨w20, rfl⟩ : ∃ w20, w20 = wc := ⟨_, rfl⟩
          have Oh_20 : Hid (Row w20 w19.heap.size w20.heap.size b20 (cZ (Ok s0 z0 ∧ Ok s1 z1 ∧ s0 = s1) (suZ s0 z0 z1)).length c20 (cZ (Ok s0 z0 ∧ Ok s1 z1 ∧ s0 = s1) (suZ s0 z0 z1))) := Lib.hid hrow20
          have Th_20 : Hid (Two w20 g20 (.int .i64 (cS (Ok s0 z0 ∧ Ok s1 z1 ∧ s0 = s1) s0)) (.slice b20 (cZ (Ok s0 z0 ∧ Ok s1 z1 ∧ s0 = s1) (suZ s0 z0 z1)).length c20)) := Lib.hid htwo20
          have B20 : Hid (Below w19.heap.size w19 w20) := Lib.hid (hb20)
          have B20_size := B20.out.size
          have Ta0_20 : Hid (Two w20 w.heap.size (.int .i64 s0) (.slice a0 len0 cap0)) := Lib.hid (Ta0_19.out.keep B20.out)
          obtain ⟨Ta0_20_l, Ta0_20_a, Ta0_20_b⟩ := Ta0_20.out
          clear Ta0_19 Ta0_19_l Ta0_19_a Ta0_19_b
          have Ta1_20 : Hid (Two w20 (w.heap.size + 1) (.int .i64 s1) (.slice a1 len1 cap1)) := Lib.hid (Ta1_19.out.keep B20.out)
          obtain ⟨Ta1_20_l, Ta1_20_a, Ta1_20_b⟩ := Ta1_20.out
          clear Ta1_19 Ta1_19_l Ta1_19_a Ta1_19_b
          have Tm_20 : Hid (Two w20 g3 (.int .i64 (cS (Ok s0 z0 ∧ Ok s1 z1 ∧ s0 = s1) s0)) (.slice b3 (cZ (Ok s0 z0 ∧ Ok s1 z1 ∧ s0 = s1) (suZ s0 z0 z1)).length c3)) := Lib.hid (Tm_19.out.keep B20.out)
          obtain ⟨Tm_20_l, Tm_20_a, Tm_20_b⟩ := Tm_20.out
          clear Tm_19 Tm_19_l Tm_19_a Tm_19_b
          have Tx0_20 : Hid (Two w20 w7.heap.size (.int .i64 s0) (.slice b7 z0.length c7)) := Lib.hid (Tx0_19.out.keep B20.out)
          obtain ⟨Tx0_20_l, Tx0_20_a, Tx0_20_b⟩ := Tx0_20.out
          clear Tx0_19 Tx0_19_l Tx0_19_a Tx0_19_b
          have Tx1_20 : Hid (Two w20 w8.heap.size (.int .i64 s1) (.slice b8 z1.length c8)) := Lib.hid (Tx1_19.out.keep B20.out)
          obtain ⟨Tx1_20_l, Tx1_20_a, Tx1_20_b⟩ := Tx1_20.out
          clear Tx1_19 Tx1_19_l Tx1_19_a Tx1_19_b
          have Tg_20 : Hid (Two w20 w9.heap.size (.int .i64 (cS (Ok s0 z0 ∧ Ok s1 z1 ∧ s0 = s1) s0)) (.slice b9 (cZ (Ok s0 z0 ∧ Ok s1 z1 ∧ s0 = s1) (suZ s0 z0 z1)).length c9)) := Lib.hid (Tg_19.out.keep B20.out)
          obtain ⟨Tg_20_l, Tg_20_a, Tg_20_b⟩ := Tg_20.out
          clear Tg_19 Tg_19_l Tg_19_a Tg_19_b
          have Om_20 : Hid (Row w20 w2.heap.size w3.heap.size b3 (cZ (Ok s0 z0 ∧ Ok s1 z1 ∧ s0 = s1) (suZ s0 z0 z1)).length c3 (cZ (Ok s0 z0 ∧ Ok s1 z1 ∧ s0 = s1) (suZ s0 z0 z1))) := Lib.hid (Om_19.out.keep B20.out)
          clear Om_19
          have Ox0_20 : Hid (Row w20 w3.heap.size w7.heap.size b7 z0.length c7 (marks (1) z0.length)) := Lib.hid (Ox0_19.out.keep B20.out)
          clear Ox0_19
          have Ox1_20 : Hid (Row w20 (w7.heap.size + 1) w8.heap.size b8 z1.length c8 (marks (1 + z0.length) z1.length)) := Lib.hid (Ox1_19.out.keep B20.out)
          clear Ox1_19
          have Og_20 : Hid (Row w20 (w8.heap.size + 1) w9.heap.size b9 (cZ (Ok s0 z0 ∧ Ok s1 z1 ∧ s0 = s1) (suZ s0 z0 z1)).length c9 (marks (1) (cZ (Ok s0 z0 ∧ Ok s1 z1 ∧ s0 = s1) (suZ s0 z0 z1)).length)) := Lib.hid (Og_19.out.keep B20.out)
          clear Og_19
          have A20 : Hid (Below w.heap.size w w20) := Lib.hid (A19.out.trans (B20.out.mono A19.out.size))
          clear A19
          have g20_lt := Th_20.out.1
          obtain ⟨Th_20_l, Th_20_a, Th_20_b⟩ := Th_20.out
          clear htwo20 hrow20 hb20
          go_wp2_with fail
          refine (eq_rhythm _ b20 b3 c20 c3 _ (cZ (Ok s0 z0 ∧ Ok s1 z1 ∧ s0 = s1) (suZ s0 z0 z1)) _ (Oh_20.out.at HZ.out) (Om_20.out.at HZ.out) (by omega)).mono ?_
          rintro e w24 ⟨rfl, hb24⟩
          have B24 : Hid (Below w20.heap.size w20 w24) := Lib.hid (hb24)
          have B24_size := B24.out.size
          have Ta0_24 : Hid (Two w24 w.heap.size (.int .i64 s0) (.slice a0 len0 cap0)) := Lib.hid (Ta0_20.out.keep B24.out)
          obtain ⟨Ta0_24_l, Ta0_24_a, Ta0_24_b⟩ := Ta0_24.out
          clear Ta0_20 Ta0_20_l Ta0_20_a Ta0_20_b
          have Ta1_24 : Hid (Two w24 (w.heap.size + 1) (.int .i64 s1) (.slice a1 len1 cap1)) := Lib.hid (Ta1_20.out.keep B24.out)
          obtain ⟨Ta1_24_l, Ta1_24_a, Ta1_24_b⟩ := Ta1_24.out
          clear Ta1_20 Ta1_20_l Ta1_20_a Ta1_20_b
          have Tm_24 : Hid (Two w24 g3 (.int .i64 (cS (Ok s0 z0 ∧ Ok s1 z1 ∧ s0 = s1) s0)) (.slice b3 (cZ (Ok s0 z0 ∧ Ok s1 z1 ∧ s0 = s1) (suZ s0 z0 z1)).length c3)) := Lib.hid (Tm_20.out.keep B24.out)
          obtain ⟨Tm_24_l, Tm_24_a, Tm_24_b⟩ := Tm_24.out
          clear Tm_20 Tm_20_l Tm_20_a Tm_20_b
          have Tx0_24 : Hid (Two w24 w7.heap.size (.int .i64 s0) (.slice b7 z0.length c7)) := Lib.hid (Tx0_20.out.keep B24.out)
          obtain ⟨Tx0_24_l, Tx0_24_a, Tx0_24_b⟩ := Tx0_24.out
          clear Tx0_20 Tx0_20_l Tx0_20_a Tx0_20_b
          have Tx1_24 : Hid (Two w24 w8.heap.size (.int .i64 s1) (.slice b8 z1.length c8)) := Lib.hid (Tx1_20.out.keep B24.out)
          obtain ⟨Tx1_24_l, Tx1_24_a, Tx1_24_b⟩ := Tx1_24.out
          clear Tx1_20 Tx1_20_l Tx1_20_a Tx1_20_b
          have Tg_24 : Hid (Two w24 w9.heap.size (.int .i64 (cS (Ok s0 z0 ∧ Ok s1 z1 ∧ s0 = s1) s0)) (.slice b9 (cZ (Ok s0 z0 ∧ Ok s1 z1 ∧ s0 = s1) (suZ s0 z0 z1)).length c9)) := Lib.hid (Tg_20.out.keep B24.out)
          obtain ⟨Tg_24_l, Tg_24_a, Tg_24_b⟩ := Tg_24.out
          clear Tg_20 Tg_20_l Tg_20_a Tg_20_b
          have Th_24 : Hid (Two w24 g20 (.int .i64 (cS (Ok s0 z0 ∧ Ok s1 z1 ∧ s0 = s1) s0)) (.slice b20 (cZ (Ok s0 z0 ∧ Ok s1 z1 ∧ s0 = s1) (suZ s0 z0 z1)).length c20)) := Lib.hid (Th_20.out.keep B24.out)
          obtain ⟨Th_24_l, Th_24_a, Th_24_b⟩ := Th_24.out
          clear Th_20 Th_20_l Th_20_a Th_20_b
          have Om_24 : Hid (Row w24 w2.heap.size w3.heap.size b3 (cZ (Ok s0 z0 ∧ Ok s1 z1 ∧ s0 = s1) (suZ s0 z0 z1)).length c3 (cZ (Ok s0 z0 ∧ Ok s1 z1 ∧ s0 = s1) (suZ s0 z0 z1))) := Lib.hid (Om_20.out.keep B24.out)
          clear Om_20
          have Ox0_24 : Hid (Row w24 w3.heap.size w7.heap.size b7 z0.length c7 (marks (1) z0.length)) := Lib.hid (Ox0_20.out.keep B24.out)
          clear Ox0_20
          have Ox1_24 : Hid (Row w24 (w7.heap.size + 1) w8.heap.size b8 z1.length c8 (marks (1 + z0.length) z1.length)) := Lib.hid (Ox1_20.out.keep B24.out)
          clear Ox1_20
          have Og_24 : Hid (Row w24 (w8.heap.size + 1) w9.heap.size b9 (cZ (Ok s0 z0 ∧ Ok s1 z1 ∧ s0 = s1) (suZ s0 z0 z1)).length c9 (marks (1) (cZ (Ok s0 z0 ∧ Ok s1 z1 ∧ s0 = s1) (suZ s0 z0 z1)).length)) := Lib.hid (Og_20.out.keep B24.out)
          clear Og_20
          have Oh_24 : Hid (Row w24 w19.heap.size w20.heap.size b20 (cZ (Ok s0 z0 ∧ Ok s1 z1 ∧ s0 = s1) (suZ s0 z0 z1)).length c20 (cZ (Ok s0 z0 ∧ Ok s1 z1 ∧ s0 = s1) (suZ s0 z0 z1))) := Lib.hid (Oh_20.out.keep B24.out)
          clear Oh_20
          have A24 : Hid (Below w.heap.size w w24) := Lib.hid (A20.out.trans (B24.out.mono A20.out.size))
          clear A20
          clear hb24
          go_wp2_with fail
          refine (held_rhythm (1) _ b9 c9 (cZ (Ok s0 z0 ∧ Ok s1 z1 ∧ s0 = s1) (suZ s0 z0 z1)).length _ (Og_24.out.at (marks_int _ _ (by omega))) (by omega) (by omega)).mono ?_
          rintro e w25 ⟨rfl, hb25⟩
          have B25 : Hid (Below w24.heap.size w24 w25) := Lib.hid (hb25)
          have B25_size := B25.out.size
          have Ta0_25 : Hid (Two w25 w.heap.size (.int .i64 s0) (.slice a0 len0 cap0)) := Lib.hid (Ta0_24.out.keep B25.out)
          obtain ⟨Ta0_25_l, Ta0_25_a, Ta0_25_b⟩ := Ta0_25.out
          clear Ta0_24 Ta0_24_l Ta0_24_a Ta0_24_b
          have Ta1_25 : Hid (Two w25 (w.heap.size + 1) (.int .i64 s1) (.slice a1 len1 cap1)) := Lib.hid (Ta1_24.out.keep B25.out)
          obtain ⟨Ta1_25_l, Ta1_25_a, Ta1_25_b⟩ := Ta1_25.out
          clear Ta1_24 Ta1_24_l Ta1_24_a Ta1_24_b
          have Tm_25 : Hid (Two w25 g3 (.int .i64 (cS (Ok s0 z0 ∧ Ok s1 z1 ∧ s0 = s1) s0)) (.slice b3 (cZ (Ok s0 z0 ∧ Ok s1 z1 ∧ s0 = s1) (suZ s0 z0 z1)).length c3)) := Lib.hid (Tm_24.out.keep B25.out)
          obtain ⟨Tm_25_l, Tm_25_a, Tm_25_b⟩ := Tm_25.out
          clear Tm_24 Tm_24_l Tm_24_a Tm_24_b
          have Tx0_25 : Hid (Two w25 w7.heap.size (.int .i64 s0) (.slice b7 z0.length c7)) := Lib.hid (Tx0_24.out.keep B25.out)
          obtain ⟨Tx0_25_l, Tx0_25_a, Tx0_25_b⟩ := Tx0_25.out
          clear Tx0_24 Tx0_24_l Tx0_24_a Tx0_24_b
          have Tx1_25 : Hid (Two w25 w8.heap.size (.int .i64 s1) (.slice b8 z1.length c8)) := Lib.hid (Tx1_24.out.keep B25.out)
          obtain ⟨Tx1_25_l, Tx1_25_a, Tx1_25_b⟩ := Tx1_25.out
          clear Tx1_24 Tx1_24_l Tx1_24_a Tx1_24_b
          have Tg_25 : Hid (Two w25 w9.heap.size (.int .i64 (cS (Ok s0 z0 ∧ Ok s1 z1 ∧ s0 = s1) s0)) (.slice b9 (cZ (Ok s0 z0 ∧ Ok s1 z1 ∧ s0 = s1) (suZ s0 z0 z1)).length c9)) := Lib.hid (Tg_24.out.keep B25.out)
          obtain ⟨Tg_25_l, Tg_25_a, Tg_25_b⟩ := Tg_25.out
          clear Tg_24 Tg_24_l Tg_24_a Tg_24_b
          have Th_25 : Hid (Two w25 g20 (.int .i64 (cS (Ok s0 z0 ∧ Ok s1 z1 ∧ s0 = s1) s0)) (.slice b20 (cZ (Ok s0 z0 ∧ Ok s1 z1 ∧ s0 = s1) (suZ s0 z0 z1)).length c20)) := Lib.hid (Th_24.out.keep B25.out)
          obtain ⟨Th_25_l, Th_25_a, Th_25_b⟩ := Th_25.out
          clear Th_24 Th_24_l Th_24_a Th_24_b
          have Om_25 : Hid (Row w25 w2.heap.size w3.heap.size b3 (cZ (Ok s0 z0 ∧ Ok s1 z1 ∧ s0 = s1) (suZ s0 z0 z1)).length c3 (cZ (Ok s0 z0 ∧ Ok s1 z1 ∧ s0 = s1) (suZ s0 z0 z1))) := Lib.hid (Om_24.out.keep B25.out)
          clear Om_24
          have Ox0_25 : Hid (Row w25 w3.heap.size w7.heap.size b7 z0.length c7 (marks (1) z0.length)) := Lib.hid (Ox0_24.out.keep B25.out)
          clear Ox0_24
          have Ox1_25 : Hid (Row w25 (w7.heap.size + 1) w8.heap.size b8 z1.length c8 (marks (1 + z0.length) z1.length)) := Lib.hid (Ox1_24.out.keep B25.out)
          clear Ox1_24
          have Og_25 : Hid (Row w25 (w8.heap.size + 1) w9.heap.size b9 (cZ (Ok s0 z0 ∧ Ok s1 z1 ∧ s0 = s1) (suZ s0 z0 z1)).length c9 (marks (1) (cZ (Ok s0 z0 ∧ Ok s1 z1 ∧ s0 = s1) (suZ s0 z0 z1)).length)) := Lib.hid (Og_24.out.keep B25.out)
          clear Og_24
          have Oh_25 : Hid (Row w25 w19.heap.size w20.heap.size b20 (cZ (Ok s0 z0 ∧ Ok s1 z1 ∧ s0 = s1) (suZ s0 z0 z1)).length c20 (cZ (Ok s0 z0 ∧ Ok s1 z1 ∧ s0 = s1) (suZ s0 z0 z1))) := Lib.hid (Oh_24.out.keep B25.out)
          clear Oh_24
          have A25 : Hid (Below w.heap.size w w25) := Lib.hid (A24.out.trans (B25.out.mono A24.out.size))
          clear A24
          clear hb25
          go_wp2
          go_ret
          exact ⟨rfl, A25.out⟩

set_option maxRecDepth 100000 in
theorem lifted (os : Os) (started : os.Started) (H : Type) (enc : TypeId × Value → H) :
    ReturnsInHanded {} Try.checked os 5 .any (Rows.fnExactSumRhythmSpec.pre6 enc Try.prog Try.f5 Rows.fnExactSumRhythmRow.domain false) (Rows.fnExactSumRhythmSpec.post enc Try.prog Try.f5 false true false false) := by
  refine returnsInHanded_of_change (C := Try.checked) own started (by kernel_rfl) Try.func5
    (ChangeSpec.witness6 (enc := enc) (C := Try.checked) false ⟨#[], #[.agg #[.int .i64 0, .slice none 0 0], .agg #[.int .i64 0, .slice none 0 0]], []⟩ 8 (by kernel_rfl) (by kernel_rfl) (by kernel_rfl) (by kernel_rfl)) ?_
  intro W base args ds gs before hval0 hW hcnd _
  have hval : ∀ (j : Nat) t v, Try.f5.params[j]? = some t → args[j]? = some v → Value.okWide Try.prog W .any base t v := hval0
  have hW' := hW
  obtain ⟨p, q, hA0, hV, rfl, hfz, hnd⟩ := hW
  have hA : DataW.TrodAll enc Try.prog W 0 (fun _ => true) true Try.f5.params.toList args.toList ds p := hA0
  rw [Try.params5] at hA hval
  obtain ⟨v0, vs0, d0, ds0, p0, q0, hargs, rfl, rfl, h0, r0⟩ := trodAll_cons hA
  obtain ⟨v1, vs1, d1, ds1, p1, q1, rfl, rfl, rfl, h1, r1⟩ := trodAll_cons r0
  obtain ⟨rfl, rfl, rfl⟩ := trodAll_nil r1
  obtain rfl : args = #[v0, v1] := by cases args; simp_all
  obtain ⟨rfl, rfl⟩ := trodVars_none hV
  have k0 := h0
  have lt0 : ∀ x ∈ p0, x.block < W.heap.size := by obtain ⟨m, hm⟩ := k0; exact DataW.trod_lt m _ _ _ hm
  obtain ⟨s0, a0, len0, cap0, z0, rfl, w0⟩ := opened (hval 0 39 v0 rfl rfl) h0
  have k1 := h1
  have lt1 : ∀ x ∈ p1, x.block < W.heap.size := by obtain ⟨m, hm⟩ := k1; exact DataW.trod_lt m _ _ _ hm
  obtain ⟨s1, a1, len1, cap1, z1, rfl, w1⟩ := opened (hval 1 39 v1 rfl rfl) h1
  clear hA0 hval0
  refine (walk s0 a0 len0 cap0 z0 s1 a1 len1 cap1 z1 W w0 w1).mono fun e W' ⟨he, bel⟩ => ?_
  subst he
  exact ⟨_, rfl, _, _, _, [], _, [], hW', trodAll_mk1 (shut_bool Try.underlying4 _), (trodAll_cons_mk (Below.trod laidOut (by kernel_rfl) (of_decide_eq_true (by kernel_rfl)) k0 bel lt0) (trodAll_cons_mk (Below.trod laidOut (by kernel_rfl) (of_decide_eq_true (by kernel_rfl)) k1 bel lt1) trodAll_mk0)), rfl, bel.frame _, fun h => by cases h⟩

theorem proved : Rows.FnExactSumRhythmSaid :=
  OpenClaim.holds_of_wide 5 Try.f5 rfl rfl rfl rfl rfl rfl rfl ⟨rfl, rfl, rfl, rfl, rfl⟩ rfl rfl rfl rfl rfl (by kernel_rfl) Try.func5 (by kernel_rfl)
    (of_decide_eq_true (by kernel_rfl)) (by unfold Func.isWrapper; rw [if_neg (of_decide_eq_false (by kernel_rfl))]; exact ⟨rfl, rfl⟩)
    (fun os started H enc _ => lifted os started H enc)
#print axioms proved
end Go.Proofs.Ytpgolnkhbnancaa.fnExactSumRhythm
