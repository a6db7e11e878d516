/-
  For every list of texts, ReadCanon of the program answers as the model does, changes nothing of its argument, and its answer is its own.
-/
import Derived.Test.YthnlakdfbalgdaaCnl
import Derived.Test.YthnlakdfbalgdaaTxu
import Derived.Deep.RegionHeld3
import Derived.ProofKit
namespace Go.Proofs.Ythnlakdfbalgdaa.fnExactReadCanon
open Go.ChangeShapes Go.WideShapes Go.ChangeAt Go.RowKit Rhy
set_option linter.unusedVariables false

theorem rd0_size (ss : List ByteArray) : (rd0 ss).size ≤ totT ss := by
  cases ss with
  | nil => simp [rd0]
  | cons a ss => exact totT_mem (by simp [rd0])
theorem rdX_ok {ss : List ByteArray} (h : RdC ss) : AllInt (rdX ss) ∧ (rdX ss).length ≤ 1048576 := by
  have := h.1.1
  exact ⟨xZ_int (by omega), Nat.le_trans (xZ_len _ _) (by omega)⟩
theorem rdZ_ok {ss : List ByteArray} (h : RdC ss) : AllInt (rdZ ss) ∧ (rdZ ss).length ≤ 1048576 := by
  have := h.1.1
  exact ⟨rdE_int (by omega), Nat.le_trans (rdE_len _ _ _) (by omega)⟩

set_option maxHeartbeats 1000000 in
set_option maxRecDepth 100000 in
theorem walk (aT : Option Addr) (lenT capT : Nat) (sT : List ByteArray) (w : World) (w0 : OpenedT w aT lenT sT) :
    Calls Try.prog 10 #[.slice aT lenT capT] w fun e w' => e = .returned (.bool true) ∧ Below w.heap.size w w' := by
  obtain ⟨iT, mT, zT⟩ := w0
  have HT := Lib.hid iT
  clear iT
  go_enter Try.func10, Try.ntmps10
  go_wp2_with fail
  refine (size_txts aT lenT capT sT _ HT.out mT zT).mono ?_
  rintro e w1 ⟨r, rfl, hb1, hr | ⟨hr, hlen, htot⟩, h1, h2⟩
  · have HB1 := Lib.hid hb1
    clear hb1
    go_wp2
    go_ret
    exact ⟨rfl, HB1.out⟩
  · have hr0 : ¬ r < 0 := by omega
    have lzT : sT.length ≤ 1048576 := by have := HT.out.1; omega
    have rzT : (rd0 sT).size ≤ 1048576 := Nat.le_trans (rd0_size sT) htot
    clear hr h1 h2
    have B1 : Hid (Below w.heap.size w w1) := Lib.hid (hb1)
    have B1_size := B1.out.size
    have A1 : Hid (Below w.heap.size w w1) := Lib.hid (B1.out)
    clear hb1
    have HZ : Hid (AllInt (cZ (RdC sT) (rdX sT))) := Lib.hid (cZ_i fun h => (rdX_ok h).1)
    have hzl : (cZ (RdC sT) (rdX sT)).length ≤ 1048576 := cZ_len fun h => (rdX_ok h).2
    have HY : Hid (AllInt (cZ (RdC sT) (rdZ sT))) := Lib.hid (cZ_i fun h => (rdZ_ok h).1)
    have hyl : (cZ (RdC sT) (rdZ sT)).length ≤ 1048576 := cZ_len fun h => (rdZ_ok h).2
    go_wp2_with fail
    refine (copy_txts aT lenT capT sT _ (HT.out.below A1.out) hlen).mono ?_
    rintro e w2 ⟨b2, c2, rfl, hown2, hb2⟩
    have Op_2 : Hid (RowT w2 w1.heap.size w2.heap.size b2 sT.length c2 sT) := Lib.hid (rowT_of (own_base hown2 (Nat.le_refl _)))
    have B2 : Hid (Below w1.heap.size w1 w2) := Lib.hid (hb2)
    have B2_size := B2.out.size
    have A2 : Hid (Below w.heap.size w w2) := Lib.hid (A1.out.trans (B2.out.mono A1.out.size))
    clear A1
    clear hown2 hb2
    go_wp2_with fail
    refine (rd_spec b2 sT.length c2 sT _ (txtsAt_own (Op_2.out).1) lzT rzT).mono ?_
    rintro e w3 ⟨b3, c3, d3, e3, rfl, hown3, hb3⟩
    have Om_3 : Hid (RowC w3 w2.heap.size w3.heap.size b3 c3 (cZ (RdC sT) (rdX sT)) d3 e3 (cZ (RdC sT) (rdZ sT))) := Lib.hid (RowC.lo hown3 (Nat.le_refl _))
    have B3 : Hid (Below w2.heap.size w2 w3) := Lib.hid (hb3)
    have B3_size := B3.out.size
    have Op_3 : Hid (RowT w3 w1.heap.size w2.heap.size b2 sT.length c2 sT) := Lib.hid (Op_2.out.keep B3.out)
    clear Op_2
    have A3 : Hid (Below w.heap.size w w3) := Lib.hid (A2.out.trans (B3.out.mono A2.out.size))
    clear A2
    clear hown3 hb3
    go_wp2_with fail
    refine (copy_txts aT lenT capT sT _ ((HT.out.below A3.out).below (bel1 _ (.cells #[.int .i64 (cS (RdC sT) (rd0 sT).size), .slice b3 (cZ (RdC sT) (rdX sT)).length c3, .int .i64 (cS (RdC sT) (rd0 sT).size), .slice d3 (cZ (RdC sT) (rdZ sT)).length e3] 29))) hlen).mono ?_
    rintro e w4 ⟨b4, c4, rfl, hown4, hb4⟩
    have Ox_4 : Hid (RowT w4 (w3.heap.size + 1) w4.heap.size b4 sT.length c4 sT) := Lib.hid (rowT_of (own_base hown4 (by simp)))
    have p4 := Lib.hid (bel1 w3 (.cells #[.int .i64 (cS (RdC sT) (rd0 sT).size), .slice b3 (cZ (RdC sT) (rdX sT)).length c3, .int .i64 (cS (RdC sT) (rd0 sT).size), .slice d3 (cZ (RdC sT) (rdZ sT)).length e3] 29))
    have B4 : Hid (Below w3.heap.size w3 w4) := Lib.hid (p4.out.trans (hb4.mono p4.out.size))
    have B4_size := B4.out.size
    have pz4 : w3.heap.size + 1 ≤ w4.heap.size := by have := hb4.size; simp at this; omega
    have Tm_4 : Hid (Four w4 w3.heap.size (.int .i64 (cS (RdC sT) (rd0 sT).size)) (.slice b3 (cZ (RdC sT) (rdX sT)).length c3) (.int .i64 (cS (RdC sT) (rd0 sT).size)) (.slice d3 (cZ (RdC sT) (rdZ sT)).length e3)) := Lib.hid ((four_new w3 (.int .i64 (cS (RdC sT) (rd0 sT).size)) (.slice b3 (cZ (RdC sT) (rdX sT)).length c3) (.int .i64 (cS (RdC sT) (rd0 sT).size)) (.slice d3 (cZ (RdC sT) (rdZ sT)).length e3) 29).keep hb4)
    obtain ⟨Tm_4_l, Tm_4_a, Tm_4_b, Tm_4_c, Tm_4_d⟩ := Tm_4.out
    have Op_4 : Hid (RowT w4 w1.heap.size w2.heap.size b2 sT.length c2 sT) := Lib.hid (Op_3.out.keep B4.out)
    clear Op_3
    have Om_4 : Hid (RowC w4 w2.heap.size w3.heap.size b3 c3 (cZ (RdC sT) (rdX sT)) d3 e3 (cZ (RdC sT) (rdZ sT))) := Lib.hid (Om_3.out.keep B4.out)
    clear Om_3
    have A4 : Hid (Below w.heap.size w w4) := Lib.hid (A3.out.trans (B4.out.mono A3.out.size))
    clear A3
    clear hown4 hb4
    go_wp2_with fail
    refine (rd_impl b4 sT.length c4 sT _ (txtsAt_own (Ox_4.out).1) lzT rzT).mono ?_
    rintro e w5 ⟨b5, c5, d5, e5, rfl, hown5, hb5⟩
    have Og_5 : Hid (RowC w5 w4.heap.size w5.heap.size b5 c5 (cZ (RdC sT) (rdX sT)) d5 e5 (cZ (RdC sT) (rdZ sT))) := Lib.hid (RowC.lo hown5 (Nat.le_refl _))
    have B5 : Hid (Below w4.heap.size w4 w5) := Lib.hid (hb5)
    have B5_size := B5.out.size
    have Tm_5 : Hid (Four w5 w3.heap.size (.int .i64 (cS (RdC sT) (rd0 sT).size)) (.slice b3 (cZ (RdC sT) (rdX sT)).length c3) (.int .i64 (cS (RdC sT) (rd0 sT).size)) (.slice d3 (cZ (RdC sT) (rdZ sT)).length e3)) := Lib.hid (Tm_4.out.keep B5.out)
    obtain ⟨Tm_5_l, Tm_5_a, Tm_5_b, Tm_5_c, Tm_5_d⟩ := Tm_5.out
    clear Tm_4 Tm_4_l Tm_4_a Tm_4_b Tm_4_c Tm_4_d
    have Op_5 : Hid (RowT w5 w1.heap.size w2.heap.size b2 sT.length c2 sT) := Lib.hid (Op_4.out.keep B5.out)
    clear Op_4
    have Om_5 : Hid (RowC w5 w2.heap.size w3.heap.size b3 c3 (cZ (RdC sT) (rdX sT)) d3 e3 (cZ (RdC sT) (rdZ sT))) := Lib.hid (Om_4.out.keep B5.out)
    clear Om_4
    have Ox_5 : Hid (RowT w5 (w3.heap.size + 1) w4.heap.size b4 sT.length c4 sT) := Lib.hid (Ox_4.out.keep B5.out)
    clear Ox_4
    have A5 : Hid (Below w.heap.size w w5) := Lib.hid (A4.out.trans (B5.out.mono A4.out.size))
    clear A4
    clear hown5 hb5
    go_wp2_with fail
    refine (eq_canon _ b5 b3 c5 c3 _ _ _ d5 d3 e5 e3 _ _ _ ((Og_5.out.keep (bel1 _ (.cells #[.int .i64 (cS (RdC sT) (rd0 sT).size), .slice b5 (cZ (RdC sT) (rdX sT)).length c5, .int .i64 (cS (RdC sT) (rd0 sT).size), .slice d5 (cZ (RdC sT) (rdZ sT)).length e5] 29))).at0 HZ.out) ((Om_5.out.keep (bel1 _ (.cells #[.int .i64 (cS (RdC sT) (rd0 sT).size), .slice b5 (cZ (RdC sT) (rdX sT)).length c5, .int .i64 (cS (RdC sT) (rd0 sT).size), .slice d5 (cZ (RdC sT) (rdZ sT)).length e5] 29))).at0 HZ.out) (by omega) ((Og_5.out.keep (bel1 _ (.cells #[.int .i64 (cS (RdC sT) (rd0 sT).size), .slice b5 (cZ (RdC sT) (rdX sT)).length c5, .int .i64 (cS (RdC sT) (rd0 sT).size), .slice d5 (cZ (RdC sT) (rdZ sT)).length e5] 29))).at1 HY.out) ((Om_5.out.keep (bel1 _ (.cells #[.int .i64 (cS (RdC sT) (rd0 sT).size), .slice b5 (cZ (RdC sT) (rdX sT)).length c5, .int .i64 (cS (RdC sT) (rd0 sT).size), .slice d5 (cZ (RdC sT) (rdZ sT)).length e5] 29))).at1 HY.out) (by omega)).mono ?_
    rintro e w6 ⟨rfl, hb6⟩
    have p6 := Lib.hid (bel1 w5 (.cells #[.int .i64 (cS (RdC sT) (rd0 sT).size), .slice b5 (cZ (RdC sT) (rdX sT)).length c5, .int .i64 (cS (RdC sT) (rd0 sT).size), .slice d5 (cZ (RdC sT) (rdZ sT)).length e5] 29))
    have B6 : Hid (Below w5.heap.size w5 w6) := Lib.hid (p6.out.trans (hb6.mono p6.out.size))
    have B6_size := B6.out.size
    have pz6 : w5.heap.size + 1 ≤ w6.heap.size := by have := hb6.size; simp at this; omega
    have Tm_6 : Hid (Four w6 w3.heap.size (.int .i64 (cS (RdC sT) (rd0 sT).size)) (.slice b3 (cZ (RdC sT) (rdX sT)).length c3) (.int .i64 (cS (RdC sT) (rd0 sT).size)) (.slice d3 (cZ (RdC sT) (rdZ sT)).length e3)) := Lib.hid (Tm_5.out.keep B6.out)
    obtain ⟨Tm_6_l, Tm_6_a, Tm_6_b, Tm_6_c, Tm_6_d⟩ := Tm_6.out
    clear Tm_5 Tm_5_l Tm_5_a Tm_5_b Tm_5_c Tm_5_d
    have Tg_6 : Hid (Four w6 w5.heap.size (.int .i64 (cS (RdC sT) (rd0 sT).size)) (.slice b5 (cZ (RdC sT) (rdX sT)).length c5) (.int .i64 (cS (RdC sT) (rd0 sT).size)) (.slice d5 (cZ (RdC sT) (rdZ sT)).length e5)) := Lib.hid ((four_new w5 (.int .i64 (cS (RdC sT) (rd0 sT).size)) (.slice b5 (cZ (RdC sT) (rdX sT)).length c5) (.int .i64 (cS (RdC sT) (rd0 sT).size)) (.slice d5 (cZ (RdC sT) (rdZ sT)).length e5) 29).keep hb6)
    obtain ⟨Tg_6_l, Tg_6_a, Tg_6_b, Tg_6_c, Tg_6_d⟩ := Tg_6.out
    have Op_6 : Hid (RowT w6 w1.heap.size w2.heap.size b2 sT.length c2 sT) := Lib.hid (Op_5.out.keep B6.out)
    clear Op_5
    have Om_6 : Hid (RowC w6 w2.heap.size w3.heap.size b3 c3 (cZ (RdC sT) (rdX sT)) d3 e3 (cZ (RdC sT) (rdZ sT))) := Lib.hid (Om_5.out.keep B6.out)
    clear Om_5
    have Ox_6 : Hid (RowT w6 (w3.heap.size + 1) w4.heap.size b4 sT.length c4 sT) := Lib.hid (Ox_5.out.keep B6.out)
    clear Ox_5
    have Og_6 : Hid (RowC w6 w4.heap.size w5.heap.size b5 c5 (cZ (RdC sT) (rdX sT)) d5 e5 (cZ (RdC sT) (rdZ sT))) := Lib.hid (Og_5.out.keep B6.out)
    clear Og_5
    have A6 : Hid (Below w.heap.size w w6) := Lib.hid (A5.out.trans (B6.out.mono A5.out.size))
    clear A5
    clear hb6
    go_wp2_with fail
    refine (copy_txts aT lenT capT sT _ (HT.out.below A6.out) hlen).mono ?_
    rintro e w7 ⟨b7, c7, rfl, hown7, hb7⟩
    have Oz_7 : Hid (RowT w7 w6.heap.size w7.heap.size b7 sT.length c7 sT) := Lib.hid (rowT_of (own_base hown7 (Nat.le_refl _)))
    have B7 : Hid (Below w6.heap.size w6 w7) := Lib.hid (hb7)
    have B7_size := B7.out.size
    have Tm_7 : Hid (Four w7 w3.heap.size (.int .i64 (cS (RdC sT) (rd0 sT).size)) (.slice b3 (cZ (RdC sT) (rdX sT)).length c3) (.int .i64 (cS (RdC sT) (rd0 sT).size)) (.slice d3 (cZ (RdC sT) (rdZ sT)).length e3)) := Lib.hid (Tm_6.out.keep B7.out)
    obtain ⟨Tm_7_l, Tm_7_a, Tm_7_b, Tm_7_c, Tm_7_d⟩ := Tm_7.out
    clear Tm_6 Tm_6_l Tm_6_a Tm_6_b Tm_6_c Tm_6_d
    have Tg_7 : Hid (Four w7 w5.heap.size (.int .i64 (cS (RdC sT) (rd0 sT).size)) (.slice b5 (cZ (RdC sT) (rdX sT)).length c5) (.int .i64 (cS (RdC sT) (rd0 sT).size)) (.slice d5 (cZ (RdC sT) (rdZ sT)).length e5)) := Lib.hid (Tg_6.out.keep B7.out)
    obtain ⟨Tg_7_l, Tg_7_a, Tg_7_b, Tg_7_c, Tg_7_d⟩ := Tg_7.out
    clear Tg_6 Tg_6_l Tg_6_a Tg_6_b Tg_6_c Tg_6_d
    have Op_7 : Hid (RowT w7 w1.heap.size w2.heap.size b2 sT.length c2 sT) := Lib.hid (Op_6.out.keep B7.out)
    clear Op_6
    have Om_7 : Hid (RowC w7 w2.heap.size w3.heap.size b3 c3 (cZ (RdC sT) (rdX sT)) d3 e3 (cZ (RdC sT) (rdZ sT))) := Lib.hid (Om_6.out.keep B7.out)
    clear Om_6
    have Ox_7 : Hid (RowT w7 (w3.heap.size + 1) w4.heap.size b4 sT.length c4 sT) := Lib.hid (Ox_6.out.keep B7.out)
    clear Ox_6
    have Og_7 : Hid (RowC w7 w4.heap.size w5.heap.size b5 c5 (cZ (RdC sT) (rdX sT)) d5 e5 (cZ (RdC sT) (rdZ sT))) := Lib.hid (Og_6.out.keep B7.out)
    clear Og_6
    have A7 : Hid (Below w.heap.size w w7) := Lib.hid (A6.out.trans (B7.out.mono A6.out.size))
    clear A6
    clear hown7 hb7
    go_wp2_with fail
    refine (eq_txts b4 b7 c4 c7 sT.length sT _ (txtsAt_own (Ox_7.out).1) (txtsAt_own (Oz_7.out).1) (by omega)).mono ?_
    rintro e w8 ⟨rfl, hb8⟩
    have B8 : Hid (Below w7.heap.size w7 w8) := Lib.hid (hb8)
    have B8_size := B8.out.size
    have Tm_8 : Hid (Four w8 w3.heap.size (.int .i64 (cS (RdC sT) (rd0 sT).size)) (.slice b3 (cZ (RdC sT) (rdX sT)).length c3) (.int .i64 (cS (RdC sT) (rd0 sT).size)) (.slice d3 (cZ (RdC sT) (rdZ sT)).length e3)) := Lib.hid (Tm_7.out.keep B8.out)
    obtain ⟨Tm_8_l, Tm_8_a, Tm_8_b, Tm_8_c, Tm_8_d⟩ := Tm_8.out
    clear Tm_7 Tm_7_l Tm_7_a Tm_7_b Tm_7_c Tm_7_d
    have Tg_8 : Hid (Four w8 w5.heap.size (.int .i64 (cS (RdC sT) (rd0 sT).size)) (.slice b5 (cZ (RdC sT) (rdX sT)).length c5) (.int .i64 (cS (RdC sT) (rd0 sT).size)) (.slice d5 (cZ (RdC sT) (rdZ sT)).length e5)) := Lib.hid (Tg_7.out.keep B8.out)
    obtain ⟨Tg_8_l, Tg_8_a, Tg_8_b, Tg_8_c, Tg_8_d⟩ := Tg_8.out
    clear Tg_7 Tg_7_l Tg_7_a Tg_7_b Tg_7_c Tg_7_d
    have Op_8 : Hid (RowT w8 w1.heap.size w2.heap.size b2 sT.length c2 sT) := Lib.hid (Op_7.out.keep B8.out)
    clear Op_7
    have Om_8 : Hid (RowC w8 w2.heap.size w3.heap.size b3 c3 (cZ (RdC sT) (rdX sT)) d3 e3 (cZ (RdC sT) (rdZ sT))) := Lib.hid (Om_7.out.keep B8.out)
    clear Om_7
    have Ox_8 : Hid (RowT w8 (w3.heap.size + 1) w4.heap.size b4 sT.length c4 sT) := Lib.hid (Ox_7.out.keep B8.out)
    clear Ox_7
    have Og_8 : Hid (RowC w8 w4.heap.size w5.heap.size b5 c5 (cZ (RdC sT) (rdX sT)) d5 e5 (cZ (RdC sT) (rdZ sT))) := Lib.hid (Og_7.out.keep B8.out)
    clear Og_7
    have Oz_8 : Hid (RowT w8 w6.heap.size w7.heap.size b7 sT.length c7 sT) := Lib.hid (Oz_7.out.keep B8.out)
    clear Oz_7
    have A8 : Hid (Below w.heap.size w w8) := Lib.hid (A7.out.trans (B8.out.mono A7.out.size))
    clear A7
    clear hb8
    go_wp2_with fail
    refine (mark_txts (w3.heap.size + 1) w4.heap.size (1) b4 c4 sT.length sT _ (Ox_8.out) (by omega) (by omega) (by omega)).mono ?_
    rintro e w9 ⟨rfl, hown9, hb9⟩
    have B9 : Hid (Within (w3.heap.size + 1) w4.heap.size w8 w9) := Lib.hid (hb9)
    have B9_size := B9.out.size
    have Tm_9 : Hid (Four w9 w3.heap.size (.int .i64 (cS (RdC sT) (rd0 sT).size)) (.slice b3 (cZ (RdC sT) (rdX sT)).length c3) (.int .i64 (cS (RdC sT) (rd0 sT).size)) (.slice d3 (cZ (RdC sT) (rdZ sT)).length e3)) := Lib.hid (Tm_8.out.within B9.out (by omega))
    obtain ⟨Tm_9_l, Tm_9_a, Tm_9_b, Tm_9_c, Tm_9_d⟩ := Tm_9.out
    clear Tm_8 Tm_8_l Tm_8_a Tm_8_b Tm_8_c Tm_8_d
    have Tg_9 : Hid (Four w9 w5.heap.size (.int .i64 (cS (RdC sT) (rd0 sT).size)) (.slice b5 (cZ (RdC sT) (rdX sT)).length c5) (.int .i64 (cS (RdC sT) (rd0 sT).size)) (.slice d5 (cZ (RdC sT) (rdZ sT)).length e5)) := Lib.hid (Tg_8.out.within B9.out (by omega))
    obtain ⟨Tg_9_l, Tg_9_a, Tg_9_b, Tg_9_c, Tg_9_d⟩ := Tg_9.out
    clear Tg_8 Tg_8_l Tg_8_a Tg_8_b Tg_8_c Tg_8_d
    have Op_9 : Hid (RowT w9 w1.heap.size w2.heap.size b2 sT.length c2 sT) := Lib.hid (Op_8.out.within B9.out (by omega))
    clear Op_8
    have Om_9 : Hid (RowC w9 w2.heap.size w3.heap.size b3 c3 (cZ (RdC sT) (rdX sT)) d3 e3 (cZ (RdC sT) (rdZ sT))) := Lib.hid (Om_8.out.within B9.out (by omega))
    clear Om_8
    have Og_9 : Hid (RowC w9 w4.heap.size w5.heap.size b5 c5 (cZ (RdC sT) (rdX sT)) d5 e5 (cZ (RdC sT) (rdZ sT))) := Lib.hid (Og_8.out.within B9.out (by omega))
    clear Og_8
    have A9 : Hid (Below w.heap.size w w9) := Lib.hid (Rhy.Below.within A8.out B9.out (by omega) A8.out.size)
    clear A8
    have Ox_9 : Hid (RowT w9 (w3.heap.size + 1) w4.heap.size b4 sT.length c4 (marksT (1) sT.length)) := Lib.hid hown9
    clear hown9 hb9 Ox_8
    go_wp2_with fail
    refine (eq_canon _ b5 b3 c5 c3 _ _ _ d5 d3 e5 e3 _ _ _ (Og_9.out.at0 HZ.out) (Om_9.out.at0 HZ.out) (by omega) (Og_9.out.at1 HY.out) (Om_9.out.at1 HY.out) (by omega)).mono ?_
    rintro e w10 ⟨rfl, hb10⟩
    have B10 : Hid (Below w9.heap.size w9 w10) := Lib.hid (hb10)
    have B10_size := B10.out.size
    have Tm_10 : Hid (Four w10 w3.heap.size (.int .i64 (cS (RdC sT) (rd0 sT).size)) (.slice b3 (cZ (RdC sT) (rdX sT)).length c3) (.int .i64 (cS (RdC sT) (rd0 sT).size)) (.slice d3 (cZ (RdC sT) (rdZ sT)).length e3)) := Lib.hid (Tm_9.out.keep B10.out)
    obtain ⟨Tm_10_l, Tm_10_a, Tm_10_b, Tm_10_c, Tm_10_d⟩ := Tm_10.out
    clear Tm_9 Tm_9_l Tm_9_a Tm_9_b Tm_9_c Tm_9_d
    have Tg_10 : Hid (Four w10 w5.heap.size (.int .i64 (cS (RdC sT) (rd0 sT).size)) (.slice b5 (cZ (RdC sT) (rdX sT)).length c5) (.int .i64 (cS (RdC sT) (rd0 sT).size)) (.slice d5 (cZ (RdC sT) (rdZ sT)).length e5)) := Lib.hid (Tg_9.out.keep B10.out)
    obtain ⟨Tg_10_l, Tg_10_a, Tg_10_b, Tg_10_c, Tg_10_d⟩ := Tg_10.out
    clear Tg_9 Tg_9_l Tg_9_a Tg_9_b Tg_9_c Tg_9_d
    have Op_10 : Hid (RowT w10 w1.heap.size w2.heap.size b2 sT.length c2 sT) := Lib.hid (Op_9.out.keep B10.out)
    clear Op_9
    have Om_10 : Hid (RowC w10 w2.heap.size w3.heap.size b3 c3 (cZ (RdC sT) (rdX sT)) d3 e3 (cZ (RdC sT) (rdZ sT))) := Lib.hid (Om_9.out.keep B10.out)
    clear Om_9
    have Ox_10 : Hid (RowT w10 (w3.heap.size + 1) w4.heap.size b4 sT.length c4 (marksT (1) sT.length)) := Lib.hid (Ox_9.out.keep B10.out)
    clear Ox_9
    have Og_10 : Hid (RowC w10 w4.heap.size w5.heap.size b5 c5 (cZ (RdC sT) (rdX sT)) d5 e5 (cZ (RdC sT) (rdZ sT))) := Lib.hid (Og_9.out.keep B10.out)
    clear Og_9
    have A10 : Hid (Below w.heap.size w w10) := Lib.hid (A9.out.trans (B10.out.mono A9.out.size))
    clear A9
    clear hb10
    go_wp2_with fail
    refine (mark_canon w4.heap.size w5.heap.size (1) _ b5 c5 (cZ (RdC sT) (rdX sT)) _ d5 e5 (cZ (RdC sT) (rdZ sT)) _ Og_10.out (by omega) (by omega) (by omega) (by omega)).mono ?_
    rintro e w11 ⟨rfl, hown11, hb11⟩
    have B11 : Hid (Within w4.heap.size w5.heap.size w10 w11) := Lib.hid (hb11)
    have B11_size := B11.out.size
    have Tm_11 : Hid (Four w11 w3.heap.size (.int .i64 (cS (RdC sT) (rd0 sT).size)) (.slice b3 (cZ (RdC sT) (rdX sT)).length c3) (.int .i64 (cS (RdC sT) (rd0 sT).size)) (.slice d3 (cZ (RdC sT) (rdZ sT)).length e3)) := Lib.hid (Tm_10.out.within B11.out (by omega))
    obtain ⟨Tm_11_l, Tm_11_a, Tm_11_b, Tm_11_c, Tm_11_d⟩ := Tm_11.out
    clear Tm_10 Tm_10_l Tm_10_a Tm_10_b Tm_10_c Tm_10_d
    have Tg_11 : Hid (Four w11 w5.heap.size (.int .i64 (cS (RdC sT) (rd0 sT).size)) (.slice b5 (cZ (RdC sT) (rdX sT)).length c5) (.int .i64 (cS (RdC sT) (rd0 sT).size)) (.slice d5 (cZ (RdC sT) (rdZ sT)).length e5)) := Lib.hid (Tg_10.out.within B11.out (by omega))
    obtain ⟨Tg_11_l, Tg_11_a, Tg_11_b, Tg_11_c, Tg_11_d⟩ := Tg_11.out
    clear Tg_10 Tg_10_l Tg_10_a Tg_10_b Tg_10_c Tg_10_d
    have Op_11 : Hid (RowT w11 w1.heap.size w2.heap.size b2 sT.length c2 sT) := Lib.hid (Op_10.out.within B11.out (by omega))
    clear Op_10
    have Om_11 : Hid (RowC w11 w2.heap.size w3.heap.size b3 c3 (cZ (RdC sT) (rdX sT)) d3 e3 (cZ (RdC sT) (rdZ sT))) := Lib.hid (Om_10.out.within B11.out (by omega))
    clear Om_10
    have Ox_11 : Hid (RowT w11 (w3.heap.size + 1) w4.heap.size b4 sT.length c4 (marksT (1) sT.length)) := Lib.hid (Ox_10.out.within B11.out (by omega))
    clear Ox_10
    have A11 : Hid (Below w.heap.size w w11) := Lib.hid (Rhy.Below.within A10.out B11.out (by omega) A10.out.size)
    clear A10
    have Og_11 : Hid (RowC w11 w4.heap.size w5.heap.size b5 c5 (marks (1) (cZ (RdC sT) (rdX sT)).length) d5 e5 (marks (1 + (cZ (RdC sT) (rdX sT)).length) (cZ (RdC sT) (rdZ sT)).length)) := Lib.hid hown11
    clear hown11 hb11 Og_10
    go_wp2_with fail
    refine (held_canon (1) _ b5 (cZ (RdC sT) (rdX sT)).length c5 _ d5 (cZ (RdC sT) (rdZ sT)).length e5 _ (by simpa [marks_len] using (Og_11.out.at0 (marks_int _ _ (by omega)))) (by simpa [marks_len] using (Og_11.out.at1 (marks_int _ _ (by omega)))) (by omega) (by omega) (by omega)).mono ?_
    rintro e w12 ⟨rfl, hb12⟩
    have B12 : Hid (Below w11.heap.size w11 w12) := Lib.hid (hb12)
    have B12_size := B12.out.size
    have Tm_12 : Hid (Four w12 w3.heap.size (.int .i64 (cS (RdC sT) (rd0 sT).size)) (.slice b3 (cZ (RdC sT) (rdX sT)).length c3) (.int .i64 (cS (RdC sT) (rd0 sT).size)) (.slice d3 (cZ (RdC sT) (rdZ sT)).length e3)) := Lib.hid (Tm_11.out.keep B12.out)
    obtain ⟨Tm_12_l, Tm_12_a, Tm_12_b, Tm_12_c, Tm_12_d⟩ := Tm_12.out
    clear Tm_11 Tm_11_l Tm_11_a Tm_11_b Tm_11_c Tm_11_d
    have Tg_12 : Hid (Four w12 w5.heap.size (.int .i64 (cS (RdC sT) (rd0 sT).size)) (.slice b5 (cZ (RdC sT) (rdX sT)).length c5) (.int .i64 (cS (RdC sT) (rd0 sT).size)) (.slice d5 (cZ (RdC sT) (rdZ sT)).length e5)) := Lib.hid (Tg_11.out.keep B12.out)
    obtain ⟨Tg_12_l, Tg_12_a, Tg_12_b, Tg_12_c, Tg_12_d⟩ := Tg_12.out
    clear Tg_11 Tg_11_l Tg_11_a Tg_11_b Tg_11_c Tg_11_d
    have Op_12 : Hid (RowT w12 w1.heap.size w2.heap.size b2 sT.length c2 sT) := Lib.hid (Op_11.out.keep B12.out)
    clear Op_11
    have Om_12 : Hid (RowC w12 w2.heap.size w3.heap.size b3 c3 (cZ (RdC sT) (rdX sT)) d3 e3 (cZ (RdC sT) (rdZ sT))) := Lib.hid (Om_11.out.keep B12.out)
    clear Om_11
    have Ox_12 : Hid (RowT w12 (w3.heap.size + 1) w4.heap.size b4 sT.length c4 (marksT (1) sT.length)) := Lib.hid (Ox_11.out.keep B12.out)
    clear Ox_11
    have Og_12 : Hid (RowC w12 w4.heap.size w5.heap.size b5 c5 (marks (1) (cZ (RdC sT) (rdX sT)).length) d5 e5 (marks (1 + (cZ (RdC sT) (rdX sT)).length) (cZ (RdC sT) (rdZ sT)).length)) := Lib.hid (Og_11.out.keep B12.out)
    clear Og_11
    have A12 : Hid (Below w.heap.size w w12) := Lib.hid (A11.out.trans (B12.out.mono A11.out.size))
    clear A11
    clear hb12
    go_wp2_with fail
    refine (copy_txts aT lenT capT sT _ (HT.out.below A12.out) hlen).mono ?_
    rintro e w13 ⟨b13, c13, rfl, hown13, hb13⟩
    have Oy_13 : Hid (RowT w13 w12.heap.size w13.heap.size b13 sT.length c13 sT) := Lib.hid (rowT_of (own_base hown13 (Nat.le_refl _)))
    have B13 : Hid (Below w12.heap.size w12 w13) := Lib.hid (hb13)
    have B13_size := B13.out.size
    have Tm_13 : Hid (Four w13 w3.heap.size (.int .i64 (cS (RdC sT) (rd0 sT).size)) (.slice b3 (cZ (RdC sT) (rdX sT)).length c3) (.int .i64 (cS (RdC sT) (rd0 sT).size)) (.slice d3 (cZ (RdC sT) (rdZ sT)).length e3)) := Lib.hid (Tm_12.out.keep B13.out)
    obtain ⟨Tm_13_l, Tm_13_a, Tm_13_b, Tm_13_c, Tm_13_d⟩ := Tm_13.out
    clear Tm_12 Tm_12_l Tm_12_a Tm_12_b Tm_12_c Tm_12_d
    have Tg_13 : Hid (Four w13 w5.heap.size (.int .i64 (cS (RdC sT) (rd0 sT).size)) (.slice b5 (cZ (RdC sT) (rdX sT)).length c5) (.int .i64 (cS (RdC sT) (rd0 sT).size)) (.slice d5 (cZ (RdC sT) (rdZ sT)).length e5)) := Lib.hid (Tg_12.out.keep B13.out)
    obtain ⟨Tg_13_l, Tg_13_a, Tg_13_b, Tg_13_c, Tg_13_d⟩ := Tg_13.out
    clear Tg_12 Tg_12_l Tg_12_a Tg_12_b Tg_12_c Tg_12_d
    have Op_13 : Hid (RowT w13 w1.heap.size w2.heap.size b2 sT.length c2 sT) := Lib.hid (Op_12.out.keep B13.out)
    clear Op_12
    have Om_13 : Hid (RowC w13 w2.heap.size w3.heap.size b3 c3 (cZ (RdC sT) (rdX sT)) d3 e3 (cZ (RdC sT) (rdZ sT))) := Lib.hid (Om_12.out.keep B13.out)
    clear Om_12
    have Ox_13 : Hid (RowT w13 (w3.heap.size + 1) w4.heap.size b4 sT.length c4 (marksT (1) sT.length)) := Lib.hid (Ox_12.out.keep B13.out)
    clear Ox_12
    have Og_13 : Hid (RowC w13 w4.heap.size w5.heap.size b5 c5 (marks (1) (cZ (RdC sT) (rdX sT)).length) d5 e5 (marks (1 + (cZ (RdC sT) (rdX sT)).length) (cZ (RdC sT) (rdZ sT)).length)) := Lib.hid (Og_12.out.keep B13.out)
    clear Og_12
    have A13 : Hid (Below w.heap.size w w13) := Lib.hid (A12.out.trans (B13.out.mono A12.out.size))
    clear A12
    clear hown13 hb13
    go_wp2_with fail
    refine (rd_impl b13 sT.length c13 sT _ (txtsAt_own (Oy_13.out).1) lzT rzT).mono ?_
    rintro e w14 ⟨b14, c14, d14, e14, rfl, hown14, hb14⟩
    have Oh_14 : Hid (RowC w14 w13.heap.size w14.heap.size b14 c14 (cZ (RdC sT) (rdX sT)) d14 e14 (cZ (RdC sT) (rdZ sT))) := Lib.hid (RowC.lo hown14 (Nat.le_refl _))
    have B14 : Hid (Below w13.heap.size w13 w14) := Lib.hid (hb14)
    have B14_size := B14.out.size
    have Tm_14 : Hid (Four w14 w3.heap.size (.int .i64 (cS (RdC sT) (rd0 sT).size)) (.slice b3 (cZ (RdC sT) (rdX sT)).length c3) (.int .i64 (cS (RdC sT) (rd0 sT).size)) (.slice d3 (cZ (RdC sT) (rdZ sT)).length e3)) := Lib.hid (Tm_13.out.keep B14.out)
    obtain ⟨Tm_14_l, Tm_14_a, Tm_14_b, Tm_14_c, Tm_14_d⟩ := Tm_14.out
    clear Tm_13 Tm_13_l Tm_13_a Tm_13_b Tm_13_c Tm_13_d
    have Tg_14 : Hid (Four w14 w5.heap.size (.int .i64 (cS (RdC sT) (rd0 sT).size)) (.slice b5 (cZ (RdC sT) (rdX sT)).length c5) (.int .i64 (cS (RdC sT) (rd0 sT).size)) (.slice d5 (cZ (RdC sT) (rdZ sT)).length e5)) := Lib.hid (Tg_13.out.keep B14.out)
    obtain ⟨Tg_14_l, Tg_14_a, Tg_14_b, Tg_14_c, Tg_14_d⟩ := Tg_14.out
    clear Tg_13 Tg_13_l Tg_13_a Tg_13_b Tg_13_c Tg_13_d
    have Op_14 : Hid (RowT w14 w1.heap.size w2.heap.size b2 sT.length c2 sT) := Lib.hid (Op_13.out.keep B14.out)
    clear Op_13
    have Om_14 : Hid (RowC w14 w2.heap.size w3.heap.size b3 c3 (cZ (RdC sT) (rdX sT)) d3 e3 (cZ (RdC sT) (rdZ sT))) := Lib.hid (Om_13.out.keep B14.out)
    clear Om_13
    have Ox_14 : Hid (RowT w14 (w3.heap.size + 1) w4.heap.size b4 sT.length c4 (marksT (1) sT.length)) := Lib.hid (Ox_13.out.keep B14.out)
    clear Ox_13
    have Og_14 : Hid (RowC w14 w4.heap.size w5.heap.size b5 c5 (marks (1) (cZ (RdC sT) (rdX sT)).length) d5 e5 (marks (1 + (cZ (RdC sT) (rdX sT)).length) (cZ (RdC sT) (rdZ sT)).length)) := Lib.hid (Og_13.out.keep B14.out)
    clear Og_13
    have Oy_14 : Hid (RowT w14 w12.heap.size w13.heap.size b13 sT.length c13 sT) := Lib.hid (Oy_13.out.keep B14.out)
    clear Oy_13
    have A14 : Hid (Below w.heap.size w w14) := Lib.hid (A13.out.trans (B14.out.mono A13.out.size))
    clear A13
    clear hown14 hb14
    go_wp2_with fail
    refine (eq_canon _ b14 b3 c14 c3 _ _ _ d14 d3 e14 e3 _ _ _ ((Oh_14.out.keep (bel1 _ (.cells #[.int .i64 (cS (RdC sT) (rd0 sT).size), .slice b14 (cZ (RdC sT) (rdX sT)).length c14, .int .i64 (cS (RdC sT) (rd0 sT).size), .slice d14 (cZ (RdC sT) (rdZ sT)).length e14] 29))).at0 HZ.out) ((Om_14.out.keep (bel1 _ (.cells #[.int .i64 (cS (RdC sT) (rd0 sT).size), .slice b14 (cZ (RdC sT) (rdX sT)).length c14, .int .i64 (cS (RdC sT) (rd0 sT).size), .slice d14 (cZ (RdC sT) (rdZ sT)).length e14] 29))).at0 HZ.out) (by omega) ((Oh_14.out.keep (bel1 _ (.cells #[.int .i64 (cS (RdC sT) (rd0 sT).size), .slice b14 (cZ (RdC sT) (rdX sT)).length c14, .int .i64 (cS (RdC sT) (rd0 sT).size), .slice d14 (cZ (RdC sT) (rdZ sT)).length e14] 29))).at1 HY.out) ((Om_14.out.keep (bel1 _ (.cells #[.int .i64 (cS (RdC sT) (rd0 sT).size), .slice b14 (cZ (RdC sT) (rdX sT)).length c14, .int .i64 (cS (RdC sT) (rd0 sT).size), .slice d14 (cZ (RdC sT) (rdZ sT)).length e14] 29))).at1 HY.out) (by omega)).mono ?_
    rintro e w15 ⟨rfl, hb15⟩
    have p15 := Lib.hid (bel1 w14 (.cells #[.int .i64 (cS (RdC sT) (rd0 sT).size), .slice b14 (cZ (RdC sT) (rdX sT)).length c14, .int .i64 (cS (RdC sT) (rd0 sT).size), .slice d14 (cZ (RdC sT) (rdZ sT)).length e14] 29))
    have B15 : Hid (Below w14.heap.size w14 w15) := Lib.hid (p15.out.trans (hb15.mono p15.out.size))
    have B15_size := B15.out.size
    have pz15 : w14.heap.size + 1 ≤ w15.heap.size := by have := hb15.size; simp at this; omega
    have Tm_15 : Hid (Four w15 w3.heap.size (.int .i64 (cS (RdC sT) (rd0 sT).size)) (.slice b3 (cZ (RdC sT) (rdX sT)).length c3) (.int .i64 (cS (RdC sT) (rd0 sT).size)) (.slice d3 (cZ (RdC sT) (rdZ sT)).length e3)) := Lib.hid (Tm_14.out.keep B15.out)
    obtain ⟨Tm_15_l, Tm_15_a, Tm_15_b, Tm_15_c, Tm_15_d⟩ := Tm_15.out
    clear Tm_14 Tm_14_l Tm_14_a Tm_14_b Tm_14_c Tm_14_d
    have Tg_15 : Hid (Four w15 w5.heap.size (.int .i64 (cS (RdC sT) (rd0 sT).size)) (.slice b5 (cZ (RdC sT) (rdX sT)).length c5) (.int .i64 (cS (RdC sT) (rd0 sT).size)) (.slice d5 (cZ (RdC sT) (rdZ sT)).length e5)) := Lib.hid (Tg_14.out.keep B15.out)
    obtain ⟨Tg_15_l, Tg_15_a, Tg_15_b, Tg_15_c, Tg_15_d⟩ := Tg_15.out
    clear Tg_14 Tg_14_l Tg_14_a Tg_14_b Tg_14_c Tg_14_d
    have Th_15 : Hid (Four w15 w14.heap.size (.int .i64 (cS (RdC sT) (rd0 sT).size)) (.slice b14 (cZ (RdC sT) (rdX sT)).length c14) (.int .i64 (cS (RdC sT) (rd0 sT).size)) (.slice d14 (cZ (RdC sT) (rdZ sT)).length e14)) := Lib.hid ((four_new w14 (.int .i64 (cS (RdC sT) (rd0 sT).size)) (.slice b14 (cZ (RdC sT) (rdX sT)).length c14) (.int .i64 (cS (RdC sT) (rd0 sT).size)) (.slice d14 (cZ (RdC sT) (rdZ sT)).length e14) 29).keep hb15)
    obtain ⟨Th_15_l, Th_15_a, Th_15_b, Th_15_c, Th_15_d⟩ := Th_15.out
    have Op_15 : Hid (RowT w15 w1.heap.size w2.heap.size b2 sT.length c2 sT) := Lib.hid (Op_14.out.keep B15.out)
    clear Op_14
    have Om_15 : Hid (RowC w15 w2.heap.size w3.heap.size b3 c3 (cZ (RdC sT) (rdX sT)) d3 e3 (cZ (RdC sT) (rdZ sT))) := Lib.hid (Om_14.out.keep B15.out)
    clear Om_14
    have Ox_15 : Hid (RowT w15 (w3.heap.size + 1) w4.heap.size b4 sT.length c4 (marksT (1) sT.length)) := Lib.hid (Ox_14.out.keep B15.out)
    clear Ox_14
    have Og_15 : Hid (RowC w15 w4.heap.size w5.heap.size b5 c5 (marks (1) (cZ (RdC sT) (rdX sT)).length) d5 e5 (marks (1 + (cZ (RdC sT) (rdX sT)).length) (cZ (RdC sT) (rdZ sT)).length)) := Lib.hid (Og_14.out.keep B15.out)
    clear Og_14
    have Oy_15 : Hid (RowT w15 w12.heap.size w13.heap.size b13 sT.length c13 sT) := Lib.hid (Oy_14.out.keep B15.out)
    clear Oy_14
    have Oh_15 : Hid (RowC w15 w13.heap.size w14.heap.size b14 c14 (cZ (RdC sT) (rdX sT)) d14 e14 (cZ (RdC sT) (rdZ sT))) := Lib.hid (Oh_14.out.keep B15.out)
    clear Oh_14
    have A15 : Hid (Below w.heap.size w w15) := Lib.hid (A14.out.trans (B15.out.mono A14.out.size))
    clear A14
    clear hb15
    go_wp2_with fail
    refine (held_canon (1) _ b5 (cZ (RdC sT) (rdX sT)).length c5 _ d5 (cZ (RdC sT) (rdZ sT)).length e5 _ (by simpa [marks_len] using (Og_15.out.at0 (marks_int _ _ (by omega)))) (by simpa [marks_len] using (Og_15.out.at1 (marks_int _ _ (by omega)))) (by omega) (by omega) (by omega)).mono ?_
    rintro e w16 ⟨rfl, hb16⟩
    have B16 : Hid (Below w15.heap.size w15 w16) := Lib.hid (hb16)
    have B16_size := B16.out.size
    have Tm_16 : Hid (Four w16 w3.heap.size (.int .i64 (cS (RdC sT) (rd0 sT).size)) (.slice b3 (cZ (RdC sT) (rdX sT)).length c3) (.int .i64 (cS (RdC sT) (rd0 sT).size)) (.slice d3 (cZ (RdC sT) (rdZ sT)).length e3)) := Lib.hid (Tm_15.out.keep B16.out)
    obtain ⟨Tm_16_l, Tm_16_a, Tm_16_b, Tm_16_c, Tm_16_d⟩ := Tm_16.out
    clear Tm_15 Tm_15_l Tm_15_a Tm_15_b Tm_15_c Tm_15_d
    have Tg_16 : Hid (Four w16 w5.heap.size (.int .i64 (cS (RdC sT) (rd0 sT).size)) (.slice b5 (cZ (RdC sT) (rdX sT)).length c5) (.int .i64 (cS (RdC sT) (rd0 sT).size)) (.slice d5 (cZ (RdC sT) (rdZ sT)).length e5)) := Lib.hid (Tg_15.out.keep B16.out)
    obtain ⟨Tg_16_l, Tg_16_a, Tg_16_b, Tg_16_c, Tg_16_d⟩ := Tg_16.out
    clear Tg_15 Tg_15_l Tg_15_a Tg_15_b Tg_15_c Tg_15_d
    have Th_16 : Hid (Four w16 w14.heap.size (.int .i64 (cS (RdC sT) (rd0 sT).size)) (.slice b14 (cZ (RdC sT) (rdX sT)).length c14) (.int .i64 (cS (RdC sT) (rd0 sT).size)) (.slice d14 (cZ (RdC sT) (rdZ sT)).length e14)) := Lib.hid (Th_15.out.keep B16.out)
    obtain ⟨Th_16_l, Th_16_a, Th_16_b, Th_16_c, Th_16_d⟩ := Th_16.out
    clear Th_15 Th_15_l Th_15_a Th_15_b Th_15_c Th_15_d
    have Op_16 : Hid (RowT w16 w1.heap.size w2.heap.size b2 sT.length c2 sT) := Lib.hid (Op_15.out.keep B16.out)
    clear Op_15
    have Om_16 : Hid (RowC w16 w2.heap.size w3.heap.size b3 c3 (cZ (RdC sT) (rdX sT)) d3 e3 (cZ (RdC sT) (rdZ sT))) := Lib.hid (Om_15.out.keep B16.out)
    clear Om_15
    have Ox_16 : Hid (RowT w16 (w3.heap.size + 1) w4.heap.size b4 sT.length c4 (marksT (1) sT.length)) := Lib.hid (Ox_15.out.keep B16.out)
    clear Ox_15
    have Og_16 : Hid (RowC w16 w4.heap.size w5.heap.size b5 c5 (marks (1) (cZ (RdC sT) (rdX sT)).length) d5 e5 (marks (1 + (cZ (RdC sT) (rdX sT)).length) (cZ (RdC sT) (rdZ sT)).length)) := Lib.hid (Og_15.out.keep B16.out)
    clear Og_15
    have Oy_16 : Hid (RowT w16 w12.heap.size w13.heap.size b13 sT.length c13 sT) := Lib.hid (Oy_15.out.keep B16.out)
    clear Oy_15
    have Oh_16 : Hid (RowC w16 w13.heap.size w14.heap.size b14 c14 (cZ (RdC sT) (rdX sT)) d14 e14 (cZ (RdC sT) (rdZ sT))) := Lib.hid (Oh_15.out.keep B16.out)
    clear Oh_15
    have A16 : Hid (Below w.heap.size w w16) := Lib.hid (A15.out.trans (B16.out.mono A15.out.size))
    clear A15
    clear hb16
    go_wp2
    go_ret
    exact ⟨rfl, A16.out⟩

set_option maxRecDepth 100000 in
theorem lifted (os : Os) (started : os.Started) (H : Type) (enc : TypeId × Value → H) :
    ReturnsInHanded {} Try.checked os 10 .any (Rows.fnExactReadCanonSpec.pre6 enc Try.prog Try.f10 Rows.fnExactReadCanonRow.domain false) (Rows.fnExactReadCanonSpec.post enc Try.prog Try.f10 false true false false) := by
  refine returnsInHanded_of_change (C := Try.checked) own started (by kernel_rfl) Try.func10
    (ChangeSpec.witness6 (enc := enc) (C := Try.checked) false ⟨#[], #[.slice none 0 0], []⟩ 8 (by kernel_rfl) (by kernel_rfl) (by kernel_rfl) (by kernel_rfl)) ?_
  intro W base args ds gs before hval0 hW hcnd _
  have hval : ∀ (j : Nat) t v, Try.f10.params[j]? = some t → args[j]? = some v → Value.okWide Try.prog W .any base t v := hval0
  have hW' := hW
  obtain ⟨p, q, hA0, hV, rfl, hfz, hnd⟩ := hW
  have hA : DataW.TrodAll enc Try.prog W 0 (fun _ => true) true Try.f10.params.toList args.toList ds p := hA0
  rw [Try.params10] at hA hval
  obtain ⟨v0, vs0, d0, ds0, p0, q0, hargs, rfl, rfl, h0, r0⟩ := trodAll_cons hA
  obtain ⟨rfl, rfl, rfl⟩ := trodAll_nil r0
  obtain rfl : args = #[v0] := by cases args; simp_all
  obtain ⟨rfl, rfl⟩ := trodVars_none hV
  have k0 := h0
  have lt0 : ∀ x ∈ p0, x.block < W.heap.size := by obtain ⟨m, hm⟩ := k0; exact DataW.trod_lt m _ _ _ hm
  obtain ⟨a0, len0, cap0, z0, rfl, w0⟩ := openedT (hval 0 42 v0 rfl rfl) h0
  clear hA0 hval0
  refine (walk a0 len0 cap0 z0 W w0).mono fun e W' ⟨he, bel⟩ => ?_
  subst he
  exact ⟨_, rfl, _, _, _, [], _, [], hW', trodAll_mk1 (shut_bool Try.underlying4 _), (trodAll_cons_mk (Below.trod laidOut (by kernel_rfl) (of_decide_eq_true (by kernel_rfl)) k0 bel lt0) trodAll_mk0), rfl, bel.frame _, fun h => by cases h⟩

theorem proved : Rows.FnExactReadCanonSaid :=
  OpenClaim.holds_of_wide 10 Try.f10 rfl rfl rfl rfl rfl rfl rfl ⟨rfl, rfl, rfl, rfl, rfl⟩ rfl rfl rfl rfl rfl (by kernel_rfl) Try.func10 (by kernel_rfl)
    (of_decide_eq_true (by kernel_rfl)) (by unfold Func.isWrapper; rw [if_neg (of_decide_eq_false (by kernel_rfl))]; exact ⟨rfl, rfl⟩)
    (fun os started H enc _ => lifted os started H enc)
#print axioms proved
end Go.Proofs.Ythnlakdfbalgdaa.fnExactReadCanon
