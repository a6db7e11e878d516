/-
  For every canon, FormatCanon of the program answers as the model does, changes nothing of its argument, and its answer is its own.
-/
import Derived.Test.YthnlakdfbalgdaaCnj
import Derived.Deep.RegionHeld3
import Derived.ProofKit
namespace Go.Proofs.Ythnlakdfbalgdaa.fnExactFormatCanon
open Go.ChangeShapes Go.WideShapes Go.ChangeAt Go.RowKit Rhy
set_option linter.unusedVariables false


set_option maxHeartbeats 1000000 in
set_option maxRecDepth 100000 in
theorem walk (sP : Int) (aP : Option Addr) (lenP capP : Nat) (zP : List Int) (sQ : Int) (aQ : Option Addr) (lenQ capQ : Nat) (zQ : List Int)  (w : World) (w0 : OpenedC w sP aP lenP zP sQ aQ lenQ zQ)  :
    Calls Try.prog 7 #[can sP aP lenP capP sQ aQ lenQ capQ] w fun e w' => e = .returned (.bool true) ∧ Below w.heap.size w w' := by
  obtain ⟨⟨iP, mP, slP, suP⟩, ⟨iQ, mQ, slQ, suQ⟩⟩ := w0
  have HP := Lib.hid iP
  have HQ := Lib.hid iQ
  clear iP iQ
  go_enter Try.func7, Try.ntmps7
  go_wp2_with fail
  refine (size_canon sP aP lenP capP sQ aQ lenQ capQ _ _ mP mQ (by omega) (by omega)).mono ?_
  rintro e w1 ⟨⟨r, rfl, hr | ⟨hr, hlen, he⟩, h1, h2⟩, hb1⟩
  · have HB1 := Lib.hid hb1
    clear hb1
    go_wp2
    go_ret
    exact ⟨rfl, (bel1 w _).trans (HB1.out.mono (bel1 w (.cells #[.int .i64 (sP), .slice aP lenP capP, .int .i64 (sQ), .slice aQ lenQ capQ] 51)).size)⟩
  · have hr0 : ¬ r < 0 := by omega
    have leP : lenP ≤ 1048576 := by omega
    have leQ : lenQ ≤ 1048576 := by omega
    have lzP : zP.length ≤ 1048576 := by have := HP.out.1; omega
    have lzQ : zQ.length ≤ 1048576 := by have := HQ.out.1; omega
    clear he hr h1 h2
    have p1 := Lib.hid (bel1 w (.cells #[.int .i64 (sP), .slice aP lenP capP, .int .i64 (sQ), .slice aQ lenQ capQ] 51))
    have B1 : Hid (Below w.heap.size w w1) := Lib.hid (p1.out.trans (hb1.mono p1.out.size))
    have B1_size := B1.out.size
    have pz1 : w.heap.size + 1 ≤ w1.heap.size := by have := hb1.size; simp at this; omega
    have Ta_1 : Hid (Four w1 w.heap.size (.int .i64 (sP)) (.slice aP lenP capP) (.int .i64 (sQ)) (.slice aQ lenQ capQ)) := Lib.hid ((four_new w (.int .i64 (sP)) (.slice aP lenP capP) (.int .i64 (sQ)) (.slice aQ lenQ capQ) 51).keep hb1)
    obtain ⟨Ta_1_l, Ta_1_a, Ta_1_b, Ta_1_c, Ta_1_d⟩ := Ta_1.out
    have A1 : Hid (Below w.heap.size w w1) := Lib.hid (B1.out)
    clear hb1
    have hzl : (fcaZ sP zP sQ zQ).length ≤ 1048576 := Nat.le_trans (fcaZ_len _ _ _ _) (by omega)
    go_wp2_with fail
    refine (to_canon sP aP lenP capP zP sQ aQ lenQ capQ zQ _ (HP.out.below A1.out) leP (HQ.out.below A1.out) leQ).mono ?_
    rintro e w2 ⟨b2, c2, d2, e2, rfl, hown2, hb2⟩
    have Op_2 : Hid (RowC w2 w1.heap.size w2.heap.size b2 c2 zP d2 e2 zQ) := Lib.hid (RowC.lo hown2 (Nat.le_refl _))
    have B2 : Hid (Below w1.heap.size w1 w2) := Lib.hid (hb2)
    have B2_size := B2.out.size
    have Ta_2 : Hid (Four w2 w.heap.size (.int .i64 (sP)) (.slice aP lenP capP) (.int .i64 (sQ)) (.slice aQ lenQ capQ)) := Lib.hid (Ta_1.out.keep B2.out)
    obtain ⟨Ta_2_l, Ta_2_a, Ta_2_b, Ta_2_c, Ta_2_d⟩ := Ta_2.out
    clear Ta_1 Ta_1_l Ta_1_a Ta_1_b Ta_1_c Ta_1_d
    have A2 : Hid (Below w.heap.size w w2) := Lib.hid (A1.out.trans (B2.out.mono A1.out.size))
    clear A1
    clear hown2 hb2
    go_wp2_with fail
    refine (fca_spec sP b2 zP.length c2 zP sQ d2 zQ.length e2 zQ  _ (Op_2.out.at0 HP.out.int) lzP (Op_2.out.at1 HQ.out.int) lzQ ).mono ?_
    rintro e w3 ⟨b3, c3, rfl, hown3, hb3⟩
    have Om_3 : Hid (RowT w3 w2.heap.size w3.heap.size b3 (fcaZ sP zP sQ zQ).length c3 (fcaZ sP zP sQ zQ)) := Lib.hid (rowT_of (own_base hown3 (Nat.le_refl _)))
    have B3 : Hid (Below w2.heap.size w2 w3) := Lib.hid (hb3)
    have B3_size := B3.out.size
    have Ta_3 : Hid (Four w3 w.heap.size (.int .i64 (sP)) (.slice aP lenP capP) (.int .i64 (sQ)) (.slice aQ lenQ capQ)) := Lib.hid (Ta_2.out.keep B3.out)
    obtain ⟨Ta_3_l, Ta_3_a, Ta_3_b, Ta_3_c, Ta_3_d⟩ := Ta_3.out
    clear Ta_2 Ta_2_l Ta_2_a Ta_2_b Ta_2_c Ta_2_d
    have Op_3 : Hid (RowC w3 w1.heap.size w2.heap.size b2 c2 zP d2 e2 zQ) := Lib.hid (Op_2.out.keep B3.out)
    clear Op_2
    have A3 : Hid (Below w.heap.size w w3) := Lib.hid (A2.out.trans (B3.out.mono A2.out.size))
    clear A2
    clear hown3 hb3
    go_wp2_with fail
    refine (to_canon sP aP lenP capP zP sQ aQ lenQ capQ zQ _ (HP.out.below A3.out) leP (HQ.out.below A3.out) leQ).mono ?_
    rintro e w4 ⟨b4, c4, d4, e4, rfl, hown4, hb4⟩
    have Ox_4 : Hid (RowC w4 w3.heap.size w4.heap.size b4 c4 zP d4 e4 zQ) := Lib.hid (RowC.lo hown4 (Nat.le_refl _))
    have B4 : Hid (Below w3.heap.size w3 w4) := Lib.hid (hb4)
    have B4_size := B4.out.size
    have Ta_4 : Hid (Four w4 w.heap.size (.int .i64 (sP)) (.slice aP lenP capP) (.int .i64 (sQ)) (.slice aQ lenQ capQ)) := Lib.hid (Ta_3.out.keep B4.out)
    obtain ⟨Ta_4_l, Ta_4_a, Ta_4_b, Ta_4_c, Ta_4_d⟩ := Ta_4.out
    clear Ta_3 Ta_3_l Ta_3_a Ta_3_b Ta_3_c Ta_3_d
    have Op_4 : Hid (RowC w4 w1.heap.size w2.heap.size b2 c2 zP d2 e2 zQ) := Lib.hid (Op_3.out.keep B4.out)
    clear Op_3
    have Om_4 : Hid (RowT w4 w2.heap.size w3.heap.size b3 (fcaZ sP zP sQ zQ).length c3 (fcaZ sP zP sQ zQ)) := Lib.hid (Om_3.out.keep B4.out)
    clear Om_3
    have A4 : Hid (Below w.heap.size w w4) := Lib.hid (A3.out.trans (B4.out.mono A3.out.size))
    clear A3
    clear hown4 hb4
    go_wp2_with fail
    refine (fca_impl sP b4 zP.length c4 zP sQ d4 zQ.length e4 zQ  _ ((Ox_4.out.keep (bel1 _ (.cells #[.int .i64 (sP), .slice b4 zP.length c4, .int .i64 (sQ), .slice d4 zQ.length e4] 29))).at0 HP.out.int) lzP ((Ox_4.out.keep (bel1 _ (.cells #[.int .i64 (sP), .slice b4 zP.length c4, .int .i64 (sQ), .slice d4 zQ.length e4] 29))).at1 HQ.out.int) lzQ ).mono ?_
    rintro e w5 ⟨b5, c5, rfl, hown5, hb5⟩
    have Og_5 : Hid (RowT w5 (w4.heap.size + 1) w5.heap.size b5 (fcaZ sP zP sQ zQ).length c5 (fcaZ sP zP sQ zQ)) := Lib.hid (rowT_of (own_base hown5 (by simp)))
    have p5 := Lib.hid (bel1 w4 (.cells #[.int .i64 (sP), .slice b4 zP.length c4, .int .i64 (sQ), .slice d4 zQ.length e4] 29))
    have B5 : Hid (Below w4.heap.size w4 w5) := Lib.hid (p5.out.trans (hb5.mono p5.out.size))
    have B5_size := B5.out.size
    have pz5 : w4.heap.size + 1 ≤ w5.heap.size := by have := hb5.size; simp at this; omega
    have Ta_5 : Hid (Four w5 w.heap.size (.int .i64 (sP)) (.slice aP lenP capP) (.int .i64 (sQ)) (.slice aQ lenQ capQ)) := Lib.hid (Ta_4.out.keep B5.out)
    obtain ⟨Ta_5_l, Ta_5_a, Ta_5_b, Ta_5_c, Ta_5_d⟩ := Ta_5.out
    clear Ta_4 Ta_4_l Ta_4_a Ta_4_b Ta_4_c Ta_4_d
    have Tx_5 : Hid (Four w5 w4.heap.size (.int .i64 (sP)) (.slice b4 zP.length c4) (.int .i64 (sQ)) (.slice d4 zQ.length e4)) := Lib.hid ((four_new w4 (.int .i64 (sP)) (.slice b4 zP.length c4) (.int .i64 (sQ)) (.slice d4 zQ.length e4) 29).keep hb5)
    obtain ⟨Tx_5_l, Tx_5_a, Tx_5_b, Tx_5_c, Tx_5_d⟩ := Tx_5.out
    have Op_5 : Hid (RowC w5 w1.heap.size w2.heap.size b2 c2 zP d2 e2 zQ) := Lib.hid (Op_4.out.keep B5.out)
    clear Op_4
    have Om_5 : Hid (RowT w5 w2.heap.size w3.heap.size b3 (fcaZ sP zP sQ zQ).length c3 (fcaZ sP zP sQ zQ)) := Lib.hid (Om_4.out.keep B5.out)
    clear Om_4
    have Ox_5 : Hid (RowC w5 w3.heap.size w4.heap.size b4 c4 zP d4 e4 zQ) := Lib.hid (Ox_4.out.keep B5.out)
    clear Ox_4
    have A5 : Hid (Below w.heap.size w w5) := Lib.hid (A4.out.trans (B5.out.mono A4.out.size))
    clear A4
    clear hown5 hb5
    go_wp2_with fail
    refine (eq_txts b5 b3 c5 c3 (fcaZ sP zP sQ zQ).length (fcaZ sP zP sQ zQ) _ (txtsAt_own (Og_5.out).1) (txtsAt_own (Om_5.out).1) (by omega)).mono ?_
    rintro e w6 ⟨rfl, hb6⟩
    have B6 : Hid (Below w5.heap.size w5 w6) := Lib.hid (hb6)
    have B6_size := B6.out.size
    have Ta_6 : Hid (Four w6 w.heap.size (.int .i64 (sP)) (.slice aP lenP capP) (.int .i64 (sQ)) (.slice aQ lenQ capQ)) := Lib.hid (Ta_5.out.keep B6.out)
    obtain ⟨Ta_6_l, Ta_6_a, Ta_6_b, Ta_6_c, Ta_6_d⟩ := Ta_6.out
    clear Ta_5 Ta_5_l Ta_5_a Ta_5_b Ta_5_c Ta_5_d
    have Tx_6 : Hid (Four w6 w4.heap.size (.int .i64 (sP)) (.slice b4 zP.length c4) (.int .i64 (sQ)) (.slice d4 zQ.length e4)) := Lib.hid (Tx_5.out.keep B6.out)
    obtain ⟨Tx_6_l, Tx_6_a, Tx_6_b, Tx_6_c, Tx_6_d⟩ := Tx_6.out
    clear Tx_5 Tx_5_l Tx_5_a Tx_5_b Tx_5_c Tx_5_d
    have Op_6 : Hid (RowC w6 w1.heap.size w2.heap.size b2 c2 zP d2 e2 zQ) := Lib.hid (Op_5.out.keep B6.out)
    clear Op_5
    have Om_6 : Hid (RowT w6 w2.heap.size w3.heap.size b3 (fcaZ sP zP sQ zQ).length c3 (fcaZ sP zP sQ zQ)) := Lib.hid (Om_5.out.keep B6.out)
    clear Om_5
    have Ox_6 : Hid (RowC w6 w3.heap.size w4.heap.size b4 c4 zP d4 e4 zQ) := Lib.hid (Ox_5.out.keep B6.out)
    clear Ox_5
    have Og_6 : Hid (RowT w6 (w4.heap.size + 1) w5.heap.size b5 (fcaZ sP zP sQ zQ).length c5 (fcaZ sP zP sQ zQ)) := Lib.hid (Og_5.out.keep B6.out)
    clear Og_5
    have A6 : Hid (Below w.heap.size w w6) := Lib.hid (A5.out.trans (B6.out.mono A5.out.size))
    clear A5
    clear hb6
    go_wp2
    have HTP : Hid (∀ W, Below w6.heap.size w6 W → IntsAt W aP lenP zP) := Lib.hid (fun W hW => HP.out.below (A6.out.trans (hW.mono A6.out.size)))
    have HTQ : Hid (∀ W, Below w6.heap.size w6 W → IntsAt W aQ lenQ zQ) := Lib.hid (fun W hW => HQ.out.below (A6.out.trans (hW.mono A6.out.size)))
    have HK : Hid (∀ W, Below w6.heap.size w6 W → W.cell? ⟨w.heap.size, 0, none⟩ = some (.int .i64 (sP)) ∧ W.cell? ⟨w.heap.size, 1, none⟩ = some (.slice aP lenP capP) ∧ W.cell? ⟨w.heap.size, 2, none⟩ = some (.int .i64 (sQ)) ∧ W.cell? ⟨w.heap.size, 3, none⟩ = some (.slice aQ lenQ capQ) ∧ W.cell? ⟨w4.heap.size, 0, none⟩ = some (.int .i64 (sP)) ∧ W.cell? ⟨w4.heap.size, 1, none⟩ = some (.slice b4 zP.length c4) ∧ W.cell? ⟨w4.heap.size, 2, none⟩ = some (.int .i64 (sQ)) ∧ W.cell? ⟨w4.heap.size, 3, none⟩ = some (.slice d4 zQ.length e4) ∧ Below w6.heap.size w6 W) := Lib.hid (fun W hW => ⟨(Ta_6.out.keep hW).2.1, (Ta_6.out.keep hW).2.2.1, (Ta_6.out.keep hW).2.2.2.1, (Ta_6.out.keep hW).2.2.2.2, (Tx_6.out.keep hW).2.1, (Tx_6.out.keep hW).2.2.1, (Tx_6.out.keep hW).2.2.2.1, (Tx_6.out.keep hW).2.2.2.2, hW⟩)
    have HX : Hid (∀ W, Below w6.heap.size w6 W → RowC W w3.heap.size w4.heap.size b4 c4 zP d4 e4 zQ) := Lib.hid (fun W hW => Ox_6.out.keep hW)
    go_region_held3 (fun w' => w'.cell? ⟨w.heap.size, 0, none⟩ = some (.int .i64 (sP)) ∧ w'.cell? ⟨w.heap.size, 1, none⟩ = some (.slice aP lenP capP) ∧ w'.cell? ⟨w.heap.size, 2, none⟩ = some (.int .i64 (sQ)) ∧ w'.cell? ⟨w.heap.size, 3, none⟩ = some (.slice aQ lenQ capQ) ∧ w'.cell? ⟨w4.heap.size, 0, none⟩ = some (.int .i64 (sP)) ∧ w'.cell? ⟨w4.heap.size, 1, none⟩ = some (.slice b4 zP.length c4) ∧ w'.cell? ⟨w4.heap.size, 2, none⟩ = some (.int .i64 (sQ)) ∧ w'.cell? ⟨w4.heap.size, 3, none⟩ = some (.slice d4 zQ.length e4) ∧ Below w6.heap.size w6 w')
      (first | exact HK.out _ (Below.refl _ _).drew | exact HK.out _ hb7 | exact HK.out _ hb8)
      ((first
        | (go_at_call 34; refine (to_canon sP aP lenP capP zP sQ aQ lenQ capQ zQ _ (HTP.out _ (Below.refl _ _).drew) leP (HTQ.out _ (Below.refl _ _).drew) leQ).mono ?_; rintro e w7 ⟨b7, c7, d7, e7, rfl, hown7, hc7⟩; have HO7 := Lib.hid hown7; have hb7 := (Below.refl w6.heap.size w6).drew.trans hc7; clear hown7 hc7)
        | (go_at_call 35; refine (eq_canon sP b4 b7 c4 c7 zP.length zP sQ d4 d7 e4 e7 zQ.length zQ _ ((HX.out _ hb7).at0 HP.out.int) (HO7.out.at0 HP.out.int) (by omega) ((HX.out _ hb7).at1 HQ.out.int) (HO7.out.at1 HQ.out.int) (by omega)).mono ?_; rintro e w8 ⟨rfl, hc8⟩; have hb8 := hb7.trans (hc8.mono hb7.size); clear hc8)))
    clear HTP HTQ HK HX hb7 HO7
    rename_i hHeld
    clear hHeld
    have B8 : Hid (Below w6.heap.size w6 w8) := Lib.hid (hb8)
    have B8_size := B8.out.size
    have Ta_8 : Hid (Four w8 w.heap.size (.int .i64 (sP)) (.slice aP lenP capP) (.int .i64 (sQ)) (.slice aQ lenQ capQ)) := Lib.hid (Ta_6.out.keep B8.out)
    obtain ⟨Ta_8_l, Ta_8_a, Ta_8_b, Ta_8_c, Ta_8_d⟩ := Ta_8.out
    clear Ta_6 Ta_6_l Ta_6_a Ta_6_b Ta_6_c Ta_6_d
    have Tx_8 : Hid (Four w8 w4.heap.size (.int .i64 (sP)) (.slice b4 zP.length c4) (.int .i64 (sQ)) (.slice d4 zQ.length e4)) := Lib.hid (Tx_6.out.keep B8.out)
    obtain ⟨Tx_8_l, Tx_8_a, Tx_8_b, Tx_8_c, Tx_8_d⟩ := Tx_8.out
    clear Tx_6 Tx_6_l Tx_6_a Tx_6_b Tx_6_c Tx_6_d
    have Op_8 : Hid (RowC w8 w1.heap.size w2.heap.size b2 c2 zP d2 e2 zQ) := Lib.hid (Op_6.out.keep B8.out)
    clear Op_6
    have Om_8 : Hid (RowT w8 w2.heap.size w3.heap.size b3 (fcaZ sP zP sQ zQ).length c3 (fcaZ sP zP sQ zQ)) := Lib.hid (Om_6.out.keep B8.out)
    clear Om_6
    have Ox_8 : Hid (RowC w8 w3.heap.size w4.heap.size b4 c4 zP d4 e4 zQ) := Lib.hid (Ox_6.out.keep B8.out)
    clear Ox_6
    have Og_8 : Hid (RowT w8 (w4.heap.size + 1) w5.heap.size b5 (fcaZ sP zP sQ zQ).length c5 (fcaZ sP zP sQ zQ)) := Lib.hid (Og_6.out.keep B8.out)
    clear Og_6
    have A8 : Hid (Below w.heap.size w w8) := Lib.hid (A6.out.trans (B8.out.mono A6.out.size))
    clear A6
    clear hb8
    go_wp2_with fail
    refine (mark_canon w3.heap.size w4.heap.size (1) _ b4 c4 zP _ d4 e4 zQ _ Ox_8.out (by omega) (by omega) (by omega) (by omega)).mono ?_
    rintro e w9 ⟨rfl, hown9, hb9⟩
    have B9 : Hid (Within w3.heap.size w4.heap.size w8 w9) := Lib.hid (hb9)
    have B9_size := B9.out.size
    have Ta_9 : Hid (Four w9 w.heap.size (.int .i64 (sP)) (.slice aP lenP capP) (.int .i64 (sQ)) (.slice aQ lenQ capQ)) := Lib.hid (Ta_8.out.within B9.out (by omega))
    obtain ⟨Ta_9_l, Ta_9_a, Ta_9_b, Ta_9_c, Ta_9_d⟩ := Ta_9.out
    clear Ta_8 Ta_8_l Ta_8_a Ta_8_b Ta_8_c Ta_8_d
    have Tx_9 : Hid (Four w9 w4.heap.size (.int .i64 (sP)) (.slice b4 zP.length c4) (.int .i64 (sQ)) (.slice d4 zQ.length e4)) := Lib.hid (Tx_8.out.within B9.out (by omega))
    obtain ⟨Tx_9_l, Tx_9_a, Tx_9_b, Tx_9_c, Tx_9_d⟩ := Tx_9.out
    clear Tx_8 Tx_8_l Tx_8_a Tx_8_b Tx_8_c Tx_8_d
    have Op_9 : Hid (RowC w9 w1.heap.size w2.heap.size b2 c2 zP d2 e2 zQ) := Lib.hid (Op_8.out.within B9.out (by omega))
    clear Op_8
    have Om_9 : Hid (RowT w9 w2.heap.size w3.heap.size b3 (fcaZ sP zP sQ zQ).length c3 (fcaZ sP zP sQ zQ)) := Lib.hid (Om_8.out.within B9.out (by omega))
    clear Om_8
    have Og_9 : Hid (RowT w9 (w4.heap.size + 1) w5.heap.size b5 (fcaZ sP zP sQ zQ).length c5 (fcaZ sP zP sQ zQ)) := Lib.hid (Og_8.out.within B9.out (by omega))
    clear Og_8
    have A9 : Hid (Below w.heap.size w w9) := Lib.hid (Rhy.Below.within A8.out B9.out (by omega) A8.out.size)
    clear A8
    have Ox_9 : Hid (RowC w9 w3.heap.size w4.heap.size b4 c4 (marks (1) zP.length) d4 e4 (marks (1 + zP.length) zQ.length)) := Lib.hid hown9
    clear hown9 hb9 Ox_8
    go_wp2_with fail
    refine (eq_txts b5 b3 c5 c3 (fcaZ sP zP sQ zQ).length (fcaZ sP zP sQ zQ) _ (txtsAt_own (Og_9.out).1) (txtsAt_own (Om_9.out).1) (by omega)).mono ?_
    rintro e w10 ⟨rfl, hb10⟩
    have B10 : Hid (Below w9.heap.size w9 w10) := Lib.hid (hb10)
    have B10_size := B10.out.size
    have Ta_10 : Hid (Four w10 w.heap.size (.int .i64 (sP)) (.slice aP lenP capP) (.int .i64 (sQ)) (.slice aQ lenQ capQ)) := Lib.hid (Ta_9.out.keep B10.out)
    obtain ⟨Ta_10_l, Ta_10_a, Ta_10_b, Ta_10_c, Ta_10_d⟩ := Ta_10.out
    clear Ta_9 Ta_9_l Ta_9_a Ta_9_b Ta_9_c Ta_9_d
    have Tx_10 : Hid (Four w10 w4.heap.size (.int .i64 (sP)) (.slice b4 zP.length c4) (.int .i64 (sQ)) (.slice d4 zQ.length e4)) := Lib.hid (Tx_9.out.keep B10.out)
    obtain ⟨Tx_10_l, Tx_10_a, Tx_10_b, Tx_10_c, Tx_10_d⟩ := Tx_10.out
    clear Tx_9 Tx_9_l Tx_9_a Tx_9_b Tx_9_c Tx_9_d
    have Op_10 : Hid (RowC w10 w1.heap.size w2.heap.size b2 c2 zP d2 e2 zQ) := Lib.hid (Op_9.out.keep B10.out)
    clear Op_9
    have Om_10 : Hid (RowT w10 w2.heap.size w3.heap.size b3 (fcaZ sP zP sQ zQ).length c3 (fcaZ sP zP sQ zQ)) := Lib.hid (Om_9.out.keep B10.out)
    clear Om_9
    have Ox_10 : Hid (RowC w10 w3.heap.size w4.heap.size b4 c4 (marks (1) zP.length) d4 e4 (marks (1 + zP.length) zQ.length)) := Lib.hid (Ox_9.out.keep B10.out)
    clear Ox_9
    have Og_10 : Hid (RowT w10 (w4.heap.size + 1) w5.heap.size b5 (fcaZ sP zP sQ zQ).length c5 (fcaZ sP zP sQ zQ)) := Lib.hid (Og_9.out.keep B10.out)
    clear Og_9
    have A10 : Hid (Below w.heap.size w w10) := Lib.hid (A9.out.trans (B10.out.mono A9.out.size))
    clear A9
    clear hb10
    go_wp2_with fail
    refine (mark_txts (w4.heap.size + 1) w5.heap.size (1) b5 c5 (fcaZ sP zP sQ zQ).length (fcaZ sP zP sQ zQ) _ (Og_10.out) (by omega) (by omega) (by omega)).mono ?_
    rintro e w11 ⟨rfl, hown11, hb11⟩
    have B11 : Hid (Within (w4.heap.size + 1) w5.heap.size w10 w11) := Lib.hid (hb11)
    have B11_size := B11.out.size
    have Ta_11 : Hid (Four w11 w.heap.size (.int .i64 (sP)) (.slice aP lenP capP) (.int .i64 (sQ)) (.slice aQ lenQ capQ)) := Lib.hid (Ta_10.out.within B11.out (by omega))
    obtain ⟨Ta_11_l, Ta_11_a, Ta_11_b, Ta_11_c, Ta_11_d⟩ := Ta_11.out
    clear Ta_10 Ta_10_l Ta_10_a Ta_10_b Ta_10_c Ta_10_d
    have Tx_11 : Hid (Four w11 w4.heap.size (.int .i64 (sP)) (.slice b4 zP.length c4) (.int .i64 (sQ)) (.slice d4 zQ.length e4)) := Lib.hid (Tx_10.out.within B11.out (by omega))
    obtain ⟨Tx_11_l, Tx_11_a, Tx_11_b, Tx_11_c, Tx_11_d⟩ := Tx_11.out
    clear Tx_10 Tx_10_l Tx_10_a Tx_10_b Tx_10_c Tx_10_d
    have Op_11 : Hid (RowC w11 w1.heap.size w2.heap.size b2 c2 zP d2 e2 zQ) := Lib.hid (Op_10.out.within B11.out (by omega))
    clear Op_10
    have Om_11 : Hid (RowT w11 w2.heap.size w3.heap.size b3 (fcaZ sP zP sQ zQ).length c3 (fcaZ sP zP sQ zQ)) := Lib.hid (Om_10.out.within B11.out (by omega))
    clear Om_10
    have Ox_11 : Hid (RowC w11 w3.heap.size w4.heap.size b4 c4 (marks (1) zP.length) d4 e4 (marks (1 + zP.length) zQ.length)) := Lib.hid (Ox_10.out.within B11.out (by omega))
    clear Ox_10
    have A11 : Hid (Below w.heap.size w w11) := Lib.hid (Rhy.Below.within A10.out B11.out (by omega) A10.out.size)
    clear A10
    have Og_11 : Hid (RowT w11 (w4.heap.size + 1) w5.heap.size b5 (fcaZ sP zP sQ zQ).length c5 (marksT (1) (fcaZ sP zP sQ zQ).length)) := Lib.hid hown11
    clear hown11 hb11 Og_10
    go_wp2_with fail
    refine (held_txts (1) b5 c5 (fcaZ sP zP sQ zQ).length _ (txtsAt_own (Og_11.out).1) (by omega) (by omega) (by omega)).mono ?_
    rintro e w12 ⟨rfl, hb12⟩
    have B12 : Hid (Below w11.heap.size w11 w12) := Lib.hid (hb12)
    have B12_size := B12.out.size
    have Ta_12 : Hid (Four w12 w.heap.size (.int .i64 (sP)) (.slice aP lenP capP) (.int .i64 (sQ)) (.slice aQ lenQ capQ)) := Lib.hid (Ta_11.out.keep B12.out)
    obtain ⟨Ta_12_l, Ta_12_a, Ta_12_b, Ta_12_c, Ta_12_d⟩ := Ta_12.out
    clear Ta_11 Ta_11_l Ta_11_a Ta_11_b Ta_11_c Ta_11_d
    have Tx_12 : Hid (Four w12 w4.heap.size (.int .i64 (sP)) (.slice b4 zP.length c4) (.int .i64 (sQ)) (.slice d4 zQ.length e4)) := Lib.hid (Tx_11.out.keep B12.out)
    obtain ⟨Tx_12_l, Tx_12_a, Tx_12_b, Tx_12_c, Tx_12_d⟩ := Tx_12.out
    clear Tx_11 Tx_11_l Tx_11_a Tx_11_b Tx_11_c Tx_11_d
    have Op_12 : Hid (RowC w12 w1.heap.size w2.heap.size b2 c2 zP d2 e2 zQ) := Lib.hid (Op_11.out.keep B12.out)
    clear Op_11
    have Om_12 : Hid (RowT w12 w2.heap.size w3.heap.size b3 (fcaZ sP zP sQ zQ).length c3 (fcaZ sP zP sQ zQ)) := Lib.hid (Om_11.out.keep B12.out)
    clear Om_11
    have Ox_12 : Hid (RowC w12 w3.heap.size w4.heap.size b4 c4 (marks (1) zP.length) d4 e4 (marks (1 + zP.length) zQ.length)) := Lib.hid (Ox_11.out.keep B12.out)
    clear Ox_11
    have Og_12 : Hid (RowT w12 (w4.heap.size + 1) w5.heap.size b5 (fcaZ sP zP sQ zQ).length c5 (marksT (1) (fcaZ sP zP sQ zQ).length)) := Lib.hid (Og_11.out.keep B12.out)
    clear Og_11
    have A12 : Hid (Below w.heap.size w w12) := Lib.hid (A11.out.trans (B12.out.mono A11.out.size))
    clear A11
    clear hb12
    go_wp2_with fail
    refine (to_canon sP aP lenP capP zP sQ aQ lenQ capQ zQ _ (HP.out.below A12.out) leP (HQ.out.below A12.out) leQ).mono ?_
    rintro e w13 ⟨b13, c13, d13, e13, rfl, hown13, hb13⟩
    have Oy_13 : Hid (RowC w13 w12.heap.size w13.heap.size b13 c13 zP d13 e13 zQ) := Lib.hid (RowC.lo hown13 (Nat.le_refl _))
    have B13 : Hid (Below w12.heap.size w12 w13) := Lib.hid (hb13)
    have B13_size := B13.out.size
    have Ta_13 : Hid (Four w13 w.heap.size (.int .i64 (sP)) (.slice aP lenP capP) (.int .i64 (sQ)) (.slice aQ lenQ capQ)) := Lib.hid (Ta_12.out.keep B13.out)
    obtain ⟨Ta_13_l, Ta_13_a, Ta_13_b, Ta_13_c, Ta_13_d⟩ := Ta_13.out
    clear Ta_12 Ta_12_l Ta_12_a Ta_12_b Ta_12_c Ta_12_d
    have Tx_13 : Hid (Four w13 w4.heap.size (.int .i64 (sP)) (.slice b4 zP.length c4) (.int .i64 (sQ)) (.slice d4 zQ.length e4)) := Lib.hid (Tx_12.out.keep B13.out)
    obtain ⟨Tx_13_l, Tx_13_a, Tx_13_b, Tx_13_c, Tx_13_d⟩ := Tx_13.out
    clear Tx_12 Tx_12_l Tx_12_a Tx_12_b Tx_12_c Tx_12_d
    have Op_13 : Hid (RowC w13 w1.heap.size w2.heap.size b2 c2 zP d2 e2 zQ) := Lib.hid (Op_12.out.keep B13.out)
    clear Op_12
    have Om_13 : Hid (RowT w13 w2.heap.size w3.heap.size b3 (fcaZ sP zP sQ zQ).length c3 (fcaZ sP zP sQ zQ)) := Lib.hid (Om_12.out.keep B13.out)
    clear Om_12
    have Ox_13 : Hid (RowC w13 w3.heap.size w4.heap.size b4 c4 (marks (1) zP.length) d4 e4 (marks (1 + zP.length) zQ.length)) := Lib.hid (Ox_12.out.keep B13.out)
    clear Ox_12
    have Og_13 : Hid (RowT w13 (w4.heap.size + 1) w5.heap.size b5 (fcaZ sP zP sQ zQ).length c5 (marksT (1) (fcaZ sP zP sQ zQ).length)) := Lib.hid (Og_12.out.keep B13.out)
    clear Og_12
    have A13 : Hid (Below w.heap.size w w13) := Lib.hid (A12.out.trans (B13.out.mono A12.out.size))
    clear A12
    clear hown13 hb13
    go_wp2_with fail
    refine (fca_impl sP b13 zP.length c13 zP sQ d13 zQ.length e13 zQ  _ (Oy_13.out.at0 HP.out.int) lzP (Oy_13.out.at1 HQ.out.int) lzQ ).mono ?_
    rintro e w14 ⟨b14, c14, rfl, hown14, hb14⟩
    have Oh_14 : Hid (RowT w14 w13.heap.size w14.heap.size b14 (fcaZ sP zP sQ zQ).length c14 (fcaZ sP zP sQ zQ)) := Lib.hid (rowT_of (own_base hown14 (Nat.le_refl _)))
    have B14 : Hid (Below w13.heap.size w13 w14) := Lib.hid (hb14)
    have B14_size := B14.out.size
    have Ta_14 : Hid (Four w14 w.heap.size (.int .i64 (sP)) (.slice aP lenP capP) (.int .i64 (sQ)) (.slice aQ lenQ capQ)) := Lib.hid (Ta_13.out.keep B14.out)
    obtain ⟨Ta_14_l, Ta_14_a, Ta_14_b, Ta_14_c, Ta_14_d⟩ := Ta_14.out
    clear Ta_13 Ta_13_l Ta_13_a Ta_13_b Ta_13_c Ta_13_d
    have Tx_14 : Hid (Four w14 w4.heap.size (.int .i64 (sP)) (.slice b4 zP.length c4) (.int .i64 (sQ)) (.slice d4 zQ.length e4)) := Lib.hid (Tx_13.out.keep B14.out)
    obtain ⟨Tx_14_l, Tx_14_a, Tx_14_b, Tx_14_c, Tx_14_d⟩ := Tx_14.out
    clear Tx_13 Tx_13_l Tx_13_a Tx_13_b Tx_13_c Tx_13_d
    have Op_14 : Hid (RowC w14 w1.heap.size w2.heap.size b2 c2 zP d2 e2 zQ) := Lib.hid (Op_13.out.keep B14.out)
    clear Op_13
    have Om_14 : Hid (RowT w14 w2.heap.size w3.heap.size b3 (fcaZ sP zP sQ zQ).length c3 (fcaZ sP zP sQ zQ)) := Lib.hid (Om_13.out.keep B14.out)
    clear Om_13
    have Ox_14 : Hid (RowC w14 w3.heap.size w4.heap.size b4 c4 (marks (1) zP.length) d4 e4 (marks (1 + zP.length) zQ.length)) := Lib.hid (Ox_13.out.keep B14.out)
    clear Ox_13
    have Og_14 : Hid (RowT w14 (w4.heap.size + 1) w5.heap.size b5 (fcaZ sP zP sQ zQ).length c5 (marksT (1) (fcaZ sP zP sQ zQ).length)) := Lib.hid (Og_13.out.keep B14.out)
    clear Og_13
    have Oy_14 : Hid (RowC w14 w12.heap.size w13.heap.size b13 c13 zP d13 e13 zQ) := Lib.hid (Oy_13.out.keep B14.out)
    clear Oy_13
    have A14 : Hid (Below w.heap.size w w14) := Lib.hid (A13.out.trans (B14.out.mono A13.out.size))
    clear A13
    clear hown14 hb14
    go_wp2_with fail
    refine (eq_txts b14 b3 c14 c3 (fcaZ sP zP sQ zQ).length (fcaZ sP zP sQ zQ) _ (txtsAt_own (Oh_14.out).1) (txtsAt_own (Om_14.out).1) (by omega)).mono ?_
    rintro e w15 ⟨rfl, hb15⟩
    have B15 : Hid (Below w14.heap.size w14 w15) := Lib.hid (hb15)
    have B15_size := B15.out.size
    have Ta_15 : Hid (Four w15 w.heap.size (.int .i64 (sP)) (.slice aP lenP capP) (.int .i64 (sQ)) (.slice aQ lenQ capQ)) := Lib.hid (Ta_14.out.keep B15.out)
    obtain ⟨Ta_15_l, Ta_15_a, Ta_15_b, Ta_15_c, Ta_15_d⟩ := Ta_15.out
    clear Ta_14 Ta_14_l Ta_14_a Ta_14_b Ta_14_c Ta_14_d
    have Tx_15 : Hid (Four w15 w4.heap.size (.int .i64 (sP)) (.slice b4 zP.length c4) (.int .i64 (sQ)) (.slice d4 zQ.length e4)) := Lib.hid (Tx_14.out.keep B15.out)
    obtain ⟨Tx_15_l, Tx_15_a, Tx_15_b, Tx_15_c, Tx_15_d⟩ := Tx_15.out
    clear Tx_14 Tx_14_l Tx_14_a Tx_14_b Tx_14_c Tx_14_d
    have Op_15 : Hid (RowC w15 w1.heap.size w2.heap.size b2 c2 zP d2 e2 zQ) := Lib.hid (Op_14.out.keep B15.out)
    clear Op_14
    have Om_15 : Hid (RowT w15 w2.heap.size w3.heap.size b3 (fcaZ sP zP sQ zQ).length c3 (fcaZ sP zP sQ zQ)) := Lib.hid (Om_14.out.keep B15.out)
    clear Om_14
    have Ox_15 : Hid (RowC w15 w3.heap.size w4.heap.size b4 c4 (marks (1) zP.length) d4 e4 (marks (1 + zP.length) zQ.length)) := Lib.hid (Ox_14.out.keep B15.out)
    clear Ox_14
    have Og_15 : Hid (RowT w15 (w4.heap.size + 1) w5.heap.size b5 (fcaZ sP zP sQ zQ).length c5 (marksT (1) (fcaZ sP zP sQ zQ).length)) := Lib.hid (Og_14.out.keep B15.out)
    clear Og_14
    have Oy_15 : Hid (RowC w15 w12.heap.size w13.heap.size b13 c13 zP d13 e13 zQ) := Lib.hid (Oy_14.out.keep B15.out)
    clear Oy_14
    have Oh_15 : Hid (RowT w15 w13.heap.size w14.heap.size b14 (fcaZ sP zP sQ zQ).length c14 (fcaZ sP zP sQ zQ)) := Lib.hid (Oh_14.out.keep B15.out)
    clear Oh_14
    have A15 : Hid (Below w.heap.size w w15) := Lib.hid (A14.out.trans (B15.out.mono A14.out.size))
    clear A14
    clear hb15
    go_wp2_with fail
    refine (held_txts (1) b5 c5 (fcaZ sP zP sQ zQ).length _ (txtsAt_own (Og_15.out).1) (by omega) (by omega) (by omega)).mono ?_
    rintro e w16 ⟨rfl, hb16⟩
    have B16 : Hid (Below w15.heap.size w15 w16) := Lib.hid (hb16)
    have B16_size := B16.out.size
    have Ta_16 : Hid (Four w16 w.heap.size (.int .i64 (sP)) (.slice aP lenP capP) (.int .i64 (sQ)) (.slice aQ lenQ capQ)) := Lib.hid (Ta_15.out.keep B16.out)
    obtain ⟨Ta_16_l, Ta_16_a, Ta_16_b, Ta_16_c, Ta_16_d⟩ := Ta_16.out
    clear Ta_15 Ta_15_l Ta_15_a Ta_15_b Ta_15_c Ta_15_d
    have Tx_16 : Hid (Four w16 w4.heap.size (.int .i64 (sP)) (.slice b4 zP.length c4) (.int .i64 (sQ)) (.slice d4 zQ.length e4)) := Lib.hid (Tx_15.out.keep B16.out)
    obtain ⟨Tx_16_l, Tx_16_a, Tx_16_b, Tx_16_c, Tx_16_d⟩ := Tx_16.out
    clear Tx_15 Tx_15_l Tx_15_a Tx_15_b Tx_15_c Tx_15_d
    have Op_16 : Hid (RowC w16 w1.heap.size w2.heap.size b2 c2 zP d2 e2 zQ) := Lib.hid (Op_15.out.keep B16.out)
    clear Op_15
    have Om_16 : Hid (RowT w16 w2.heap.size w3.heap.size b3 (fcaZ sP zP sQ zQ).length c3 (fcaZ sP zP sQ zQ)) := Lib.hid (Om_15.out.keep B16.out)
    clear Om_15
    have Ox_16 : Hid (RowC w16 w3.heap.size w4.heap.size b4 c4 (marks (1) zP.length) d4 e4 (marks (1 + zP.length) zQ.length)) := Lib.hid (Ox_15.out.keep B16.out)
    clear Ox_15
    have Og_16 : Hid (RowT w16 (w4.heap.size + 1) w5.heap.size b5 (fcaZ sP zP sQ zQ).length c5 (marksT (1) (fcaZ sP zP sQ zQ).length)) := Lib.hid (Og_15.out.keep B16.out)
    clear Og_15
    have Oy_16 : Hid (RowC w16 w12.heap.size w13.heap.size b13 c13 zP d13 e13 zQ) := Lib.hid (Oy_15.out.keep B16.out)
    clear Oy_15
    have Oh_16 : Hid (RowT w16 w13.heap.size w14.heap.size b14 (fcaZ sP zP sQ zQ).length c14 (fcaZ sP zP sQ zQ)) := Lib.hid (Oh_15.out.keep B16.out)
    clear Oh_15
    have A16 : Hid (Below w.heap.size w w16) := Lib.hid (A15.out.trans (B16.out.mono A15.out.size))
    clear A15
    clear hb16
    go_wp2
    go_ret
    exact ⟨rfl, A16.out⟩

set_option maxRecDepth 100000 in
theorem lifted (os : Os) (started : os.Started) (H : Type) (enc : TypeId × Value → H) :
    ReturnsInHanded {} Try.checked os 7 .any (Rows.fnExactFormatCanonSpec.pre6 enc Try.prog Try.f7 Rows.fnExactFormatCanonRow.domain false) (Rows.fnExactFormatCanonSpec.post enc Try.prog Try.f7 false true false false) := by
  refine returnsInHanded_of_change (C := Try.checked) own started (by kernel_rfl) Try.func7
    (ChangeSpec.witness6 (enc := enc) (C := Try.checked) false ⟨#[], #[.agg #[.int .i64 0, .slice none 0 0, .int .i64 0, .slice none 0 0]], []⟩ 8 (by kernel_rfl) (by kernel_rfl) (by kernel_rfl) (by kernel_rfl)) ?_
  intro W base args ds gs before hval0 hW hcnd _
  have hval : ∀ (j : Nat) t v, Try.f7.params[j]? = some t → args[j]? = some v → Value.okWide Try.prog W .any base t v := hval0
  have hW' := hW
  obtain ⟨p, q, hA0, hV, rfl, hfz, hnd⟩ := hW
  have hA : DataW.TrodAll enc Try.prog W 0 (fun _ => true) true Try.f7.params.toList args.toList ds p := hA0
  rw [Try.params7] at hA hval
  obtain ⟨v0, vs0, d0, ds0, p0, q0, hargs, rfl, rfl, h0, r0⟩ := trodAll_cons hA
  obtain ⟨rfl, rfl, rfl⟩ := trodAll_nil r0
  obtain rfl : args = #[v0] := by cases args; simp_all
  obtain ⟨rfl, rfl⟩ := trodVars_none hV
  have k0 := h0
  have lt0 : ∀ x ∈ p0, x.block < W.heap.size := by obtain ⟨m, hm⟩ := k0; exact DataW.trod_lt m _ _ _ hm
  obtain ⟨s0, a0, len0, cap0, z0, t0, b0, m0, d0', y0, rfl, w0⟩ := openedC (hval 0 51 v0 rfl rfl) h0
  clear hA0 hval0
  refine (walk s0 a0 len0 cap0 z0 t0 b0 m0 d0' y0 W w0).mono fun e W' ⟨he, bel⟩ => ?_
  subst he
  exact ⟨_, rfl, _, _, _, [], _, [], hW', trodAll_mk1 (shut_bool Try.underlying4 _), (trodAll_cons_mk (Below.trod laidOut (by kernel_rfl) (of_decide_eq_true (by kernel_rfl)) k0 bel lt0) trodAll_mk0), rfl, bel.frame _, fun h => by cases h⟩

theorem proved : Rows.FnExactFormatCanonSaid :=
  OpenClaim.holds_of_wide 7 Try.f7 rfl rfl rfl rfl rfl rfl rfl ⟨rfl, rfl, rfl, rfl, rfl⟩ rfl rfl rfl rfl rfl (by kernel_rfl) Try.func7 (by kernel_rfl)
    (of_decide_eq_true (by kernel_rfl)) (by unfold Func.isWrapper; rw [if_neg (of_decide_eq_false (by kernel_rfl))]; exact ⟨rfl, rfl⟩)
    (fun os started H enc _ => lifted os started H enc)
#print axioms proved
end Go.Proofs.Ythnlakdfbalgdaa.fnExactFormatCanon
