/-
  'FirstAvoiding' of the program answers, at every three integers, as its model does and owns the memory of its answer. No condition.
-/
import Derived.Test.YtjgjcppkbfojpaaOci
import Derived.Test.YtjgjcppkbfojpaaOpen
import Derived.Deep.RegionHeld3
import Derived.ProofKit
namespace Go.Proofs.Ytjgjcppkbfojpaa.fnExactFirstAvoiding
open Go.ChangeShapes Go.WideShapes Go.ChangeAt Go.RowKit Rhy
set_option linter.unusedVariables false

theorem fi_ok {a0 a1 a2 : Int} (h : fiC a0 a1 a2) : Ok a0 (fiZ a0 a1 a2) := by
  have h1 := h.1.1
  obtain ⟨n, rfl⟩ : ∃ n : Nat, a0 = n := ⟨a0.toNat, by omega⟩
  unfold fiZ
  rw [Int.toNat_natCast]
  exact bits_ok (by omega) (by omega)
theorem z_int (a0 a1 a2 : Int) : AllInt (cZ (fiC a0 a1 a2) (fiZ a0 a1 a2)) := by
  by_cases h : fiC a0 a1 a2
  · rw [cZ_yes h]; exact ok_int (fi_ok h)
  · rw [cZ_no h]; intro z hz; cases hz
theorem z_len (a0 a1 a2 : Int) : (cZ (fiC a0 a1 a2) (fiZ a0 a1 a2)).length ≤ 1048576 := cZ_len (fun h => Nat.le_trans (ok_len (fi_ok h)) (by omega))

set_option maxHeartbeats 1000000 in
set_option maxRecDepth 100000 in
theorem walk (a0 : Int) (a1 : Int) (a2 : Int) (w0 : (Lit.int .i64 a0).wf = true) (w1 : (Lit.int .i64 a1).wf = true) (w2 : (Lit.int .i64 a2).wf = true) (w : World) :
    Calls Try.prog 9 #[.int .i64 a0, .int .i64 a1, .int .i64 a2] w fun e w' => e = .returned (.bool true) ∧ Below w.heap.size w w' := by
  obtain ⟨kl0, ku0⟩ := bounds_i64 w0
  obtain ⟨kl1, ku1⟩ := bounds_i64 w1
  obtain ⟨kl2, ku2⟩ := bounds_i64 w2
  go_enter Try.func9, Try.ntmps9
  have HZ : Hid (AllInt (cZ (fiC a0 a1 a2) (fiZ a0 a1 a2))) := Lib.hid (z_int a0 a1 a2)
  have hzl : (cZ (fiC a0 a1 a2) (fiZ a0 a1 a2)).length ≤ 1048576 := z_len a0 a1 a2
  go_wp2_with fail
  refine (fiav_spec a0 a1 a2 _ kl0 ku0 kl1 ku1 kl2 ku2).mono ?_
  rintro e w1 ⟨b1, c1, rfl, hown1, hb1⟩
  have Om_1 : Hid (Row w1 w.heap.size w1.heap.size b1 (cZ (fiC a0 a1 a2) (fiZ a0 a1 a2)).length c1 (cZ (fiC a0 a1 a2) (fiZ a0 a1 a2))) := Lib.hid (row_of (own_base hown1 (Nat.le_refl _)))
  have B1 : Hid (Below w.heap.size w w1) := Lib.hid (hb1)
  have B1_size := B1.out.size
  have A1 : Hid (Below w.heap.size w w1) := Lib.hid (B1.out)
  clear hown1 hb1
  go_wp2_with fail
  refine (first_impl a0 a1 a2 _ kl0 ku0 kl1 ku1 kl2 ku2).mono ?_
  rintro e w2 ⟨b2, c2, rfl, hown2, hb2⟩
  have Og_2 : Hid (Row w2 (w1.heap.size + 1) w2.heap.size b2 (cZ (fiC a0 a1 a2) (fiZ a0 a1 a2)).length c2 (cZ (fiC a0 a1 a2) (fiZ a0 a1 a2))) := Lib.hid (row_of (own_base hown2 (by simp)))
  have p2 := Lib.hid (bel1 w1 (.cells #[.int .i64 (cS (fiC a0 a1 a2) a0), .slice b1 (cZ (fiC a0 a1 a2) (fiZ a0 a1 a2)).length c1] 25))
  have B2 : Hid (Below w1.heap.size w1 w2) := Lib.hid (p2.out.trans (hb2.mono p2.out.size))
  have B2_size := B2.out.size
  have pz2 : w1.heap.size + 1 ≤ w2.heap.size := by have := hb2.size; simp at this; omega
  have Tm_2 : Hid (Two w2 w1.heap.size (.int .i64 (cS (fiC a0 a1 a2) a0)) (.slice b1 (cZ (fiC a0 a1 a2) (fiZ a0 a1 a2)).length c1)) := Lib.hid ((two_new w1 (.int .i64 (cS (fiC a0 a1 a2) a0)) (.slice b1 (cZ (fiC a0 a1 a2) (fiZ a0 a1 a2)).length c1) 25).keep hb2)
  obtain ⟨Tm_2_l, Tm_2_a, Tm_2_b⟩ := Tm_2.out
  have Om_2 : Hid (Row w2 w.heap.size w1.heap.size b1 (cZ (fiC a0 a1 a2) (fiZ a0 a1 a2)).length c1 (cZ (fiC a0 a1 a2) (fiZ a0 a1 a2))) := Lib.hid (Om_1.out.keep B2.out)
  clear Om_1
  have A2 : Hid (Below w.heap.size w w2) := Lib.hid (A1.out.trans (B2.out.mono A1.out.size))
  clear A1
  clear hown2 hb2
  go_wp2_with fail
  refine (eq_rhythm _ b2 b1 c2 c1 _ (cZ (fiC a0 a1 a2) (fiZ a0 a1 a2)) _ ((Og_2.out.at HZ.out).below (bel1 _ (.cells #[.int .i64 (cS (fiC a0 a1 a2) a0), .slice b2 (cZ (fiC a0 a1 a2) (fiZ a0 a1 a2)).length c2] 25))) ((Om_2.out.at HZ.out).below (bel1 _ (.cells #[.int .i64 (cS (fiC a0 a1 a2) a0), .slice b2 (cZ (fiC a0 a1 a2) (fiZ a0 a1 a2)).length c2] 25))) (by omega)).mono ?_
  rintro e w3 ⟨rfl, hb3⟩
  have p3 := Lib.hid (bel1 w2 (.cells #[.int .i64 (cS (fiC a0 a1 a2) a0), .slice b2 (cZ (fiC a0 a1 a2) (fiZ a0 a1 a2)).length c2] 25))
  have B3 : Hid (Below w2.heap.size w2 w3) := Lib.hid (p3.out.trans (hb3.mono p3.out.size))
  have B3_size := B3.out.size
  have pz3 : w2.heap.size + 1 ≤ w3.heap.size := by have := hb3.size; simp at this; omega
  have Tm_3 : Hid (Two w3 w1.heap.size (.int .i64 (cS (fiC a0 a1 a2) a0)) (.slice b1 (cZ (fiC a0 a1 a2) (fiZ a0 a1 a2)).length c1)) := Lib.hid (Tm_2.out.keep B3.out)
  obtain ⟨Tm_3_l, Tm_3_a, Tm_3_b⟩ := Tm_3.out
  clear Tm_2 Tm_2_l Tm_2_a Tm_2_b
  have Tg_3 : Hid (Two w3 w2.heap.size (.int .i64 (cS (fiC a0 a1 a2) a0)) (.slice b2 (cZ (fiC a0 a1 a2) (fiZ a0 a1 a2)).length c2)) := Lib.hid ((two_new w2 (.int .i64 (cS (fiC a0 a1 a2) a0)) (.slice b2 (cZ (fiC a0 a1 a2) (fiZ a0 a1 a2)).length c2) 25).keep hb3)
  obtain ⟨Tg_3_l, Tg_3_a, Tg_3_b⟩ := Tg_3.out
  have Om_3 : Hid (Row w3 w.heap.size w1.heap.size b1 (cZ (fiC a0 a1 a2) (fiZ a0 a1 a2)).length c1 (cZ (fiC a0 a1 a2) (fiZ a0 a1 a2))) := Lib.hid (Om_2.out.keep B3.out)
  clear Om_2
  have Og_3 : Hid (Row w3 (w1.heap.size + 1) w2.heap.size b2 (cZ (fiC a0 a1 a2) (fiZ a0 a1 a2)).length c2 (cZ (fiC a0 a1 a2) (fiZ a0 a1 a2))) := Lib.hid (Og_2.out.keep B3.out)
  clear Og_2
  have A3 : Hid (Below w.heap.size w w3) := Lib.hid (A2.out.trans (B3.out.mono A2.out.size))
  clear A2
  clear hb3
  go_wp2_with fail
  refine (mark_rhythm (w1.heap.size + 1) w2.heap.size (1) _ b2 c2 _ _ _ Og_3.out (by omega) (by omega)).mono ?_
  rintro e w4 ⟨rfl, hown4, hb4⟩
  have B4 : Hid (Within (w1.heap.size + 1) w2.heap.size w3 w4) := Lib.hid (hb4)
  have B4_size := B4.out.size
  have Tm_4 : Hid (Two w4 w1.heap.size (.int .i64 (cS (fiC a0 a1 a2) a0)) (.slice b1 (cZ (fiC a0 a1 a2) (fiZ a0 a1 a2)).length c1)) := Lib.hid (Tm_3.out.within B4.out (by omega))
  obtain ⟨Tm_4_l, Tm_4_a, Tm_4_b⟩ := Tm_4.out
  clear Tm_3 Tm_3_l Tm_3_a Tm_3_b
  have Tg_4 : Hid (Two w4 w2.heap.size (.int .i64 (cS (fiC a0 a1 a2) a0)) (.slice b2 (cZ (fiC a0 a1 a2) (fiZ a0 a1 a2)).length c2)) := Lib.hid (Tg_3.out.within B4.out (by omega))
  obtain ⟨Tg_4_l, Tg_4_a, Tg_4_b⟩ := Tg_4.out
  clear Tg_3 Tg_3_l Tg_3_a Tg_3_b
  have Om_4 : Hid (Row w4 w.heap.size w1.heap.size b1 (cZ (fiC a0 a1 a2) (fiZ a0 a1 a2)).length c1 (cZ (fiC a0 a1 a2) (fiZ a0 a1 a2))) := Lib.hid (Om_3.out.within B4.out (by omega))
  clear Om_3
  have A4 : Hid (Below w.heap.size w w4) := Lib.hid (Rhy.Below.within A3.out B4.out (by omega) A3.out.size)
  clear A3
  have Og_4 : Hid (Row w4 (w1.heap.size + 1) w2.heap.size b2 (cZ (fiC a0 a1 a2) (fiZ a0 a1 a2)).length c2 (marks (1) (cZ (fiC a0 a1 a2) (fiZ a0 a1 a2)).length)) := Lib.hid hown4
  clear hown4 hb4 Og_3
  go_wp2_with fail
  refine (held_rhythm (1) _ b2 c2 (cZ (fiC a0 a1 a2) (fiZ a0 a1 a2)).length _ (Og_4.out.at (marks_int _ _ (by omega))) (by omega) (by omega)).mono ?_
  rintro e w5 ⟨rfl, hb5⟩
  have B5 : Hid (Below w4.heap.size w4 w5) := Lib.hid (hb5)
  have B5_size := B5.out.size
  have Tm_5 : Hid (Two w5 w1.heap.size (.int .i64 (cS (fiC a0 a1 a2) a0)) (.slice b1 (cZ (fiC a0 a1 a2) (fiZ a0 a1 a2)).length c1)) := Lib.hid (Tm_4.out.keep B5.out)
  obtain ⟨Tm_5_l, Tm_5_a, Tm_5_b⟩ := Tm_5.out
  clear Tm_4 Tm_4_l Tm_4_a Tm_4_b
  have Tg_5 : Hid (Two w5 w2.heap.size (.int .i64 (cS (fiC a0 a1 a2) a0)) (.slice b2 (cZ (fiC a0 a1 a2) (fiZ a0 a1 a2)).length c2)) := Lib.hid (Tg_4.out.keep B5.out)
  obtain ⟨Tg_5_l, Tg_5_a, Tg_5_b⟩ := Tg_5.out
  clear Tg_4 Tg_4_l Tg_4_a Tg_4_b
  have Om_5 : Hid (Row w5 w.heap.size w1.heap.size b1 (cZ (fiC a0 a1 a2) (fiZ a0 a1 a2)).length c1 (cZ (fiC a0 a1 a2) (fiZ a0 a1 a2))) := Lib.hid (Om_4.out.keep B5.out)
  clear Om_4
  have Og_5 : Hid (Row w5 (w1.heap.size + 1) w2.heap.size b2 (cZ (fiC a0 a1 a2) (fiZ a0 a1 a2)).length c2 (marks (1) (cZ (fiC a0 a1 a2) (fiZ a0 a1 a2)).length)) := Lib.hid (Og_4.out.keep B5.out)
  clear Og_4
  have A5 : Hid (Below w.heap.size w w5) := Lib.hid (A4.out.trans (B5.out.mono A4.out.size))
  clear A4
  clear hb5
  go_wp2_with fail
  refine (first_impl a0 a1 a2 _ kl0 ku0 kl1 ku1 kl2 ku2).mono ?_
  rintro e w6 ⟨b6, c6, rfl, hown6, hb6⟩
  have Oh_6 : Hid (Row w6 w5.heap.size w6.heap.size b6 (cZ (fiC a0 a1 a2) (fiZ a0 a1 a2)).length c6 (cZ (fiC a0 a1 a2) (fiZ a0 a1 a2))) := Lib.hid (row_of (own_base hown6 (Nat.le_refl _)))
  have B6 : Hid (Below w5.heap.size w5 w6) := Lib.hid (hb6)
  have B6_size := B6.out.size
  have Tm_6 : Hid (Two w6 w1.heap.size (.int .i64 (cS (fiC a0 a1 a2) a0)) (.slice b1 (cZ (fiC a0 a1 a2) (fiZ a0 a1 a2)).length c1)) := Lib.hid (Tm_5.out.keep B6.out)
  obtain ⟨Tm_6_l, Tm_6_a, Tm_6_b⟩ := Tm_6.out
  clear Tm_5 Tm_5_l Tm_5_a Tm_5_b
  have Tg_6 : Hid (Two w6 w2.heap.size (.int .i64 (cS (fiC a0 a1 a2) a0)) (.slice b2 (cZ (fiC a0 a1 a2) (fiZ a0 a1 a2)).length c2)) := Lib.hid (Tg_5.out.keep B6.out)
  obtain ⟨Tg_6_l, Tg_6_a, Tg_6_b⟩ := Tg_6.out
  clear Tg_5 Tg_5_l Tg_5_a Tg_5_b
  have Om_6 : Hid (Row w6 w.heap.size w1.heap.size b1 (cZ (fiC a0 a1 a2) (fiZ a0 a1 a2)).length c1 (cZ (fiC a0 a1 a2) (fiZ a0 a1 a2))) := Lib.hid (Om_5.out.keep B6.out)
  clear Om_5
  have Og_6 : Hid (Row w6 (w1.heap.size + 1) w2.heap.size b2 (cZ (fiC a0 a1 a2) (fiZ a0 a1 a2)).length c2 (marks (1) (cZ (fiC a0 a1 a2) (fiZ a0 a1 a2)).length)) := Lib.hid (Og_5.out.keep B6.out)
  clear Og_5
  have A6 : Hid (Below w.heap.size w w6) := Lib.hid (A5.out.trans (B6.out.mono A5.out.size))
  clear A5
  clear hown6 hb6
  go_wp2_with fail
  refine (eq_rhythm _ b6 b1 c6 c1 _ (cZ (fiC a0 a1 a2) (fiZ a0 a1 a2)) _ ((Oh_6.out.at HZ.out).below (bel1 _ (.cells #[.int .i64 (cS (fiC a0 a1 a2) a0), .slice b6 (cZ (fiC a0 a1 a2) (fiZ a0 a1 a2)).length c6] 25))) ((Om_6.out.at HZ.out).below (bel1 _ (.cells #[.int .i64 (cS (fiC a0 a1 a2) a0), .slice b6 (cZ (fiC a0 a1 a2) (fiZ a0 a1 a2)).length c6] 25))) (by omega)).mono ?_
  rintro e w7 ⟨rfl, hb7⟩
  have p7 := Lib.hid (bel1 w6 (.cells #[.int .i64 (cS (fiC a0 a1 a2) a0), .slice b6 (cZ (fiC a0 a1 a2) (fiZ a0 a1 a2)).length c6] 25))
  have B7 : Hid (Below w6.heap.size w6 w7) := Lib.hid (p7.out.trans (hb7.mono p7.out.size))
  have B7_size := B7.out.size
  have pz7 : w6.heap.size + 1 ≤ w7.heap.size := by have := hb7.size; simp at this; omega
  have Tm_7 : Hid (Two w7 w1.heap.size (.int .i64 (cS (fiC a0 a1 a2) a0)) (.slice b1 (cZ (fiC a0 a1 a2) (fiZ a0 a1 a2)).length c1)) := Lib.hid (Tm_6.out.keep B7.out)
  obtain ⟨Tm_7_l, Tm_7_a, Tm_7_b⟩ := Tm_7.out
  clear Tm_6 Tm_6_l Tm_6_a Tm_6_b
  have Tg_7 : Hid (Two w7 w2.heap.size (.int .i64 (cS (fiC a0 a1 a2) a0)) (.slice b2 (cZ (fiC a0 a1 a2) (fiZ a0 a1 a2)).length c2)) := Lib.hid (Tg_6.out.keep B7.out)
  obtain ⟨Tg_7_l, Tg_7_a, Tg_7_b⟩ := Tg_7.out
  clear Tg_6 Tg_6_l Tg_6_a Tg_6_b
  have Th_7 : Hid (Two w7 w6.heap.size (.int .i64 (cS (fiC a0 a1 a2) a0)) (.slice b6 (cZ (fiC a0 a1 a2) (fiZ a0 a1 a2)).length c6)) := Lib.hid ((two_new w6 (.int .i64 (cS (fiC a0 a1 a2) a0)) (.slice b6 (cZ (fiC a0 a1 a2) (fiZ a0 a1 a2)).length c6) 25).keep hb7)
  obtain ⟨Th_7_l, Th_7_a, Th_7_b⟩ := Th_7.out
  have Om_7 : Hid (Row w7 w.heap.size w1.heap.size b1 (cZ (fiC a0 a1 a2) (fiZ a0 a1 a2)).length c1 (cZ (fiC a0 a1 a2) (fiZ a0 a1 a2))) := Lib.hid (Om_6.out.keep B7.out)
  clear Om_6
  have Og_7 : Hid (Row w7 (w1.heap.size + 1) w2.heap.size b2 (cZ (fiC a0 a1 a2) (fiZ a0 a1 a2)).length c2 (marks (1) (cZ (fiC a0 a1 a2) (fiZ a0 a1 a2)).length)) := Lib.hid (Og_6.out.keep B7.out)
  clear Og_6
  have Oh_7 : Hid (Row w7 w5.heap.size w6.heap.size b6 (cZ (fiC a0 a1 a2) (fiZ a0 a1 a2)).length c6 (cZ (fiC a0 a1 a2) (fiZ a0 a1 a2))) := Lib.hid (Oh_6.out.keep B7.out)
  clear Oh_6
  have A7 : Hid (Below w.heap.size w w7) := Lib.hid (A6.out.trans (B7.out.mono A6.out.size))
  clear A6
  clear hb7
  go_wp2_with fail
  refine (held_rhythm (1) _ b2 c2 (cZ (fiC a0 a1 a2) (fiZ a0 a1 a2)).length _ (Og_7.out.at (marks_int _ _ (by omega))) (by omega) (by omega)).mono ?_
  rintro e w8 ⟨rfl, hb8⟩
  have B8 : Hid (Below w7.heap.size w7 w8) := Lib.hid (hb8)
  have B8_size := B8.out.size
  have Tm_8 : Hid (Two w8 w1.heap.size (.int .i64 (cS (fiC a0 a1 a2) a0)) (.slice b1 (cZ (fiC a0 a1 a2) (fiZ a0 a1 a2)).length c1)) := Lib.hid (Tm_7.out.keep B8.out)
  obtain ⟨Tm_8_l, Tm_8_a, Tm_8_b⟩ := Tm_8.out
  clear Tm_7 Tm_7_l Tm_7_a Tm_7_b
  have Tg_8 : Hid (Two w8 w2.heap.size (.int .i64 (cS (fiC a0 a1 a2) a0)) (.slice b2 (cZ (fiC a0 a1 a2) (fiZ a0 a1 a2)).length c2)) := Lib.hid (Tg_7.out.keep B8.out)
  obtain ⟨Tg_8_l, Tg_8_a, Tg_8_b⟩ := Tg_8.out
  clear Tg_7 Tg_7_l Tg_7_a Tg_7_b
  have Th_8 : Hid (Two w8 w6.heap.size (.int .i64 (cS (fiC a0 a1 a2) a0)) (.slice b6 (cZ (fiC a0 a1 a2) (fiZ a0 a1 a2)).length c6)) := Lib.hid (Th_7.out.keep B8.out)
  obtain ⟨Th_8_l, Th_8_a, Th_8_b⟩ := Th_8.out
  clear Th_7 Th_7_l Th_7_a Th_7_b
  have Om_8 : Hid (Row w8 w.heap.size w1.heap.size b1 (cZ (fiC a0 a1 a2) (fiZ a0 a1 a2)).length c1 (cZ (fiC a0 a1 a2) (fiZ a0 a1 a2))) := Lib.hid (Om_7.out.keep B8.out)
  clear Om_7
  have Og_8 : Hid (Row w8 (w1.heap.size + 1) w2.heap.size b2 (cZ (fiC a0 a1 a2) (fiZ a0 a1 a2)).length c2 (marks (1) (cZ (fiC a0 a1 a2) (fiZ a0 a1 a2)).length)) := Lib.hid (Og_7.out.keep B8.out)
  clear Og_7
  have Oh_8 : Hid (Row w8 w5.heap.size w6.heap.size b6 (cZ (fiC a0 a1 a2) (fiZ a0 a1 a2)).length c6 (cZ (fiC a0 a1 a2) (fiZ a0 a1 a2))) := Lib.hid (Oh_7.out.keep B8.out)
  clear Oh_7
  have A8 : Hid (Below w.heap.size w w8) := Lib.hid (A7.out.trans (B8.out.mono A7.out.size))
  clear A7
  clear hb8
  go_wp2
  go_ret
  exact ⟨rfl, A8.out⟩

set_option maxRecDepth 100000 in
theorem lifted (os : Os) (started : os.Started) (H : Type) (enc : TypeId × Value → H) :
    ReturnsInHanded {} Try.checked os 9 .any (Rows.fnExactFirstAvoidingSpec.pre6 enc Try.prog Try.f9 Rows.fnExactFirstAvoidingRow.domain false) (Rows.fnExactFirstAvoidingSpec.post enc Try.prog Try.f9 false true false false) := by
  refine returnsInHanded_of_change (C := Try.checked) own started (by kernel_rfl) Try.func9
    (ChangeSpec.witness6 (enc := enc) (C := Try.checked) false ⟨#[], #[.int .i64 0, .int .i64 0, .int .i64 0], []⟩ 8 (by kernel_rfl) (by kernel_rfl) (by kernel_rfl) (by kernel_rfl)) ?_
  intro W base args ds gs before hval0 hW hcnd _
  have hval : ∀ (j : Nat) t v, Try.f9.params[j]? = some t → args[j]? = some v → Value.okWide Try.prog W .any base t v := hval0
  have hW' := hW
  obtain ⟨p, q, hA0, hV, rfl, hfz, hnd⟩ := hW
  have hA : DataW.TrodAll enc Try.prog W 0 (fun _ => true) true Try.f9.params.toList args.toList ds p := hA0
  rw [Try.params9] at hA hval
  obtain ⟨v0, vs0, d0, ds0, p0, q0, hargs, rfl, rfl, h0, r0⟩ := trodAll_cons hA
  obtain ⟨v1, vs1, d1, ds1, p1, q1, rfl, rfl, rfl, h1, r1⟩ := trodAll_cons r0
  obtain ⟨v2, vs2, d2, ds2, p2, q2, rfl, rfl, rfl, h2, r2⟩ := trodAll_cons r1
  obtain ⟨rfl, rfl, rfl⟩ := trodAll_nil r2
  obtain rfl : args = #[v0, v1, v2] := by cases args; simp_all
  obtain ⟨rfl, rfl⟩ := trodVars_none hV
  obtain ⟨a0, rfl, rfl, rfl, w0⟩ := open_int Try.underlying3 (hval 0 3 v0 rfl rfl) h0
  obtain ⟨a1, rfl, rfl, rfl, w1⟩ := open_int Try.underlying3 (hval 1 3 v1 rfl rfl) h1
  obtain ⟨a2, rfl, rfl, rfl, w2⟩ := open_int Try.underlying3 (hval 2 3 v2 rfl rfl) h2
  clear hA0 hval0
  simp only [List.append_nil] at hW'
  refine (walk a0 a1 a2 w0 w1 w2 W).mono fun e W' ⟨he, bel⟩ => ?_
  subst he
  exact ⟨_, rfl, _, _, _, [], [], [], hW', trodAll_mk1 (shut_bool Try.underlying4 _), (trodAll_cons_mk (shut_int Try.underlying3 w0) (trodAll_cons_mk (shut_int Try.underlying3 w1) (trodAll_cons_mk (shut_int Try.underlying3 w2) trodAll_mk0))), rfl, bel.frame _, fun h => by cases h⟩

theorem proved : Rows.FnExactFirstAvoidingSaid :=
  OpenClaim.holds_of_wide 9 Try.f9 rfl rfl rfl rfl rfl rfl rfl ⟨rfl, rfl, rfl, rfl, rfl⟩ rfl rfl rfl rfl rfl (by kernel_rfl) Try.func9 (by kernel_rfl)
    (of_decide_eq_true (by kernel_rfl)) (by unfold Func.isWrapper; rw [if_neg (of_decide_eq_false (by kernel_rfl))]; exact ⟨rfl, rfl⟩)
    (fun os started H enc _ => lifted os started H enc)
#print axioms proved
end Go.Proofs.Ytjgjcppkbfojpaa.fnExactFirstAvoiding
