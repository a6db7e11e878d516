/-
  Helpers of the claims beside this text: SumCounts of both sides; the model's and the program's test of two rhythms.
-/
import Derived.Test.YtpgolnkhbnancaaSuc
import Derived.Test.YtpgolnkhbnancaaOne
namespace Go.Proofs.Ytpgolnkhbnancaa.Rhy
open Go.RowKit
set_option linter.unusedVariables false
set_option linter.unusedSimpArgs false

theorem one_yes (s : Int) (a : Option Addr) (n ca : Nat) (xs : List Int) (t : Int) (b : Option Addr) (m cb : Nat) (ys : List Int) (w : World) (ha : IntsAt w a n xs) (hn : xs.length ≤ 1048576) (hb : IntsAt w b m ys) (hm : ys.length ≤ 1048576) (hc : (Ok s xs ∧ Ok t ys ∧ s = t)) :
    Calls Try.prog 57 #[rhy s a n ca, rhy t b m cb] w fun e w' => e = .returned (.bool true) ∧ Below w.heap.size w w' :=
  (one_any s a n ca xs t b m cb ys w ha hn hb hm).mono fun e w' h => ⟨by rw [h.1, oneB_yes hc], h.2⟩
theorem one_no (s : Int) (a : Option Addr) (n ca : Nat) (xs : List Int) (t : Int) (b : Option Addr) (m cb : Nat) (ys : List Int) (w : World) (ha : IntsAt w a n xs) (hn : xs.length ≤ 1048576) (hb : IntsAt w b m ys) (hm : ys.length ≤ 1048576) (hc : ¬ (Ok s xs ∧ Ok t ys ∧ s = t)) :
    Calls Try.prog 57 #[rhy s a n ca, rhy t b m cb] w fun e w' => e = .returned (.bool false) ∧ Below w.heap.size w w' :=
  (one_any s a n ca xs t b m cb ys w ha hn hb hm).mono fun e w' h => ⟨by rw [h.1, oneB_no hc], h.2⟩
/-- What both answer. -/
noncomputable def sumcB (s : Int) (xs : List Int) (t : Int) (ys : List Int) : List Int := cZ (Ok s xs ∧ Ok t ys ∧ s = t) (cntZ s.toNat (sumL s xs ys))
theorem sumcB_int (s : Int) (xs : List Int) (t : Int) (ys : List Int) : AllInt (sumcB s xs t ys) := by
  unfold sumcB
  by_cases h : (Ok s xs ∧ Ok t ys ∧ s = t)
  · rw [cZ_yes h]; exact cntS_int h.1 (by rw [h.2.2]; exact h.2.1) _
  · rw [cZ_no h]; intro z hz; cases hz
theorem sumcB_len (s : Int) (xs : List Int) (t : Int) (ys : List Int) : (sumcB s xs t ys).length ≤ 24 := by
  unfold sumcB
  by_cases h : (Ok s xs ∧ Ok t ys ∧ s = t)
  · rw [cZ_yes h, cnt_len]; have := h.1.1; omega
  · rw [cZ_no h]; simp

set_option maxHeartbeats 400000 in
theorem sumc_spec (s : Int) (a : Option Addr) (n ca : Nat) (xs : List Int) (t : Int) (b : Option Addr) (m cb : Nat) (ys : List Int) (w : World) (ha : IntsAt w a n xs) (hn : xs.length ≤ 1048576) (hb : IntsAt w b m ys) (hm : ys.length ≤ 1048576) :
    Calls Try.prog 29 #[rhy s a n ca, rhy t b m cb] w (IPost (sumcB s xs t ys) w) := by
  have FA := Lib.hid ha
  have FB := Lib.hid hb
  have hn' : n ≤ 1048576 := by have := ha.1; omega
  have hm' : m ≤ 1048576 := by have := hb.1; omega
  clear ha hb
  obtain ⟨W0, hW⟩ : ∃ W0, W0 = (w.alloc (.cells #[.int .i64 s, .slice a n ca] 26)).alloc (.cells #[.int .i64 t, .slice b m cb] 26) := ⟨_, rfl⟩
  have HW := Lib.hid hW
  have HB0 := Lib.hid (show Below w.heap.size w W0 by rw [hW]; exact bel2 w _ _)
  have HX0 : Hid (RhI W0 w.heap.size s a n ca xs) := Lib.hid ⟨by rw [hW]; exact (box_new w _ _ _).keep (bel1 _ _) (by simp), FA.out.below HB0.out⟩
  have HY0 : Hid (RhI W0 (w.heap.size + 1) t b m cb ys) := Lib.hid ⟨by rw [hW]; simpa using box_new (w.alloc (.cells #[.int .i64 s, .slice a n ca] 26)) (.int .i64 t) (.slice b m cb) 26, FB.out.below HB0.out⟩
  clear hW FA FB
  by_cases hc : (Ok s xs ∧ Ok t ys ∧ s = t)
  · obtain ⟨hx, hy, hst⟩ := hc
    subst hst
    obtain ⟨q, rfl⟩ : ∃ q : Nat, s = q := ⟨s.toNat, by have := hx.1; omega⟩
    have hq1 : 1 ≤ q := by have := hx.1; omega
    have hq24 : q ≤ 24 := by have := hx.1; omega
    have HO := Lib.hid hx
    have HP := Lib.hid hy
    clear hx hy
    have HE : Hid (sumcB q xs q ys = cntZ q (sumL q xs ys)) := Lib.hid (by unfold sumcB; rw [cZ_yes ⟨HO.out, HP.out, rfl⟩]; rfl)
    obtain ⟨c0, c1, f0, f1⟩ := HX0.out.1.facts
    obtain ⟨d0, d1, g0, g1⟩ := HY0.out.1.facts
    go_enter Try.func29, Try.ntmps29
    go_wp2_with fail
    rw [← HW.out]
    refine (two_yes q a n ca xs q b m cb ys _ HX0.out.2 hn HY0.out.2 hm ⟨HO.out, HP.out, rfl⟩).mono ?_
    rintro e w1 ⟨rfl, hb1⟩
    have HB1 := Lib.hid (HB0.out.trans (hb1.mono HB0.out.size))
    have HX1 := Lib.hid (HX0.out.keep hb1)
    have HY1 := Lib.hid (HY0.out.keep hb1)
    clear c0 c1 f0 f1 d0 d1 g0 g1 hb1
    obtain ⟨c0, c1, f0, f1⟩ := HX1.out.1.facts
    obtain ⟨d0, d1, g0, g1⟩ := HY1.out.1.facts
    go_wp2_with fail
    refine (cnt0_spec q a n ca xs b m cb ys _ HX1.out.2 hn' HY1.out.2 hm' HO.out HP.out).mono ?_
    rintro e w2 ⟨a2, c2, rfl, hown, hb2⟩
    have HB2 := Lib.hid (HB1.out.trans (hb2.mono HB1.out.size))
    have HOW := Lib.hid (own_base hown HB1.out.size)
    clear c0 c1 f0 f1 d0 d1 g0 g1 hb2 hown
    go_wp2
    go_ret
    rw [HE.out]
    exact ⟨a2, c2, rfl, HOW.out, HB2.out⟩
  · have HC := Lib.hid hc
    clear hc
    obtain ⟨c0, c1, f0, f1⟩ := HX0.out.1.facts
    obtain ⟨d0, d1, g0, g1⟩ := HY0.out.1.facts
    go_enter Try.func29, Try.ntmps29
    go_wp2_with fail
    rw [← HW.out]
    refine (two_no s a n ca xs t b m cb ys _ HX0.out.2 hn HY0.out.2 hm HC.out).mono ?_
    rintro e w1 ⟨rfl, hb1⟩
    have HB1 := Lib.hid (HB0.out.trans (hb1.mono HB0.out.size))
    have HX1 := Lib.hid (HX0.out.keep hb1)
    have HY1 := Lib.hid (HY0.out.keep hb1)
    clear c0 c1 f0 f1 d0 d1 g0 g1 hb1
    obtain ⟨c0, c1, f0, f1⟩ := HX1.out.1.facts
    obtain ⟨d0, d1, g0, g1⟩ := HY1.out.1.facts
    go_wp2
    go_ret
    exact ipost_nil HC.out HB1.out

set_option maxHeartbeats 400000 in
theorem sumc_impl (s : Int) (a : Option Addr) (n ca : Nat) (xs : List Int) (t : Int) (b : Option Addr) (m cb : Nat) (ys : List Int) (w : World) (ha : IntsAt w a n xs) (hn : xs.length ≤ 1048576) (hb : IntsAt w b m ys) (hm : ys.length ≤ 1048576) :
    Calls Try.prog 16 #[rhy s a n ca, rhy t b m cb] w (IPost (sumcB s xs t ys) w) := by
  have FA := Lib.hid ha
  have FB := Lib.hid hb
  have hn' : n ≤ 1048576 := by have := ha.1; omega
  have hm' : m ≤ 1048576 := by have := hb.1; omega
  clear ha hb
  obtain ⟨W0, hW⟩ : ∃ W0, W0 = (w.alloc (.cells #[.int .i64 s, .slice a n ca] 26)).alloc (.cells #[.int .i64 t, .slice b m cb] 26) := ⟨_, rfl⟩
  have HW := Lib.hid hW
  have HB0 := Lib.hid (show Below w.heap.size w W0 by rw [hW]; exact bel2 w _ _)
  have HX0 : Hid (RhI W0 w.heap.size s a n ca xs) := Lib.hid ⟨by rw [hW]; exact (box_new w _ _ _).keep (bel1 _ _) (by simp), FA.out.below HB0.out⟩
  have HY0 : Hid (RhI W0 (w.heap.size + 1) t b m cb ys) := Lib.hid ⟨by rw [hW]; simpa using box_new (w.alloc (.cells #[.int .i64 s, .slice a n ca] 26)) (.int .i64 t) (.slice b m cb) 26, FB.out.below HB0.out⟩
  clear hW FA FB
  by_cases hc : (Ok s xs ∧ Ok t ys ∧ s = t)
  · obtain ⟨hx, hy, hst⟩ := hc
    subst hst
    obtain ⟨q, rfl⟩ : ∃ q : Nat, s = q := ⟨s.toNat, by have := hx.1; omega⟩
    have hq1 : 1 ≤ q := by have := hx.1; omega
    have hq24 : q ≤ 24 := by have := hx.1; omega
    have HO := Lib.hid hx
    have HP := Lib.hid hy
    clear hx hy
    have HE : Hid (sumcB q xs q ys = cntZ q (sumL q xs ys)) := Lib.hid (by unfold sumcB; rw [cZ_yes ⟨HO.out, HP.out, rfl⟩]; rfl)
    obtain ⟨c0, c1, f0, f1⟩ := HX0.out.1.facts
    obtain ⟨d0, d1, g0, g1⟩ := HY0.out.1.facts
    go_enter Try.func16, Try.ntmps16
    go_wp2_with fail
    rw [← HW.out]
    refine (one_yes q a n ca xs q b m cb ys _ HX0.out.2 hn HY0.out.2 hm ⟨HO.out, HP.out, rfl⟩).mono ?_
    rintro e w1 ⟨rfl, hb1⟩
    have HB1 := Lib.hid (HB0.out.trans (hb1.mono HB0.out.size))
    have HX1 := Lib.hid (HX0.out.keep hb1)
    have HY1 := Lib.hid (HY0.out.keep hb1)
    clear c0 c1 f0 f1 d0 d1 g0 g1 hb1
    obtain ⟨c0, c1, f0, f1⟩ := HX1.out.1.facts
    obtain ⟨d0, d1, g0, g1⟩ := HY1.out.1.facts
    go_wp2_with fail
    refine (cnt0_impl q a n ca xs b m cb ys _ HX1.out.2 hn' HY1.out.2 hm' HO.out HP.out).mono ?_
    rintro e w2 ⟨a2, c2, rfl, hown, hb2⟩
    have HB2 := Lib.hid (HB1.out.trans (hb2.mono HB1.out.size))
    have HOW := Lib.hid (own_base hown HB1.out.size)
    clear c0 c1 f0 f1 d0 d1 g0 g1 hb2 hown
    go_wp2
    go_ret
    rw [HE.out]
    exact ⟨a2, c2, rfl, HOW.out, HB2.out⟩
  · have HC := Lib.hid hc
    clear hc
    obtain ⟨c0, c1, f0, f1⟩ := HX0.out.1.facts
    obtain ⟨d0, d1, g0, g1⟩ := HY0.out.1.facts
    go_enter Try.func16, Try.ntmps16
    go_wp2_with fail
    rw [← HW.out]
    refine (one_no s a n ca xs t b m cb ys _ HX0.out.2 hn HY0.out.2 hm HC.out).mono ?_
    rintro e w1 ⟨rfl, hb1⟩
    have HB1 := Lib.hid (HB0.out.trans (hb1.mono HB0.out.size))
    have HX1 := Lib.hid (HX0.out.keep hb1)
    have HY1 := Lib.hid (HY0.out.keep hb1)
    clear c0 c1 f0 f1 d0 d1 g0 g1 hb1
    obtain ⟨c0, c1, f0, f1⟩ := HX1.out.1.facts
    obtain ⟨d0, d1, g0, g1⟩ := HY1.out.1.facts
    go_wp2
    go_ret
    exact ipost_nil HC.out HB1.out
end Go.Proofs.Ytpgolnkhbnancaa.Rhy
