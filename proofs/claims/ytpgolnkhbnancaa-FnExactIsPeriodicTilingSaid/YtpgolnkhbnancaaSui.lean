/-
  Helpers of the claims beside this text: periodic tilings: both sides.
-/
import Derived.Test.YtpgolnkhbnancaaSuh
import Derived.Test.YtpgolnkhbnancaaFma
namespace Go.Proofs.Ytpgolnkhbnancaa.Rhy
open Go.RowKit
set_option linter.unusedVariables false
set_option linter.unusedSimpArgs false

/-- What both answer. -/
noncomputable def pertB (s : Int) (xs : List Int) (t : Int) (ys : List Int) : Bool := tilB s xs t ys && (ispB s xs || ispB t ys)

set_option maxHeartbeats 400000 in
theorem pert_spec (s : Int) (a : Option Addr) (n ca : Nat) (xs : List Int) (t : Int) (b : Option Addr) (m cb : Nat) (ys : List Int) (w : World) (ha : IntsAt w a n xs) (hn : xs.length ≤ 1048576) (hb : IntsAt w b m ys) (hm : ys.length ≤ 1048576) :
    Calls Try.prog 50 #[rhy s a n ca, rhy t b m cb] w fun e w' => e = .returned (.bool (pertB s xs t ys)) ∧ Below w.heap.size w w' := by
  have FA := Lib.hid ha
  have FB := Lib.hid hb
  have hn' : n ≤ 1048576 := by have := ha.1; omega
  have hm' : m ≤ 1048576 := by have := hb.1; omega
  clear ha hb
  obtain ⟨W0, hW⟩ : ∃ W0, W0 = (w.alloc (.cells #[.int .i64 s, .slice a n ca] 26)).alloc (.cells #[.int .i64 t, .slice b m cb] 26) := ⟨_, rfl⟩
  have HW := Lib.hid hW
  have HB0 := Lib.hid (show Below w.heap.size w W0 by rw [hW]; exact bel2 w _ _)
  have HX0 : Hid (RhI W0 w.heap.size s a n ca xs) := Lib.hid ⟨by rw [hW]; exact (box_new w _ _ _).keep (bel1 _ _) (by simp), FA.out.below HB0.out⟩
  have HY0 : Hid (RhI W0 (w.heap.size + 1) t b m cb ys) := Lib.hid ⟨by rw [hW]; simpa using box_new (w.alloc (.cells #[.int .i64 s, .slice a n ca] 26)) (.int .i64 t) (.slice b m cb) 26, FB.out.below HB0.out⟩
  clear hW FA FB
  cases hd : tilB s xs t ys
  · have HD := Lib.hid hd
    have HE : Hid (pertB s xs t ys = false) := Lib.hid (by unfold pertB; rw [hd]; rfl)
    clear hd
    obtain ⟨c0, c1, f0, f1⟩ := HX0.out.1.facts
    obtain ⟨d0, d1, g0, g1⟩ := HY0.out.1.facts
    go_enter Try.func50, Try.ntmps50
    go_wp2_with fail
    rw [← HW.out]
    refine (til_spec s a n ca xs t b m cb ys _ HX0.out.2 hn HY0.out.2 hm).mono ?_
    rintro e w1 ⟨rfl, hb1⟩
    rw [HD.out]
    have HB1 := Lib.hid (HB0.out.trans (hb1.mono HB0.out.size))
    have HX1 := Lib.hid (HX0.out.keep hb1)
    have HY1 := Lib.hid (HY0.out.keep hb1)
    clear c0 c1 f0 f1 d0 d1 g0 g1 hb1
    obtain ⟨c0, c1, f0, f1⟩ := HX1.out.1.facts
    obtain ⟨d0, d1, g0, g1⟩ := HY1.out.1.facts
    go_wp2
    go_ret
    exact ⟨ret_bool HE.out.symm, HB1.out⟩
  · have HD := Lib.hid hd
    cases hpa : ispB s xs
    · have HA := Lib.hid hpa
      obtain ⟨r, hr⟩ : ∃ r, ispB t ys = r := ⟨_, rfl⟩
      have HBB := Lib.hid hr
      have HE : Hid (pertB s xs t ys = r) := Lib.hid (by unfold pertB; rw [hd, hpa, hr]; rfl)
      clear hd hpa hr
      obtain ⟨c0, c1, f0, f1⟩ := HX0.out.1.facts
      obtain ⟨d0, d1, g0, g1⟩ := HY0.out.1.facts
      go_enter Try.func50, Try.ntmps50
      go_wp2_with fail
      rw [← HW.out]
      refine (til_spec s a n ca xs t b m cb ys _ HX0.out.2 hn HY0.out.2 hm).mono ?_
      rintro e w1 ⟨rfl, hb1⟩
      rw [HD.out]
      have HB1 := Lib.hid (HB0.out.trans (hb1.mono HB0.out.size))
      have HX1 := Lib.hid (HX0.out.keep hb1)
      have HY1 := Lib.hid (HY0.out.keep hb1)
      clear c0 c1 f0 f1 d0 d1 g0 g1 hb1
      obtain ⟨c0, c1, f0, f1⟩ := HX1.out.1.facts
      obtain ⟨d0, d1, g0, g1⟩ := HY1.out.1.facts
      go_wp2_with fail
      refine (isper_spec s a n ca xs _ HX1.out.2 hn).mono ?_
      rintro e w2 ⟨rfl, hb2⟩
      rw [HA.out]
      have HB2 := Lib.hid (HB1.out.trans (hb2.mono HB1.out.size))
      have HX2 := Lib.hid (HX1.out.keep hb2)
      have HY2 := Lib.hid (HY1.out.keep hb2)
      clear c0 c1 f0 f1 d0 d1 g0 g1 hb2
      obtain ⟨c0, c1, f0, f1⟩ := HX2.out.1.facts
      obtain ⟨d0, d1, g0, g1⟩ := HY2.out.1.facts
      go_wp2_with fail
      refine (isper_spec t b m cb ys _ HY2.out.2 hm).mono ?_
      rintro e w3 ⟨rfl, hb3⟩
      rw [HBB.out]
      have HB3 := Lib.hid (HB2.out.trans (hb3.mono HB2.out.size))
      have HX3 := Lib.hid (HX2.out.keep hb3)
      have HY3 := Lib.hid (HY2.out.keep hb3)
      clear c0 c1 f0 f1 d0 d1 g0 g1 hb3
      obtain ⟨c0, c1, f0, f1⟩ := HX3.out.1.facts
      obtain ⟨d0, d1, g0, g1⟩ := HY3.out.1.facts
      go_wp2
      go_ret
      exact ⟨ret_bool HE.out.symm, HB3.out⟩
    · have HA := Lib.hid hpa
      have HE : Hid (pertB s xs t ys = true) := Lib.hid (by unfold pertB; rw [hd, hpa]; rfl)
      clear hd hpa
      obtain ⟨c0, c1, f0, f1⟩ := HX0.out.1.facts
      obtain ⟨d0, d1, g0, g1⟩ := HY0.out.1.facts
      go_enter Try.func50, Try.ntmps50
      go_wp2_with fail
      rw [← HW.out]
      refine (til_spec s a n ca xs t b m cb ys _ HX0.out.2 hn HY0.out.2 hm).mono ?_
      rintro e w1 ⟨rfl, hb1⟩
      rw [HD.out]
      have HB1 := Lib.hid (HB0.out.trans (hb1.mono HB0.out.size))
      have HX1 := Lib.hid (HX0.out.keep hb1)
      have HY1 := Lib.hid (HY0.out.keep hb1)
      clear c0 c1 f0 f1 d0 d1 g0 g1 hb1
      obtain ⟨c0, c1, f0, f1⟩ := HX1.out.1.facts
      obtain ⟨d0, d1, g0, g1⟩ := HY1.out.1.facts
      go_wp2_with fail
      refine (isper_spec s a n ca xs _ HX1.out.2 hn).mono ?_
      rintro e w2 ⟨rfl, hb2⟩
      rw [HA.out]
      have HB2 := Lib.hid (HB1.out.trans (hb2.mono HB1.out.size))
      have HX2 := Lib.hid (HX1.out.keep hb2)
      have HY2 := Lib.hid (HY1.out.keep hb2)
      clear c0 c1 f0 f1 d0 d1 g0 g1 hb2
      obtain ⟨c0, c1, f0, f1⟩ := HX2.out.1.facts
      obtain ⟨d0, d1, g0, g1⟩ := HY2.out.1.facts
      go_wp2
      go_ret
      exact ⟨ret_bool HE.out.symm, HB2.out⟩

set_option maxHeartbeats 400000 in
theorem pert_impl (s : Int) (a : Option Addr) (n ca : Nat) (xs : List Int) (t : Int) (b : Option Addr) (m cb : Nat) (ys : List Int) (w : World) (ha : IntsAt w a n xs) (hn : xs.length ≤ 1048576) (hb : IntsAt w b m ys) (hm : ys.length ≤ 1048576) :
    Calls Try.prog 51 #[rhy s a n ca, rhy t b m cb] w fun e w' => e = .returned (.bool (pertB s xs t ys)) ∧ Below w.heap.size w w' := by
  have FA := Lib.hid ha
  have FB := Lib.hid hb
  have hn' : n ≤ 1048576 := by have := ha.1; omega
  have hm' : m ≤ 1048576 := by have := hb.1; omega
  clear ha hb
  obtain ⟨W0, hW⟩ : ∃ W0, W0 = (w.alloc (.cells #[.int .i64 s, .slice a n ca] 26)).alloc (.cells #[.int .i64 t, .slice b m cb] 26) := ⟨_, rfl⟩
  have HW := Lib.hid hW
  have HB0 := Lib.hid (show Below w.heap.size w W0 by rw [hW]; exact bel2 w _ _)
  have HX0 : Hid (RhI W0 w.heap.size s a n ca xs) := Lib.hid ⟨by rw [hW]; exact (box_new w _ _ _).keep (bel1 _ _) (by simp), FA.out.below HB0.out⟩
  have HY0 : Hid (RhI W0 (w.heap.size + 1) t b m cb ys) := Lib.hid ⟨by rw [hW]; simpa using box_new (w.alloc (.cells #[.int .i64 s, .slice a n ca] 26)) (.int .i64 t) (.slice b m cb) 26, FB.out.below HB0.out⟩
  clear hW FA FB
  cases hd : tilB s xs t ys
  · have HD := Lib.hid hd
    have HE : Hid (pertB s xs t ys = false) := Lib.hid (by unfold pertB; rw [hd]; rfl)
    clear hd
    obtain ⟨c0, c1, f0, f1⟩ := HX0.out.1.facts
    obtain ⟨d0, d1, g0, g1⟩ := HY0.out.1.facts
    go_enter Try.func51, Try.ntmps51
    go_wp2_with fail
    rw [← HW.out]
    refine (til_impl s a n ca xs t b m cb ys _ HX0.out.2 hn HY0.out.2 hm).mono ?_
    rintro e w1 ⟨rfl, hb1⟩
    rw [HD.out]
    have HB1 := Lib.hid (HB0.out.trans (hb1.mono HB0.out.size))
    have HX1 := Lib.hid (HX0.out.keep hb1)
    have HY1 := Lib.hid (HY0.out.keep hb1)
    clear c0 c1 f0 f1 d0 d1 g0 g1 hb1
    obtain ⟨c0, c1, f0, f1⟩ := HX1.out.1.facts
    obtain ⟨d0, d1, g0, g1⟩ := HY1.out.1.facts
    go_wp2
    go_ret
    exact ⟨ret_bool HE.out.symm, HB1.out⟩
  · have HD := Lib.hid hd
    cases hpa : ispB s xs
    · have HA := Lib.hid hpa
      obtain ⟨r, hr⟩ : ∃ r, ispB t ys = r := ⟨_, rfl⟩
      have HBB := Lib.hid hr
      have HE : Hid (pertB s xs t ys = r) := Lib.hid (by unfold pertB; rw [hd, hpa, hr]; rfl)
      clear hd hpa hr
      obtain ⟨c0, c1, f0, f1⟩ := HX0.out.1.facts
      obtain ⟨d0, d1, g0, g1⟩ := HY0.out.1.facts
      go_enter Try.func51, Try.ntmps51
      go_wp2_with fail
      rw [← HW.out]
      refine (til_impl s a n ca xs t b m cb ys _ HX0.out.2 hn HY0.out.2 hm).mono ?_
      rintro e w1 ⟨rfl, hb1⟩
      rw [HD.out]
      have HB1 := Lib.hid (HB0.out.trans (hb1.mono HB0.out.size))
      have HX1 := Lib.hid (HX0.out.keep hb1)
      have HY1 := Lib.hid (HY0.out.keep hb1)
      clear c0 c1 f0 f1 d0 d1 g0 g1 hb1
      obtain ⟨c0, c1, f0, f1⟩ := HX1.out.1.facts
      obtain ⟨d0, d1, g0, g1⟩ := HY1.out.1.facts
      go_wp2_with fail
      refine (isper_impl s a n ca xs _ HX1.out.2 hn).mono ?_
      rintro e w2 ⟨rfl, hb2⟩
      rw [HA.out]
      have HB2 := Lib.hid (HB1.out.trans (hb2.mono HB1.out.size))
      have HX2 := Lib.hid (HX1.out.keep hb2)
      have HY2 := Lib.hid (HY1.out.keep hb2)
      clear c0 c1 f0 f1 d0 d1 g0 g1 hb2
      obtain ⟨c0, c1, f0, f1⟩ := HX2.out.1.facts
      obtain ⟨d0, d1, g0, g1⟩ := HY2.out.1.facts
      go_wp2_with fail
      refine (isper_impl t b m cb ys _ HY2.out.2 hm).mono ?_
      rintro e w3 ⟨rfl, hb3⟩
      rw [HBB.out]
      have HB3 := Lib.hid (HB2.out.trans (hb3.mono HB2.out.size))
      have HX3 := Lib.hid (HX2.out.keep hb3)
      have HY3 := Lib.hid (HY2.out.keep hb3)
      clear c0 c1 f0 f1 d0 d1 g0 g1 hb3
      obtain ⟨c0, c1, f0, f1⟩ := HX3.out.1.facts
      obtain ⟨d0, d1, g0, g1⟩ := HY3.out.1.facts
      go_wp2
      go_ret
      exact ⟨ret_bool HE.out.symm, HB3.out⟩
    · have HA := Lib.hid hpa
      have HE : Hid (pertB s xs t ys = true) := Lib.hid (by unfold pertB; rw [hd, hpa]; rfl)
      clear hd hpa
      obtain ⟨c0, c1, f0, f1⟩ := HX0.out.1.facts
      obtain ⟨d0, d1, g0, g1⟩ := HY0.out.1.facts
      go_enter Try.func51, Try.ntmps51
      go_wp2_with fail
      rw [← HW.out]
      refine (til_impl s a n ca xs t b m cb ys _ HX0.out.2 hn HY0.out.2 hm).mono ?_
      rintro e w1 ⟨rfl, hb1⟩
      rw [HD.out]
      have HB1 := Lib.hid (HB0.out.trans (hb1.mono HB0.out.size))
      have HX1 := Lib.hid (HX0.out.keep hb1)
      have HY1 := Lib.hid (HY0.out.keep hb1)
      clear c0 c1 f0 f1 d0 d1 g0 g1 hb1
      obtain ⟨c0, c1, f0, f1⟩ := HX1.out.1.facts
      obtain ⟨d0, d1, g0, g1⟩ := HY1.out.1.facts
      go_wp2_with fail
      refine (isper_impl s a n ca xs _ HX1.out.2 hn).mono ?_
      rintro e w2 ⟨rfl, hb2⟩
      rw [HA.out]
      have HB2 := Lib.hid (HB1.out.trans (hb2.mono HB1.out.size))
      have HX2 := Lib.hid (HX1.out.keep hb2)
      have HY2 := Lib.hid (HY1.out.keep hb2)
      clear c0 c1 f0 f1 d0 d1 g0 g1 hb2
      obtain ⟨c0, c1, f0, f1⟩ := HX2.out.1.facts
      obtain ⟨d0, d1, g0, g1⟩ := HY2.out.1.facts
      go_wp2
      go_ret
      exact ⟨ret_bool HE.out.symm, HB2.out⟩
end Go.Proofs.Ytpgolnkhbnancaa.Rhy
