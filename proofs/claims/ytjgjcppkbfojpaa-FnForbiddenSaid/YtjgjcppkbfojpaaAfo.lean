/-
  Helpers of the claims beside this text: AreForms of both sides.
-/
import Derived.Test.YtjgjcppkbfojpaaFma
namespace Go.Proofs.Ytjgjcppkbfojpaa.Rhy
open Go.RowKit
set_option linter.unusedVariables false

set_option maxHeartbeats 1000000 in
theorem afor_spec (s : Int) (a : Option Addr) (n ca : Nat) (xs : List Int) (t : Int) (b : Option Addr) (m cb : Nat) (ys : List Int) (w : World) (ha : IntsAt w a n xs) (hn : xs.length ≤ 1048576) (hb : IntsAt w b m ys) (hm : ys.length ≤ 1048576) :
    Calls Try.prog 104 #[rhy s a n ca, rhy t b m cb] w fun e w' => e = .returned (.bool (aforB s xs t ys)) ∧ Below w.heap.size w w' := by
  have FA := Lib.hid ha
  have FB := Lib.hid hb
  have ln : n ≤ 1048576 := by have := ha.1; omega
  have lm : m ≤ 1048576 := by have := hb.1; omega
  clear ha hb
  obtain ⟨W0, hW⟩ : ∃ W0, W0 = (w.alloc (.cells #[.int .i64 s, .slice a n ca] 25)).alloc (.cells #[.int .i64 t, .slice b m cb] 25) := ⟨_, rfl⟩
  have HW := Lib.hid hW
  have H0 := Lib.hid (start2 w W0 s a n ca t b m cb hW)
  clear hW
  obtain ⟨t0, t0a, t0b⟩ := H0.out.2.1
  obtain ⟨u0, u0a, u0b⟩ := H0.out.2.2
  by_cases ho : Ok s xs
  · have HOA := Lib.hid ho
    have hlm : (ofZ s.toNat (mapL s xs (-1) 0)).length ≤ 1048576 := Nat.le_trans (ofZ_len _ _) (by have := ho.1; omega)
    have HMI := Lib.hid (rotZ_int (s := s) (zs := xs) (u := -1) (k := 0) ho.1.2)
    have HCS := Lib.hid (cS_yes (s := s) ho)
    have HCZ := Lib.hid (cZ_yes (l := (ofZ s.toNat (mapL s xs (-1) 0))) ho)
    have HCB := Lib.hid (cB_yes ho)
    have HEB := Lib.hid (okB_yes ho)
    clear ho
    go_enter Try.func104, Try.ntmps104
    go_wp2_with fail
    rw [← HW.out]
    refine (mir_spec s a n ca xs _ (FA.out.below H0.out.1) hn).mono ?_
    rintro e w1 ⟨am, cm, rfl, hown, hb1⟩
    rw [HCS.out, HCZ.out, HCB.out]
    rw [HCZ.out] at hown
    have B1 := Lib.hid (H0.out.1.trans (hb1.mono H0.out.1.size))
    have IM := Lib.hid (intsAt_own hown HMI.out)
    have T1 := Lib.hid (H0.out.2.1.keep hb1)
    have U1 := Lib.hid (H0.out.2.2.keep hb1)
    clear hown hb1 t0 t0a t0b u0 u0a u0b
    obtain ⟨t1, t1a, t1b⟩ := T1.out
    obtain ⟨u1, u1a, u1b⟩ := U1.out
    go_wp2_with fail
    refine (arot_spec s a n ca xs t b m cb ys _ (FA.out.below (B1.out.alloc B1.out.size _)) hn (FB.out.below (B1.out.alloc B1.out.size _)) hm).mono ?_
    rintro e w2 ⟨rfl, hb2⟩
    have B2 : Hid (Below w.heap.size w w2) := Lib.hid ((B1.out.alloc B1.out.size _).trans (hb2.mono (by have := B1.out.size; simp; omega)))
    have M2 := Lib.hid ((two_new w1 (.int .i64 s) (.slice am (ofZ s.toNat (mapL s xs (-1) 0)).length cm) 25).keep hb2)
    have U2 := Lib.hid ((U1.out.keep (bel1 w1 _)).keep hb2)
    have I2 := Lib.hid (IM.out.below ((bel1 w1 _).trans (hb2.mono (by simp))))
    clear hb2 t1 t1a t1b u1 u1a u1b
    cases h1 : arotB s xs t ys
    · have HE : Hid (aforB s xs t ys = arotB s (ofZ s.toNat (mapL s xs (-1) 0)) t ys) := Lib.hid (by unfold aforB; rw [HEB.out, h1]; rfl)
      clear h1
      obtain ⟨m2, m2a, m2b⟩ := M2.out
      obtain ⟨u2, u2a, u2b⟩ := U2.out
      go_wp2_with fail
      refine (arot_spec s am (ofZ s.toNat (mapL s xs (-1) 0)).length cm (ofZ s.toNat (mapL s xs (-1) 0)) t b m cb ys _ I2.out hlm (FB.out.below B2.out) hm).mono ?_
      rintro e w3 ⟨rfl, hb3⟩
      have B3 := Lib.hid (B2.out.trans (hb3.mono B2.out.size))
      clear hb3
      go_wp2
      go_ret
      exact ⟨ret_bool HE.out.symm, B3.out⟩
    · have HE : Hid (aforB s xs t ys = true) := Lib.hid (by unfold aforB; rw [HEB.out, h1]; rfl)
      clear h1
      go_wp2
      go_ret
      exact ⟨ret_bool HE.out.symm, B2.out⟩
  · have HOA := Lib.hid ho
    have HCS := Lib.hid (cS_no (s := s) ho)
    have HCZ := Lib.hid (cZ_no (l := (ofZ s.toNat (mapL s xs (-1) 0))) ho)
    have HCB := Lib.hid (cB_no ho)
    have HE : Hid (aforB s xs t ys = false) := Lib.hid (by unfold aforB; rw [okB_no ho]; rfl)
    clear ho
    go_enter Try.func104, Try.ntmps104
    go_wp2_with fail
    rw [← HW.out]
    refine (mir_spec s a n ca xs _ (FA.out.below H0.out.1) hn).mono ?_
    rintro e w1 ⟨am, cm, rfl, hown, hb1⟩
    rw [HCS.out, HCZ.out, HCB.out]
    have B1 := Lib.hid (H0.out.1.trans (hb1.mono H0.out.1.size))
    clear hown hb1 t0 t0a t0b u0 u0a u0b
    go_wp2
    go_ret
    exact ⟨ret_bool HE.out.symm, B1.out.alloc B1.out.size _⟩

set_option maxHeartbeats 1000000 in
theorem afor_impl (s : Int) (a : Option Addr) (n ca : Nat) (xs : List Int) (t : Int) (b : Option Addr) (m cb : Nat) (ys : List Int) (w : World) (ha : IntsAt w a n xs) (hn : xs.length ≤ 1048576) (hb : IntsAt w b m ys) (hm : ys.length ≤ 1048576) :
    Calls Try.prog 27 #[rhy s a n ca, rhy t b m cb] w fun e w' => e = .returned (.bool (aforB s xs t ys)) ∧ Below w.heap.size w w' := by
  have FA := Lib.hid ha
  have FB := Lib.hid hb
  have ln : n ≤ 1048576 := by have := ha.1; omega
  have lm : m ≤ 1048576 := by have := hb.1; omega
  clear ha hb
  obtain ⟨W0, hW⟩ : ∃ W0, W0 = (w.alloc (.cells #[.int .i64 s, .slice a n ca] 25)).alloc (.cells #[.int .i64 t, .slice b m cb] 25) := ⟨_, rfl⟩
  have HW := Lib.hid hW
  have H0 := Lib.hid (start2 w W0 s a n ca t b m cb hW)
  clear hW
  obtain ⟨t0, t0a, t0b⟩ := H0.out.2.1
  obtain ⟨u0, u0a, u0b⟩ := H0.out.2.2
  by_cases ho : Ok s xs
  · have HOA := Lib.hid ho
    have hlm : (ofZ s.toNat (mapL s xs (-1) 0)).length ≤ 1048576 := Nat.le_trans (ofZ_len _ _) (by have := ho.1; omega)
    have HMI := Lib.hid (rotZ_int (s := s) (zs := xs) (u := -1) (k := 0) ho.1.2)
    have HCS := Lib.hid (cS_yes (s := s) ho)
    have HCZ := Lib.hid (cZ_yes (l := (ofZ s.toNat (mapL s xs (-1) 0))) ho)
    have HCB := Lib.hid (cB_yes ho)
    have HEB := Lib.hid (okB_yes ho)
    clear ho
    go_enter Try.func27, Try.ntmps27
    go_wp2_with fail
    rw [← HW.out]
    refine (mir_impl s a n ca xs _ (FA.out.below H0.out.1) hn).mono ?_
    rintro e w1 ⟨am, cm, rfl, hown, hb1⟩
    rw [HCS.out, HCZ.out, HCB.out]
    rw [HCZ.out] at hown
    have B1 := Lib.hid (H0.out.1.trans (hb1.mono H0.out.1.size))
    have IM := Lib.hid (intsAt_own hown HMI.out)
    have T1 := Lib.hid (H0.out.2.1.keep hb1)
    have U1 := Lib.hid (H0.out.2.2.keep hb1)
    clear hown hb1 t0 t0a t0b u0 u0a u0b
    obtain ⟨t1, t1a, t1b⟩ := T1.out
    obtain ⟨u1, u1a, u1b⟩ := U1.out
    go_wp2_with fail
    refine (arot_impl s a n ca xs t b m cb ys _ (FA.out.below (B1.out.alloc B1.out.size _)) hn (FB.out.below (B1.out.alloc B1.out.size _)) hm).mono ?_
    rintro e w2 ⟨rfl, hb2⟩
    have B2 : Hid (Below w.heap.size w w2) := Lib.hid ((B1.out.alloc B1.out.size _).trans (hb2.mono (by have := B1.out.size; simp; omega)))
    have M2 := Lib.hid ((two_new w1 (.int .i64 s) (.slice am (ofZ s.toNat (mapL s xs (-1) 0)).length cm) 25).keep hb2)
    have U2 := Lib.hid ((U1.out.keep (bel1 w1 _)).keep hb2)
    have I2 := Lib.hid (IM.out.below ((bel1 w1 _).trans (hb2.mono (by simp))))
    clear hb2 t1 t1a t1b u1 u1a u1b
    cases h1 : arotB s xs t ys
    · have HE : Hid (aforB s xs t ys = arotB s (ofZ s.toNat (mapL s xs (-1) 0)) t ys) := Lib.hid (by unfold aforB; rw [HEB.out, h1]; rfl)
      clear h1
      obtain ⟨m2, m2a, m2b⟩ := M2.out
      obtain ⟨u2, u2a, u2b⟩ := U2.out
      go_wp2_with fail
      refine (arot_impl s am (ofZ s.toNat (mapL s xs (-1) 0)).length cm (ofZ s.toNat (mapL s xs (-1) 0)) t b m cb ys _ I2.out hlm (FB.out.below B2.out) hm).mono ?_
      rintro e w3 ⟨rfl, hb3⟩
      have B3 := Lib.hid (B2.out.trans (hb3.mono B2.out.size))
      clear hb3
      go_wp2
      go_ret
      exact ⟨ret_bool HE.out.symm, B3.out⟩
    · have HE : Hid (aforB s xs t ys = true) := Lib.hid (by unfold aforB; rw [HEB.out, h1]; rfl)
      clear h1
      go_wp2
      go_ret
      exact ⟨ret_bool HE.out.symm, B2.out⟩
  · have HOA := Lib.hid ho
    have HCS := Lib.hid (cS_no (s := s) ho)
    have HCZ := Lib.hid (cZ_no (l := (ofZ s.toNat (mapL s xs (-1) 0))) ho)
    have HCB := Lib.hid (cB_no ho)
    have HE : Hid (aforB s xs t ys = false) := Lib.hid (by unfold aforB; rw [okB_no ho]; rfl)
    clear ho
    go_enter Try.func27, Try.ntmps27
    go_wp2_with fail
    rw [← HW.out]
    refine (mir_impl s a n ca xs _ (FA.out.below H0.out.1) hn).mono ?_
    rintro e w1 ⟨am, cm, rfl, hown, hb1⟩
    rw [HCS.out, HCZ.out, HCB.out]
    have B1 := Lib.hid (H0.out.1.trans (hb1.mono H0.out.1.size))
    clear hown hb1 t0 t0a t0b u0 u0a u0b
    go_wp2
    go_ret
    exact ⟨ret_bool HE.out.symm, B1.out.alloc B1.out.size _⟩

end Go.Proofs.Ytjgjcppkbfojpaa.Rhy
