/-
  Helpers of the claims beside this text: haveOneSize of the program.
-/
import Derived.Test.YtldpikcgeijkpaaHas
namespace Go.Proofs.Ytldpikcgeijkpaa.Rhy
open Go.RowKit
set_option linter.unusedVariables false

noncomputable def oneB (s : Int) (xs : List Int) (t : Int) (ys : List Int) : Bool := okB s xs && okB t ys && decide (s = t)
theorem oneB_yes {s t : Int} {xs ys : List Int} (h : Ok s xs ∧ Ok t ys ∧ s = t) : oneB s xs t ys = true := by unfold oneB; rw [okB_yes h.1, okB_yes h.2.1]; simp [h.2.2]
theorem oneB_no {s t : Int} {xs ys : List Int} (h : ¬ (Ok s xs ∧ Ok t ys ∧ s = t)) : oneB s xs t ys = false := by
  unfold oneB
  by_cases h1 : Ok s xs
  · by_cases h2 : Ok t ys
    · have : s ≠ t := fun e => h ⟨h1, h2, e⟩
      simp [this]
    · rw [okB_no h2]; simp
  · rw [okB_no h1]; simp
theorem one_any (s : Int) (a : Option Addr) (n ca : Nat) (xs : List Int) (t : Int) (b : Option Addr) (m cb : Nat) (ys : List Int) (w : World) (ha : IntsAt w a n xs) (hn : xs.length ≤ 1048576) (hb : IntsAt w b m ys) (hm : ys.length ≤ 1048576) :
    Calls Try.prog 83 #[rhy s a n ca, rhy t b m cb] w fun e w' => e = .returned (.bool (oneB s xs t ys)) ∧ Below w.heap.size w w' := by
  have FA := Lib.hid ha
  have FB := Lib.hid hb
  have ln : n ≤ 1048576 := by have := ha.1; omega
  have lm : m ≤ 1048576 := by have := hb.1; omega
  clear ha hb
  by_cases ho : Ok s xs
  · have HO := Lib.hid ho
    by_cases hp : Ok t ys
    · have HP := Lib.hid hp
      by_cases he : s = t
      · have HE : Hid (oneB s xs t ys = true) := Lib.hid (by unfold oneB; rw [okB_yes ho, okB_yes hp]; simp [he])
        have hq : (s == t) = true := by simpa using he
        clear ho hp he
        go_enter Try.func83, Try.ntmps83
        go_wp2_with fail
        refine (valid_yes s a n ca xs _ (FA.out.below (bel2 w _ _)) ln HO.out).mono ?_
        rintro e w1 ⟨rfl, hb1⟩
        have B1 := Lib.hid ((bel2 w (.cells #[.int .i64 s, .slice a n ca] 25) (.cells #[.int .i64 t, .slice b m cb] 25)).trans (hb1.mono (by simp; omega)))
        have T1 := Lib.hid (((two_new w (.int .i64 s) (.slice a n ca) 25).keep (bel1 _ (.cells #[.int .i64 t, .slice b m cb] 25))).keep hb1)
        have U1 := Lib.hid ((two_new (w.alloc (.cells #[.int .i64 s, .slice a n ca] 25)) (.int .i64 t) (.slice b m cb) 25).keep hb1)
        obtain ⟨t1, t1a, t1b⟩ := T1.out
        obtain ⟨u1, u1a, u1b⟩ := U1.out
        simp at u1 u1a u1b
        clear hb1
        go_wp2_with fail
        refine (valid_yes t b m cb ys _ (FB.out.below B1.out) lm HP.out).mono ?_
        rintro e w2 ⟨rfl, hb2⟩
        have B2 := Lib.hid (B1.out.trans (hb2.mono B1.out.size))
        have T2 := Lib.hid (T1.out.keep hb2)
        have U2 := Lib.hid (U1.out.keep hb2)
        obtain ⟨t2, t2a, t2b⟩ := T2.out
        obtain ⟨u2, u2a, u2b⟩ := U2.out
        simp at u2 u2a u2b
        clear hb2
        go_wp2
        go_ret
        exact ⟨ret_bool HE.out.symm, B2.out⟩
      · have HE : Hid (oneB s xs t ys = false) := Lib.hid (by unfold oneB; rw [okB_yes ho, okB_yes hp]; simp [he])
        have hq : (s == t) = false := by simpa using he
        clear ho hp he
        go_enter Try.func83, Try.ntmps83
        go_wp2_with fail
        refine (valid_yes s a n ca xs _ (FA.out.below (bel2 w _ _)) ln HO.out).mono ?_
        rintro e w1 ⟨rfl, hb1⟩
        have B1 := Lib.hid ((bel2 w (.cells #[.int .i64 s, .slice a n ca] 25) (.cells #[.int .i64 t, .slice b m cb] 25)).trans (hb1.mono (by simp; omega)))
        have T1 := Lib.hid (((two_new w (.int .i64 s) (.slice a n ca) 25).keep (bel1 _ (.cells #[.int .i64 t, .slice b m cb] 25))).keep hb1)
        have U1 := Lib.hid ((two_new (w.alloc (.cells #[.int .i64 s, .slice a n ca] 25)) (.int .i64 t) (.slice b m cb) 25).keep hb1)
        obtain ⟨t1, t1a, t1b⟩ := T1.out
        obtain ⟨u1, u1a, u1b⟩ := U1.out
        simp at u1 u1a u1b
        clear hb1
        go_wp2_with fail
        refine (valid_yes t b m cb ys _ (FB.out.below B1.out) lm HP.out).mono ?_
        rintro e w2 ⟨rfl, hb2⟩
        have B2 := Lib.hid (B1.out.trans (hb2.mono B1.out.size))
        have T2 := Lib.hid (T1.out.keep hb2)
        have U2 := Lib.hid (U1.out.keep hb2)
        obtain ⟨t2, t2a, t2b⟩ := T2.out
        obtain ⟨u2, u2a, u2b⟩ := U2.out
        simp at u2 u2a u2b
        clear hb2
        go_wp2
        go_ret
        exact ⟨ret_bool HE.out.symm, B2.out⟩
    · have HP := Lib.hid hp
      have HE : Hid (oneB s xs t ys = false) := Lib.hid (by unfold oneB; rw [okB_no hp]; simp)
      clear ho hp
      go_enter Try.func83, Try.ntmps83
      go_wp2_with fail
      refine (valid_yes s a n ca xs _ (FA.out.below (bel2 w _ _)) ln HO.out).mono ?_
      rintro e w1 ⟨rfl, hb1⟩
      have B1 := Lib.hid ((bel2 w (.cells #[.int .i64 s, .slice a n ca] 25) (.cells #[.int .i64 t, .slice b m cb] 25)).trans (hb1.mono (by simp; omega)))
      have T1 := Lib.hid (((two_new w (.int .i64 s) (.slice a n ca) 25).keep (bel1 _ (.cells #[.int .i64 t, .slice b m cb] 25))).keep hb1)
      have U1 := Lib.hid ((two_new (w.alloc (.cells #[.int .i64 s, .slice a n ca] 25)) (.int .i64 t) (.slice b m cb) 25).keep hb1)
      obtain ⟨t1, t1a, t1b⟩ := T1.out
      obtain ⟨u1, u1a, u1b⟩ := U1.out
      simp at u1 u1a u1b
      clear hb1
      go_wp2_with fail
      refine (valid_no t b m cb ys _ (FB.out.below B1.out) lm HP.out).mono ?_
      rintro e w2 ⟨rfl, hb2⟩
      have B2 := Lib.hid (B1.out.trans (hb2.mono B1.out.size))
      clear hb2
      go_wp2
      go_ret
      exact ⟨ret_bool HE.out.symm, B2.out⟩
  · have HO := Lib.hid ho
    have HE : Hid (oneB s xs t ys = false) := Lib.hid (by unfold oneB; rw [okB_no ho]; simp)
    clear ho
    go_enter Try.func83, Try.ntmps83
    go_wp2_with fail
    refine (valid_no s a n ca xs _ (FA.out.below (bel2 w _ _)) ln HO.out).mono ?_
    rintro e w1 ⟨rfl, hb1⟩
    have B1 := Lib.hid ((bel2 w (.cells #[.int .i64 s, .slice a n ca] 25) (.cells #[.int .i64 t, .slice b m cb] 25)).trans (hb1.mono (by simp; omega)))
    clear hb1
    go_wp2
    go_ret
    exact ⟨ret_bool HE.out.symm, B1.out⟩
end Go.Proofs.Ytldpikcgeijkpaa.Rhy
