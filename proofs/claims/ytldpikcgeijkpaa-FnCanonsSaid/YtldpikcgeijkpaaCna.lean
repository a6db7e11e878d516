/-
  Helpers of the claims beside this text: canons: whether a canon is one; whether it is tight: the model's and the program's.
-/
import Derived.Test.YtldpikcgeijkpaaCnn
import Derived.Test.YtldpikcgeijkpaaSug
namespace Go.Proofs.Ytldpikcgeijkpaa.Rhy
open Go.RowKit
set_option linter.unusedVariables false
set_option linter.unusedSimpArgs false

/-- Both rhythms are valid with one size and have beats. -/
def CC (s : Int) (xs : List Int) (t : Int) (ys : List Int) : Prop := (Ok s xs ∧ Ok t ys ∧ s = t) ∧ 0 < xs.length ∧ 0 < ys.length


set_option maxRecDepth 100000 in
theorem cval_impl (s : Int) (a : Option Addr) (n ca : Nat) (xs : List Int) (t : Int) (b : Option Addr) (m cb : Nat) (ys : List Int) (w : World) (ha : IntsAt w a n xs) (hn : xs.length ≤ 1048576) (hb : IntsAt w b m ys) (hm : ys.length ≤ 1048576) :
    Calls Try.prog 54 #[can s a n ca t b m cb] w fun e w' => e = .returned (.bool (cB (CC s xs t ys))) ∧ Below w.heap.size w w' := by
  have FA := Lib.hid ha
  have FB := Lib.hid hb
  have en : xs.length = n := ha.1
  have em : ys.length = m := hb.1
  clear ha hb
  by_cases ho : (Ok s xs ∧ Ok t ys ∧ s = t)
  · have HO := Lib.hid ho
    by_cases h0 : 0 < n
    · by_cases h1 : 0 < m
      · have HC : Hid (cB (CC s xs t ys) = true) := Lib.hid (cB_yes ⟨ho, by omega, by omega⟩)
        clear ho
        go_enter Try.func54, Try.ntmps54
        go_wp2_with fail
        refine (one_yes s a n ca xs t b m cb ys _ (FA.out.below (bel1 w _)) hn (FB.out.below (bel1 w _)) hm HO.out).mono ?_
        rintro e w1 ⟨rfl, hb1⟩
        have B1 := Lib.hid ((bel1 w (canCells s a n ca t b m cb 29)).trans (hb1.mono (by simp)))
        have F1 := Lib.hid ((four_new w (.int .i64 s) (.slice a n ca) (.int .i64 t) (.slice b m cb) 29).keep hb1)
        obtain ⟨f10, f11, f12, f13, f14⟩ := F1.out
        clear hb1
        go_wp2
        go_ret
        exact ⟨ret_bool HC.out.symm, B1.out⟩
      · have HC : Hid (cB (CC s xs t ys) = false) := Lib.hid (cB_no (fun h => h1 (by have := h.2.2; omega)))
        clear ho
        go_enter Try.func54, Try.ntmps54
        go_wp2_with fail
        refine (one_yes s a n ca xs t b m cb ys _ (FA.out.below (bel1 w _)) hn (FB.out.below (bel1 w _)) hm HO.out).mono ?_
        rintro e w1 ⟨rfl, hb1⟩
        have B1 := Lib.hid ((bel1 w (canCells s a n ca t b m cb 29)).trans (hb1.mono (by simp)))
        have F1 := Lib.hid ((four_new w (.int .i64 s) (.slice a n ca) (.int .i64 t) (.slice b m cb) 29).keep hb1)
        obtain ⟨f10, f11, f12, f13, f14⟩ := F1.out
        clear hb1
        go_wp2
        go_ret
        exact ⟨ret_bool HC.out.symm, B1.out⟩
    · have HC : Hid (cB (CC s xs t ys) = false) := Lib.hid (cB_no (fun h => h0 (by have := h.2.1; omega)))
      clear ho
      go_enter Try.func54, Try.ntmps54
      go_wp2_with fail
      refine (one_yes s a n ca xs t b m cb ys _ (FA.out.below (bel1 w _)) hn (FB.out.below (bel1 w _)) hm HO.out).mono ?_
      rintro e w1 ⟨rfl, hb1⟩
      have B1 := Lib.hid ((bel1 w (canCells s a n ca t b m cb 29)).trans (hb1.mono (by simp)))
      have F1 := Lib.hid ((four_new w (.int .i64 s) (.slice a n ca) (.int .i64 t) (.slice b m cb) 29).keep hb1)
      obtain ⟨f10, f11, f12, f13, f14⟩ := F1.out
      clear hb1
      go_wp2
      go_ret
      exact ⟨ret_bool HC.out.symm, B1.out⟩
  · have HC : Hid (cB (CC s xs t ys) = false) := Lib.hid (cB_no (fun h => ho h.1))
    have HO := Lib.hid ho
    clear ho
    go_enter Try.func54, Try.ntmps54
    go_wp2_with fail
    refine (one_no s a n ca xs t b m cb ys _ (FA.out.below (bel1 w _)) hn (FB.out.below (bel1 w _)) hm HO.out).mono ?_
    rintro e w1 ⟨rfl, hb1⟩
    have B1 := Lib.hid ((bel1 w (canCells s a n ca t b m cb 29)).trans (hb1.mono (by simp)))
    have F1 := Lib.hid ((four_new w (.int .i64 s) (.slice a n ca) (.int .i64 t) (.slice b m cb) 29).keep hb1)
    obtain ⟨f10, f11, f12, f13, f14⟩ := F1.out
    clear hb1
    go_wp2
    go_ret
    exact ⟨ret_bool HC.out.symm, B1.out⟩

set_option maxRecDepth 100000 in
theorem cok_impl (s : Int) (a : Option Addr) (n ca : Nat) (xs : List Int) (t : Int) (b : Option Addr) (m cb : Nat) (ys : List Int) (w : World) (ha : IntsAt w a n xs) (hn : xs.length ≤ 1048576) (hb : IntsAt w b m ys) (hm : ys.length ≤ 1048576) :
    Calls Try.prog 17 #[can s a n ca t b m cb] w fun e w' => e = .returned (.bool (cB (CC s xs t ys))) ∧ Below w.heap.size w w' := by
  have FA := Lib.hid ha
  have FB := Lib.hid hb
  clear ha hb
  go_enter Try.func17, Try.ntmps17
  go_wp2_with fail
  refine (cval_impl s a n ca xs t b m cb ys _ (FA.out.below (bel1 w _)) hn (FB.out.below (bel1 w _)) hm).mono ?_
  rintro e w1 ⟨rfl, hb1⟩
  have B1 := Lib.hid ((bel1 w (canCells s a n ca t b m cb 29)).trans (hb1.mono (by simp)))
  clear hb1
  go_wp2
  go_ret
  exact ⟨rfl, B1.out⟩

noncomputable def tgtB (s : Int) (xs : List Int) (t : Int) (ys : List Int) : Bool := cB (CC s xs t ys) && tilB s xs t ys

set_option maxRecDepth 100000 in
theorem tgt_impl (s : Int) (a : Option Addr) (n ca : Nat) (xs : List Int) (t : Int) (b : Option Addr) (m cb : Nat) (ys : List Int) (w : World) (ha : IntsAt w a n xs) (hn : xs.length ≤ 1048576) (hb : IntsAt w b m ys) (hm : ys.length ≤ 1048576) :
    Calls Try.prog 18 #[can s a n ca t b m cb] w fun e w' => e = .returned (.bool (tgtB s xs t ys)) ∧ Below w.heap.size w w' := by
  have FA := Lib.hid ha
  have FB := Lib.hid hb
  clear ha hb
  have HC := Lib.hid (fun W hA hB => cval_impl s a n ca xs t b m cb ys W hA hn hB hm)
  by_cases hc : CC s xs t ys
  · have HE : Hid (tgtB s xs t ys = tilB s xs t ys) := Lib.hid (by unfold tgtB; rw [cB_yes hc]; rfl)
    rw [cB_yes hc] at HC
    clear hc
    go_enter Try.func18, Try.ntmps18
    go_wp2_with fail
    refine (HC.out _ (FA.out.below (bel1 w _)) (FB.out.below (bel1 w _))).mono ?_
    rintro e w1 ⟨rfl, hb1⟩
    have B1 := Lib.hid ((bel1 w (canCells s a n ca t b m cb 29)).trans (hb1.mono (by simp)))
    have F1 := Lib.hid ((four_new w (.int .i64 s) (.slice a n ca) (.int .i64 t) (.slice b m cb) 29).keep hb1)
    obtain ⟨f10, f11, f12, f13, f14⟩ := F1.out
    clear hb1
    go_wp2_with fail
    refine (til_impl s a n ca xs t b m cb ys _ (FA.out.below B1.out) hn (FB.out.below B1.out) hm).mono ?_
    rintro e w2 ⟨rfl, hb2⟩
    have B2 := Lib.hid (B1.out.trans (hb2.mono B1.out.size))
    clear hb2
    go_wp2
    go_ret
    exact ⟨ret_bool HE.out.symm, B2.out⟩
  · have HE : Hid (tgtB s xs t ys = false) := Lib.hid (by unfold tgtB; rw [cB_no hc]; rfl)
    rw [cB_no hc] at HC
    clear hc
    go_enter Try.func18, Try.ntmps18
    go_wp2_with fail
    refine (HC.out _ (FA.out.below (bel1 w _)) (FB.out.below (bel1 w _))).mono ?_
    rintro e w1 ⟨rfl, hb1⟩
    have B1 := Lib.hid ((bel1 w (canCells s a n ca t b m cb 29)).trans (hb1.mono (by simp)))
    have F1 := Lib.hid ((four_new w (.int .i64 s) (.slice a n ca) (.int .i64 t) (.slice b m cb) 29).keep hb1)
    obtain ⟨f10, f11, f12, f13, f14⟩ := F1.out
    clear hb1
    go_wp2
    go_ret
    exact ⟨ret_bool HE.out.symm, B1.out⟩

end Go.Proofs.Ytldpikcgeijkpaa.Rhy
