/-
  Helpers of the claims beside this text: the program's steps as an iterator.
-/
import Derived.Test.YthcmpkhfimapgaaStpA
namespace Go.Proofs.Ythcmpkhfimapgaa.Rhy
open Go.RowKit
set_option linter.unusedVariables false
attribute [local go_sem] Oper.semAt_some wide_fn wide_depth

theorem enters_steps : Enters 114 := enters_of Try.func114 (by kernel_rfl) rfl

/-- What a function answers that hands back an iterator over l; the numbers that it reads lay in w0. -/
def SeqPost (w0 w : World) (l : List Int) (e : Ending) (w' : World) : Prop :=
  ∃ lo, e = .returned (.func (.func 114) #[] #[.pointer (some ⟨lo, 0, none⟩), .pointer (some ⟨lo + 1, 0, none⟩)]) ∧ w.heap.size ≤ lo ∧ lo + 2 ≤ w'.heap.size ∧ Below w.heap.size w w' ∧
    Gives w0.heap.size lo (lo + 2) w' 114 #[.pointer (some ⟨lo, 0, none⟩), .pointer (some ⟨lo + 1, 0, none⟩)] l

theorem stepsFrom_any (s : Int) (a : Option Addr) (len cap : Nat) (zs : List Int) (i : Nat) (w0 w : World) (h : IntsAt w0 a len zs) (hb : Below w0.heap.size w0 w) (hm : len ≤ 1048576) (ho : 0 < len → Ok s zs ∧ i < len) :
    Calls Try.prog 90 #[rhy s a len cap, .int .i64 i] w (SeqPost w0 w (turnsP s zs i len)) := by
  have HS := Lib.hid h
  have HB := Lib.hid hb
  have HO := Lib.hid ho
  clear h hb ho
  go_enter Try.func90, Try.ntmps90
  go_wp2
  go_ret
  have b2 := bel2 w (.cells #[.int .i64 s, .slice a len cap] 26) (.cells #[.int .i64 i] 3)
  refine ⟨w.heap.size, rfl, Nat.le_refl _, by simp, b2, ?_⟩
  refine stepsFrom_gives s a len cap zs i w0 _ w.heap.size HS.out (HB.out.trans (b2.mono HB.out.size)) hm HO.out ((two_new w _ _ _).keep (bel1 _ _)) ?_ (by simp)
  simp

theorem ints_nil (w : World) (a : Option Addr) : IntsAt w a 0 [] := ⟨rfl, (fun z hz => by cases hz), fun h => absurd h (by omega)⟩

set_option maxHeartbeats 400000 in
theorem iter_any (s : Int) (a : Option Addr) (len cap : Nat) (zs : List Int) (w0 w : World) (h : IntsAt w0 a len zs) (hb : Below w0.heap.size w0 w) (hm : len ≤ 1048576) :
    Calls Try.prog 68 #[rhy s a len cap] w (SeqPost w0 w (stB s zs)) := by
  have HS := Lib.hid h
  have HB := Lib.hid hb
  have HSW := Lib.hid (h.below hb)
  clear h hb
  by_cases ho : Ok s zs
  · have HO := Lib.hid ho
    have HE := Lib.hid (show turnsP s zs 0 len = stB s zs by rw [stB_yes ho, ← turnsP_zero, HS.out.len])
    clear ho
    go_enter Try.func68, Try.ntmps68
    go_wp2_with fail
    refine (valid_yes s a len cap zs _ (HSW.out.below (bel1 w _)) hm HO.out).mono ?_
    rintro e w1 ⟨rfl, hb1⟩
    have B1 := Lib.hid ((bel1 w (.cells #[.int .i64 s, .slice a len cap] 26)).trans (hb1.mono (by simp)))
    have T1 := Lib.hid ((two_new w (.int .i64 s) (.slice a len cap) 26).keep hb1)
    obtain ⟨t1, t1a, t1b⟩ := T1.out
    clear hb1
    go_wp2_with fail
    refine (stepsFrom_any s a len cap zs 0 w0 w1 HS.out (HB.out.trans (B1.out.mono HB.out.size)) hm (fun h0 => ⟨HO.out, h0⟩)).mono ?_
    rintro e w2 ⟨lo, rfl, h1, h2, h3, h4⟩
    have H := Lib.hid (show w.heap.size ≤ lo ∧ lo + 2 ≤ w2.heap.size ∧ Below w.heap.size w w2 from ⟨by have := B1.out.size; omega, h2, B1.out.trans (h3.mono B1.out.size)⟩)
    have HG := Lib.hid h4
    clear h1 h2 h3 h4
    go_wp2
    go_ret
    rw [← HE.out]
    exact ⟨lo, rfl, H.out.1, H.out.2.1, H.out.2.2, HG.out⟩
  · have HO := Lib.hid ho
    have HE := Lib.hid (show turnsP 0 [] 0 0 = stB s zs by rw [stB_no ho]; rfl)
    clear ho
    go_enter Try.func68, Try.ntmps68
    go_wp2_with fail
    refine (valid_no s a len cap zs _ (HSW.out.below (bel1 w _)) hm HO.out).mono ?_
    rintro e w1 ⟨rfl, hb1⟩
    have B1 := Lib.hid ((bel1 w (.cells #[.int .i64 s, .slice a len cap] 26)).trans (hb1.mono (by simp)))
    have U1 := Lib.hid ((box_new w (.int .i64 s) (.slice a len cap) 26).keep hb1 (by simp))
    obtain ⟨q0, q1, q2, q3⟩ := U1.out.facts
    have l1 := U1.out.lt
    clear hb1
    go_wp2_with fail
    have B2 := Lib.hid (show Below w.heap.size w ((w1.setCell ⟨w.heap.size, 0, none⟩ (.int .i64 0)).setCell ⟨w.heap.size, 1, none⟩ (.slice none 0 0)) from (B1.out.setCell (by simp) _).setCell (by simp) _)
    refine (stepsFrom_any 0 none 0 0 [] 0 w0 _ (ints_nil w0 none) (HB.out.trans (B2.out.mono HB.out.size)) (by omega) (fun h0 => by omega)).mono ?_
    rintro e w2 ⟨lo, rfl, h1, h2, h3, h4⟩
    have H := Lib.hid (show w.heap.size ≤ lo ∧ lo + 2 ≤ w2.heap.size ∧ Below w.heap.size w w2 from ⟨by have := B2.out.size; omega, h2, B2.out.trans (h3.mono B2.out.size)⟩)
    have HG := Lib.hid h4
    clear h1 h2 h3 h4
    go_wp2
    go_ret
    rw [← HE.out]
    exact ⟨lo, rfl, H.out.1, H.out.2.1, H.out.2.2, HG.out⟩
end Go.Proofs.Ythcmpkhfimapgaa.Rhy
