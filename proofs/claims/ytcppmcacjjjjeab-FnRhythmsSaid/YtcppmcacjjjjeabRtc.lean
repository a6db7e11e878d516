/-
  Helpers of the claims beside this text: PeriodOf, IsPeriodic, RotationTo, AreRotations, AreForms, AxesOf, IsMirrored of both sides.
-/
import Derived.Test.YtcppmcacjjjjeabFmc
namespace Go.Proofs.Ytcppmcacjjjjeab.Rhy
open Go.RowKit
set_option linter.unusedVariables false

/-! What both sides answer. -/
noncomputable def ispB (s : Int) (zs : List Int) : Bool := okB s zs && decide ((perZ s zs : Int) < s)
noncomputable def rotToB (s : Int) (xs : List Int) (t : Int) (ys : List Int) : Int := @ite _ (Ok s xs ∧ Ok t ys) (Classical.propDecidable _) (rotToW s.toNat xs t ys) (-1)
theorem rotToB_yes {n : Nat} {xs : List Int} {t : Int} {ys : List Int} (hx : Ok n xs) (hy : Ok t ys) : rotToB n xs t ys = rotToW n xs t ys := by simp [rotToB, hx, hy]
theorem rotToB_no {s : Int} {xs : List Int} {t : Int} {ys : List Int} (h : ¬ (Ok s xs ∧ Ok t ys)) : rotToB s xs t ys = -1 := by unfold rotToB; rw [if_neg h]
noncomputable def arotB (s : Int) (xs : List Int) (t : Int) (ys : List Int) : Bool := decide (0 ≤ rotToB s xs t ys)
noncomputable def aforB (s : Int) (xs : List Int) (t : Int) (ys : List Int) : Bool := okB s xs && (arotB s xs t ys || arotB s (rotZ s xs (-1) 0) t ys)
noncomputable def axB (s : Int) (zs : List Int) : List Int := cZ (Ok s zs) (axesZ s zs)
theorem axB_yes {s : Int} {zs : List Int} (h : Ok s zs) : axB s zs = axesZ s zs := cZ_yes h
theorem axB_no {s : Int} {zs : List Int} (h : ¬ Ok s zs) : axB s zs = [] := cZ_no h
theorem axB_int (s : Int) (zs : List Int) : AllInt (axB s zs) := by
  by_cases h : Ok s zs
  · rw [axB_yes h]; exact axesP_int _ _ _ (by have := h.1; omega)
  · rw [axB_no h]; intro z hz; cases hz
theorem axB_len (s : Int) (zs : List Int) : (axB s zs).length ≤ 24 := by
  by_cases h : Ok s zs
  · rw [axB_yes h]; exact Nat.le_trans (axesP_len _ _ _) (by have := h.1; omega)
  · rw [axB_no h]; simp
noncomputable def ismB (s : Int) (zs : List Int) : Bool := decide (0 < (axB s zs).length)
theorem rotToB_bd (s : Int) (xs : List Int) (t : Int) (ys : List Int) : -1 ≤ rotToB s xs t ys ∧ rotToB s xs t ys ≤ 24 := by
  by_cases h : Ok s xs ∧ Ok t ys
  · obtain ⟨n, rfl⟩ : ∃ n : Nat, s = n := ⟨s.toNat, by have := h.1.1; omega⟩
    rw [rotToB_yes h.1 h.2]
    have := h.1.1.2
    unfold rotToW rotToZ
    split
    · split <;> omega
    · omega
  · rw [rotToB_no h]; omega
theorem start2 (w W0 : World) (s : Int) (a : Option Addr) (n ca : Nat) (t : Int) (b : Option Addr) (m cb : Nat) (hW : W0 = (w.alloc (.cells #[.int .i64 s, .slice a n ca] 25)).alloc (.cells #[.int .i64 t, .slice b m cb] 25)) :
    Below w.heap.size w W0 ∧ Two W0 w.heap.size (.int .i64 s) (.slice a n ca) ∧ Two W0 (w.heap.size + 1) (.int .i64 t) (.slice b m cb) := by
  subst hW
  refine ⟨bel2 w _ _, (two_new w _ _ _).keep (bel1 _ _), ?_⟩
  have := two_new (w.alloc (.cells #[.int .i64 s, .slice a n ca] 25)) (.int .i64 t) (.slice b m cb) 25
  simpa using this

set_option maxHeartbeats 400000 in
theorem period_impl (s : Int) (a : Option Addr) (len cap : Nat) (zs : List Int) (w : World) (h : IntsAt w a len zs) (hm : zs.length ≤ 1048576) :
    Calls Try.prog 18 #[rhy s a len cap] w fun e w' => e = .returned (.int .i64 (perB s zs)) ∧ Below w.heap.size w w' := by
  have HS := Lib.hid h
  have hl' : len ≤ 1048576 := by have := h.1; omega
  clear h
  by_cases ho : Ok s zs
  · have HE := Lib.hid (perB_yes ho)
    obtain ⟨n, rfl⟩ : ∃ n : Nat, s = n := ⟨s.toNat, by have := ho.1.1; omega⟩
    have HOK := Lib.hid ho
    clear ho
    go_enter Try.func18, Try.ntmps18
    go_wp2_with fail
    refine (valid_yes n a len cap zs _ (HS.out.below (bel1 w _)) hl' HOK.out).mono ?_
    rintro e w0 ⟨rfl, hb0⟩
    have HB0 := Lib.hid ((bel1 w (.cells #[.int .i64 n, .slice a len cap] 25)).trans (hb0.mono (by simp)))
    have T1 := Lib.hid ((two_new w (.int .i64 n) (.slice a len cap) 25).keep hb0)
    obtain ⟨t1, t1a, t1b⟩ := T1.out
    clear hb0
    go_wp2_with fail
    refine (period_any n a len cap zs w0 (HS.out.below HB0.out) hl' HOK.out).mono ?_
    rintro e w1 ⟨rfl, hb1⟩
    have HB1 := Lib.hid (HB0.out.trans (hb1.mono HB0.out.size))
    clear hb1
    go_wp2
    go_ret
    exact ⟨ret_int HE.out.symm, HB1.out⟩
  · have HOK := Lib.hid ho
    have HE := Lib.hid (perB_no ho)
    clear ho
    go_enter Try.func18, Try.ntmps18
    go_wp2_with fail
    refine (valid_no s a len cap zs _ (HS.out.below (bel1 w _)) hl' HOK.out).mono ?_
    rintro e w0 ⟨rfl, hb0⟩
    have HB0 := Lib.hid ((bel1 w (.cells #[.int .i64 s, .slice a len cap] 25)).trans (hb0.mono (by simp)))
    clear hb0
    go_wp2
    go_ret
    exact ⟨ret_int HE.out.symm, HB0.out⟩











end Go.Proofs.Ytcppmcacjjjjeab.Rhy
