/-
  Helpers of the claims beside this text: CountBeats and HasBeat of the model and of the program.
-/
import Derived.Test.YtcppmcacjjjjeaaHasBeat
namespace Go.Proofs.Ytcppmcacjjjjeaa.Rhy
open Go.RowKit
set_option linter.unusedVariables false

open Classical in
noncomputable def okB (s : Int) (zs : List Int) : Bool := decide (Ok s zs)
theorem okB_yes {s : Int} {zs : List Int} (h : Ok s zs) : okB s zs = true := by simp [okB, h]
theorem okB_no {s : Int} {zs : List Int} (h : ¬ Ok s zs) : okB s zs = false := by simp [okB, h]

open Classical in
noncomputable def countB (s : Int) (zs : List Int) : Int := if Ok s zs then zs.length else -1
theorem countB_yes {s : Int} {zs : List Int} (h : Ok s zs) : countB s zs = zs.length := by simp [countB, h]
theorem countB_no {s : Int} {zs : List Int} (h : ¬ Ok s zs) : countB s zs = -1 := by simp [countB, h]



noncomputable def beatB (s : Int) (zs : List Int) (k : Int) : Bool := okB s zs && hasB zs (remB k s)
theorem beatB_yes {s : Int} {zs : List Int} {k : Int} (h : Ok s zs) : beatB s zs k = hasB zs (remB k s) := by simp [beatB, okB_yes h]
theorem beatB_no {s : Int} {zs : List Int} {k : Int} (h : ¬ Ok s zs) : beatB s zs k = false := by simp [beatB, okB_no h]

theorem beat_impl (s : Int) (a : Option Addr) (len cap : Nat) (zs : List Int) (k : Int) (w : World) (h : IntsAt w a len zs) (hm : zs.length ≤ 1048576) (h3 : -9223372036854775808 ≤ k) (h4 : k ≤ 9223372036854775807) :
    Calls Try.prog 35 #[rhy s a len cap, .int .i64 k] w fun e w' => e = .returned (.bool (beatB s zs k)) ∧ Below w.heap.size w w' := by
  have HS := Lib.hid h
  have hl : len ≤ 1048576 := by have := h.1; omega
  clear h
  by_cases ho : Ok s zs
  · have HO := Lib.hid ho
    have hs1 := ho.1.1
    have hs2 := ho.1.2
    have HE := Lib.hid (beatB_yes (k := k) ho)
    clear ho
    go_enter Try.func35, Try.ntmps35
    go_wp2_with fail
    refine (valid_yes s a len cap zs _ (HS.out.below (bel1 w _)) hl HO.out).mono ?_
    rintro e w1 ⟨rfl, hb⟩
    have HB := Lib.hid ((bel1 w (.cells #[.int .i64 s, .slice a len cap] 25)).trans (hb.mono (by simp)))
    obtain ⟨c1, f1⟩ := bcell hb
    clear hb
    go_wp2_with fail
    refine (hasBeat_any s a len cap zs k _ (HS.out.below HB.out) hl hs1 hs2 h3 h4).mono ?_
    rintro e w2 ⟨rfl, hb2⟩
    have HB2 := Lib.hid hb2
    clear hb2
    go_wp2
    go_ret
    exact ⟨ret_bool HE.out.symm, HB.out.trans (HB2.out.mono HB.out.size)⟩
  · have HO := Lib.hid ho
    have HE := Lib.hid (beatB_no (k := k) ho)
    clear ho
    go_enter Try.func35, Try.ntmps35
    go_wp2_with fail
    refine (valid_no s a len cap zs _ (HS.out.below (bel1 w _)) hl HO.out).mono ?_
    rintro e w1 ⟨rfl, hb⟩
    have HB := Lib.hid hb
    clear hb
    go_wp2
    go_ret
    exact ⟨ret_bool HE.out.symm, (bel1 w _).trans (HB.out.mono (by simp))⟩


end Go.Proofs.Ytcppmcacjjjjeaa.Rhy
