/-
  Helpers of the claims beside this text: CountBeats and HasBeat of the model and of the program.
-/
import Derived.Test.YthjkblekccpafaaHasBeat
namespace Go.Proofs.Ythjkblekccpafaa.Rhy
open Go.RowKit
set_option linter.unusedVariables false

open Classical in
noncomputable def okB (s : Int) (zs : List Int) : Bool := decide (Ok s zs)
theorem okB_yes {s : Int} {zs : List Int} (h : Ok s zs) : okB s zs = true := by simp [okB, h]
theorem okB_no {s : Int} {zs : List Int} (h : ¬ Ok s zs) : okB s zs = false := by simp [okB, h]

open Classical in
noncomputable def countB (s : Int) (zs : List Int) : Int := if Ok s zs then zs.length else -1
theorem countB_yes {s : Int} {zs : List Int} (h : Ok s zs) : countB s zs = zs.length := by simp [countB, h]
theorem countB_no {s : Int} {zs : List Int} (h : ¬ Ok s zs) : countB s zs = -1 := by simp [countB, h]



noncomputable def beatB (s : Int) (zs : List Int) (k : Int) : Bool := okB s zs && hasB zs (remB k s)
theorem beatB_yes {s : Int} {zs : List Int} {k : Int} (h : Ok s zs) : beatB s zs k = hasB zs (remB k s) := by simp [beatB, okB_yes h]
theorem beatB_no {s : Int} {zs : List Int} {k : Int} (h : ¬ Ok s zs) : beatB s zs k = false := by simp [beatB, okB_no h]



end Go.Proofs.Ythjkblekccpafaa.Rhy
