/-
  Helpers of the claims beside this text: RotationsOf and IsLeastRotation of both sides.
-/
import Derived.Test.YtgmhdmhnedljcaaLsi
namespace Go.Proofs.Ytgmhdmhnedljcaa.Rhy
open Go.RowKit
set_option linter.unusedVariables false

/-- What both answer: no rotations of a rhythm that is not valid. -/
noncomputable def roB (s : Int) (zs : List Int) : List (List Int) := @ite _ (Ok s zs) (Classical.propDecidable _) (rotsZ s zs) []
theorem roB_yes {s : Int} {zs : List Int} (h : Ok s zs) : roB s zs = rotsZ s zs := by simp [roB, h]
theorem roB_no {s : Int} {zs : List Int} (h : ¬ Ok s zs) : roB s zs = [] := by simp [roB, h]
noncomputable def ilrB (s : Int) (zs : List Int) : Bool := okB s zs && eqB (leastZ s zs) zs
theorem rs_none (s : Int) {w w' : World} (hb : Below w.heap.size w w') : RSPost s [] w (.returned (.slice none 0 0)) w' :=
  ⟨none, 0, [], rfl, items_nil _ _, rfl, hb⟩





end Go.Proofs.Ytgmhdmhnedljcaa.Rhy
