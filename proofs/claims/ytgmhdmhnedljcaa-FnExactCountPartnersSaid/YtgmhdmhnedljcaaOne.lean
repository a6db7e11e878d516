/-
  Helpers of the claims beside this text: haveOneSize of the program.
-/
import Derived.Test.YtgmhdmhnedljcaaHas
namespace Go.Proofs.Ytgmhdmhnedljcaa.Rhy
open Go.RowKit
set_option linter.unusedVariables false

noncomputable def oneB (s : Int) (xs : List Int) (t : Int) (ys : List Int) : Bool := okB s xs && okB t ys && decide (s = t)
theorem oneB_yes {s t : Int} {xs ys : List Int} (h : Ok s xs ∧ Ok t ys ∧ s = t) : oneB s xs t ys = true := by unfold oneB; rw [okB_yes h.1, okB_yes h.2.1]; simp [h.2.2]
theorem oneB_no {s t : Int} {xs ys : List Int} (h : ¬ (Ok s xs ∧ Ok t ys ∧ s = t)) : oneB s xs t ys = false := by
  unfold oneB
  by_cases h1 : Ok s xs
  · by_cases h2 : Ok t ys
    · have : s ≠ t := fun e => h ⟨h1, h2, e⟩
      simp [this]
    · rw [okB_no h2]; simp
  · rw [okB_no h1]; simp

end Go.Proofs.Ytgmhdmhnedljcaa.Rhy
