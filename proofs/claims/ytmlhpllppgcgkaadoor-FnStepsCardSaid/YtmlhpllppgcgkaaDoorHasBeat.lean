/-
  Helpers of the claims beside this text: whether a rhythm has a beat: the program's method.
-/
import Derived.Test.YtmlhpllppgcgkaaDoorHas
namespace Go.Proofs.YtmlhpllppgcgkaaDoor.Rhy
open Go.RowKit
set_option linter.unusedVariables false

theorem same_of {P : Program} {f : Nat} {args : Array Value} {w : World} {v : Value} (h : Calls P f args w fun e w' => e = .returned v ∧ w' = w) : Calls P f args w fun e w' => e = .returned v ∧ w = w' :=
  h.mono fun e w' ⟨he, hw⟩ => ⟨he, hw.symm⟩


end Go.Proofs.YtmlhpllppgcgkaaDoor.Rhy
