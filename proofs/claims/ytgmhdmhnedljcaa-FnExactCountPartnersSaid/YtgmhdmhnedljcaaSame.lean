/-
  Helpers of the claims beside this text: SameRhythm of the model and of the program.
-/
import Derived.Test.YtgmhdmhnedljcaaOne
namespace Go.Proofs.Ytgmhdmhnedljcaa.Rhy
open Go.RowKit
set_option linter.unusedVariables false

def eqB (xs ys : List Int) : Bool := decide (xs = ys)
theorem eqB_yes {xs ys : List Int} (h : xs = ys) : eqB xs ys = true := by simp [eqB, h]
theorem eqB_no {xs ys : List Int} (h : xs ≠ ys) : eqB xs ys = false := by simp [eqB, h]
theorem eqB_len {xs ys : List Int} (h : xs.length ≠ ys.length) : eqB xs ys = false := eqB_no (fun e => h (by rw [e]))
theorem eqB_at {xs ys : List Int} {k : Nat} {x y : Int} (hx : xs[k]? = some x) (hy : ys[k]? = some y) (h : x ≠ y) : eqB xs ys = false :=
  eqB_no (fun e => h (by rw [e, hy] at hx; exact (Option.some.inj hx).symm))
theorem eqB_all {xs ys : List Int} (hl : xs.length = ys.length) (h : ∀ j, j < xs.length → xs[j]? = ys[j]?) : eqB xs ys = true :=
  eqB_yes (List.ext_getElem? (fun j => by
    rcases Nat.lt_or_ge j xs.length with hj | hj
    · exact h j hj
    · rw [List.getElem?_eq_none hj, List.getElem?_eq_none (by omega)]))



noncomputable def sameB (s : Int) (xs : List Int) (t : Int) (ys : List Int) : Bool := okB s xs && okB t ys && decide (s = t) && eqB xs ys



end Go.Proofs.Ytgmhdmhnedljcaa.Rhy
