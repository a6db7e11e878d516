/-
  Helpers of the claims beside this text: which of two rhythms of the model comes first.
-/
import Derived.Test.YtgmhdmhnedljcaaPer
namespace Go.Proofs.Ytgmhdmhnedljcaa.Rhy
open Go.RowKit
set_option linter.unusedVariables false

/-- At the first pulse from k on, of f pulses, at which they differ: has xs the beat? -/
def afterF (xs ys : List Int) (k : Nat) : Nat → Bool
  | 0 => false
  | f + 1 => if hasB xs k = hasB ys k then afterF xs ys (k + 1) f else hasB xs k
def afterB (n : Nat) (xs ys : List Int) : Bool := afterF xs ys 0 n
theorem after_eq {xs ys : List Int} {k n : Nat} (hk : k < n) (h : hasB xs k = hasB ys k) : afterF xs ys k (n - k) = afterF xs ys (k + 1) (n - (k + 1)) := by
  obtain ⟨f, hf⟩ : ∃ f, n - k = f + 1 := ⟨n - k - 1, by omega⟩
  rw [hf, show n - (k + 1) = f by omega]; simp [afterF, h]
theorem after_ne {xs ys : List Int} {k n : Nat} (hk : k < n) (h : hasB xs k ≠ hasB ys k) : afterF xs ys k (n - k) = hasB xs k := by
  obtain ⟨f, hf⟩ : ∃ f, n - k = f + 1 := ⟨n - k - 1, by omega⟩
  rw [hf]; simp [afterF, h]


end Go.Proofs.Ytgmhdmhnedljcaa.Rhy
