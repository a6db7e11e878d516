/-
  Helpers of the claims beside this text: the program's FromSteps.
-/
import Derived.Test.YthcmpkhfimapgaaStp4
namespace Go.Proofs.Ythcmpkhfimapgaa.Rhy
open Go.RowKit
set_option linter.unusedVariables false

/-- When steps fill a bar. -/
def SizC (zs : List Int) : Prop := 0 < zs.length ∧ (∀ x ∈ zs, 1 ≤ x ∧ x ≤ 24) ∧ zs.sum ≤ 24
/-- What the first k steps must be for the rest to be looked at. -/
def SizP (zs : List Int) (k : Nat) : Prop := (∀ x ∈ zs.take k, 1 ≤ x ∧ x ≤ 24) ∧ (zs.take k).sum ≤ 24
theorem sizP_ge {zs : List Int} {k : Nat} (h : SizP zs k) : 0 ≤ (zs.take k).sum := by
  have := sum_ge (m := zs.take k) (fun x hx => (h.1 x hx).1)
  omega
theorem sizP_next {zs : List Int} {k : Nat} {z : Int} (h : SizP zs k) (hs : zs[k]? = some z) (hz : 1 ≤ z) (hn : z ≤ 24 - (zs.take k).sum) : SizP zs (k + 1) := by
  have := sizP_ge h
  refine ⟨?_, by rw [sum_snoc hs]; omega⟩
  intro x hx
  rw [List.take_add_one, hs] at hx
  rcases List.mem_append.mp hx with q | q
  · exact h.1 x q
  · have : x = z := by simpa using q
    omega
theorem sizC_not {zs : List Int} {k : Nat} {z : Int} (h : SizP zs k) (hs : zs[k]? = some z) (hz : z < 1 ∨ 24 - (zs.take k).sum < z) : ¬ SizC zs := by
  rintro ⟨_, h1, h2⟩
  have hx := h1 z (List.mem_of_getElem? hs)
  have h3 := sum_mono (m := zs) (fun x hx => by have := h1 x hx; omega) (k + 1)
  rw [sum_snoc hs] at h3
  omega



end Go.Proofs.Ythcmpkhfimapgaa.Rhy
