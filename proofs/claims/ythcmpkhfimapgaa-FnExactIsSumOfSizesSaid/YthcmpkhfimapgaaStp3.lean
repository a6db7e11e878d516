/-
  Helpers of the claims beside this text: the model's TurnSteps.
-/
import Derived.Test.YthcmpkhfimapgaaStp2
import Derived.Test.YthcmpkhfimapgaaOf
import Derived.Test.YthcmpkhfimapgaaOut
namespace Go.Proofs.Ythcmpkhfimapgaa.Rhy
open Go.RowKit
set_option linter.unusedVariables false

theorem rev_snoc {l : List Int} {k j : Nat} {z : Int} (h : k + (j + 1) = l.length) (hs : l[j]? = some z) : l.reverse.take (k + 1) = l.reverse.take k ++ [z] := by
  have : l.reverse[k]? = some z := by
    rw [List.getElem?_reverse (by omega), show l.length - 1 - k = j by omega, hs]
  rw [List.take_add_one, this]
  rfl


/-- The beats from p0 on by the steps m, around. -/
def turnL (s p0 : Int) (m : List Int) (k : Nat) : List Int := (List.range k).map fun j => remB (p0 + (m.take j).sum) s
theorem turnL_len (s p0 : Int) (m : List Int) (k : Nat) : (turnL s p0 m k).length = k := by simp [turnL]
theorem turnL_snoc (s p0 : Int) (m : List Int) (k : Nat) : turnL s p0 m (k + 1) = turnL s p0 m k ++ [remB (p0 + (m.take k).sum) s] := by simp [turnL, List.range_succ]
theorem turnL_int {s p0 : Int} {m : List Int} {k : Nat} (h1 : 1 ≤ s) (h2 : s ≤ 1000) : AllInt (turnL s p0 m k) := by
  intro z hz
  unfold turnL at hz
  rw [List.mem_map] at hz
  obtain ⟨p, _, rfl⟩ := hz
  exact remB_int h1 h2
theorem sum_snoc {m : List Int} {k : Nat} {z : Int} (h : m[k]? = some z) : (m.take (k + 1)).sum = (m.take k).sum + z := by
  rw [List.take_add_one, h]
  simp
theorem sum_bd {m : List Int} {B : Int} (h : ∀ x ∈ m, 0 ≤ x ∧ x ≤ B) (k : Nat) (hk : k ≤ m.length) : 0 ≤ (m.take k).sum ∧ (m.take k).sum ≤ B * k := by
  induction k with
  | zero => simp
  | succ k ih =>
    have := ih (by omega)
    have hq := List.getElem?_eq_getElem (show k < m.length by omega)
    have hx := h _ (List.mem_of_getElem? hq)
    rw [sum_snoc hq]
    have : B * ((k + 1 : Nat) : Int) = B * k + B := by rw [Int.natCast_succ, Int.mul_add, Int.mul_one]
    omega

noncomputable def turnZ (s : Int) (zs : List Int) : List Int := turnL s (zs[0]?.getD 0) (stB s zs).reverse (stB s zs).length
def TurnC (s : Int) (zs : List Int) : Prop := Ok s zs ∧ 0 < zs.length


end Go.Proofs.Ythcmpkhfimapgaa.Rhy
