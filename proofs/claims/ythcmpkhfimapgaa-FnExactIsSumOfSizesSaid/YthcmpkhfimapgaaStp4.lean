/-
  Helpers of the claims beside this text: the model's FromSteps.
-/
import Derived.Test.YthcmpkhfimapgaaStp3
namespace Go.Proofs.Ythcmpkhfimapgaa.Rhy
open Go.RowKit
set_option linter.unusedVariables false

/-- The beats from p0 on by the steps m. -/
def fromL (p0 : Int) (m : List Int) (k : Nat) : List Int := (List.range k).map fun j => p0 + (m.take j).sum
theorem fromL_len (p0 : Int) (m : List Int) (k : Nat) : (fromL p0 m k).length = k := by simp [fromL]
theorem fromL_snoc (p0 : Int) (m : List Int) (k : Nat) : fromL p0 m (k + 1) = fromL p0 m k ++ [p0 + (m.take k).sum] := by simp [fromL, List.range_succ]
theorem sum_mono {m : List Int} (h : ∀ x ∈ m, 0 ≤ x) (k : Nat) : (m.take k).sum ≤ m.sum := by
  have e : m.sum = (m.take k).sum + (m.drop k).sum := by rw [← List.sum_append, List.take_append_drop]
  have : ∀ l : List Int, (∀ x ∈ l, 0 ≤ x) → 0 ≤ l.sum := by
    intro l
    induction l with
    | nil => simp
    | cons x l ih => intro hl; have h1 := hl x (by simp); have h2 := ih (fun y hy => hl y (by simp [hy])); simp; omega
  have := this (m.drop k) (fun x hx => h x (List.mem_of_mem_drop hx))
  omega
theorem sum_ge {m : List Int} (h : ∀ x ∈ m, 1 ≤ x) : (m.length : Int) ≤ m.sum := by
  induction m with
  | nil => simp
  | cons x l ih => have h1 := h x (by simp); have h2 := ih (fun y hy => h y (by simp [hy])); simp; omega

def FromC (zs : List Int) (f : Int) : Prop := 0 < zs.length ∧ (∀ x ∈ zs, 1 ≤ x ∧ x ≤ 24) ∧ zs.sum ≤ 24 ∧ 0 ≤ f ∧ f < zs[zs.length - 1]?.getD 0
def FromAt (g k : Nat) (f n : Int) (zs : List Int) (w wr : World) : Prop :=
  ∃ av cv, Box wr g (.int .i64 0) (.slice none 0 0) 26 ∧ Box wr (g + 1) (.int .i64 n) (.slice av (fromL f zs k).length cv) 26 ∧
    wr.ownsRow (g + 2) 3 1 (.slice av (fromL f zs k).length cv) (fromL f zs k).length (ints (fromL f zs k)) ∧ Below g w wr ∧ g + 2 ≤ wr.heap.size
def FromPre (zs : List Int) (k : Nat) : Prop := (∀ x ∈ zs.take k, 1 ≤ x ∧ x ≤ 24) ∧ (zs.take k).sum ≤ 48
theorem fromPre_next {zs : List Int} {k : Nat} {z : Int} (h : FromPre zs k) (hs : zs[k]? = some z) (hz : 1 ≤ z ∧ z ≤ 24) (hn : (zs.take k).sum ≤ 24) : FromPre zs (k + 1) := by
  refine ⟨?_, by rw [sum_snoc hs]; omega⟩
  intro x hx
  rw [List.take_add_one, hs] at hx
  rcases List.mem_append.mp hx with q | q
  · exact h.1 x q
  · have : x = z := by simpa using q
    rw [this]; exact hz
theorem fromPre_ge {zs : List Int} {k : Nat} (h : FromPre zs k) : 0 ≤ (zs.take k).sum := by
  have := sum_ge (m := zs.take k) (fun x hx => (h.1 x hx).1)
  omega


end Go.Proofs.Ythcmpkhfimapgaa.Rhy
