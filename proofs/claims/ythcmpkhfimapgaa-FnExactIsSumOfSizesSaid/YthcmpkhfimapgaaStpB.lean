/-
  Helpers of the claims beside this text: the program's steps, the longest and the shortest one, rests.
-/
import Derived.Test.YthcmpkhfimapgaaStpI
import Derived.Test.YthcmpkhfimapgaaClc
import Derived.Test.YthcmpkhfimapgaaStp2
namespace Go.Proofs.Ythcmpkhfimapgaa.Rhy
open Go.RowKit
set_option linter.unusedVariables false
attribute [local go_sem] Oper.semAt_some wide_fn wide_depth

theorem maxL_app (l : List Int) (x : Int) : maxL (l ++ [x]) = max (maxL l) x := by simp [maxL]



def minQ (l : List Int) : Int := l.foldl (fun m x => if m = 0 ∨ x < m then x else m) 0
theorem minQ_app (l : List Int) (x : Int) : minQ (l ++ [x]) = if minQ l = 0 ∨ x < minQ l then x else minQ l := by
  unfold minQ
  rw [List.foldl_append]
  rfl
theorem minQ_all {l : List Int} (h : ∀ x ∈ l, 1 ≤ x) : ∀ k, k ≤ l.length → minQ (l.take k) = minP l k ∧ (0 < k → 1 ≤ minP l k) := by
  intro k
  induction k with
  | zero => intro _; exact ⟨rfl, fun q => absurd q (by omega)⟩
  | succ k ih =>
    intro hk
    obtain ⟨e, hp⟩ := ih (by omega)
    have hq := List.getElem?_eq_getElem (show k < l.length by omega)
    have hx := h _ (List.mem_of_getElem? hq)
    have hd : l.getD k 0 = l[k] := by rw [List.getD_eq_getElem?_getD, hq]; rfl
    have e1 : minQ (l.take (k + 1)) = if minP l k = 0 ∨ l[k] < minP l k then l[k] else minP l k := by
      rw [List.take_add_one, hq, show (some l[k]).toList = [l[k]] from rfl, minQ_app, e]
    have e2 : minP l (k + 1) = if k = 0 ∨ l[k] < minP l k then l[k] else minP l k := by simp only [minP, hd]
    by_cases h0 : k = 0
    · subst h0
      rw [e1, e2]
      simp [minP]
      exact hx
    · have := hp (by omega)
      rw [e1, e2]
      have h1 : ¬ minP l k = 0 := by omega
      simp only [h0, h1, false_or]
      exact ⟨trivial, fun _ => by split <;> omega⟩
theorem minQ_L {l : List Int} (h : ∀ x ∈ l, 1 ≤ x) : minQ l = minL l := by
  have := (minQ_all h l.length (Nat.le_refl _)).1
  rwa [List.take_length] at this


end Go.Proofs.Ythcmpkhfimapgaa.Rhy
