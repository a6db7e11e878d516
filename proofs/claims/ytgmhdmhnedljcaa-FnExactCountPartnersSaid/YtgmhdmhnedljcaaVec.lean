/-
  Helpers of the claims beside this text: a slice of integers that the call makes, in a variable of its own.
-/
import Derived.Test.YtgmhdmhnedljcaaApp
namespace Go.Proofs.Ytgmhdmhnedljcaa.Rhy
open Go.RowKit
set_option linter.unusedVariables false

/-- v is a slice of the call's own with the elements l: its row lies from w1's end on; nothing that w1 had has changed. -/
def VecAt (l : List Int) (w1 wr : World) (v : Value) : Prop :=
  ∃ av cv, v = .slice av l.length cv ∧ wr.ownsRow w1.heap.size 3 1 (.slice av l.length cv) l.length (ints l) ∧ Below w1.heap.size w1 wr ∧ w1.heap.size ≤ wr.heap.size
/-- 'out := []int{}' -/
theorem vec_made (w1 : World) : VecAt [] w1 (w1.alloc (.cells #[] 3)) (.slice (some ⟨w1.heap.size, 0, none⟩) 0 0) :=
  ⟨_, 0, rfl, World.ownsRow_made (base := w1.heap.size) (e := 3) (size := 1) w1 #[] 0 (Nat.le_refl _) (by unfold maxLen; omega) rfl, (Below.refl _ _).alloc (Nat.le_refl _) _, by simp⟩
/-- 'var out []int' -/
theorem vec_nil (w1 : World) : VecAt [] w1 w1 (.slice none 0 0) := ⟨none, 0, rfl, World.ownsRow_nil _ _ _ _, Below.refl _ _, Nat.le_refl _⟩
theorem vec_keep {l : List Int} {w1 wr w2 : World} {v : Value} (h : VecAt l w1 wr v) (hb : Below wr.heap.size wr w2) : VecAt l w1 w2 v := by
  obtain ⟨av, cv, rfl, ho, hx, hz⟩ := h
  exact ⟨av, cv, rfl, own_below ho hb, hx.trans (hb.mono hz), Nat.le_trans hz hb.size⟩
theorem vec_snoc {l : List Int} {t : Int} {w1 wr w2 : World} {a' : Option Addr} {c' : Nat} (hX : Below w1.heap.size w1 wr) (hZ : w1.heap.size ≤ wr.heap.size)
    (hO : w2.ownsRow w1.heap.size 3 1 (.slice a' (l ++ [t]).length c') (l ++ [t]).length (ints (l ++ [t]))) (hb : Below w1.heap.size wr w2) : VecAt (l ++ [t]) w1 w2 (.slice a' (l ++ [t]).length c') :=
  ⟨a', c', rfl, hO, hX.trans hb, Nat.le_trans hZ hb.size⟩
theorem drew_keep {w wr : World} {B : Nat} (h : Below B w wr) (k : Nat) : Below B w (wr.drewN k) := below_drewN h k
theorem vec_drewN {l : List Int} {w1 wr : World} {v : Value} (h : VecAt l w1 wr v) (k : Nat) : VecAt l w1 (wr.drewN k) v := by
  obtain ⟨av, cv, rfl, ho, hx, hz⟩ := h
  exact ⟨av, cv, rfl, own_drewN ho k, below_drewN hx k, hz⟩
end Go.Proofs.Ytgmhdmhnedljcaa.Rhy
