/-
  Helpers of the claims beside this text: an append to a slice of integers of the call's own; a box of two cells that the call writes.
-/
import Derived.Test.YtgmhdmhnedljcaaRhythm
namespace Go.Proofs.Ytgmhdmhnedljcaa.Rhy
open Go.RowKit
set_option linter.unusedVariables false

/-- 'out = append(out, x)' at a slice of integers of the call's own. -/
theorem append_int {ops : Array Oper} {rest : List Oper} {o : Oper} {a : Act} {Q : Exit → Act → World → Prop} (hgd : o.guard = none) (x y : Operand)
    (ho : o.op = .call { callee := .builtin .append, args := #[x, y], argTypes := #[22, 22] })
    (B : Nat) (v : Value) (l : List Int) (t : Int) (w0 : World) (hown : w0.ownsRow B 3 1 v l.length (ints l)) (hl : l.length ≤ 1048577) (hB : B ≤ w0.heap.size) (N : Nat) (hN : N = w0.heap.size)
    (hs : a.eval x = v) (hx : a.eval y = .slice (some ⟨N, 0, none⟩) 1 1)
    (h : ∀ a' c' w', w'.ownsRow B 3 1 (.slice a' (l ++ [t]).length c') (l ++ [t]).length (ints (l ++ [t])) → Below B w0 w' → wpList Try.prog ops Q rest (a.put o.dst (.slice a' (l ++ [t]).length c')) w') :
    wpList Try.prog ops Q (o :: rest) a (w0.alloc (.cells #[.int .i64 t] 3)) := by
  obtain ⟨i0, hi, hz0, hz1, hz2⟩ := info_parts infoInt
  subst hN
  refine wpList_append_own _ hgd x y 22 ho B 3 i0 (.int .i64 0) 1 8 Try.underlying22 hi hz0 hz1 hz2 rfl (by decide) v l.length (ints l) hs (hown.alloc _) ⟨w0.heap.size, 0, none⟩ 1 1 [.int .i64 t] hx rfl (cell_one_new _ _ _) ?_ ?_ ?_ ?_ ?_
  · intro u hu
    simp at hu
    subst hu
    rfl
  · unfold maxLen; omega
  · omega
  · exact Nat.le_trans hB (by show w0.heap.size ≤ (w0.heap.push _).size; simp)
  · intro v' w' ho' hg _
    have ho2 : w'.ownsRow B 3 1 v' (l ++ [t]).length (ints (l ++ [t])) := by simpa [ints] using ho'
    obtain ⟨_, a', c', rfl, _⟩ := own_shape ho2
    refine h a' c' w' ho2 ?_
    refine (((Below.refl B w0).alloc hB _).grown hg (Nat.le_trans hB (by show w0.heap.size ≤ (w0.heap.push _).size; simp)) fun k hk => (hown.lt k hk).1)

/-- A box of two cells, whole. -/
def Box (w : World) (b : Nat) (v0 v1 : Value) (t : TypeId) : Prop := w.heap[b]? = some (.cells #[v0, v1] t (0, 0))
theorem Box.lt {w : World} {b : Nat} {v0 v1 : Value} {t : TypeId} (h : Box w b v0 v1 t) : b < w.heap.size := by
  rcases Nat.lt_or_ge b w.heap.size with h' | h'
  · exact h'
  · unfold Box at h
    rw [Array.getElem?_eq_none h'] at h
    cases h
theorem Box.facts {w : World} {b : Nat} {v0 v1 : Value} {t : TypeId} (h : Box w b v0 v1 t) :
    w.cell? ⟨b, 0, none⟩ = some v0 ∧ w.cell? ⟨b, 1, none⟩ = some v1 ∧ w.frozen? ⟨b, 0, none⟩ = false ∧ w.frozen? ⟨b, 1, none⟩ = false := by
  unfold Box at h
  refine ⟨?_, ?_, ?_, ?_⟩ <;> simp [World.cell?, World.frozen?, h]
theorem box_new (w : World) (v0 v1 : Value) (t : TypeId) : Box (w.alloc (.cells #[v0, v1] t)) w.heap.size v0 v1 t := heap_alloc_new w _
theorem Box.keep {w w' : World} {b B : Nat} {v0 v1 : Value} {t : TypeId} (h : Box w b v0 v1 t) (hb : Below B w w') (hB : b < B) : Box w' b v0 v1 t := by
  unfold Box
  rw [hb.block b hB]
  exact h
theorem Box.set0 {w : World} {b : Nat} {v0 v1 : Value} {t : TypeId} (h : Box w b v0 v1 t) (v : Value) : Box (w.setCell ⟨b, 0, none⟩ v) b v v1 t := heap_setCell_same w b 0 _ _ _ h
theorem Box.set1 {w : World} {b : Nat} {v0 v1 : Value} {t : TypeId} (h : Box w b v0 v1 t) (v : Value) : Box (w.setCell ⟨b, 1, none⟩ v) b v0 v t := heap_setCell_same w b 1 _ _ _ h
theorem Box.other {w : World} {b c o : Nat} {v0 v1 : Value} {t : TypeId} (h : Box w b v0 v1 t) (v : Value) (hc : c ≠ b) : Box (w.setCell ⟨c, o, none⟩ v) b v0 v1 t := by
  unfold Box
  rw [Below.heap_setCell _ _ _ _ (by show b ≠ c; omega)]
  exact h
end Go.Proofs.Ytgmhdmhnedljcaa.Rhy
