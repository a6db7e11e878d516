/-
  Helpers of the claims beside this text: a list of one's own that grows while the blocks between lo and hi stay as they are.
-/
import Derived.Test.YtgmhdmhnedljcaaVec
import Derived.Maps.AppendAt
namespace Go.Proofs.Ytgmhdmhnedljcaa.Rhy
open Go.RowKit
set_option linter.unusedVariables false

/-- The blocks between lo and hi are the same. -/
def Same (lo hi : Nat) (a b : World) : Prop := ∀ k, lo ≤ k → k < hi → b.heap[k]? = a.heap[k]?
theorem Same.refl (lo hi : Nat) (w : World) : Same lo hi w w := fun _ _ _ => rfl
theorem Same.trans {lo hi : Nat} {a b c : World} (h : Same lo hi a b) (k : Same lo hi b c) : Same lo hi a c := fun i h1 h2 => (k i h1 h2).trans (h i h1 h2)
theorem Same.of_below {lo hi B : Nat} {a b : World} (h : Below B a b) (hB : hi ≤ B) : Same lo hi a b := fun i _ h2 => h.block i (by omega)
theorem Same.drewN {lo hi : Nat} {a b : World} (h : Same lo hi a b) (k : Nat) : Same lo hi a (b.drewN k) := by
  induction k generalizing b with
  | zero => exact h
  | succ k ih => exact ih (b := b.drew) h
theorem Same.setCell {lo hi : Nat} {a b : World} (h : Same lo hi a b) (g : Nat) (hg : g < lo ∨ hi ≤ g) (j : Nat) (v : Value) : Same lo hi a (b.setCell ⟨g, j, none⟩ v) := fun i h1 h2 => by
  rw [← h i h1 h2]
  exact Below.heap_setCell _ _ _ _ (show i ≠ g by omega)
theorem owns_same {w w' : World} {lo n cap : Nat} {a : Option Addr} {l : List Int} (h : w.ownsRow lo 3 1 (.slice a n cap) n (ints l)) (hs : Same lo w.heap.size w w') : w'.ownsRow lo 3 1 (.slice a n cap) n (ints l) := by
  refine ⟨h.1, ?_⟩
  rcases h.2 with hn | ⟨g, c, cur, hv, hb, hg, rest⟩
  · exact .inl hn
  · have hlt : g < w.heap.size := by
      rcases Nat.lt_or_ge g w.heap.size with q | q
      · exact q
      · rw [Array.getElem?_eq_none q] at hg; cases hg
    exact .inr ⟨g, c, cur, hv, hb, by rw [hs g hb hlt]; exact hg, rest⟩

/-- v's block is not between lo and hi. -/
def Outside (lo hi : Nat) (v : Value) : Prop := ∀ k, v.ownBlock = some k → k < lo ∨ hi ≤ k

/-- 'out = append(out, x)' while the blocks between lo and hi stay. -/
theorem append_out (lo hi : Nat) {ops : Array Oper} {rest : List Oper} {o : Oper} {a : Act} {Q : Exit → Act → World → Prop} (hgd : o.guard = none) (x y : Operand)
    (ho : o.op = .call { callee := .builtin .append, args := #[x, y], argTypes := #[22, 22] })
    (B : Nat) (v : Value) (l : List Int) (t : Int) (w0 : World) (hown : w0.ownsRow B 3 1 v l.length (ints l)) (hl : l.length ≤ 1048577) (hB : B ≤ w0.heap.size) (hO : Outside lo hi v) (hH : hi ≤ w0.heap.size) (N : Nat) (hN : N = w0.heap.size)
    (hs : a.eval x = v) (hx : a.eval y = .slice (some ⟨N, 0, none⟩) 1 1)
    (h : ∀ a' c' w', w'.ownsRow B 3 1 (.slice a' (l ++ [t]).length c') (l ++ [t]).length (ints (l ++ [t])) → Below B w0 w' → Same lo hi w0 w' → Outside lo hi (.slice a' (l ++ [t]).length c') → wpList Try.prog ops Q rest (a.put o.dst (.slice a' (l ++ [t]).length c')) w') :
    wpList Try.prog ops Q (o :: rest) a (w0.alloc (.cells #[.int .i64 t] 3)) := by
  obtain ⟨i0, hi0, hz0, hz1, hz2⟩ := info_parts infoInt
  subst hN
  refine wpList_append_own_at _ hgd x y 22 ho B 3 i0 (.int .i64 0) 1 8 Try.underlying22 hi0 hz0 hz1 hz2 rfl (by decide) v l.length (ints l) hs (hown.alloc _) ⟨w0.heap.size, 0, none⟩ 1 1 [.int .i64 t] hx rfl (cell_one_new _ _ _) ?_ ?_ ?_ ?_ ?_
  · intro u hu
    simp at hu
    subst hu
    rfl
  · unfold maxLen; omega
  · omega
  · exact Nat.le_trans hB (by show w0.heap.size ≤ (w0.heap.push _).size; simp)
  · intro v' w' ho' hg _ hat
    have ho2 : w'.ownsRow B 3 1 v' (l ++ [t]).length (ints (l ++ [t])) := by simpa [ints] using ho'
    obtain ⟨_, a', c', rfl, _⟩ := own_shape ho2
    have hsz : (w0.alloc (.cells #[.int .i64 t] 3)).heap.size = w0.heap.size + 1 := by simp
    refine h a' c' w' ho2 ?_ ?_ ?_
    · exact ((Below.refl B w0).alloc hB _).grown hg (Nat.le_trans hB (by show w0.heap.size ≤ (w0.heap.push _).size; simp)) fun k hk => (hown.lt k hk).1
    · intro k h1 h2
      rw [hg.block k (by omega) (fun e => by have := hO k e.symm; omega)]
      exact ((Below.refl w0.heap.size w0).alloc (Nat.le_refl _) (.cells #[.int .i64 t] 3)).block k (by omega)
    · intro k hk
      rcases hat with q | q
      · exact hO k (q ▸ hk)
      · rw [q] at hk
        have : k = w0.heap.size + 1 := by rw [hsz] at hk; simpa using hk.symm
        omega
end Go.Proofs.Ytgmhdmhnedljcaa.Rhy
