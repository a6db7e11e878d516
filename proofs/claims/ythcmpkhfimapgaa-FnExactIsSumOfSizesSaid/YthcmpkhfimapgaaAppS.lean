/-
  Helpers of the claims beside this text: an append of a whole slice of integers.
-/
import Derived.Test.YthcmpkhfimapgaaApp
import Derived.Laws.OwnMore
import Derived.WalkLawsBesides
import Derived.Maps.AppendAt
import Derived.Deep.DeepCutAuto
namespace Go.Proofs.Ythcmpkhfimapgaa.Rhy
open Go.RowKit
set_option linter.unusedVariables false

/-- An append of no element: the slice is as it was. -/
theorem run_app_nil (ty : TypeId) (B : Nat) (v : Value) (n : Nat) (xs : List Value) (w : World) (hown : w.ownsRow B 3 1 v n xs) (c : Nat) :
    (Builtin.append_ #[24, 24] ty #[v, .slice none 0 c]).run Try.prog w = .ok v w := by
  obtain ⟨i0, hi, hz0, hz1, hz2⟩ := info_parts infoInt
  rcases hown.2 with ⟨rfl, rfl⟩ | ⟨g, cap, cur, rfl, _, _, hnc, _⟩
  · simp [Builtin.append_, run_underlying Try.underlying24, sizeOf, typeInfo, hi, Builtin.lenOf, Builtin.firstCells]
  · simp [Builtin.append_, run_underlying Try.underlying24, sizeOf, typeInfo, hi, Builtin.lenOf, Builtin.firstCells, hnc, storeCells]

set_option maxRecDepth 100000 in
/-- 'out = append(out, ys...)' at a slice of integers of the call's own. -/
theorem wp_app {o : Oper} {a : Act} {K : Act → World → Prop} {Q : Exit → Act → World → Prop} (x y : Operand)
    (ho : o.op = .call { callee := .builtin .append, args := #[x, y], argTypes := #[24, 24] })
    (B : Nat) (av : Option Addr) (cv : Nat) (l : List Int) (A : Option Addr) (m c : Nat) (ys : List Int) (w : World) (hown : w.ownsRow B 3 1 (.slice av l.length cv) l.length (ints l)) (hr : IntsAt w A m ys)
    (hl : l.length ≤ 1048577) (hm : m ≤ 1048577) (hB : B ≤ w.heap.size)
    (hs : a.eval x = .slice av l.length cv) (hx : a.eval y = .slice A m c)
    (h : ∀ a' c' w', w'.ownsRow B 3 1 (.slice a' (l ++ ys).length c') (l ++ ys).length (ints (l ++ ys)) → Below B w w' → K (a.put o.dst (.slice a' (l ++ ys).length c')) w') :
    o.wp Try.prog a w K Q := by
  obtain ⟨i0, hi, hz0, hz1, hz2⟩ := info_parts infoInt
  have hyl := hr.1
  cases A with
  | none =>
    have hm0 : m = 0 := by
      rcases Nat.eq_zero_or_pos m with h0 | h0
      · exact h0
      · obtain ⟨b, off, h, _⟩ := hr.2.2 h0
        cases h
    subst hm0
    have hy : ys = [] := List.eq_nil_of_length_eq_zero hyl
    subst hy
    have hrun := run_app_nil o.type B _ _ _ w hown c
    unfold Oper.wp execOp
    simp only [ho, resolve, invoke, builtin, Sem.run_bind, Sem.run_pure, Result.andThen_ok, List.map_toArray, List.map_cons, List.map_nil, hs, hx, hrun]
    have h1 := h av cv w (by simpa using hown) (Below.refl _ _)
    have h2 : K (a.put o.dst (.slice av l.length cv)) w := by simpa using h1
    exact h2
  | some ad =>
    have hcells : ∀ j u, (ints ys)[j]? = some u → w.cell? (ad.add j) = some u := by
      intro j u hu
      rcases Nat.eq_zero_or_pos m with h0 | h0
      · subst h0
        have hy : ys = [] := List.eq_nil_of_length_eq_zero hyl
        subst hy
        simp [ints] at hu
      · obtain ⟨b, off, h, _, hc⟩ := hr.2.2 h0
        injection h with h
        subst h
        unfold ints at hu
        rw [List.getElem?_map, Option.map_eq_some_iff] at hu
        obtain ⟨z, hz, rfl⟩ := hu
        rw [Go.WideShapes.add_plain]
        exact hc j z hz
    refine wp_append_own w x y 24 ho B 3 i0 (.int .i64 0) 1 8 Try.underlying24 hi hz0 hz1 hz2 rfl (by decide) _ l.length (ints l) hs hown ad m c (ints ys) hx (by simp [ints, hyl]) hcells ?_ ?_ ?_ hB ?_
    · intro u hu
      unfold ints at hu
      rw [List.mem_map] at hu
      obtain ⟨z, _, rfl⟩ := hu
      rfl
    · unfold maxLen; omega
    · omega
    · intro v' w' ho' hg _
      have ho2 : w'.ownsRow B 3 1 v' (l ++ ys).length (ints (l ++ ys)) := by
        rw [List.length_append, hyl]
        simpa [ints] using ho'
      obtain ⟨_, a', c', rfl, _⟩ := own_shape ho2
      exact h a' c' w' ho2 ((Below.refl B w).grown hg hB fun k hk => (hown.lt k hk).1)

theorem wpList_app {ops : Array Oper} {rest : List Oper} {o : Oper} {a : Act} {Q : Exit → Act → World → Prop} (hgd : o.guard = none) (x y : Operand)
    (ho : o.op = .call { callee := .builtin .append, args := #[x, y], argTypes := #[24, 24] })
    (B : Nat) (av : Option Addr) (cv : Nat) (l : List Int) (A : Option Addr) (m c : Nat) (ys : List Int) (w : World) (hown : w.ownsRow B 3 1 (.slice av l.length cv) l.length (ints l)) (hr : IntsAt w A m ys)
    (hl : l.length ≤ 1048577) (hm : m ≤ 1048577) (hB : B ≤ w.heap.size)
    (hs : a.eval x = .slice av l.length cv) (hx : a.eval y = .slice A m c)
    (h : ∀ a' c' w', w'.ownsRow B 3 1 (.slice a' (l ++ ys).length c') (l ++ ys).length (ints (l ++ ys)) → Below B w w' → wpList Try.prog ops Q rest (a.put o.dst (.slice a' (l ++ ys).length c')) w') :
    wpList Try.prog ops Q (o :: rest) a w :=
  wpList_plain hgd fun _ hK => wp_app x y ho B av cv l A m c ys w hown hr hl hm hB hs hx fun a' c' w' h1 h2 => hK _ _ (h a' c' w' h1 h2)

/-- The same with the length by another name. -/
theorem wpList_app_n {ops : Array Oper} {rest : List Oper} {o : Oper} {a : Act} {Q : Exit → Act → World → Prop} (hgd : o.guard = none) (x y : Operand)
    (ho : o.op = .call { callee := .builtin .append, args := #[x, y], argTypes := #[24, 24] })
    (B : Nat) (av : Option Addr) (cv : Nat) (l : List Int) (n : Nat) (hn : l.length = n) (A : Option Addr) (m c : Nat) (ys : List Int) (w : World) (hown : w.ownsRow B 3 1 (.slice av l.length cv) l.length (ints l)) (hr : IntsAt w A m ys)
    (hl : l.length ≤ 1048577) (hm : m ≤ 1048577) (hB : B ≤ w.heap.size)
    (hs : a.eval x = .slice av n cv) (hx : a.eval y = .slice A m c)
    (h : ∀ a' c' w', w'.ownsRow B 3 1 (.slice a' (l ++ ys).length c') (l ++ ys).length (ints (l ++ ys)) → Below B w w' → wpList Try.prog ops Q rest (a.put o.dst (.slice a' (l ++ ys).length c')) w') :
    wpList Try.prog ops Q (o :: rest) a w := by
  subst hn
  exact wpList_app hgd x y ho B av cv l A m c ys w hown hr hl hm hB hs hx h
end Go.Proofs.Ythcmpkhfimapgaa.Rhy
