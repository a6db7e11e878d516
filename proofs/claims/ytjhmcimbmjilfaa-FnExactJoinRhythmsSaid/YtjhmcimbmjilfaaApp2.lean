/-
  Helpers of the claims beside this text: an append of a whole slice of integers; slices.Grow and slices.Concat.
-/
import Derived.Test.YtjhmcimbmjilfaaRep
import Derived.Test.YtjhmcimbmjilfaaGrow
import Derived.Laws.OwnMore
namespace Go.Proofs.Ytjhmcimbmjilfaa.Rhy
open Go.RowKit
set_option linter.unusedVariables false

/-- An append of no element: the slice is as it was. -/
theorem run_app_nil (ty : TypeId) (B : Nat) (v : Value) (n : Nat) (xs : List Value) (w : World) (hown : w.ownsRow B 3 1 v n xs) (c : Nat) :
    (Builtin.append_ #[22, 22] ty #[v, .slice none 0 c]).run Try.prog w = .ok v w := by
  obtain ⟨i0, hi, hz0, hz1, hz2⟩ := info_parts infoInt
  rcases hown.2 with ⟨rfl, rfl⟩ | ⟨g, cap, cur, rfl, _, _, hnc, _⟩
  · simp [Builtin.append_, run_underlying Try.underlying22, sizeOf, typeInfo, hi, Builtin.lenOf, Builtin.firstCells]
  · simp [Builtin.append_, run_underlying Try.underlying22, sizeOf, typeInfo, hi, Builtin.lenOf, Builtin.firstCells, hnc, storeCells]

/-- 'out = append(out, ys...)' at a slice of integers of the call's own. -/
theorem wp_app {o : Oper} {a : Act} {K : Act → World → Prop} {Q : Exit → Act → World → Prop} (x y : Operand)
    (ho : o.op = .call { callee := .builtin .append, args := #[x, y], argTypes := #[22, 22] })
    (B : Nat) (av : Option Addr) (cv : Nat) (l : List Int) (A : Option Addr) (m c : Nat) (ys : List Int) (w : World) (hown : w.ownsRow B 3 1 (.slice av l.length cv) l.length (ints l)) (hr : IntsAt w A m ys)
    (hl : l.length ≤ 1048577) (hm : m ≤ 1048577) (hB : B ≤ w.heap.size)
    (hs : a.eval x = .slice av l.length cv) (hx : a.eval y = .slice A m c)
    (h : ∀ a' c' w', w'.ownsRow B 3 1 (.slice a' (l ++ ys).length c') (l ++ ys).length (ints (l ++ ys)) → Below B w w' → K (a.put o.dst (.slice a' (l ++ ys).length c')) w') :
    o.wp Try.prog a w K Q := by
  obtain ⟨i0, hi, hz0, hz1, hz2⟩ := info_parts infoInt
  have hyl := hr.1
  cases A with
  | none =>
    have hm0 : m = 0 := by
      rcases Nat.eq_zero_or_pos m with h0 | h0
      · exact h0
      · obtain ⟨b, off, h, _⟩ := hr.2.2 h0
        cases h
    subst hm0
    have hy : ys = [] := List.eq_nil_of_length_eq_zero hyl
    subst hy
    have hrun := run_app_nil o.type B _ _ _ w hown c
    unfold Oper.wp execOp
    simp only [ho, resolve, invoke, builtin, Sem.run_bind, Sem.run_pure, Result.andThen_ok, List.map_toArray, List.map_cons, List.map_nil, hs, hx, hrun]
    have h1 := h av cv w (by simpa using hown) (Below.refl _ _)
    have h2 : K (a.put o.dst (.slice av l.length cv)) w := by simpa using h1
    exact h2
  | some ad =>
    have hcells : ∀ j u, (ints ys)[j]? = some u → w.cell? (ad.add j) = some u := by
      intro j u hu
      rcases Nat.eq_zero_or_pos m with h0 | h0
      · subst h0
        have hy : ys = [] := List.eq_nil_of_length_eq_zero hyl
        subst hy
        simp [ints] at hu
      · obtain ⟨b, off, h, _, hc⟩ := hr.2.2 h0
        injection h with h
        subst h
        unfold ints at hu
        rw [List.getElem?_map, Option.map_eq_some_iff] at hu
        obtain ⟨z, hz, rfl⟩ := hu
        rw [Go.WideShapes.add_plain]
        exact hc j z hz
    refine wp_append_own w x y 22 ho B 3 i0 (.int .i64 0) 1 8 Try.underlying22 hi hz0 hz1 hz2 rfl (by decide) _ l.length (ints l) hs hown ad m c (ints ys) hx (by simp [ints, hyl]) hcells ?_ ?_ ?_ hB ?_
    · intro u hu
      unfold ints at hu
      rw [List.mem_map] at hu
      obtain ⟨z, _, rfl⟩ := hu
      rfl
    · unfold maxLen; omega
    · omega
    · intro v' w' ho' hg _
      have ho2 : w'.ownsRow B 3 1 v' (l ++ ys).length (ints (l ++ ys)) := by
        rw [List.length_append, hyl]
        simpa [ints] using ho'
      obtain ⟨_, a', c', rfl, _⟩ := own_shape ho2
      exact h a' c' w' ho2 ((Below.refl B w).grown hg hB fun k hk => (hown.lt k hk).1)

/-- slices.Grow at nil. -/
theorem grow_nil (n : Nat) (w : World) (hn : n ≤ 4194304) :
    Calls Try.prog 70 #[.slice none 0 0, .int .i64 n] w fun e w' => ∃ a c, e = .returned (.slice a 0 c) ∧ w'.ownsRow w.heap.size 3 1 (.slice a 0 c) 0 [] ∧ Below w.heap.size w w' := by
  obtain ⟨i0, hi, hz0, hz1, hz2⟩ := info_parts infoInt
  by_cases h0 : n = 0
  · subst h0
    refine (Any8.slices_Grow_room Try.growI none 0 0 0 w (by omega) (by omega) (by omega) (by omega)).mono ?_
    rintro e w' ⟨rfl, rfl⟩
    exact ⟨none, 0, rfl, World.ownsRow_nil _ _ _ _, Below.refl _ _⟩
  · refine (Any8.slices_Grow_grow Try.growI i0 (.int .i64 0) hi hz0 (by omega) none 0 0 n [] w (by omega) (by omega) (by rw [hz2]; omega) (by omega) (by simp) (fun _ => rfl) (fun a h => by cases h)).mono ?_
    rintro e w' ⟨rfl, rfl⟩
    refine ⟨_, _, rfl, ?_, ((Below.refl w.heap.size w).drew).alloc (Nat.le_refl _) _⟩
    have hge := grownCap_ge w (0 + n) 0 (Try.growI_ren.t 25)
    have hle := grownCap_le_maxLen w (0 + n) 0 (Try.growI_ren.t 25) (by unfold maxLen; omega)
    have hge2 := hge
    rw [Nat.zero_add] at hge2
    exact World.ownsRow_made (base := w.heap.size) (e := 3) (size := 1) w.drew _ _ (Nat.le_refl _) hle (by
      simp only [Array.size_append, List.size_toArray, size_zeroCells]
      simp [Value.cells]
      omega)

theorem wpList_app {ops : Array Oper} {rest : List Oper} {o : Oper} {a : Act} {Q : Exit → Act → World → Prop} (hgd : o.guard = none) (x y : Operand)
    (ho : o.op = .call { callee := .builtin .append, args := #[x, y], argTypes := #[22, 22] })
    (B : Nat) (av : Option Addr) (cv : Nat) (l : List Int) (A : Option Addr) (m c : Nat) (ys : List Int) (w : World) (hown : w.ownsRow B 3 1 (.slice av l.length cv) l.length (ints l)) (hr : IntsAt w A m ys)
    (hl : l.length ≤ 1048577) (hm : m ≤ 1048577) (hB : B ≤ w.heap.size)
    (hs : a.eval x = .slice av l.length cv) (hx : a.eval y = .slice A m c)
    (h : ∀ a' c' w', w'.ownsRow B 3 1 (.slice a' (l ++ ys).length c') (l ++ ys).length (ints (l ++ ys)) → Below B w w' → wpList Try.prog ops Q rest (a.put o.dst (.slice a' (l ++ ys).length c')) w') :
    wpList Try.prog ops Q (o :: rest) a w :=
  wpList_plain hgd fun _ hK => wp_app x y ho B av cv l A m c ys w hown hr hl hm hB hs hx fun a' c' w' h1 h2 => hK _ _ (h a' c' w' h1 h2)

/-- slices.Concat of two slices of integers. -/
theorem concat_any (N : Nat) (a b : Option Addr) (n m ca cb : Nat) (xs ys : List Int) (w : World) (hT : Two w N (.slice a n ca) (.slice b m cb)) (ha : IntsAt w a n xs) (hb : IntsAt w b m ys) (hn : n ≤ 1048576) (hm : m ≤ 1048576) :
    Calls Try.prog 60 #[.slice (some ⟨N, 0, none⟩) 2 2] w fun e w' => ∃ r c, e = .returned (.slice r (xs ++ ys).length c) ∧ w'.ownsRow w.heap.size 3 1 (.slice r (xs ++ ys).length c) (xs ++ ys).length (ints (xs ++ ys)) ∧ Below w.heap.size w w' := by
  have FA := Lib.hid ha
  have FB := Lib.hid hb
  have HT := Lib.hid hT
  obtain ⟨t0, ta, tb⟩ := hT
  have hnx := ha.1
  have hmy := hb.1
  clear ha hb
  have HL := Lib.hid (And.intro hnx hmy)
  clear hnx hmy
  go_enter Try.func60, Try.ntmps60
  go_wp2
  refine wp_loop_rounds 3 ?_; rw [rounds_succ]
  go_wp2
  rw [rounds_succ]
  go_wp2
  rw [rounds_succ]
  have HG := Lib.hid (show ∀ w, Calls Try.prog 70 #[.slice none 0 0, .int .i64 ((n : Int) + m)] w fun e w' => ∃ a c, e = .returned (.slice a 0 c) ∧ w'.ownsRow w.heap.size 3 1 (.slice a 0 c) 0 [] ∧ Below w.heap.size w w' from fun w => by
    have := grow_nil (n + m) w (by omega)
    rwa [Int.natCast_add] at this)
  go_wp2_with fail
  refine (HG.out w).mono ?_
  rintro e w1 ⟨r1, c1, rfl, hown1, hb1⟩
  have O1 := Lib.hid hown1
  have B1 := Lib.hid hb1
  have T1 := Lib.hid (HT.out.keep hb1)
  obtain ⟨u0, ua, ub⟩ := T1.out
  have hz1 := hb1.size
  clear hown1 hb1
  go_wp2
  refine wp_loop_rounds 3 ?_; rw [rounds_succ]
  go_wp2_with (at_builtin; refine wpList_app rfl _ _ rfl w.heap.size r1 c1 [] a n ca xs _ O1.out (FA.out.below B1.out) (by simp) (by omega) hz1 rfl rfl ?_; intro a2 c2 w2 hown2 hb2; have O2 := Lib.hid hown2; have B2 := Lib.hid (B1.out.trans hb2); have ud := hb2.cell (p := ⟨N, 1, none⟩) t0; have ue := hb2.cell (p := ⟨N, 0, none⟩) t0; have hz2 := Nat.le_trans hz1 hb2.size; clear hown2 hb2)
  rw [ub] at ud
  rw [ua] at ue
  rw [rounds_succ]
  have hxl : xs.length = n := HL.out.1
  have HXL := Lib.hid hxl
  clear hxl
  go_wp2_with (at_builtin; refine wpList_app rfl _ _ rfl w.heap.size a2 c2 ([] ++ xs) b m cb ys _ O2.out (FB.out.below B2.out) (by have := HXL.out; simp; omega) (by omega) hz2 rfl rfl ?_; intro a3 c3 w3 hown3 hb3; have O3 := Lib.hid hown3; have B3 := Lib.hid (B2.out.trans hb3); clear hown3 hb3)
  rw [rounds_succ]
  go_wp2
  go_ret
  exact ⟨a3, c3, show Ending.returned (.slice a3 (xs.length + ys.length) c3) = _ by rw [List.length_append], by simpa using O3.out, B3.out⟩
end Go.Proofs.Ytjhmcimbmjilfaa.Rhy
