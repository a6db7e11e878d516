/-
  Helpers of the claims beside this text: a slice of rhythms: its own row, and a row for the beats of each.
-/
import Derived.Test.YtgmhdmhnedljcaaOut
import Derived.Test.YtgmhdmhnedljcaaRot
import Derived.Maps.AppendAt
namespace Go.Proofs.Ytgmhdmhnedljcaa.Rhy
open Go.RowKit
set_option linter.unusedVariables false

/-- A rhythm as it lies in a slice: its size, where its beats lie, its beats. -/
structure Item where
  s : Int
  a : Option Addr
  cap : Nat
  zs : List Int
def Item.slc (r : Item) : Value := .slice r.a r.zs.length r.cap
def Item.cells (r : Item) : List Value := [.int .i64 r.s, r.slc]
def itemCells (L : List Item) : List Value := L.flatMap Item.cells
theorem itemCells_len (L : List Item) : (itemCells L).length = L.length * 2 := by
  induction L with
  | nil => rfl
  | cons r L ih => simp only [itemCells, List.flatMap_cons, List.length_append, List.length_cons] at ih ⊢; simp only [Item.cells, List.length_cons, List.length_nil]; omega
theorem itemCells_snoc (L : List Item) (r : Item) : itemCells (L ++ [r]) = itemCells L ++ r.cells := by simp [itemCells]
theorem itemCells_at {L : List Item} : ∀ {i : Nat} {r : Item}, L[i]? = some r → (itemCells L)[i * 2]? = some (.int .i64 r.s) ∧ (itemCells L)[i * 2 + 1]? = some r.slc := by
  induction L with
  | nil => intro i r h; cases h
  | cons x L ih =>
    intro i r h
    rcases i with _ | i
    · obtain rfl : x = r := by simpa using h
      exact ⟨rfl, rfl⟩
    · obtain ⟨h1, h2⟩ := ih (show L[i]? = some r by simpa using h)
      have e : itemCells (x :: L) = .int .i64 x.s :: x.slc :: itemCells L := rfl
      rw [e, show (i + 1) * 2 = i * 2 + 1 + 1 by omega]
      exact ⟨by simpa using h1, by simpa using h2⟩
theorem itemCells_set {L : List Item} : ∀ {i : Nat} {r : Item} (k : Int), L[i]? = some r → (itemCells L).set (i * 2) (.int .i64 k) = itemCells (L.set i { r with s := k }) := by
  induction L with
  | nil => intro i r k h; cases h
  | cons x L ih =>
    intro i r k h
    rcases i with _ | i
    · obtain rfl : x = r := by simpa using h
      rfl
    · have := ih (r := r) k (show L[i]? = some r by simpa using h)
      have e : ∀ (y : Item) (M : List Item), itemCells (y :: M) = .int .i64 y.s :: y.slc :: itemCells M := fun _ _ => rfl
      rw [List.set_cons_succ, e, e, show (i + 1) * 2 = i * 2 + 1 + 1 by omega, List.set_cons_succ, List.set_cons_succ, this]

/-- A slice of rhythms of the call's own, all of its blocks from lo on: its row, the beats' rows, no two of them the same. -/
structure Items (w : World) (lo : Nat) (v : Value) (L : List Item) : Prop where
  outer : w.ownsRow lo 28 2 v L.length (itemCells L)
  each : ∀ (i : Nat) (r : Item), L[i]? = some r → w.ownsRow lo 3 1 r.slc r.zs.length (ints r.zs)
  apart : ∀ (i j : Nat) (r r' : Item) (k : Nat), i ≠ j → L[i]? = some r → L[j]? = some r' → r.slc.ownBlock = some k → r'.slc.ownBlock ≠ some k
  off : ∀ (i : Nat) (r : Item) (k : Nat), L[i]? = some r → r.slc.ownBlock = some k → v.ownBlock ≠ some k
theorem items_nil (w : World) (lo : Nat) : Items w lo (.slice none 0 0) [] :=
  ⟨World.ownsRow_nil _ _ _ _, fun i r h => by simp at h, fun i j r r' k _ h => by simp at h, fun i r k h => by simp at h⟩
theorem items_made (w : World) {lo : Nat} (h : lo ≤ w.heap.size) : Items (w.alloc (.cells #[] 28)) lo (.slice (some ⟨w.heap.size, 0, none⟩) 0 0) [] :=
  ⟨World.ownsRow_made w #[] 0 h (by unfold maxLen; omega) rfl, fun i r h => by simp at h, fun i j r r' k _ h => by simp at h, fun i r k h => by simp at h⟩
theorem own_grown {w w' : World} {row : Option Nat} {B : Nat} {e : TypeId} {size : Nat} {v : Value} {n : Nat} {xs : List Value} (h : w.ownsRow B e size v n xs) (hg : w.grownBy w' row) (hne : ∀ k, v.ownBlock = some k → row ≠ some k) : w'.ownsRow B e size v n xs := by
  cases hv : v.ownBlock with
  | none => exact h.kept hg (.inl hv)
  | some g => exact h.kept hg (.inr (by rw [hv]; exact fun e => hne g hv e.symm))
theorem Items.keep {w w' : World} {lo : Nat} {v : Value} {L : List Item} (h : Items w lo v L) (hb : Below w.heap.size w w') : Items w' lo v L :=
  ⟨own_below h.outer hb, fun i r hi => own_below (h.each i r hi) hb, h.apart, h.off⟩
theorem Items.base {w : World} {lo lo' : Nat} {v : Value} {L : List Item} (h : Items w lo v L) (hl : lo' ≤ lo) : Items w lo' v L :=
  ⟨own_base h.outer hl, fun i r hi => own_base (h.each i r hi) hl, h.apart, h.off⟩
theorem getElem_snoc {α : Type} {L : List α} {x y : α} {i : Nat} (h : (L ++ [x])[i]? = some y) : L[i]? = some y ∨ (i = L.length ∧ y = x) := by
  rcases Nat.lt_trichotomy i L.length with q | q | q
  · rw [List.getElem?_append_left q] at h; exact .inl h
  · subst q; rw [List.getElem?_append_right (Nat.le_refl _), Nat.sub_self] at h; exact .inr ⟨rfl, (Option.some.inj h).symm⟩
  · rw [List.getElem?_eq_none (by simp; omega)] at h; cases h
/-- 'out = append(out, r)' behind the making of r. -/
theorem items_snoc {wr w2 w3 : World} {lo : Nat} {v v' : Value} {L : List Item} {r : Item} {o : Obj} (h : Items wr lo v L) (hb : Below wr.heap.size wr w2) (hlo : lo ≤ wr.heap.size)
    (hr : w2.ownsRow wr.heap.size 3 1 r.slc r.zs.length (ints r.zs))
    (h1 : w3.ownsRow lo 28 2 v' (L.length + 1) (itemCells L ++ r.cells)) (hg : (w2.alloc o).grownBy w3 v.ownBlock)
    (hat : v'.ownBlock = v.ownBlock ∨ v'.ownBlock = some (w2.alloc o).heap.size) : Items w3 lo v' (L ++ [r]) := by
  have hsz : (w2.alloc o).heap.size = w2.heap.size + 1 := by simp
  have hw := hb.size
  have hold : ∀ (i : Nat) (q : Item), L[i]? = some q → ∀ k, q.slc.ownBlock = some k → k < wr.heap.size := fun i q hi k hk => ((h.each i q hi).lt k hk).2
  have hnew : ∀ k, r.slc.ownBlock = some k → wr.heap.size ≤ k ∧ k < w2.heap.size := fun k hk => hr.lt k hk
  have hv : ∀ k, v.ownBlock = some k → k < wr.heap.size := fun k hk => (h.outer.lt k hk).2
  have hbo : Below wr.heap.size wr (w2.alloc o) := hb.alloc hw o
  refine ⟨?_, ?_, ?_, ?_⟩
  · rw [itemCells_snoc, List.length_append]; exact h1
  · intro i q hi
    rcases getElem_snoc hi with q1 | ⟨_, q1⟩
    · exact own_grown (own_below (h.each i q q1) hbo) hg (fun k hk e => h.off i q k q1 hk e)
    · rw [q1]
      exact own_base (own_grown (hr.alloc o) hg (fun k hk e => by have h2 := hnew k hk; have h3 := hv k e; omega)) hlo
  · intro i j q q' k hij hi hj hk hk'
    rcases getElem_snoc hi with q1 | ⟨e1, q1⟩
    · rcases getElem_snoc hj with q2 | ⟨e2, q2⟩
      · exact h.apart i j q q' k hij q1 q2 hk hk'
      · rw [q2] at hk'
        have h2 := hold i q q1 k hk; have h3 := hnew k hk'; omega
    · rw [q1] at hk
      rcases getElem_snoc hj with q2 | ⟨e2, q2⟩
      · have h2 := hold j q' q2 k hk'; have h3 := hnew k hk; omega
      · omega
  · intro i q k hi hk hvk
    have hks : k < w2.heap.size := by
      rcases getElem_snoc hi with q1 | ⟨_, q1⟩
      · have := hold i q q1 k hk; omega
      · rw [q1] at hk; exact (hnew k hk).2
    rcases hat with e | e
    · rw [e] at hvk
      rcases getElem_snoc hi with q1 | ⟨_, q1⟩
      · exact h.off i q k q1 hk hvk
      · rw [q1] at hk
        have h2 := hnew k hk; have h3 := hv k hvk; omega
    · rw [e, hsz] at hvk
      have := Option.some.inj hvk
      omega
theorem infoR : (Try.prog.info? 28).map (fun i => (i.zero, i.size, i.bytes)) = some (some (.agg #[.int .i64 0, .slice none 0 0]), 2, 32) := by kernel_rfl
theorem info_parts' {P : Program} {t : TypeId} {z : Value} {n b : Nat} (h : (P.info? t).map (fun i => (i.zero, i.size, i.bytes)) = some (some z, n, b)) : ∃ i, P.info? t = some i ∧ i.zero = some z ∧ i.size = n ∧ i.bytes = b := by
  obtain ⟨i, hi, he⟩ := Option.map_eq_some_iff.1 h
  simp only [Prod.mk.injEq] at he
  exact ⟨i, hi, he.1, he.2.1, he.2.2⟩
/-- 'out = append(out, r)' at a slice of rhythms of the call's own. -/
theorem append_rhy {ops : Array Oper} {rest : List Oper} {o : Oper} {a : Act} {Q : Exit → Act → World → Prop} (hgd : o.guard = none) (x y : Operand)
    (ho : o.op = .call { callee := .builtin .append, args := #[x, y], argTypes := #[26, 26] })
    (lo : Nat) (v : Value) (L : List Item) (r : Item) (wr w2 : World) (h : Items wr lo v L) (hb : Below wr.heap.size wr w2) (hlo : lo ≤ wr.heap.size) (hl : L.length ≤ 1048577)
    (hr : w2.ownsRow wr.heap.size 3 1 r.slc r.zs.length (ints r.zs)) (N : Nat) (hN : N = w2.heap.size)
    (hs : a.eval x = v) (hx : a.eval y = .slice (some ⟨N, 0, none⟩) 1 1)
    (hK : ∀ a' c' w3, Items w3 lo (.slice a' (L.length + 1) c') (L ++ [r]) → Below lo w2 w3 → wpList Try.prog ops Q rest (a.put o.dst (.slice a' (L.length + 1) c')) w3) :
    wpList Try.prog ops Q (o :: rest) a (w2.alloc (.cells #[.int .i64 r.s, r.slc] 28)) := by
  obtain ⟨i0, hi, hz, hsz, hby⟩ := info_parts' infoR
  subst hN
  have hw := hb.size
  refine wpList_append_own_at _ hgd x y 26 ho lo 28 i0 (.agg #[.int .i64 0, .slice none 0 0]) 2 32 Try.underlying26 hi hz hsz hby rfl (by decide) v L.length (itemCells L) hs ((own_below h.outer hb).alloc _) ⟨w2.heap.size, 0, none⟩ 1 1 r.cells hx rfl ?_ ?_ ?_ ?_ ?_ ?_
  · intro j u hu
    have hn := heap_alloc_new w2 (.cells #[.int .i64 r.s, r.slc] 28)
    have hadd : (⟨w2.heap.size, 0, none⟩ : Addr).add j = ⟨w2.heap.size, j, none⟩ := by unfold Addr.add; split <;> simp_all
    rw [hadd, cell_of_row _ _ _ _ _ _ hn]
    rw [← hu, List.getElem?_toArray]; rfl
  · intro u hu
    simp only [Item.cells, List.mem_cons, List.not_mem_nil, or_false] at hu
    rcases hu with rfl | rfl <;> rfl
  · unfold maxLen; omega
  · omega
  · simp; omega
  · intro v' w' ho' hg _ hat
    have ho2 : w'.ownsRow lo 28 2 v' (L.length + 1) (itemCells L ++ r.cells) := ho'
    obtain ⟨_, hsh⟩ := ho'
    rcases hsh with ⟨_, h0⟩ | ⟨g, cap, cur, rfl, _⟩
    · omega
    · exact hK _ cap w' (items_snoc h hb hlo hr ho2 hg hat) ((((Below.refl lo w2).alloc (by omega) _).grown hg (by simp; omega) fun k hk => (h.outer.lt k hk).1))

/-- The values of the items. -/
def vals (L : List Item) : List (Int × List Int) := L.map fun r => (r.s, r.zs)
theorem vals_len {L : List Item} {P : List (Int × List Int)} (h : vals L = P) : L.length = P.length := by rw [← h]; simp [vals]
theorem vals_at {L : List Item} {P : List (Int × List Int)} (h : vals L = P) {i : Nat} {r : Item} (hi : L[i]? = some r) : P[i]? = some (r.s, r.zs) := by rw [← h]; simp [vals, hi]
/-- What a function leaves that answers with a slice of rhythms of one size. -/
def RSPost (s : Int) (P : List (List Int)) (w : World) (e : Ending) (w' : World) : Prop :=
  ∃ a cap L, e = .returned (.slice a P.length cap) ∧ Items w' w.heap.size (.slice a P.length cap) L ∧ vals L = P.map (fun zs => (s, zs)) ∧ Below w.heap.size w w'
/-- A slice of rhythms as it lies in memory. -/
def ItemsAt (w : World) (v : Value) (L : List Item) : Prop :=
  ∃ a cap, v = .slice a L.length cap ∧ L.length ≤ cap ∧ (0 < L.length → ∃ b off, a = some ⟨b, off, none⟩ ∧ b < w.heap.size ∧
    ∀ (i : Nat) (r : Item), L[i]? = some r → w.cell? ⟨b, off + i * 2, none⟩ = some (.int .i64 r.s) ∧ w.cell? ⟨b, off + i * 2 + 1, none⟩ = some r.slc ∧ IntsAt w r.a r.zs.length r.zs)
theorem Items.at {w : World} {lo : Nat} {v : Value} {L : List Item} (h : Items w lo v L) (hi : ∀ (i : Nat) (r : Item), L[i]? = some r → AllInt r.zs) : ItemsAt w v L := by
  have hc := @World.ownsRow.cells w lo _ 2 v L.length (itemCells L) h.outer
  have hlt := h.outer.lt
  obtain ⟨h1, ⟨rfl, h0⟩ | ⟨g, cap, cur, rfl, hB, hg, hn, hm, hs, ht⟩⟩ := h.outer
  · exact ⟨none, 0, by rw [h0], by omega, fun hp => by omega⟩
  · refine ⟨_, cap, rfl, hn, fun hp => ⟨g, 0, rfl, (hlt g rfl).2, fun i r hir => ?_⟩⟩
    obtain ⟨c1, c2⟩ := itemCells_at hir
    have hadd : ∀ j, (⟨g, 0, none⟩ : Addr).add j = ⟨g, j, none⟩ := fun j => by unfold Addr.add; split <;> simp_all
    have d1 := hc (g := g) rfl _ _ c1
    have d2 := hc (g := g) rfl _ _ c2
    rw [hadd] at d1 d2
    refine ⟨by rw [Nat.zero_add]; exact d1, by rw [Nat.zero_add]; exact d2, intsAt_own (h.each i r hir) (hi i r hir)⟩
theorem ItemsAt.below {w w' : World} {v : Value} {L : List Item} (h : ItemsAt w v L) (hb : Below w.heap.size w w') : ItemsAt w' v L := by
  obtain ⟨a, cap, hv, hl, hc⟩ := h
  refine ⟨a, cap, hv, hl, fun hp => ?_⟩
  obtain ⟨b, off, rfl, hlt, hi⟩ := hc hp
  refine ⟨b, off, rfl, Nat.lt_of_lt_of_le hlt hb.size, fun i r hir => ?_⟩
  obtain ⟨c1, c2, c3⟩ := hi i r hir
  exact ⟨by rw [hb.cell (p := ⟨b, off + i * 2, none⟩) hlt]; exact c1, by rw [hb.cell (p := ⟨b, off + i * 2 + 1, none⟩) hlt]; exact c2, c3.below hb⟩
end Go.Proofs.Ytgmhdmhnedljcaa.Rhy
