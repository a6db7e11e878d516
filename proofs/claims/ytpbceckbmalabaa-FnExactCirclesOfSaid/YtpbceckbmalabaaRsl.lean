import Derived.Test.YtpbceckbmalabaaItm
import Derived.Test.YtpbceckbmalabaaLsi
import Derived.Deep.RegionHeld3
namespace Go.Proofs.Ytpbceckbmalabaa.Rhy
open Go.RowKit
/-! ### marks -/
def tot (c : Nat) (L : List Item) : Nat := c + (L.map fun r => 1 + r.zs.length).sum
theorem tot_nil (c : Nat) : tot c [] = c := by simp [tot]
theorem tot_snoc {c : Nat} {L : List Item} {k : Nat} {r : Item} (h : L[k]? = some r) : tot c (L.take (k + 1)) = tot c (L.take k) + 1 + r.zs.length := by
  unfold tot
  rw [List.take_add_one, h]
  simp
  omega
theorem tot_le (c : Nat) (L : List Item) (k : Nat) : tot c (L.take k) ≤ tot c L := by
  unfold tot
  have : ∀ (l : List Nat) (k : Nat), (l.take k).sum ≤ l.sum := by
    intro l
    induction l with
    | nil => intro k; simp
    | cons x l ih => intro k; rcases k with _ | k <;> simp; exact ih k
  rw [List.map_take]
  have := this (L.map fun r => 1 + r.zs.length) k
  omega
def Item.mark (c : Nat) (r : Item) : Item := { r with s := (c : Int), zs := marks (c + 1) r.zs.length }
def markL (c : Nat) : List Item → List Item
  | [] => []
  | r :: L => r.mark c :: markL (c + 1 + r.zs.length) L
theorem markL_len (L : List Item) : ∀ c, (markL c L).length = L.length := by
  induction L with
  | nil => intro c; rfl
  | cons r L ih => intro c; simp [markL, ih]
theorem markL_at {L : List Item} : ∀ {c k : Nat} {r : Item}, L[k]? = some r → (markL c L)[k]? = some (r.mark (tot c (L.take k))) := by
  induction L with
  | nil => intro c k r h; cases h
  | cons x L ih =>
    intro c k r h
    rcases k with _ | k
    · obtain rfl : x = r := by simpa using h
      simp [markL, tot]
    · have := ih (c := c + 1 + x.zs.length) (show L[k]? = some r by simpa using h)
      have e : tot (c + 1 + x.zs.length) (L.take k) = tot c ((x :: L).take (k + 1)) := by unfold tot; simp; omega
      rw [e] at this
      simpa [markL] using this
/-- Marked as far as k. -/
def markK (c : Nat) (L : List Item) (k : Nat) : List Item := (markL c L).take k ++ L.drop k
theorem markK_len (c : Nat) (L : List Item) (k : Nat) : (markK c L k).length = L.length := by
  unfold markK
  rw [List.length_append, List.length_take, List.length_drop, markL_len]
  omega
theorem markK_at {c k : Nat} {L : List Item} {r : Item} (h : L[k]? = some r) : (markK c L k)[k]? = some r := by
  have hk : k < L.length := by
    rcases Nat.lt_or_ge k L.length with q | q
    · exact q
    · rw [List.getElem?_eq_none q] at h; cases h
  unfold markK
  rw [List.getElem?_append_right (by rw [List.length_take, markL_len]; omega), List.length_take, markL_len, Nat.min_eq_left (by omega), Nat.sub_self, List.getElem?_drop, Nat.add_zero]
  exact h
theorem markK_step {c k : Nat} {L : List Item} {r : Item} (h : L[k]? = some r) : (markK c L k).set k (r.mark (tot c (L.take k))) = markK c L (k + 1) := by
  have hk : k < L.length := by
    rcases Nat.lt_or_ge k L.length with q | q
    · exact q
    · rw [List.getElem?_eq_none q] at h; cases h
  unfold markK
  have e1 : L.drop k = r :: L.drop (k + 1) := by
    rw [List.drop_eq_getElem_cons hk]
    rw [List.getElem?_eq_getElem hk] at h
    rw [Option.some.inj h]
  have e2 : (markL c L).take (k + 1) = (markL c L).take k ++ [r.mark (tot c (L.take k))] := by
    rw [List.take_add_one, markL_at h]; rfl
  rw [e1, e2, List.append_assoc]
  have := set_mid ((markL c L).take k) (L.drop (k + 1)) r (r.mark (tot c (L.take k)))
  rw [List.length_take, markL_len, Nat.min_eq_left (by omega)] at this
  exact this

/-- A slice of rhythms of the call's own, in blocks from lo up to hi. -/
def RowS (w : World) (lo hi : Nat) (v : Value) (L : List Item) : Prop :=
  Items w lo v L ∧ (∀ k, v.ownBlock = some k → k < hi) ∧ (∀ (i : Nat) (r : Item) (k : Nat), L[i]? = some r → r.slc.ownBlock = some k → k < hi) ∧ hi ≤ w.heap.size
theorem rowS_of {w' : World} {lo : Nat} {v : Value} {L : List Item} (h : Items w' lo v L) : RowS w' lo w'.heap.size v L :=
  ⟨h, fun k e => (h.outer.lt k e).2, fun i r k hi e => ((h.each i r hi).lt k e).2, Nat.le_refl _⟩
theorem RowS.keep {w w' : World} {lo hi : Nat} {v : Value} {L : List Item} (h : RowS w lo hi v L) (hb : Below w.heap.size w w') : RowS w' lo hi v L :=
  ⟨h.1.keep hb, h.2.1, h.2.2.1, Nat.le_trans h.2.2.2 hb.size⟩
theorem RowS.within {w w' : World} {lo hi lo' hi' : Nat} {v : Value} {L : List Item} (h : RowS w lo hi v L) (hb : Within lo' hi' w w') (hd : hi ≤ lo' ∨ hi' ≤ lo) : RowS w' lo hi v L :=
  ⟨⟨hb.grown (fun k e => by have h1 := h.2.1 k e; have h2 := (h.1.outer.lt k e).1; omega) (fun k e => (h.1.outer.lt k e).2) h.1.outer,
    fun i r hi => hb.grown (fun k e => by have h1 := h.2.2.1 i r k hi e; have h2 := ((h.1.each i r hi).lt k e).1; omega) (fun k e => ((h.1.each i r hi).lt k e).2) (h.1.each i r hi), h.1.apart, h.1.off⟩, h.2.1, h.2.2.1, Nat.le_trans h.2.2.2 hb.size⟩
theorem RowS.at {w : World} {lo hi : Nat} {v : Value} {L : List Item} (h : RowS w lo hi v L) (hi : ∀ (i : Nat) (r : Item), L[i]? = some r → AllInt r.zs) : ItemsAt w v L := h.1.at hi
theorem own_raise {w : World} {lo b : Nat} {v : Value} {n : Nat} {xs : List Value} {e : TypeId} {size : Nat} (h : w.ownsRow lo e size v n xs) (hb : ∀ k, v.ownBlock = some k → b ≤ k) : w.ownsRow b e size v n xs := by
  obtain ⟨h1, h2 | ⟨g, cap, cur, rfl, hB, rest⟩⟩ := h
  · exact ⟨h1, .inl h2⟩
  · exact ⟨h1, .inr ⟨g, cap, cur, rfl, hb g rfl, rest⟩⟩
theorem own_within {w w' : World} {lo' hi' : Nat} {B : Nat} {e : TypeId} {size n : Nat} {v : Value} {xs : List Value} (hb : Within lo' hi' w w') (h : w.ownsRow B e size v n xs) (hd : ∀ k, v.ownBlock = some k → k < lo' ∨ hi' ≤ k) : w'.ownsRow B e size v n xs :=
  hb.grown hd (fun k e => (h.lt k e).2) h
/-- A store of a size. -/
theorem items_size {w : World} {lo g n cap k : Nat} {M : List Item} {r : Item} (h : Items w lo (.slice (some ⟨g, 0, none⟩) n cap) M) (hr : M[k]? = some r) (c : Int) (hn : n = M.length) :
    Items (w.setCell ⟨g, k * 2, none⟩ (.int .i64 c)) lo (.slice (some ⟨g, 0, none⟩) n cap) (M.set k { r with s := c }) ∧ w.grownBy (w.setCell ⟨g, k * 2, none⟩ (.int .i64 c)) (some g) := by
  subst hn
  obtain ⟨st, hg⟩ := h.outer.stored (k * 2) (.int .i64 c)
  rw [itemCells_set c hr] at st
  have hset : ∀ (i : Nat) (q : Item), (M.set k { r with s := c })[i]? = some q → ∃ q0, M[i]? = some q0 ∧ q.slc = q0.slc ∧ q.zs = q0.zs := by
    intro i q hq
    rw [List.getElem?_set] at hq
    split at hq
    · rename_i e
      subst e
      split at hq
      · obtain rfl := Option.some.inj hq
        exact ⟨r, hr, rfl, rfl⟩
      · cases hq
    · exact ⟨q, hq, rfl, rfl⟩
  refine ⟨⟨by rw [List.length_set]; exact st, fun i q hq => ?_, fun i j q q' b hij hq hq' hb hb' => ?_, fun i q b hq hb hv => ?_⟩, hg⟩
  · obtain ⟨q0, h0, e1, e2⟩ := hset i q hq
    rw [e1, e2]
    exact own_grown (h.each i q0 h0) hg (fun b hb e => h.off i q0 b h0 hb e)
  · obtain ⟨q0, h0, e1, _⟩ := hset i q hq
    obtain ⟨q1, h1, e2, _⟩ := hset j q' hq'
    rw [e1] at hb; rw [e2] at hb'
    exact h.apart i j q0 q1 b hij h0 h1 hb hb'
  · obtain ⟨q0, h0, e1, _⟩ := hset i q hq
    rw [e1] at hb
    exact h.off i q0 b h0 hb hv
/-- The beats of one rhythm are written. -/
theorem items_beats {w w' : World} {lo bl bh k : Nat} {v : Value} {M : List Item} {r : Item} {zs' : List Int} (h : Items w lo v M) (hr : M[k]? = some r) (hz : zs'.length = r.zs.length) (hb : Within bl bh w w')
    (hbl : ∀ x, bl ≤ x → x < bh → r.slc.ownBlock = some x) (ho : w'.ownsRow lo 3 1 r.slc r.zs.length (ints zs')) : Items w' lo v (M.set k { r with zs := zs' }) := by
  have hset : ∀ (i : Nat) (q : Item), (M.set k { r with zs := zs' })[i]? = some q → ∃ q0, M[i]? = some q0 ∧ q.slc = q0.slc ∧ ((i ≠ k ∧ q = q0) ∨ (i = k ∧ q0 = r ∧ q.zs = zs')) := by
    intro i q hq
    rw [List.getElem?_set] at hq
    split at hq
    · rename_i e
      subst e
      split at hq
      · obtain rfl := Option.some.inj hq
        exact ⟨r, hr, by simp [Item.slc, hz], .inr ⟨rfl, rfl, rfl⟩⟩
      · cases hq
    · rename_i e
      exact ⟨q, hq, rfl, .inl ⟨fun x => e x.symm, rfl⟩⟩
  have hcells : itemCells (M.set k { r with zs := zs' }) = itemCells M := by
    apply List.ext_getElem?
    intro j
    have hl : M.length = (M.set k { r with zs := zs' }).length := by simp
    rcases Nat.lt_or_ge j (M.length * 2) with q | q
    · have hi : j / 2 < M.length := by omega
      obtain ⟨x, hx⟩ : ∃ x, (M.set k { r with zs := zs' })[j / 2]? = some x := ⟨_, List.getElem?_eq_getElem (by rw [← hl]; exact hi)⟩
      obtain ⟨q0, h0, e1, e2⟩ := hset _ _ hx
      have hs : x.s = q0.s := by
        rcases e2 with ⟨_, rfl⟩ | ⟨e, rfl, _⟩
        · rfl
        · rw [e, List.getElem?_set_self (by omega)] at hx
          obtain rfl := Option.some.inj hx
          rfl
      obtain ⟨c1, c2⟩ := itemCells_at hx
      obtain ⟨d1, d2⟩ := itemCells_at h0
      rcases Nat.mod_two_eq_zero_or_one j with m | m
      · rw [show j = j / 2 * 2 by omega, c1, d1, hs]
      · rw [show j = j / 2 * 2 + 1 by omega, c2, d2, e1]
    · rw [List.getElem?_eq_none (by rw [itemCells_len, ← hl]; omega), List.getElem?_eq_none (by rw [itemCells_len]; omega)]
  refine ⟨?_, fun i q hq => ?_, fun i j q q' b hij hq hq' hb1 hb2 => ?_, fun i q b hq hb1 hv => ?_⟩
  · rw [hcells, List.length_set]
    refine own_within hb h.outer fun x hx => ?_
    rcases Nat.lt_or_ge x bl with p | p
    · exact .inl p
    · rcases Nat.lt_or_ge x bh with p2 | p2
      · exact absurd hx (h.off k r x hr (hbl x p p2))
      · exact .inr p2
  · obtain ⟨q0, h0, e1, e2⟩ := hset i q hq
    rcases e2 with ⟨hne, rfl⟩ | ⟨_, rfl, e3⟩
    · refine own_within hb (h.each i q h0) fun x hx => ?_
      rcases Nat.lt_or_ge x bl with p | p
      · exact .inl p
      · rcases Nat.lt_or_ge x bh with p2 | p2
        · exact absurd (hbl x p p2) (h.apart i k q r x hne h0 hr hx)
        · exact .inr p2
    · rw [e1, e3, hz]; exact ho
  · obtain ⟨q0, h0, e1, _⟩ := hset i q hq
    obtain ⟨q1, h1, e2, _⟩ := hset j q' hq'
    rw [e1] at hb1; rw [e2] at hb2
    exact h.apart i j q0 q1 b hij h0 h1 hb1 hb2
  · obtain ⟨q0, h0, e1, _⟩ := hset i q hq
    rw [e1] at hb1
    exact h.off i q0 b h0 hb1 hv
end Go.Proofs.Ytpbceckbmalabaa.Rhy

/-
  Helpers of the claims beside this text: slices of rhythms are marked, and still held.
-/
namespace Go.Proofs.Ytpbceckbmalabaa.Rhy
open Go.RowKit
set_option linter.unusedVariables false

theorem mark_slc (c : Nat) (r : Item) : (r.mark c).slc = r.slc := by unfold Item.mark Item.slc; simp [marks_len]
theorem rowS_grown {w w' : World} {lo hi : Nat} {a : World} {row : Option Nat} (h : Within lo hi a w) (hg : w.grownBy w' row) (hr : ∀ k, row = some k → lo ≤ k ∧ k < hi) : Within lo hi a w' := h.trans (Within.of_grown hg hr)
theorem within_mono {lo hi lo' hi' : Nat} {a b : World} (h : Within lo hi a b) (h1 : ∀ k, lo ≤ k → k < hi → lo' ≤ k ∧ k < hi') : Within lo' hi' a b :=
  ⟨h.os, h.tape, h.output, h.size, fun k hk ho => h.block k hk (by
    rcases Nat.lt_or_ge k lo with p | p
    · exact .inl p
    · rcases Nat.lt_or_ge k hi with q | q
      · have := h1 k p q; omega
      · exact .inr q)⟩

theorem row_around {W : World} {lo : Nat} {r : Item} (h : W.ownsRow lo 3 1 r.slc r.zs.length (ints r.zs)) : ∃ bl bh, Row W bl bh r.a r.zs.length r.cap r.zs ∧ (∀ x, bl ≤ x → x < bh → r.slc.ownBlock = some x) := by
  cases hb : r.slc.ownBlock with
  | none =>
    have hn : ∀ x, (Value.slice r.a r.zs.length r.cap).ownBlock ≠ some x := fun x hx => by
      have : r.slc.ownBlock = some x := hx
      rw [hb] at this; cases this
    exact ⟨W.heap.size, W.heap.size, ⟨own_raise h (fun x hx => absurd hx (hn x)), fun x hx => absurd hx (hn x), Nat.le_refl _⟩, fun x h1 h2 => by omega⟩
  | some b =>
    have hn : ∀ x, (Value.slice r.a r.zs.length r.cap).ownBlock = some x → x = b := fun x hx => by
      have : r.slc.ownBlock = some x := hx
      rw [hb] at this; exact (Option.some.inj this).symm
    exact ⟨b, b + 1, ⟨own_raise h (fun x hx => by rw [hn x hx]; exact Nat.le_refl _), fun x hx => by rw [hn x hx]; omega, (h.lt b hb).2⟩, fun x h1 h2 => by rw [show x = b by omega]⟩
/-- Marked as far as k, and the counter behind it. -/
def MarkAt (lo hi c : Nat) (v : Value) (L : List Item) (k : Nat) (w wr : World) : Prop :=
  Items wr lo v (markK c L k) ∧ Within lo hi w wr ∧ w.heap.size ≤ wr.heap.size


theorem tot_bound (c : Nat) (L : List Item) (m : Nat) (h : ∀ r ∈ L, r.zs.length ≤ m) : tot c L ≤ c + L.length * (1 + m) := by
  unfold tot
  induction L with
  | nil => simp
  | cons r L ih =>
    have h1 := ih fun q hq => h q (List.mem_cons_of_mem _ hq)
    have h2 := h r (List.mem_cons_self ..)
    simp only [List.map_cons, List.sum_cons, List.length_cons, Nat.add_mul] at h1 ⊢
    omega
theorem markL_int {c : Nat} {L : List Item} (ht : tot c L ≤ 1000000) : ∀ (i : Nat) (r : Item), (markL c L)[i]? = some r → AllInt r.zs := by
  intro i r hi
  have hlt : i < L.length := by
    rcases Nat.lt_or_ge i L.length with q | q
    · exact q
    · rw [List.getElem?_eq_none (by rw [markL_len]; exact q)] at hi; cases hi
  have hx := List.getElem?_eq_getElem hlt
  rw [markL_at hx] at hi
  obtain rfl := Option.some.inj hi
  have h1 := tot_le c L (i + 1)
  rw [tot_snoc hx] at h1
  exact marks_int _ _ (by omega)
end Go.Proofs.Ytpbceckbmalabaa.Rhy
