/-
  Helpers of the claims beside this text: slices of rhythms: what the laws' eqRhythmS, markRhythmS and heldRhythmS do.
-/
import Derived.Test.YtjgjcppkbfojpaaItm
import Derived.Test.YtjgjcppkbfojpaaLsi
import Derived.Deep.RegionHeld3
import Derived.Maps.AppendAt
namespace Go.Proofs.Ytjgjcppkbfojpaa.Rhy
open Go.RowKit
set_option linter.unusedVariables false

set_option maxHeartbeats 1000000 in
theorem eq_items (v1 v2 : Value) (L1 L2 : List Item) (w : World) (h1 : ItemsAt w v1 L1) (h2 : ItemsAt w v2 L2) (hv : vals L1 = vals L2) (hl : L1.length ≤ 5000) (hz : ∀ (i : Nat) (r : Item), L1[i]? = some r → r.zs.length ≤ 1000) :
    Calls Try.prog 50 #[v1, v2] w fun e w' => e = .returned (.bool true) ∧ Below w.heap.size w w' := by
  have hlen : L2.length = L1.length := by have := congrArg List.length hv; simpa [vals] using this.symm
  obtain ⟨a1, c1, rfl, hlc1, hc1⟩ := h1
  obtain ⟨a2, c2, rfl, hlc2, hc2⟩ := h2
  rw [hlen] at hlc2 hc2 ⊢
  have H1 := Lib.hid hc1
  have H2 := Lib.hid hc2
  have HV := Lib.hid hv
  have HZ := Lib.hid hz
  have HLEN := Lib.hid hlen
  clear hc1 hc2 hv hz hlen
  go_enter Try.func50, Try.ntmps50
  go_wp2
  go_loopw [5] (fun i wr => ∃ k : Nat, k ≤ L1.length ∧ i = .int .i64 k ∧ Below w.heap.size w wr) (fun i _ => L1.length - (intOf i).toNat)
  case atStart => exact ⟨0, by omega, rfl, Below.refl _ _⟩
  case round =>
    obtain ⟨k, hk, rfl, hnx⟩ := hrel
    have HX := Lib.hid hnx
    clear hnx
    by_cases hlt : k < L1.length
    · obtain ⟨b1, o1, rfl, hb1, hi1⟩ := H1.out (by omega)
      obtain ⟨b2, o2, rfl, hb2, hi2⟩ := H2.out (by omega)
      obtain ⟨r1, hr1⟩ : ∃ r, L1[k]? = some r := ⟨_, List.getElem?_eq_getElem hlt⟩
      obtain ⟨r2, hr2⟩ : ∃ r, L2[k]? = some r := ⟨_, List.getElem?_eq_getElem (by have := HLEN.out; omega)⟩
      have he : r1.s = r2.s ∧ r1.zs = r2.zs := by
        have e1 := vals_at (P := vals L1) rfl hr1
        have e2 := vals_at (P := vals L2) rfl hr2
        rw [HV.out, e2] at e1
        simp only [Option.some.injEq, Prod.mk.injEq] at e1
        exact ⟨e1.1.symm, e1.2.symm⟩
      obtain ⟨p1, p2, p3⟩ := hi1 k r1 hr1
      obtain ⟨q1, q2, q3⟩ := hi2 k r2 hr2
      have hzl := HZ.out k r1 hr1
      have HI1 := Lib.hid (p3.below HX.out)
      have HI2 : Hid (IntsAt wr r2.a r1.zs.length r1.zs) := Lib.hid (by rw [he.2]; exact q3.below HX.out)
      have d1 : wr.cell? ⟨b1, o1 + k * 2, none⟩ = some (.int .i64 r1.s) := by rw [HX.out.cell (p := ⟨b1, o1 + k * 2, none⟩) hb1]; exact p1
      have d2 : wr.cell? ⟨b1, o1 + k * 2 + 1, none⟩ = some (.slice r1.a r1.zs.length r1.cap) := by rw [HX.out.cell (p := ⟨b1, o1 + k * 2 + 1, none⟩) hb1]; exact p2
      have e1 : wr.cell? ⟨b2, o2 + k * 2, none⟩ = some (.int .i64 r1.s) := by rw [HX.out.cell (p := ⟨b2, o2 + k * 2, none⟩) hb2, he.1]; exact q1
      have e2 : wr.cell? ⟨b2, o2 + k * 2 + 1, none⟩ = some (.slice r2.a r1.zs.length r2.cap) := by rw [HX.out.cell (p := ⟨b2, o2 + k * 2 + 1, none⟩) hb2, he.2]; exact q2
      have hs := HX.out.size
      have HK : Hid (∀ W, Below wr.heap.size wr W → W.cell? ⟨b1, o1 + k * 2, none⟩ = some (.int .i64 r1.s) ∧ W.cell? ⟨b1, o1 + k * 2 + 1, none⟩ = some (.slice r1.a r1.zs.length r1.cap) ∧ W.cell? ⟨b2, o2 + k * 2, none⟩ = some (.int .i64 r1.s) ∧ W.cell? ⟨b2, o2 + k * 2 + 1, none⟩ = some (.slice r2.a r1.zs.length r2.cap) ∧ Below wr.heap.size wr W) :=
        Lib.hid (fun W hW => ⟨by rw [hW.cell (p := ⟨b1, o1 + k * 2, none⟩) (by show b1 < _; omega)]; exact d1, by rw [hW.cell (p := ⟨b1, o1 + k * 2 + 1, none⟩) (by show b1 < _; omega)]; exact d2, by rw [hW.cell (p := ⟨b2, o2 + k * 2, none⟩) (by show b2 < _; omega)]; exact e1, by rw [hW.cell (p := ⟨b2, o2 + k * 2 + 1, none⟩) (by show b2 < _; omega)]; exact e2, hW⟩)
      clear hi1 hi2 hr1 hr2 he p1 p2 p3 q1 q2 q3 d1 d2 e1 e2
      have hk0 : (0 : Int) ≤ (k : Int) := by omega
      have hk1 : (k : Int) < (L1.length : Int) := by omega
      go_wp2
      go_region_held3 (fun W => W.cell? ⟨b1, o1 + k * 2, none⟩ = some (.int .i64 r1.s) ∧ W.cell? ⟨b1, o1 + k * 2 + 1, none⟩ = some (.slice r1.a r1.zs.length r1.cap) ∧ W.cell? ⟨b2, o2 + k * 2, none⟩ = some (.int .i64 r1.s) ∧ W.cell? ⟨b2, o2 + k * 2 + 1, none⟩ = some (.slice r2.a r1.zs.length r2.cap) ∧ Below wr.heap.size wr W)
        (first | exact HK.out _ (Below.refl _ _).drew | exact HK.out _ hbb)
        ((first
          | (go_at_call 46; refine (eq_rhythm r1.s r1.a r2.a r1.cap r2.cap r1.zs.length r1.zs _ (HI1.out.below (Below.refl _ _).drew) (HI2.out.below (Below.refl _ _).drew) (by omega)).mono ?_; rintro e w1 ⟨rfl, hc1⟩; have hbb := (Below.refl wr.heap.size wr).drew.trans hc1; clear hc1)))
      have HX2 := Lib.hid (HX.out.trans (hbb.mono HX.out.size))
      clear HK hbb
      go_wp2
      go_roundw
      case rel => exact ⟨k + 1, by omega, by go_num, HX2.out⟩
      case measure => simp [intOf]; omega
    · go_wp2
      go_ret
      exact ⟨rfl, HX.out⟩

/-! ### marks -/
def tot (c : Nat) (L : List Item) : Nat := c + (L.map fun r => 1 + r.zs.length).sum
theorem tot_nil (c : Nat) : tot c [] = c := by simp [tot]
theorem tot_snoc {c : Nat} {L : List Item} {k : Nat} {r : Item} (h : L[k]? = some r) : tot c (L.take (k + 1)) = tot c (L.take k) + 1 + r.zs.length := by
  unfold tot
  rw [List.take_add_one, h]
  simp
  omega
theorem tot_le (c : Nat) (L : List Item) (k : Nat) : tot c (L.take k) ≤ tot c L := by
  unfold tot
  have : ∀ (l : List Nat) (k : Nat), (l.take k).sum ≤ l.sum := by
    intro l
    induction l with
    | nil => intro k; simp
    | cons x l ih => intro k; rcases k with _ | k <;> simp; exact ih k
  rw [List.map_take]
  have := this (L.map fun r => 1 + r.zs.length) k
  omega
def Item.mark (c : Nat) (r : Item) : Item := { r with s := (c : Int), zs := marks (c + 1) r.zs.length }
def markL (c : Nat) : List Item → List Item
  | [] => []
  | r :: L => r.mark c :: markL (c + 1 + r.zs.length) L
theorem markL_len (L : List Item) : ∀ c, (markL c L).length = L.length := by
  induction L with
  | nil => intro c; rfl
  | cons r L ih => intro c; simp [markL, ih]
theorem markL_at {L : List Item} : ∀ {c k : Nat} {r : Item}, L[k]? = some r → (markL c L)[k]? = some (r.mark (tot c (L.take k))) := by
  induction L with
  | nil => intro c k r h; cases h
  | cons x L ih =>
    intro c k r h
    rcases k with _ | k
    · obtain rfl : x = r := by simpa using h
      simp [markL, tot]
    · have := ih (c := c + 1 + x.zs.length) (show L[k]? = some r by simpa using h)
      have e : tot (c + 1 + x.zs.length) (L.take k) = tot c ((x :: L).take (k + 1)) := by unfold tot; simp; omega
      rw [e] at this
      simpa [markL] using this
/-- Marked as far as k. -/
def markK (c : Nat) (L : List Item) (k : Nat) : List Item := (markL c L).take k ++ L.drop k
theorem markK_len (c : Nat) (L : List Item) (k : Nat) : (markK c L k).length = L.length := by
  unfold markK
  rw [List.length_append, List.length_take, List.length_drop, markL_len]
  omega
theorem markK_at {c k : Nat} {L : List Item} {r : Item} (h : L[k]? = some r) : (markK c L k)[k]? = some r := by
  have hk : k < L.length := by
    rcases Nat.lt_or_ge k L.length with q | q
    · exact q
    · rw [List.getElem?_eq_none q] at h; cases h
  unfold markK
  rw [List.getElem?_append_right (by rw [List.length_take, markL_len]; omega), List.length_take, markL_len, Nat.min_eq_left (by omega), Nat.sub_self, List.getElem?_drop, Nat.add_zero]
  exact h
theorem markK_step {c k : Nat} {L : List Item} {r : Item} (h : L[k]? = some r) : (markK c L k).set k (r.mark (tot c (L.take k))) = markK c L (k + 1) := by
  have hk : k < L.length := by
    rcases Nat.lt_or_ge k L.length with q | q
    · exact q
    · rw [List.getElem?_eq_none q] at h; cases h
  unfold markK
  have e1 : L.drop k = r :: L.drop (k + 1) := by
    rw [List.drop_eq_getElem_cons hk]
    rw [List.getElem?_eq_getElem hk] at h
    rw [Option.some.inj h]
  have e2 : (markL c L).take (k + 1) = (markL c L).take k ++ [r.mark (tot c (L.take k))] := by
    rw [List.take_add_one, markL_at h]; rfl
  rw [e1, e2, List.append_assoc]
  have := set_mid ((markL c L).take k) (L.drop (k + 1)) r (r.mark (tot c (L.take k)))
  rw [List.length_take, markL_len, Nat.min_eq_left (by omega)] at this
  exact this

/-- A slice of rhythms of the call's own, in blocks from lo up to hi. -/
def RowS (w : World) (lo hi : Nat) (v : Value) (L : List Item) : Prop :=
  Items w lo v L ∧ (∀ k, v.ownBlock = some k → k < hi) ∧ (∀ (i : Nat) (r : Item) (k : Nat), L[i]? = some r → r.slc.ownBlock = some k → k < hi) ∧ hi ≤ w.heap.size
theorem rowS_of {w' : World} {lo : Nat} {v : Value} {L : List Item} (h : Items w' lo v L) : RowS w' lo w'.heap.size v L :=
  ⟨h, fun k e => (h.outer.lt k e).2, fun i r k hi e => ((h.each i r hi).lt k e).2, Nat.le_refl _⟩
theorem RowS.keep {w w' : World} {lo hi : Nat} {v : Value} {L : List Item} (h : RowS w lo hi v L) (hb : Below w.heap.size w w') : RowS w' lo hi v L :=
  ⟨h.1.keep hb, h.2.1, h.2.2.1, Nat.le_trans h.2.2.2 hb.size⟩
theorem RowS.within {w w' : World} {lo hi lo' hi' : Nat} {v : Value} {L : List Item} (h : RowS w lo hi v L) (hb : Within lo' hi' w w') (hd : hi ≤ lo' ∨ hi' ≤ lo) : RowS w' lo hi v L :=
  ⟨⟨hb.grown (fun k e => by have h1 := h.2.1 k e; have h2 := (h.1.outer.lt k e).1; omega) (fun k e => (h.1.outer.lt k e).2) h.1.outer,
    fun i r hi => hb.grown (fun k e => by have h1 := h.2.2.1 i r k hi e; have h2 := ((h.1.each i r hi).lt k e).1; omega) (fun k e => ((h.1.each i r hi).lt k e).2) (h.1.each i r hi), h.1.apart, h.1.off⟩, h.2.1, h.2.2.1, Nat.le_trans h.2.2.2 hb.size⟩
theorem RowS.at {w : World} {lo hi : Nat} {v : Value} {L : List Item} (h : RowS w lo hi v L) (hi : ∀ (i : Nat) (r : Item), L[i]? = some r → AllInt r.zs) : ItemsAt w v L := h.1.at hi
theorem own_raise {w : World} {lo b : Nat} {v : Value} {n : Nat} {xs : List Value} {e : TypeId} {size : Nat} (h : w.ownsRow lo e size v n xs) (hb : ∀ k, v.ownBlock = some k → b ≤ k) : w.ownsRow b e size v n xs := by
  obtain ⟨h1, h2 | ⟨g, cap, cur, rfl, hB, rest⟩⟩ := h
  · exact ⟨h1, .inl h2⟩
  · exact ⟨h1, .inr ⟨g, cap, cur, rfl, hb g rfl, rest⟩⟩
theorem own_within {w w' : World} {lo' hi' : Nat} {B : Nat} {e : TypeId} {size n : Nat} {v : Value} {xs : List Value} (hb : Within lo' hi' w w') (h : w.ownsRow B e size v n xs) (hd : ∀ k, v.ownBlock = some k → k < lo' ∨ hi' ≤ k) : w'.ownsRow B e size v n xs :=
  hb.grown hd (fun k e => (h.lt k e).2) h
/-- A store of a size. -/
theorem items_size {w : World} {lo g n cap k : Nat} {M : List Item} {r : Item} (h : Items w lo (.slice (some ⟨g, 0, none⟩) n cap) M) (hr : M[k]? = some r) (c : Int) (hn : n = M.length) :
    Items (w.setCell ⟨g, k * 2, none⟩ (.int .i64 c)) lo (.slice (some ⟨g, 0, none⟩) n cap) (M.set k { r with s := c }) ∧ w.grownBy (w.setCell ⟨g, k * 2, none⟩ (.int .i64 c)) (some g) := by
  subst hn
  obtain ⟨st, hg⟩ := h.outer.stored (k * 2) (.int .i64 c)
  rw [itemCells_set c hr] at st
  have hset : ∀ (i : Nat) (q : Item), (M.set k { r with s := c })[i]? = some q → ∃ q0, M[i]? = some q0 ∧ q.slc = q0.slc ∧ q.zs = q0.zs := by
    intro i q hq
    rw [List.getElem?_set] at hq
    split at hq
    · rename_i e
      subst e
      split at hq
      · obtain rfl := Option.some.inj hq
        exact ⟨r, hr, rfl, rfl⟩
      · cases hq
    · exact ⟨q, hq, rfl, rfl⟩
  refine ⟨⟨by rw [List.length_set]; exact st, fun i q hq => ?_, fun i j q q' b hij hq hq' hb hb' => ?_, fun i q b hq hb hv => ?_⟩, hg⟩
  · obtain ⟨q0, h0, e1, e2⟩ := hset i q hq
    rw [e1, e2]
    exact own_grown (h.each i q0 h0) hg (fun b hb e => h.off i q0 b h0 hb e)
  · obtain ⟨q0, h0, e1, _⟩ := hset i q hq
    obtain ⟨q1, h1, e2, _⟩ := hset j q' hq'
    rw [e1] at hb; rw [e2] at hb'
    exact h.apart i j q0 q1 b hij h0 h1 hb hb'
  · obtain ⟨q0, h0, e1, _⟩ := hset i q hq
    rw [e1] at hb
    exact h.off i q0 b h0 hb hv
/-- The beats of one rhythm are written. -/
theorem items_beats {w w' : World} {lo bl bh k : Nat} {v : Value} {M : List Item} {r : Item} {zs' : List Int} (h : Items w lo v M) (hr : M[k]? = some r) (hz : zs'.length = r.zs.length) (hb : Within bl bh w w')
    (hbl : ∀ x, bl ≤ x → x < bh → r.slc.ownBlock = some x) (ho : w'.ownsRow lo 3 1 r.slc r.zs.length (ints zs')) : Items w' lo v (M.set k { r with zs := zs' }) := by
  have hset : ∀ (i : Nat) (q : Item), (M.set k { r with zs := zs' })[i]? = some q → ∃ q0, M[i]? = some q0 ∧ q.slc = q0.slc ∧ ((i ≠ k ∧ q = q0) ∨ (i = k ∧ q0 = r ∧ q.zs = zs')) := by
    intro i q hq
    rw [List.getElem?_set] at hq
    split at hq
    · rename_i e
      subst e
      split at hq
      · obtain rfl := Option.some.inj hq
        exact ⟨r, hr, by simp [Item.slc, hz], .inr ⟨rfl, rfl, rfl⟩⟩
      · cases hq
    · rename_i e
      exact ⟨q, hq, rfl, .inl ⟨fun x => e x.symm, rfl⟩⟩
  have hcells : itemCells (M.set k { r with zs := zs' }) = itemCells M := by
    apply List.ext_getElem?
    intro j
    have hl : M.length = (M.set k { r with zs := zs' }).length := by simp
    rcases Nat.lt_or_ge j (M.length * 2) with q | q
    · have hi : j / 2 < M.length := by omega
      obtain ⟨x, hx⟩ : ∃ x, (M.set k { r with zs := zs' })[j / 2]? = some x := ⟨_, List.getElem?_eq_getElem (by rw [← hl]; exact hi)⟩
      obtain ⟨q0, h0, e1, e2⟩ := hset _ _ hx
      have hs : x.s = q0.s := by
        rcases e2 with ⟨_, rfl⟩ | ⟨e, rfl, _⟩
        · rfl
        · rw [e, List.getElem?_set_self (by omega)] at hx
          obtain rfl := Option.some.inj hx
          rfl
      obtain ⟨c1, c2⟩ := itemCells_at hx
      obtain ⟨d1, d2⟩ := itemCells_at h0
      rcases Nat.mod_two_eq_zero_or_one j with m | m
      · rw [show j = j / 2 * 2 by omega, c1, d1, hs]
      · rw [show j = j / 2 * 2 + 1 by omega, c2, d2, e1]
    · rw [List.getElem?_eq_none (by rw [itemCells_len, ← hl]; omega), List.getElem?_eq_none (by rw [itemCells_len]; omega)]
  refine ⟨?_, fun i q hq => ?_, fun i j q q' b hij hq hq' hb1 hb2 => ?_, fun i q b hq hb1 hv => ?_⟩
  · rw [hcells, List.length_set]
    refine own_within hb h.outer fun x hx => ?_
    rcases Nat.lt_or_ge x bl with p | p
    · exact .inl p
    · rcases Nat.lt_or_ge x bh with p2 | p2
      · exact absurd hx (h.off k r x hr (hbl x p p2))
      · exact .inr p2
  · obtain ⟨q0, h0, e1, e2⟩ := hset i q hq
    rcases e2 with ⟨hne, rfl⟩ | ⟨_, rfl, e3⟩
    · refine own_within hb (h.each i q h0) fun x hx => ?_
      rcases Nat.lt_or_ge x bl with p | p
      · exact .inl p
      · rcases Nat.lt_or_ge x bh with p2 | p2
        · exact absurd (hbl x p p2) (h.apart i k q r x hne h0 hr hx)
        · exact .inr p2
    · rw [e1, e3, hz]; exact ho
  · obtain ⟨q0, h0, e1, _⟩ := hset i q hq
    obtain ⟨q1, h1, e2, _⟩ := hset j q' hq'
    rw [e1] at hb1; rw [e2] at hb2
    exact h.apart i j q0 q1 b hij h0 h1 hb1 hb2
  · obtain ⟨q0, h0, e1, _⟩ := hset i q hq
    rw [e1] at hb1
    exact h.off i q0 b h0 hb1 hv
end Go.Proofs.Ytjgjcppkbfojpaa.Rhy

/-
  Helpers of the claims beside this text: slices of rhythms are marked, and still held.
-/
namespace Go.Proofs.Ytjgjcppkbfojpaa.Rhy
open Go.RowKit
set_option linter.unusedVariables false

theorem mark_slc (c : Nat) (r : Item) : (r.mark c).slc = r.slc := by unfold Item.mark Item.slc; simp [marks_len]
theorem rowS_grown {w w' : World} {lo hi : Nat} {a : World} {row : Option Nat} (h : Within lo hi a w) (hg : w.grownBy w' row) (hr : ∀ k, row = some k → lo ≤ k ∧ k < hi) : Within lo hi a w' := h.trans (Within.of_grown hg hr)
theorem within_mono {lo hi lo' hi' : Nat} {a b : World} (h : Within lo hi a b) (h1 : ∀ k, lo ≤ k → k < hi → lo' ≤ k ∧ k < hi') : Within lo' hi' a b :=
  ⟨h.os, h.tape, h.output, h.size, fun k hk ho => h.block k hk (by
    rcases Nat.lt_or_ge k lo with p | p
    · exact .inl p
    · rcases Nat.lt_or_ge k hi with q | q
      · have := h1 k p q; omega
      · exact .inr q)⟩

theorem row_around {W : World} {lo : Nat} {r : Item} (h : W.ownsRow lo 3 1 r.slc r.zs.length (ints r.zs)) : ∃ bl bh, Row W bl bh r.a r.zs.length r.cap r.zs ∧ (∀ x, bl ≤ x → x < bh → r.slc.ownBlock = some x) := by
  cases hb : r.slc.ownBlock with
  | none =>
    have hn : ∀ x, (Value.slice r.a r.zs.length r.cap).ownBlock ≠ some x := fun x hx => by
      have : r.slc.ownBlock = some x := hx
      rw [hb] at this; cases this
    exact ⟨W.heap.size, W.heap.size, ⟨own_raise h (fun x hx => absurd hx (hn x)), fun x hx => absurd hx (hn x), Nat.le_refl _⟩, fun x h1 h2 => by omega⟩
  | some b =>
    have hn : ∀ x, (Value.slice r.a r.zs.length r.cap).ownBlock = some x → x = b := fun x hx => by
      have : r.slc.ownBlock = some x := hx
      rw [hb] at this; exact (Option.some.inj this).symm
    exact ⟨b, b + 1, ⟨own_raise h (fun x hx => by rw [hn x hx]; exact Nat.le_refl _), fun x hx => by rw [hn x hx]; omega, (h.lt b hb).2⟩, fun x h1 h2 => by rw [show x = b by omega]⟩
/-- Marked as far as k, and the counter behind it. -/
def MarkAt (lo hi c : Nat) (v : Value) (L : List Item) (k : Nat) (w wr : World) : Prop :=
  Items wr lo v (markK c L k) ∧ Within lo hi w wr ∧ w.heap.size ≤ wr.heap.size
set_option maxHeartbeats 1000000 in
set_option maxRecDepth 100000 in
theorem mark_items (lo hi c : Nat) (v : Value) (L : List Item) (w : World) (h : RowS w lo hi v L) (hl : L.length ≤ 5000) (ht : tot c L ≤ 1000000) :
    Calls Try.prog 51 #[v, .int .i64 c] w fun e w' => e = .returned (.int .i64 (tot c L)) ∧ RowS w' lo hi v (markL c L) ∧ Within lo hi w w' := by
  have H := Lib.hid h
  have hv := h.1.outer.2
  clear h
  have hfin : ∀ wr, MarkAt lo hi c v L L.length w wr → RowS wr lo hi v (markL c L) ∧ Within lo hi w wr := fun wr hm => by
    have e : markK c L L.length = markL c L := by unfold markK; rw [List.take_of_length_le (by rw [markL_len]; exact Nat.le_refl _), List.drop_of_length_le (Nat.le_refl _), List.append_nil]
    obtain ⟨m1, m2, m3⟩ := hm
    rw [e] at m1
    refine ⟨⟨m1, H.out.2.1, fun i r k hi hk => ?_, Nat.le_trans H.out.2.2.2 m3⟩, m2⟩
    have hlt : i < L.length := by
      rcases Nat.lt_or_ge i L.length with q | q
      · exact q
      · rw [List.getElem?_eq_none (by rw [markL_len]; exact q)] at hi; cases hi
    have hx := List.getElem?_eq_getElem hlt
    rw [markL_at hx] at hi
    obtain rfl := Option.some.inj hi
    rw [mark_slc] at hk
    exact H.out.2.2.1 i _ k hx hk
  have HFIN := Lib.hid hfin
  have htot := Lib.hid (show tot c (L.take L.length) = tot c L by rw [List.take_length])
  clear hfin
  have hc0 : c ≤ 1000000 := Nat.le_trans (by unfold tot; omega) ht
  rcases hv with ⟨rfl, h0⟩ | ⟨g, cap, cur, rfl, _, hgw, _, _, _, _⟩
  · have hL : L = [] := List.eq_nil_of_length_eq_zero h0
    subst hL
    have HT : Hid (tot c [] = c) := Lib.hid (tot_nil c)
    go_enter Try.func51, Try.ntmps51
    go_wp2
    go_loopw [5, 1] (fun i q wr => i = .int .i64 0 ∧ q = .int .i64 c ∧ wr = w) (fun _ _ _ => 0)
    case atStart => exact ⟨rfl, rfl, rfl⟩
    case round =>
      obtain ⟨rfl, rfl, rfl⟩ := hrel
      go_wp2
      go_ret
      exact ⟨ret_int (by rw [HT.out]), H.out, Within.refl _ _ _⟩
  · have hgl : lo ≤ g ∧ g < hi := ⟨(H.out.1.outer.lt g rfl).1, H.out.2.1 g rfl⟩
    clear hgw
    go_enter Try.func51, Try.ntmps51
    go_wp2
    go_loopw [5, 1] (fun i q wr => ∃ k : Nat, k ≤ L.length ∧ i = .int .i64 k ∧ q = .int .i64 (tot c (L.take k) : Nat) ∧ MarkAt lo hi c (.slice (some ⟨g, 0, none⟩) L.length cap) L k w wr) (fun i _ _ => L.length - (intOf i).toNat)
    case atStart => exact ⟨0, by omega, rfl, by rw [List.take_zero, tot_nil], by unfold markK; simpa using H.out.1, Within.refl _ _ _, Nat.le_refl _⟩
    case round =>
      obtain ⟨k, hk, rfl, rfl, hit, hwi, hsz⟩ := hrel
      have HIT := Lib.hid hit
      have HWI := Lib.hid hwi
      have HSZ := Lib.hid hsz
      have htk := tot_le c L k
      clear hit hwi hsz
      by_cases hlt : k < L.length
      · obtain ⟨r, hr⟩ : ∃ r, L[k]? = some r := ⟨_, List.getElem?_eq_getElem hlt⟩
        have HR := Lib.hid hr
        have HRK := Lib.hid (markK_at (c := c) hr)
        have HML := Lib.hid (markK_len c L k)
        have HTS := Lib.hid (tot_snoc (c := c) hr)
        have hts : tot c (L.take k) + 1 + r.zs.length ≤ 1000000 := by have := tot_le c L (k + 1); rw [tot_snoc hr] at this; omega
        clear hr
        obtain ⟨T, hT⟩ : ∃ T : Nat, T = tot c (L.take k) := ⟨_, rfl⟩
        rw [← hT] at hts htk
        have HT := Lib.hid hT
        rw [← hT]
        clear hT
        have hout := HIT.out.outer
        rw [HML.out] at hout
        obtain ⟨c1, c2⟩ := itemCells_at HRK.out
        have hcell0 : wr.cell? ⟨g, k * 2, none⟩ = some (.int .i64 r.s) := by rw [hout.cellAt (k * 2) (by omega)]; exact c1
        have hcell1 : wr.cell? ⟨g, k * 2 + 1, none⟩ = some (.slice r.a r.zs.length r.cap) := by rw [hout.cellAt (k * 2 + 1) (by omega)]; exact c2
        have hfz := hout.frozenAt (k * 2)
        obtain ⟨W1, hW1⟩ : ∃ W1, W1 = wr.setCell ⟨g, k * 2, none⟩ (.int .i64 (T : Nat)) := ⟨_, rfl⟩
        have HW1 := Lib.hid hW1
        have hst := items_size HIT.out HRK.out (T : Nat) HML.out.symm
        rw [← hW1] at hst
        have HI1 := Lib.hid hst.1
        have HG1 := Lib.hid hst.2
        have HRK1 : Hid (((markK c L k).set k { r with s := ((T : Nat) : Int) })[k]? = some { r with s := ((T : Nat) : Int) }) := Lib.hid (List.getElem?_set_self (by rw [HML.out]; exact hlt))
        clear hW1 hst hout c1 c2
        have hown := HI1.out.each k _ HRK1.out
        have HOW : Hid (W1.ownsRow lo 3 1 (.slice r.a r.zs.length r.cap) r.zs.length (ints r.zs)) := Lib.hid hown
        obtain ⟨bl, bh, hbx, hby⟩ := row_around (r := r) HOW.out
        have HBX := Lib.hid hbx
        have HBY := Lib.hid hby
        have hlh : ∀ x, bl ≤ x → x < bh → lo ≤ x ∧ x < hi := fun x h1 h2 => ⟨(hown.lt x (hby x h1 h2)).1, H.out.2.2.1 k r x HR.out (hby x h1 h2)⟩
        have HLH := Lib.hid hlh
        clear hown hbx hby hlh
        go_wp2_with fail
        rw [← HW1.out]
        have e1 : ((T : Nat) : Int) + 1 = ((T + 1 : Nat) : Int) := by omega
        rw [e1]
        refine (mark_ints bl bh (T + 1) r.a r.cap r.zs.length r.zs W1 HBX.out (by omega) (by omega)).mono ?_
        rintro e w3 ⟨rfl, hrow, hwi3⟩
        have HI3 := Lib.hid (items_beats (zs' := marks (T + 1) r.zs.length) HI1.out HRK1.out (marks_len _ _) hwi3 HBY.out (own_raise hrow.1 (fun x hx => (HOW.out.lt x hx).1)))
        have HW3 := Lib.hid (within_mono hwi3 HLH.out)
        clear hrow hwi3 e1
        have HS3 : Hid (Items w3 lo (.slice (some ⟨g, 0, none⟩) L.length cap) (markK c L (k + 1))) := Lib.hid (by
          have h1 := HI3.out
          rw [List.set_set] at h1
          rw [← markK_step HR.out, ← HT.out]
          exact h1)
        have HN : Hid (tot c (L.take (k + 1)) = T + 1 + r.zs.length) := Lib.hid (by rw [HTS.out, HT.out])
        go_wp2
        go_roundw
        case rel => exact ⟨k + 1, by omega, by go_num, by rw [HN.out]; go_num, HS3.out, (rowS_grown HWI.out HG1.out (fun x hx => by have := Option.some.inj hx; omega)).trans HW3.out, Nat.le_trans (Nat.le_trans HSZ.out HG1.out.size) HW3.out.size⟩
        case measure => simp [intOf]; omega
      · have e : k = L.length := by omega
        have HE : Hid (tot c (L.take k) = tot c L) := Lib.hid (by rw [e, htot.out])
        have HQ := Lib.hid (HFIN.out wr (by have h1 := HIT.out; rw [e] at h1; exact ⟨h1, HWI.out, HSZ.out⟩))
        clear e
        go_wp2
        go_ret
        exact ⟨ret_int (by rw [HE.out]), HQ.out⟩

set_option maxHeartbeats 1000000 in
theorem held_items (c : Nat) (v : Value) (L : List Item) (w : World) (h : ItemsAt w v (markL c L)) (hl : L.length ≤ 5000) (ht : tot c L ≤ 1000000) :
    Calls Try.prog 52 #[v, .int .i64 c] w fun e w' => e = .returned (.int .i64 (tot c L)) ∧ Below w.heap.size w w' := by
  obtain ⟨a, cap, rfl, hlc, hc⟩ := h
  rw [markL_len] at hlc hc ⊢
  have H := Lib.hid hc
  have htot := Lib.hid (show tot c (L.take L.length) = tot c L by rw [List.take_length])
  have hc0 : c ≤ 1000000 := Nat.le_trans (by unfold tot; omega) ht
  clear hc
  go_enter Try.func52, Try.ntmps52
  go_wp2
  go_loopw [5, 1] (fun i q wr => ∃ k : Nat, k ≤ L.length ∧ i = .int .i64 k ∧ q = .int .i64 (tot c (L.take k) : Nat) ∧ Below w.heap.size w wr) (fun i _ _ => L.length - (intOf i).toNat)
  case atStart => exact ⟨0, by omega, rfl, by rw [List.take_zero, tot_nil], Below.refl _ _⟩
  case round =>
    obtain ⟨k, hk, rfl, rfl, hnx⟩ := hrel
    have HX := Lib.hid hnx
    have htk := tot_le c L k
    clear hnx
    by_cases hlt : k < L.length
    · obtain ⟨b, off, rfl, hb, hi⟩ := H.out (by omega)
      obtain ⟨r, hr⟩ : ∃ r, L[k]? = some r := ⟨_, List.getElem?_eq_getElem hlt⟩
      have hts : tot c (L.take k) + 1 + r.zs.length ≤ 1000000 := by have := tot_le c L (k + 1); rw [tot_snoc hr] at this; omega
      have HTS := Lib.hid (tot_snoc (c := c) hr)
      obtain ⟨p1, p2, p3⟩ := hi k _ (markL_at hr)
      obtain ⟨T, hT⟩ : ∃ T : Nat, T = tot c (L.take k) := ⟨_, rfl⟩
      rw [← hT] at hts htk p1 p2 p3 ⊢
      have HT := Lib.hid hT
      have HI : Hid (IntsAt wr r.a r.zs.length (marks (T + 1) r.zs.length)) := Lib.hid (by have := p3.below HX.out; simpa [Item.mark, marks_len] using this)
      have d1 : wr.cell? ⟨b, off + k * 2, none⟩ = some (.int .i64 (T : Nat)) := by rw [HX.out.cell (p := ⟨b, off + k * 2, none⟩) hb]; exact p1
      have d2 : wr.cell? ⟨b, off + k * 2 + 1, none⟩ = some (.slice r.a r.zs.length r.cap) := by rw [HX.out.cell (p := ⟨b, off + k * 2 + 1, none⟩) hb, p2, mark_slc]; rfl
      clear hi hr p1 p2 p3 hT
      go_wp2_with fail
      have e1 : ((T : Nat) : Int) + 1 = ((T + 1 : Nat) : Int) := by omega
      rw [e1]
      refine (held_ints (T + 1) r.a r.cap r.zs.length wr HI.out (by omega) (by omega)).mono ?_
      rintro e w3 ⟨rfl, hb3⟩
      have HX3 := Lib.hid (HX.out.trans (hb3.mono HX.out.size))
      have HN : Hid (tot c (L.take (k + 1)) = T + 1 + r.zs.length) := Lib.hid (by rw [HTS.out, HT.out])
      clear hb3 e1 d1 d2
      have hnn : ¬ (((T + 1 : Nat) : Int) + (r.zs.length : Int) < 0) := by omega
      go_wp2
      go_roundw
      case rel => exact ⟨k + 1, by omega, by go_num, by rw [HN.out]; go_num, HX3.out⟩
      case measure => simp [intOf]; omega
    · have e : k = L.length := by omega
      have HE : Hid (tot c (L.take k) = tot c L) := Lib.hid (by rw [e, htot.out])
      clear e
      go_wp2
      go_ret
      exact ⟨ret_int (by rw [HE.out]), HX.out⟩
theorem tot_bound (c : Nat) (L : List Item) (m : Nat) (h : ∀ r ∈ L, r.zs.length ≤ m) : tot c L ≤ c + L.length * (1 + m) := by
  unfold tot
  induction L with
  | nil => simp
  | cons r L ih =>
    have h1 := ih fun q hq => h q (List.mem_cons_of_mem _ hq)
    have h2 := h r (List.mem_cons_self ..)
    simp only [List.map_cons, List.sum_cons, List.length_cons, Nat.add_mul] at h1 ⊢
    omega
theorem markL_int {c : Nat} {L : List Item} (ht : tot c L ≤ 1000000) : ∀ (i : Nat) (r : Item), (markL c L)[i]? = some r → AllInt r.zs := by
  intro i r hi
  have hlt : i < L.length := by
    rcases Nat.lt_or_ge i L.length with q | q
    · exact q
    · rw [List.getElem?_eq_none (by rw [markL_len]; exact q)] at hi; cases hi
  have hx := List.getElem?_eq_getElem hlt
  rw [markL_at hx] at hi
  obtain rfl := Option.some.inj hi
  have h1 := tot_le c L (i + 1)
  rw [tot_snoc hx] at h1
  exact marks_int _ _ (by omega)
end Go.Proofs.Ytjgjcppkbfojpaa.Rhy

/-
  Helpers of the claims beside this text: a slice of slices of integers: its own row, and a row for each.
-/
namespace Go.Proofs.Ytjgjcppkbfojpaa.Rhy
open Go.RowKit
set_option linter.unusedVariables false

/-- A slice of integers as it lies in a slice: where its integers lie, and they. -/
structure Lit where
  a : Option Addr
  cap : Nat
  zs : List Int
def Lit.slc (r : Lit) : Value := .slice r.a r.zs.length r.cap
def litCells (L : List Lit) : List Value := L.map Lit.slc
theorem litCells_len (L : List Lit) : (litCells L).length = L.length := by simp [litCells]
theorem litCells_snoc (L : List Lit) (r : Lit) : litCells (L ++ [r]) = litCells L ++ [r.slc] := by simp [litCells]
theorem litCells_at {L : List Lit} {i : Nat} {r : Lit} (h : L[i]? = some r) : (litCells L)[i]? = some r.slc := by simp [litCells, h]

/-- A slice of slices of the call's own, all of its blocks from lo on: its row, the integers' rows, no two of them the same. -/
structure Lits (w : World) (lo : Nat) (v : Value) (L : List Lit) : Prop where
  outer : w.ownsRow lo 23 1 v L.length (litCells L)
  each : ∀ (i : Nat) (r : Lit), L[i]? = some r → w.ownsRow lo 3 1 r.slc r.zs.length (ints r.zs)
  apart : ∀ (i j : Nat) (r r' : Lit) (k : Nat), i ≠ j → L[i]? = some r → L[j]? = some r' → r.slc.ownBlock = some k → r'.slc.ownBlock ≠ some k
  off : ∀ (i : Nat) (r : Lit) (k : Nat), L[i]? = some r → r.slc.ownBlock = some k → v.ownBlock ≠ some k
theorem lits_nil (w : World) (lo : Nat) : Lits w lo (.slice none 0 0) [] :=
  ⟨World.ownsRow_nil _ _ _ _, fun i r h => by simp at h, fun i j r r' k _ h => by simp at h, fun i r k h => by simp at h⟩
theorem lits_made (w : World) {lo : Nat} (h : lo ≤ w.heap.size) : Lits (w.alloc (.cells #[] 23)) lo (.slice (some ⟨w.heap.size, 0, none⟩) 0 0) [] :=
  ⟨World.ownsRow_made w #[] 0 h (by unfold maxLen; omega) rfl, fun i r h => by simp at h, fun i j r r' k _ h => by simp at h, fun i r k h => by simp at h⟩
theorem Lits.keep {w w' : World} {lo : Nat} {v : Value} {L : List Lit} (h : Lits w lo v L) (hb : Below w.heap.size w w') : Lits w' lo v L :=
  ⟨own_below h.outer hb, fun i r hi => own_below (h.each i r hi) hb, h.apart, h.off⟩
theorem Lits.base {w : World} {lo lo' : Nat} {v : Value} {L : List Lit} (h : Lits w lo v L) (hl : lo' ≤ lo) : Lits w lo' v L :=
  ⟨own_base h.outer hl, fun i r hi => own_base (h.each i r hi) hl, h.apart, h.off⟩
/-- A step that turns one block that is none of these. -/
theorem Lits.grown {w w' : World} {lo : Nat} {v : Value} {L : List Lit} {row : Option Nat} (h : Lits w lo v L) (hg : w.grownBy w' row) (h1 : ∀ k, v.ownBlock = some k → row ≠ some k) (h2 : ∀ (i : Nat) (r : Lit) (k : Nat), L[i]? = some r → r.slc.ownBlock = some k → row ≠ some k) : Lits w' lo v L :=
  ⟨own_grown h.outer hg h1, fun i r hi => own_grown (h.each i r hi) hg (fun k hk => h2 i r k hi hk), h.apart, h.off⟩
/-- 'out = append(out, l)' behind the making of l. -/
theorem lits_snoc {wr w2 w3 : World} {lo : Nat} {v v' : Value} {L : List Lit} {r : Lit} {o : Obj} (h : Lits w2 lo v L) (hold : ∀ (i : Nat) (q : Lit) (k : Nat), L[i]? = some q → q.slc.ownBlock = some k → k < wr.heap.size) (hv : ∀ k, v.ownBlock = some k → k < wr.heap.size) (hw : wr.heap.size ≤ w2.heap.size) (hlo : lo ≤ wr.heap.size)
    (hr : w2.ownsRow wr.heap.size 3 1 r.slc r.zs.length (ints r.zs))
    (h1 : w3.ownsRow lo 23 1 v' (L.length + 1) (litCells L ++ [r.slc])) (hg : (w2.alloc o).grownBy w3 v.ownBlock)
    (hat : v'.ownBlock = v.ownBlock ∨ v'.ownBlock = some (w2.alloc o).heap.size) : Lits w3 lo v' (L ++ [r]) := by
  have hsz : (w2.alloc o).heap.size = w2.heap.size + 1 := by simp
  have hnew : ∀ k, r.slc.ownBlock = some k → wr.heap.size ≤ k ∧ k < w2.heap.size := fun k hk => hr.lt k hk
  refine ⟨?_, ?_, ?_, ?_⟩
  · rw [litCells_snoc, List.length_append]; exact h1
  · intro i q hi
    rcases getElem_snoc hi with q1 | ⟨_, q1⟩
    · exact own_grown ((h.each i q q1).alloc o) hg (fun k hk e => h.off i q k q1 hk e)
    · rw [q1]
      exact own_base (own_grown (hr.alloc o) hg (fun k hk e => by have h2 := hnew k hk; have h3 := hv k e; omega)) hlo
  · intro i j q q' k hij hi hj hk hk'
    rcases getElem_snoc hi with q1 | ⟨e1, q1⟩
    · rcases getElem_snoc hj with q2 | ⟨e2, q2⟩
      · exact h.apart i j q q' k hij q1 q2 hk hk'
      · rw [q2] at hk'
        have h2 := hold i q k q1 hk; have h3 := hnew k hk'; omega
    · rw [q1] at hk
      rcases getElem_snoc hj with q2 | ⟨e2, q2⟩
      · have h2 := hold j q' k q2 hk'; have h3 := hnew k hk; omega
      · omega
  · intro i q k hi hk hvk
    have hks : k < w2.heap.size := by
      rcases getElem_snoc hi with q1 | ⟨_, q1⟩
      · have := hold i q k q1 hk; omega
      · rw [q1] at hk; exact (hnew k hk).2
    rcases hat with e | e
    · rw [e] at hvk
      rcases getElem_snoc hi with q1 | ⟨_, q1⟩
      · exact h.off i q k q1 hk hvk
      · rw [q1] at hk
        have h2 := hnew k hk; have h3 := hv k hvk; omega
    · rw [e, hsz] at hvk
      have := Option.some.inj hvk
      omega
theorem infoL : (Try.prog.info? 23).map (fun i => (i.zero, i.size, i.bytes)) = some (some (.slice none 0 0), 1, 24) := by kernel_rfl
/-- 'out = append(out, l)' at a slice of slices of the call's own. -/
theorem append_lit {ops : Array Oper} {rest : List Oper} {o : Oper} {a : Act} {Q : Exit → Act → World → Prop} (hgd : o.guard = none) (x y : Operand)
    (ho : o.op = .call { callee := .builtin .append, args := #[x, y], argTypes := #[42, 42] })
    (lo : Nat) (v : Value) (L : List Lit) (r : Lit) (wr w2 : World) (h : Lits w2 lo v L) (hold : ∀ (i : Nat) (q : Lit) (k : Nat), L[i]? = some q → q.slc.ownBlock = some k → k < wr.heap.size) (hv : ∀ k, v.ownBlock = some k → k < wr.heap.size) (hw : wr.heap.size ≤ w2.heap.size) (hlo : lo ≤ wr.heap.size) (hl : L.length ≤ 1048577)
    (hr : w2.ownsRow wr.heap.size 3 1 r.slc r.zs.length (ints r.zs)) (N : Nat) (hN : N = w2.heap.size)
    (hs : a.eval x = v) (hx : a.eval y = .slice (some ⟨N, 0, none⟩) 1 1)
    (hK : ∀ a' c' w3, Lits w3 lo (.slice a' (L.length + 1) c') (L ++ [r]) → Below lo w2 w3 → w2.heap.size ≤ w3.heap.size → (∀ k, k < w2.heap.size → v.ownBlock ≠ some k → w3.heap[k]? = w2.heap[k]?) → wpList Try.prog ops Q rest (a.put o.dst (.slice a' (L.length + 1) c')) w3) :
    wpList Try.prog ops Q (o :: rest) a (w2.alloc (.cells #[r.slc] 23)) := by
  obtain ⟨i0, hi, hz, hsz, hby⟩ := info_parts' infoL
  subst hN
  refine wpList_append_own_at _ hgd x y 42 ho lo 23 i0 (.slice none 0 0) 1 24 Try.underlying42 hi hz hsz hby rfl (by decide) v L.length (litCells L) hs (h.outer.alloc _) ⟨w2.heap.size, 0, none⟩ 1 1 [r.slc] hx rfl (cell_one_new _ _ _) ?_ ?_ ?_ ?_ ?_
  · intro u hu
    simp only [List.mem_cons, List.not_mem_nil, or_false] at hu
    rcases hu with rfl
    rfl
  · unfold maxLen; omega
  · omega
  · simp; omega
  · intro v' w' ho' hg _ hat
    have ho2 : w'.ownsRow lo 23 1 v' (L.length + 1) (litCells L ++ [r.slc]) := ho'
    obtain ⟨_, hsh⟩ := ho'
    rcases hsh with ⟨_, h0⟩ | ⟨g, cap, cur, rfl, _⟩
    · omega
    · refine hK _ cap w' (lits_snoc h hold hv hw hlo hr ho2 hg hat) ((((Below.refl lo w2).alloc (by omega) _).grown hg (by simp; omega) fun k hk => (h.outer.lt k hk).1)) (by have := hg.size; simp at this; omega) (fun k hk hne => ?_)
      rw [hg.block k (by simp; omega) (fun e => hne e.symm)]
      exact ((Below.refl w2.heap.size w2).alloc (Nat.le_refl _) _).block k hk

/-- The values of the slices. -/
def valsL (L : List Lit) : List (List Int) := L.map Lit.zs
theorem valsL_len {L : List Lit} {P : List (List Int)} (h : valsL L = P) : L.length = P.length := by rw [← h]; simp [valsL]
theorem valsL_at {L : List Lit} {P : List (List Int)} (h : valsL L = P) {i : Nat} {r : Lit} (hi : L[i]? = some r) : P[i]? = some r.zs := by rw [← h]; simp [valsL, hi]
/-- What a function leaves that answers with a slice of slices. -/
def LSPost (P : List (List Int)) (w : World) (e : Ending) (w' : World) : Prop :=
  ∃ a cap L, e = .returned (.slice a P.length cap) ∧ Lits w' w.heap.size (.slice a P.length cap) L ∧ valsL L = P ∧ Below w.heap.size w w'
/-- A slice of slices as it lies in memory. -/
def LitsAt (w : World) (v : Value) (L : List Lit) : Prop :=
  ∃ a cap, v = .slice a L.length cap ∧ L.length ≤ cap ∧ (0 < L.length → ∃ b off, a = some ⟨b, off, none⟩ ∧ b < w.heap.size ∧
    ∀ (i : Nat) (r : Lit), L[i]? = some r → w.cell? ⟨b, off + i, none⟩ = some r.slc ∧ IntsAt w r.a r.zs.length r.zs)
theorem Lits.at {w : World} {lo : Nat} {v : Value} {L : List Lit} (h : Lits w lo v L) (hi : ∀ (i : Nat) (r : Lit), L[i]? = some r → AllInt r.zs) : LitsAt w v L := by
  have hc := @World.ownsRow.cells w lo _ 1 v L.length (litCells L) h.outer
  have hlt := h.outer.lt
  obtain ⟨h1, ⟨rfl, h0⟩ | ⟨g, cap, cur, rfl, hB, hg, hn, hm, hs, ht⟩⟩ := h.outer
  · exact ⟨none, 0, by rw [h0], by omega, fun hp => by omega⟩
  · refine ⟨_, cap, rfl, hn, fun hp => ⟨g, 0, rfl, (hlt g rfl).2, fun i r hir => ?_⟩⟩
    have c1 := litCells_at hir
    have hadd : ∀ j, (⟨g, 0, none⟩ : Addr).add j = ⟨g, j, none⟩ := fun j => by unfold Addr.add; split <;> simp_all
    have d1 := hc (g := g) rfl _ _ c1
    rw [hadd] at d1
    refine ⟨by rw [Nat.zero_add]; exact d1, intsAt_own (h.each i r hir) (hi i r hir)⟩
theorem LitsAt.below {w w' : World} {v : Value} {L : List Lit} (h : LitsAt w v L) (hb : Below w.heap.size w w') : LitsAt w' v L := by
  obtain ⟨a, cap, hv, hl, hc⟩ := h
  refine ⟨a, cap, hv, hl, fun hp => ?_⟩
  obtain ⟨b, off, rfl, hlt, hi⟩ := hc hp
  refine ⟨b, off, rfl, Nat.lt_of_lt_of_le hlt hb.size, fun i r hir => ?_⟩
  obtain ⟨c1, c3⟩ := hi i r hir
  exact ⟨by rw [hb.cell (p := ⟨b, off + i, none⟩) hlt]; exact c1, c3.below hb⟩

/-! ### marks -/
def totM (c : Nat) (L : List Lit) : Nat := c + (L.map fun r => r.zs.length).sum
theorem totM_nil (c : Nat) : totM c [] = c := by simp [totM]
theorem totM_snoc {c : Nat} {L : List Lit} {k : Nat} {r : Lit} (h : L[k]? = some r) : totM c (L.take (k + 1)) = totM c (L.take k) + r.zs.length := by
  unfold totM
  rw [List.take_add_one, h]
  simp
  omega
theorem totM_le (c : Nat) (L : List Lit) (k : Nat) : totM c (L.take k) ≤ totM c L := by
  unfold totM
  have : ∀ (l : List Nat) (k : Nat), (l.take k).sum ≤ l.sum := by
    intro l
    induction l with
    | nil => intro k; simp
    | cons x l ih => intro k; rcases k with _ | k <;> simp; exact ih k
  rw [List.map_take]
  have := this (L.map fun r => r.zs.length) k
  omega
def Lit.mark (c : Nat) (r : Lit) : Lit := { r with zs := marks c r.zs.length }
def markM (c : Nat) : List Lit → List Lit
  | [] => []
  | r :: L => r.mark c :: markM (c + r.zs.length) L
theorem markM_len (L : List Lit) : ∀ c, (markM c L).length = L.length := by
  induction L with
  | nil => intro c; rfl
  | cons r L ih => intro c; simp [markM, ih]
theorem markM_at {L : List Lit} : ∀ {c k : Nat} {r : Lit}, L[k]? = some r → (markM c L)[k]? = some (r.mark (totM c (L.take k))) := by
  induction L with
  | nil => intro c k r h; cases h
  | cons x L ih =>
    intro c k r h
    rcases k with _ | k
    · obtain rfl : x = r := by simpa using h
      simp [markM, totM]
    · have := ih (c := c + x.zs.length) (show L[k]? = some r by simpa using h)
      have e : totM (c + x.zs.length) (L.take k) = totM c ((x :: L).take (k + 1)) := by unfold totM; simp; omega
      rw [e] at this
      simpa [markM] using this
/-- Marked as far as k. -/
def markJ (c : Nat) (L : List Lit) (k : Nat) : List Lit := (markM c L).take k ++ L.drop k
theorem markJ_len (c : Nat) (L : List Lit) (k : Nat) : (markJ c L k).length = L.length := by
  unfold markJ
  rw [List.length_append, List.length_take, List.length_drop, markM_len]
  omega
theorem markJ_at {c k : Nat} {L : List Lit} {r : Lit} (h : L[k]? = some r) : (markJ c L k)[k]? = some r := by
  have hk : k < L.length := by
    rcases Nat.lt_or_ge k L.length with q | q
    · exact q
    · rw [List.getElem?_eq_none q] at h; cases h
  unfold markJ
  rw [List.getElem?_append_right (by rw [List.length_take, markM_len]; omega), List.length_take, markM_len, Nat.min_eq_left (by omega), Nat.sub_self, List.getElem?_drop, Nat.add_zero]
  exact h
theorem markJ_step {c k : Nat} {L : List Lit} {r : Lit} (h : L[k]? = some r) : (markJ c L k).set k (r.mark (totM c (L.take k))) = markJ c L (k + 1) := by
  have hk : k < L.length := by
    rcases Nat.lt_or_ge k L.length with q | q
    · exact q
    · rw [List.getElem?_eq_none q] at h; cases h
  unfold markJ
  have e1 : L.drop k = r :: L.drop (k + 1) := by
    rw [List.drop_eq_getElem_cons hk]
    rw [List.getElem?_eq_getElem hk] at h
    rw [Option.some.inj h]
  have e2 : (markM c L).take (k + 1) = (markM c L).take k ++ [r.mark (totM c (L.take k))] := by
    rw [List.take_add_one, markM_at h]; rfl
  rw [e1, e2, List.append_assoc]
  have := set_mid ((markM c L).take k) (L.drop (k + 1)) r (r.mark (totM c (L.take k)))
  rw [List.length_take, markM_len, Nat.min_eq_left (by omega)] at this
  exact this

/-- A slice of slices of the call's own, in blocks from lo up to hi. -/
def RowL (w : World) (lo hi : Nat) (v : Value) (L : List Lit) : Prop :=
  Lits w lo v L ∧ (∀ k, v.ownBlock = some k → k < hi) ∧ (∀ (i : Nat) (r : Lit) (k : Nat), L[i]? = some r → r.slc.ownBlock = some k → k < hi) ∧ hi ≤ w.heap.size
theorem rowL_of {w' : World} {lo : Nat} {v : Value} {L : List Lit} (h : Lits w' lo v L) : RowL w' lo w'.heap.size v L :=
  ⟨h, fun k e => (h.outer.lt k e).2, fun i r k hi e => ((h.each i r hi).lt k e).2, Nat.le_refl _⟩
theorem RowL.keep {w w' : World} {lo hi : Nat} {v : Value} {L : List Lit} (h : RowL w lo hi v L) (hb : Below w.heap.size w w') : RowL w' lo hi v L :=
  ⟨h.1.keep hb, h.2.1, h.2.2.1, Nat.le_trans h.2.2.2 hb.size⟩
theorem RowL.within {w w' : World} {lo hi lo' hi' : Nat} {v : Value} {L : List Lit} (h : RowL w lo hi v L) (hb : Within lo' hi' w w') (hd : hi ≤ lo' ∨ hi' ≤ lo) : RowL w' lo hi v L :=
  ⟨⟨hb.grown (fun k e => by have h1 := h.2.1 k e; have h2 := (h.1.outer.lt k e).1; omega) (fun k e => (h.1.outer.lt k e).2) h.1.outer,
    fun i r hi => hb.grown (fun k e => by have h1 := h.2.2.1 i r k hi e; have h2 := ((h.1.each i r hi).lt k e).1; omega) (fun k e => ((h.1.each i r hi).lt k e).2) (h.1.each i r hi), h.1.apart, h.1.off⟩, h.2.1, h.2.2.1, Nat.le_trans h.2.2.2 hb.size⟩
theorem RowL.at {w : World} {lo hi : Nat} {v : Value} {L : List Lit} (h : RowL w lo hi v L) (hi : ∀ (i : Nat) (r : Lit), L[i]? = some r → AllInt r.zs) : LitsAt w v L := h.1.at hi
/-- The integers of one slice are written. -/
theorem lits_ints {w w' : World} {lo bl bh k : Nat} {v : Value} {M : List Lit} {r : Lit} {zs' : List Int} (h : Lits w lo v M) (hr : M[k]? = some r) (hz : zs'.length = r.zs.length) (hb : Within bl bh w w')
    (hbl : ∀ x, bl ≤ x → x < bh → r.slc.ownBlock = some x) (ho : w'.ownsRow lo 3 1 r.slc r.zs.length (ints zs')) : Lits w' lo v (M.set k { r with zs := zs' }) := by
  have hset : ∀ (i : Nat) (q : Lit), (M.set k { r with zs := zs' })[i]? = some q → ∃ q0, M[i]? = some q0 ∧ q.slc = q0.slc ∧ ((i ≠ k ∧ q = q0) ∨ (i = k ∧ q0 = r ∧ q.zs = zs')) := by
    intro i q hq
    rw [List.getElem?_set] at hq
    split at hq
    · rename_i e
      subst e
      split at hq
      · obtain rfl := Option.some.inj hq
        exact ⟨r, hr, by simp [Lit.slc, hz], .inr ⟨rfl, rfl, rfl⟩⟩
      · cases hq
    · rename_i e
      exact ⟨q, hq, rfl, .inl ⟨fun x => e x.symm, rfl⟩⟩
  have hcells : litCells (M.set k { r with zs := zs' }) = litCells M := by
    apply List.ext_getElem?
    intro j
    have hl : M.length = (M.set k { r with zs := zs' }).length := by simp
    rcases Nat.lt_or_ge j M.length with q | q
    · obtain ⟨x, hx⟩ : ∃ x, (M.set k { r with zs := zs' })[j]? = some x := ⟨_, List.getElem?_eq_getElem (by rw [← hl]; exact q)⟩
      obtain ⟨q0, h0, e1, e2⟩ := hset _ _ hx
      rw [litCells_at hx, litCells_at h0, e1]
    · rw [List.getElem?_eq_none (by rw [litCells_len, ← hl]; omega), List.getElem?_eq_none (by rw [litCells_len]; omega)]
  refine ⟨?_, fun i q hq => ?_, fun i j q q' b hij hq hq' hb1 hb2 => ?_, fun i q b hq hb1 hv => ?_⟩
  · rw [hcells, List.length_set]
    refine own_within hb h.outer fun x hx => ?_
    rcases Nat.lt_or_ge x bl with p | p
    · exact .inl p
    · rcases Nat.lt_or_ge x bh with p2 | p2
      · exact absurd hx (h.off k r x hr (hbl x p p2))
      · exact .inr p2
  · obtain ⟨q0, h0, e1, e2⟩ := hset i q hq
    rcases e2 with ⟨hne, rfl⟩ | ⟨_, rfl, e3⟩
    · refine own_within hb (h.each i q h0) fun x hx => ?_
      rcases Nat.lt_or_ge x bl with p | p
      · exact .inl p
      · rcases Nat.lt_or_ge x bh with p2 | p2
        · exact absurd (hbl x p p2) (h.apart i k q r x hne h0 hr hx)
        · exact .inr p2
    · rw [e1, e3, hz]; exact ho
  · obtain ⟨q0, h0, e1, _⟩ := hset i q hq
    obtain ⟨q1, h1, e2, _⟩ := hset j q' hq'
    rw [e1] at hb1; rw [e2] at hb2
    exact h.apart i j q0 q1 b hij h0 h1 hb1 hb2
  · obtain ⟨q0, h0, e1, _⟩ := hset i q hq
    rw [e1] at hb1
    exact h.off i q0 b h0 hb1 hv
theorem mark_slcM (c : Nat) (r : Lit) : (r.mark c).slc = r.slc := by unfold Lit.mark Lit.slc; simp [marks_len]
theorem rowM_around {W : World} {lo : Nat} {r : Lit} (h : W.ownsRow lo 3 1 r.slc r.zs.length (ints r.zs)) : ∃ bl bh, Row W bl bh r.a r.zs.length r.cap r.zs ∧ (∀ x, bl ≤ x → x < bh → r.slc.ownBlock = some x) :=
  row_around (r := ⟨0, r.a, r.cap, r.zs⟩) h
/-- Marked as far as k, and the counter behind it. -/
def MarkLAt (lo hi c : Nat) (v : Value) (L : List Lit) (k : Nat) (w wr : World) : Prop :=
  Lits wr lo v (markJ c L k) ∧ Within lo hi w wr ∧ w.heap.size ≤ wr.heap.size




theorem totM_bound (c : Nat) (L : List Lit) (m : Nat) (h : ∀ r ∈ L, r.zs.length ≤ m) : totM c L ≤ c + L.length * m := by
  unfold totM
  induction L with
  | nil => simp
  | cons r L ih =>
    have h1 := ih fun q hq => h q (List.mem_cons_of_mem _ hq)
    have h2 := h r (List.mem_cons_self ..)
    simp only [List.map_cons, List.sum_cons, List.length_cons, Nat.add_mul, Nat.one_mul] at h1 ⊢
    omega
theorem markM_int {c : Nat} {L : List Lit} (ht : totM c L ≤ 1000000) : ∀ (i : Nat) (r : Lit), (markM c L)[i]? = some r → AllInt r.zs := by
  intro i r hi
  have hlt : i < L.length := by
    rcases Nat.lt_or_ge i L.length with q | q
    · exact q
    · rw [List.getElem?_eq_none (by rw [markM_len]; exact q)] at hi; cases hi
  have hx := List.getElem?_eq_getElem hlt
  rw [markM_at hx] at hi
  obtain rfl := Option.some.inj hi
  have h1 := totM_le c L (i + 1)
  rw [totM_snoc hx] at h1
  exact marks_int _ _ (by omega)
end Go.Proofs.Ytjgjcppkbfojpaa.Rhy
