/-
  Helpers of the claims beside this text: slices of rhythms: what the laws' eqRhythmS, markRhythmS and heldRhythmS do.
-/
import Derived.Test.YtmlhpllppgcgkabItm
import Derived.Test.YtmlhpllppgcgkabLsj
import Derived.Deep.RegionHeld3
namespace Go.Proofs.Ytmlhpllppgcgkab.Rhy
open Go.RowKit
set_option linter.unusedVariables false

set_option maxHeartbeats 1000000 in
theorem eq_items (v1 v2 : Value) (L1 L2 : List Item) (w : World) (h1 : ItemsAt w v1 L1) (h2 : ItemsAt w v2 L2) (hv : vals L1 = vals L2) (hl : L1.length ≤ 1000) (hz : ∀ (i : Nat) (r : Item), L1[i]? = some r → r.zs.length ≤ 1000) :
    Calls Try.prog 9 #[v1, v2] w fun e w' => e = .returned (.bool true) ∧ Below w.heap.size w w' := by
  have hlen : L2.length = L1.length := by have := congrArg List.length hv; simpa [vals] using this.symm
  obtain ⟨a1, c1, rfl, hlc1, hc1⟩ := h1
  obtain ⟨a2, c2, rfl, hlc2, hc2⟩ := h2
  rw [hlen] at hlc2 hc2 ⊢
  have H1 := Lib.hid hc1
  have H2 := Lib.hid hc2
  have HV := Lib.hid hv
  have HZ := Lib.hid hz
  have HLEN := Lib.hid hlen
  clear hc1 hc2 hv hz hlen
  go_enter Try.func9, Try.ntmps9
  go_wp2
  go_loopw [5] (fun i wr => ∃ k : Nat, k ≤ L1.length ∧ i = .int .i64 k ∧ Below w.heap.size w wr) (fun i _ => L1.length - (intOf i).toNat)
  case atStart => exact ⟨0, by omega, rfl, Below.refl _ _⟩
  case round =>
    obtain ⟨k, hk, rfl, hnx⟩ := hrel
    have HX := Lib.hid hnx
    clear hnx
    by_cases hlt : k < L1.length
    · obtain ⟨b1, o1, rfl, hb1, hi1⟩ := H1.out (by omega)
      obtain ⟨b2, o2, rfl, hb2, hi2⟩ := H2.out (by omega)
      obtain ⟨r1, hr1⟩ : ∃ r, L1[k]? = some r := ⟨_, List.getElem?_eq_getElem hlt⟩
      obtain ⟨r2, hr2⟩ : ∃ r, L2[k]? = some r := ⟨_, List.getElem?_eq_getElem (by have := HLEN.out; omega)⟩
      have he : r1.s = r2.s ∧ r1.zs = r2.zs := by
        have e1 := vals_at (P := vals L1) rfl hr1
        have e2 := vals_at (P := vals L2) rfl hr2
        rw [HV.out, e2] at e1
        simp only [Option.some.injEq, Prod.mk.injEq] at e1
        exact ⟨e1.1.symm, e1.2.symm⟩
      obtain ⟨p1, p2, p3⟩ := hi1 k r1 hr1
      obtain ⟨q1, q2, q3⟩ := hi2 k r2 hr2
      have hzl := HZ.out k r1 hr1
      have HI1 := Lib.hid (p3.below HX.out)
      have HI2 : Hid (IntsAt wr r2.a r1.zs.length r1.zs) := Lib.hid (by rw [he.2]; exact q3.below HX.out)
      have d1 : wr.cell? ⟨b1, o1 + k * 2, none⟩ = some (.int .i64 r1.s) := by rw [HX.out.cell (p := ⟨b1, o1 + k * 2, none⟩) hb1]; exact p1
      have d2 : wr.cell? ⟨b1, o1 + k * 2 + 1, none⟩ = some (.slice r1.a r1.zs.length r1.cap) := by rw [HX.out.cell (p := ⟨b1, o1 + k * 2 + 1, none⟩) hb1]; exact p2
      have e1 : wr.cell? ⟨b2, o2 + k * 2, none⟩ = some (.int .i64 r1.s) := by rw [HX.out.cell (p := ⟨b2, o2 + k * 2, none⟩) hb2, he.1]; exact q1
      have e2 : wr.cell? ⟨b2, o2 + k * 2 + 1, none⟩ = some (.slice r2.a r1.zs.length r2.cap) := by rw [HX.out.cell (p := ⟨b2, o2 + k * 2 + 1, none⟩) hb2, he.2]; exact q2
      have hs := HX.out.size
      have HK : Hid (∀ W, Below wr.heap.size wr W → W.cell? ⟨b1, o1 + k * 2, none⟩ = some (.int .i64 r1.s) ∧ W.cell? ⟨b1, o1 + k * 2 + 1, none⟩ = some (.slice r1.a r1.zs.length r1.cap) ∧ W.cell? ⟨b2, o2 + k * 2, none⟩ = some (.int .i64 r1.s) ∧ W.cell? ⟨b2, o2 + k * 2 + 1, none⟩ = some (.slice r2.a r1.zs.length r2.cap) ∧ Below wr.heap.size wr W) :=
        Lib.hid (fun W hW => ⟨by rw [hW.cell (p := ⟨b1, o1 + k * 2, none⟩) (by show b1 < _; omega)]; exact d1, by rw [hW.cell (p := ⟨b1, o1 + k * 2 + 1, none⟩) (by show b1 < _; omega)]; exact d2, by rw [hW.cell (p := ⟨b2, o2 + k * 2, none⟩) (by show b2 < _; omega)]; exact e1, by rw [hW.cell (p := ⟨b2, o2 + k * 2 + 1, none⟩) (by show b2 < _; omega)]; exact e2, hW⟩)
      clear hi1 hi2 hr1 hr2 he p1 p2 p3 q1 q2 q3 d1 d2 e1 e2
      have hk0 : (0 : Int) ≤ (k : Int) := by omega
      have hk1 : (k : Int) < (L1.length : Int) := by omega
      go_wp2
      go_region_held3 (fun W => W.cell? ⟨b1, o1 + k * 2, none⟩ = some (.int .i64 r1.s) ∧ W.cell? ⟨b1, o1 + k * 2 + 1, none⟩ = some (.slice r1.a r1.zs.length r1.cap) ∧ W.cell? ⟨b2, o2 + k * 2, none⟩ = some (.int .i64 r1.s) ∧ W.cell? ⟨b2, o2 + k * 2 + 1, none⟩ = some (.slice r2.a r1.zs.length r2.cap) ∧ Below wr.heap.size wr W)
        (first | exact HK.out _ (Below.refl _ _).drew | exact HK.out _ hbb)
        ((first
          | (go_at_call 10; refine (eq_rhythm r1.s r1.a r2.a r1.cap r2.cap r1.zs.length r1.zs _ (HI1.out.below (Below.refl _ _).drew) (HI2.out.below (Below.refl _ _).drew) (by omega)).mono ?_; rintro e w1 ⟨rfl, hc1⟩; have hbb := (Below.refl wr.heap.size wr).drew.trans hc1; clear hc1)))
      have HX2 := Lib.hid (HX.out.trans (hbb.mono HX.out.size))
      clear HK hbb
      go_wp2
      go_roundw
      case rel => exact ⟨k + 1, by omega, by go_num, HX2.out⟩
      case measure => simp [intOf]; omega
    · go_wp2
      go_ret
      exact ⟨rfl, HX.out⟩

/-! ### marks -/
def tot (c : Nat) (L : List Item) : Nat := c + (L.map fun r => 1 + r.zs.length).sum
theorem tot_nil (c : Nat) : tot c [] = c := by simp [tot]
theorem tot_snoc {c : Nat} {L : List Item} {k : Nat} {r : Item} (h : L[k]? = some r) : tot c (L.take (k + 1)) = tot c (L.take k) + 1 + r.zs.length := by
  unfold tot
  rw [List.take_add_one, h]
  simp
  omega
theorem tot_le (c : Nat) (L : List Item) (k : Nat) : tot c (L.take k) ≤ tot c L := by
  unfold tot
  have : ∀ (l : List Nat) (k : Nat), (l.take k).sum ≤ l.sum := by
    intro l
    induction l with
    | nil => intro k; simp
    | cons x l ih => intro k; rcases k with _ | k <;> simp; exact ih k
  rw [List.map_take]
  have := this (L.map fun r => 1 + r.zs.length) k
  omega
def Item.mark (c : Nat) (r : Item) : Item := { r with s := (c : Int), zs := marks (c + 1) r.zs.length }
def markL (c : Nat) : List Item → List Item
  | [] => []
  | r :: L => r.mark c :: markL (c + 1 + r.zs.length) L
theorem markL_len (L : List Item) : ∀ c, (markL c L).length = L.length := by
  induction L with
  | nil => intro c; rfl
  | cons r L ih => intro c; simp [markL, ih]
theorem markL_at {L : List Item} : ∀ {c k : Nat} {r : Item}, L[k]? = some r → (markL c L)[k]? = some (r.mark (tot c (L.take k))) := by
  induction L with
  | nil => intro c k r h; cases h
  | cons x L ih =>
    intro c k r h
    rcases k with _ | k
    · obtain rfl : x = r := by simpa using h
      simp [markL, tot]
    · have := ih (c := c + 1 + x.zs.length) (show L[k]? = some r by simpa using h)
      have e : tot (c + 1 + x.zs.length) (L.take k) = tot c ((x :: L).take (k + 1)) := by unfold tot; simp; omega
      rw [e] at this
      simpa [markL] using this
/-- Marked as far as k. -/
def markK (c : Nat) (L : List Item) (k : Nat) : List Item := (markL c L).take k ++ L.drop k
theorem markK_len (c : Nat) (L : List Item) (k : Nat) : (markK c L k).length = L.length := by
  unfold markK
  rw [List.length_append, List.length_take, List.length_drop, markL_len]
  omega
theorem markK_at {c k : Nat} {L : List Item} {r : Item} (h : L[k]? = some r) : (markK c L k)[k]? = some r := by
  have hk : k < L.length := by
    rcases Nat.lt_or_ge k L.length with q | q
    · exact q
    · rw [List.getElem?_eq_none q] at h; cases h
  unfold markK
  rw [List.getElem?_append_right (by rw [List.length_take, markL_len]; omega), List.length_take, markL_len, Nat.min_eq_left (by omega), Nat.sub_self, List.getElem?_drop, Nat.add_zero]
  exact h
theorem markK_step {c k : Nat} {L : List Item} {r : Item} (h : L[k]? = some r) : (markK c L k).set k (r.mark (tot c (L.take k))) = markK c L (k + 1) := by
  have hk : k < L.length := by
    rcases Nat.lt_or_ge k L.length with q | q
    · exact q
    · rw [List.getElem?_eq_none q] at h; cases h
  unfold markK
  have e1 : L.drop k = r :: L.drop (k + 1) := by
    rw [List.drop_eq_getElem_cons hk]
    rw [List.getElem?_eq_getElem hk] at h
    rw [Option.some.inj h]
  have e2 : (markL c L).take (k + 1) = (markL c L).take k ++ [r.mark (tot c (L.take k))] := by
    rw [List.take_add_one, markL_at h]; rfl
  rw [e1, e2, List.append_assoc]
  have := set_mid ((markL c L).take k) (L.drop (k + 1)) r (r.mark (tot c (L.take k)))
  rw [List.length_take, markL_len, Nat.min_eq_left (by omega)] at this
  exact this

/-- A slice of rhythms of the call's own, in blocks from lo up to hi. -/
def RowS (w : World) (lo hi : Nat) (v : Value) (L : List Item) : Prop :=
  Items w lo v L ∧ (∀ k, v.ownBlock = some k → k < hi) ∧ (∀ (i : Nat) (r : Item) (k : Nat), L[i]? = some r → r.slc.ownBlock = some k → k < hi) ∧ hi ≤ w.heap.size
theorem rowS_of {w' : World} {lo : Nat} {v : Value} {L : List Item} (h : Items w' lo v L) : RowS w' lo w'.heap.size v L :=
  ⟨h, fun k e => (h.outer.lt k e).2, fun i r k hi e => ((h.each i r hi).lt k e).2, Nat.le_refl _⟩
theorem RowS.keep {w w' : World} {lo hi : Nat} {v : Value} {L : List Item} (h : RowS w lo hi v L) (hb : Below w.heap.size w w') : RowS w' lo hi v L :=
  ⟨h.1.keep hb, h.2.1, h.2.2.1, Nat.le_trans h.2.2.2 hb.size⟩
theorem RowS.within {w w' : World} {lo hi lo' hi' : Nat} {v : Value} {L : List Item} (h : RowS w lo hi v L) (hb : Within lo' hi' w w') (hd : hi ≤ lo' ∨ hi' ≤ lo) : RowS w' lo hi v L :=
  ⟨⟨hb.grown (fun k e => by have h1 := h.2.1 k e; have h2 := (h.1.outer.lt k e).1; omega) (fun k e => (h.1.outer.lt k e).2) h.1.outer,
    fun i r hi => hb.grown (fun k e => by have h1 := h.2.2.1 i r k hi e; have h2 := ((h.1.each i r hi).lt k e).1; omega) (fun k e => ((h.1.each i r hi).lt k e).2) (h.1.each i r hi), h.1.apart, h.1.off⟩, h.2.1, h.2.2.1, Nat.le_trans h.2.2.2 hb.size⟩
theorem RowS.at {w : World} {lo hi : Nat} {v : Value} {L : List Item} (h : RowS w lo hi v L) (hi : ∀ (i : Nat) (r : Item), L[i]? = some r → AllInt r.zs) : ItemsAt w v L := h.1.at hi
theorem own_raise {w : World} {lo b : Nat} {v : Value} {n : Nat} {xs : List Value} {e : TypeId} {size : Nat} (h : w.ownsRow lo e size v n xs) (hb : ∀ k, v.ownBlock = some k → b ≤ k) : w.ownsRow b e size v n xs := by
  obtain ⟨h1, h2 | ⟨g, cap, cur, rfl, hB, rest⟩⟩ := h
  · exact ⟨h1, .inl h2⟩
  · exact ⟨h1, .inr ⟨g, cap, cur, rfl, hb g rfl, rest⟩⟩
theorem own_within {w w' : World} {lo' hi' : Nat} {B : Nat} {e : TypeId} {size n : Nat} {v : Value} {xs : List Value} (hb : Within lo' hi' w w') (h : w.ownsRow B e size v n xs) (hd : ∀ k, v.ownBlock = some k → k < lo' ∨ hi' ≤ k) : w'.ownsRow B e size v n xs :=
  hb.grown hd (fun k e => (h.lt k e).2) h
/-- A store of a size. -/
theorem items_size {w : World} {lo g n cap k : Nat} {M : List Item} {r : Item} (h : Items w lo (.slice (some ⟨g, 0, none⟩) n cap) M) (hr : M[k]? = some r) (c : Int) (hn : n = M.length) :
    Items (w.setCell ⟨g, k * 2, none⟩ (.int .i64 c)) lo (.slice (some ⟨g, 0, none⟩) n cap) (M.set k { r with s := c }) ∧ w.grownBy (w.setCell ⟨g, k * 2, none⟩ (.int .i64 c)) (some g) := by
  subst hn
  obtain ⟨st, hg⟩ := h.outer.stored (k * 2) (.int .i64 c)
  rw [itemCells_set c hr] at st
  have hset : ∀ (i : Nat) (q : Item), (M.set k { r with s := c })[i]? = some q → ∃ q0, M[i]? = some q0 ∧ q.slc = q0.slc ∧ q.zs = q0.zs := by
    intro i q hq
    rw [List.getElem?_set] at hq
    split at hq
    · rename_i e
      subst e
      split at hq
      · obtain rfl := Option.some.inj hq
        exact ⟨r, hr, rfl, rfl⟩
      · cases hq
    · exact ⟨q, hq, rfl, rfl⟩
  refine ⟨⟨by rw [List.length_set]; exact st, fun i q hq => ?_, fun i j q q' b hij hq hq' hb hb' => ?_, fun i q b hq hb hv => ?_⟩, hg⟩
  · obtain ⟨q0, h0, e1, e2⟩ := hset i q hq
    rw [e1, e2]
    exact own_grown (h.each i q0 h0) hg (fun b hb e => h.off i q0 b h0 hb e)
  · obtain ⟨q0, h0, e1, _⟩ := hset i q hq
    obtain ⟨q1, h1, e2, _⟩ := hset j q' hq'
    rw [e1] at hb; rw [e2] at hb'
    exact h.apart i j q0 q1 b hij h0 h1 hb hb'
  · obtain ⟨q0, h0, e1, _⟩ := hset i q hq
    rw [e1] at hb
    exact h.off i q0 b h0 hb hv
/-- The beats of one rhythm are written. -/
theorem items_beats {w w' : World} {lo bl bh k : Nat} {v : Value} {M : List Item} {r : Item} {zs' : List Int} (h : Items w lo v M) (hr : M[k]? = some r) (hz : zs'.length = r.zs.length) (hb : Within bl bh w w')
    (hbl : ∀ x, bl ≤ x → x < bh → r.slc.ownBlock = some x) (ho : w'.ownsRow lo 3 1 r.slc r.zs.length (ints zs')) : Items w' lo v (M.set k { r with zs := zs' }) := by
  have hset : ∀ (i : Nat) (q : Item), (M.set k { r with zs := zs' })[i]? = some q → ∃ q0, M[i]? = some q0 ∧ q.slc = q0.slc ∧ ((i ≠ k ∧ q = q0) ∨ (i = k ∧ q0 = r ∧ q.zs = zs')) := by
    intro i q hq
    rw [List.getElem?_set] at hq
    split at hq
    · rename_i e
      subst e
      split at hq
      · obtain rfl := Option.some.inj hq
        exact ⟨r, hr, by simp [Item.slc, hz], .inr ⟨rfl, rfl, rfl⟩⟩
      · cases hq
    · rename_i e
      exact ⟨q, hq, rfl, .inl ⟨fun x => e x.symm, rfl⟩⟩
  have hcells : itemCells (M.set k { r with zs := zs' }) = itemCells M := by
    apply List.ext_getElem?
    intro j
    have hl : M.length = (M.set k { r with zs := zs' }).length := by simp
    rcases Nat.lt_or_ge j (M.length * 2) with q | q
    · have hi : j / 2 < M.length := by omega
      obtain ⟨x, hx⟩ : ∃ x, (M.set k { r with zs := zs' })[j / 2]? = some x := ⟨_, List.getElem?_eq_getElem (by rw [← hl]; exact hi)⟩
      obtain ⟨q0, h0, e1, e2⟩ := hset _ _ hx
      have hs : x.s = q0.s := by
        rcases e2 with ⟨_, rfl⟩ | ⟨e, rfl, _⟩
        · rfl
        · rw [e, List.getElem?_set_self (by omega)] at hx
          obtain rfl := Option.some.inj hx
          rfl
      obtain ⟨c1, c2⟩ := itemCells_at hx
      obtain ⟨d1, d2⟩ := itemCells_at h0
      rcases Nat.mod_two_eq_zero_or_one j with m | m
      · rw [show j = j / 2 * 2 by omega, c1, d1, hs]
      · rw [show j = j / 2 * 2 + 1 by omega, c2, d2, e1]
    · rw [List.getElem?_eq_none (by rw [itemCells_len, ← hl]; omega), List.getElem?_eq_none (by rw [itemCells_len]; omega)]
  refine ⟨?_, fun i q hq => ?_, fun i j q q' b hij hq hq' hb1 hb2 => ?_, fun i q b hq hb1 hv => ?_⟩
  · rw [hcells, List.length_set]
    refine own_within hb h.outer fun x hx => ?_
    rcases Nat.lt_or_ge x bl with p | p
    · exact .inl p
    · rcases Nat.lt_or_ge x bh with p2 | p2
      · exact absurd hx (h.off k r x hr (hbl x p p2))
      · exact .inr p2
  · obtain ⟨q0, h0, e1, e2⟩ := hset i q hq
    rcases e2 with ⟨hne, rfl⟩ | ⟨_, rfl, e3⟩
    · refine own_within hb (h.each i q h0) fun x hx => ?_
      rcases Nat.lt_or_ge x bl with p | p
      · exact .inl p
      · rcases Nat.lt_or_ge x bh with p2 | p2
        · exact absurd (hbl x p p2) (h.apart i k q r x hne h0 hr hx)
        · exact .inr p2
    · rw [e1, e3, hz]; exact ho
  · obtain ⟨q0, h0, e1, _⟩ := hset i q hq
    obtain ⟨q1, h1, e2, _⟩ := hset j q' hq'
    rw [e1] at hb1; rw [e2] at hb2
    exact h.apart i j q0 q1 b hij h0 h1 hb1 hb2
  · obtain ⟨q0, h0, e1, _⟩ := hset i q hq
    rw [e1] at hb1
    exact h.off i q0 b h0 hb1 hv
end Go.Proofs.Ytmlhpllppgcgkab.Rhy
