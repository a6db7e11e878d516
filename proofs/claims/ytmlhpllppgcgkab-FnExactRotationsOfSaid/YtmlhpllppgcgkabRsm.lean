/-
  Helpers of the claims beside this text: slices of rhythms are marked, and still held.
-/
import Derived.Test.YtmlhpllppgcgkabRsl
namespace Go.Proofs.Ytmlhpllppgcgkab.Rhy
open Go.RowKit
set_option linter.unusedVariables false

theorem mark_slc (c : Nat) (r : Item) : (r.mark c).slc = r.slc := by unfold Item.mark Item.slc; simp [marks_len]
theorem rowS_grown {w w' : World} {lo hi : Nat} {a : World} {row : Option Nat} (h : Within lo hi a w) (hg : w.grownBy w' row) (hr : ∀ k, row = some k → lo ≤ k ∧ k < hi) : Within lo hi a w' := h.trans (Within.of_grown hg hr)
theorem within_mono {lo hi lo' hi' : Nat} {a b : World} (h : Within lo hi a b) (h1 : ∀ k, lo ≤ k → k < hi → lo' ≤ k ∧ k < hi') : Within lo' hi' a b :=
  ⟨h.os, h.tape, h.output, h.size, fun k hk ho => h.block k hk (by
    rcases Nat.lt_or_ge k lo with p | p
    · exact .inl p
    · rcases Nat.lt_or_ge k hi with q | q
      · have := h1 k p q; omega
      · exact .inr q)⟩

theorem row_around {W : World} {lo : Nat} {r : Item} (h : W.ownsRow lo 3 1 r.slc r.zs.length (ints r.zs)) : ∃ bl bh, Row W bl bh r.a r.zs.length r.cap r.zs ∧ (∀ x, bl ≤ x → x < bh → r.slc.ownBlock = some x) := by
  cases hb : r.slc.ownBlock with
  | none =>
    have hn : ∀ x, (Value.slice r.a r.zs.length r.cap).ownBlock ≠ some x := fun x hx => by
      have : r.slc.ownBlock = some x := hx
      rw [hb] at this; cases this
    exact ⟨W.heap.size, W.heap.size, ⟨own_raise h (fun x hx => absurd hx (hn x)), fun x hx => absurd hx (hn x), Nat.le_refl _⟩, fun x h1 h2 => by omega⟩
  | some b =>
    have hn : ∀ x, (Value.slice r.a r.zs.length r.cap).ownBlock = some x → x = b := fun x hx => by
      have : r.slc.ownBlock = some x := hx
      rw [hb] at this; exact (Option.some.inj this).symm
    exact ⟨b, b + 1, ⟨own_raise h (fun x hx => by rw [hn x hx]; exact Nat.le_refl _), fun x hx => by rw [hn x hx]; omega, (h.lt b hb).2⟩, fun x h1 h2 => by rw [show x = b by omega]⟩
/-- Marked as far as k, and the counter behind it. -/
def MarkAt (lo hi c : Nat) (v : Value) (L : List Item) (k : Nat) (w wr : World) : Prop :=
  Items wr lo v (markK c L k) ∧ Within lo hi w wr ∧ w.heap.size ≤ wr.heap.size
set_option maxHeartbeats 1000000 in
set_option maxRecDepth 100000 in
theorem mark_items (lo hi c : Nat) (v : Value) (L : List Item) (w : World) (h : RowS w lo hi v L) (hl : L.length ≤ 1000) (ht : tot c L ≤ 1000000) :
    Calls Try.prog 12 #[v, .int .i64 c] w fun e w' => e = .returned (.int .i64 (tot c L)) ∧ RowS w' lo hi v (markL c L) ∧ Within lo hi w w' := by
  have H := Lib.hid h
  have hv := h.1.outer.2
  clear h
  have hfin : ∀ wr, MarkAt lo hi c v L L.length w wr → RowS wr lo hi v (markL c L) ∧ Within lo hi w wr := fun wr hm => by
    have e : markK c L L.length = markL c L := by unfold markK; rw [List.take_of_length_le (by rw [markL_len]; exact Nat.le_refl _), List.drop_of_length_le (Nat.le_refl _), List.append_nil]
    obtain ⟨m1, m2, m3⟩ := hm
    rw [e] at m1
    refine ⟨⟨m1, H.out.2.1, fun i r k hi hk => ?_, Nat.le_trans H.out.2.2.2 m3⟩, m2⟩
    have hlt : i < L.length := by
      rcases Nat.lt_or_ge i L.length with q | q
      · exact q
      · rw [List.getElem?_eq_none (by rw [markL_len]; exact q)] at hi; cases hi
    have hx := List.getElem?_eq_getElem hlt
    rw [markL_at hx] at hi
    obtain rfl := Option.some.inj hi
    rw [mark_slc] at hk
    exact H.out.2.2.1 i _ k hx hk
  have HFIN := Lib.hid hfin
  have htot := Lib.hid (show tot c (L.take L.length) = tot c L by rw [List.take_length])
  clear hfin
  have hc0 : c ≤ 1000000 := Nat.le_trans (by unfold tot; omega) ht
  rcases hv with ⟨rfl, h0⟩ | ⟨g, cap, cur, rfl, _, hgw, _, _, _, _⟩
  · have hL : L = [] := List.eq_nil_of_length_eq_zero h0
    subst hL
    have HT : Hid (tot c [] = c) := Lib.hid (tot_nil c)
    go_enter Try.func12, Try.ntmps12
    go_wp2
    go_loopw [5, 1] (fun i q wr => i = .int .i64 0 ∧ q = .int .i64 c ∧ wr = w) (fun _ _ _ => 0)
    case atStart => exact ⟨rfl, rfl, rfl⟩
    case round =>
      obtain ⟨rfl, rfl, rfl⟩ := hrel
      go_wp2
      go_ret
      exact ⟨ret_int (by rw [HT.out]), H.out, Within.refl _ _ _⟩
  · have hgl : lo ≤ g ∧ g < hi := ⟨(H.out.1.outer.lt g rfl).1, H.out.2.1 g rfl⟩
    clear hgw
    go_enter Try.func12, Try.ntmps12
    go_wp2
    go_loopw [5, 1] (fun i q wr => ∃ k : Nat, k ≤ L.length ∧ i = .int .i64 k ∧ q = .int .i64 (tot c (L.take k) : Nat) ∧ MarkAt lo hi c (.slice (some ⟨g, 0, none⟩) L.length cap) L k w wr) (fun i _ _ => L.length - (intOf i).toNat)
    case atStart => exact ⟨0, by omega, rfl, by rw [List.take_zero, tot_nil], by unfold markK; simpa using H.out.1, Within.refl _ _ _, Nat.le_refl _⟩
    case round =>
      obtain ⟨k, hk, rfl, rfl, hit, hwi, hsz⟩ := hrel
      have HIT := Lib.hid hit
      have HWI := Lib.hid hwi
      have HSZ := Lib.hid hsz
      have htk := tot_le c L k
      clear hit hwi hsz
      by_cases hlt : k < L.length
      · obtain ⟨r, hr⟩ : ∃ r, L[k]? = some r := ⟨_, List.getElem?_eq_getElem hlt⟩
        have HR := Lib.hid hr
        have HRK := Lib.hid (markK_at (c := c) hr)
        have HML := Lib.hid (markK_len c L k)
        have HTS := Lib.hid (tot_snoc (c := c) hr)
        have hts : tot c (L.take k) + 1 + r.zs.length ≤ 1000000 := by have := tot_le c L (k + 1); rw [tot_snoc hr] at this; omega
        clear hr
        obtain ⟨T, hT⟩ : ∃ T : Nat, T = tot c (L.take k) := ⟨_, rfl⟩
        rw [← hT] at hts htk
        have HT := Lib.hid hT
        rw [← hT]
        clear hT
        have hout := HIT.out.outer
        rw [HML.out] at hout
        obtain ⟨c1, c2⟩ := itemCells_at HRK.out
        have hcell0 : wr.cell? ⟨g, k * 2, none⟩ = some (.int .i64 r.s) := by rw [hout.cellAt (k * 2) (by omega)]; exact c1
        have hcell1 : wr.cell? ⟨g, k * 2 + 1, none⟩ = some (.slice r.a r.zs.length r.cap) := by rw [hout.cellAt (k * 2 + 1) (by omega)]; exact c2
        have hfz := hout.frozenAt (k * 2)
        obtain ⟨W1, hW1⟩ : ∃ W1, W1 = wr.setCell ⟨g, k * 2, none⟩ (.int .i64 (T : Nat)) := ⟨_, rfl⟩
        have HW1 := Lib.hid hW1
        have hst := items_size HIT.out HRK.out (T : Nat) HML.out.symm
        rw [← hW1] at hst
        have HI1 := Lib.hid hst.1
        have HG1 := Lib.hid hst.2
        have HRK1 : Hid (((markK c L k).set k { r with s := ((T : Nat) : Int) })[k]? = some { r with s := ((T : Nat) : Int) }) := Lib.hid (List.getElem?_set_self (by rw [HML.out]; exact hlt))
        clear hW1 hst hout c1 c2
        have hown := HI1.out.each k _ HRK1.out
        have HOW : Hid (W1.ownsRow lo 3 1 (.slice r.a r.zs.length r.cap) r.zs.length (ints r.zs)) := Lib.hid hown
        obtain ⟨bl, bh, hbx, hby⟩ := row_around (r := r) HOW.out
        have HBX := Lib.hid hbx
        have HBY := Lib.hid hby
        have hlh : ∀ x, bl ≤ x → x < bh → lo ≤ x ∧ x < hi := fun x h1 h2 => ⟨(hown.lt x (hby x h1 h2)).1, H.out.2.2.1 k r x HR.out (hby x h1 h2)⟩
        have HLH := Lib.hid hlh
        clear hown hbx hby hlh
        go_wp2_with fail
        rw [← HW1.out]
        have e1 : ((T : Nat) : Int) + 1 = ((T + 1 : Nat) : Int) := by omega
        rw [e1]
        refine (mark_ints bl bh (T + 1) r.a r.cap r.zs.length r.zs W1 HBX.out (by omega) (by omega)).mono ?_
        rintro e w3 ⟨rfl, hrow, hwi3⟩
        have HI3 := Lib.hid (items_beats (zs' := marks (T + 1) r.zs.length) HI1.out HRK1.out (marks_len _ _) hwi3 HBY.out (own_raise hrow.1 (fun x hx => (HOW.out.lt x hx).1)))
        have HW3 := Lib.hid (within_mono hwi3 HLH.out)
        clear hrow hwi3 e1
        have HS3 : Hid (Items w3 lo (.slice (some ⟨g, 0, none⟩) L.length cap) (markK c L (k + 1))) := Lib.hid (by
          have h1 := HI3.out
          rw [List.set_set] at h1
          rw [← markK_step HR.out, ← HT.out]
          exact h1)
        have HN : Hid (tot c (L.take (k + 1)) = T + 1 + r.zs.length) := Lib.hid (by rw [HTS.out, HT.out])
        go_wp2
        go_roundw
        case rel => exact ⟨k + 1, by omega, by go_num, by rw [HN.out]; go_num, HS3.out, (rowS_grown HWI.out HG1.out (fun x hx => by have := Option.some.inj hx; omega)).trans HW3.out, Nat.le_trans (Nat.le_trans HSZ.out HG1.out.size) HW3.out.size⟩
        case measure => simp [intOf]; omega
      · have e : k = L.length := by omega
        have HE : Hid (tot c (L.take k) = tot c L) := Lib.hid (by rw [e, htot.out])
        have HQ := Lib.hid (HFIN.out wr (by have h1 := HIT.out; rw [e] at h1; exact ⟨h1, HWI.out, HSZ.out⟩))
        clear e
        go_wp2
        go_ret
        exact ⟨ret_int (by rw [HE.out]), HQ.out⟩

set_option maxHeartbeats 1000000 in
theorem held_items (c : Nat) (v : Value) (L : List Item) (w : World) (h : ItemsAt w v (markL c L)) (hl : L.length ≤ 1000) (ht : tot c L ≤ 1000000) :
    Calls Try.prog 13 #[v, .int .i64 c] w fun e w' => e = .returned (.int .i64 (tot c L)) ∧ Below w.heap.size w w' := by
  obtain ⟨a, cap, rfl, hlc, hc⟩ := h
  rw [markL_len] at hlc hc ⊢
  have H := Lib.hid hc
  have htot := Lib.hid (show tot c (L.take L.length) = tot c L by rw [List.take_length])
  have hc0 : c ≤ 1000000 := Nat.le_trans (by unfold tot; omega) ht
  clear hc
  go_enter Try.func13, Try.ntmps13
  go_wp2
  go_loopw [5, 1] (fun i q wr => ∃ k : Nat, k ≤ L.length ∧ i = .int .i64 k ∧ q = .int .i64 (tot c (L.take k) : Nat) ∧ Below w.heap.size w wr) (fun i _ _ => L.length - (intOf i).toNat)
  case atStart => exact ⟨0, by omega, rfl, by rw [List.take_zero, tot_nil], Below.refl _ _⟩
  case round =>
    obtain ⟨k, hk, rfl, rfl, hnx⟩ := hrel
    have HX := Lib.hid hnx
    have htk := tot_le c L k
    clear hnx
    by_cases hlt : k < L.length
    · obtain ⟨b, off, rfl, hb, hi⟩ := H.out (by omega)
      obtain ⟨r, hr⟩ : ∃ r, L[k]? = some r := ⟨_, List.getElem?_eq_getElem hlt⟩
      have hts : tot c (L.take k) + 1 + r.zs.length ≤ 1000000 := by have := tot_le c L (k + 1); rw [tot_snoc hr] at this; omega
      have HTS := Lib.hid (tot_snoc (c := c) hr)
      obtain ⟨p1, p2, p3⟩ := hi k _ (markL_at hr)
      obtain ⟨T, hT⟩ : ∃ T : Nat, T = tot c (L.take k) := ⟨_, rfl⟩
      rw [← hT] at hts htk p1 p2 p3 ⊢
      have HT := Lib.hid hT
      have HI : Hid (IntsAt wr r.a r.zs.length (marks (T + 1) r.zs.length)) := Lib.hid (by have := p3.below HX.out; simpa [Item.mark, marks_len] using this)
      have d1 : wr.cell? ⟨b, off + k * 2, none⟩ = some (.int .i64 (T : Nat)) := by rw [HX.out.cell (p := ⟨b, off + k * 2, none⟩) hb]; exact p1
      have d2 : wr.cell? ⟨b, off + k * 2 + 1, none⟩ = some (.slice r.a r.zs.length r.cap) := by rw [HX.out.cell (p := ⟨b, off + k * 2 + 1, none⟩) hb, p2, mark_slc]; rfl
      clear hi hr p1 p2 p3 hT
      go_wp2_with fail
      have e1 : ((T : Nat) : Int) + 1 = ((T + 1 : Nat) : Int) := by omega
      rw [e1]
      refine (held_ints (T + 1) r.a r.cap r.zs.length wr HI.out (by omega) (by omega)).mono ?_
      rintro e w3 ⟨rfl, hb3⟩
      have HX3 := Lib.hid (HX.out.trans (hb3.mono HX.out.size))
      have HN : Hid (tot c (L.take (k + 1)) = T + 1 + r.zs.length) := Lib.hid (by rw [HTS.out, HT.out])
      clear hb3 e1 d1 d2
      have hnn : ¬ (((T + 1 : Nat) : Int) + (r.zs.length : Int) < 0) := by omega
      go_wp2
      go_roundw
      case rel => exact ⟨k + 1, by omega, by go_num, by rw [HN.out]; go_num, HX3.out⟩
      case measure => simp [intOf]; omega
    · have e : k = L.length := by omega
      have HE : Hid (tot c (L.take k) = tot c L) := Lib.hid (by rw [e, htot.out])
      clear e
      go_wp2
      go_ret
      exact ⟨ret_int (by rw [HE.out]), HX.out⟩
theorem tot_bound (c : Nat) (L : List Item) (m : Nat) (h : ∀ r ∈ L, r.zs.length ≤ m) : tot c L ≤ c + L.length * (1 + m) := by
  unfold tot
  induction L with
  | nil => simp
  | cons r L ih =>
    have h1 := ih fun q hq => h q (List.mem_cons_of_mem _ hq)
    have h2 := h r (List.mem_cons_self ..)
    simp only [List.map_cons, List.sum_cons, List.length_cons, Nat.add_mul] at h1 ⊢
    omega
theorem markL_int {c : Nat} {L : List Item} (ht : tot c L ≤ 1000000) : ∀ (i : Nat) (r : Item), (markL c L)[i]? = some r → AllInt r.zs := by
  intro i r hi
  have hlt : i < L.length := by
    rcases Nat.lt_or_ge i L.length with q | q
    · exact q
    · rw [List.getElem?_eq_none (by rw [markL_len]; exact q)] at hi; cases hi
  have hx := List.getElem?_eq_getElem hlt
  rw [markL_at hx] at hi
  obtain rfl := Option.some.inj hi
  have h1 := tot_le c L (i + 1)
  rw [tot_snoc hx] at h1
  exact marks_int _ _ (by omega)
end Go.Proofs.Ytmlhpllppgcgkab.Rhy
