/-
  Helpers of the claims beside this text: IsEven of the program.
-/
import Derived.Test.YthjkblekccpafaaEvc
namespace Go.Proofs.Ythjkblekccpafaa.Rhy
open Go.RowKit
set_option linter.unusedVariables false
set_option linter.unusedSimpArgs false

theorem foldl_max : ∀ (l : List Int) (a : Int), (l.foldl max a = a ∨ l.foldl max a ∈ l) ∧ a ≤ l.foldl max a ∧ ∀ x ∈ l, x ≤ l.foldl max a
  | [], a => ⟨.inl rfl, Int.le_refl _, fun x hx => by cases hx⟩
  | y :: l, a => by
    obtain ⟨h1, h2, h3⟩ := foldl_max l (max a y)
    simp only [List.foldl_cons]
    refine ⟨?_, by omega, ?_⟩
    · rcases h1 with h | h
      · rw [h]
        by_cases q : a ≤ y
        · right; rw [Int.max_eq_right q]; simp
        · left; exact Int.max_eq_left (by omega)
      · right; exact List.mem_cons_of_mem _ h
    · intro x hx
      rcases List.mem_cons.1 hx with rfl | h
      · omega
      · exact h3 x h
theorem foldl_min : ∀ (l : List Int) (a : Int), (l.foldl min a = a ∨ l.foldl min a ∈ l) ∧ l.foldl min a ≤ a ∧ ∀ x ∈ l, l.foldl min a ≤ x
  | [], a => ⟨.inl rfl, Int.le_refl _, fun x hx => by cases hx⟩
  | y :: l, a => by
    obtain ⟨h1, h2, h3⟩ := foldl_min l (min a y)
    simp only [List.foldl_cons]
    refine ⟨?_, by omega, ?_⟩
    · rcases h1 with h | h
      · rw [h]
        by_cases q : a ≤ y
        · left; exact Int.min_eq_left q
        · right; rw [Int.min_eq_right (by omega)]; simp
      · right; exact List.mem_cons_of_mem _ h
    · intro x hx
      rcases List.mem_cons.1 hx with rfl | h
      · omega
      · exact h3 x h
theorem maxOf_mem {l : List Int} (h : 0 < l.length) : Lib.maxOf l ∈ l ∧ ∀ x ∈ l, x ≤ Lib.maxOf l := by
  obtain ⟨y, l, rfl⟩ := List.exists_cons_of_length_pos h
  obtain ⟨h1, h2, h3⟩ := foldl_max (y :: l) y
  unfold Lib.maxOf
  rw [List.headD_cons]
  refine ⟨?_, h3⟩
  rcases h1 with q | q
  · rw [q]; simp
  · exact q
theorem minOf_mem {l : List Int} (h : 0 < l.length) : Lib.minOf l ∈ l ∧ ∀ x ∈ l, Lib.minOf l ≤ x := by
  obtain ⟨y, l, rfl⟩ := List.exists_cons_of_length_pos h
  obtain ⟨h1, h2, h3⟩ := foldl_min (y :: l) y
  unfold Lib.minOf
  rw [List.headD_cons]
  refine ⟨?_, h3⟩
  rcases h1 with q | q
  · rw [q]; simp
  · exact q
/-- A row's greatest span without its least. -/
def evnQ (s : Int) (zs : List Int) (k : Nat) : Int := Lib.maxOf (spnR s zs k) - Lib.minOf (spnR s zs k)
theorem spnR_len (s : Int) (zs : List Int) (k : Nat) : (spnR s zs k).length = zs.length := by simp [spnR]
theorem spnR_bd {s : Int} (h : 1 ≤ s) (zs : List Int) (k : Nat) : ∀ x ∈ spnR s zs k, 0 ≤ x ∧ x < s := by
  intro x hx
  unfold spnR at hx
  rw [List.mem_map] at hx
  obtain ⟨i, _, rfl⟩ := hx
  exact spnD_bd h zs k i
theorem evnQ_zero {s : Int} (hs : 1 ≤ s) {zs : List Int} (h0 : 0 < zs.length) : evnQ s zs 0 = 0 := by
  have hz : ∀ x ∈ spnR s zs 0, x = 0 := by
    intro x hx
    unfold spnR at hx
    rw [List.mem_map] at hx
    obtain ⟨i, hi, rfl⟩ := hx
    have := List.mem_range.1 hi
    unfold spnD
    rw [Nat.add_zero, Nat.mod_eq_of_lt this, Int.sub_self, Int.zero_emod]
  have hl : 0 < (spnR s zs 0).length := by rw [spnR_len]; exact h0
  have h1 := hz _ (maxOf_mem hl).1
  have h2 := hz _ (minOf_mem hl).1
  unfold evnQ
  omega
theorem evnQ_span {s : Int} {zs : List Int} (h : Ok s zs) {k : Nat} (hk : k < zs.length) : evnD (spansB s zs k) = evnQ s zs k := by
  rw [spansB_eq h (by omega) (by omega), stB_yes h, spansL_spn h hk]
  have hl : 0 < (spnR s zs k).length := by rw [spnR_len]; omega
  have hs := h.1
  exact evnD_of (fun x hx => by have := spnR_bd hs.1 zs k x hx; omega) (minOf_mem hl).1 (minOf_mem hl).2 (maxOf_mem hl).1 (maxOf_mem hl).2
theorem evnC_iff {s : Int} {zs : List Int} (h : Ok s zs) : evnC s zs ↔ ∀ k, k < zs.length → evnQ s zs k ≤ 1 := by
  constructor
  · intro q k hk
    by_cases h0 : k = 0
    · subst h0; rw [evnQ_zero h.1.1 hk]; omega
    · have := q.2 k (by omega) hk
      unfold evnK at this
      rwa [evnQ_span h hk] at this
  · intro q
    refine ⟨h, fun k _ hk => ?_⟩
    unfold evnK
    rw [evnQ_span h hk]
    exact q k hk

/-- The cells of a row. -/
theorem spC_cell {s : Int} {zs : List Int} {k j : Nat} (hl : zs.length ≤ 24) (hk : k < zs.length) (hj : j < zs.length) : (spC s zs zs.length 0)[k * 24 + j]? = some (.int .i64 ((spnR s zs k).getD j 0)) := by
  rw [spC_at _ _ _ _ _ (by omega)]
  congr 2
  unfold spN spnR
  rw [show (k * 24 + j) / 24 = k by omega, show (k * 24 + j) % 24 = j by omega, if_pos (by omega), List.getD_eq_getElem?_getD, List.getElem?_map, List.getElem?_range hj]
  rfl

theorem rows_own {B : Nat} {w w1 : World} (hB : Below B w w1) (hs : B ≤ w1.heap.size) {gr : Nat} {v0 v1 : Value} (ht : Two w1 gr v0 v1) (C0 C : Array Value) (W : World)
    (hW : (w1.alloc (.cells C0 64)).setRow w1.heap.size C = W) :
    Two W gr v0 v1 ∧ W.heap[w1.heap.size]? = some (.cells C 64 (0, 0)) ∧ Below B w W ∧ w1.heap.size < W.heap.size := by
  subst hW
  exact ⟨two_setRow (ht.keep (bel1 _ _)) (Nat.ne_of_lt ht.1) _, setRow_heap _ _ _ _ _ _ (heap_alloc_new _ _), below_setRow (hB.alloc hs _) hs _, by simp⟩

set_option maxHeartbeats 1000000 in
set_option maxRecDepth 100000 in
theorem isEven_any (s : Int) (a : Option Addr) (len cap : Nat) (zs : List Int) (w : World) (h : IntsAt w a len zs) (hm : len ≤ 1048576) (ho : Ok s zs) :
    Calls Try.prog 48 #[rhy s a len cap] w fun e w' => e = .returned (.bool (evnB s zs)) ∧ Below w.heap.size w w' := by
  have HS := Lib.hid h
  have HOK := Lib.hid ho
  have HIF := Lib.hid (evnC_iff ho)
  have hlen : zs.length = len := h.len
  have hl24 : len ≤ 24 := by have := ok_len ho; omega
  have HLN := Lib.hid hlen
  have hs1 := ho.1.1
  have hs2 := ho.1.2
  clear h ho hlen
  obtain ⟨Q, hQ⟩ : ∃ Q, evnB s zs = Q := ⟨_, rfl⟩
  have HQ := Lib.hid hQ
  clear hQ
  rw [HQ.out]
  obtain ⟨g, hg⟩ : ∃ g, g = w.heap.size := ⟨_, rfl⟩
  have HG := Lib.hid hg
  clear hg
  go_enter Try.func48, Try.ntmps48
  go_wp2_with fail
  refine (rows_any s a len cap zs _ (HS.out.below (bel1 w _)) hm HOK.out).mono ?_
  rintro e w1 ⟨rfl, hb1⟩
  have HB1 := Lib.hid ((bel1 w (.cells #[.int .i64 s, .slice a len cap] 24)).trans (hb1.mono (by simp)))
  have HT1 := Lib.hid ((two_new w (.int .i64 s) (.slice a len cap) 24).keep hb1)
  clear hb1
  obtain ⟨rb, hrb⟩ : ∃ rb, rb = w1.heap.size := ⟨_, rfl⟩
  have HRB := Lib.hid hrb
  clear hrb
  go_wp2_with (refine wpList_store_row rfl 64 (.tmp 3) (.tmp 7) rfl w1.heap.size (spC s zs zs.length 0) rfl rfl 64 Try.zeroCells64 (heap_alloc_new _ _) (by rw [infoRows, spC_size]) (by rw [spC_zero s zs, spC_size, spC_size]) (spC_one s zs _ _) ?_; generalize hW : World.setRow _ _ _ = W; have HF := Lib.hid (rows_own HB1.out HB1.out.size HT1.out _ _ W hW); clear hW; obtain ⟨x0, x1, x2⟩ := HF.out.1)
  rw [← HRB.out] at HF ⊢
  rw [← HG.out] at HF ⊢
  go_loopw [11] (fun i wr => ∃ k : Nat, k ≤ len ∧ i = .int .i64 k ∧ Hid (∀ j, j < k → evnQ s zs j ≤ 1) ∧ Below W.heap.size W wr) (fun i _ => len - (intOf i).toNat)
  case atStart => exact ⟨0, by omega, rfl, Lib.hid (fun j hj => absurd hj (by omega)), Below.refl _ _⟩
  case round =>
    clear x0 x1 x2
    obtain ⟨k, hk, rfl, HEV, hbl⟩ := hrel
    have HX := Lib.hid hbl
    have HBW : Hid (Below w.heap.size w wr) := Lib.hid (by have h2 := HF.out.2.2.1; rw [HG.out] at h2; exact h2.trans (HX.out.mono h2.size))
    have HR2 := Lib.hid (row_keep HF.out.2.1 HX.out)
    obtain ⟨x0, x1, x2⟩ := HF.out.1.keep hbl
    clear hbl
    by_cases hlt : k < len
    · have hkl : k < zs.length := by have := HLN.out; omega
      have k0 : (0 : Int) ≤ (k : Int) := by omega
      have k1 : (k : Int) < 24 := by omega
      have l1 : (0 : Int) ≤ (len : Int) := by omega
      have l2 : (len : Int) ≤ 24 := by omega
      have hcell : ∀ j, j < (spnR s zs k).length → wr.cell? ⟨rb, k * 24 + j, none⟩ = some (.int .i64 ((spnR s zs k).getD j 0)) := fun j hj => by
        rw [spnR_len] at hj
        rw [cell_of_row _ _ _ _ _ _ HR2.out, spC_cell (by have := HLN.out; omega) hkl hj]
      have hlR : (spnR s zs k).length = len := by rw [spnR_len]; exact HLN.out
      have hbd := spnR_bd hs1 zs k
      have h0l : 0 < (spnR s zs k).length := by omega
      have hmx := hbd _ (maxOf_mem h0l).1
      have hmn := hbd _ (minOf_mem h0l).1
      have htk : (spnR s zs k).take len = spnR s zs k := List.take_of_length_le (by omega)
      have HMX := Lib.hid (Try.slices_Max_int rb (k * 24) len 24 (spnR s zs k) wr.drew (by omega) (by omega) (by omega) hcell)
      have HMN := Lib.hid (Try.slices_Min_int rb (k * 24) len 24 (spnR s zs k) wr.drew (by omega) (by omega) (by omega) hcell)
      rw [htk] at HMX HMN
      obtain ⟨mx, hmxe⟩ : ∃ m, Lib.maxOf (spnR s zs k) = m := ⟨_, rfl⟩
      obtain ⟨mn, hmne⟩ : ∃ m, Lib.minOf (spnR s zs k) = m := ⟨_, rfl⟩
      have HD : Hid (evnQ s zs k = mx - mn) := Lib.hid (by unfold evnQ; rw [hmxe, hmne])
      rw [hmxe] at HMX hmx
      rw [hmne] at HMN hmn
      have hw1 : wrap64 (mx - mn) = mx - mn := by unfold wrap64; omega
      clear hcell hlR hbd h0l htk hmxe hmne
      go_wp2
      go_region
      go_wp2_with fail
      refine HMX.out.mono ?_
      rintro e w2 ⟨rfl, hw2⟩
      subst hw2
      go_wp2_with fail
      refine HMN.out.mono ?_
      rintro e w2 ⟨rfl, hw2⟩
      subst hw2
      by_cases hd : mx - mn ≤ 1
      · have hdb : decide (1 < mx - mn) = false := by simp; omega
        go_wp2
        go_roundw
        case rel =>
          refine ⟨k + 1, by omega, by go_num, Lib.hid (fun j hj => ?_), HX.out.drew⟩
          rcases Nat.lt_or_ge j k with q | q
          · exact HEV.out j q
          · obtain rfl : j = k := by omega
            rw [HD.out]
            exact hd
        case measure => simp [intOf]; omega
      · have hdb : decide (1 < mx - mn) = true := by simp; omega
        have HQF : Hid (Q = false) := Lib.hid (by
          rw [← HQ.out]
          refine evnB_no (fun hq => hd ?_)
          rw [← HD.out]
          exact HIF.out.1 hq k hkl)
        go_wp2
        go_ret
        exact ⟨by rw [HQF.out]; rfl, HBW.out.drew⟩
    · have HQT : Hid (Q = true) := Lib.hid (by
        rw [← HQ.out]
        exact evnB_yes (HIF.out.2 (fun j hj => HEV.out j (by have := HLN.out; omega))))
      go_wp2
      go_ret
      exact ⟨by rw [HQT.out]; rfl, HBW.out⟩

set_option maxHeartbeats 400000 in
theorem isEven_impl (s : Int) (a : Option Addr) (len cap : Nat) (zs : List Int) (w : World) (h : IntsAt w a len zs) (hm : zs.length ≤ 1048576) :
    Calls Try.prog 23 #[rhy s a len cap] w fun e w' => e = .returned (.bool (evnB s zs)) ∧ Below w.heap.size w w' := by
  have HS := Lib.hid h
  have hl : len ≤ 1048576 := by have := h.1; omega
  clear h
  by_cases ho : Ok s zs
  · have HO := Lib.hid ho
    clear ho
    go_enter Try.func23, Try.ntmps23
    go_wp2_with fail
    refine (valid_yes s a len cap zs _ (HS.out.below (bel1 w _)) hl HO.out).mono ?_
    rintro e w1 ⟨rfl, hb1⟩
    have HB := Lib.hid ((bel1 w (.cells #[.int .i64 s, .slice a len cap] 24)).trans (hb1.mono (by simp)))
    have HT := Lib.hid ((two_new w (.int .i64 s) (.slice a len cap) 24).keep hb1)
    obtain ⟨t1, t1a, t1b⟩ := HT.out
    clear hb1
    go_wp2_with fail
    refine (isEven_any s a len cap zs _ (HS.out.below HB.out) hl HO.out).mono ?_
    rintro e w2 ⟨rfl, hb2⟩
    have HB2 := Lib.hid (HB.out.trans (hb2.mono HB.out.size))
    clear hb2
    go_wp2
    go_ret
    exact ⟨rfl, HB2.out⟩
  · have HO := Lib.hid ho
    have HE := Lib.hid (evnB_no (s := s) (zs := zs) (fun x => ho x.1))
    clear ho
    rw [HE.out]
    go_enter Try.func23, Try.ntmps23
    go_wp2_with fail
    refine (valid_no s a len cap zs _ (HS.out.below (bel1 w _)) hl HO.out).mono ?_
    rintro e w1 ⟨rfl, hb1⟩
    have HB := Lib.hid ((bel1 w (.cells #[.int .i64 s, .slice a len cap] 24)).trans (hb1.mono (by simp)))
    clear hb1
    go_wp2
    go_ret
    exact ⟨rfl, HB.out⟩
end Go.Proofs.Ythjkblekccpafaa.Rhy
