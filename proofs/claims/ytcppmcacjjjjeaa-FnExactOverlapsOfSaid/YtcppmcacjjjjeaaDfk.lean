/-
  Helpers of the claims beside this text: the vector of a rhythm as the program makes it.
-/
import Derived.Test.YtcppmcacjjjjeaaDfj
namespace Go.Proofs.Ytcppmcacjjjjeaa.Rhy
open Go.RowKit Go.Maps
set_option linter.unusedVariables false
set_option linter.unusedSimpArgs false

def hh (f : Nat → Nat) (lf : Nat → Bool) (p : Nat) : Nat := if lf p then 0 else f p
def prN (n : Nat) (f : Nat → Nat) (lf : Nat → Bool) (i : Nat) : Nat := hh f lf (i + 1) + if 2 * (i + 1) = n then 0 else hh f lf (n - (i + 1))
def prP (n m : Nat) (f : Nat → Nat) (lf : Nat → Bool) : List Nat := (List.range m).map fun i => prN n f lf i
def prL (n m : Nat) (f : Nat → Nat) (lf : Nat → Bool) : List Int := (prP n m f lf).map fun a : Nat => (a : Int)
theorem prL_len (n m : Nat) (f : Nat → Nat) (lf : Nat → Bool) : (prL n m f lf).length = m := by simp [prL, prP]
theorem prL_at {n m : Nat} {f : Nat → Nat} {lf : Nat → Bool} {i : Nat} (h : i < m) : (prL n m f lf)[i]? = some ((prN n f lf i : Nat) : Int) := by simp [prL, prP, h]
theorem hh_same {f : Nat → Nat} {lf : Nat → Bool} {p : Nat} (h : lf p = true) : hh f (fun q => lf q && !decide (q = p)) p = hh f lf p + f p := by simp [hh, h]
theorem hh_other {f : Nat → Nat} {lf : Nat → Bool} {p q : Nat} (h : q ≠ p) : hh f (fun q => lf q && !decide (q = p)) q = hh f lf q := by simp [hh, h]
theorem prL_step {n m : Nat} {f : Nat → Nat} {lf : Nat → Bool} {p i : Nat} (hm : m = n / 2) (hp1 : 1 ≤ p) (hp : p < n) (hlf : lf p = true) (hi : i + 1 = shB n p) :
    (prL n m f lf).set i ((prN n f lf i + f p : Nat) : Int) = prL n m f (fun q => lf q && !decide (q = p)) := by
  unfold shB at hi
  apply List.ext_getElem?
  intro j
  rw [List.getElem?_set, prL_len]
  by_cases hj : j < m
  · rw [prL_at hj, prL_at hj]
    by_cases q : i = j
    · subst q
      rw [if_pos rfl, if_pos hj]
      congr 2
      unfold prN
      by_cases c : 2 * (i + 1) = n
      · have : i + 1 = p := by omega
        rw [if_pos c, if_pos c, this, hh_same hlf]
        omega
      · rw [if_neg c, if_neg c]
        by_cases d : i + 1 = p
        · rw [d, hh_same hlf, hh_other (show n - p ≠ p by omega)]
          omega
        · have : n - (i + 1) = p := by omega
          rw [this, hh_same hlf, hh_other d]
          omega
    · rw [if_neg q]
      congr 2
      unfold prN
      rw [hh_other (show j + 1 ≠ p by omega)]
      by_cases c : 2 * (j + 1) = n
      · rw [if_pos c, if_pos c]
      · rw [if_neg c, if_neg c, hh_other (show n - (j + 1) ≠ p by omega)]
  · rw [List.getElem?_eq_none (by rw [prL_len]; omega), List.getElem?_eq_none (by rw [prL_len]; omega)]
    by_cases q : i = j
    · omega
    · simp [q]
theorem prL_start {n m : Nat} {f : Nat → Nat} {lf : Nat → Bool} (hm : m = n / 2) (h : ∀ p, p < n → lf p = false → f p = 0) : prL n m f lf = List.replicate m 0 := by
  have h0 : ∀ p, p < n → hh f lf p = 0 := fun p hp => by
    unfold hh
    cases hq : lf p
    · simp [h p hp hq]
    · simp
  apply List.ext_getElem
  · rw [prL_len]; simp
  · intro i h1 h2
    rw [prL_len] at h1
    have := prL_at (n := n) (f := f) (lf := lf) h1
    rw [List.getElem?_eq_getElem (by rw [prL_len]; exact h1)] at this
    rw [Option.some.inj this, List.getElem_replicate]
    unfold prN
    rw [h0 _ (by omega)]
    by_cases c : 2 * (i + 1) = n
    · rw [if_pos c]; rfl
    · rw [if_neg c, h0 _ (by omega)]; rfl
theorem prN_le {n : Nat} {f : Nat → Nat} {lf : Nat → Bool} (h : ∀ p, f p ≤ 24) (i : Nat) : prN n f lf i ≤ 48 := by
  have h1 : ∀ p, hh f lf p ≤ 24 := fun p => by
    unfold hh
    have := h p
    split <;> omega
  have h2 := h1 (i + 1)
  have h3 := h1 (n - (i + 1))
  unfold prN
  split <;> omega

/-- The numbers, the first k of them halved. -/
def halL (P : List Nat) (k : Nat) : List Int := (P.take k).map (fun a : Nat => ((a / 2 : Nat) : Int)) ++ (P.drop k).map (fun a : Nat => (a : Int))
theorem halL_zero (P : List Nat) : halL P 0 = P.map (fun a : Nat => (a : Int)) := by simp [halL]
theorem halL_all (P : List Nat) : halL P P.length = P.map (fun a : Nat => ((a / 2 : Nat) : Int)) := by simp [halL]
theorem halL_len (P : List Nat) (k : Nat) : (halL P k).length = P.length := by simp [halL]; omega
theorem halL_at {P : List Nat} {k a : Nat} (h : P[k]? = some a) : (halL P k)[k]? = some (a : Int) := by
  have hk : k < P.length := by
    rcases Nat.lt_or_ge k P.length with q | q
    · exact q
    · rw [List.getElem?_eq_none q] at h; cases h
  unfold halL
  rw [List.getElem?_append_right (by simp; omega)]
  simp [Nat.min_eq_left (show k ≤ P.length by omega), h]
theorem halL_step {P : List Nat} {k a : Nat} (h : P[k]? = some a) : (halL P k).set k ((a / 2 : Nat) : Int) = halL P (k + 1) := by
  have hk : k < P.length := by
    rcases Nat.lt_or_ge k P.length with q | q
    · exact q
    · rw [List.getElem?_eq_none q] at h; cases h
  have hd : P.drop k = a :: P.drop (k + 1) := by
    rw [List.drop_eq_getElem_cons hk]
    rw [List.getElem?_eq_getElem hk] at h
    rw [Option.some.inj h]
  unfold halL
  rw [hd, List.take_add_one, h]
  have h2 := set_mid ((P.take k).map (fun a : Nat => ((a / 2 : Nat) : Int))) ((P.drop (k + 1)).map (fun a : Nat => (a : Int))) (a : Int) ((a / 2 : Nat) : Int)
  rw [show ((P.take k).map (fun a : Nat => ((a / 2 : Nat) : Int))).length = k by simp; omega] at h2
  simpa using h2
theorem prP_len (n m : Nat) (f : Nat → Nat) (lf : Nat → Bool) : (prP n m f lf).length = m := by simp [prP]
theorem half_vec' {n : Nat} {zs : List Int} (ho : Ok n zs) {f : Nat → Nat} {lf : Nat → Bool} (hf : ∀ p, 1 ≤ p → f p = difAt n zs p) (hl : ∀ p, p < n → lf p = false) :
    (prP n (n / 2) f lf).map (fun a : Nat => ((a / 2 : Nat) : Int)) = vecZ n zs := by
  unfold prP vecZ
  rw [List.map_map, show ((n : Int)).toNat = n by omega]
  refine List.map_congr_left fun j hj => ?_
  rw [List.mem_range] at hj
  have h1 : ∀ p, p < n → 1 ≤ p → hh f lf p = difAt n zs p := fun p hp hp1 => by simp [hh, hl p hp, hf p hp1]
  show (((prN n f lf j) / 2 : Nat) : Int) = _
  unfold prN
  rw [h1 _ (by omega) (by omega)]
  by_cases c : 2 * (j + 1) = n
  · rw [if_pos c, if_pos c]
    simp
  · rw [if_neg c, if_neg c, h1 _ (by omega) (by omega), dif_nat_sub ho (i := n - (j + 1)) (j := j + 1) (by omega)]
    congr 1
    omega
set_option maxHeartbeats 1000000 in
theorem vector_any (n : Nat) (a : Option Addr) (len cap : Nat) (zs : List Int) (w : World) (h : IntsAt w a len zs) (hm : len ≤ 1048576) (ho : Ok n zs) :
    Calls Try.prog 61 #[rhy n a len cap] w (IPost (vecZ n zs) w) := by
  have HS := Lib.hid h
  have HO := Lib.hid ho
  have hn1 : 1 ≤ n := by have := ho.1.1; omega
  have hn24 : n ≤ 24 := by have := ho.1.2; omega
  have hnn : (0 : Int) ≤ n ∧ (n : Int) ≤ 1000 := by omega
  have hN1 : n ≤ 1000 := by omega
  clear h ho
  obtain ⟨i0, hi, hz0, hz1, hz2⟩ := info_parts infoInt
  have HI := Lib.hid (show _ ∧ _ ∧ _ ∧ _ from ⟨hi, hz0, hz1, hz2⟩)
  clear hi hz0 hz1 hz2
  obtain ⟨g, hg⟩ : ∃ g, g = w.heap.size := ⟨_, rfl⟩
  have HG := Lib.hid hg
  clear hg
  obtain ⟨q, hq⟩ : ∃ q, q = n / 2 := ⟨_, rfl⟩
  have HQ := Lib.hid hq
  have hq2 : 2 * q ≤ n := by omega
  have hqi : (n : Int) / 2 = (q : Int) := by omega
  clear hq
  obtain ⟨W0, hW⟩ : ∃ W0, W0 = w.alloc (.cells #[.int .i64 n, .slice a len cap] 25) := ⟨_, rfl⟩
  have HW := Lib.hid hW
  clear hW
  have HSZ := Lib.hid (show W0.heap.size = g + 1 by rw [HW.out, HG.out]; simp)
  have HT0 := Lib.hid (show Box W0 g (.int .i64 n) (.slice a len cap) 25 by rw [HW.out, HG.out]; exact box_new w _ _ _)
  have HBW := Lib.hid (show Below g w W0 by rw [HW.out, HG.out]; exact bel1 w _)
  have hlt0 := HT0.out.lt
  go_enter Try.func61, Try.ntmps61
  go_wp2_with fail
  rw [← HW.out, ← HG.out]
  refine (difs_any n a len cap zs W0 (HS.out.below (by rw [← HG.out]; exact HBW.out)) hm HO.out).mono ?_
  rintro e w1 ⟨b, m, rfl, hbg, hm1, hcn, hb1⟩
  obtain ⟨f0, hf⟩ : ∃ f0 : Nat → Nat, (fun i : Nat => difAt n zs i) = f0 := ⟨_, rfl⟩
  rw [hf] at hcn
  obtain ⟨f, hff⟩ : ∃ f : Nat → Nat, upd f0 0 0 = f := ⟨_, rfl⟩
  have hfb : ∀ p, f p ≤ 24 := fun p => by
    rw [← hff, ← hf]
    unfold upd
    split
    · omega
    · exact dif_le HO.out _
  have HF : Hid (∀ p, 1 ≤ p → f p = difAt n zs p) := Lib.hid (fun p hp => by
    rw [← hff, ← hf]
    unfold upd
    rw [if_neg (by omega)])
  have HFF := Lib.hid hff
  have HCN := Lib.hid hcn
  have hsz1 := hb1.size
  have HT1 := Lib.hid (HT0.out.keep hb1 hlt0)
  have HB1 := Lib.hid (HBW.out.trans (hb1.mono (by omega)))
  have hs0 := HSZ.out
  clear hf hcn hb1 hff
  obtain ⟨c0, c1, _, _⟩ := HT1.out.facts
  go_wp2_with (first
    | (at_delete; refine wpList_delete_cnt _ rfl _ _ _ rfl Try.underlying79 n hnn b m n hN1 f0 (by omega) rfl HCN.out rfl ?_; intro w2 hcn2 hg2; have HCN2 := Lib.hid hcn2; have hsz2 := hg2.size; have HG2 := Lib.hid hg2; have HT2 := Lib.hid (box_grown HT1.out hg2 (by omega)); clear hcn2 hg2 c0 c1; obtain ⟨c0, c1, _, _⟩ := HT2.out.facts)
    | (at_make; refine wpList_make_full _ rfl _ _ 23 rfl w2.heap.size 3 i0 (.int .i64 0) 1 Try.underlying23 HI.out.1 HI.out.2.1 HI.out.2.2.1 .i64 .i64 q q q rfl rfl rfl rfl ?b2 ?b3 ?b4 ?_))
  case b2 => rw [HI.out.2.2.2]; omega
  case b3 => unfold maxLen; omega
  case b4 => exact Nat.le_refl _
  intro w3 hown hgrow
  rw [HFF.out] at HCN2
  rw [toList_madeCells_one] at hown
  obtain ⟨d, hd⟩ : ∃ d, d = w2.heap.size := ⟨_, rfl⟩
  rw [← hd] at hown ⊢
  have HOW := Lib.hid hown
  have hbl : b < w2.heap.size := HCN2.out.lt
  have HCN3 := Lib.hid (HCN2.out.kept ⟨none, hgrow, by simp⟩)
  have HB3 := Lib.hid ((HB1.out.grown HG2.out (by omega) (fun j e => by have h2 : b = j := Option.some.inj e; omega)).grown hgrow (by omega) (fun j e => by cases e))
  have hsz3 := (HOW.out.lt d rfl).2
  have hbd : b < d ∧ g < d := by omega
  have HDD := Lib.hid hd
  clear hown hgrow c0 c1 hd
  obtain ⟨r, hr⟩ : ∃ r, r = w3.heap.size := ⟨_, rfl⟩
  go_wp2_with (at_range; refine wpList_range_cnt _ rfl _ _ rfl Try.underlying79 n b m 1 n f rfl HCN3.out ?_; intro w4 lf cnt hrg hz hgr hsz)
  go_frame
  rw [← hr] at hrg hsz ⊢
  have HA : Hid (∃ (lf : Nat → Bool) (cnt : Nat), Rng n w4 b r m 1 n f lf cnt ∧ w4.ownsRow d 3 1 (.slice (some ⟨d, 0, none⟩) q q) q (ints (prL n q f lf)) ∧ Below g w w4 ∧ r < w4.heap.size) := Lib.hid
    ⟨lf, cnt, hrg, by
      have h1 := own_grown' HOW.out hgr
      rw [prL_start HQ.out hz]
      simpa [ints] using h1, HB3.out.grown hgr (by omega) (fun j e => by cases e), by omega⟩
  have hrd : d < r := by omega
  have HRR := Lib.hid hr
  clear hrg hz hgr hsz hr
  go_loopw [20] (fun _ wr => ∃ (lf : Nat → Bool) (cnt : Nat), Rng n wr b r m 1 n f lf cnt ∧ wr.ownsRow d 3 1 (.slice (some ⟨d, 0, none⟩) q q) q (ints (prL n q f lf)) ∧ Below g w wr ∧ r < wr.heap.size) (fun _ wr => wr.rangeLeft b r)
  case atStart => exact HA.out
  case round =>
    clear HA
    obtain ⟨lf, cnt, hrg, hown, hnx, hsz⟩ := hrel
    have HRG := Lib.hid hrg
    have HO1 := Lib.hid hown
    have HX1 := Lib.hid hnx
    clear hrg hown hnx
    go_wp2_with (at_next; refine wpList_next_cnt _ rfl _ rfl n hnn b r m 1 n hN1 f lf cnt rfl HRG.out ?_ ?_)
    · intro hd
      obtain ⟨P, hP⟩ : ∃ P, prP n q f lf = P := ⟨_, rfl⟩
      have hPl : P.length = q := by rw [← hP]; exact prP_len _ _ _ _
      have HPL := Lib.hid hPl
      have HPB : Hid (∀ k x, P[k]? = some x → x ≤ 48) := Lib.hid (fun k x hx => by
        rw [← hP] at hx
        unfold prP at hx
        rw [List.getElem?_map] at hx
        obtain ⟨y, _, rfl⟩ := Option.map_eq_some_iff.1 hx
        exact prN_le hfb y)
      have HV : Hid (P.map (fun a : Nat => ((a / 2 : Nat) : Int)) = vecZ n zs) := Lib.hid (by
        have := half_vec' HO.out (f := f) (lf := lf) HF.out hd
        rw [← HQ.out, hP] at this
        exact this)
      have HO2 : Hid (wr.ownsRow d 3 1 (.slice (some ⟨d, 0, none⟩) q q) q (ints (halL P 0))) := Lib.hid (by
        have := HO1.out
        unfold prL at this
        rw [hP] at this
        rw [halL_zero]
        exact this)
      clear hd hP hPl HO1 HRG
      go_wp2
      go_loopw [36] (fun i wr => ∃ k : Nat, k ≤ q ∧ i = .int .i64 k ∧ wr.ownsRow d 3 1 (.slice (some ⟨d, 0, none⟩) q q) q (ints (halL P k)) ∧ Below g w wr) (fun i _ => q - (intOf i).toNat)
      case atStart => exact ⟨0, by omega, rfl, HO2.out, HX1.out⟩
      case round =>
        clear HO2 HX1
        obtain ⟨k, hk, rfl, hown, hnx⟩ := hrel
        have HO1 := Lib.hid hown
        have HX1 := Lib.hid hnx
        clear hown hnx
        by_cases hlt : k < q
        · obtain ⟨x, hx⟩ : ∃ x, P[k]? = some x := ⟨_, List.getElem?_eq_getElem (by rw [HPL.out]; exact hlt)⟩
          have hx48 := HPB.out k x hx
          have hcr := HO1.out.cellAt k (by omega)
          rw [ints, List.getElem?_map, halL_at hx] at hcr
          simp only [Option.map_some] at hcr
          have hfr := HO1.out.frozenAt k
          have HST := Lib.hid (halL_step hx)
          clear hx
          go_wp2
          go_roundw
          case rel =>
            have hst := HO1.out.stored k (.int .i64 ((x / 2 : Nat) : Int))
            rw [ints, ← List.map_set, HST.out] at hst
            refine ⟨k + 1, by omega, by go_num, ?_, ?_⟩
            · simpa [ints] using hst.1
            · exact HX1.out.setCell (by show g ≤ d; omega) _
          case measure => simp [intOf]; omega
        · have e : k = P.length := by have := HPL.out; omega
          have HE := Lib.hid e
          have hkq : k = q := by omega
          clear e
          go_wp2
          go_ret
          have h1 := HO1.out
          rw [HE.out, halL_all, HV.out] at h1
          refine ⟨some ⟨d, 0, none⟩, q, ?_, ?_, ?_⟩
          · rw [vec_len, HQ.out]; simp
          · rw [vec_len, show ((n : Int)).toNat / 2 = q by have := HQ.out; omega, ← HG.out]
            exact own_base h1 (by omega)
          · rw [← HG.out]
            exact HX1.out
    · intro p w5 cnt' hp1 hp hlp hrg5 hlt hg5 hs5 hen
      have hqq := HQ.out
      obtain ⟨i, hsi⟩ : ∃ i, shB n p = i + 1 := ⟨shB n p - 1, by unfold shB; omega⟩
      have hiq : i < q := by unfold shB at hsi; omega
      have HR5 := Lib.hid hrg5
      have HG5 := Lib.hid hg5
      have HO5 := Lib.hid (own_grown HO1.out hg5 (fun k hk e => by have h1 : d = k := Option.some.inj hk; have h2 : r = k := Option.some.inj e; omega))
      have HST := Lib.hid (prL_step (f := f) (lf := lf) hqq hp1 hp hlp hsi.symm)
      have hlen5 : d < w5.heap.size := (HO5.out.lt d rfl).2
      have HB5 := Lib.hid (HX1.out.grown hg5 (by omega) (fun j e => by have h2 : r = j := Option.some.inj e; omega))
      obtain ⟨A, hA⟩ : ∃ A, prN n f lf i = A := ⟨_, rfl⟩
      have hA48 : A ≤ 48 := by rw [← hA]; exact prN_le hfb i
      have HAA := Lib.hid hA
      obtain ⟨B, hB⟩ : ∃ B, f p = B := ⟨_, rfl⟩
      have hB24 : B ≤ 24 := by rw [← hB]; exact hfb p
      rw [hB] at hen ⊢
      rw [hA, hB] at HST
      have HS5 := Lib.hid hs5
      have HSI := Lib.hid hsi
      clear hrg5 hg5 hA hB hs5 hsi hqq
      simp only [difV] at hen ⊢
      go_wp2_with fail
      rw [show (Value.agg #[.int .i64 (n : Int), .int .i64 (p : Int)]) = difV n p from rfl]
      refine (short_any n p _ hn1 hn24 hp).mono ?_
      rw [HSI.out]
      rintro e w6 ⟨rfl, hb6⟩
      have HB6 := Lib.hid hb6
      have HW6 := Lib.hid ((bel1 w5 (.cells #[.int .i64 n, .int .i64 p] 69)).trans (hb6.mono (by simp)))
      have HO6 := Lib.hid (own_below HO5.out HW6.out)
      have HR6 := Lib.hid (HR5.out.below HW6.out)
      have hcr := HO6.out.cellAt i (by omega)
      rw [ints, List.getElem?_map, prL_at hiq, HAA.out] at hcr
      simp only [Option.map_some] at hcr
      have hfr := HO6.out.frozenAt i
      have hs6 := HW6.out.size
      have HB7 := Lib.hid (HB5.out.trans (HW6.out.mono (by omega)))
      clear hb6
      go_wp2
      go_roundw
      case rel =>
        have hst := HO6.out.stored i (.int .i64 ((A + B : Nat) : Int))
        rw [ints, ← List.map_set, HST.out] at hst
        have h5 := HS5.out
        have e1 : ((A + B : Nat) : Int) = (A : Int) + B := by omega
        rw [e1] at hst
        exact ⟨_, cnt', HR6.out.kept hst.2 (by simp; omega) (by simp; omega), hst.1, HB7.out.setCell (by show g ≤ d; omega) _, by simp; omega⟩
      case measure =>
        have h1 := (HR6.out.kept (HO6.out.stored i (.int .i64 ((A : Int) + B))).2 (by simp; omega) (by simp; omega)).left_eq
        rw [h1, HRG.out.left_eq]
        exact hlt
end Go.Proofs.Ytcppmcacjjjjeaa.Rhy
