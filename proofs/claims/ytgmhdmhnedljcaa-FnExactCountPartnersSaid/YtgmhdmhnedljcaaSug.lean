/-
  Helpers of the claims beside this text: direct sums, tilings and gaps: both sides.
-/
import Derived.Test.YtgmhdmhnedljcaaSuc
namespace Go.Proofs.Ytgmhdmhnedljcaa.Rhy
open Go.RowKit
set_option linter.unusedVariables false
set_option linter.unusedSimpArgs false

theorem foldl_maxS : ∀ (l : List Int) (a : Int), (l.foldl max a = a ∨ l.foldl max a ∈ l) ∧ a ≤ l.foldl max a ∧ ∀ x ∈ l, x ≤ l.foldl max a
  | [], a => ⟨.inl rfl, Int.le_refl _, fun x hx => by cases hx⟩
  | y :: l, a => by
    obtain ⟨h1, h2, h3⟩ := foldl_maxS l (max a y)
    rw [List.foldl_cons]
    refine ⟨?_, by omega, fun x hx => ?_⟩
    · rcases h1 with q | q
      · rw [q]
        rcases Int.le_total a y with r | r
        · right; rw [Int.max_eq_right r]; simp
        · left; exact Int.max_eq_left r
      · exact .inr (List.mem_cons_of_mem _ q)
    · rcases List.mem_cons.1 hx with rfl | q
      · omega
      · exact h3 x q
theorem maxS_mem {l : List Int} (h : 0 < l.length) : Lib.maxOf l ∈ l ∧ ∀ x ∈ l, x ≤ Lib.maxOf l := by
  obtain ⟨y, l, rfl⟩ := List.exists_cons_of_length_pos h
  obtain ⟨h1, h2, h3⟩ := foldl_maxS (y :: l) y
  unfold Lib.maxOf
  rw [List.headD_cons]
  refine ⟨?_, h3⟩
  rcases h1 with q | q
  · rw [q]; simp
  · exact q
theorem ints_cells {w : World} {a : Option Addr} {n : Nat} {zs : List Int} (h : IntsAt w a n zs) (hn : 0 < n) : ∃ b off, a = some ⟨b, off, none⟩ ∧ ∀ j, j < zs.length → w.cell? ⟨b, off + j, none⟩ = some (.int .i64 (zs.getD j 0)) := by
  obtain ⟨b, off, rfl, _, hc⟩ := h.2.2 hn
  refine ⟨b, off, rfl, fun j hj => hc j _ ?_⟩
  rw [List.getD_eq_getElem?_getD, List.getElem?_eq_getElem hj]
  rfl

/-- All counts of the pulses below n lie between two numbers. -/
def btwC (n : Nat) (L : List Int) (lo hi : Int) : Prop := ∀ p : Nat, p < n → lo ≤ ((L.count (p : Int) : Nat) : Int) ∧ ((L.count (p : Int) : Nat) : Int) ≤ hi
theorem btw_snoc {k : Nat} {L : List Int} {lo hi : Int} (h : btwC k L lo hi) (h1 : lo ≤ ((L.count (k : Int) : Nat) : Int)) (h2 : ((L.count (k : Int) : Nat) : Int) ≤ hi) : btwC (k + 1) L lo hi := by
  intro p hp
  by_cases e : p = k
  · subst e; exact ⟨h1, h2⟩
  · exact h p (by omega)
theorem btw_dir {n : Nat} {xs ys : List Int} (hn : 1 ≤ n) : btwC n (sumL n xs ys) 0 1 ↔ dirC n xs ys := by
  rw [dir_count]
  constructor
  · intro h x
    by_cases hx : x ∈ sumL n xs ys
    · have hb := sumL_range (by omega) x hx
      have := (h x.toNat (by omega)).2
      rw [show ((x.toNat : Nat) : Int) = x by omega] at this
      omega
    · rw [List.count_eq_zero.2 hx]; omega
  · intro h p _
    have := h (p : Int)
    omega
theorem btw_til {n : Nat} {xs ys : List Int} : btwC n (sumL n xs ys) 1 1 ↔ tilC n xs ys := by
  constructor
  · intro h x h0 h1
    have := h x.toNat (by omega)
    rw [show ((x.toNat : Nat) : Int) = x by omega] at this
    omega
  · intro h p hp
    have := h (p : Int) (by omega) (by omega)
    omega
noncomputable def btwB (s : Int) (xs : List Int) (t : Int) (ys : List Int) (lo hi : Int) : Bool := cB ((Ok s xs ∧ Ok t ys ∧ s = t) ∧ btwC s.toNat (sumL s xs ys) lo hi)
/-- What both answer. -/
noncomputable def dirB (s : Int) (xs : List Int) (t : Int) (ys : List Int) : Bool := cB ((Ok s xs ∧ Ok t ys ∧ s = t) ∧ dirC s xs ys)
noncomputable def tilB (s : Int) (xs : List Int) (t : Int) (ys : List Int) : Bool := cB ((Ok s xs ∧ Ok t ys ∧ s = t) ∧ tilC s xs ys)
noncomputable def gapB (s : Int) (xs : List Int) (t : Int) (ys : List Int) : List Int := cZ (Ok s xs ∧ Ok t ys ∧ s = t) (gapZ s xs ys)
theorem cB_iff {c d : Prop} (h : c ↔ d) : cB c = cB d := by rw [propext h]
theorem dirB_btw (s : Int) (xs : List Int) (t : Int) (ys : List Int) : btwB s xs t ys 0 1 = dirB s xs t ys := by
  refine cB_iff ⟨fun h => ⟨h.1, ?_⟩, fun h => ⟨h.1, ?_⟩⟩
  · obtain ⟨q, rfl⟩ : ∃ q : Nat, s = q := ⟨s.toNat, by have := h.1.1.1; omega⟩
    exact (btw_dir (by have := h.1.1.1; omega)).1 h.2
  · obtain ⟨q, rfl⟩ : ∃ q : Nat, s = q := ⟨s.toNat, by have := h.1.1.1; omega⟩
    exact (btw_dir (by have := h.1.1.1; omega)).2 h.2
theorem tilB_btw (s : Int) (xs : List Int) (t : Int) (ys : List Int) : btwB s xs t ys 1 1 = tilB s xs t ys := by
  refine cB_iff ⟨fun h => ⟨h.1, ?_⟩, fun h => ⟨h.1, ?_⟩⟩
  · obtain ⟨q, rfl⟩ : ∃ q : Nat, s = q := ⟨s.toNat, by have := h.1.1.1; omega⟩
    exact btw_til.1 h.2
  · obtain ⟨q, rfl⟩ : ∃ q : Nat, s = q := ⟨s.toNat, by have := h.1.1.1; omega⟩
    exact btw_til.2 h.2

/-- The pulses below k that a list lacks. -/
def gpP (L : List Int) (k : Nat) : List Int := ((List.range k).filter fun p => decide (L.count ((p : Nat) : Int) = 0)).map fun p => ((p : Nat) : Int)
theorem gpP_yes {L : List Int} {k : Nat} (h : L.count (k : Int) = 0) : gpP L (k + 1) = gpP L k ++ [(k : Int)] := by
  unfold gpP
  rw [List.range_succ, List.filter_append, List.map_append]
  congr 1
  rw [List.filter_cons_of_pos (by simpa using h)]
  rfl
theorem gpP_no {L : List Int} {k : Nat} (h : ¬ L.count (k : Int) = 0) : gpP L (k + 1) = gpP L k := by
  unfold gpP
  rw [List.range_succ, List.filter_append, List.map_append]
  rw [List.filter_cons_of_neg (by simpa using h)]
  simp
theorem gpP_len (L : List Int) (k : Nat) : (gpP L k).length ≤ k := by
  unfold gpP
  rw [List.length_map]
  exact Nat.le_trans (List.length_filter_le _ _) (by simp)
theorem gpP_all (n : Nat) (xs ys : List Int) : gpP (sumL n xs ys) n = gapZ n xs ys := by
  unfold gpP gapZ
  rw [Int.toNat_natCast, List.filter_map]
  congr 1
  refine List.filter_congr fun p _ => ?_
  simp [Function.comp, List.count_eq_zero]
theorem gap_not {n : Nat} {xs ys : List Int} (hn : 1 ≤ n) : gapZ n xs ys = notZ n (suZ n xs ys) := by
  unfold gapZ notZ
  rw [Int.toNat_natCast]
  refine List.filter_congr fun p _ => ?_
  have h := su_mem (n := n) (xs := xs) (ys := ys) (by omega) (x := p)
  by_cases hc : p ∈ sumL n xs ys
  · simp [hc, h.2 hc]
  · have : ¬ p ∈ suZ n xs ys := fun q => hc (h.1 q)
    simp [hc, this]
theorem gapL_len (n : Nat) (xs ys : List Int) : (gapZ n xs ys).length ≤ n := by rw [← gpP_all]; exact gpP_len _ _
theorem gapB_int (s : Int) (xs : List Int) (t : Int) (ys : List Int) : AllInt (gapB s xs t ys) := by
  unfold gapB
  by_cases h : (Ok s xs ∧ Ok t ys ∧ s = t)
  · rw [cZ_yes h]; intro z hz; have := (gap_mem.1 hz).1; have := h.1.1; omega
  · rw [cZ_no h]; intro z hz; cases hz
theorem gapB_len (s : Int) (xs : List Int) (t : Int) (ys : List Int) : (gapB s xs t ys).length ≤ 24 := by
  unfold gapB
  by_cases h : (Ok s xs ∧ Ok t ys ∧ s = t)
  · obtain ⟨q, rfl⟩ : ∃ q : Nat, s = q := ⟨s.toNat, by have := h.1.1; omega⟩
    rw [cZ_yes h]; exact Nat.le_trans (gapL_len q xs ys) (by have := h.1.1; omega)
  · rw [cZ_no h]; simp

set_option maxHeartbeats 1000000 in
theorem btw_spec (s : Int) (a : Option Addr) (n ca : Nat) (xs : List Int) (t : Int) (b : Option Addr) (m cb : Nat) (ys : List Int) (w : World) (ha : IntsAt w a n xs) (hn : xs.length ≤ 1048576) (hb : IntsAt w b m ys) (hm : ys.length ≤ 1048576) (lo hi : Int) (h1 : 0 ≤ lo) (h2 : lo ≤ 1) (h3 : 0 ≤ hi) (h4 : hi ≤ 1) :
    Calls Try.prog 31 #[rhy s a n ca, rhy t b m cb, .int .i64 lo, .int .i64 hi] w fun e w' => e = .returned (.bool (btwB s xs t ys lo hi)) ∧ Below w.heap.size w w' := by
  have FA := Lib.hid ha
  have FB := Lib.hid hb
  have hn' : n ≤ 1048576 := by have := ha.1; omega
  have hm' : m ≤ 1048576 := by have := hb.1; omega
  clear ha hb
  obtain ⟨W0, hW⟩ : ∃ W0, W0 = (w.alloc (.cells #[.int .i64 s, .slice a n ca] 28)).alloc (.cells #[.int .i64 t, .slice b m cb] 28) := ⟨_, rfl⟩
  have HW := Lib.hid hW
  have HB0 := Lib.hid (show Below w.heap.size w W0 by rw [hW]; exact bel2 w _ _)
  have HX0 : Hid (RhI W0 w.heap.size s a n ca xs) := Lib.hid ⟨by rw [hW]; exact (box_new w _ _ _).keep (bel1 _ _) (by simp), FA.out.below HB0.out⟩
  have HY0 : Hid (RhI W0 (w.heap.size + 1) t b m cb ys) := Lib.hid ⟨by rw [hW]; simpa using box_new (w.alloc (.cells #[.int .i64 s, .slice a n ca] 28)) (.int .i64 t) (.slice b m cb) 28, FB.out.below HB0.out⟩
  clear hW FA FB
  by_cases hc : (Ok s xs ∧ Ok t ys ∧ s = t)
  · obtain ⟨hx, hy, hst⟩ := hc
    subst hst
    obtain ⟨q, rfl⟩ : ∃ q : Nat, s = q := ⟨s.toNat, by have := hx.1; omega⟩
    have hq1 : 1 ≤ q := by have := hx.1; omega
    have hq24 : q ≤ 24 := by have := hx.1; omega
    have HO := Lib.hid hx
    have HP := Lib.hid hy
    clear hx hy
    obtain ⟨c0, c1, f0, f1⟩ := HX0.out.1.facts
    obtain ⟨d0, d1, g0, g1⟩ := HY0.out.1.facts
    go_enter Try.func31, Try.ntmps31
    go_wp2_with fail
    rw [← HW.out]
    refine (two_yes q a n ca xs q b m cb ys _ HX0.out.2 hn HY0.out.2 hm ⟨HO.out, HP.out, rfl⟩).mono ?_
    rintro e w1 ⟨rfl, hb1⟩
    have HB1 := Lib.hid (HB0.out.trans (hb1.mono HB0.out.size))
    have HX1 := Lib.hid (HX0.out.keep hb1)
    have HY1 := Lib.hid (HY0.out.keep hb1)
    clear c0 c1 f0 f1 d0 d1 g0 g1 hb1
    obtain ⟨c0, c1, f0, f1⟩ := HX1.out.1.facts
    obtain ⟨d0, d1, g0, g1⟩ := HY1.out.1.facts
    go_wp2_with fail
    refine (cnt0_spec q a n ca xs b m cb ys _ HX1.out.2 hn' HY1.out.2 hm' HO.out HP.out).mono ?_
    rintro e w2 ⟨a2, c2, rfl, hown, hb2⟩
    have HB2 := Lib.hid (HB1.out.trans (hb2.mono HB1.out.size))
    obtain ⟨L, hL⟩ : ∃ L, sumL (q : Int) xs ys = L := ⟨_, rfl⟩
    have HL := Lib.hid hL
    rw [hL] at hown
    have HCI : Hid (AllInt (cntZ q L)) := Lib.hid (by rw [← hL]; exact cntS_int HO.out HP.out _)
    have HCL : Hid (∀ x : Int, L.count x ≤ 576) := Lib.hid (fun x => Nat.le_trans List.count_le_length (by rw [← hL]; exact sum_few HO.out HP.out))
    rw [cnt_len] at hown
    have HJ2 := Lib.hid (intsAt_own hown HCI.out)
    rw [cnt_len]
    clear c0 c1 f0 f1 d0 d1 g0 g1 hb2 hown hL
    have HE : Hid (btwB q xs q ys lo hi = cB (btwC q L lo hi)) := Lib.hid (cB_iff (by rw [Int.toNat_natCast, HL.out]; exact ⟨fun h => h.2, fun h => ⟨⟨HO.out, HP.out, rfl⟩, h⟩⟩))
    go_wp2
    go_loopw [19] (fun i wr => ∃ k : Nat, k ≤ q ∧ i = .int .i64 k ∧ btwC k L lo hi ∧ w2 = wr) (fun i _ => q - (intOf i).toNat)
    case atStart => exact ⟨0, by omega, rfl, fun p hp => by omega, rfl⟩
    case round =>
      obtain ⟨k, hk, rfl, hbt, rfl⟩ := hrel
      have HBT := Lib.hid hbt
      clear hbt
      by_cases hlt : k < q
      · obtain ⟨b1, off, z, rfl, hb, hs, hc, hz1, hz2⟩ := HJ2.out.at hlt
        rw [cnt_at hlt] at hs
        obtain rfl := Option.some.inj hs
        clear hs
        by_cases hin : lo ≤ ((L.count (k : Int) : Nat) : Int) ∧ ((L.count (k : Int) : Nat) : Int) ≤ hi
        · have HN := Lib.hid (btw_snoc HBT.out hin.1 hin.2)
          have HI := Lib.hid hin
          generalize L.count (k : Int) = c at hin hc hz1 hz2 HI
          clear hin
          go_wp2_with fail
          refine (in_yes (c : Int) lo hi _ HI.out.1 HI.out.2).mono ?_
          rintro e w' ⟨rfl, rfl⟩
          go_wp2
          go_roundw
          case rel => exact ⟨k + 1, by omega, by go_num, HN.out, by trivial⟩
          case measure => simp [intOf]; omega
        · have HN : Hid (cB (btwC q L lo hi) = false) := Lib.hid (cB_no (fun h => hin (h k hlt)))
          have HI := Lib.hid hin
          generalize L.count (k : Int) = c at hin hc hz1 hz2 HI
          clear hin
          go_wp2_with fail
          refine (in_no (c : Int) lo hi _ HI.out).mono ?_
          rintro e w' ⟨rfl, rfl⟩
          go_wp2
          go_ret
          exact ⟨ret_bool (by rw [HE.out, HN.out]), HB2.out⟩
      · have e : k = q := by omega
        subst e
        have HN : Hid (cB (btwC k L lo hi) = true) := Lib.hid (cB_yes HBT.out)
        go_wp2
        go_ret
        exact ⟨ret_bool (by rw [HE.out, HN.out]), HB2.out⟩
  · have HC := Lib.hid hc
    have HE : Hid (btwB s xs t ys lo hi = false) := Lib.hid (cB_no (fun h => hc h.1))
    clear hc
    obtain ⟨c0, c1, f0, f1⟩ := HX0.out.1.facts
    obtain ⟨d0, d1, g0, g1⟩ := HY0.out.1.facts
    go_enter Try.func31, Try.ntmps31
    go_wp2_with fail
    rw [← HW.out]
    refine (two_no s a n ca xs t b m cb ys _ HX0.out.2 hn HY0.out.2 hm HC.out).mono ?_
    rintro e w1 ⟨rfl, hb1⟩
    have HB1 := Lib.hid (HB0.out.trans (hb1.mono HB0.out.size))
    have HX1 := Lib.hid (HX0.out.keep hb1)
    have HY1 := Lib.hid (HY0.out.keep hb1)
    clear c0 c1 f0 f1 d0 d1 g0 g1 hb1
    obtain ⟨c0, c1, f0, f1⟩ := HX1.out.1.facts
    obtain ⟨d0, d1, g0, g1⟩ := HY1.out.1.facts
    go_wp2
    go_ret
    exact ⟨ret_bool HE.out.symm, HB1.out⟩




end Go.Proofs.Ytgmhdmhnedljcaa.Rhy
