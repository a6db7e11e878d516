/-
  Helpers of the claims beside this text: the program's GeneratedRhythm.
-/
import Derived.Test.YthcmpkhfimapgaaGnm
import Derived.Test.YthcmpkhfimapgaaEva
import Derived.Test.YthcmpkhfimapgaaStpA
namespace Go.Proofs.Ythcmpkhfimapgaa.Rhy
open Go.RowKit
set_option linter.unusedVariables false
set_option linter.unusedSimpArgs false

/-- The remainders as they come, sorted: a rhythm if no two are equal. -/
theorem genS_ok {n g : Int} {K : Nat} (h : 1 ≤ n ∧ n ≤ 24) : Ok n (sortZ (genP n g K)) ↔ (genP n g K).Nodup := by
  constructor
  · intro ho
    have hp := ok_sorted ho
    have hnd : (sortZ (genP n g K)).Nodup := hp.imp fun q => by omega
    exact (List.mergeSort_perm (genP n g K) _).nodup_iff.1 hnd
  · intro hnd
    have e := sort_ofZ (n := n.toNat) hnd (fun x hx => by
      obtain ⟨i, _, rfl⟩ := genP_mem.1 hx
      have := genT_bd h.1 g i
      omega)
    have e2 : sortZ (genP n g K) = ofZ n.toNat (genP n g K) := e
    rw [e2]
    refine ok_of h.1 h.2 (ofZ_sorted _ _) fun z hz => ?_
    have := (ofZ_mem.1 hz).1
    omega
theorem genS_eq {n g : Int} {K : Nat} (h : 1 ≤ n) (hnd : (genP n g K).Nodup) : sortZ (genP n g K) = genZ n K g := by
  have e := sort_ofZ (n := n.toNat) hnd (fun x hx => by
    obtain ⟨i, _, rfl⟩ := genP_mem.1 hx
    have := genT_bd h g i
    omega)
  unfold genZ
  rw [Int.toNat_natCast]
  exact e
theorem sort_int {l : List Int} (h : AllInt l) : AllInt (sortZ l) := fun z hz => h z ((List.mergeSort_perm l _).mem_iff.1 hz)

set_option maxHeartbeats 2000000 in
theorem gen_impl (n k g : Int) (w : World) (h1 : -9223372036854775808 ≤ n) (h2 : n ≤ 9223372036854775807) (h3 : -9223372036854775808 ≤ k) (h4 : k ≤ 9223372036854775807) (h5 : -9223372036854775808 ≤ g) (h6 : g ≤ 9223372036854775807) :
    Calls Try.prog 14 #[.int .i64 n, .int .i64 k, .int .i64 g] w (CPost (GenC n k g) n (genZ n k g) w) := by
  have HX := Lib.hid (box_new w (.int .i64 0) (.slice none 0 0) 26)
  by_cases ho : EvC k n
  · by_cases hg1 : 1 ≤ g
    · have e1 : decide (g < 1) = false := by simp; omega
      by_cases hg2 : g ≤ n
      · have e2 : decide (n < g) = false := by simp; omega
        have HE := Lib.hid ho
        obtain ⟨hn1, hn2, hk1, hk2⟩ := ho
        obtain ⟨K, rfl⟩ : ∃ K : Nat, k = K := ⟨k.toNat, by omega⟩
        have hK : K ≤ 24 := by omega
        obtain ⟨w1, hW⟩ : ∃ w1, w1 = w.alloc (.cells #[.int .i64 0, .slice none 0 0] 26) := ⟨_, rfl⟩
        have HW := Lib.hid hW
        have B1 := Lib.hid (show Below w.heap.size w w1 by rw [hW]; exact bel1 w _)
        have U1 := Lib.hid (show Box w1 w.heap.size (.int .i64 0) (.slice none 0 0) 26 by rw [hW]; exact box_new w _ _ _)
        have HSZ := Lib.hid (show w1.heap.size = w.heap.size + 1 by rw [hW]; simp)
        clear hW
        go_enter Try.func14, Try.ntmps14
        go_wp2_with fail
        refine (room_yes K n _ HE.out).mono ?_
        rintro e w' ⟨rfl, rfl⟩
        go_wp2
        rw [← HW.out, ← HSZ.out]
        go_loopw [27] (fun i wr => ∃ j : Nat, j ≤ K ∧ i = .int .i64 j ∧ LstAt n (genP n g j) w1 wr) (fun i _ => K - (intOf i).toNat)
        case atStart => exact ⟨0, by omega, rfl, lst_start n w1⟩
        case round =>
          obtain ⟨j, hj, rfl, hat⟩ := hrel
          obtain ⟨av, cv, hb0, hown, hnx, hsz⟩ := hat
          have hsl : (genP n g j).length ≤ 1048577 := by rw [genP_len]; omega
          have HN := Lib.hid (genP_snoc n g j)
          have HPI := Lib.hid (genP_int (n := n) (g := g) ⟨hn1, hn2⟩ j)
          have HPL := Lib.hid (genP_len n g j)
          obtain ⟨L, hL⟩ : ∃ L, genP n g j = L := ⟨_, rfl⟩
          rw [hL] at hb0 hown hsl HN HPI HPL
          have HL := Lib.hid hL
          have H0 := Lib.hid hb0
          have HO := Lib.hid hown
          have HX1 := Lib.hid hnx
          have HZ := Lib.hid hsz
          have lt0 := hb0.lt
          clear hb0 hown hnx hsz hL
          obtain ⟨c0, c1, f0, f1⟩ := H0.out.facts
          by_cases hlt : j < K
          · obtain ⟨p1, p2⟩ := prod24 (j := j) (g := g) (by omega) ⟨by omega, by omega⟩
            obtain ⟨t1, t2⟩ := genT_bd hn1 g j
            obtain ⟨t, ht⟩ : ∃ t, genT n g j = t := ⟨_, rfl⟩
            obtain ⟨p, hp⟩ : ∃ p : Int, (j : Int) * g = p := ⟨_, rfl⟩
            have HRB : Hid (remB p n = t) := Lib.hid (by rw [← ht, ← hp]; rfl)
            rw [ht] at t1 t2 HN
            rw [hp] at p1 p2
            have hw1 : IntKind.i64.wrap ((j : Int) * g) = p := by rw [hp]; exact IntWalk.i64_in _ ⟨by omega, by omega⟩
            have HA : Hid (∀ W, Calls Try.prog 52 #[.int .i64 p, .int .i64 n] W fun e w' => e = .returned (.int .i64 t) ∧ W = w') := Lib.hid (fun W => by
              have := around_any p n W (by omega) (by omega) (by omega) (by omega)
              rwa [HRB.out] at this)
            clear hp ht
            go_wp2
            go_region_law ((first
              | (go_simp; go_at_call 52; with_reducible refine (HA.out _).mono ?_; rintro e w' ⟨rfl, rfl⟩)
              | (rw [show (wr.alloc (.cells #[.int .i64 t] 3)).drew = wr.drew.alloc (.cells #[.int .i64 t] 3) from rfl]; refine step_append_int rfl _ _ rfl (w1.heap.size + 1) _ L t wr.drew (own_below HO.out (Below.refl _ _).drew) hsl HZ.out _ rfl rfl rfl ?_; intro a' c' w' hown' hb'; have HO2 := Lib.hid hown'; have HX2 := Lib.hid hb'; have hc1' := HX2.out.cell (p := ⟨w1.heap.size, 1, none⟩) (Nat.lt_succ_self _); have hf1' := HX2.out.frozen (p := ⟨w1.heap.size, 1, none⟩) (Nat.lt_succ_self _); clear hown' hb')))
            all_goals go_wp2
            all_goals go_roundw
            all_goals first
              | (refine ⟨j + 1, by omega, by go_num, ?_⟩
                 rw [HN.out]
                 have := lst_snoc H0.out HX1.out HZ.out HO2.out ((Below.refl (w1.heap.size + 1) wr).drew.trans HX2.out)
                 simpa using this)
              | (simp [intOf]; omega)
          · have e : j = K := by omega
            subst e
            have hlj : L.length ≤ 1048576 := by have := HPL.out; omega
            have b1 := B1.out.size
            have hbz := HZ.out
            clear c0 c1 f0 f1
            obtain ⟨c0, c1, f0, f1⟩ := H0.out.facts
            go_wp2_with fail
            refine (sort_own (w1.heap.size + 1) av L.length cv L wr HO.out hlj HZ.out).mono ?_
            rintro e w2 ⟨rfl, hown2, hb2⟩
            have HO2 := Lib.hid hown2
            have HX2 := Lib.hid (HX1.out.trans (hb2.mono (by omega)))
            have H2 := Lib.hid (H0.out.keep hb2 (by omega))
            have HU2 := Lib.hid (U1.out.keep HX2.out U1.out.lt)
            have hsz2 := hb2.size
            have HI2 : Hid (IntsAt w2 av L.length (sortZ L)) := Lib.hid (intsAt_own hown2 (sort_int HPI.out))
            clear hown2 hb2 c0 c1 f0 f1
            obtain ⟨c0, c1, f0, f1⟩ := H2.out.facts
            by_cases hnd : (genP n g j).Nodup
            · have HO3 : Hid (GenC n j g) := Lib.hid ⟨HE.out, ⟨hg1, hg2⟩, by rw [Int.toNat_natCast]; exact hnd⟩
              have HOK : Hid (Ok n (sortZ L)) := Lib.hid (by rw [← HL.out]; exact (genS_ok ⟨hn1, hn2⟩).2 hnd)
              have HEQ : Hid (genZ n j g = sortZ L) := Lib.hid (by rw [← HL.out]; exact (genS_eq hn1 hnd).symm)
              have HLS : Hid ((sortZ L).length = L.length) := Lib.hid (sortZ_len L)
              clear hnd
              go_wp2_with fail
              refine (valid_yes n av L.length cv (sortZ L) _ HI2.out hlj HOK.out).mono ?_
              rintro e w3 ⟨rfl, hb3⟩
              have HB3 := Lib.hid hb3
              have HU3 := Lib.hid (HU2.out.keep hb3 HU2.out.lt)
              have H3 := Lib.hid (H2.out.keep hb3 H2.out.lt)
              have HOw3 := Lib.hid (own_below HO2.out hb3)
              clear hb3 c0 c1 f0 f1
              obtain ⟨c0, c1, f0, f1⟩ := H3.out.facts
              obtain ⟨d0, d1, d2, d3⟩ := HU3.out.facts
              have dlt := HU3.out.lt
              go_wp2
              refine bodyPost_ret (v := .tuple #[rhy n av L.length cv, .bool true]) (by simp [results, Try.results14, go_sem, *]) rfl ?_
              rw [HEQ.out]
              refine cpost_yes HO3.out HLS.out ?_ ?_
              · exact own_base (ownsRow_setCell_below (ownsRow_setCell_below HOw3.out (by show w.heap.size < w1.heap.size + 1; omega) _) (by show w.heap.size < w1.heap.size + 1; omega) _) (by omega)
              · exact ((B1.out.trans ((HX2.out.trans (HB3.out.mono (by omega))).mono b1)).setCell (by show w.heap.size ≤ w.heap.size; omega) _).setCell (by show w.heap.size ≤ w.heap.size; omega) _
            · have HO3 : Hid (¬ GenC n j g) := Lib.hid (fun q => hnd (by have := q.2.2; rwa [Int.toNat_natCast] at this))
              have HOK : Hid (¬ Ok n (sortZ L)) := Lib.hid (by rw [← HL.out]; exact fun q => hnd ((genS_ok ⟨hn1, hn2⟩).1 q))
              clear hnd
              go_wp2_with fail
              refine (valid_no n av L.length cv (sortZ L) _ HI2.out hlj HOK.out).mono ?_
              rintro e w3 ⟨rfl, hb3⟩
              have HB3 := Lib.hid hb3
              have HU3 := Lib.hid (HU2.out.keep hb3 HU2.out.lt)
              clear hb3 c0 c1 f0 f1
              obtain ⟨d0, d1, d2, d3⟩ := HU3.out.facts
              have dlt := HU3.out.lt
              go_wp2
              refine bodyPost_ret (v := .tuple #[rhy 0 none 0 0, .bool false]) (by simp [results, Try.results14, go_sem, *]) rfl ?_
              refine cpost_no HO3.out ?_
              exact ((B1.out.trans ((HX2.out.trans (HB3.out.mono (by omega))).mono b1)).setCell (by show w.heap.size ≤ w.heap.size; omega) _).setCell (by show w.heap.size ≤ w.heap.size; omega) _
      · have e2 : decide (n < g) = true := by simp; omega
        have HE := Lib.hid ho
        have HO := Lib.hid (show ¬ GenC n k g from fun q => hg2 q.2.1.2)
        clear ho
        go_enter Try.func14, Try.ntmps14
        go_wp2_with fail
        refine (room_yes k n _ HE.out).mono ?_
        rintro e w' ⟨rfl, rfl⟩
        obtain ⟨c0, c1, c2, c3⟩ := HX.out.facts
        have lt0 := HX.out.lt
        go_wp2
        refine bodyPost_ret (v := .tuple #[rhy 0 none 0 0, .bool false]) (by simp [results, Try.results14, go_sem, *]) rfl ?_
        exact cpost_no HO.out (bel1 w _)
    · have e1 : decide (g < 1) = true := by simp; omega
      have HE := Lib.hid ho
      have HO := Lib.hid (show ¬ GenC n k g from fun q => hg1 q.2.1.1)
      clear ho
      go_enter Try.func14, Try.ntmps14
      go_wp2_with fail
      refine (room_yes k n _ HE.out).mono ?_
      rintro e w' ⟨rfl, rfl⟩
      obtain ⟨c0, c1, c2, c3⟩ := HX.out.facts
      have lt0 := HX.out.lt
      go_wp2
      refine bodyPost_ret (v := .tuple #[rhy 0 none 0 0, .bool false]) (by simp [results, Try.results14, go_sem, *]) rfl ?_
      exact cpost_no HO.out (bel1 w _)
  · have HE := Lib.hid ho
    have HO := Lib.hid (show ¬ GenC n k g from fun q => ho q.1)
    clear ho
    go_enter Try.func14, Try.ntmps14
    go_wp2_with fail
    refine (room_no k n _ HE.out).mono ?_
    rintro e w' ⟨rfl, rfl⟩
    obtain ⟨c0, c1, c2, c3⟩ := HX.out.facts
    have lt0 := HX.out.lt
    go_wp2
    refine bodyPost_ret (v := .tuple #[rhy 0 none 0 0, .bool false]) (by simp [results, Try.results14, go_sem, *]) rfl ?_
    exact cpost_no HO.out (bel1 w _)
end Go.Proofs.Ythcmpkhfimapgaa.Rhy

/-
  Helpers of the claims beside this text: the program's HasTwoSizes, CountSizes, IsSumOfSizes.
-/
namespace Go.Proofs.Ythcmpkhfimapgaa.Rhy
open Go.RowKit
set_option linter.unusedVariables false
set_option linter.unusedSimpArgs false

set_option maxHeartbeats 1000000 in
theorem hasTwo_any (s : Int) (a : Option Addr) (cap : Nat) (zs : List Int) (w : World) (h : IntsAt w a zs.length zs) (ho : Ok s zs) (h2 : 2 ≤ zs.length) :
    Calls Try.prog 66 #[rhy s a zs.length cap] w fun e w' => e = .returned (.bool (htB s zs)) ∧ Below w.heap.size w w' := by
  have HS := Lib.hid h
  have HO := Lib.hid ho
  have hl24 := ok_len ho
  clear h ho
  obtain ⟨q, hq⟩ : ∃ q, htB s zs = q := ⟨_, rfl⟩
  have HQ := Lib.hid hq
  clear hq
  rw [HQ.out]
  obtain ⟨w1, hW⟩ : ∃ w1, w1 = w.alloc (.cells #[.int .i64 s, .slice a zs.length cap] 26) := ⟨_, rfl⟩
  have HW := Lib.hid hW
  have HT : Hid (Two w1 w.heap.size (.int .i64 s) (.slice a zs.length cap)) := Lib.hid (by rw [hW]; exact two_new w _ _ _)
  have HB : Hid (Below w.heap.size w w1) := Lib.hid (by rw [hW]; exact bel1 w _)
  clear hW
  obtain ⟨t1, t1a, t1b⟩ := HT.out
  go_enter Try.func66, Try.ntmps66
  go_wp2_with fail
  rw [← HW.out]
  go_loopw [3] (fun i wr => ∃ k : Nat, 1 ≤ k ∧ k ≤ 25 ∧ i = .int .i64 k ∧ Hid (∀ j : Nat, 1 ≤ j → j < k → j < zs.length → (spansB s zs j).length = 2) ∧ Below w1.heap.size w1 wr) (fun i _ => 25 - (intOf i).toNat)
  case atStart => exact ⟨1, by omega, by omega, rfl, Lib.hid (fun j h1 h2 => absurd h2 (by omega)), Below.refl _ _⟩
  case round =>
    clear t1 t1a t1b
    obtain ⟨k, hk1, hk25, rfl, HEV, hbl⟩ := hrel
    have HX := Lib.hid hbl
    have HTr := Lib.hid (HT.out.keep hbl)
    obtain ⟨t1, t1a, t1b⟩ := HTr.out
    have HIr : Hid (IntsAt wr a zs.length zs) := Lib.hid (HS.out.below (HB.out.trans (hbl.mono HB.out.size)))
    clear hbl
    by_cases hlt : k < zs.length
    · go_wp2_with fail
      refine (spans_impl s a zs.length cap zs k wr HIr.out (by omega) (by omega) (by omega)).mono ?_
      rintro e w2 ⟨b, c, rfl, hown, hb⟩
      obtain ⟨m, hme⟩ : ∃ m, (spansB s zs k).length = m := ⟨_, rfl⟩
      have HM := Lib.hid hme
      have HB2 := Lib.hid (HX.out.trans (hb.mono HX.out.size))
      rw [hme]
      clear hown hb hme
      by_cases hd : m = 2
      · subst hd
        go_wp2
        go_roundw
        case rel =>
          refine ⟨k + 1, by omega, by omega, by go_num, Lib.hid (fun j h1 h2 h3 => ?_), HB2.out⟩
          rcases Nat.lt_or_ge j k with q1 | q1
          · exact HEV.out j h1 q1 h3
          · obtain rfl : j = k := by omega
            exact HM.out
        case measure => simp [intOf]; omega
      · have hdb : ((m : Int) == 2) = false := by rw [beq_eq_false_iff_ne]; omega
        have HQF : Hid (q = false) := Lib.hid (by
          rw [← HQ.out]
          exact htB_no (fun hq => hd (by rw [← HM.out]; exact hq.2.2 k hk1 hlt)))
        go_wp2
        go_ret
        exact ⟨by rw [HQF.out]; rfl, HB.out.trans (HB2.out.mono HB.out.size)⟩
    · have HQT : Hid (q = true) := Lib.hid (by
        rw [← HQ.out]
        exact htB_yes ⟨HO.out, h2, fun j h1 h2 => HEV.out j h1 (by omega) h2⟩)
      go_wp2
      go_ret
      exact ⟨by rw [HQT.out]; rfl, HB.out.trans (HX.out.mono HB.out.size)⟩

set_option maxHeartbeats 400000 in
theorem hts_impl (s : Int) (a : Option Addr) (len cap : Nat) (zs : List Int) (w : World) (h : IntsAt w a len zs) (hm : zs.length ≤ 1048576) :
    Calls Try.prog 30 #[rhy s a len cap] w fun e w' => e = .returned (.bool (htB s zs)) ∧ Below w.heap.size w w' := by
  have HS := Lib.hid h
  obtain rfl : zs.length = len := h.len
  clear h
  by_cases hc : Ok s zs ∧ 2 ≤ zs.length
  · have HO := Lib.hid hc.1
    have h2 := hc.2
    have HC := Lib.hid (countB_yes hc.1)
    have hd2 : decide ((2 : Int) ≤ (zs.length : Int)) = true := decide_eq_true (by omega)
    have hd3 : decide (2 ≤ zs.length) = true := decide_eq_true h2
    clear hc
    obtain ⟨q, hq⟩ : ∃ q, htB s zs = q := ⟨_, rfl⟩
    have HQ := Lib.hid hq
    rw [hq]
    clear hq
    go_enter Try.func30, Try.ntmps30
    go_wp2_with fail
    refine (count_impl s a zs.length cap zs _ (HS.out.below (bel1 w _)) hm).mono ?_
    rintro e w1 ⟨rfl, hb1⟩
    rw [HC.out]
    have HB := Lib.hid ((bel1 w (.cells #[.int .i64 s, .slice a zs.length cap] 26)).trans (hb1.mono (by simp)))
    have HT := Lib.hid ((two_new w (.int .i64 s) (.slice a zs.length cap) 26).keep hb1)
    obtain ⟨t1, t1a, t1b⟩ := HT.out
    clear hb1
    go_wp2_with fail
    refine (hasTwo_any s a cap zs _ (HS.out.below HB.out) HO.out h2).mono ?_
    rintro e w2 ⟨rfl, hb2⟩
    have HB2 := Lib.hid (HB.out.trans (hb2.mono HB.out.size))
    rw [HQ.out]
    clear hb2
    go_wp2
    go_ret
    exact ⟨rfl, HB2.out⟩
  · have HE := Lib.hid (htB_no (s := s) (zs := zs) (fun x => hc ⟨x.1, x.2.1⟩))
    obtain ⟨c, hcc⟩ : ∃ c, countB s zs = c := ⟨_, rfl⟩
    have hc2 : c < 2 := by
      rw [← hcc]
      by_cases ho : Ok s zs
      · rw [countB_yes ho]
        have : ¬ 2 ≤ zs.length := fun q => hc ⟨ho, q⟩
        omega
      · rw [countB_no ho]; omega
    have HC := Lib.hid hcc
    have hd2 : decide ((2 : Int) ≤ c) = false := decide_eq_false (by omega)
    clear hc hcc
    rw [HE.out]
    go_enter Try.func30, Try.ntmps30
    go_wp2_with fail
    refine (count_impl s a zs.length cap zs _ (HS.out.below (bel1 w _)) hm).mono ?_
    rintro e w1 ⟨rfl, hb1⟩
    rw [HC.out]
    have HB := Lib.hid ((bel1 w (.cells #[.int .i64 s, .slice a zs.length cap] 26)).trans (hb1.mono (by simp)))
    have HT := Lib.hid ((two_new w (.int .i64 s) (.slice a zs.length cap) 26).keep hb1)
    obtain ⟨t1, t1a, t1b⟩ := HT.out
    clear hb1
    go_wp2
    go_ret
    exact ⟨rfl, HB.out⟩

theorem csz_impl (s : Int) (a : Option Addr) (len cap : Nat) (zs : List Int) (w : World) (h : IntsAt w a len zs) (hm : zs.length ≤ 1048576) :
    Calls Try.prog 23 #[rhy s a len cap] w fun e w' => e = .returned (.int .i64 (csB s zs)) ∧ Below w.heap.size w w' := by
  have HS := Lib.hid h
  clear h
  go_enter Try.func23, Try.ntmps23
  go_wp2_with fail
  refine (sizes_impl s a len cap zs _ (HS.out.below (bel1 w _)) hm).mono ?_
  rintro e w1 ⟨a1, c1, rfl, hown, hb1⟩
  have HB := Lib.hid ((bel1 w (.cells #[.int .i64 s, .slice a len cap] 26)).trans (hb1.mono (by simp)))
  clear hown hb1
  go_wp2
  go_ret
  exact ⟨rfl, HB.out⟩

set_option maxHeartbeats 2000000 in
set_option maxRecDepth 100000 in
theorem ssz_impl (s : Int) (a : Option Addr) (len cap : Nat) (zs : List Int) (w : World) (h : IntsAt w a len zs) (hm : zs.length ≤ 1048576) :
    Calls Try.prog 24 #[rhy s a len cap] w fun e w' => e = .returned (.bool (smB (sizeB s zs))) ∧ Below w.heap.size w w' := by
  have HS := Lib.hid h
  clear h
  have hL25 := sizeB_len s zs
  have hLB : ∀ x ∈ sizeB s zs, 0 ≤ x ∧ x < 25 := fun x hx => by
    have := (ofZ_mem.1 hx).1
    omega
  have HLI := Lib.hid (sizeB_int s zs)
  obtain ⟨L, hL⟩ : ∃ L, sizeB s zs = L := ⟨_, rfl⟩
  rw [hL] at hL25 hLB HLI ⊢
  have HLL := Lib.hid hL
  have HLB := Lib.hid hLB
  clear hL hLB
  obtain ⟨q, hq⟩ : ∃ q, smB L = q := ⟨_, rfl⟩
  have HQ := Lib.hid hq
  rw [hq]
  clear hq
  go_enter Try.func24, Try.ntmps24
  go_wp2_with fail
  refine (sizes_impl s a len cap zs _ (HS.out.below (bel1 w _)) hm).mono ?_
  rintro e w1 ⟨av, cv, rfl, hown, hb1⟩
  rw [HLL.out] at hown ⊢
  have HB := Lib.hid ((bel1 w (.cells #[.int .i64 s, .slice a len cap] 26)).trans (hb1.mono (by simp)))
  have HI : Hid (IntsAt w1 av L.length L) := Lib.hid (intsAt_own hown HLI.out)
  clear hown hb1
  by_cases h2 : L.length ≤ 2
  · have HE : Hid (q = true) := Lib.hid (by rw [← HQ.out]; unfold smB; rw [decide_eq_true h2]; rfl)
    have hd : decide ((L.length : Int) ≤ 2) = true := decide_eq_true (by omega)
    go_wp2
    refine wp_region_held_drew (S := fun _ => True) (by kernel_rfl) trivial (fun hSS0 => ?_)
    refine wpAnyH_take (i := 0) (oi := ⟨some 6, _, _, _, _, _⟩) (v := .slice av L.length cv) rfl (by kernel_rfl) (by kernel_rfl) (by kernel_rfl) (fun _ _ _ h => h) (Or.inl ⟨by rfl, fun w' hSw => by go_simp⟩) (by assumption) ?_
    try simp only [Act.put, List.setIfInBounds_toArray, List.set_cons_zero, List.set_cons_succ]
    refine wpAnyH_take (i := 1) (oi := ⟨some 7, _, _, _, _, _⟩) (v := .int .i64 (L.length : Nat)) rfl (by kernel_rfl) (by kernel_rfl) (by kernel_rfl) (fun _ _ _ h => h) (Or.inl ⟨by rfl, fun w' hSw => by go_simp⟩) (by assumption) ?_
    try simp only [Act.put, List.setIfInBounds_toArray, List.set_cons_zero, List.set_cons_succ]
    refine wpAnyH_take (i := 2) (oi := ⟨some 8, _, _, _, _, _⟩) (v := .bool true) rfl (by kernel_rfl) (by kernel_rfl) (by kernel_rfl) (fun _ _ _ h => h) (Or.inl ⟨by rfl, fun w' hSw => by go_simp⟩) (by assumption) ?_
    try simp only [Act.put, List.setIfInBounds_toArray, List.set_cons_zero, List.set_cons_succ]
    refine wpAnyH_take (i := 3) (oi := ⟨some 9, _, _, _, _, _⟩) (v := .bool true) rfl (by kernel_rfl) (by kernel_rfl) (by kernel_rfl) (fun _ _ _ h => h) (Or.inl ⟨by rfl, fun w' hSw => by go_simp⟩) (by assumption) ?_
    try simp only [Act.put, List.setIfInBounds_toArray, List.set_cons_zero, List.set_cons_succ]
    refine wpAnyH_take (i := 4) (oi := ⟨some 10, _, _, _, _, _⟩) (v := undef) rfl (by kernel_rfl) (by kernel_rfl) (by kernel_rfl) (fun _ _ _ h => h) (Or.inr ⟨by rfl, rfl⟩) (by assumption) ?_
    try simp only [Act.put, List.setIfInBounds_toArray, List.set_cons_zero, List.set_cons_succ]
    refine wpAnyH_take (i := 5) (oi := ⟨some 11, _, _, _, _, _⟩) (v := undef) rfl (by kernel_rfl) (by kernel_rfl) (by kernel_rfl) (fun _ _ _ h => h) (Or.inr ⟨by rfl, rfl⟩) (by assumption) ?_
    try simp only [Act.put, List.setIfInBounds_toArray, List.set_cons_zero, List.set_cons_succ]
    refine wpAnyH_take (i := 6) (oi := ⟨some 12, _, _, _, _, _⟩) (v := undef) rfl (by kernel_rfl) (by kernel_rfl) (by kernel_rfl) (fun _ _ _ h => h) (Or.inr ⟨by rfl, rfl⟩) (by assumption) ?_
    try simp only [Act.put, List.setIfInBounds_toArray, List.set_cons_zero, List.set_cons_succ]
    refine wpAnyH_take (i := 7) (oi := ⟨some 13, _, _, _, _, _⟩) (v := undef) rfl (by kernel_rfl) (by kernel_rfl) (by kernel_rfl) (fun _ _ _ h => h) (Or.inr ⟨by rfl, rfl⟩) (by assumption) ?_
    try simp only [Act.put, List.setIfInBounds_toArray, List.set_cons_zero, List.set_cons_succ]
    refine wpAnyH_take (i := 8) (oi := ⟨some 14, _, _, _, _, _⟩) (v := undef) rfl (by kernel_rfl) (by kernel_rfl) (by kernel_rfl) (fun _ _ _ h => h) (Or.inr ⟨by rfl, rfl⟩) (by assumption) ?_
    try simp only [Act.put, List.setIfInBounds_toArray, List.set_cons_zero, List.set_cons_succ]
    refine wpAnyH_take (i := 9) (oi := ⟨some 15, _, _, _, _, _⟩) (v := undef) rfl (by kernel_rfl) (by kernel_rfl) (by kernel_rfl) (fun _ _ _ h => h) (Or.inr ⟨by rfl, rfl⟩) (by assumption) ?_
    try simp only [Act.put, List.setIfInBounds_toArray, List.set_cons_zero, List.set_cons_succ]
    refine wpAnyH_take (i := 10) (oi := ⟨some 16, _, _, _, _, _⟩) (v := undef) rfl (by kernel_rfl) (by kernel_rfl) (by kernel_rfl) (fun _ _ _ h => h) (Or.inr ⟨by rfl, rfl⟩) (by assumption) ?_
    try simp only [Act.put, List.setIfInBounds_toArray, List.set_cons_zero, List.set_cons_succ]
    refine wpAnyH_take (i := 11) (oi := ⟨some 17, _, _, _, _, _⟩) (v := undef) rfl (by kernel_rfl) (by kernel_rfl) (by kernel_rfl) (fun _ _ _ h => h) (Or.inr ⟨by rfl, rfl⟩) (by assumption) ?_
    try simp only [Act.put, List.setIfInBounds_toArray, List.set_cons_zero, List.set_cons_succ]
    refine wpAnyH_take (i := 12) (oi := ⟨some 18, _, _, _, _, _⟩) (v := undef) rfl (by kernel_rfl) (by kernel_rfl) (by kernel_rfl) (fun _ _ _ h => h) (Or.inr ⟨by rfl, rfl⟩) (by assumption) ?_
    try simp only [Act.put, List.setIfInBounds_toArray, List.set_cons_zero, List.set_cons_succ]
    refine wpAnyH_take (i := 13) (oi := ⟨some 19, _, _, _, _, _⟩) (v := undef) rfl (by kernel_rfl) (by kernel_rfl) (by kernel_rfl) (fun _ _ _ h => h) (Or.inr ⟨by rfl, rfl⟩) (by assumption) ?_
    try simp only [Act.put, List.setIfInBounds_toArray, List.set_cons_zero, List.set_cons_succ]
    refine wpAnyH_take (i := 14) (oi := ⟨some 20, _, _, _, _, _⟩) (v := undef) rfl (by kernel_rfl) (by kernel_rfl) (by kernel_rfl) (fun _ _ _ h => h) (Or.inr ⟨by rfl, rfl⟩) (by assumption) ?_
    try simp only [Act.put, List.setIfInBounds_toArray, List.set_cons_zero, List.set_cons_succ]
    refine wpAnyH_take (i := 15) (oi := ⟨some 21, _, _, _, _, _⟩) (v := undef) rfl (by kernel_rfl) (by kernel_rfl) (by kernel_rfl) (fun _ _ _ h => h) (Or.inr ⟨by rfl, rfl⟩) (by assumption) ?_
    try simp only [Act.put, List.setIfInBounds_toArray, List.set_cons_zero, List.set_cons_succ]
    refine wpAnyH_take (i := 16) (oi := ⟨some 22, _, _, _, _, _⟩) (v := undef) rfl (by kernel_rfl) (by kernel_rfl) (by kernel_rfl) (fun _ _ _ h => h) (Or.inr ⟨by rfl, rfl⟩) (by assumption) ?_
    try simp only [Act.put, List.setIfInBounds_toArray, List.set_cons_zero, List.set_cons_succ]
    refine wpAnyH_take (i := 17) (oi := ⟨some 23, _, _, _, _, _⟩) (v := undef) rfl (by kernel_rfl) (by kernel_rfl) (by kernel_rfl) (fun _ _ _ h => h) (Or.inr ⟨by rfl, rfl⟩) (by assumption) ?_
    try simp only [Act.put, List.setIfInBounds_toArray, List.set_cons_zero, List.set_cons_succ]
    refine wpAnyH_take (i := 18) (oi := ⟨some 24, _, _, _, _, _⟩) (v := undef) rfl (by kernel_rfl) (by kernel_rfl) (by kernel_rfl) (fun _ _ _ h => h) (Or.inr ⟨by rfl, rfl⟩) (by assumption) ?_
    try simp only [Act.put, List.setIfInBounds_toArray, List.set_cons_zero, List.set_cons_succ]
    refine wpAnyH_take (i := 19) (oi := ⟨some 25, _, _, _, _, _⟩) (v := undef) rfl (by kernel_rfl) (by kernel_rfl) (by kernel_rfl) (fun _ _ _ h => h) (Or.inr ⟨by rfl, rfl⟩) (by assumption) ?_
    try simp only [Act.put, List.setIfInBounds_toArray, List.set_cons_zero, List.set_cons_succ]
    refine wpAnyH_take (i := 20) (oi := ⟨some 26, _, _, _, _, _⟩) (v := .bool true) rfl (by kernel_rfl) (by kernel_rfl) (by kernel_rfl) (fun _ _ _ h => h) (Or.inl ⟨by rfl, fun w' hSw => by go_simp⟩) (by assumption) ?_
    try simp only [Act.put, List.setIfInBounds_toArray, List.set_cons_zero, List.set_cons_succ]
    refine wpAnyH_take (i := 21) (oi := ⟨some 2, _, _, _, _, _⟩) (v := .bool true) rfl (by kernel_rfl) (by kernel_rfl) (by kernel_rfl) (fun _ _ _ h => h) (Or.inl ⟨by rfl, fun w' hSw => by go_simp⟩) (by assumption) ?_
    try simp only [Act.put, List.setIfInBounds_toArray, List.set_cons_zero, List.set_cons_succ]
    refine wpAnyH_done (by kernel_rfl) ?_ _
    go_wp2
    go_ret
    exact ⟨by rw [HE.out]; rfl, HB.out.drew⟩
  · by_cases h3 : L.length = 3
    · obtain ⟨b, off, x, rfl, hb, hx, hcx, hx1, hx2⟩ := HI.out.at (k := 0) (by omega)
      obtain ⟨b', off', y, he, hb', hy, hcy, hy1, hy2⟩ := HI.out.at (k := 1) (by omega)
      cases he
      obtain ⟨b', off', z, he, hb', hz, hcz, hz1, hz2⟩ := HI.out.at (k := 2) (by omega)
      cases he
      have hxb := HLB.out x (List.mem_of_getElem? hx)
      have hyb := HLB.out y (List.mem_of_getElem? hy)
      have HE : Hid (q = (x + y == z)) := Lib.hid (by
        rw [← HQ.out]
        unfold smB
        rw [decide_eq_false h2, decide_eq_true h3, hx, hy, hz]
        rfl)
      have hw : IntKind.i64.wrap (x + y) = x + y := IntWalk.i64_in _ ⟨by omega, by omega⟩
      have hd : decide ((L.length : Int) ≤ 2) = false := decide_eq_false (by omega)
      rw [h3]
      have hcx : w1.cell? ⟨b, off, none⟩ = some (.int .i64 x) := hcx
      clear hx hy hz hxb hyb hd h2 h3
      go_wp2
      refine wp_region_held_drew (S := fun W' => W'.cell? ⟨b, off, none⟩ = some (.int .i64 x) ∧ W'.cell? ⟨b, off + 1, none⟩ = some (.int .i64 y) ∧ W'.cell? ⟨b, off + 2, none⟩ = some (.int .i64 z)) (by kernel_rfl) ⟨hcx, hcy, hcz⟩ (fun hSS0 => ?_)
      refine wpAnyH_take (i := 0) (oi := ⟨some 6, _, _, _, _, _⟩) (v := .slice (some ⟨b, off, none⟩) 3 cv) rfl (by kernel_rfl) (by kernel_rfl) (by kernel_rfl) (fun _ _ _ h => h) (Or.inl ⟨by rfl, fun w' hSw => by go_simp⟩) (by assumption) ?_
      try simp only [Act.put, List.setIfInBounds_toArray, List.set_cons_zero, List.set_cons_succ]
      refine wpAnyH_take (i := 1) (oi := ⟨some 7, _, _, _, _, _⟩) (v := .int .i64 3) rfl (by kernel_rfl) (by kernel_rfl) (by kernel_rfl) (fun _ _ _ h => h) (Or.inl ⟨by rfl, fun w' hSw => by go_simp⟩) (by assumption) ?_
      try simp only [Act.put, List.setIfInBounds_toArray, List.set_cons_zero, List.set_cons_succ]
      refine wpAnyH_take (i := 2) (oi := ⟨some 8, _, _, _, _, _⟩) (v := .bool false) rfl (by kernel_rfl) (by kernel_rfl) (by kernel_rfl) (fun _ _ _ h => h) (Or.inl ⟨by rfl, fun w' hSw => by go_simp⟩) (by assumption) ?_
      try simp only [Act.put, List.setIfInBounds_toArray, List.set_cons_zero, List.set_cons_succ]
      refine wpAnyH_take (i := 3) (oi := ⟨some 9, _, _, _, _, _⟩) (v := .bool false) rfl (by kernel_rfl) (by kernel_rfl) (by kernel_rfl) (fun _ _ _ h => h) (Or.inl ⟨by rfl, fun w' hSw => by go_simp⟩) (by assumption) ?_
      try simp only [Act.put, List.setIfInBounds_toArray, List.set_cons_zero, List.set_cons_succ]
      refine wpAnyH_take (i := 4) (oi := ⟨some 10, _, _, _, _, _⟩) (v := .slice (some ⟨b, off, none⟩) 3 cv) rfl (by kernel_rfl) (by kernel_rfl) (by kernel_rfl) (fun _ _ _ h => h) (Or.inl ⟨by rfl, fun w' hSw => by go_simp⟩) (by assumption) ?_
      try simp only [Act.put, List.setIfInBounds_toArray, List.set_cons_zero, List.set_cons_succ]
      refine wpAnyH_take (i := 5) (oi := ⟨some 11, _, _, _, _, _⟩) (v := .int .i64 3) rfl (by kernel_rfl) (by kernel_rfl) (by kernel_rfl) (fun _ _ _ h => h) (Or.inl ⟨by rfl, fun w' hSw => by go_simp⟩) (by assumption) ?_
      try simp only [Act.put, List.setIfInBounds_toArray, List.set_cons_zero, List.set_cons_succ]
      refine wpAnyH_take (i := 6) (oi := ⟨some 12, _, _, _, _, _⟩) (v := .bool true) rfl (by kernel_rfl) (by kernel_rfl) (by kernel_rfl) (fun _ _ _ h => h) (Or.inl ⟨by rfl, fun w' hSw => by go_simp⟩) (by assumption) ?_
      try simp only [Act.put, List.setIfInBounds_toArray, List.set_cons_zero, List.set_cons_succ]
      refine wpAnyH_take (i := 7) (oi := ⟨some 13, _, _, _, _, _⟩) (v := .bool true) rfl (by kernel_rfl) (by kernel_rfl) (by kernel_rfl) (fun _ _ _ h => h) (Or.inl ⟨by rfl, fun w' hSw => by go_simp⟩) (by assumption) ?_
      try simp only [Act.put, List.setIfInBounds_toArray, List.set_cons_zero, List.set_cons_succ]
      refine wpAnyH_take (i := 8) (oi := ⟨some 14, _, _, _, _, _⟩) (v := .slice (some ⟨b, off, none⟩) 3 cv) rfl (by kernel_rfl) (by kernel_rfl) (by kernel_rfl) (fun _ _ _ h => h) (Or.inl ⟨by rfl, fun w' hSw => by go_simp⟩) (by assumption) ?_
      try simp only [Act.put, List.setIfInBounds_toArray, List.set_cons_zero, List.set_cons_succ]
      refine wpAnyH_take (i := 9) (oi := ⟨some 15, _, _, _, _, _⟩) (v := .pointer (some ⟨b, off, none⟩)) rfl (by kernel_rfl) (by kernel_rfl) (by kernel_rfl) (fun _ _ _ h => h) (Or.inl ⟨by rfl, fun w' hSw => by go_simp⟩) (by assumption) ?_
      try simp only [Act.put, List.setIfInBounds_toArray, List.set_cons_zero, List.set_cons_succ]
      refine wpAnyH_take (i := 10) (oi := ⟨some 16, _, _, _, _, _⟩) (v := .int .i64 x) rfl (by kernel_rfl) (by kernel_rfl) (by kernel_rfl) (fun _ _ _ h => h) (Or.inl ⟨by rfl, fun w' hSw => by obtain ⟨q1, _⟩ := hSw; go_simp⟩) (by assumption) ?_
      try simp only [Act.put, List.setIfInBounds_toArray, List.set_cons_zero, List.set_cons_succ]
      refine wpAnyH_take (i := 11) (oi := ⟨some 17, _, _, _, _, _⟩) (v := .slice (some ⟨b, off, none⟩) 3 cv) rfl (by kernel_rfl) (by kernel_rfl) (by kernel_rfl) (fun _ _ _ h => h) (Or.inl ⟨by rfl, fun w' hSw => by go_simp⟩) (by assumption) ?_
      try simp only [Act.put, List.setIfInBounds_toArray, List.set_cons_zero, List.set_cons_succ]
      refine wpAnyH_take (i := 12) (oi := ⟨some 18, _, _, _, _, _⟩) (v := .pointer (some ⟨b, off + 1, none⟩)) rfl (by kernel_rfl) (by kernel_rfl) (by kernel_rfl) (fun _ _ _ h => h) (Or.inl ⟨by rfl, fun w' hSw => by go_simp⟩) (by assumption) ?_
      try simp only [Act.put, List.setIfInBounds_toArray, List.set_cons_zero, List.set_cons_succ]
      refine wpAnyH_take (i := 13) (oi := ⟨some 19, _, _, _, _, _⟩) (v := .int .i64 y) rfl (by kernel_rfl) (by kernel_rfl) (by kernel_rfl) (fun _ _ _ h => h) (Or.inl ⟨by rfl, fun w' hSw => by obtain ⟨_, q1, _⟩ := hSw; go_simp⟩) (by assumption) ?_
      try simp only [Act.put, List.setIfInBounds_toArray, List.set_cons_zero, List.set_cons_succ]
      refine wpAnyH_take (i := 14) (oi := ⟨some 20, _, _, _, _, _⟩) (v := .int .i64 (x + y)) rfl (by kernel_rfl) (by kernel_rfl) (by kernel_rfl) (fun _ _ _ h => h) (Or.inl ⟨by rfl, fun w' hSw => by go_simp⟩) (by assumption) ?_
      try simp only [Act.put, List.setIfInBounds_toArray, List.set_cons_zero, List.set_cons_succ]
      refine wpAnyH_take (i := 15) (oi := ⟨some 21, _, _, _, _, _⟩) (v := .slice (some ⟨b, off, none⟩) 3 cv) rfl (by kernel_rfl) (by kernel_rfl) (by kernel_rfl) (fun _ _ _ h => h) (Or.inl ⟨by rfl, fun w' hSw => by go_simp⟩) (by assumption) ?_
      try simp only [Act.put, List.setIfInBounds_toArray, List.set_cons_zero, List.set_cons_succ]
      refine wpAnyH_take (i := 16) (oi := ⟨some 22, _, _, _, _, _⟩) (v := .pointer (some ⟨b, off + 2, none⟩)) rfl (by kernel_rfl) (by kernel_rfl) (by kernel_rfl) (fun _ _ _ h => h) (Or.inl ⟨by rfl, fun w' hSw => by go_simp⟩) (by assumption) ?_
      try simp only [Act.put, List.setIfInBounds_toArray, List.set_cons_zero, List.set_cons_succ]
      refine wpAnyH_take (i := 17) (oi := ⟨some 23, _, _, _, _, _⟩) (v := .int .i64 z) rfl (by kernel_rfl) (by kernel_rfl) (by kernel_rfl) (fun _ _ _ h => h) (Or.inl ⟨by rfl, fun w' hSw => by obtain ⟨_, _, q1⟩ := hSw; go_simp⟩) (by assumption) ?_
      try simp only [Act.put, List.setIfInBounds_toArray, List.set_cons_zero, List.set_cons_succ]
      refine wpAnyH_take (i := 18) (oi := ⟨some 24, _, _, _, _, _⟩) (v := .bool (x + y == z)) rfl (by kernel_rfl) (by kernel_rfl) (by kernel_rfl) (fun _ _ _ h => h) (Or.inl ⟨by rfl, fun w' hSw => by go_simp⟩) (by assumption) ?_
      try simp only [Act.put, List.setIfInBounds_toArray, List.set_cons_zero, List.set_cons_succ]
      refine wpAnyH_take (i := 19) (oi := ⟨some 25, _, _, _, _, _⟩) (v := .bool (x + y == z)) rfl (by kernel_rfl) (by kernel_rfl) (by kernel_rfl) (fun _ _ _ h => h) (Or.inl ⟨by rfl, fun w' hSw => by go_simp⟩) (by assumption) ?_
      try simp only [Act.put, List.setIfInBounds_toArray, List.set_cons_zero, List.set_cons_succ]
      refine wpAnyH_take (i := 20) (oi := ⟨some 26, _, _, _, _, _⟩) (v := .bool (x + y == z)) rfl (by kernel_rfl) (by kernel_rfl) (by kernel_rfl) (fun _ _ _ h => h) (Or.inl ⟨by rfl, fun w' hSw => by go_simp⟩) (by assumption) ?_
      try simp only [Act.put, List.setIfInBounds_toArray, List.set_cons_zero, List.set_cons_succ]
      refine wpAnyH_take (i := 21) (oi := ⟨some 2, _, _, _, _, _⟩) (v := .bool (x + y == z)) rfl (by kernel_rfl) (by kernel_rfl) (by kernel_rfl) (fun _ _ _ h => h) (Or.inl ⟨by rfl, fun w' hSw => by go_simp⟩) (by assumption) ?_
      try simp only [Act.put, List.setIfInBounds_toArray, List.set_cons_zero, List.set_cons_succ]
      refine wpAnyH_done (by kernel_rfl) ?_ _
      go_wp2
      go_ret
      exact ⟨by rw [HE.out]; rfl, HB.out.drew⟩
    · have HE : Hid (q = false) := Lib.hid (by rw [← HQ.out]; unfold smB; rw [decide_eq_false h2, decide_eq_false h3]; rfl)
      have hd : decide ((L.length : Int) ≤ 2) = false := decide_eq_false (by omega)
      have hd3 : ((L.length : Int) == 3) = false := by rw [beq_eq_false_iff_ne]; omega
      go_wp2
      refine wp_region_held_drew (S := fun _ => True) (by kernel_rfl) trivial (fun hSS0 => ?_)
      refine wpAnyH_take (i := 0) (oi := ⟨some 6, _, _, _, _, _⟩) (v := .slice av L.length cv) rfl (by kernel_rfl) (by kernel_rfl) (by kernel_rfl) (fun _ _ _ h => h) (Or.inl ⟨by rfl, fun w' hSw => by go_simp⟩) (by assumption) ?_
      try simp only [Act.put, List.setIfInBounds_toArray, List.set_cons_zero, List.set_cons_succ]
      refine wpAnyH_take (i := 1) (oi := ⟨some 7, _, _, _, _, _⟩) (v := .int .i64 (L.length : Nat)) rfl (by kernel_rfl) (by kernel_rfl) (by kernel_rfl) (fun _ _ _ h => h) (Or.inl ⟨by rfl, fun w' hSw => by go_simp⟩) (by assumption) ?_
      try simp only [Act.put, List.setIfInBounds_toArray, List.set_cons_zero, List.set_cons_succ]
      refine wpAnyH_take (i := 2) (oi := ⟨some 8, _, _, _, _, _⟩) (v := .bool false) rfl (by kernel_rfl) (by kernel_rfl) (by kernel_rfl) (fun _ _ _ h => h) (Or.inl ⟨by rfl, fun w' hSw => by go_simp⟩) (by assumption) ?_
      try simp only [Act.put, List.setIfInBounds_toArray, List.set_cons_zero, List.set_cons_succ]
      refine wpAnyH_take (i := 3) (oi := ⟨some 9, _, _, _, _, _⟩) (v := .bool false) rfl (by kernel_rfl) (by kernel_rfl) (by kernel_rfl) (fun _ _ _ h => h) (Or.inl ⟨by rfl, fun w' hSw => by go_simp⟩) (by assumption) ?_
      try simp only [Act.put, List.setIfInBounds_toArray, List.set_cons_zero, List.set_cons_succ]
      refine wpAnyH_take (i := 4) (oi := ⟨some 10, _, _, _, _, _⟩) (v := .slice av L.length cv) rfl (by kernel_rfl) (by kernel_rfl) (by kernel_rfl) (fun _ _ _ h => h) (Or.inl ⟨by rfl, fun w' hSw => by go_simp⟩) (by assumption) ?_
      try simp only [Act.put, List.setIfInBounds_toArray, List.set_cons_zero, List.set_cons_succ]
      refine wpAnyH_take (i := 5) (oi := ⟨some 11, _, _, _, _, _⟩) (v := .int .i64 (L.length : Nat)) rfl (by kernel_rfl) (by kernel_rfl) (by kernel_rfl) (fun _ _ _ h => h) (Or.inl ⟨by rfl, fun w' hSw => by go_simp⟩) (by assumption) ?_
      try simp only [Act.put, List.setIfInBounds_toArray, List.set_cons_zero, List.set_cons_succ]
      refine wpAnyH_take (i := 6) (oi := ⟨some 12, _, _, _, _, _⟩) (v := .bool false) rfl (by kernel_rfl) (by kernel_rfl) (by kernel_rfl) (fun _ _ _ h => h) (Or.inl ⟨by rfl, fun w' hSw => by go_simp⟩) (by assumption) ?_
      try simp only [Act.put, List.setIfInBounds_toArray, List.set_cons_zero, List.set_cons_succ]
      refine wpAnyH_take (i := 7) (oi := ⟨some 13, _, _, _, _, _⟩) (v := .bool false) rfl (by kernel_rfl) (by kernel_rfl) (by kernel_rfl) (fun _ _ _ h => h) (Or.inl ⟨by rfl, fun w' hSw => by go_simp⟩) (by assumption) ?_
      try simp only [Act.put, List.setIfInBounds_toArray, List.set_cons_zero, List.set_cons_succ]
      refine wpAnyH_take (i := 8) (oi := ⟨some 14, _, _, _, _, _⟩) (v := undef) rfl (by kernel_rfl) (by kernel_rfl) (by kernel_rfl) (fun _ _ _ h => h) (Or.inr ⟨by rfl, rfl⟩) (by assumption) ?_
      try simp only [Act.put, List.setIfInBounds_toArray, List.set_cons_zero, List.set_cons_succ]
      refine wpAnyH_take (i := 9) (oi := ⟨some 15, _, _, _, _, _⟩) (v := undef) rfl (by kernel_rfl) (by kernel_rfl) (by kernel_rfl) (fun _ _ _ h => h) (Or.inr ⟨by rfl, rfl⟩) (by assumption) ?_
      try simp only [Act.put, List.setIfInBounds_toArray, List.set_cons_zero, List.set_cons_succ]
      refine wpAnyH_take (i := 10) (oi := ⟨some 16, _, _, _, _, _⟩) (v := undef) rfl (by kernel_rfl) (by kernel_rfl) (by kernel_rfl) (fun _ _ _ h => h) (Or.inr ⟨by rfl, rfl⟩) (by assumption) ?_
      try simp only [Act.put, List.setIfInBounds_toArray, List.set_cons_zero, List.set_cons_succ]
      refine wpAnyH_take (i := 11) (oi := ⟨some 17, _, _, _, _, _⟩) (v := undef) rfl (by kernel_rfl) (by kernel_rfl) (by kernel_rfl) (fun _ _ _ h => h) (Or.inr ⟨by rfl, rfl⟩) (by assumption) ?_
      try simp only [Act.put, List.setIfInBounds_toArray, List.set_cons_zero, List.set_cons_succ]
      refine wpAnyH_take (i := 12) (oi := ⟨some 18, _, _, _, _, _⟩) (v := undef) rfl (by kernel_rfl) (by kernel_rfl) (by kernel_rfl) (fun _ _ _ h => h) (Or.inr ⟨by rfl, rfl⟩) (by assumption) ?_
      try simp only [Act.put, List.setIfInBounds_toArray, List.set_cons_zero, List.set_cons_succ]
      refine wpAnyH_take (i := 13) (oi := ⟨some 19, _, _, _, _, _⟩) (v := undef) rfl (by kernel_rfl) (by kernel_rfl) (by kernel_rfl) (fun _ _ _ h => h) (Or.inr ⟨by rfl, rfl⟩) (by assumption) ?_
      try simp only [Act.put, List.setIfInBounds_toArray, List.set_cons_zero, List.set_cons_succ]
      refine wpAnyH_take (i := 14) (oi := ⟨some 20, _, _, _, _, _⟩) (v := undef) rfl (by kernel_rfl) (by kernel_rfl) (by kernel_rfl) (fun _ _ _ h => h) (Or.inr ⟨by rfl, rfl⟩) (by assumption) ?_
      try simp only [Act.put, List.setIfInBounds_toArray, List.set_cons_zero, List.set_cons_succ]
      refine wpAnyH_take (i := 15) (oi := ⟨some 21, _, _, _, _, _⟩) (v := undef) rfl (by kernel_rfl) (by kernel_rfl) (by kernel_rfl) (fun _ _ _ h => h) (Or.inr ⟨by rfl, rfl⟩) (by assumption) ?_
      try simp only [Act.put, List.setIfInBounds_toArray, List.set_cons_zero, List.set_cons_succ]
      refine wpAnyH_take (i := 16) (oi := ⟨some 22, _, _, _, _, _⟩) (v := undef) rfl (by kernel_rfl) (by kernel_rfl) (by kernel_rfl) (fun _ _ _ h => h) (Or.inr ⟨by rfl, rfl⟩) (by assumption) ?_
      try simp only [Act.put, List.setIfInBounds_toArray, List.set_cons_zero, List.set_cons_succ]
      refine wpAnyH_take (i := 17) (oi := ⟨some 23, _, _, _, _, _⟩) (v := undef) rfl (by kernel_rfl) (by kernel_rfl) (by kernel_rfl) (fun _ _ _ h => h) (Or.inr ⟨by rfl, rfl⟩) (by assumption) ?_
      try simp only [Act.put, List.setIfInBounds_toArray, List.set_cons_zero, List.set_cons_succ]
      refine wpAnyH_take (i := 18) (oi := ⟨some 24, _, _, _, _, _⟩) (v := undef) rfl (by kernel_rfl) (by kernel_rfl) (by kernel_rfl) (fun _ _ _ h => h) (Or.inr ⟨by rfl, rfl⟩) (by assumption) ?_
      try simp only [Act.put, List.setIfInBounds_toArray, List.set_cons_zero, List.set_cons_succ]
      refine wpAnyH_take (i := 19) (oi := ⟨some 25, _, _, _, _, _⟩) (v := .bool false) rfl (by kernel_rfl) (by kernel_rfl) (by kernel_rfl) (fun _ _ _ h => h) (Or.inl ⟨by rfl, fun w' hSw => by go_simp⟩) (by assumption) ?_
      try simp only [Act.put, List.setIfInBounds_toArray, List.set_cons_zero, List.set_cons_succ]
      refine wpAnyH_take (i := 20) (oi := ⟨some 26, _, _, _, _, _⟩) (v := .bool false) rfl (by kernel_rfl) (by kernel_rfl) (by kernel_rfl) (fun _ _ _ h => h) (Or.inl ⟨by rfl, fun w' hSw => by go_simp⟩) (by assumption) ?_
      try simp only [Act.put, List.setIfInBounds_toArray, List.set_cons_zero, List.set_cons_succ]
      refine wpAnyH_take (i := 21) (oi := ⟨some 2, _, _, _, _, _⟩) (v := .bool false) rfl (by kernel_rfl) (by kernel_rfl) (by kernel_rfl) (fun _ _ _ h => h) (Or.inl ⟨by rfl, fun w' hSw => by go_simp⟩) (by assumption) ?_
      try simp only [Act.put, List.setIfInBounds_toArray, List.set_cons_zero, List.set_cons_succ]
      refine wpAnyH_done (by kernel_rfl) ?_ _
      go_wp2
      go_ret
      exact ⟨by rw [HE.out]; rfl, HB.out.drew⟩
end Go.Proofs.Ythcmpkhfimapgaa.Rhy

/-
  Helpers of the claims beside this text: the program's TwoSizeCounts.
-/
namespace Go.Proofs.Ythcmpkhfimapgaa.Rhy
open Go.RowKit
set_option linter.unusedVariables false
set_option linter.unusedSimpArgs false

/-- All the way around, every beat falls on the first one. -/
theorem tsP_round (n : Int) (h : 1 ≤ n) (j : Nat) : tsP n n j = [] := by
  rw [List.eq_nil_iff_forall_not_mem]
  intro x hx
  obtain ⟨h1, h2⟩ := tsP_mem.1 hx
  have hnd := h2.1.2.2
  rw [genP_nodup] at hnd
  refine hnd 0 1 (by omega) (by omega) ?_
  unfold genT
  simp

set_option maxHeartbeats 2000000 in
theorem tsc_impl (n g : Int) (w : World) (h1 : -9223372036854775808 ≤ n) (h2 : n ≤ 9223372036854775807) (h3 : -9223372036854775808 ≤ g) (h4 : g ≤ 9223372036854775807) :
    Calls Try.prog 28 #[.int .i64 n, .int .i64 g] w (IPost (tsB n g) w) := by
  have HNO : Hid (¬ ((1 ≤ n ∧ n ≤ 24) ∧ 1 ≤ g ∧ g < n) → tsB n g = []) := Lib.hid (fun q => by
    unfold tsB
    by_cases hc : TsC n g
    · rw [cZ_yes hc]
      have e : g = n := by unfold TsC at hc; omega
      rw [e]
      exact tsP_round n hc.1.1 _
    · rw [cZ_no hc])
  by_cases hn2 : n ≤ 24
  · have e1 : decide (24 < n) = false := by simp; omega
    by_cases hg1 : 1 ≤ g
    · have e2 : decide (g < 1) = false := by simp; omega
      by_cases hgn : g < n
      · have e3 : decide (n ≤ g) = false := by simp; omega
        have hn : 1 ≤ n ∧ n ≤ 24 := by omega
        have hg : 1 ≤ g ∧ g ≤ n := by omega
        obtain ⟨N, rfl⟩ : ∃ N : Nat, n = N := ⟨n.toNat, by omega⟩
        have HE : Hid (tsB N g = tsP N g N) := Lib.hid (by unfold tsB; rw [cZ_yes ⟨hn, hg⟩, Int.toNat_natCast])
        obtain ⟨hn1, hn2'⟩ := hn
        obtain ⟨hg1', hg2⟩ := hg
        rw [HE.out]
        go_enter Try.func28, Try.ntmps28
        go_wp2_with fail
        go_loopw [5, 6] (fun v i wr => ∃ k : Nat, 2 ≤ k ∧ k ≤ 25 ∧ (k ≤ N ∨ k = 2) ∧ i = .int .i64 k ∧ VecAt (tsP N g k) w wr v) (fun _ i _ => 25 - (intOf i).toNat)
        case atStart => exact ⟨2, by omega, by omega, .inr rfl, rfl, by rw [tsP_two]; exact vec_nil w⟩
        case round =>
          obtain ⟨k, hk2, hk25, hkN, rfl, av, cv, rfl, hown, hnx, hsz⟩ := hrel
          obtain ⟨L, hL⟩ : ∃ L, tsP N g k = L := ⟨_, rfl⟩
          have hml : L.length ≤ 1048577 := by rw [← hL]; have := tsP_len N g k; omega
          rw [hL] at hown ⊢
          have HL := Lib.hid hL
          have HO1 := Lib.hid hown
          have HN := Lib.hid hnx
          have HZ := Lib.hid hsz
          clear hL hown hnx hsz
          by_cases hlt : k < N
          · go_wp2_with fail
            refine (gen_impl N k g wr (by omega) (by omega) (by omega) (by omega) (by omega) (by omega)).mono ?_
            rintro e w2 hp
            unfold CPost at hp
            by_cases hc : GenC N k g
            · rw [cS_yes hc, cZ_yes hc, cB_yes hc] at hp
              obtain ⟨a2, cap2, rfl, hown2, hb2⟩ := hp
              obtain ⟨X, hX⟩ : ∃ X, genZ N k g = X := ⟨_, rfl⟩
              have hXl : X.length ≤ 24 := by rw [← hX]; exact ok_len (genZ_ok (by omega))
              have HXI : Hid (AllInt X) := Lib.hid (by rw [← hX]; exact ok_int' (genZ_ok (by omega)))
              rw [hX] at hown2 ⊢
              have HX := Lib.hid hX
              have HC := Lib.hid hc
              have HIx := Lib.hid (intsAt_own hown2 HXI.out)
              have HB2 := Lib.hid hb2
              clear hX hc hown2 hb2
              go_wp2_with fail
              refine (csz_impl N a2 X.length cap2 X _ (HIx.out.below (bel1 _ _)) (by omega)).mono ?_
              rintro e w3 ⟨rfl, hb3⟩
              have HB3 := Lib.hid (HB2.out.trans (((bel1 w2 (.cells #[.int .i64 N, .slice a2 X.length cap2] 26)).trans (hb3.mono (by simp))).mono HB2.out.size))
              have HOr := Lib.hid (own_below HO1.out HB3.out)
              have HN3 := Lib.hid (HN.out.trans (HB3.out.mono HZ.out))
              have HZ3 := Lib.hid (Nat.le_trans HZ.out HB3.out.size)
              obtain ⟨z, hz⟩ : ∃ z, csB N X = z := ⟨_, rfl⟩
              have HQ : Hid (tsQ N g k ↔ z ≤ 2) := Lib.hid ⟨fun q => by have := q.2; rwa [HX.out, hz] at this, fun q => ⟨HC.out, by rw [HX.out, hz]; exact q⟩⟩
              rw [hz]
              clear hz hb3
              by_cases h0 : z ≤ 2
              · have hd : decide (z ≤ 2) = true := decide_eq_true h0
                have HY : Hid (tsP N g (k + 1) = L ++ [(k : Int)]) := Lib.hid (by rw [tsP_yes hk2 (HQ.out.2 h0), HL.out])
                go_wp2_with (at_builtin; refine append_int rfl _ _ rfl w.heap.size _ L _ _ HOr.out hml HZ3.out _ rfl rfl rfl ?_; intro a' c' w' hown' hb'; have HO2 := Lib.hid hown'; have HX2 := Lib.hid hb'; clear hown' hb')
                go_roundw
                case rel =>
                  refine ⟨k + 1, by omega, by omega, .inl (by omega), by go_num, ?_⟩
                  rw [HY.out]
                  have := vec_snoc HN3.out HZ3.out HO2.out HX2.out
                  simpa using this
                case measure => simp [intOf]; omega
              · have hd : decide (z ≤ 2) = false := decide_eq_false h0
                have HY : Hid (tsP N g (k + 1) = L) := Lib.hid (by rw [tsP_no (fun q => h0 (HQ.out.1 q)), HL.out])
                go_wp2
                go_roundw
                case rel => exact ⟨k + 1, by omega, by omega, .inl (by omega), by go_num, by rw [HY.out]; exact ⟨av, cv, rfl, HOr.out, HN3.out, HZ3.out⟩⟩
                case measure => simp [intOf]; omega
            · rw [cS_no hc, cZ_no hc, cB_no hc] at hp
              obtain ⟨a2, cap2, rfl, hown2, hb2⟩ := hp
              have HY : Hid (tsP N g (k + 1) = L) := Lib.hid (by rw [tsP_no (fun q => hc q.1), HL.out])
              have HB3 := Lib.hid (hb2.trans ((bel1 w2 (.cells #[.int .i64 0, .slice a2 0 cap2] 26)).mono hb2.size))
              have HOr := Lib.hid (own_below HO1.out HB3.out)
              have HN3 := Lib.hid (HN.out.trans (HB3.out.mono HZ.out))
              have HZ3 := Lib.hid (Nat.le_trans HZ.out HB3.out.size)
              clear hc hown2 hb2
              go_wp2
              go_roundw
              case rel => exact ⟨k + 1, by omega, by omega, .inl (by omega), by go_num, by rw [HY.out]; exact ⟨av, cv, rfl, HOr.out, HN3.out, HZ3.out⟩⟩
              case measure => simp [intOf]; omega
          · have HLE : Hid (tsP N g N = L) := Lib.hid (by
              rw [← HL.out]
              by_cases e : k = N
              · rw [e]
              · obtain rfl : k = 2 := by omega
                rw [tsP_two, List.eq_nil_iff_forall_not_mem]
                intro x hx
                have := (tsP_mem.1 hx).1
                omega)
            go_wp2
            go_ret
            rw [HLE.out]
            exact ⟨av, cv, rfl, HO1.out, HN.out⟩
      · have e3 : decide (n ≤ g) = true := by simp; omega
        have HE := Lib.hid (HNO.out (fun q => hgn q.2.2))
        rw [HE.out]
        go_enter Try.func28, Try.ntmps28
        go_wp2
        go_ret
        exact ⟨none, 0, rfl, World.ownsRow_nil _ _ _ _, Below.refl _ _⟩
    · have e2 : decide (g < 1) = true := by simp; omega
      have HE := Lib.hid (HNO.out (fun q => hg1 q.2.1))
      rw [HE.out]
      go_enter Try.func28, Try.ntmps28
      go_wp2
      go_ret
      exact ⟨none, 0, rfl, World.ownsRow_nil _ _ _ _, Below.refl _ _⟩
  · have e1 : decide (24 < n) = true := by simp; omega
    have HE := Lib.hid (HNO.out (fun q => hn2 q.1.2))
    rw [HE.out]
    go_enter Try.func28, Try.ntmps28
    go_wp2
    go_ret
    exact ⟨none, 0, rfl, World.ownsRow_nil _ _ _ _, Below.refl _ _⟩
end Go.Proofs.Ythcmpkhfimapgaa.Rhy
