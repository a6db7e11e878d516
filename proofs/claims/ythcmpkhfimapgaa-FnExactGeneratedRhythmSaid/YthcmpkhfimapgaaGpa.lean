/-
  Helpers of the claims beside this text: the program's GeneratedRhythm.
-/
import Derived.Test.YthcmpkhfimapgaaGns
import Derived.Test.YthcmpkhfimapgaaEva
namespace Go.Proofs.Ythcmpkhfimapgaa.Rhy
open Go.RowKit
set_option linter.unusedVariables false
set_option linter.unusedSimpArgs false

/-- The remainders as they come, sorted: a rhythm if no two are equal. -/
theorem genS_ok {n g : Int} {K : Nat} (h : 1 ≤ n ∧ n ≤ 24) : Ok n (sortZ (genP n g K)) ↔ (genP n g K).Nodup := by
  constructor
  · intro ho
    have hp := ok_sorted ho
    have hnd : (sortZ (genP n g K)).Nodup := hp.imp fun q => by omega
    exact (List.mergeSort_perm (genP n g K) _).nodup_iff.1 hnd
  · intro hnd
    have e := sort_ofZ (n := n.toNat) hnd (fun x hx => by
      obtain ⟨i, _, rfl⟩ := genP_mem.1 hx
      have := genT_bd h.1 g i
      omega)
    have e2 : sortZ (genP n g K) = ofZ n.toNat (genP n g K) := e
    rw [e2]
    refine ok_of h.1 h.2 (ofZ_sorted _ _) fun z hz => ?_
    have := (ofZ_mem.1 hz).1
    omega
theorem genS_eq {n g : Int} {K : Nat} (h : 1 ≤ n) (hnd : (genP n g K).Nodup) : sortZ (genP n g K) = genZ n K g := by
  have e := sort_ofZ (n := n.toNat) hnd (fun x hx => by
    obtain ⟨i, _, rfl⟩ := genP_mem.1 hx
    have := genT_bd h g i
    omega)
  unfold genZ
  rw [Int.toNat_natCast]
  exact e
theorem sort_int {l : List Int} (h : AllInt l) : AllInt (sortZ l) := fun z hz => h z ((List.mergeSort_perm l _).mem_iff.1 hz)

set_option maxHeartbeats 2000000 in
theorem gen_impl (n k g : Int) (w : World) (h1 : -9223372036854775808 ≤ n) (h2 : n ≤ 9223372036854775807) (h3 : -9223372036854775808 ≤ k) (h4 : k ≤ 9223372036854775807) (h5 : -9223372036854775808 ≤ g) (h6 : g ≤ 9223372036854775807) :
    Calls Try.prog 14 #[.int .i64 n, .int .i64 k, .int .i64 g] w (CPost (GenC n k g) n (genZ n k g) w) := by
  have HX := Lib.hid (box_new w (.int .i64 0) (.slice none 0 0) 26)
  by_cases ho : EvC k n
  · by_cases hg1 : 1 ≤ g
    · have e1 : decide (g < 1) = false := by simp; omega
      by_cases hg2 : g ≤ n
      · have e2 : decide (n < g) = false := by simp; omega
        have HE := Lib.hid ho
        obtain ⟨hn1, hn2, hk1, hk2⟩ := ho
        obtain ⟨K, rfl⟩ : ∃ K : Nat, k = K := ⟨k.toNat, by omega⟩
        have hK : K ≤ 24 := by omega
        obtain ⟨w1, hW⟩ : ∃ w1, w1 = w.alloc (.cells #[.int .i64 0, .slice none 0 0] 26) := ⟨_, rfl⟩
        have HW := Lib.hid hW
        have B1 := Lib.hid (show Below w.heap.size w w1 by rw [hW]; exact bel1 w _)
        have U1 := Lib.hid (show Box w1 w.heap.size (.int .i64 0) (.slice none 0 0) 26 by rw [hW]; exact box_new w _ _ _)
        have HSZ := Lib.hid (show w1.heap.size = w.heap.size + 1 by rw [hW]; simp)
        clear hW
        go_enter Try.func14, Try.ntmps14
        go_wp2_with fail
        refine (room_yes K n _ HE.out).mono ?_
        rintro e w' ⟨rfl, rfl⟩
        go_wp2
        rw [← HW.out, ← HSZ.out]
        go_loopw [27] (fun i wr => ∃ j : Nat, j ≤ K ∧ i = .int .i64 j ∧ LstAt n (genP n g j) w1 wr) (fun i _ => K - (intOf i).toNat)
        case atStart => exact ⟨0, by omega, rfl, lst_start n w1⟩
        case round =>
          obtain ⟨j, hj, rfl, hat⟩ := hrel
          obtain ⟨av, cv, hb0, hown, hnx, hsz⟩ := hat
          have hsl : (genP n g j).length ≤ 1048577 := by rw [genP_len]; omega
          have HN := Lib.hid (genP_snoc n g j)
          have HPI := Lib.hid (genP_int (n := n) (g := g) ⟨hn1, hn2⟩ j)
          have HPL := Lib.hid (genP_len n g j)
          obtain ⟨L, hL⟩ : ∃ L, genP n g j = L := ⟨_, rfl⟩
          rw [hL] at hb0 hown hsl HN HPI HPL
          have HL := Lib.hid hL
          have H0 := Lib.hid hb0
          have HO := Lib.hid hown
          have HX1 := Lib.hid hnx
          have HZ := Lib.hid hsz
          have lt0 := hb0.lt
          clear hb0 hown hnx hsz hL
          obtain ⟨c0, c1, f0, f1⟩ := H0.out.facts
          by_cases hlt : j < K
          · obtain ⟨p1, p2⟩ := prod24 (j := j) (g := g) (by omega) ⟨by omega, by omega⟩
            obtain ⟨t1, t2⟩ := genT_bd hn1 g j
            obtain ⟨t, ht⟩ : ∃ t, genT n g j = t := ⟨_, rfl⟩
            obtain ⟨p, hp⟩ : ∃ p : Int, (j : Int) * g = p := ⟨_, rfl⟩
            have HRB : Hid (remB p n = t) := Lib.hid (by rw [← ht, ← hp]; rfl)
            rw [ht] at t1 t2 HN
            rw [hp] at p1 p2
            have hw1 : IntKind.i64.wrap ((j : Int) * g) = p := by rw [hp]; exact IntWalk.i64_in _ ⟨by omega, by omega⟩
            have HA : Hid (∀ W, Calls Try.prog 52 #[.int .i64 p, .int .i64 n] W fun e w' => e = .returned (.int .i64 t) ∧ W = w') := Lib.hid (fun W => by
              have := around_any p n W (by omega) (by omega) (by omega) (by omega)
              rwa [HRB.out] at this)
            clear hp ht
            go_wp2
            go_region_law ((first
              | (go_simp; go_at_call 52; with_reducible refine (HA.out _).mono ?_; rintro e w' ⟨rfl, rfl⟩)
              | (rw [show (wr.alloc (.cells #[.int .i64 t] 3)).drew = wr.drew.alloc (.cells #[.int .i64 t] 3) from rfl]; refine step_append_int rfl _ _ rfl (w1.heap.size + 1) _ L t wr.drew (own_below HO.out (Below.refl _ _).drew) hsl HZ.out _ rfl rfl rfl ?_; intro a' c' w' hown' hb'; have HO2 := Lib.hid hown'; have HX2 := Lib.hid hb'; have hc1' := HX2.out.cell (p := ⟨w1.heap.size, 1, none⟩) (Nat.lt_succ_self _); have hf1' := HX2.out.frozen (p := ⟨w1.heap.size, 1, none⟩) (Nat.lt_succ_self _); clear hown' hb')))
            all_goals go_wp2
            all_goals go_roundw
            all_goals first
              | (refine ⟨j + 1, by omega, by go_num, ?_⟩
                 rw [HN.out]
                 have := lst_snoc H0.out HX1.out HZ.out HO2.out ((Below.refl (w1.heap.size + 1) wr).drew.trans HX2.out)
                 simpa using this)
              | (simp [intOf]; omega)
          · have e : j = K := by omega
            subst e
            have hlj : L.length ≤ 1048576 := by have := HPL.out; omega
            have b1 := B1.out.size
            have hbz := HZ.out
            clear c0 c1 f0 f1
            obtain ⟨c0, c1, f0, f1⟩ := H0.out.facts
            go_wp2_with fail
            refine (sort_own (w1.heap.size + 1) av L.length cv L wr HO.out hlj HZ.out).mono ?_
            rintro e w2 ⟨rfl, hown2, hb2⟩
            have HO2 := Lib.hid hown2
            have HX2 := Lib.hid (HX1.out.trans (hb2.mono (by omega)))
            have H2 := Lib.hid (H0.out.keep hb2 (by omega))
            have HU2 := Lib.hid (U1.out.keep HX2.out U1.out.lt)
            have hsz2 := hb2.size
            have HI2 : Hid (IntsAt w2 av L.length (sortZ L)) := Lib.hid (intsAt_own hown2 (sort_int HPI.out))
            clear hown2 hb2 c0 c1 f0 f1
            obtain ⟨c0, c1, f0, f1⟩ := H2.out.facts
            by_cases hnd : (genP n g j).Nodup
            · have HO3 : Hid (GenC n j g) := Lib.hid ⟨HE.out, ⟨hg1, hg2⟩, by rw [Int.toNat_natCast]; exact hnd⟩
              have HOK : Hid (Ok n (sortZ L)) := Lib.hid (by rw [← HL.out]; exact (genS_ok ⟨hn1, hn2⟩).2 hnd)
              have HEQ : Hid (genZ n j g = sortZ L) := Lib.hid (by rw [← HL.out]; exact (genS_eq hn1 hnd).symm)
              have HLS : Hid ((sortZ L).length = L.length) := Lib.hid (sortZ_len L)
              clear hnd
              go_wp2_with fail
              refine (valid_yes n av L.length cv (sortZ L) _ HI2.out hlj HOK.out).mono ?_
              rintro e w3 ⟨rfl, hb3⟩
              have HB3 := Lib.hid hb3
              have HU3 := Lib.hid (HU2.out.keep hb3 HU2.out.lt)
              have H3 := Lib.hid (H2.out.keep hb3 H2.out.lt)
              have HOw3 := Lib.hid (own_below HO2.out hb3)
              clear hb3 c0 c1 f0 f1
              obtain ⟨c0, c1, f0, f1⟩ := H3.out.facts
              obtain ⟨d0, d1, d2, d3⟩ := HU3.out.facts
              have dlt := HU3.out.lt
              go_wp2
              refine bodyPost_ret (v := .tuple #[rhy n av L.length cv, .bool true]) (by simp [results, Try.results14, go_sem, *]) rfl ?_
              rw [HEQ.out]
              refine cpost_yes HO3.out HLS.out ?_ ?_
              · exact own_base (ownsRow_setCell_below (ownsRow_setCell_below HOw3.out (by show w.heap.size < w1.heap.size + 1; omega) _) (by show w.heap.size < w1.heap.size + 1; omega) _) (by omega)
              · exact ((B1.out.trans ((HX2.out.trans (HB3.out.mono (by omega))).mono b1)).setCell (by show w.heap.size ≤ w.heap.size; omega) _).setCell (by show w.heap.size ≤ w.heap.size; omega) _
            · have HO3 : Hid (¬ GenC n j g) := Lib.hid (fun q => hnd (by have := q.2.2; rwa [Int.toNat_natCast] at this))
              have HOK : Hid (¬ Ok n (sortZ L)) := Lib.hid (by rw [← HL.out]; exact fun q => hnd ((genS_ok ⟨hn1, hn2⟩).1 q))
              clear hnd
              go_wp2_with fail
              refine (valid_no n av L.length cv (sortZ L) _ HI2.out hlj HOK.out).mono ?_
              rintro e w3 ⟨rfl, hb3⟩
              have HB3 := Lib.hid hb3
              have HU3 := Lib.hid (HU2.out.keep hb3 HU2.out.lt)
              clear hb3 c0 c1 f0 f1
              obtain ⟨d0, d1, d2, d3⟩ := HU3.out.facts
              have dlt := HU3.out.lt
              go_wp2
              refine bodyPost_ret (v := .tuple #[rhy 0 none 0 0, .bool false]) (by simp [results, Try.results14, go_sem, *]) rfl ?_
              refine cpost_no HO3.out ?_
              exact ((B1.out.trans ((HX2.out.trans (HB3.out.mono (by omega))).mono b1)).setCell (by show w.heap.size ≤ w.heap.size; omega) _).setCell (by show w.heap.size ≤ w.heap.size; omega) _
      · have e2 : decide (n < g) = true := by simp; omega
        have HE := Lib.hid ho
        have HO := Lib.hid (show ¬ GenC n k g from fun q => hg2 q.2.1.2)
        clear ho
        go_enter Try.func14, Try.ntmps14
        go_wp2_with fail
        refine (room_yes k n _ HE.out).mono ?_
        rintro e w' ⟨rfl, rfl⟩
        obtain ⟨c0, c1, c2, c3⟩ := HX.out.facts
        have lt0 := HX.out.lt
        go_wp2
        refine bodyPost_ret (v := .tuple #[rhy 0 none 0 0, .bool false]) (by simp [results, Try.results14, go_sem, *]) rfl ?_
        exact cpost_no HO.out (bel1 w _)
    · have e1 : decide (g < 1) = true := by simp; omega
      have HE := Lib.hid ho
      have HO := Lib.hid (show ¬ GenC n k g from fun q => hg1 q.2.1.1)
      clear ho
      go_enter Try.func14, Try.ntmps14
      go_wp2_with fail
      refine (room_yes k n _ HE.out).mono ?_
      rintro e w' ⟨rfl, rfl⟩
      obtain ⟨c0, c1, c2, c3⟩ := HX.out.facts
      have lt0 := HX.out.lt
      go_wp2
      refine bodyPost_ret (v := .tuple #[rhy 0 none 0 0, .bool false]) (by simp [results, Try.results14, go_sem, *]) rfl ?_
      exact cpost_no HO.out (bel1 w _)
  · have HE := Lib.hid ho
    have HO := Lib.hid (show ¬ GenC n k g from fun q => ho q.1)
    clear ho
    go_enter Try.func14, Try.ntmps14
    go_wp2_with fail
    refine (room_no k n _ HE.out).mono ?_
    rintro e w' ⟨rfl, rfl⟩
    obtain ⟨c0, c1, c2, c3⟩ := HX.out.facts
    have lt0 := HX.out.lt
    go_wp2
    refine bodyPost_ret (v := .tuple #[rhy 0 none 0 0, .bool false]) (by simp [results, Try.results14, go_sem, *]) rfl ?_
    exact cpost_no HO.out (bel1 w _)
end Go.Proofs.Ythcmpkhfimapgaa.Rhy
