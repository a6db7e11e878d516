/-
  Helpers of the claims beside this text: canons: VoiceRhythm of both sides.
-/
import Derived.Test.YthnlakdfbalgdaaCnb
namespace Go.Proofs.Ythnlakdfbalgdaa.Rhy
open Go.RowKit
set_option linter.unusedVariables false
set_option linter.unusedSimpArgs false

set_option maxHeartbeats 1000000 in
set_option maxRecDepth 100000 in
theorem voi_impl (s : Int) (a : Option Addr) (n ca : Nat) (xs : List Int) (t : Int) (b : Option Addr) (m cb : Nat) (ys : List Int) (k : Int) (w : World) (ha : IntsAt w a n xs) (hn : xs.length ≤ 1048576) (hb : IntsAt w b m ys) (hm : ys.length ≤ 1048576) (h3 : -9223372036854775808 ≤ k) (h4 : k ≤ 9223372036854775807) :
    Calls Try.prog 25 #[can s a n ca t b m cb, .int .i64 k] w (CPost (VC s xs t ys k) s (voiZ s xs ys k) w) := by
  obtain ⟨W0, hW⟩ : ∃ W0, W0 = (w.alloc (canCells s a n ca t b m cb 29)).alloc (.cells #[.int .i64 0, .slice none 0 0] 25) := ⟨_, rfl⟩
  have HW := Lib.hid hW
  have HB := Lib.hid (show Below w.heap.size w W0 by rw [hW]; exact bel2 w _ _)
  have HT := Lib.hid (show Four W0 w.heap.size (.int .i64 s) (.slice a n ca) (.int .i64 t) (.slice b m cb) by rw [hW]; exact (four_new w _ _ _ _ _).keep (bel1 _ _))
  have HU := Lib.hid (show Box W0 (w.heap.size + 1) (.int .i64 0) (.slice none 0 0) 25 by
    rw [hW]
    have := box_new (w.alloc (canCells s a n ca t b m cb 29)) (.int .i64 0) (.slice none 0 0) 25
    simpa using this)
  have hz0 : w.heap.size + 1 < W0.heap.size := HU.out.lt
  have hz1 : W0.heap.size = w.heap.size + 2 := by rw [hW]; simp
  clear hW
  have hl : n ≤ 1048576 := by have := ha.1; omega
  have hlm : m ≤ 1048576 := by have := hb.1; omega
  have em : ys.length = m := hb.1
  have FA := Lib.hid ha
  have FB := Lib.hid hb
  clear ha hb
  have HC := Lib.hid (fun W hA hB => cval_impl s a n ca xs t b m cb ys W hA hn hB hm)
  by_cases hc : CC s xs t ys
  · rw [cB_yes hc] at HC
    by_cases h0 : 0 ≤ k
    · obtain ⟨q, rfl⟩ : ∃ q : Nat, k = q := ⟨k.toNat, by omega⟩
      by_cases h1 : q < m
      · have HY : Hid (VC s xs t ys q) := Lib.hid ⟨hc, by omega, by omega⟩
        have HCC := Lib.hid hc
        have hd : decide ((m : Int) ≤ (q : Int)) = false := by simp; omega
        clear hc
        go_enter Try.func25, Try.ntmps25
        go_wp2_with fail
        rw [← HW.out]
        refine (HC.out _ (FA.out.below HB.out) (FB.out.below HB.out)).mono ?_
        rintro e w1 ⟨rfl, hb1⟩
        have B1 := Lib.hid (HB.out.trans (hb1.mono HB.out.size))
        have T1 := Lib.hid (HT.out.keep hb1)
        have U1 := Lib.hid (HU.out.keep hb1 hz0)
        clear hb1
        obtain ⟨t0, t1, t2, t3, t4⟩ := T1.out
        obtain ⟨u0, u1, u2, u3⟩ := U1.out.facts
        have u4 := U1.out.lt
        go_wp2_with fail
        refine (voc_impl s a n ca xs t b m cb ys q _ (FA.out.below B1.out) hn (FB.out.below B1.out) hm HCC.out h1).mono ?_
        rintro e w2 ⟨p2, c2, rfl, hown2, hb2⟩
        have B2 := Lib.hid (B1.out.trans (hb2.mono B1.out.size))
        have U2 := Lib.hid (U1.out.keep hb2 (by omega))
        have O2 := Lib.hid (own_base hown2 (show w.heap.size + 2 ≤ w1.heap.size by omega))
        clear u0 u1 u2 u3 u4 hown2 hb2
        obtain ⟨u0, u1, u2, u3⟩ := U2.out.facts
        have u4 := U2.out.lt
        go_wp2
        refine bodyPost_ret (v := .tuple #[rhy s p2 (voiZ s xs ys q).length c2, .bool true]) (by simp [results, Try.results25, go_sem, *]) rfl (cpost_yes HY.out rfl ?_ ?_)
        · exact own_set2 O2.out (by omega) (by omega)
        · exact below_set2 B2.out (by omega)
      · have HN : Hid (¬ VC s xs t ys q) := Lib.hid (fun h => h1 (by have := h.2.2; omega))
        have hd : decide ((m : Int) ≤ (q : Int)) = true := by simp; omega
        clear hc
        go_enter Try.func25, Try.ntmps25
        go_wp2_with fail
        rw [← HW.out]
        refine (HC.out _ (FA.out.below HB.out) (FB.out.below HB.out)).mono ?_
        rintro e w1 ⟨rfl, hb1⟩
        have B1 := Lib.hid (HB.out.trans (hb1.mono HB.out.size))
        have T1 := Lib.hid (HT.out.keep hb1)
        have U1 := Lib.hid (HU.out.keep hb1 hz0)
        clear hb1
        obtain ⟨t0, t1, t2, t3, t4⟩ := T1.out
        obtain ⟨u0, u1, u2, u3⟩ := U1.out.facts
        have u4 := U1.out.lt
        go_wp2
        refine bodyPost_ret (v := .tuple #[rhy 0 none 0 0, .bool false]) (by simp [results, Try.results25, go_sem, *]) rfl (cpost_no HN.out ?_)
        exact below_set2 B1.out (by omega)

    · have HN : Hid (¬ VC s xs t ys k) := Lib.hid (fun h => h0 h.2.1)
      have hd : decide (k < 0) = true := by simp; omega
      clear hc
      go_enter Try.func25, Try.ntmps25
      go_wp2_with fail
      rw [← HW.out]
      refine (HC.out _ (FA.out.below HB.out) (FB.out.below HB.out)).mono ?_
      rintro e w1 ⟨rfl, hb1⟩
      have B1 := Lib.hid (HB.out.trans (hb1.mono HB.out.size))
      have T1 := Lib.hid (HT.out.keep hb1)
      have U1 := Lib.hid (HU.out.keep hb1 hz0)
      clear hb1
      obtain ⟨t0, t1, t2, t3, t4⟩ := T1.out
      obtain ⟨u0, u1, u2, u3⟩ := U1.out.facts
      have u4 := U1.out.lt
      go_wp2
      refine bodyPost_ret (v := .tuple #[rhy 0 none 0 0, .bool false]) (by simp [results, Try.results25, go_sem, *]) rfl (cpost_no HN.out ?_)
      exact below_set2 B1.out (by omega)

  · rw [cB_no hc] at HC
    have HN : Hid (¬ VC s xs t ys k) := Lib.hid (fun h => hc h.1)
    clear hc
    go_enter Try.func25, Try.ntmps25
    go_wp2_with fail
    rw [← HW.out]
    refine (HC.out _ (FA.out.below HB.out) (FB.out.below HB.out)).mono ?_
    rintro e w1 ⟨rfl, hb1⟩
    have B1 := Lib.hid (HB.out.trans (hb1.mono HB.out.size))
    have T1 := Lib.hid (HT.out.keep hb1)
    have U1 := Lib.hid (HU.out.keep hb1 hz0)
    clear hb1
    obtain ⟨t0, t1, t2, t3, t4⟩ := T1.out
    obtain ⟨u0, u1, u2, u3⟩ := U1.out.facts
    have u4 := U1.out.lt
    go_wp2
    refine bodyPost_ret (v := .tuple #[rhy 0 none 0 0, .bool false]) (by simp [results, Try.results25, go_sem, *]) rfl (cpost_no HN.out ?_)
    exact below_set2 B1.out (by omega)

set_option maxHeartbeats 1000000 in
set_option maxRecDepth 100000 in
theorem voi_spec (s : Int) (a : Option Addr) (n ca : Nat) (xs : List Int) (t : Int) (b : Option Addr) (m cb : Nat) (ys : List Int) (k : Int) (w : World) (ha : IntsAt w a n xs) (hn : xs.length ≤ 1048576) (hb : IntsAt w b m ys) (hm : ys.length ≤ 1048576) (h3 : -9223372036854775808 ≤ k) (h4 : k ≤ 9223372036854775807) :
    Calls Try.prog 55 #[can s a n ca t b m cb, .int .i64 k] w (CPost (VC s xs t ys k) s (voiZ s xs ys k) w) := by
  obtain ⟨W0, hW⟩ : ∃ W0, W0 = (w.alloc (canCells s a n ca t b m cb 29)).alloc (.cells #[.int .i64 0, .slice none 0 0] 25) := ⟨_, rfl⟩
  have HW := Lib.hid hW
  have HB := Lib.hid (show Below w.heap.size w W0 by rw [hW]; exact bel2 w _ _)
  have HT := Lib.hid (show Four W0 w.heap.size (.int .i64 s) (.slice a n ca) (.int .i64 t) (.slice b m cb) by rw [hW]; exact (four_new w _ _ _ _ _).keep (bel1 _ _))
  have HU := Lib.hid (show Box W0 (w.heap.size + 1) (.int .i64 0) (.slice none 0 0) 25 by
    rw [hW]
    have := box_new (w.alloc (canCells s a n ca t b m cb 29)) (.int .i64 0) (.slice none 0 0) 25
    simpa using this)
  have hz0 : w.heap.size + 1 < W0.heap.size := HU.out.lt
  have hz1 : W0.heap.size = w.heap.size + 2 := by rw [hW]; simp
  clear hW
  have hl : n ≤ 1048576 := by have := ha.1; omega
  have hlm : m ≤ 1048576 := by have := hb.1; omega
  have em : ys.length = m := hb.1
  have FA := Lib.hid ha
  have FB := Lib.hid hb
  clear ha hb
  have HC := Lib.hid (fun W hA hB => cok_spec s a n ca xs t b m cb ys W hA hn hB hm)
  by_cases hc : CC s xs t ys
  · rw [cB_yes hc] at HC
    by_cases h0 : 0 ≤ k ∧ k < m
    · obtain ⟨q, rfl⟩ : ∃ q : Nat, k = q := ⟨k.toNat, by omega⟩
      have h1 : q < m := by omega
      have HY : Hid (VC s xs t ys q) := Lib.hid ⟨hc, by omega, by omega⟩
      have HO := Lib.hid hc.1.1
      have h24 := hc.1.2.1.1
      obtain ⟨b1, off, z, rfl, hbb1, hs, hc1, hz1', hz2'⟩ := FB.out.at h1
      have hzr := ok_at hc.1.2.1 hs
      have HV : Hid (voiZ s xs ys q = ofZ s.toNat (mapL s xs 1 z)) := Lib.hid (by unfold voiZ; rw [Int.toNat_natCast, List.getD_eq_getElem?_getD, hs]; rfl)
      clear hc hs
      have HK : Hid (∀ W, Four W w.heap.size (.int .i64 s) (.slice a n ca) (.int .i64 t) (.slice (some ⟨b1, off, none⟩) m cb) → Below w.heap.size w W → W.cell? ⟨w.heap.size, 0, none⟩ = some (.int .i64 s) ∧ W.cell? ⟨w.heap.size, 1, none⟩ = some (.slice a n ca) ∧ W.cell? ⟨w.heap.size, 2, none⟩ = some (.int .i64 t) ∧ W.cell? ⟨w.heap.size, 3, none⟩ = some (.slice (some ⟨b1, off, none⟩) m cb) ∧ W.cell? ⟨b1, off + q, none⟩ = some (.int .i64 z) ∧ Below w.heap.size w W) :=
        Lib.hid (fun W hT hW => ⟨hT.2.1, hT.2.2.1, hT.2.2.2.1, hT.2.2.2.2, by rw [hW.cell (p := ⟨b1, off + q, none⟩) hbb1]; exact hc1, hW⟩)
      have HM := Lib.hid (fun W (hW : Below w.heap.size w W) => map_any s a n ca xs 1 z W (FA.out.below hW) hl HO.out (by omega) (by omega) (by omega) (by omega))
      clear hc1
      go_enter Try.func55, Try.ntmps55
      go_wp2_with fail
      rw [← HW.out]
      refine (HC.out _ (FA.out.below HB.out) (FB.out.below HB.out)).mono ?_
      rintro e w1 ⟨rfl, hb1⟩
      have B1 := Lib.hid (HB.out.trans (hb1.mono HB.out.size))
      have T1 := Lib.hid (HT.out.keep hb1)
      have U1 := Lib.hid (HU.out.keep hb1 hz0)
      clear hb1
      obtain ⟨t0, t1, t2, t3, t4⟩ := T1.out
      obtain ⟨u0, u1, u2, u3⟩ := U1.out.facts
      have u4 := U1.out.lt
      go_wp2_with fail
      refine (in_yes q 0 ((m : Int) - 1) _ (by omega) (by omega)).mono ?_
      rintro e w2 ⟨rfl, rfl⟩
      have T2 := Lib.hid (T1.out.keep (Below.refl w1.heap.size w1).drew)
      have U2 := Lib.hid (U1.out.keep (Below.refl w1.heap.size w1).drew u4)
      have B2 := Lib.hid (B1.out.trans ((Below.refl w1.heap.size w1).drew.mono B1.out.size))
      have hdz : w1.drew.heap.size = w1.heap.size := rfl
      clear u0 u1 u2 u3
      go_wp2
      go_region_held3 (fun W => W.cell? ⟨w.heap.size, 0, none⟩ = some (.int .i64 s) ∧ W.cell? ⟨w.heap.size, 1, none⟩ = some (.slice a n ca) ∧ W.cell? ⟨w.heap.size, 2, none⟩ = some (.int .i64 t) ∧ W.cell? ⟨w.heap.size, 3, none⟩ = some (.slice (some ⟨b1, off, none⟩) m cb) ∧ W.cell? ⟨b1, off + q, none⟩ = some (.int .i64 z) ∧ Below w.heap.size w W)
        (first | exact HK.out _ T2.out B2.out | exact HK.out _ T3.out B3.out | exact HK.out _ (T3.out.set2 (by omega)) (below_set2 B3.out (by omega)))
        ((go_at_call 80; refine (HM.out _ B2.out).mono ?_; rintro e w3 ⟨p1, c1, rfl, hown1, hc1⟩; have T3 := Lib.hid (T2.out.keep hc1); have U3 := Lib.hid (U2.out.keep hc1 (show w.heap.size + 1 < w1.drew.heap.size by omega)); have B3 := Lib.hid (B2.out.trans (hc1.mono B2.out.size)); have O3 := Lib.hid (own_base hown1 (show w.heap.size + 2 ≤ w1.drew.heap.size by omega)); obtain ⟨q0, q1, q2, q3⟩ := U3.out.facts; have q4 := U3.out.lt; clear hown1 hc1))
      rename_i hh
      clear hh q0 q1 q2 q3
      obtain ⟨r0, r1, r2, r3⟩ := ((U3.out.set0 (.int .i64 s)).set1 (.slice p1 (ofZ s.toNat (mapL s xs 1 z)).length c1)).facts
      go_wp2
      refine bodyPost_ret (v := .tuple #[rhy s p1 (ofZ s.toNat (mapL s xs 1 z)).length c1, .bool true]) (by simp [results, Try.results55, go_sem, *]) rfl (cpost_yes HY.out (by rw [HV.out]) ?_ ?_)
      · rw [HV.out]
        exact own_set2 O3.out (by omega) (by omega)
      · exact below_set2 B3.out (by omega)
    · have HN : Hid (¬ VC s xs t ys k) := Lib.hid (fun h => h0 (by have := h.2; omega))
      clear hc
      go_enter Try.func55, Try.ntmps55
      go_wp2_with fail
      rw [← HW.out]
      refine (HC.out _ (FA.out.below HB.out) (FB.out.below HB.out)).mono ?_
      rintro e w1 ⟨rfl, hb1⟩
      have B1 := Lib.hid (HB.out.trans (hb1.mono HB.out.size))
      have T1 := Lib.hid (HT.out.keep hb1)
      have U1 := Lib.hid (HU.out.keep hb1 hz0)
      clear hb1
      obtain ⟨t0, t1, t2, t3, t4⟩ := T1.out
      obtain ⟨u0, u1, u2, u3⟩ := U1.out.facts
      have u4 := U1.out.lt
      go_wp2_with fail
      refine (in_no k 0 ((m : Int) - 1) _ (by omega)).mono ?_
      rintro e w2 ⟨rfl, rfl⟩
      go_wp2
      refine bodyPost_ret (v := .tuple #[rhy 0 none 0 0, .bool false]) (by simp [results, Try.results55, go_sem, *]) rfl (cpost_no HN.out ?_)
      exact below_set2 B1.out (by omega)

  · rw [cB_no hc] at HC
    have HN : Hid (¬ VC s xs t ys k) := Lib.hid (fun h => hc h.1)
    clear hc
    go_enter Try.func55, Try.ntmps55
    go_wp2_with fail
    rw [← HW.out]
    refine (HC.out _ (FA.out.below HB.out) (FB.out.below HB.out)).mono ?_
    rintro e w1 ⟨rfl, hb1⟩
    have B1 := Lib.hid (HB.out.trans (hb1.mono HB.out.size))
    have T1 := Lib.hid (HT.out.keep hb1)
    have U1 := Lib.hid (HU.out.keep hb1 hz0)
    clear hb1
    obtain ⟨t0, t1, t2, t3, t4⟩ := T1.out
    obtain ⟨u0, u1, u2, u3⟩ := U1.out.facts
    have u4 := U1.out.lt
    go_wp2
    refine bodyPost_ret (v := .tuple #[rhy 0 none 0 0, .bool false]) (by simp [results, Try.results55, go_sem, *]) rfl (cpost_no HN.out ?_)
    exact below_set2 B1.out (by omega)

end Go.Proofs.Ythnlakdfbalgdaa.Rhy
