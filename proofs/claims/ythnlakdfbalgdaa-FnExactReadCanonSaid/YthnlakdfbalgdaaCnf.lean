/-
  Helpers of the claims beside this text: canons: StretchCanon and RotateCanon of both sides.
-/
import Derived.Test.YthnlakdfbalgdaaCne
namespace Go.Proofs.Ythnlakdfbalgdaa.Rhy
open Go.RowKit
set_option linter.unusedVariables false
set_option linter.unusedSimpArgs false

theorem Row.wide {w : World} {lo hi lo' hi' : Nat} {a : Option Addr} {n cap : Nat} {l : List Int} (h : Row w lo hi a n cap l) (hl : lo' ≤ lo) (hh : hi ≤ hi') (hw : hi' ≤ w.heap.size) : Row w lo' hi' a n cap l :=
  ⟨own_base h.1 hl, fun k hk => Nat.lt_of_lt_of_le (h.2.1 k hk) hh, hw⟩
theorem two_set4 {W : World} {b g : Nat} {v0 v1 x y u v : Value} (h : Two W b v0 v1) (hg : g ≠ b) : Two ((((W.setCell ⟨g, 0, none⟩ x).setCell ⟨g, 1, none⟩ y).setCell ⟨g, 2, none⟩ u).setCell ⟨g, 3, none⟩ v) b v0 v1 :=
  h.within (((((Within.refl g (g + 1) W).setCell g (by omega) 0 x).setCell g (by omega) 1 y).setCell g (by omega) 2 u).setCell g (by omega) 3 v) (by omega)
def SC (s : Int) (xs : List Int) (t : Int) (ys : List Int) (u : Int) : Prop := (Ok s xs ∧ UC s u) ∧ CC s xs t ys
def RC (s : Int) (xs : List Int) (t : Int) (ys : List Int) (i o : Int) : Prop := (RotC s xs i ∧ RotC t ys o) ∧ CC s xs t ys

set_option maxHeartbeats 2000000 in
set_option maxRecDepth 100000 in
theorem stc_spec (s : Int) (a : Option Addr) (n ca : Nat) (xs : List Int) (t : Int) (b : Option Addr) (m cb : Nat) (ys : List Int) (u : Int) (w : World) (ha : IntsAt w a n xs) (hn : xs.length ≤ 1048576) (hb : IntsAt w b m ys) (hm : ys.length ≤ 1048576) (h3 : -9223372036854775808 ≤ u) (h4 : u ≤ 9223372036854775807) :
    Calls Try.prog 53 #[can s a n ca t b m cb, .int .i64 u] w (CanC (SC s xs t ys u) s (ofZ s.toNat (mapL s xs u 0)) t ys w) := by
  obtain ⟨W0, hW⟩ : ∃ W0, W0 = (w.alloc (canCells s a n ca t b m cb 29)).alloc (canCells 0 none 0 0 0 none 0 0 29) := ⟨_, rfl⟩
  have HW := Lib.hid hW
  have HB := Lib.hid (show Below w.heap.size w W0 by rw [hW]; exact bel2 w _ _)
  have HT := Lib.hid (show Four W0 w.heap.size (.int .i64 s) (.slice a n ca) (.int .i64 t) (.slice b m cb) by rw [hW]; exact (four_new w _ _ _ _ _).keep (bel1 _ _))
  have HU := Lib.hid (show Bux W0 (w.heap.size + 1) (.int .i64 0) (.slice none 0 0) (.int .i64 0) (.slice none 0 0) 29 by
    rw [hW]
    have := bux_new (w.alloc (canCells s a n ca t b m cb 29)) (.int .i64 0) (.slice none 0 0) (.int .i64 0) (.slice none 0 0) 29
    simpa using this)
  have hz0 : w.heap.size + 1 < W0.heap.size := HU.out.lt
  have hz1 : W0.heap.size = w.heap.size + 2 := by rw [hW]; simp
  clear hW
  have hl : n ≤ 1048576 := by have := ha.1; omega
  have hlm : m ≤ 1048576 := by have := hb.1; omega
  have FA := Lib.hid ha
  have FB := Lib.hid hb
  clear ha hb
  have HC := Lib.hid (fun W hA hB => cok_spec s a n ca xs t b m cb ys W hA hn hB hm)
  have HST := Lib.hid (fun W hA => str_spec s a n ca xs u W hA hn h3 h4)
  by_cases hst : Ok s xs ∧ UC s u
  · have HST : Hid (∀ W, IntsAt W a n xs → Calls Try.prog 87 #[rhy s a n ca, .int .i64 u] W (RetPost s (ofZ s.toNat (mapL s xs u 0)) true W)) := Lib.hid (fun W hA => by have := HST.out W hA; unfold CPost at this; rwa [cS_yes hst, cZ_yes hst, cB_yes hst] at this)
    obtain ⟨L, hL⟩ : ∃ L, ofZ s.toNat (mapL s xs u 0) = L := ⟨_, rfl⟩
    rw [hL] at HST ⊢
    clear hL
    by_cases hc : CC s xs t ys
    · rw [cB_yes hc] at HC
      have HO := Lib.hid hc.1.1
      have HP := Lib.hid hc.1.2.1
      have HCC : Hid (SC s xs t ys u) := Lib.hid ⟨hst, hc⟩
      clear hc hst
      have EY : ofZ t.toNat (mapL t ys 1 0) = ys := rot_zero HP.out
      have HY : Hid (∀ W, Below w.heap.size w W → Calls Try.prog 80 #[rhy t b m cb, .int .i64 1, .int .i64 0] W (RhyPost t ys W)) := Lib.hid (fun W hW => by have := map_any t b m cb ys 1 0 W (FB.out.below hW) hlm HP.out (by omega) (by omega) (by omega) (by omega); rwa [EY] at this)
      clear EY
      go_enter Try.func53, Try.ntmps53
      go_wp2_with fail
      rw [← HW.out]
      refine (HST.out _ (FA.out.below HB.out)).mono ?_
      rintro e w1 ⟨p1, c1, rfl, hown1, hb1⟩
      have B1 := Lib.hid (HB.out.trans (hb1.mono HB.out.size))
      have T1 := Lib.hid (HT.out.keep hb1)
      have U1 := Lib.hid (HU.out.keep hb1 hz0)
      have hz3 : w.heap.size + 2 ≤ w1.heap.size := by have := hb1.size; omega
      obtain ⟨t0, t1, t2, t3, t4⟩ := T1.out
      obtain ⟨u0, u1, u2, u3, u5, u6, u7, u8⟩ := U1.out.facts
      have u4 := U1.out.lt
      have V1 := Lib.hid ((two_new w1 (.int .i64 s) (.slice p1 L.length c1) 25))
      have O1 := Lib.hid ((row_of (own_base hown1 (show w.heap.size + 2 ≤ W0.heap.size by omega))).keep (bel1 w1 (.cells #[.int .i64 s, .slice p1 L.length c1] 25)))
      have BA := Lib.hid (B1.out.trans ((bel1 w1 (.cells #[.int .i64 s, .slice p1 L.length c1] 25)).mono B1.out.size))
      clear hb1 hown1
      go_wp2_with fail
      refine (HC.out _ (FA.out.below BA.out) (FB.out.below BA.out)).mono ?_
      rintro e w2 ⟨rfl, hb2⟩
      have hz4 : w1.heap.size + 1 ≤ w2.heap.size := by have := hb2.size; simpa using this
      have B2 := Lib.hid (BA.out.trans (hb2.mono BA.out.size))
      have T2 := Lib.hid ((T1.out.keep (bel1 w1 (.cells #[.int .i64 s, .slice p1 L.length c1] 25))).keep hb2)
      have U2 := Lib.hid ((U1.out.keep (bel1 w1 (.cells #[.int .i64 s, .slice p1 L.length c1] 25)) u4).keep hb2 (by simp; omega))
      have V2 := Lib.hid (V1.out.keep hb2)
      have O2 := Lib.hid (O1.out.keep hb2)
      clear t0 t1 t2 t3 t4 u0 u1 u2 u3 u5 u6 u7 u8 u4 hb2
      obtain ⟨t0, t1, t2, t3, t4⟩ := T2.out
      have HK : Hid (∀ W, Four W w.heap.size (.int .i64 s) (.slice a n ca) (.int .i64 t) (.slice b m cb) → Two W w1.heap.size (.int .i64 s) (.slice p1 L.length c1) → Below w.heap.size w W → W.cell? ⟨w.heap.size, 0, none⟩ = some (.int .i64 s) ∧ W.cell? ⟨w.heap.size, 1, none⟩ = some (.slice a n ca) ∧ W.cell? ⟨w.heap.size, 2, none⟩ = some (.int .i64 t) ∧ W.cell? ⟨w.heap.size, 3, none⟩ = some (.slice b m cb) ∧ W.cell? ⟨w1.heap.size, 0, none⟩ = some (.int .i64 s) ∧ W.cell? ⟨w1.heap.size, 1, none⟩ = some (.slice p1 L.length c1) ∧ Below w.heap.size w W) :=
        Lib.hid (fun W hT hV hW => ⟨hT.2.1, hT.2.2.1, hT.2.2.2.1, hT.2.2.2.2, hV.2.1, hV.2.2, hW⟩)
      have T3 := Lib.hid (T2.out.keep (Below.refl w2.heap.size w2).drew)
      have V3 := Lib.hid (V2.out.keep (Below.refl w2.heap.size w2).drew)
      have B3 := Lib.hid (B2.out.trans ((Below.refl w2.heap.size w2).drew.mono B2.out.size))
      have U3 := Lib.hid (U2.out.keep (Below.refl w2.heap.size w2).drew (by omega))
      have O3 := Lib.hid (O2.out.keep (Below.refl w2.heap.size w2).drew)
      have hdz : w2.drew.heap.size = w2.heap.size := rfl
      go_wp2
      go_region_held3 (fun W => W.cell? ⟨w.heap.size, 0, none⟩ = some (.int .i64 s) ∧ W.cell? ⟨w.heap.size, 1, none⟩ = some (.slice a n ca) ∧ W.cell? ⟨w.heap.size, 2, none⟩ = some (.int .i64 t) ∧ W.cell? ⟨w.heap.size, 3, none⟩ = some (.slice b m cb) ∧ W.cell? ⟨w1.heap.size, 0, none⟩ = some (.int .i64 s) ∧ W.cell? ⟨w1.heap.size, 1, none⟩ = some (.slice p1 L.length c1) ∧ Below w.heap.size w W)
        (first | exact HK.out _ T3.out V3.out B3.out | exact HK.out _ T4.out V4.out B4.out | exact HK.out _ (T4.out.set4 (by omega)) (two_set4 V4.out (by omega)) (below_set4 B4.out (by omega)))
        ((go_at_call 80; refine (HY.out _ B3.out).mono ?_; rintro e w3 ⟨p3, c3, rfl, hown3, hc3⟩; have T4 := Lib.hid (T3.out.keep hc3); have V4 := Lib.hid (V3.out.keep hc3); have U4 := Lib.hid (U3.out.keep hc3 (by omega)); have B4 := Lib.hid (B3.out.trans (hc3.mono B3.out.size)); have R4 : Hid (RowC w3 (w.heap.size + 2) w3.heap.size p1 c1 L p3 c3 ys) := Lib.hid (RowC.of (m := w2.heap.size) (by omega) hc3.size (Row.wide (O3.out.keep hc3) (Nat.le_refl _) (by omega) hc3.size) (row_of hown3)); obtain ⟨q0, q1, q2, q3, q5, q6, q7, q8⟩ := U4.out.facts; have q4 := U4.out.lt; have hz5 := hc3.size; clear hown3 hc3))
      rename_i hh
      clear hh q0 q1 q2 q3 q5 q6 q7 q8
      obtain ⟨e0, e1, e2, e3, e5, e6, e7, e8⟩ := ((((U4.out.set0 (.int .i64 s)).set1 (.slice p1 L.length c1)).set2 (.int .i64 t)).set3 (.slice p3 ys.length c3)).facts
      go_wp2
      refine bodyPost_ret (v := .tuple #[can s p1 L.length c1 t p3 ys.length c3, .bool true]) (by simp [results, Try.results53, go_sem, *]) rfl (canc_yes (lo := w.heap.size + 2) HCC.out ?_ (by omega) (below_set4 B4.out (by omega)))
      have := rowC_set4 R4.out (g := w.heap.size + 1) (x := .int .i64 s) (y := .slice p1 L.length c1) (u := .int .i64 t) (v := .slice p3 ys.length c3) (by omega)
      simpa using this
    · rw [cB_no hc] at HC
      have HN : Hid (¬ SC s xs t ys u) := Lib.hid (fun h => hc h.2)
      clear hc hst
      go_enter Try.func53, Try.ntmps53
      go_wp2_with fail
      rw [← HW.out]
      refine (HST.out _ (FA.out.below HB.out)).mono ?_
      rintro e w1 ⟨p1, c1, rfl, hown1, hb1⟩
      have B1 := Lib.hid (HB.out.trans (hb1.mono HB.out.size))
      have T1 := Lib.hid (HT.out.keep hb1)
      have U1 := Lib.hid (HU.out.keep hb1 hz0)
      have hz3 : w.heap.size + 2 ≤ w1.heap.size := by have := hb1.size; omega
      obtain ⟨t0, t1, t2, t3, t4⟩ := T1.out
      obtain ⟨u0, u1, u2, u3, u5, u6, u7, u8⟩ := U1.out.facts
      have u4 := U1.out.lt
      have BA := Lib.hid (B1.out.trans ((bel1 w1 (.cells #[.int .i64 s, .slice p1 L.length c1] 25)).mono B1.out.size))
      go_wp2_with fail
      refine (HC.out _ (FA.out.below BA.out) (FB.out.below BA.out)).mono ?_
      rintro e w2 ⟨rfl, hb2⟩
      have B2 := Lib.hid (BA.out.trans (hb2.mono BA.out.size))
      have U2 := Lib.hid ((U1.out.keep (bel1 w1 (.cells #[.int .i64 s, .slice p1 L.length c1] 25)) u4).keep hb2 (by simp; omega))
      clear t0 t1 t2 t3 t4 u0 u1 u2 u3 u5 u6 u7 u8 u4 hb2
      obtain ⟨u0, u1, u2, u3, u5, u6, u7, u8⟩ := U2.out.facts
      have u4 := U2.out.lt
      go_wp2
      refine bodyPost_ret (v := .tuple #[can 0 none 0 0 0 none 0 0, .bool false]) (by simp [results, Try.results53, go_sem, *]) rfl (canc_no HN.out ?_)
      exact below_set4 B2.out (by omega)
  · have HST : Hid (∀ W, IntsAt W a n xs → Calls Try.prog 87 #[rhy s a n ca, .int .i64 u] W (RetPost 0 [] false W)) := Lib.hid (fun W hA => by have := HST.out W hA; unfold CPost at this; rwa [cS_no hst, cZ_no hst, cB_no hst] at this)
    have HN : Hid (¬ SC s xs t ys u) := Lib.hid (fun h => hst h.1)
    clear hst
    go_enter Try.func53, Try.ntmps53
    go_wp2_with fail
    rw [← HW.out]
    refine (HST.out _ (FA.out.below HB.out)).mono ?_
    rintro e w1 ⟨p1, c1, rfl, hown1, hb1⟩
    have B1 := Lib.hid (HB.out.trans (hb1.mono HB.out.size))
    have T1 := Lib.hid (HT.out.keep hb1)
    have U1 := Lib.hid (HU.out.keep hb1 hz0)
    have hz3 : w.heap.size + 2 ≤ w1.heap.size := by have := hb1.size; omega
    obtain ⟨t0, t1, t2, t3, t4⟩ := T1.out
    obtain ⟨u0, u1, u2, u3, u5, u6, u7, u8⟩ := U1.out.facts
    have u4 := U1.out.lt
    have B1' := B1
    go_wp2
    have BA := Lib.hid (B1.out.trans ((bel1 w1 (.cells #[.int .i64 0, .slice p1 ([] : List Int).length c1] 25)).mono B1.out.size))
    refine bodyPost_ret (v := .tuple #[can 0 none 0 0 0 none 0 0, .bool false]) (by simp [results, Try.results53, go_sem, *]) rfl (canc_no HN.out ?_)
    exact (below_set4 B1.out (by omega)).alloc (by have := B1.out.size; simpa using this) _
set_option maxHeartbeats 2000000 in
set_option maxRecDepth 100000 in
theorem stc_impl (s : Int) (a : Option Addr) (n ca : Nat) (xs : List Int) (t : Int) (b : Option Addr) (m cb : Nat) (ys : List Int) (u : Int) (w : World) (ha : IntsAt w a n xs) (hn : xs.length ≤ 1048576) (hb : IntsAt w b m ys) (hm : ys.length ≤ 1048576) (h3 : -9223372036854775808 ≤ u) (h4 : u ≤ 9223372036854775807) :
    Calls Try.prog 54 #[can s a n ca t b m cb, .int .i64 u] w (CanC (SC s xs t ys u) s (ofZ s.toNat (mapL s xs u 0)) t ys w) := by
  obtain ⟨W0, hW⟩ : ∃ W0, W0 = (w.alloc (canCells s a n ca t b m cb 29)).alloc (canCells 0 none 0 0 0 none 0 0 29) := ⟨_, rfl⟩
  have HW := Lib.hid hW
  have HB := Lib.hid (show Below w.heap.size w W0 by rw [hW]; exact bel2 w _ _)
  have HT := Lib.hid (show Four W0 w.heap.size (.int .i64 s) (.slice a n ca) (.int .i64 t) (.slice b m cb) by rw [hW]; exact (four_new w _ _ _ _ _).keep (bel1 _ _))
  have HU := Lib.hid (show Bux W0 (w.heap.size + 1) (.int .i64 0) (.slice none 0 0) (.int .i64 0) (.slice none 0 0) 29 by
    rw [hW]
    have := bux_new (w.alloc (canCells s a n ca t b m cb 29)) (.int .i64 0) (.slice none 0 0) (.int .i64 0) (.slice none 0 0) 29
    simpa using this)
  have hz0 : w.heap.size + 1 < W0.heap.size := HU.out.lt
  have hz1 : W0.heap.size = w.heap.size + 2 := by rw [hW]; simp
  clear hW
  have hl : n ≤ 1048576 := by have := ha.1; omega
  have hlm : m ≤ 1048576 := by have := hb.1; omega
  have FA := Lib.hid ha
  have FB := Lib.hid hb
  clear ha hb
  have HC := Lib.hid (fun W hA hB => cval_impl s a n ca xs t b m cb ys W hA hn hB hm)
  have HST := Lib.hid (fun W hA => str_impl s a n ca xs u W hA hn h3 h4)
  by_cases hst : Ok s xs ∧ UC s u
  · have HST : Hid (∀ W, IntsAt W a n xs → Calls Try.prog 88 #[rhy s a n ca, .int .i64 u] W (RetPost s (ofZ s.toNat (mapL s xs u 0)) true W)) := Lib.hid (fun W hA => by have := HST.out W hA; unfold CPost at this; rwa [cS_yes hst, cZ_yes hst, cB_yes hst] at this)
    obtain ⟨L, hL⟩ : ∃ L, ofZ s.toNat (mapL s xs u 0) = L := ⟨_, rfl⟩
    rw [hL] at HST ⊢
    clear hL
    by_cases hc : CC s xs t ys
    · rw [cB_yes hc] at HC
      have HO := Lib.hid hc.1.1
      have HP := Lib.hid hc.1.2.1
      have HCC : Hid (SC s xs t ys u) := Lib.hid ⟨hst, hc⟩
      clear hc hst
      have HY : Hid (∀ W, Below w.heap.size w W → Calls Try.prog 63 #[rhy t b m cb] W (RhyPost t ys W)) := Lib.hid (fun W hW => copied_impl t b m cb ys W (FB.out.below hW) hlm)
      go_enter Try.func54, Try.ntmps54
      go_wp2_with fail
      rw [← HW.out]
      refine (HST.out _ (FA.out.below HB.out)).mono ?_
      rintro e w1 ⟨p1, c1, rfl, hown1, hb1⟩
      have B1 := Lib.hid (HB.out.trans (hb1.mono HB.out.size))
      have T1 := Lib.hid (HT.out.keep hb1)
      have U1 := Lib.hid (HU.out.keep hb1 hz0)
      have hz3 : w.heap.size + 2 ≤ w1.heap.size := by have := hb1.size; omega
      obtain ⟨t0, t1, t2, t3, t4⟩ := T1.out
      obtain ⟨u0, u1, u2, u3, u5, u6, u7, u8⟩ := U1.out.facts
      have u4 := U1.out.lt
      have V1 := Lib.hid ((two_new w1 (.int .i64 s) (.slice p1 L.length c1) 25))
      have O1 := Lib.hid ((row_of (own_base hown1 (show w.heap.size + 2 ≤ W0.heap.size by omega))).keep (bel1 w1 (.cells #[.int .i64 s, .slice p1 L.length c1] 25)))
      have BA := Lib.hid (B1.out.trans ((bel1 w1 (.cells #[.int .i64 s, .slice p1 L.length c1] 25)).mono B1.out.size))
      clear hb1 hown1
      go_wp2_with fail
      refine (HC.out _ (FA.out.below BA.out) (FB.out.below BA.out)).mono ?_
      rintro e w2 ⟨rfl, hb2⟩
      have hz4 : w1.heap.size + 1 ≤ w2.heap.size := by have := hb2.size; simpa using this
      have B2 := Lib.hid (BA.out.trans (hb2.mono BA.out.size))
      have T2 := Lib.hid ((T1.out.keep (bel1 w1 (.cells #[.int .i64 s, .slice p1 L.length c1] 25))).keep hb2)
      have U2 := Lib.hid ((U1.out.keep (bel1 w1 (.cells #[.int .i64 s, .slice p1 L.length c1] 25)) u4).keep hb2 (by simp; omega))
      have V2 := Lib.hid (V1.out.keep hb2)
      have O2 := Lib.hid (O1.out.keep hb2)
      clear t0 t1 t2 t3 t4 u0 u1 u2 u3 u5 u6 u7 u8 u4 hb2
      obtain ⟨t0, t1, t2, t3, t4⟩ := T2.out
      have HK : Hid (∀ W, Four W w.heap.size (.int .i64 s) (.slice a n ca) (.int .i64 t) (.slice b m cb) → Two W w1.heap.size (.int .i64 s) (.slice p1 L.length c1) → Below w.heap.size w W → W.cell? ⟨w.heap.size, 0, none⟩ = some (.int .i64 s) ∧ W.cell? ⟨w.heap.size, 1, none⟩ = some (.slice a n ca) ∧ W.cell? ⟨w.heap.size, 2, none⟩ = some (.int .i64 t) ∧ W.cell? ⟨w.heap.size, 3, none⟩ = some (.slice b m cb) ∧ W.cell? ⟨w1.heap.size, 0, none⟩ = some (.int .i64 s) ∧ W.cell? ⟨w1.heap.size, 1, none⟩ = some (.slice p1 L.length c1) ∧ Below w.heap.size w W) :=
        Lib.hid (fun W hT hV hW => ⟨hT.2.1, hT.2.2.1, hT.2.2.2.1, hT.2.2.2.2, hV.2.1, hV.2.2, hW⟩)
      have T3 := Lib.hid (T2.out.keep (Below.refl w2.heap.size w2).drew)
      have V3 := Lib.hid (V2.out.keep (Below.refl w2.heap.size w2).drew)
      have B3 := Lib.hid (B2.out.trans ((Below.refl w2.heap.size w2).drew.mono B2.out.size))
      have U3 := Lib.hid (U2.out.keep (Below.refl w2.heap.size w2).drew (by omega))
      have O3 := Lib.hid (O2.out.keep (Below.refl w2.heap.size w2).drew)
      have hdz : w2.drew.heap.size = w2.heap.size := rfl
      go_wp2
      go_region_held3 (fun W => W.cell? ⟨w.heap.size, 0, none⟩ = some (.int .i64 s) ∧ W.cell? ⟨w.heap.size, 1, none⟩ = some (.slice a n ca) ∧ W.cell? ⟨w.heap.size, 2, none⟩ = some (.int .i64 t) ∧ W.cell? ⟨w.heap.size, 3, none⟩ = some (.slice b m cb) ∧ W.cell? ⟨w1.heap.size, 0, none⟩ = some (.int .i64 s) ∧ W.cell? ⟨w1.heap.size, 1, none⟩ = some (.slice p1 L.length c1) ∧ Below w.heap.size w W)
        (first | exact HK.out _ T3.out V3.out B3.out | exact HK.out _ T4.out V4.out B4.out | exact HK.out _ (T4.out.set4 (by omega)) (two_set4 V4.out (by omega)) (below_set4 B4.out (by omega)))
        ((go_at_call 63; refine (HY.out _ B3.out).mono ?_; rintro e w3 ⟨p3, c3, rfl, hown3, hc3⟩; have T4 := Lib.hid (T3.out.keep hc3); have V4 := Lib.hid (V3.out.keep hc3); have U4 := Lib.hid (U3.out.keep hc3 (by omega)); have B4 := Lib.hid (B3.out.trans (hc3.mono B3.out.size)); have R4 : Hid (RowC w3 (w.heap.size + 2) w3.heap.size p1 c1 L p3 c3 ys) := Lib.hid (RowC.of (m := w2.heap.size) (by omega) hc3.size (Row.wide (O3.out.keep hc3) (Nat.le_refl _) (by omega) hc3.size) (row_of hown3)); obtain ⟨q0, q1, q2, q3, q5, q6, q7, q8⟩ := U4.out.facts; have q4 := U4.out.lt; have hz5 := hc3.size; clear hown3 hc3))
      rename_i hh
      clear hh q0 q1 q2 q3 q5 q6 q7 q8
      obtain ⟨e0, e1, e2, e3, e5, e6, e7, e8⟩ := ((((U4.out.set0 (.int .i64 s)).set1 (.slice p1 L.length c1)).set2 (.int .i64 t)).set3 (.slice p3 ys.length c3)).facts
      go_wp2
      refine bodyPost_ret (v := .tuple #[can s p1 L.length c1 t p3 ys.length c3, .bool true]) (by simp [results, Try.results54, go_sem, *]) rfl (canc_yes (lo := w.heap.size + 2) HCC.out ?_ (by omega) (below_set4 B4.out (by omega)))
      have := rowC_set4 R4.out (g := w.heap.size + 1) (x := .int .i64 s) (y := .slice p1 L.length c1) (u := .int .i64 t) (v := .slice p3 ys.length c3) (by omega)
      simpa using this
    · rw [cB_no hc] at HC
      have HN : Hid (¬ SC s xs t ys u) := Lib.hid (fun h => hc h.2)
      clear hc hst
      go_enter Try.func54, Try.ntmps54
      go_wp2_with fail
      rw [← HW.out]
      refine (HST.out _ (FA.out.below HB.out)).mono ?_
      rintro e w1 ⟨p1, c1, rfl, hown1, hb1⟩
      have B1 := Lib.hid (HB.out.trans (hb1.mono HB.out.size))
      have T1 := Lib.hid (HT.out.keep hb1)
      have U1 := Lib.hid (HU.out.keep hb1 hz0)
      have hz3 : w.heap.size + 2 ≤ w1.heap.size := by have := hb1.size; omega
      obtain ⟨t0, t1, t2, t3, t4⟩ := T1.out
      obtain ⟨u0, u1, u2, u3, u5, u6, u7, u8⟩ := U1.out.facts
      have u4 := U1.out.lt
      have BA := Lib.hid (B1.out.trans ((bel1 w1 (.cells #[.int .i64 s, .slice p1 L.length c1] 25)).mono B1.out.size))
      go_wp2_with fail
      refine (HC.out _ (FA.out.below BA.out) (FB.out.below BA.out)).mono ?_
      rintro e w2 ⟨rfl, hb2⟩
      have B2 := Lib.hid (BA.out.trans (hb2.mono BA.out.size))
      have U2 := Lib.hid ((U1.out.keep (bel1 w1 (.cells #[.int .i64 s, .slice p1 L.length c1] 25)) u4).keep hb2 (by simp; omega))
      clear t0 t1 t2 t3 t4 u0 u1 u2 u3 u5 u6 u7 u8 u4 hb2
      obtain ⟨u0, u1, u2, u3, u5, u6, u7, u8⟩ := U2.out.facts
      have u4 := U2.out.lt
      go_wp2
      refine bodyPost_ret (v := .tuple #[can 0 none 0 0 0 none 0 0, .bool false]) (by simp [results, Try.results54, go_sem, *]) rfl (canc_no HN.out ?_)
      exact below_set4 B2.out (by omega)
  · have HST : Hid (∀ W, IntsAt W a n xs → Calls Try.prog 88 #[rhy s a n ca, .int .i64 u] W (RetPost 0 [] false W)) := Lib.hid (fun W hA => by have := HST.out W hA; unfold CPost at this; rwa [cS_no hst, cZ_no hst, cB_no hst] at this)
    have HN : Hid (¬ SC s xs t ys u) := Lib.hid (fun h => hst h.1)
    clear hst
    go_enter Try.func54, Try.ntmps54
    go_wp2_with fail
    rw [← HW.out]
    refine (HST.out _ (FA.out.below HB.out)).mono ?_
    rintro e w1 ⟨p1, c1, rfl, hown1, hb1⟩
    have B1 := Lib.hid (HB.out.trans (hb1.mono HB.out.size))
    have T1 := Lib.hid (HT.out.keep hb1)
    have U1 := Lib.hid (HU.out.keep hb1 hz0)
    have hz3 : w.heap.size + 2 ≤ w1.heap.size := by have := hb1.size; omega
    obtain ⟨t0, t1, t2, t3, t4⟩ := T1.out
    obtain ⟨u0, u1, u2, u3, u5, u6, u7, u8⟩ := U1.out.facts
    have u4 := U1.out.lt
    have B1' := B1
    go_wp2
    have BA := Lib.hid (B1.out.trans ((bel1 w1 (.cells #[.int .i64 0, .slice p1 ([] : List Int).length c1] 25)).mono B1.out.size))
    refine bodyPost_ret (v := .tuple #[can 0 none 0 0 0 none 0 0, .bool false]) (by simp [results, Try.results54, go_sem, *]) rfl (canc_no HN.out ?_)
    exact (below_set4 B1.out (by omega)).alloc (by have := B1.out.size; simpa using this) _
set_option maxHeartbeats 2000000 in
set_option maxRecDepth 100000 in
theorem roc_spec (s : Int) (a : Option Addr) (n ca : Nat) (xs : List Int) (t : Int) (b : Option Addr) (m cb : Nat) (ys : List Int) (i o : Int) (w : World) (ha : IntsAt w a n xs) (hn : xs.length ≤ 1048576) (hb : IntsAt w b m ys) (hm : ys.length ≤ 1048576) (h3 : -9223372036854775808 ≤ i) (h4 : i ≤ 9223372036854775807) (h5 : -9223372036854775808 ≤ o) (h6 : o ≤ 9223372036854775807) :
    Calls Try.prog 52 #[can s a n ca t b m cb, .int .i64 i, .int .i64 o] w (CanC (RC s xs t ys i o) s (ofZ s.toNat (mapL s xs 1 i)) t (ofZ t.toNat (mapL t ys 1 o)) w) := by
  obtain ⟨W0, hW⟩ : ∃ W0, W0 = (w.alloc (canCells s a n ca t b m cb 29)).alloc (canCells 0 none 0 0 0 none 0 0 29) := ⟨_, rfl⟩
  have HW := Lib.hid hW
  have HB := Lib.hid (show Below w.heap.size w W0 by rw [hW]; exact bel2 w _ _)
  have HT := Lib.hid (show Four W0 w.heap.size (.int .i64 s) (.slice a n ca) (.int .i64 t) (.slice b m cb) by rw [hW]; exact (four_new w _ _ _ _ _).keep (bel1 _ _))
  have HU := Lib.hid (show Bux W0 (w.heap.size + 1) (.int .i64 0) (.slice none 0 0) (.int .i64 0) (.slice none 0 0) 29 by
    rw [hW]
    have := bux_new (w.alloc (canCells s a n ca t b m cb 29)) (.int .i64 0) (.slice none 0 0) (.int .i64 0) (.slice none 0 0) 29
    simpa using this)
  have hz0 : w.heap.size + 1 < W0.heap.size := HU.out.lt
  have hz1 : W0.heap.size = w.heap.size + 2 := by rw [hW]; simp
  clear hW
  have hl : n ≤ 1048576 := by have := ha.1; omega
  have hlm : m ≤ 1048576 := by have := hb.1; omega
  have FA := Lib.hid ha
  have FB := Lib.hid hb
  clear ha hb
  have HC := Lib.hid (fun W hA hB => cok_spec s a n ca xs t b m cb ys W hA hn hB hm)
  have H1 := Lib.hid (fun W hA => rot_spec s a n ca xs i W hA hn h3 h4)
  have H2 := Lib.hid (fun W hB => rot_spec t b m cb ys o W hB hm h5 h6)
  unfold CPost at H1 H2
  by_cases g1 : RotC s xs i
  · rw [cS_yes g1, cZ_yes g1, cB_yes g1] at H1
    by_cases g2 : RotC t ys o
    · rw [cS_yes g2, cZ_yes g2, cB_yes g2] at H2
      by_cases hc : CC s xs t ys
      · rw [cB_yes hc] at HC
        have HCC : Hid (RC s xs t ys i o) := Lib.hid ⟨⟨g1, g2⟩, hc⟩
        clear hc g1 g2
        go_enter Try.func52, Try.ntmps52
        go_wp2_with fail
        rw [← HW.out]
        refine (H1.out _ (FA.out.below HB.out)).mono ?_
        rintro e w1 ⟨p1, c1, rfl, hown1, hb1⟩
        have B1 := Lib.hid (HB.out.trans (hb1.mono HB.out.size))
        have T1 := Lib.hid (HT.out.keep hb1)
        have U1 := Lib.hid (HU.out.keep hb1 hz0)
        have hz3 : w.heap.size + 2 ≤ w1.heap.size := by have := hb1.size; omega
        obtain ⟨t0, t1, t2, t3, t4⟩ := T1.out
        have O1 := Lib.hid ((row_of (own_base hown1 (show w.heap.size + 2 ≤ W0.heap.size by omega))).keep (bel1 w1 (.cells #[.int .i64 (s), .slice p1 (ofZ s.toNat (mapL s xs 1 i)).length c1] 25)))
        have BA := Lib.hid (B1.out.trans ((bel1 w1 (.cells #[.int .i64 (s), .slice p1 (ofZ s.toNat (mapL s xs 1 i)).length c1] 25)).mono B1.out.size))
        have V1 := Lib.hid (two_new w1 (.int .i64 (s)) (.slice p1 (ofZ s.toNat (mapL s xs 1 i)).length c1) 25)
        clear hb1 hown1
        go_wp2_with fail
        refine (H2.out _ (FB.out.below BA.out)).mono ?_
        rintro e w2 ⟨p2, c2, rfl, hown2, hb2⟩
        have hz4 : w1.heap.size + 1 ≤ w2.heap.size := by have := hb2.size; simpa using this
        have B2 := Lib.hid (BA.out.trans (hb2.mono BA.out.size))
        have T2 := Lib.hid ((T1.out.keep (bel1 w1 (.cells #[.int .i64 (s), .slice p1 (ofZ s.toNat (mapL s xs 1 i)).length c1] 25))).keep hb2)
        have U2 := Lib.hid ((U1.out.keep (bel1 w1 (.cells #[.int .i64 (s), .slice p1 (ofZ s.toNat (mapL s xs 1 i)).length c1] 25)) (by omega)).keep hb2 (by simp; omega))
        have V2 := Lib.hid (V1.out.keep hb2)
        have O2 := Lib.hid (O1.out.keep hb2)
        have P2 := Lib.hid (row_of hown2)
        clear t0 t1 t2 t3 t4 hb2 hown2
        obtain ⟨t0, t1, t2, t3, t4⟩ := T2.out
        obtain ⟨u0, u1, u2, u3, u5, u6, u7, u8⟩ := U2.out.facts
        have u4 := U2.out.lt
        have BB := Lib.hid (B2.out.trans ((bel1 w2 (.cells #[.int .i64 (t), .slice p2 (ofZ t.toNat (mapL t ys 1 o)).length c2] 25)).mono B2.out.size))
        go_wp2_with fail
        refine (HC.out _ (FA.out.below BB.out) (FB.out.below BB.out)).mono ?_
        rintro e w3 ⟨rfl, hb3⟩
        have hz5 : w2.heap.size + 1 ≤ w3.heap.size := by have := hb3.size; simpa using this
        have B3 := Lib.hid (BB.out.trans (hb3.mono BB.out.size))
        have U3 := Lib.hid ((U2.out.keep (bel1 w2 (.cells #[.int .i64 (t), .slice p2 (ofZ t.toNat (mapL t ys 1 o)).length c2] 25)) (by omega)).keep hb3 (by simp; omega))
        have V3 := Lib.hid ((V2.out.keep (bel1 w2 (.cells #[.int .i64 (t), .slice p2 (ofZ t.toNat (mapL t ys 1 o)).length c2] 25))).keep hb3)
        have X3 := Lib.hid ((two_new w2 (.int .i64 (t)) (.slice p2 (ofZ t.toNat (mapL t ys 1 o)).length c2) 25).keep hb3)
        have O3 := Lib.hid ((O2.out.keep (bel1 w2 (.cells #[.int .i64 (t), .slice p2 (ofZ t.toNat (mapL t ys 1 o)).length c2] 25))).keep hb3)
        have P3 := Lib.hid ((P2.out.keep (bel1 w2 (.cells #[.int .i64 (t), .slice p2 (ofZ t.toNat (mapL t ys 1 o)).length c2] 25))).keep hb3)
        clear t0 t1 t2 t3 t4 u0 u1 u2 u3 u5 u6 u7 u8 u4 hb3
        obtain ⟨u0, u1, u2, u3, u5, u6, u7, u8⟩ := U3.out.facts
        have u4 := U3.out.lt
        obtain ⟨v0, v1, v2⟩ := V3.out
        obtain ⟨x0, x1, x2⟩ := X3.out
        go_wp2
        obtain ⟨e0, e1, e2, e3, e5, e6, e7, e8⟩ := ((((U3.out.set0 (.int .i64 s)).set1 (.slice p1 (ofZ s.toNat (mapL s xs 1 i)).length c1)).set2 (.int .i64 t)).set3 (.slice p2 (ofZ t.toNat (mapL t ys 1 o)).length c2)).facts
        clear u0 u1 u2 u3 u5 u6 u7 u8
        refine bodyPost_ret (v := .tuple #[can s p1 (ofZ s.toNat (mapL s xs 1 i)).length c1 t p2 (ofZ t.toNat (mapL t ys 1 o)).length c2, .bool true]) (by simp [results, Try.results52, go_sem, *]) rfl (canc_yes (lo := w.heap.size + 2) HCC.out ?_ (by omega) (below_set4 B3.out (by omega)))
        have hR : RowC w3 (w.heap.size + 2) w3.heap.size p1 c1 (ofZ s.toNat (mapL s xs 1 i)) p2 c2 (ofZ t.toNat (mapL t ys 1 o)) := RowC.of (m := w1.heap.size) hz3 (by omega) O3.out (Row.wide P3.out (by simp) (by omega) (Nat.le_refl _))
        have := rowC_set4 hR (g := w.heap.size + 1) (x := .int .i64 s) (y := .slice p1 (ofZ s.toNat (mapL s xs 1 i)).length c1) (u := .int .i64 t) (v := .slice p2 (ofZ t.toNat (mapL t ys 1 o)).length c2) (by omega)
        simpa using this
      · rw [cB_no hc] at HC
        have HN : Hid (¬ RC s xs t ys i o) := Lib.hid (fun h => hc h.2)
        clear hc g1 g2
        go_enter Try.func52, Try.ntmps52
        go_wp2_with fail
        rw [← HW.out]
        refine (H1.out _ (FA.out.below HB.out)).mono ?_
        rintro e w1 ⟨p1, c1, rfl, hown1, hb1⟩
        have B1 := Lib.hid (HB.out.trans (hb1.mono HB.out.size))
        have T1 := Lib.hid (HT.out.keep hb1)
        have U1 := Lib.hid (HU.out.keep hb1 hz0)
        have hz3 : w.heap.size + 2 ≤ w1.heap.size := by have := hb1.size; omega
        obtain ⟨t0, t1, t2, t3, t4⟩ := T1.out
        have O1 := Lib.hid ((row_of (own_base hown1 (show w.heap.size + 2 ≤ W0.heap.size by omega))).keep (bel1 w1 (.cells #[.int .i64 (s), .slice p1 (ofZ s.toNat (mapL s xs 1 i)).length c1] 25)))
        have BA := Lib.hid (B1.out.trans ((bel1 w1 (.cells #[.int .i64 (s), .slice p1 (ofZ s.toNat (mapL s xs 1 i)).length c1] 25)).mono B1.out.size))
        have V1 := Lib.hid (two_new w1 (.int .i64 (s)) (.slice p1 (ofZ s.toNat (mapL s xs 1 i)).length c1) 25)
        clear hb1 hown1
        go_wp2_with fail
        refine (H2.out _ (FB.out.below BA.out)).mono ?_
        rintro e w2 ⟨p2, c2, rfl, hown2, hb2⟩
        have hz4 : w1.heap.size + 1 ≤ w2.heap.size := by have := hb2.size; simpa using this
        have B2 := Lib.hid (BA.out.trans (hb2.mono BA.out.size))
        have T2 := Lib.hid ((T1.out.keep (bel1 w1 (.cells #[.int .i64 (s), .slice p1 (ofZ s.toNat (mapL s xs 1 i)).length c1] 25))).keep hb2)
        have U2 := Lib.hid ((U1.out.keep (bel1 w1 (.cells #[.int .i64 (s), .slice p1 (ofZ s.toNat (mapL s xs 1 i)).length c1] 25)) (by omega)).keep hb2 (by simp; omega))
        have V2 := Lib.hid (V1.out.keep hb2)
        have O2 := Lib.hid (O1.out.keep hb2)
        have P2 := Lib.hid (row_of hown2)
        clear t0 t1 t2 t3 t4 hb2 hown2
        obtain ⟨t0, t1, t2, t3, t4⟩ := T2.out
        obtain ⟨u0, u1, u2, u3, u5, u6, u7, u8⟩ := U2.out.facts
        have u4 := U2.out.lt
        have BB := Lib.hid (B2.out.trans ((bel1 w2 (.cells #[.int .i64 (t), .slice p2 (ofZ t.toNat (mapL t ys 1 o)).length c2] 25)).mono B2.out.size))
        go_wp2_with fail
        refine (HC.out _ (FA.out.below BB.out) (FB.out.below BB.out)).mono ?_
        rintro e w3 ⟨rfl, hb3⟩
        have hz5 : w2.heap.size + 1 ≤ w3.heap.size := by have := hb3.size; simpa using this
        have B3 := Lib.hid (BB.out.trans (hb3.mono BB.out.size))
        have U3 := Lib.hid ((U2.out.keep (bel1 w2 (.cells #[.int .i64 (t), .slice p2 (ofZ t.toNat (mapL t ys 1 o)).length c2] 25)) (by omega)).keep hb3 (by simp; omega))
        have V3 := Lib.hid ((V2.out.keep (bel1 w2 (.cells #[.int .i64 (t), .slice p2 (ofZ t.toNat (mapL t ys 1 o)).length c2] 25))).keep hb3)
        have X3 := Lib.hid ((two_new w2 (.int .i64 (t)) (.slice p2 (ofZ t.toNat (mapL t ys 1 o)).length c2) 25).keep hb3)
        have O3 := Lib.hid ((O2.out.keep (bel1 w2 (.cells #[.int .i64 (t), .slice p2 (ofZ t.toNat (mapL t ys 1 o)).length c2] 25))).keep hb3)
        have P3 := Lib.hid ((P2.out.keep (bel1 w2 (.cells #[.int .i64 (t), .slice p2 (ofZ t.toNat (mapL t ys 1 o)).length c2] 25))).keep hb3)
        clear t0 t1 t2 t3 t4 u0 u1 u2 u3 u5 u6 u7 u8 u4 hb3
        obtain ⟨u0, u1, u2, u3, u5, u6, u7, u8⟩ := U3.out.facts
        have u4 := U3.out.lt
        obtain ⟨v0, v1, v2⟩ := V3.out
        obtain ⟨x0, x1, x2⟩ := X3.out
        go_wp2
        refine bodyPost_ret (v := .tuple #[can 0 none 0 0 0 none 0 0, .bool false]) (by simp [results, Try.results52, go_sem, *]) rfl (canc_no HN.out ?_)
        exact below_set4 B3.out (by omega)
    · rw [cS_no g2, cZ_no g2, cB_no g2] at H2
      have HN : Hid (¬ RC s xs t ys i o) := Lib.hid (fun h => g2 h.1.2)
      clear g1 g2
      go_enter Try.func52, Try.ntmps52
      go_wp2_with fail
      rw [← HW.out]
      refine (H1.out _ (FA.out.below HB.out)).mono ?_
      rintro e w1 ⟨p1, c1, rfl, hown1, hb1⟩
      have B1 := Lib.hid (HB.out.trans (hb1.mono HB.out.size))
      have T1 := Lib.hid (HT.out.keep hb1)
      have U1 := Lib.hid (HU.out.keep hb1 hz0)
      have hz3 : w.heap.size + 2 ≤ w1.heap.size := by have := hb1.size; omega
      obtain ⟨t0, t1, t2, t3, t4⟩ := T1.out
      have O1 := Lib.hid ((row_of (own_base hown1 (show w.heap.size + 2 ≤ W0.heap.size by omega))).keep (bel1 w1 (.cells #[.int .i64 (s), .slice p1 (ofZ s.toNat (mapL s xs 1 i)).length c1] 25)))
      have BA := Lib.hid (B1.out.trans ((bel1 w1 (.cells #[.int .i64 (s), .slice p1 (ofZ s.toNat (mapL s xs 1 i)).length c1] 25)).mono B1.out.size))
      have V1 := Lib.hid (two_new w1 (.int .i64 (s)) (.slice p1 (ofZ s.toNat (mapL s xs 1 i)).length c1) 25)
      clear hb1 hown1
      go_wp2_with fail
      refine (H2.out _ (FB.out.below BA.out)).mono ?_
      rintro e w2 ⟨p2, c2, rfl, hown2, hb2⟩
      have hz4 : w1.heap.size + 1 ≤ w2.heap.size := by have := hb2.size; simpa using this
      have B2 := Lib.hid (BA.out.trans (hb2.mono BA.out.size))
      have T2 := Lib.hid ((T1.out.keep (bel1 w1 (.cells #[.int .i64 (s), .slice p1 (ofZ s.toNat (mapL s xs 1 i)).length c1] 25))).keep hb2)
      have U2 := Lib.hid ((U1.out.keep (bel1 w1 (.cells #[.int .i64 (s), .slice p1 (ofZ s.toNat (mapL s xs 1 i)).length c1] 25)) (by omega)).keep hb2 (by simp; omega))
      have V2 := Lib.hid (V1.out.keep hb2)
      have O2 := Lib.hid (O1.out.keep hb2)
      have P2 := Lib.hid (row_of hown2)
      clear t0 t1 t2 t3 t4 hb2 hown2
      obtain ⟨t0, t1, t2, t3, t4⟩ := T2.out
      obtain ⟨u0, u1, u2, u3, u5, u6, u7, u8⟩ := U2.out.facts
      have u4 := U2.out.lt
      go_wp2
      refine bodyPost_ret (v := .tuple #[can 0 none 0 0 0 none 0 0, .bool false]) (by simp [results, Try.results52, go_sem, *]) rfl (canc_no HN.out ?_)
      exact (below_set4 B2.out (by omega)).alloc (by have := B2.out.size; simpa using this) _
  · rw [cS_no g1, cZ_no g1, cB_no g1] at H1
    have HN : Hid (¬ RC s xs t ys i o) := Lib.hid (fun h => g1 h.1.1)
    clear g1
    go_enter Try.func52, Try.ntmps52
    go_wp2_with fail
    rw [← HW.out]
    refine (H1.out _ (FA.out.below HB.out)).mono ?_
    rintro e w1 ⟨p1, c1, rfl, hown1, hb1⟩
    have B1 := Lib.hid (HB.out.trans (hb1.mono HB.out.size))
    have T1 := Lib.hid (HT.out.keep hb1)
    have U1 := Lib.hid (HU.out.keep hb1 hz0)
    have hz3 : w.heap.size + 2 ≤ w1.heap.size := by have := hb1.size; omega
    obtain ⟨t0, t1, t2, t3, t4⟩ := T1.out
    have O1 := Lib.hid ((row_of (own_base hown1 (show w.heap.size + 2 ≤ W0.heap.size by omega))).keep (bel1 w1 (.cells #[.int .i64 (0), .slice p1 (([] : List Int)).length c1] 25)))
    have BA := Lib.hid (B1.out.trans ((bel1 w1 (.cells #[.int .i64 (0), .slice p1 (([] : List Int)).length c1] 25)).mono B1.out.size))
    have V1 := Lib.hid (two_new w1 (.int .i64 (0)) (.slice p1 (([] : List Int)).length c1) 25)
    clear hb1 hown1
    go_wp2_with fail
    refine (H2.out _ (FB.out.below BA.out)).mono ?_
    rintro e w2 ⟨p2, c2, rfl, hown2, hb2⟩
    have hz4 : w1.heap.size + 1 ≤ w2.heap.size := by have := hb2.size; simpa using this
    have B2 := Lib.hid (BA.out.trans (hb2.mono BA.out.size))
    have T2 := Lib.hid ((T1.out.keep (bel1 w1 (.cells #[.int .i64 (0), .slice p1 (([] : List Int)).length c1] 25))).keep hb2)
    have U2 := Lib.hid ((U1.out.keep (bel1 w1 (.cells #[.int .i64 (0), .slice p1 (([] : List Int)).length c1] 25)) (by omega)).keep hb2 (by simp; omega))
    have V2 := Lib.hid (V1.out.keep hb2)
    have O2 := Lib.hid (O1.out.keep hb2)
    have P2 := Lib.hid (row_of hown2)
    clear t0 t1 t2 t3 t4 hb2 hown2
    obtain ⟨t0, t1, t2, t3, t4⟩ := T2.out
    obtain ⟨u0, u1, u2, u3, u5, u6, u7, u8⟩ := U2.out.facts
    have u4 := U2.out.lt
    go_wp2
    refine bodyPost_ret (v := .tuple #[can 0 none 0 0 0 none 0 0, .bool false]) (by simp [results, Try.results52, go_sem, *]) rfl (canc_no HN.out ?_)
    exact (below_set4 B2.out (by omega)).alloc (by have := B2.out.size; simpa using this) _

set_option maxHeartbeats 2000000 in
set_option maxRecDepth 100000 in
theorem roc_impl (s : Int) (a : Option Addr) (n ca : Nat) (xs : List Int) (t : Int) (b : Option Addr) (m cb : Nat) (ys : List Int) (i o : Int) (w : World) (ha : IntsAt w a n xs) (hn : xs.length ≤ 1048576) (hb : IntsAt w b m ys) (hm : ys.length ≤ 1048576) (h3 : -9223372036854775808 ≤ i) (h4 : i ≤ 9223372036854775807) (h5 : -9223372036854775808 ≤ o) (h6 : o ≤ 9223372036854775807) :
    Calls Try.prog 17 #[can s a n ca t b m cb, .int .i64 i, .int .i64 o] w (CanC (RC s xs t ys i o) s (ofZ s.toNat (mapL s xs 1 i)) t (ofZ t.toNat (mapL t ys 1 o)) w) := by
  obtain ⟨W0, hW⟩ : ∃ W0, W0 = (w.alloc (canCells s a n ca t b m cb 29)).alloc (canCells 0 none 0 0 0 none 0 0 29) := ⟨_, rfl⟩
  have HW := Lib.hid hW
  have HB := Lib.hid (show Below w.heap.size w W0 by rw [hW]; exact bel2 w _ _)
  have HT := Lib.hid (show Four W0 w.heap.size (.int .i64 s) (.slice a n ca) (.int .i64 t) (.slice b m cb) by rw [hW]; exact (four_new w _ _ _ _ _).keep (bel1 _ _))
  have HU := Lib.hid (show Bux W0 (w.heap.size + 1) (.int .i64 0) (.slice none 0 0) (.int .i64 0) (.slice none 0 0) 29 by
    rw [hW]
    have := bux_new (w.alloc (canCells s a n ca t b m cb 29)) (.int .i64 0) (.slice none 0 0) (.int .i64 0) (.slice none 0 0) 29
    simpa using this)
  have hz0 : w.heap.size + 1 < W0.heap.size := HU.out.lt
  have hz1 : W0.heap.size = w.heap.size + 2 := by rw [hW]; simp
  clear hW
  have hl : n ≤ 1048576 := by have := ha.1; omega
  have hlm : m ≤ 1048576 := by have := hb.1; omega
  have FA := Lib.hid ha
  have FB := Lib.hid hb
  clear ha hb
  have HC := Lib.hid (fun W hA hB => cval_impl s a n ca xs t b m cb ys W hA hn hB hm)
  have H1 := Lib.hid (fun W hA => rot_impl s a n ca xs i W hA hn h3 h4)
  have H2 := Lib.hid (fun W hB => rot_impl t b m cb ys o W hB hm h5 h6)
  unfold CPost at H1 H2
  by_cases g1 : RotC s xs i
  · rw [cS_yes g1, cZ_yes g1, cB_yes g1] at H1
    by_cases g2 : RotC t ys o
    · rw [cS_yes g2, cZ_yes g2, cB_yes g2] at H2
      by_cases hc : CC s xs t ys
      · rw [cB_yes hc] at HC
        have HCC : Hid (RC s xs t ys i o) := Lib.hid ⟨⟨g1, g2⟩, hc⟩
        clear hc g1 g2
        go_enter Try.func17, Try.ntmps17
        go_wp2_with fail
        rw [← HW.out]
        refine (H1.out _ (FA.out.below HB.out)).mono ?_
        rintro e w1 ⟨p1, c1, rfl, hown1, hb1⟩
        have B1 := Lib.hid (HB.out.trans (hb1.mono HB.out.size))
        have T1 := Lib.hid (HT.out.keep hb1)
        have U1 := Lib.hid (HU.out.keep hb1 hz0)
        have hz3 : w.heap.size + 2 ≤ w1.heap.size := by have := hb1.size; omega
        obtain ⟨t0, t1, t2, t3, t4⟩ := T1.out
        have O1 := Lib.hid ((row_of (own_base hown1 (show w.heap.size + 2 ≤ W0.heap.size by omega))).keep (bel1 w1 (.cells #[.int .i64 (s), .slice p1 (ofZ s.toNat (mapL s xs 1 i)).length c1] 25)))
        have BA := Lib.hid (B1.out.trans ((bel1 w1 (.cells #[.int .i64 (s), .slice p1 (ofZ s.toNat (mapL s xs 1 i)).length c1] 25)).mono B1.out.size))
        have V1 := Lib.hid (two_new w1 (.int .i64 (s)) (.slice p1 (ofZ s.toNat (mapL s xs 1 i)).length c1) 25)
        clear hb1 hown1
        go_wp2_with fail
        refine (H2.out _ (FB.out.below BA.out)).mono ?_
        rintro e w2 ⟨p2, c2, rfl, hown2, hb2⟩
        have hz4 : w1.heap.size + 1 ≤ w2.heap.size := by have := hb2.size; simpa using this
        have B2 := Lib.hid (BA.out.trans (hb2.mono BA.out.size))
        have T2 := Lib.hid ((T1.out.keep (bel1 w1 (.cells #[.int .i64 (s), .slice p1 (ofZ s.toNat (mapL s xs 1 i)).length c1] 25))).keep hb2)
        have U2 := Lib.hid ((U1.out.keep (bel1 w1 (.cells #[.int .i64 (s), .slice p1 (ofZ s.toNat (mapL s xs 1 i)).length c1] 25)) (by omega)).keep hb2 (by simp; omega))
        have V2 := Lib.hid (V1.out.keep hb2)
        have O2 := Lib.hid (O1.out.keep hb2)
        have P2 := Lib.hid (row_of hown2)
        clear t0 t1 t2 t3 t4 hb2 hown2
        obtain ⟨t0, t1, t2, t3, t4⟩ := T2.out
        obtain ⟨u0, u1, u2, u3, u5, u6, u7, u8⟩ := U2.out.facts
        have u4 := U2.out.lt
        have BB := Lib.hid (B2.out.trans ((bel1 w2 (.cells #[.int .i64 (t), .slice p2 (ofZ t.toNat (mapL t ys 1 o)).length c2] 25)).mono B2.out.size))
        go_wp2_with fail
        refine (HC.out _ (FA.out.below BB.out) (FB.out.below BB.out)).mono ?_
        rintro e w3 ⟨rfl, hb3⟩
        have hz5 : w2.heap.size + 1 ≤ w3.heap.size := by have := hb3.size; simpa using this
        have B3 := Lib.hid (BB.out.trans (hb3.mono BB.out.size))
        have U3 := Lib.hid ((U2.out.keep (bel1 w2 (.cells #[.int .i64 (t), .slice p2 (ofZ t.toNat (mapL t ys 1 o)).length c2] 25)) (by omega)).keep hb3 (by simp; omega))
        have V3 := Lib.hid ((V2.out.keep (bel1 w2 (.cells #[.int .i64 (t), .slice p2 (ofZ t.toNat (mapL t ys 1 o)).length c2] 25))).keep hb3)
        have X3 := Lib.hid ((two_new w2 (.int .i64 (t)) (.slice p2 (ofZ t.toNat (mapL t ys 1 o)).length c2) 25).keep hb3)
        have O3 := Lib.hid ((O2.out.keep (bel1 w2 (.cells #[.int .i64 (t), .slice p2 (ofZ t.toNat (mapL t ys 1 o)).length c2] 25))).keep hb3)
        have P3 := Lib.hid ((P2.out.keep (bel1 w2 (.cells #[.int .i64 (t), .slice p2 (ofZ t.toNat (mapL t ys 1 o)).length c2] 25))).keep hb3)
        clear t0 t1 t2 t3 t4 u0 u1 u2 u3 u5 u6 u7 u8 u4 hb3
        obtain ⟨u0, u1, u2, u3, u5, u6, u7, u8⟩ := U3.out.facts
        have u4 := U3.out.lt
        obtain ⟨v0, v1, v2⟩ := V3.out
        obtain ⟨x0, x1, x2⟩ := X3.out
        go_wp2
        obtain ⟨e0, e1, e2, e3, e5, e6, e7, e8⟩ := ((((U3.out.set0 (.int .i64 s)).set1 (.slice p1 (ofZ s.toNat (mapL s xs 1 i)).length c1)).set2 (.int .i64 t)).set3 (.slice p2 (ofZ t.toNat (mapL t ys 1 o)).length c2)).facts
        clear u0 u1 u2 u3 u5 u6 u7 u8
        refine bodyPost_ret (v := .tuple #[can s p1 (ofZ s.toNat (mapL s xs 1 i)).length c1 t p2 (ofZ t.toNat (mapL t ys 1 o)).length c2, .bool true]) (by simp [results, Try.results17, go_sem, *]) rfl (canc_yes (lo := w.heap.size + 2) HCC.out ?_ (by omega) (below_set4 B3.out (by omega)))
        have hR : RowC w3 (w.heap.size + 2) w3.heap.size p1 c1 (ofZ s.toNat (mapL s xs 1 i)) p2 c2 (ofZ t.toNat (mapL t ys 1 o)) := RowC.of (m := w1.heap.size) hz3 (by omega) O3.out (Row.wide P3.out (by simp) (by omega) (Nat.le_refl _))
        have := rowC_set4 hR (g := w.heap.size + 1) (x := .int .i64 s) (y := .slice p1 (ofZ s.toNat (mapL s xs 1 i)).length c1) (u := .int .i64 t) (v := .slice p2 (ofZ t.toNat (mapL t ys 1 o)).length c2) (by omega)
        simpa using this
      · rw [cB_no hc] at HC
        have HN : Hid (¬ RC s xs t ys i o) := Lib.hid (fun h => hc h.2)
        clear hc g1 g2
        go_enter Try.func17, Try.ntmps17
        go_wp2_with fail
        rw [← HW.out]
        refine (H1.out _ (FA.out.below HB.out)).mono ?_
        rintro e w1 ⟨p1, c1, rfl, hown1, hb1⟩
        have B1 := Lib.hid (HB.out.trans (hb1.mono HB.out.size))
        have T1 := Lib.hid (HT.out.keep hb1)
        have U1 := Lib.hid (HU.out.keep hb1 hz0)
        have hz3 : w.heap.size + 2 ≤ w1.heap.size := by have := hb1.size; omega
        obtain ⟨t0, t1, t2, t3, t4⟩ := T1.out
        have O1 := Lib.hid ((row_of (own_base hown1 (show w.heap.size + 2 ≤ W0.heap.size by omega))).keep (bel1 w1 (.cells #[.int .i64 (s), .slice p1 (ofZ s.toNat (mapL s xs 1 i)).length c1] 25)))
        have BA := Lib.hid (B1.out.trans ((bel1 w1 (.cells #[.int .i64 (s), .slice p1 (ofZ s.toNat (mapL s xs 1 i)).length c1] 25)).mono B1.out.size))
        have V1 := Lib.hid (two_new w1 (.int .i64 (s)) (.slice p1 (ofZ s.toNat (mapL s xs 1 i)).length c1) 25)
        clear hb1 hown1
        go_wp2_with fail
        refine (H2.out _ (FB.out.below BA.out)).mono ?_
        rintro e w2 ⟨p2, c2, rfl, hown2, hb2⟩
        have hz4 : w1.heap.size + 1 ≤ w2.heap.size := by have := hb2.size; simpa using this
        have B2 := Lib.hid (BA.out.trans (hb2.mono BA.out.size))
        have T2 := Lib.hid ((T1.out.keep (bel1 w1 (.cells #[.int .i64 (s), .slice p1 (ofZ s.toNat (mapL s xs 1 i)).length c1] 25))).keep hb2)
        have U2 := Lib.hid ((U1.out.keep (bel1 w1 (.cells #[.int .i64 (s), .slice p1 (ofZ s.toNat (mapL s xs 1 i)).length c1] 25)) (by omega)).keep hb2 (by simp; omega))
        have V2 := Lib.hid (V1.out.keep hb2)
        have O2 := Lib.hid (O1.out.keep hb2)
        have P2 := Lib.hid (row_of hown2)
        clear t0 t1 t2 t3 t4 hb2 hown2
        obtain ⟨t0, t1, t2, t3, t4⟩ := T2.out
        obtain ⟨u0, u1, u2, u3, u5, u6, u7, u8⟩ := U2.out.facts
        have u4 := U2.out.lt
        have BB := Lib.hid (B2.out.trans ((bel1 w2 (.cells #[.int .i64 (t), .slice p2 (ofZ t.toNat (mapL t ys 1 o)).length c2] 25)).mono B2.out.size))
        go_wp2_with fail
        refine (HC.out _ (FA.out.below BB.out) (FB.out.below BB.out)).mono ?_
        rintro e w3 ⟨rfl, hb3⟩
        have hz5 : w2.heap.size + 1 ≤ w3.heap.size := by have := hb3.size; simpa using this
        have B3 := Lib.hid (BB.out.trans (hb3.mono BB.out.size))
        have U3 := Lib.hid ((U2.out.keep (bel1 w2 (.cells #[.int .i64 (t), .slice p2 (ofZ t.toNat (mapL t ys 1 o)).length c2] 25)) (by omega)).keep hb3 (by simp; omega))
        have V3 := Lib.hid ((V2.out.keep (bel1 w2 (.cells #[.int .i64 (t), .slice p2 (ofZ t.toNat (mapL t ys 1 o)).length c2] 25))).keep hb3)
        have X3 := Lib.hid ((two_new w2 (.int .i64 (t)) (.slice p2 (ofZ t.toNat (mapL t ys 1 o)).length c2) 25).keep hb3)
        have O3 := Lib.hid ((O2.out.keep (bel1 w2 (.cells #[.int .i64 (t), .slice p2 (ofZ t.toNat (mapL t ys 1 o)).length c2] 25))).keep hb3)
        have P3 := Lib.hid ((P2.out.keep (bel1 w2 (.cells #[.int .i64 (t), .slice p2 (ofZ t.toNat (mapL t ys 1 o)).length c2] 25))).keep hb3)
        clear t0 t1 t2 t3 t4 u0 u1 u2 u3 u5 u6 u7 u8 u4 hb3
        obtain ⟨u0, u1, u2, u3, u5, u6, u7, u8⟩ := U3.out.facts
        have u4 := U3.out.lt
        obtain ⟨v0, v1, v2⟩ := V3.out
        obtain ⟨x0, x1, x2⟩ := X3.out
        go_wp2
        refine bodyPost_ret (v := .tuple #[can 0 none 0 0 0 none 0 0, .bool false]) (by simp [results, Try.results17, go_sem, *]) rfl (canc_no HN.out ?_)
        exact below_set4 B3.out (by omega)
    · rw [cS_no g2, cZ_no g2, cB_no g2] at H2
      have HN : Hid (¬ RC s xs t ys i o) := Lib.hid (fun h => g2 h.1.2)
      clear g1 g2
      go_enter Try.func17, Try.ntmps17
      go_wp2_with fail
      rw [← HW.out]
      refine (H1.out _ (FA.out.below HB.out)).mono ?_
      rintro e w1 ⟨p1, c1, rfl, hown1, hb1⟩
      have B1 := Lib.hid (HB.out.trans (hb1.mono HB.out.size))
      have T1 := Lib.hid (HT.out.keep hb1)
      have U1 := Lib.hid (HU.out.keep hb1 hz0)
      have hz3 : w.heap.size + 2 ≤ w1.heap.size := by have := hb1.size; omega
      obtain ⟨t0, t1, t2, t3, t4⟩ := T1.out
      have O1 := Lib.hid ((row_of (own_base hown1 (show w.heap.size + 2 ≤ W0.heap.size by omega))).keep (bel1 w1 (.cells #[.int .i64 (s), .slice p1 (ofZ s.toNat (mapL s xs 1 i)).length c1] 25)))
      have BA := Lib.hid (B1.out.trans ((bel1 w1 (.cells #[.int .i64 (s), .slice p1 (ofZ s.toNat (mapL s xs 1 i)).length c1] 25)).mono B1.out.size))
      have V1 := Lib.hid (two_new w1 (.int .i64 (s)) (.slice p1 (ofZ s.toNat (mapL s xs 1 i)).length c1) 25)
      clear hb1 hown1
      go_wp2_with fail
      refine (H2.out _ (FB.out.below BA.out)).mono ?_
      rintro e w2 ⟨p2, c2, rfl, hown2, hb2⟩
      have hz4 : w1.heap.size + 1 ≤ w2.heap.size := by have := hb2.size; simpa using this
      have B2 := Lib.hid (BA.out.trans (hb2.mono BA.out.size))
      have T2 := Lib.hid ((T1.out.keep (bel1 w1 (.cells #[.int .i64 (s), .slice p1 (ofZ s.toNat (mapL s xs 1 i)).length c1] 25))).keep hb2)
      have U2 := Lib.hid ((U1.out.keep (bel1 w1 (.cells #[.int .i64 (s), .slice p1 (ofZ s.toNat (mapL s xs 1 i)).length c1] 25)) (by omega)).keep hb2 (by simp; omega))
      have V2 := Lib.hid (V1.out.keep hb2)
      have O2 := Lib.hid (O1.out.keep hb2)
      have P2 := Lib.hid (row_of hown2)
      clear t0 t1 t2 t3 t4 hb2 hown2
      obtain ⟨t0, t1, t2, t3, t4⟩ := T2.out
      obtain ⟨u0, u1, u2, u3, u5, u6, u7, u8⟩ := U2.out.facts
      have u4 := U2.out.lt
      go_wp2
      refine bodyPost_ret (v := .tuple #[can 0 none 0 0 0 none 0 0, .bool false]) (by simp [results, Try.results17, go_sem, *]) rfl (canc_no HN.out ?_)
      exact (below_set4 B2.out (by omega)).alloc (by have := B2.out.size; simpa using this) _
  · rw [cS_no g1, cZ_no g1, cB_no g1] at H1
    have HN : Hid (¬ RC s xs t ys i o) := Lib.hid (fun h => g1 h.1.1)
    clear g1
    go_enter Try.func17, Try.ntmps17
    go_wp2_with fail
    rw [← HW.out]
    refine (H1.out _ (FA.out.below HB.out)).mono ?_
    rintro e w1 ⟨p1, c1, rfl, hown1, hb1⟩
    have B1 := Lib.hid (HB.out.trans (hb1.mono HB.out.size))
    have T1 := Lib.hid (HT.out.keep hb1)
    have U1 := Lib.hid (HU.out.keep hb1 hz0)
    have hz3 : w.heap.size + 2 ≤ w1.heap.size := by have := hb1.size; omega
    obtain ⟨t0, t1, t2, t3, t4⟩ := T1.out
    have O1 := Lib.hid ((row_of (own_base hown1 (show w.heap.size + 2 ≤ W0.heap.size by omega))).keep (bel1 w1 (.cells #[.int .i64 (0), .slice p1 (([] : List Int)).length c1] 25)))
    have BA := Lib.hid (B1.out.trans ((bel1 w1 (.cells #[.int .i64 (0), .slice p1 (([] : List Int)).length c1] 25)).mono B1.out.size))
    have V1 := Lib.hid (two_new w1 (.int .i64 (0)) (.slice p1 (([] : List Int)).length c1) 25)
    clear hb1 hown1
    go_wp2_with fail
    refine (H2.out _ (FB.out.below BA.out)).mono ?_
    rintro e w2 ⟨p2, c2, rfl, hown2, hb2⟩
    have hz4 : w1.heap.size + 1 ≤ w2.heap.size := by have := hb2.size; simpa using this
    have B2 := Lib.hid (BA.out.trans (hb2.mono BA.out.size))
    have T2 := Lib.hid ((T1.out.keep (bel1 w1 (.cells #[.int .i64 (0), .slice p1 (([] : List Int)).length c1] 25))).keep hb2)
    have U2 := Lib.hid ((U1.out.keep (bel1 w1 (.cells #[.int .i64 (0), .slice p1 (([] : List Int)).length c1] 25)) (by omega)).keep hb2 (by simp; omega))
    have V2 := Lib.hid (V1.out.keep hb2)
    have O2 := Lib.hid (O1.out.keep hb2)
    have P2 := Lib.hid (row_of hown2)
    clear t0 t1 t2 t3 t4 hb2 hown2
    obtain ⟨t0, t1, t2, t3, t4⟩ := T2.out
    obtain ⟨u0, u1, u2, u3, u5, u6, u7, u8⟩ := U2.out.facts
    have u4 := U2.out.lt
    go_wp2
    refine bodyPost_ret (v := .tuple #[can 0 none 0 0 0 none 0 0, .bool false]) (by simp [results, Try.results17, go_sem, *]) rfl (canc_no HN.out ?_)
    exact (below_set4 B2.out (by omega)).alloc (by have := B2.out.size; simpa using this) _

end Go.Proofs.Ythnlakdfbalgdaa.Rhy
