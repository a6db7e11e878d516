/-
  Helpers of the claims beside this text: canons: a rhythm copied; the rhythm of a voice, of both sides.
-/
import Derived.Test.YtldpikcgeijkpaaCna
import Derived.Test.YtldpikcgeijkpaaRot
import Derived.Test.YtldpikcgeijkpaaReg
import Derived.Deep.RegionHeld3
namespace Go.Proofs.Ytldpikcgeijkpaa.Rhy
open Go.RowKit
set_option linter.unusedVariables false
set_option linter.unusedSimpArgs false

theorem clone_any (a : Option Addr) (len cap : Nat) (zs : List Int) (w : World) (h : IntsAt w a len zs) (hm : len ≤ 1048576) :
    Calls Try.prog 77 #[.slice a len cap] w (IPost zs w) := by
  have hl := h.1
  subst hl
  by_cases h0 : zs.length = 0
  · have hz : zs = [] := List.eq_nil_of_length_eq_zero h0
    subst hz
    cases a with
    | none => exact (Try.slices_Clone_int_nil 0 cap w).mono fun e w' h => ⟨none, 0, by rw [h.1]; rfl, by rw [h.2]; exact World.ownsRow_nil _ _ _ _, by rw [h.2]; exact Below.refl _ _⟩
    | some p =>
      refine (Try.slices_Clone_int_zero p cap w).mono ?_
      rintro e w' ⟨v', rfl, ho, _, hb⟩
      obtain ⟨_, a', cap', rfl, _⟩ := own_shape (l := []) (by simpa [ints] using ho)
      exact ⟨a', cap', rfl, by simpa [ints] using ho, hb⟩
  · obtain ⟨b, off, rfl, hb, hc⟩ := h.2.2 (by omega)
    refine (Try.slices_Clone_int b off zs.length cap zs w (Nat.le_refl _) (by omega) (fun j hj => ?_)).mono ?_
    · rw [hc j _ (List.getElem?_eq_getElem hj), List.getD_eq_getElem?_getD, List.getElem?_eq_getElem hj]
      rfl
    · rintro e w' ⟨v', rfl, ho, _, hbel⟩
      rw [List.take_of_length_le (Nat.le_refl _)] at ho
      obtain ⟨_, a', cap', rfl, _⟩ := own_shape (l := zs) ho
      exact ⟨a', cap', rfl, ho, hbel⟩

theorem two_set2 {W : World} {b g : Nat} {v0 v1 x y : Value} (h : Two W b v0 v1) (hg : g ≠ b) : Two ((W.setCell ⟨g, 0, none⟩ x).setCell ⟨g, 1, none⟩ y) b v0 v1 :=
  h.within (((Within.refl g (g + 1) W).setCell g (by omega) 0 x).setCell g (by omega) 1 y) (by omega)
theorem Four.set2 {W : World} {b g : Nat} {v0 v1 v2 v3 x y : Value} (h : Four W b v0 v1 v2 v3) (hg : g ≠ b) : Four ((W.setCell ⟨g, 0, none⟩ x).setCell ⟨g, 1, none⟩ y) b v0 v1 v2 v3 :=
  h.within (((Within.refl g (g + 1) W).setCell g (by omega) 0 x).setCell g (by omega) 1 y) (by omega)
theorem own_set2 {W : World} {B B' g n cap : Nat} {a : Option Addr} {l : List Int} {x y : Value} (h : W.ownsRow B' 3 1 (.slice a n cap) n (ints l)) (hg : g < B') (hB : B ≤ B') :
    ((W.setCell ⟨g, 0, none⟩ x).setCell ⟨g, 1, none⟩ y).ownsRow B 3 1 (.slice a n cap) n (ints l) :=
  own_base (ownsRow_setCell_below (ownsRow_setCell_below h hg _) hg _) hB

theorem copied_impl (s : Int) (a : Option Addr) (len cap : Nat) (zs : List Int) (w : World) (h : IntsAt w a len zs) (hm : len ≤ 1048576) :
    Calls Try.prog 55 #[rhy s a len cap] w (RhyPost s zs w) := by
  have HS := Lib.hid h
  clear h
  obtain ⟨W0, hW⟩ : ∃ W0, W0 = (w.alloc (.cells #[.int .i64 s, .slice a len cap] 25)).alloc (.cells #[.int .i64 0, .slice none 0 0] 25) := ⟨_, rfl⟩
  have HW := Lib.hid hW
  have HB := Lib.hid (show Below w.heap.size w W0 by rw [hW]; exact bel2 w _ _)
  have HT := Lib.hid (show Two W0 w.heap.size (.int .i64 s) (.slice a len cap) by rw [hW]; exact (two_new w _ _ _).keep (bel1 _ _))
  have HU := Lib.hid (show Box W0 (w.heap.size + 1) (.int .i64 0) (.slice none 0 0) 25 by
    rw [hW]
    have := box_new (w.alloc (.cells #[.int .i64 s, .slice a len cap] 25)) (.int .i64 0) (.slice none 0 0) 25
    simpa using this)
  have hz0 := HU.out.lt
  have hz1 : W0.heap.size = w.heap.size + 2 := by rw [hW]; simp
  clear hW
  have HK : Hid (∀ W, Two W w.heap.size (.int .i64 s) (.slice a len cap) → Below w.heap.size w W → W.cell? ⟨w.heap.size, 0, none⟩ = some (.int .i64 s) ∧ W.cell? ⟨w.heap.size, 1, none⟩ = some (.slice a len cap) ∧ Below w.heap.size w W) :=
    Lib.hid (fun W hT hW => ⟨hT.2.1, hT.2.2, hW⟩)
  have HC := Lib.hid (fun W (hW : Below w.heap.size w W) => clone_any a len cap zs W (HS.out.below hW) hm)
  have hlen := HS.out.1
  have T0 := Lib.hid (HT.out.keep (Below.refl W0.heap.size W0).drew)
  have U0 := Lib.hid (HU.out.keep (Below.refl W0.heap.size W0).drew hz0)
  have BD := Lib.hid (HB.out.trans ((Below.refl W0.heap.size W0).drew.mono HB.out.size))
  go_enter Try.func55, Try.ntmps55
  go_wp2
  rw [← HW.out]
  go_region_held3 (fun w' => w'.cell? ⟨w.heap.size, 0, none⟩ = some (.int .i64 s) ∧ w'.cell? ⟨w.heap.size, 1, none⟩ = some (.slice a len cap) ∧ Below w.heap.size w w')
    (first | exact HK.out _ T0.out BD.out | exact HK.out _ T1.out B1.out | exact HK.out _ (two_set2 T1.out (by omega)) (below_set2 B1.out (by omega)))
    ((go_at_call 77; refine (HC.out _ BD.out).mono ?_; rintro e w1 ⟨b1, c1, rfl, hown1, hc1⟩; have T1 := Lib.hid (T0.out.keep hc1); have U1 := Lib.hid (U0.out.keep hc1 (show w.heap.size + 1 < W0.drew.heap.size from hz0)); have B1 := Lib.hid (BD.out.trans (hc1.mono BD.out.size)); have O1 := Lib.hid (own_base hown1 (show w.heap.size + 2 ≤ W0.drew.heap.size by show _ ≤ W0.heap.size; omega)); obtain ⟨q0, q1, q2, q3⟩ := U1.out.facts; have q4 := U1.out.lt; clear hown1 hc1))
  rename_i hh
  clear hh q0 q1 q2 q3
  obtain ⟨r0, r1, r2, r3⟩ := ((U1.out.set0 (.int .i64 s)).set1 (.slice b1 len c1)).facts
  go_wp2
  refine bodyPost_ret (v := rhy s b1 len c1) (by simp [results, Try.results55, go_sem, *]) rfl ⟨b1, c1, by rw [hlen], ?_, ?_⟩
  · rw [hlen] at O1 ⊢
    exact own_set2 O1.out (by omega) (by omega)
  · exact below_set2 B1.out (by omega)

theorem cZ_i {c : Prop} {l : List Int} (h : c → AllInt l) : AllInt (cZ c l) := by
  by_cases hc : c
  · rw [cZ_yes hc]; exact h hc
  · rw [cZ_no hc]; intro z hz; cases hz

/-- A canon's voice k is there. -/
def VC (s : Int) (xs : List Int) (t : Int) (ys : List Int) (k : Int) : Prop := CC s xs t ys ∧ 0 ≤ k ∧ k < ys.length
noncomputable def voiZ (s : Int) (xs ys : List Int) (k : Int) : List Int := ofZ s.toNat (mapL s xs 1 (ys.getD k.toNat 0))

theorem voc_impl (s : Int) (a : Option Addr) (n ca : Nat) (xs : List Int) (t : Int) (b : Option Addr) (m cb : Nat) (ys : List Int) (k : Nat) (w : World) (ha : IntsAt w a n xs) (hn : xs.length ≤ 1048576) (hb : IntsAt w b m ys) (hm : ys.length ≤ 1048576) (hc : CC s xs t ys) (hk : k < m) :
    Calls Try.prog 62 #[can s a n ca t b m cb, .int .i64 k] w (RhyPost s (voiZ s xs ys k) w) := by
  obtain ⟨W0, hW⟩ : ∃ W0, W0 = (w.alloc (canCells s a n ca t b m cb 29)).alloc (.cells #[.int .i64 0, .slice none 0 0] 25) := ⟨_, rfl⟩
  have HW := Lib.hid hW
  have HB := Lib.hid (show Below w.heap.size w W0 by rw [hW]; exact bel2 w _ _)
  have HT := Lib.hid (show Four W0 w.heap.size (.int .i64 s) (.slice a n ca) (.int .i64 t) (.slice b m cb) by rw [hW]; exact (four_new w _ _ _ _ _).keep (bel1 _ _))
  have HU := Lib.hid (show Box W0 (w.heap.size + 1) (.int .i64 0) (.slice none 0 0) 25 by
    rw [hW]
    have := box_new (w.alloc (canCells s a n ca t b m cb 29)) (.int .i64 0) (.slice none 0 0) 25
    simpa using this)
  have hz0 : w.heap.size + 1 < W0.heap.size := HU.out.lt
  have hz1 : W0.heap.size = w.heap.size + 2 := by rw [hW]; simp
  clear hW
  have hl : n ≤ 1048576 := by have := ha.1; omega
  have FA := Lib.hid ha
  obtain ⟨b1, off, z, rfl, hb1, hs, hc1, hz1', hz2'⟩ := hb.at hk
  have hzr := ok_at hc.1.2.1 hs
  have h24 := hc.1.2.1.1
  have HO := Lib.hid hc.1.1
  have HV : Hid (voiZ s xs ys k = ofZ s.toNat (mapL s xs 1 z)) := Lib.hid (by unfold voiZ; rw [Int.toNat_natCast, List.getD_eq_getElem?_getD, hs]; rfl)
  clear ha hb hs hc
  have HK : Hid (∀ W, Four W w.heap.size (.int .i64 s) (.slice a n ca) (.int .i64 t) (.slice (some ⟨b1, off, none⟩) m cb) → Below w.heap.size w W → W.cell? ⟨w.heap.size, 0, none⟩ = some (.int .i64 s) ∧ W.cell? ⟨w.heap.size, 1, none⟩ = some (.slice a n ca) ∧ W.cell? ⟨w.heap.size, 2, none⟩ = some (.int .i64 t) ∧ W.cell? ⟨w.heap.size, 3, none⟩ = some (.slice (some ⟨b1, off, none⟩) m cb) ∧ W.cell? ⟨b1, off + k, none⟩ = some (.int .i64 z) ∧ Below w.heap.size w W) :=
    Lib.hid (fun W hT hW => ⟨hT.2.1, hT.2.2.1, hT.2.2.2.1, hT.2.2.2.2, by rw [hW.cell (p := ⟨b1, off + k, none⟩) hb1]; exact hc1, hW⟩)
  have HC := Lib.hid (fun W (hW : Below w.heap.size w W) => moved_of s a n ca xs 1 z W (FA.out.below hW) hl HO.out (by omega) (by omega) (by omega) (by omega) (gcd_one s))
  have T0 := Lib.hid (HT.out.keep (Below.refl W0.heap.size W0).drew)
  have U0 := Lib.hid (HU.out.keep (Below.refl W0.heap.size W0).drew hz0)
  have BD := Lib.hid (HB.out.trans ((Below.refl W0.heap.size W0).drew.mono HB.out.size))
  clear hc1
  go_enter Try.func62, Try.ntmps62
  go_wp2
  rw [← HW.out]
  go_region_held3 (fun W => W.cell? ⟨w.heap.size, 0, none⟩ = some (.int .i64 s) ∧ W.cell? ⟨w.heap.size, 1, none⟩ = some (.slice a n ca) ∧ W.cell? ⟨w.heap.size, 2, none⟩ = some (.int .i64 t) ∧ W.cell? ⟨w.heap.size, 3, none⟩ = some (.slice (some ⟨b1, off, none⟩) m cb) ∧ W.cell? ⟨b1, off + k, none⟩ = some (.int .i64 z) ∧ Below w.heap.size w W)
    (first | exact HK.out _ T0.out BD.out | exact HK.out _ T1.out B1.out | exact HK.out _ (T1.out.set2 (by omega)) (below_set2 B1.out (by omega)))
    ((go_at_call 84; refine (HC.out _ BD.out).mono ?_; rintro e w1 ⟨p1, c1, rfl, hown1, hc1⟩; have T1 := Lib.hid (T0.out.keep hc1); have U1 := Lib.hid (U0.out.keep hc1 (show w.heap.size + 1 < W0.drew.heap.size from hz0)); have B1 := Lib.hid (BD.out.trans (hc1.mono BD.out.size)); have O1 := Lib.hid (own_base hown1 (show w.heap.size + 2 ≤ W0.drew.heap.size by show _ ≤ W0.heap.size; omega)); obtain ⟨q0, q1, q2, q3⟩ := U1.out.facts; have q4 := U1.out.lt; clear hown1 hc1))
  rename_i hh
  clear hh q0 q1 q2 q3
  obtain ⟨r0, r1, r2, r3⟩ := ((U1.out.set0 (.int .i64 s)).set1 (.slice p1 (ofZ s.toNat (mapL s xs 1 z)).length c1)).facts
  go_wp2
  refine bodyPost_ret (v := rhy s p1 (ofZ s.toNat (mapL s xs 1 z)).length c1) (by simp [results, Try.results62, go_sem, *]) rfl ⟨p1, c1, by rw [HV.out], ?_, ?_⟩
  · rw [HV.out]
    exact own_set2 O1.out (by omega) (by omega)
  · exact below_set2 B1.out (by omega)
end Go.Proofs.Ytldpikcgeijkpaa.Rhy

/-
  Helpers of the claims beside this text: canons: VoiceRhythm of both sides.
-/
namespace Go.Proofs.Ytldpikcgeijkpaa.Rhy
open Go.RowKit
set_option linter.unusedVariables false
set_option linter.unusedSimpArgs false

set_option maxHeartbeats 1000000 in
set_option maxRecDepth 100000 in
theorem voi_impl (s : Int) (a : Option Addr) (n ca : Nat) (xs : List Int) (t : Int) (b : Option Addr) (m cb : Nat) (ys : List Int) (k : Int) (w : World) (ha : IntsAt w a n xs) (hn : xs.length ≤ 1048576) (hb : IntsAt w b m ys) (hm : ys.length ≤ 1048576) (h3 : -9223372036854775808 ≤ k) (h4 : k ≤ 9223372036854775807) :
    Calls Try.prog 22 #[can s a n ca t b m cb, .int .i64 k] w (CPost (VC s xs t ys k) s (voiZ s xs ys k) w) := by
  obtain ⟨W0, hW⟩ : ∃ W0, W0 = (w.alloc (canCells s a n ca t b m cb 29)).alloc (.cells #[.int .i64 0, .slice none 0 0] 25) := ⟨_, rfl⟩
  have HW := Lib.hid hW
  have HB := Lib.hid (show Below w.heap.size w W0 by rw [hW]; exact bel2 w _ _)
  have HT := Lib.hid (show Four W0 w.heap.size (.int .i64 s) (.slice a n ca) (.int .i64 t) (.slice b m cb) by rw [hW]; exact (four_new w _ _ _ _ _).keep (bel1 _ _))
  have HU := Lib.hid (show Box W0 (w.heap.size + 1) (.int .i64 0) (.slice none 0 0) 25 by
    rw [hW]
    have := box_new (w.alloc (canCells s a n ca t b m cb 29)) (.int .i64 0) (.slice none 0 0) 25
    simpa using this)
  have hz0 : w.heap.size + 1 < W0.heap.size := HU.out.lt
  have hz1 : W0.heap.size = w.heap.size + 2 := by rw [hW]; simp
  clear hW
  have hl : n ≤ 1048576 := by have := ha.1; omega
  have hlm : m ≤ 1048576 := by have := hb.1; omega
  have em : ys.length = m := hb.1
  have FA := Lib.hid ha
  have FB := Lib.hid hb
  clear ha hb
  have HC := Lib.hid (fun W hA hB => cval_impl s a n ca xs t b m cb ys W hA hn hB hm)
  by_cases hc : CC s xs t ys
  · rw [cB_yes hc] at HC
    by_cases h0 : 0 ≤ k
    · obtain ⟨q, rfl⟩ : ∃ q : Nat, k = q := ⟨k.toNat, by omega⟩
      by_cases h1 : q < m
      · have HY : Hid (VC s xs t ys q) := Lib.hid ⟨hc, by omega, by omega⟩
        have HCC := Lib.hid hc
        have hd : decide ((m : Int) ≤ (q : Int)) = false := by simp; omega
        clear hc
        go_enter Try.func22, Try.ntmps22
        go_wp2_with fail
        rw [← HW.out]
        refine (HC.out _ (FA.out.below HB.out) (FB.out.below HB.out)).mono ?_
        rintro e w1 ⟨rfl, hb1⟩
        have B1 := Lib.hid (HB.out.trans (hb1.mono HB.out.size))
        have T1 := Lib.hid (HT.out.keep hb1)
        have U1 := Lib.hid (HU.out.keep hb1 hz0)
        clear hb1
        obtain ⟨t0, t1, t2, t3, t4⟩ := T1.out
        obtain ⟨u0, u1, u2, u3⟩ := U1.out.facts
        have u4 := U1.out.lt
        go_wp2_with fail
        refine (voc_impl s a n ca xs t b m cb ys q _ (FA.out.below B1.out) hn (FB.out.below B1.out) hm HCC.out h1).mono ?_
        rintro e w2 ⟨p2, c2, rfl, hown2, hb2⟩
        have B2 := Lib.hid (B1.out.trans (hb2.mono B1.out.size))
        have U2 := Lib.hid (U1.out.keep hb2 (by omega))
        have O2 := Lib.hid (own_base hown2 (show w.heap.size + 2 ≤ w1.heap.size by omega))
        clear u0 u1 u2 u3 u4 hown2 hb2
        obtain ⟨u0, u1, u2, u3⟩ := U2.out.facts
        have u4 := U2.out.lt
        go_wp2
        refine bodyPost_ret (v := .tuple #[rhy s p2 (voiZ s xs ys q).length c2, .bool true]) (by simp [results, Try.results22, go_sem, *]) rfl (cpost_yes HY.out rfl ?_ ?_)
        · exact own_set2 O2.out (by omega) (by omega)
        · exact below_set2 B2.out (by omega)
      · have HN : Hid (¬ VC s xs t ys q) := Lib.hid (fun h => h1 (by have := h.2.2; omega))
        have hd : decide ((m : Int) ≤ (q : Int)) = true := by simp; omega
        clear hc
        go_enter Try.func22, Try.ntmps22
        go_wp2_with fail
        rw [← HW.out]
        refine (HC.out _ (FA.out.below HB.out) (FB.out.below HB.out)).mono ?_
        rintro e w1 ⟨rfl, hb1⟩
        have B1 := Lib.hid (HB.out.trans (hb1.mono HB.out.size))
        have T1 := Lib.hid (HT.out.keep hb1)
        have U1 := Lib.hid (HU.out.keep hb1 hz0)
        clear hb1
        obtain ⟨t0, t1, t2, t3, t4⟩ := T1.out
        obtain ⟨u0, u1, u2, u3⟩ := U1.out.facts
        have u4 := U1.out.lt
        go_wp2
        refine bodyPost_ret (v := .tuple #[rhy 0 none 0 0, .bool false]) (by simp [results, Try.results22, go_sem, *]) rfl (cpost_no HN.out ?_)
        exact below_set2 B1.out (by omega)

    · have HN : Hid (¬ VC s xs t ys k) := Lib.hid (fun h => h0 h.2.1)
      have hd : decide (k < 0) = true := by simp; omega
      clear hc
      go_enter Try.func22, Try.ntmps22
      go_wp2_with fail
      rw [← HW.out]
      refine (HC.out _ (FA.out.below HB.out) (FB.out.below HB.out)).mono ?_
      rintro e w1 ⟨rfl, hb1⟩
      have B1 := Lib.hid (HB.out.trans (hb1.mono HB.out.size))
      have T1 := Lib.hid (HT.out.keep hb1)
      have U1 := Lib.hid (HU.out.keep hb1 hz0)
      clear hb1
      obtain ⟨t0, t1, t2, t3, t4⟩ := T1.out
      obtain ⟨u0, u1, u2, u3⟩ := U1.out.facts
      have u4 := U1.out.lt
      go_wp2
      refine bodyPost_ret (v := .tuple #[rhy 0 none 0 0, .bool false]) (by simp [results, Try.results22, go_sem, *]) rfl (cpost_no HN.out ?_)
      exact below_set2 B1.out (by omega)

  · rw [cB_no hc] at HC
    have HN : Hid (¬ VC s xs t ys k) := Lib.hid (fun h => hc h.1)
    clear hc
    go_enter Try.func22, Try.ntmps22
    go_wp2_with fail
    rw [← HW.out]
    refine (HC.out _ (FA.out.below HB.out) (FB.out.below HB.out)).mono ?_
    rintro e w1 ⟨rfl, hb1⟩
    have B1 := Lib.hid (HB.out.trans (hb1.mono HB.out.size))
    have T1 := Lib.hid (HT.out.keep hb1)
    have U1 := Lib.hid (HU.out.keep hb1 hz0)
    clear hb1
    obtain ⟨t0, t1, t2, t3, t4⟩ := T1.out
    obtain ⟨u0, u1, u2, u3⟩ := U1.out.facts
    have u4 := U1.out.lt
    go_wp2
    refine bodyPost_ret (v := .tuple #[rhy 0 none 0 0, .bool false]) (by simp [results, Try.results22, go_sem, *]) rfl (cpost_no HN.out ?_)
    exact below_set2 B1.out (by omega)


end Go.Proofs.Ytldpikcgeijkpaa.Rhy

/-
  Helpers of the claims beside this text: canons: ExchangeCanon of both sides.
-/
namespace Go.Proofs.Ytldpikcgeijkpaa.Rhy
open Go.RowKit
set_option linter.unusedVariables false
set_option linter.unusedSimpArgs false

theorem below_set4 {B N o p q r : Nat} {w w' : World} {u v x y : Value} (h : Below B w w') (hN : B ≤ N) : Below B w ((((w'.setCell ⟨N, o, none⟩ u).setCell ⟨N, p, none⟩ v).setCell ⟨N, q, none⟩ x).setCell ⟨N, r, none⟩ y) :=
  below_set2 (below_set2 h hN) hN
theorem Four.set4 {W : World} {b g : Nat} {v0 v1 v2 v3 x y u v : Value} (h : Four W b v0 v1 v2 v3) (hg : g ≠ b) : Four ((((W.setCell ⟨g, 0, none⟩ x).setCell ⟨g, 1, none⟩ y).setCell ⟨g, 2, none⟩ u).setCell ⟨g, 3, none⟩ v) b v0 v1 v2 v3 :=
  h.within (((((Within.refl g (g + 1) W).setCell g (by omega) 0 x).setCell g (by omega) 1 y).setCell g (by omega) 2 u).setCell g (by omega) 3 v) (by omega)
theorem rowC_set4 {W : World} {g lo hi : Nat} {a0 a1 : Option Addr} {c0 c1 : Nat} {z0 z1 : List Int} {x y u v : Value} (h : RowC W lo hi a0 c0 z0 a1 c1 z1) (hg : g < lo) :
    RowC ((((W.setCell ⟨g, 0, none⟩ x).setCell ⟨g, 1, none⟩ y).setCell ⟨g, 2, none⟩ u).setCell ⟨g, 3, none⟩ v) lo hi a0 c0 z0 a1 c1 z1 :=
  h.within (((((Within.refl g (g + 1) W).setCell g (by omega) 0 x).setCell g (by omega) 1 y).setCell g (by omega) 2 u).setCell g (by omega) 3 v) (by omega)

/-- What a function answers that has a canon if c holds. -/
def CanC (c : Prop) (s0 : Int) (z0 : List Int) (s1 : Int) (z1 : List Int) (w : World) (e : Ending) (w' : World) : Prop := CanBPost (cS c s0) (cZ c z0) (cS c s1) (cZ c z1) (cB c) w e w'
theorem canc_yes {c : Prop} {s0 s1 : Int} {z0 z1 : List Int} {w w' : World} {a0 a1 : Option Addr} {c0 c1 lo : Nat} (h : c) (hr : RowC w' lo w'.heap.size a0 c0 z0 a1 c1 z1) (hl : w.heap.size ≤ lo) (hb : Below w.heap.size w w') :
    CanC c s0 z0 s1 z1 w (.returned (.tuple #[can s0 a0 z0.length c0 s1 a1 z1.length c1, .bool true])) w' := by
  unfold CanC CanBPost
  rw [cS_yes h, cS_yes h, cZ_yes h, cZ_yes h, cB_yes h]
  exact ⟨a0, c0, a1, c1, rfl, hr.lo hl, hb⟩
theorem canc_no {c : Prop} {s0 s1 : Int} {z0 z1 : List Int} {w w' : World} (h : ¬ c) (hb : Below w.heap.size w w') :
    CanC c s0 z0 s1 z1 w (.returned (.tuple #[can 0 none 0 0 0 none 0 0, .bool false])) w' := by
  unfold CanC CanBPost
  rw [cS_no h, cS_no h, cZ_no h, cZ_no h, cB_no h]
  exact ⟨none, 0, none, 0, rfl, rowC_nil _ _ _ hb.size (Nat.le_refl _), hb⟩

/-- The result's box is there; what was there before the call is as it was. -/
def Ex (W w : World) (g : Nat) (t : TypeId) : Prop := (∃ v0 v1 v2 v3, Bux W g v0 v1 v2 v3 t) ∧ Below w.heap.size w W
theorem Ex.keep {W W' w : World} {g : Nat} {t : TypeId} (h : Ex W w g t) (hb : Below W.heap.size W W') : Ex W' w g t := by
  obtain ⟨⟨v0, v1, v2, v3, hU⟩, hB⟩ := h
  exact ⟨⟨v0, v1, v2, v3, hU.keep hb hU.lt⟩, hB.trans (hb.mono hB.size)⟩
theorem Ex.set4 {W w : World} {g : Nat} {t : TypeId} {x y u v : Value} (h : Ex W w g t) (hg : w.heap.size ≤ g) : Ex ((((W.setCell ⟨g, 0, none⟩ x).setCell ⟨g, 1, none⟩ y).setCell ⟨g, 2, none⟩ u).setCell ⟨g, 3, none⟩ v) w g t := by
  obtain ⟨⟨v0, v1, v2, v3, hU⟩, hB⟩ := h
  exact ⟨⟨_, _, _, _, (((hU.set0 x).set1 y).set2 u).set3 v⟩, below_set4 hB hg⟩
theorem cc_eq {s t : Int} {xs ys : List Int} (h : CC s xs t ys) : s = t := h.1.2.2


set_option maxHeartbeats 4000000 in
set_option maxRecDepth 100000 in
theorem exc_impl (s : Int) (a : Option Addr) (n ca : Nat) (xs : List Int) (t : Int) (b : Option Addr) (m cb : Nat) (ys : List Int) (w : World) (ha : IntsAt w a n xs) (hn : xs.length ≤ 1048576) (hb : IntsAt w b m ys) (hm : ys.length ≤ 1048576) :
    Calls Try.prog 13 #[can s a n ca t b m cb] w (CanC (CC s xs t ys) t ys s xs w) := by
  obtain ⟨W0, hW⟩ : ∃ W0, W0 = (w.alloc (canCells s a n ca t b m cb 29)).alloc (canCells 0 none 0 0 0 none 0 0 29) := ⟨_, rfl⟩
  have HW := Lib.hid hW
  have HB := Lib.hid (show Below w.heap.size w W0 by rw [hW]; exact bel2 w _ _)
  have HT := Lib.hid (show Four W0 w.heap.size (.int .i64 s) (.slice a n ca) (.int .i64 t) (.slice b m cb) by rw [hW]; exact (four_new w _ _ _ _ _).keep (bel1 _ _))
  have HU := Lib.hid (show Bux W0 (w.heap.size + 1) (.int .i64 0) (.slice none 0 0) (.int .i64 0) (.slice none 0 0) 29 by
    rw [hW]
    have := bux_new (w.alloc (canCells s a n ca t b m cb 29)) (.int .i64 0) (.slice none 0 0) (.int .i64 0) (.slice none 0 0) 29
    simpa using this)
  have hz0 : w.heap.size + 1 < W0.heap.size := HU.out.lt
  have hz1 : W0.heap.size = w.heap.size + 2 := by rw [hW]; simp
  clear hW
  have hl : n ≤ 1048576 := by have := ha.1; omega
  have hlm : m ≤ 1048576 := by have := hb.1; omega
  have FA := Lib.hid ha
  have FB := Lib.hid hb
  clear ha hb
  have HC := Lib.hid (fun W hA hB => cval_impl s a n ca xs t b m cb ys W hA hn hB hm)
  by_cases hc : CC s xs t ys
  · rw [cB_yes hc] at HC
    have HO := Lib.hid hc.1.1
    have HP := Lib.hid hc.1.2.1
    have HCC := Lib.hid hc
    clear hc
    have HX : Hid (∀ W, Below w.heap.size w W → Calls Try.prog 55 #[rhy s a n ca] W (RhyPost s xs W)) := Lib.hid (fun W hW => copied_impl s a n ca xs W (FA.out.below hW) hl)
    have HY : Hid (∀ W, Below w.heap.size w W → Calls Try.prog 55 #[rhy t b m cb] W (RhyPost t ys W)) := Lib.hid (fun W hW => copied_impl t b m cb ys W (FB.out.below hW) hlm)
    go_enter Try.func13, Try.ntmps13
    go_wp2_with fail
    rw [← HW.out]
    refine (HC.out _ (FA.out.below HB.out) (FB.out.below HB.out)).mono ?_
    rintro e w1 ⟨rfl, hb1⟩
    have B1 := Lib.hid (HB.out.trans (hb1.mono HB.out.size))
    have T1 := Lib.hid (HT.out.keep hb1)
    have U1 := Lib.hid (HU.out.keep hb1 hz0)
    have hz3 : w.heap.size + 2 ≤ w1.heap.size := by have := hb1.size; omega
    clear hb1
    obtain ⟨t0, t1, t2, t3, t4⟩ := T1.out
    obtain ⟨u0, u1, u2, u3, u5, u6, u7, u8⟩ := U1.out.facts
    have u4 := U1.out.lt
    go_wp2
    have HSB : Hid (∀ W, (W.cell? ⟨w.heap.size, 0, none⟩ = some (.int .i64 s) ∧ W.cell? ⟨w.heap.size, 1, none⟩ = some (.slice a n ca) ∧ W.cell? ⟨w.heap.size, 2, none⟩ = some (.int .i64 t) ∧ W.cell? ⟨w.heap.size, 3, none⟩ = some (.slice b m cb) ∧ Ex W w (w.heap.size + 1) 29 ∧ w1.heap.size ≤ W.heap.size) → Below w.heap.size w W) := Lib.hid (fun W h => h.2.2.2.2.1.2)
    have HSC : Hid (∀ W W', Below W.heap.size W W' → (W.cell? ⟨w.heap.size, 0, none⟩ = some (.int .i64 s) ∧ W.cell? ⟨w.heap.size, 1, none⟩ = some (.slice a n ca) ∧ W.cell? ⟨w.heap.size, 2, none⟩ = some (.int .i64 t) ∧ W.cell? ⟨w.heap.size, 3, none⟩ = some (.slice b m cb) ∧ Ex W w (w.heap.size + 1) 29 ∧ w1.heap.size ≤ W.heap.size) → (W'.cell? ⟨w.heap.size, 0, none⟩ = some (.int .i64 s) ∧ W'.cell? ⟨w.heap.size, 1, none⟩ = some (.slice a n ca) ∧ W'.cell? ⟨w.heap.size, 2, none⟩ = some (.int .i64 t) ∧ W'.cell? ⟨w.heap.size, 3, none⟩ = some (.slice b m cb) ∧ Ex W' w (w.heap.size + 1) 29 ∧ w1.heap.size ≤ W'.heap.size)) := Lib.hid (fun W W' hb h => ⟨(by rw [hb.cell (p := ⟨w.heap.size, 0, none⟩) (by have := h.2.2.2.2.1.2.size; have := h.2.2.2.2.2; show w.heap.size < _; omega)]; exact h.1), (by rw [hb.cell (p := ⟨w.heap.size, 1, none⟩) (by have := h.2.2.2.2.2; show w.heap.size < _; omega)]; exact h.2.1), (by rw [hb.cell (p := ⟨w.heap.size, 2, none⟩) (by have := h.2.2.2.2.2; show w.heap.size < _; omega)]; exact h.2.2.1), (by rw [hb.cell (p := ⟨w.heap.size, 3, none⟩) (by have := h.2.2.2.2.2; show w.heap.size < _; omega)]; exact h.2.2.2.1), h.2.2.2.2.1.keep hb, Nat.le_trans h.2.2.2.2.2 hb.size⟩)
    have HSZ : Hid (∀ W, (W.cell? ⟨w.heap.size, 0, none⟩ = some (.int .i64 s) ∧ W.cell? ⟨w.heap.size, 1, none⟩ = some (.slice a n ca) ∧ W.cell? ⟨w.heap.size, 2, none⟩ = some (.int .i64 t) ∧ W.cell? ⟨w.heap.size, 3, none⟩ = some (.slice b m cb) ∧ Ex W w (w.heap.size + 1) 29 ∧ w1.heap.size ≤ W.heap.size) → w1.heap.size ≤ W.heap.size) := Lib.hid (fun W h => h.2.2.2.2.2)
    have HSS : Hid (∀ W x y u v, (W.cell? ⟨w.heap.size, 0, none⟩ = some (.int .i64 s) ∧ W.cell? ⟨w.heap.size, 1, none⟩ = some (.slice a n ca) ∧ W.cell? ⟨w.heap.size, 2, none⟩ = some (.int .i64 t) ∧ W.cell? ⟨w.heap.size, 3, none⟩ = some (.slice b m cb) ∧ Ex W w (w.heap.size + 1) 29 ∧ w1.heap.size ≤ W.heap.size) → (((((W.setCell ⟨w.heap.size + 1, 0, none⟩ x).setCell ⟨w.heap.size + 1, 1, none⟩ y).setCell ⟨w.heap.size + 1, 2, none⟩ u).setCell ⟨w.heap.size + 1, 3, none⟩ v).cell? ⟨w.heap.size, 0, none⟩ = some (.int .i64 s) ∧ ((((W.setCell ⟨w.heap.size + 1, 0, none⟩ x).setCell ⟨w.heap.size + 1, 1, none⟩ y).setCell ⟨w.heap.size + 1, 2, none⟩ u).setCell ⟨w.heap.size + 1, 3, none⟩ v).cell? ⟨w.heap.size, 1, none⟩ = some (.slice a n ca) ∧ ((((W.setCell ⟨w.heap.size + 1, 0, none⟩ x).setCell ⟨w.heap.size + 1, 1, none⟩ y).setCell ⟨w.heap.size + 1, 2, none⟩ u).setCell ⟨w.heap.size + 1, 3, none⟩ v).cell? ⟨w.heap.size, 2, none⟩ = some (.int .i64 t) ∧ ((((W.setCell ⟨w.heap.size + 1, 0, none⟩ x).setCell ⟨w.heap.size + 1, 1, none⟩ y).setCell ⟨w.heap.size + 1, 2, none⟩ u).setCell ⟨w.heap.size + 1, 3, none⟩ v).cell? ⟨w.heap.size, 3, none⟩ = some (.slice b m cb) ∧ Ex ((((W.setCell ⟨w.heap.size + 1, 0, none⟩ x).setCell ⟨w.heap.size + 1, 1, none⟩ y).setCell ⟨w.heap.size + 1, 2, none⟩ u).setCell ⟨w.heap.size + 1, 3, none⟩ v) w (w.heap.size + 1) 29 ∧ w1.heap.size ≤ ((((W.setCell ⟨w.heap.size + 1, 0, none⟩ x).setCell ⟨w.heap.size + 1, 1, none⟩ y).setCell ⟨w.heap.size + 1, 2, none⟩ u).setCell ⟨w.heap.size + 1, 3, none⟩ v).heap.size)) := Lib.hid (fun W x y u v h => by
      have hF : Four W w.heap.size (.int .i64 s) (.slice a n ca) (.int .i64 t) (.slice b m cb) := ⟨by have := h.2.2.2.2.2; omega, h.1, h.2.1, h.2.2.1, h.2.2.2.1⟩
      have hG := hF.set4 (g := w.heap.size + 1) (x := x) (y := y) (u := u) (v := v) (by omega)
      exact ⟨hG.2.1, hG.2.2.1, hG.2.2.2.1, hG.2.2.2.2, h.2.2.2.2.1.set4 (by omega), by simpa using h.2.2.2.2.2⟩)
    have HS0 : Hid (w1.drew.cell? ⟨w.heap.size, 0, none⟩ = some (.int .i64 s) ∧ w1.drew.cell? ⟨w.heap.size, 1, none⟩ = some (.slice a n ca) ∧ w1.drew.cell? ⟨w.heap.size, 2, none⟩ = some (.int .i64 t) ∧ w1.drew.cell? ⟨w.heap.size, 3, none⟩ = some (.slice b m cb) ∧ Ex w1.drew w (w.heap.size + 1) 29 ∧ w1.heap.size ≤ w1.drew.heap.size) := Lib.hid (by
      have hT := T1.out.keep (Below.refl w1.heap.size w1).drew
      exact ⟨hT.2.1, hT.2.2.1, hT.2.2.2.1, hT.2.2.2.2, ⟨⟨_, _, _, _, U1.out.keep (Below.refl w1.heap.size w1).drew (by omega)⟩, B1.out.trans ((Below.refl w1.heap.size w1).drew.mono B1.out.size)⟩, Nat.le_refl _⟩)
    clear u0 u1 u2 u3 u4 u5 u6 u7 u8
    go_region_held3 (fun W => W.cell? ⟨w.heap.size, 0, none⟩ = some (.int .i64 s) ∧ W.cell? ⟨w.heap.size, 1, none⟩ = some (.slice a n ca) ∧ W.cell? ⟨w.heap.size, 2, none⟩ = some (.int .i64 t) ∧ W.cell? ⟨w.heap.size, 3, none⟩ = some (.slice b m cb) ∧ Ex W w (w.heap.size + 1) 29 ∧ w1.heap.size ≤ W.heap.size)
      (first | exact HS0.out | exact hsX | exact hsY | exact HSS.out _ _ _ _ _ hsX | exact HSS.out _ _ _ _ _ hsY)
      ((first
        | (go_at_call 55; (with_reducible refine (HX.out _ (HSB.out _ (by assumption))).mono ?_); rintro e wX ⟨pX, cX, rfl, hownX, hcX⟩; have hsX := HSC.out _ _ hcX (by assumption); have OX : Row wX _ wX.heap.size pX xs.length cX xs := row_of hownX; (first | have OY := OY.keep hcX | skip); obtain ⟨⟨y0, y1, y2, y3, yU⟩, _⟩ := hsX.2.2.2.2.1; obtain ⟨q0, q1, q2, q3, q5, q6, q7, q8⟩ := yU.facts; have q4 := yU.lt)
        | (go_at_call 55; (with_reducible refine (HY.out _ (HSB.out _ (by assumption))).mono ?_); rintro e wY ⟨pY, cY, rfl, hownY, hcY⟩; have hsY := HSC.out _ _ hcY (by assumption); have OY : Row wY _ wY.heap.size pY ys.length cY ys := row_of hownY; (first | have OX := OX.keep hcY | skip); obtain ⟨⟨y0, y1, y2, y3, yU⟩, _⟩ := hsY.2.2.2.2.1; obtain ⟨q0, q1, q2, q3, q5, q6, q7, q8⟩ := yU.facts; have q4 := yU.lt)))
    all_goals
      rename_i hh
      first
      | (have hR : RowC wX w1.drew.heap.size wX.heap.size pY cY ys pX cX xs := RowC.of (HSZ.out _ hsY) hcX.size OY OX; have hE := (HSS.out _ (.int .i64 t) (.slice pY ys.length cY) (.int .i64 s) (.slice pX xs.length cX) hsX).2.2.2.2.1)
      | (have hR : RowC wY w1.drew.heap.size wY.heap.size pY cY ys pX cX xs := RowC.of' (HSZ.out _ hsX) hcY.size OX OY; have hE := (HSS.out _ (.int .i64 t) (.slice pY ys.length cY) (.int .i64 s) (.slice pX xs.length cX) hsY).2.2.2.2.1)
      have HR := Lib.hid hR
      have HEB := Lib.hid hE.2
      obtain ⟨e0, e1, e2, e3, e5, e6, e7, e8⟩ := ((((yU.set0 (.int .i64 t)).set1 (.slice pY ys.length cY)).set2 (.int .i64 s)).set3 (.slice pX xs.length cX)).facts
      clear hh hR hE q0 q1 q2 q3 q5 q6 q7 q8 hsX hsY hcX hcY hownX hownY OX OY
      go_wp2
      refine bodyPost_ret (v := .tuple #[can t pY ys.length cY s pX xs.length cX, .bool true]) (by simp [results, Try.results13, go_sem, *]) rfl (canc_yes (lo := w1.drew.heap.size) HCC.out ?_ B1.out.size HEB.out)
      have := rowC_set4 HR.out (g := w.heap.size + 1) (x := .int .i64 t) (y := .slice pY ys.length cY) (u := .int .i64 s) (v := .slice pX xs.length cX) (show w.heap.size + 1 < w1.heap.size by omega)
      simpa using this
  · rw [cB_no hc] at HC
    have HN := Lib.hid hc
    clear hc
    go_enter Try.func13, Try.ntmps13
    go_wp2_with fail
    rw [← HW.out]
    refine (HC.out _ (FA.out.below HB.out) (FB.out.below HB.out)).mono ?_
    rintro e w1 ⟨rfl, hb1⟩
    have B1 := Lib.hid (HB.out.trans (hb1.mono HB.out.size))
    have T1 := Lib.hid (HT.out.keep hb1)
    have U1 := Lib.hid (HU.out.keep hb1 hz0)
    have hz3 : w.heap.size + 2 ≤ w1.heap.size := by have := hb1.size; omega
    clear hb1
    obtain ⟨t0, t1, t2, t3, t4⟩ := T1.out
    obtain ⟨u0, u1, u2, u3, u5, u6, u7, u8⟩ := U1.out.facts
    have u4 := U1.out.lt
    go_wp2
    refine bodyPost_ret (v := .tuple #[can 0 none 0 0 0 none 0 0, .bool false]) (by simp [results, Try.results13, go_sem, *]) rfl (canc_no HN.out ?_)
    exact below_set4 B1.out (by omega)

end Go.Proofs.Ytldpikcgeijkpaa.Rhy

/-
  Helpers of the claims beside this text: canons: StretchCanon and RotateCanon of both sides.
-/
namespace Go.Proofs.Ytldpikcgeijkpaa.Rhy
open Go.RowKit
set_option linter.unusedVariables false
set_option linter.unusedSimpArgs false

theorem Row.wide {w : World} {lo hi lo' hi' : Nat} {a : Option Addr} {n cap : Nat} {l : List Int} (h : Row w lo hi a n cap l) (hl : lo' ≤ lo) (hh : hi ≤ hi') (hw : hi' ≤ w.heap.size) : Row w lo' hi' a n cap l :=
  ⟨own_base h.1 hl, fun k hk => Nat.lt_of_lt_of_le (h.2.1 k hk) hh, hw⟩
theorem two_set4 {W : World} {b g : Nat} {v0 v1 x y u v : Value} (h : Two W b v0 v1) (hg : g ≠ b) : Two ((((W.setCell ⟨g, 0, none⟩ x).setCell ⟨g, 1, none⟩ y).setCell ⟨g, 2, none⟩ u).setCell ⟨g, 3, none⟩ v) b v0 v1 :=
  h.within (((((Within.refl g (g + 1) W).setCell g (by omega) 0 x).setCell g (by omega) 1 y).setCell g (by omega) 2 u).setCell g (by omega) 3 v) (by omega)
def SC (s : Int) (xs : List Int) (t : Int) (ys : List Int) (u : Int) : Prop := (Ok s xs ∧ UC s u) ∧ CC s xs t ys
def RC (s : Int) (xs : List Int) (t : Int) (ys : List Int) (i o : Int) : Prop := (RotC s xs i ∧ RotC t ys o) ∧ CC s xs t ys




set_option maxHeartbeats 2000000 in
set_option maxRecDepth 100000 in
theorem roc_impl (s : Int) (a : Option Addr) (n ca : Nat) (xs : List Int) (t : Int) (b : Option Addr) (m cb : Nat) (ys : List Int) (i o : Int) (w : World) (ha : IntsAt w a n xs) (hn : xs.length ≤ 1048576) (hb : IntsAt w b m ys) (hm : ys.length ≤ 1048576) (h3 : -9223372036854775808 ≤ i) (h4 : i ≤ 9223372036854775807) (h5 : -9223372036854775808 ≤ o) (h6 : o ≤ 9223372036854775807) :
    Calls Try.prog 14 #[can s a n ca t b m cb, .int .i64 i, .int .i64 o] w (CanC (RC s xs t ys i o) s (ofZ s.toNat (mapL s xs 1 i)) t (ofZ t.toNat (mapL t ys 1 o)) w) := by
  obtain ⟨W0, hW⟩ : ∃ W0, W0 = (w.alloc (canCells s a n ca t b m cb 29)).alloc (canCells 0 none 0 0 0 none 0 0 29) := ⟨_, rfl⟩
  have HW := Lib.hid hW
  have HB := Lib.hid (show Below w.heap.size w W0 by rw [hW]; exact bel2 w _ _)
  have HT := Lib.hid (show Four W0 w.heap.size (.int .i64 s) (.slice a n ca) (.int .i64 t) (.slice b m cb) by rw [hW]; exact (four_new w _ _ _ _ _).keep (bel1 _ _))
  have HU := Lib.hid (show Bux W0 (w.heap.size + 1) (.int .i64 0) (.slice none 0 0) (.int .i64 0) (.slice none 0 0) 29 by
    rw [hW]
    have := bux_new (w.alloc (canCells s a n ca t b m cb 29)) (.int .i64 0) (.slice none 0 0) (.int .i64 0) (.slice none 0 0) 29
    simpa using this)
  have hz0 : w.heap.size + 1 < W0.heap.size := HU.out.lt
  have hz1 : W0.heap.size = w.heap.size + 2 := by rw [hW]; simp
  clear hW
  have hl : n ≤ 1048576 := by have := ha.1; omega
  have hlm : m ≤ 1048576 := by have := hb.1; omega
  have FA := Lib.hid ha
  have FB := Lib.hid hb
  clear ha hb
  have HC := Lib.hid (fun W hA hB => cval_impl s a n ca xs t b m cb ys W hA hn hB hm)
  have H1 := Lib.hid (fun W hA => rot_impl s a n ca xs i W hA hn h3 h4)
  have H2 := Lib.hid (fun W hB => rot_impl t b m cb ys o W hB hm h5 h6)
  unfold CPost at H1 H2
  by_cases g1 : RotC s xs i
  · rw [cS_yes g1, cZ_yes g1, cB_yes g1] at H1
    by_cases g2 : RotC t ys o
    · rw [cS_yes g2, cZ_yes g2, cB_yes g2] at H2
      by_cases hc : CC s xs t ys
      · rw [cB_yes hc] at HC
        have HCC : Hid (RC s xs t ys i o) := Lib.hid ⟨⟨g1, g2⟩, hc⟩
        clear hc g1 g2
        go_enter Try.func14, Try.ntmps14
        go_wp2_with fail
        rw [← HW.out]
        refine (H1.out _ (FA.out.below HB.out)).mono ?_
        rintro e w1 ⟨p1, c1, rfl, hown1, hb1⟩
        have B1 := Lib.hid (HB.out.trans (hb1.mono HB.out.size))
        have T1 := Lib.hid (HT.out.keep hb1)
        have U1 := Lib.hid (HU.out.keep hb1 hz0)
        have hz3 : w.heap.size + 2 ≤ w1.heap.size := by have := hb1.size; omega
        obtain ⟨t0, t1, t2, t3, t4⟩ := T1.out
        have O1 := Lib.hid ((row_of (own_base hown1 (show w.heap.size + 2 ≤ W0.heap.size by omega))).keep (bel1 w1 (.cells #[.int .i64 (s), .slice p1 (ofZ s.toNat (mapL s xs 1 i)).length c1] 25)))
        have BA := Lib.hid (B1.out.trans ((bel1 w1 (.cells #[.int .i64 (s), .slice p1 (ofZ s.toNat (mapL s xs 1 i)).length c1] 25)).mono B1.out.size))
        have V1 := Lib.hid (two_new w1 (.int .i64 (s)) (.slice p1 (ofZ s.toNat (mapL s xs 1 i)).length c1) 25)
        clear hb1 hown1
        go_wp2_with fail
        refine (H2.out _ (FB.out.below BA.out)).mono ?_
        rintro e w2 ⟨p2, c2, rfl, hown2, hb2⟩
        have hz4 : w1.heap.size + 1 ≤ w2.heap.size := by have := hb2.size; simpa using this
        have B2 := Lib.hid (BA.out.trans (hb2.mono BA.out.size))
        have T2 := Lib.hid ((T1.out.keep (bel1 w1 (.cells #[.int .i64 (s), .slice p1 (ofZ s.toNat (mapL s xs 1 i)).length c1] 25))).keep hb2)
        have U2 := Lib.hid ((U1.out.keep (bel1 w1 (.cells #[.int .i64 (s), .slice p1 (ofZ s.toNat (mapL s xs 1 i)).length c1] 25)) (by omega)).keep hb2 (by simp; omega))
        have V2 := Lib.hid (V1.out.keep hb2)
        have O2 := Lib.hid (O1.out.keep hb2)
        have P2 := Lib.hid (row_of hown2)
        clear t0 t1 t2 t3 t4 hb2 hown2
        obtain ⟨t0, t1, t2, t3, t4⟩ := T2.out
        obtain ⟨u0, u1, u2, u3, u5, u6, u7, u8⟩ := U2.out.facts
        have u4 := U2.out.lt
        have BB := Lib.hid (B2.out.trans ((bel1 w2 (.cells #[.int .i64 (t), .slice p2 (ofZ t.toNat (mapL t ys 1 o)).length c2] 25)).mono B2.out.size))
        go_wp2_with fail
        refine (HC.out _ (FA.out.below BB.out) (FB.out.below BB.out)).mono ?_
        rintro e w3 ⟨rfl, hb3⟩
        have hz5 : w2.heap.size + 1 ≤ w3.heap.size := by have := hb3.size; simpa using this
        have B3 := Lib.hid (BB.out.trans (hb3.mono BB.out.size))
        have U3 := Lib.hid ((U2.out.keep (bel1 w2 (.cells #[.int .i64 (t), .slice p2 (ofZ t.toNat (mapL t ys 1 o)).length c2] 25)) (by omega)).keep hb3 (by simp; omega))
        have V3 := Lib.hid ((V2.out.keep (bel1 w2 (.cells #[.int .i64 (t), .slice p2 (ofZ t.toNat (mapL t ys 1 o)).length c2] 25))).keep hb3)
        have X3 := Lib.hid ((two_new w2 (.int .i64 (t)) (.slice p2 (ofZ t.toNat (mapL t ys 1 o)).length c2) 25).keep hb3)
        have O3 := Lib.hid ((O2.out.keep (bel1 w2 (.cells #[.int .i64 (t), .slice p2 (ofZ t.toNat (mapL t ys 1 o)).length c2] 25))).keep hb3)
        have P3 := Lib.hid ((P2.out.keep (bel1 w2 (.cells #[.int .i64 (t), .slice p2 (ofZ t.toNat (mapL t ys 1 o)).length c2] 25))).keep hb3)
        clear t0 t1 t2 t3 t4 u0 u1 u2 u3 u5 u6 u7 u8 u4 hb3
        obtain ⟨u0, u1, u2, u3, u5, u6, u7, u8⟩ := U3.out.facts
        have u4 := U3.out.lt
        obtain ⟨v0, v1, v2⟩ := V3.out
        obtain ⟨x0, x1, x2⟩ := X3.out
        go_wp2
        obtain ⟨e0, e1, e2, e3, e5, e6, e7, e8⟩ := ((((U3.out.set0 (.int .i64 s)).set1 (.slice p1 (ofZ s.toNat (mapL s xs 1 i)).length c1)).set2 (.int .i64 t)).set3 (.slice p2 (ofZ t.toNat (mapL t ys 1 o)).length c2)).facts
        clear u0 u1 u2 u3 u5 u6 u7 u8
        refine bodyPost_ret (v := .tuple #[can s p1 (ofZ s.toNat (mapL s xs 1 i)).length c1 t p2 (ofZ t.toNat (mapL t ys 1 o)).length c2, .bool true]) (by simp [results, Try.results14, go_sem, *]) rfl (canc_yes (lo := w.heap.size + 2) HCC.out ?_ (by omega) (below_set4 B3.out (by omega)))
        have hR : RowC w3 (w.heap.size + 2) w3.heap.size p1 c1 (ofZ s.toNat (mapL s xs 1 i)) p2 c2 (ofZ t.toNat (mapL t ys 1 o)) := RowC.of (m := w1.heap.size) hz3 (by omega) O3.out (Row.wide P3.out (by simp) (by omega) (Nat.le_refl _))
        have := rowC_set4 hR (g := w.heap.size + 1) (x := .int .i64 s) (y := .slice p1 (ofZ s.toNat (mapL s xs 1 i)).length c1) (u := .int .i64 t) (v := .slice p2 (ofZ t.toNat (mapL t ys 1 o)).length c2) (by omega)
        simpa using this
      · rw [cB_no hc] at HC
        have HN : Hid (¬ RC s xs t ys i o) := Lib.hid (fun h => hc h.2)
        clear hc g1 g2
        go_enter Try.func14, Try.ntmps14
        go_wp2_with fail
        rw [← HW.out]
        refine (H1.out _ (FA.out.below HB.out)).mono ?_
        rintro e w1 ⟨p1, c1, rfl, hown1, hb1⟩
        have B1 := Lib.hid (HB.out.trans (hb1.mono HB.out.size))
        have T1 := Lib.hid (HT.out.keep hb1)
        have U1 := Lib.hid (HU.out.keep hb1 hz0)
        have hz3 : w.heap.size + 2 ≤ w1.heap.size := by have := hb1.size; omega
        obtain ⟨t0, t1, t2, t3, t4⟩ := T1.out
        have O1 := Lib.hid ((row_of (own_base hown1 (show w.heap.size + 2 ≤ W0.heap.size by omega))).keep (bel1 w1 (.cells #[.int .i64 (s), .slice p1 (ofZ s.toNat (mapL s xs 1 i)).length c1] 25)))
        have BA := Lib.hid (B1.out.trans ((bel1 w1 (.cells #[.int .i64 (s), .slice p1 (ofZ s.toNat (mapL s xs 1 i)).length c1] 25)).mono B1.out.size))
        have V1 := Lib.hid (two_new w1 (.int .i64 (s)) (.slice p1 (ofZ s.toNat (mapL s xs 1 i)).length c1) 25)
        clear hb1 hown1
        go_wp2_with fail
        refine (H2.out _ (FB.out.below BA.out)).mono ?_
        rintro e w2 ⟨p2, c2, rfl, hown2, hb2⟩
        have hz4 : w1.heap.size + 1 ≤ w2.heap.size := by have := hb2.size; simpa using this
        have B2 := Lib.hid (BA.out.trans (hb2.mono BA.out.size))
        have T2 := Lib.hid ((T1.out.keep (bel1 w1 (.cells #[.int .i64 (s), .slice p1 (ofZ s.toNat (mapL s xs 1 i)).length c1] 25))).keep hb2)
        have U2 := Lib.hid ((U1.out.keep (bel1 w1 (.cells #[.int .i64 (s), .slice p1 (ofZ s.toNat (mapL s xs 1 i)).length c1] 25)) (by omega)).keep hb2 (by simp; omega))
        have V2 := Lib.hid (V1.out.keep hb2)
        have O2 := Lib.hid (O1.out.keep hb2)
        have P2 := Lib.hid (row_of hown2)
        clear t0 t1 t2 t3 t4 hb2 hown2
        obtain ⟨t0, t1, t2, t3, t4⟩ := T2.out
        obtain ⟨u0, u1, u2, u3, u5, u6, u7, u8⟩ := U2.out.facts
        have u4 := U2.out.lt
        have BB := Lib.hid (B2.out.trans ((bel1 w2 (.cells #[.int .i64 (t), .slice p2 (ofZ t.toNat (mapL t ys 1 o)).length c2] 25)).mono B2.out.size))
        go_wp2_with fail
        refine (HC.out _ (FA.out.below BB.out) (FB.out.below BB.out)).mono ?_
        rintro e w3 ⟨rfl, hb3⟩
        have hz5 : w2.heap.size + 1 ≤ w3.heap.size := by have := hb3.size; simpa using this
        have B3 := Lib.hid (BB.out.trans (hb3.mono BB.out.size))
        have U3 := Lib.hid ((U2.out.keep (bel1 w2 (.cells #[.int .i64 (t), .slice p2 (ofZ t.toNat (mapL t ys 1 o)).length c2] 25)) (by omega)).keep hb3 (by simp; omega))
        have V3 := Lib.hid ((V2.out.keep (bel1 w2 (.cells #[.int .i64 (t), .slice p2 (ofZ t.toNat (mapL t ys 1 o)).length c2] 25))).keep hb3)
        have X3 := Lib.hid ((two_new w2 (.int .i64 (t)) (.slice p2 (ofZ t.toNat (mapL t ys 1 o)).length c2) 25).keep hb3)
        have O3 := Lib.hid ((O2.out.keep (bel1 w2 (.cells #[.int .i64 (t), .slice p2 (ofZ t.toNat (mapL t ys 1 o)).length c2] 25))).keep hb3)
        have P3 := Lib.hid ((P2.out.keep (bel1 w2 (.cells #[.int .i64 (t), .slice p2 (ofZ t.toNat (mapL t ys 1 o)).length c2] 25))).keep hb3)
        clear t0 t1 t2 t3 t4 u0 u1 u2 u3 u5 u6 u7 u8 u4 hb3
        obtain ⟨u0, u1, u2, u3, u5, u6, u7, u8⟩ := U3.out.facts
        have u4 := U3.out.lt
        obtain ⟨v0, v1, v2⟩ := V3.out
        obtain ⟨x0, x1, x2⟩ := X3.out
        go_wp2
        refine bodyPost_ret (v := .tuple #[can 0 none 0 0 0 none 0 0, .bool false]) (by simp [results, Try.results14, go_sem, *]) rfl (canc_no HN.out ?_)
        exact below_set4 B3.out (by omega)
    · rw [cS_no g2, cZ_no g2, cB_no g2] at H2
      have HN : Hid (¬ RC s xs t ys i o) := Lib.hid (fun h => g2 h.1.2)
      clear g1 g2
      go_enter Try.func14, Try.ntmps14
      go_wp2_with fail
      rw [← HW.out]
      refine (H1.out _ (FA.out.below HB.out)).mono ?_
      rintro e w1 ⟨p1, c1, rfl, hown1, hb1⟩
      have B1 := Lib.hid (HB.out.trans (hb1.mono HB.out.size))
      have T1 := Lib.hid (HT.out.keep hb1)
      have U1 := Lib.hid (HU.out.keep hb1 hz0)
      have hz3 : w.heap.size + 2 ≤ w1.heap.size := by have := hb1.size; omega
      obtain ⟨t0, t1, t2, t3, t4⟩ := T1.out
      have O1 := Lib.hid ((row_of (own_base hown1 (show w.heap.size + 2 ≤ W0.heap.size by omega))).keep (bel1 w1 (.cells #[.int .i64 (s), .slice p1 (ofZ s.toNat (mapL s xs 1 i)).length c1] 25)))
      have BA := Lib.hid (B1.out.trans ((bel1 w1 (.cells #[.int .i64 (s), .slice p1 (ofZ s.toNat (mapL s xs 1 i)).length c1] 25)).mono B1.out.size))
      have V1 := Lib.hid (two_new w1 (.int .i64 (s)) (.slice p1 (ofZ s.toNat (mapL s xs 1 i)).length c1) 25)
      clear hb1 hown1
      go_wp2_with fail
      refine (H2.out _ (FB.out.below BA.out)).mono ?_
      rintro e w2 ⟨p2, c2, rfl, hown2, hb2⟩
      have hz4 : w1.heap.size + 1 ≤ w2.heap.size := by have := hb2.size; simpa using this
      have B2 := Lib.hid (BA.out.trans (hb2.mono BA.out.size))
      have T2 := Lib.hid ((T1.out.keep (bel1 w1 (.cells #[.int .i64 (s), .slice p1 (ofZ s.toNat (mapL s xs 1 i)).length c1] 25))).keep hb2)
      have U2 := Lib.hid ((U1.out.keep (bel1 w1 (.cells #[.int .i64 (s), .slice p1 (ofZ s.toNat (mapL s xs 1 i)).length c1] 25)) (by omega)).keep hb2 (by simp; omega))
      have V2 := Lib.hid (V1.out.keep hb2)
      have O2 := Lib.hid (O1.out.keep hb2)
      have P2 := Lib.hid (row_of hown2)
      clear t0 t1 t2 t3 t4 hb2 hown2
      obtain ⟨t0, t1, t2, t3, t4⟩ := T2.out
      obtain ⟨u0, u1, u2, u3, u5, u6, u7, u8⟩ := U2.out.facts
      have u4 := U2.out.lt
      go_wp2
      refine bodyPost_ret (v := .tuple #[can 0 none 0 0 0 none 0 0, .bool false]) (by simp [results, Try.results14, go_sem, *]) rfl (canc_no HN.out ?_)
      exact (below_set4 B2.out (by omega)).alloc (by have := B2.out.size; simpa using this) _
  · rw [cS_no g1, cZ_no g1, cB_no g1] at H1
    have HN : Hid (¬ RC s xs t ys i o) := Lib.hid (fun h => g1 h.1.1)
    clear g1
    go_enter Try.func14, Try.ntmps14
    go_wp2_with fail
    rw [← HW.out]
    refine (H1.out _ (FA.out.below HB.out)).mono ?_
    rintro e w1 ⟨p1, c1, rfl, hown1, hb1⟩
    have B1 := Lib.hid (HB.out.trans (hb1.mono HB.out.size))
    have T1 := Lib.hid (HT.out.keep hb1)
    have U1 := Lib.hid (HU.out.keep hb1 hz0)
    have hz3 : w.heap.size + 2 ≤ w1.heap.size := by have := hb1.size; omega
    obtain ⟨t0, t1, t2, t3, t4⟩ := T1.out
    have O1 := Lib.hid ((row_of (own_base hown1 (show w.heap.size + 2 ≤ W0.heap.size by omega))).keep (bel1 w1 (.cells #[.int .i64 (0), .slice p1 (([] : List Int)).length c1] 25)))
    have BA := Lib.hid (B1.out.trans ((bel1 w1 (.cells #[.int .i64 (0), .slice p1 (([] : List Int)).length c1] 25)).mono B1.out.size))
    have V1 := Lib.hid (two_new w1 (.int .i64 (0)) (.slice p1 (([] : List Int)).length c1) 25)
    clear hb1 hown1
    go_wp2_with fail
    refine (H2.out _ (FB.out.below BA.out)).mono ?_
    rintro e w2 ⟨p2, c2, rfl, hown2, hb2⟩
    have hz4 : w1.heap.size + 1 ≤ w2.heap.size := by have := hb2.size; simpa using this
    have B2 := Lib.hid (BA.out.trans (hb2.mono BA.out.size))
    have T2 := Lib.hid ((T1.out.keep (bel1 w1 (.cells #[.int .i64 (0), .slice p1 (([] : List Int)).length c1] 25))).keep hb2)
    have U2 := Lib.hid ((U1.out.keep (bel1 w1 (.cells #[.int .i64 (0), .slice p1 (([] : List Int)).length c1] 25)) (by omega)).keep hb2 (by simp; omega))
    have V2 := Lib.hid (V1.out.keep hb2)
    have O2 := Lib.hid (O1.out.keep hb2)
    have P2 := Lib.hid (row_of hown2)
    clear t0 t1 t2 t3 t4 hb2 hown2
    obtain ⟨t0, t1, t2, t3, t4⟩ := T2.out
    obtain ⟨u0, u1, u2, u3, u5, u6, u7, u8⟩ := U2.out.facts
    have u4 := U2.out.lt
    go_wp2
    refine bodyPost_ret (v := .tuple #[can 0 none 0 0 0 none 0 0, .bool false]) (by simp [results, Try.results14, go_sem, *]) rfl (canc_no HN.out ?_)
    exact (below_set4 B2.out (by omega)).alloc (by have := B2.out.size; simpa using this) _

end Go.Proofs.Ytldpikcgeijkpaa.Rhy
