/-
  Helpers of the claims beside this text: canons: a rhythm copied; the rhythm of a voice, of both sides.
-/
import Derived.Test.YthnlakdfbalgdaaCna
import Derived.Test.YthnlakdfbalgdaaRot
import Derived.Test.YthnlakdfbalgdaaReg
import Derived.Deep.RegionHeld3
namespace Go.Proofs.Ythnlakdfbalgdaa.Rhy
open Go.RowKit
set_option linter.unusedVariables false
set_option linter.unusedSimpArgs false

theorem clone_any (a : Option Addr) (len cap : Nat) (zs : List Int) (w : World) (h : IntsAt w a len zs) (hm : len ≤ 1048576) :
    Calls Try.prog 97 #[.slice a len cap] w (IPost zs w) := by
  have hl := h.1
  subst hl
  by_cases h0 : zs.length = 0
  · have hz : zs = [] := List.eq_nil_of_length_eq_zero h0
    subst hz
    cases a with
    | none => exact (Try.slices_Clone_int_nil 0 cap w).mono fun e w' h => ⟨none, 0, by rw [h.1]; rfl, by rw [h.2]; exact World.ownsRow_nil _ _ _ _, by rw [h.2]; exact Below.refl _ _⟩
    | some p =>
      refine (Try.slices_Clone_int_zero p cap w).mono ?_
      rintro e w' ⟨v', rfl, ho, _, hb⟩
      obtain ⟨_, a', cap', rfl, _⟩ := own_shape (l := []) (by simpa [ints] using ho)
      exact ⟨a', cap', rfl, by simpa [ints] using ho, hb⟩
  · obtain ⟨b, off, rfl, hb, hc⟩ := h.2.2 (by omega)
    refine (Try.slices_Clone_int b off zs.length cap zs w (Nat.le_refl _) (by omega) (fun j hj => ?_)).mono ?_
    · rw [hc j _ (List.getElem?_eq_getElem hj), List.getD_eq_getElem?_getD, List.getElem?_eq_getElem hj]
      rfl
    · rintro e w' ⟨v', rfl, ho, _, hbel⟩
      rw [List.take_of_length_le (Nat.le_refl _)] at ho
      obtain ⟨_, a', cap', rfl, _⟩ := own_shape (l := zs) ho
      exact ⟨a', cap', rfl, ho, hbel⟩

theorem two_set2 {W : World} {b g : Nat} {v0 v1 x y : Value} (h : Two W b v0 v1) (hg : g ≠ b) : Two ((W.setCell ⟨g, 0, none⟩ x).setCell ⟨g, 1, none⟩ y) b v0 v1 :=
  h.within (((Within.refl g (g + 1) W).setCell g (by omega) 0 x).setCell g (by omega) 1 y) (by omega)
theorem Four.set2 {W : World} {b g : Nat} {v0 v1 v2 v3 x y : Value} (h : Four W b v0 v1 v2 v3) (hg : g ≠ b) : Four ((W.setCell ⟨g, 0, none⟩ x).setCell ⟨g, 1, none⟩ y) b v0 v1 v2 v3 :=
  h.within (((Within.refl g (g + 1) W).setCell g (by omega) 0 x).setCell g (by omega) 1 y) (by omega)
theorem own_set2 {W : World} {B B' g n cap : Nat} {a : Option Addr} {l : List Int} {x y : Value} (h : W.ownsRow B' 3 1 (.slice a n cap) n (ints l)) (hg : g < B') (hB : B ≤ B') :
    ((W.setCell ⟨g, 0, none⟩ x).setCell ⟨g, 1, none⟩ y).ownsRow B 3 1 (.slice a n cap) n (ints l) :=
  own_base (ownsRow_setCell_below (ownsRow_setCell_below h hg _) hg _) hB

theorem copied_impl (s : Int) (a : Option Addr) (len cap : Nat) (zs : List Int) (w : World) (h : IntsAt w a len zs) (hm : len ≤ 1048576) :
    Calls Try.prog 63 #[rhy s a len cap] w (RhyPost s zs w) := by
  have HS := Lib.hid h
  clear h
  obtain ⟨W0, hW⟩ : ∃ W0, W0 = (w.alloc (.cells #[.int .i64 s, .slice a len cap] 25)).alloc (.cells #[.int .i64 0, .slice none 0 0] 25) := ⟨_, rfl⟩
  have HW := Lib.hid hW
  have HB := Lib.hid (show Below w.heap.size w W0 by rw [hW]; exact bel2 w _ _)
  have HT := Lib.hid (show Two W0 w.heap.size (.int .i64 s) (.slice a len cap) by rw [hW]; exact (two_new w _ _ _).keep (bel1 _ _))
  have HU := Lib.hid (show Box W0 (w.heap.size + 1) (.int .i64 0) (.slice none 0 0) 25 by
    rw [hW]
    have := box_new (w.alloc (.cells #[.int .i64 s, .slice a len cap] 25)) (.int .i64 0) (.slice none 0 0) 25
    simpa using this)
  have hz0 := HU.out.lt
  have hz1 : W0.heap.size = w.heap.size + 2 := by rw [hW]; simp
  clear hW
  have HK : Hid (∀ W, Two W w.heap.size (.int .i64 s) (.slice a len cap) → Below w.heap.size w W → W.cell? ⟨w.heap.size, 0, none⟩ = some (.int .i64 s) ∧ W.cell? ⟨w.heap.size, 1, none⟩ = some (.slice a len cap) ∧ Below w.heap.size w W) :=
    Lib.hid (fun W hT hW => ⟨hT.2.1, hT.2.2, hW⟩)
  have HC := Lib.hid (fun W (hW : Below w.heap.size w W) => clone_any a len cap zs W (HS.out.below hW) hm)
  have hlen := HS.out.1
  have T0 := Lib.hid (HT.out.keep (Below.refl W0.heap.size W0).drew)
  have U0 := Lib.hid (HU.out.keep (Below.refl W0.heap.size W0).drew hz0)
  have BD := Lib.hid (HB.out.trans ((Below.refl W0.heap.size W0).drew.mono HB.out.size))
  go_enter Try.func63, Try.ntmps63
  go_wp2
  rw [← HW.out]
  go_region_held3 (fun w' => w'.cell? ⟨w.heap.size, 0, none⟩ = some (.int .i64 s) ∧ w'.cell? ⟨w.heap.size, 1, none⟩ = some (.slice a len cap) ∧ Below w.heap.size w w')
    (first | exact HK.out _ T0.out BD.out | exact HK.out _ T1.out B1.out | exact HK.out _ (two_set2 T1.out (by omega)) (below_set2 B1.out (by omega)))
    ((go_at_call 97; refine (HC.out _ BD.out).mono ?_; rintro e w1 ⟨b1, c1, rfl, hown1, hc1⟩; have T1 := Lib.hid (T0.out.keep hc1); have U1 := Lib.hid (U0.out.keep hc1 (show w.heap.size + 1 < W0.drew.heap.size from hz0)); have B1 := Lib.hid (BD.out.trans (hc1.mono BD.out.size)); have O1 := Lib.hid (own_base hown1 (show w.heap.size + 2 ≤ W0.drew.heap.size by show _ ≤ W0.heap.size; omega)); obtain ⟨q0, q1, q2, q3⟩ := U1.out.facts; have q4 := U1.out.lt; clear hown1 hc1))
  rename_i hh
  clear hh q0 q1 q2 q3
  obtain ⟨r0, r1, r2, r3⟩ := ((U1.out.set0 (.int .i64 s)).set1 (.slice b1 len c1)).facts
  go_wp2
  refine bodyPost_ret (v := rhy s b1 len c1) (by simp [results, Try.results63, go_sem, *]) rfl ⟨b1, c1, by rw [hlen], ?_, ?_⟩
  · rw [hlen] at O1 ⊢
    exact own_set2 O1.out (by omega) (by omega)
  · exact below_set2 B1.out (by omega)

theorem cZ_i {c : Prop} {l : List Int} (h : c → AllInt l) : AllInt (cZ c l) := by
  by_cases hc : c
  · rw [cZ_yes hc]; exact h hc
  · rw [cZ_no hc]; intro z hz; cases hz

/-- A canon's voice k is there. -/
def VC (s : Int) (xs : List Int) (t : Int) (ys : List Int) (k : Int) : Prop := CC s xs t ys ∧ 0 ≤ k ∧ k < ys.length
noncomputable def voiZ (s : Int) (xs ys : List Int) (k : Int) : List Int := ofZ s.toNat (mapL s xs 1 (ys.getD k.toNat 0))

theorem voc_impl (s : Int) (a : Option Addr) (n ca : Nat) (xs : List Int) (t : Int) (b : Option Addr) (m cb : Nat) (ys : List Int) (k : Nat) (w : World) (ha : IntsAt w a n xs) (hn : xs.length ≤ 1048576) (hb : IntsAt w b m ys) (hm : ys.length ≤ 1048576) (hc : CC s xs t ys) (hk : k < m) :
    Calls Try.prog 70 #[can s a n ca t b m cb, .int .i64 k] w (RhyPost s (voiZ s xs ys k) w) := by
  obtain ⟨W0, hW⟩ : ∃ W0, W0 = (w.alloc (canCells s a n ca t b m cb 29)).alloc (.cells #[.int .i64 0, .slice none 0 0] 25) := ⟨_, rfl⟩
  have HW := Lib.hid hW
  have HB := Lib.hid (show Below w.heap.size w W0 by rw [hW]; exact bel2 w _ _)
  have HT := Lib.hid (show Four W0 w.heap.size (.int .i64 s) (.slice a n ca) (.int .i64 t) (.slice b m cb) by rw [hW]; exact (four_new w _ _ _ _ _).keep (bel1 _ _))
  have HU := Lib.hid (show Box W0 (w.heap.size + 1) (.int .i64 0) (.slice none 0 0) 25 by
    rw [hW]
    have := box_new (w.alloc (canCells s a n ca t b m cb 29)) (.int .i64 0) (.slice none 0 0) 25
    simpa using this)
  have hz0 : w.heap.size + 1 < W0.heap.size := HU.out.lt
  have hz1 : W0.heap.size = w.heap.size + 2 := by rw [hW]; simp
  clear hW
  have hl : n ≤ 1048576 := by have := ha.1; omega
  have FA := Lib.hid ha
  obtain ⟨b1, off, z, rfl, hb1, hs, hc1, hz1', hz2'⟩ := hb.at hk
  have hzr := ok_at hc.1.2.1 hs
  have h24 := hc.1.2.1.1
  have HO := Lib.hid hc.1.1
  have HV : Hid (voiZ s xs ys k = ofZ s.toNat (mapL s xs 1 z)) := Lib.hid (by unfold voiZ; rw [Int.toNat_natCast, List.getD_eq_getElem?_getD, hs]; rfl)
  clear ha hb hs hc
  have HK : Hid (∀ W, Four W w.heap.size (.int .i64 s) (.slice a n ca) (.int .i64 t) (.slice (some ⟨b1, off, none⟩) m cb) → Below w.heap.size w W → W.cell? ⟨w.heap.size, 0, none⟩ = some (.int .i64 s) ∧ W.cell? ⟨w.heap.size, 1, none⟩ = some (.slice a n ca) ∧ W.cell? ⟨w.heap.size, 2, none⟩ = some (.int .i64 t) ∧ W.cell? ⟨w.heap.size, 3, none⟩ = some (.slice (some ⟨b1, off, none⟩) m cb) ∧ W.cell? ⟨b1, off + k, none⟩ = some (.int .i64 z) ∧ Below w.heap.size w W) :=
    Lib.hid (fun W hT hW => ⟨hT.2.1, hT.2.2.1, hT.2.2.2.1, hT.2.2.2.2, by rw [hW.cell (p := ⟨b1, off + k, none⟩) hb1]; exact hc1, hW⟩)
  have HC := Lib.hid (fun W (hW : Below w.heap.size w W) => moved_of s a n ca xs 1 z W (FA.out.below hW) hl HO.out (by omega) (by omega) (by omega) (by omega) (gcd_one s))
  have T0 := Lib.hid (HT.out.keep (Below.refl W0.heap.size W0).drew)
  have U0 := Lib.hid (HU.out.keep (Below.refl W0.heap.size W0).drew hz0)
  have BD := Lib.hid (HB.out.trans ((Below.refl W0.heap.size W0).drew.mono HB.out.size))
  clear hc1
  go_enter Try.func70, Try.ntmps70
  go_wp2
  rw [← HW.out]
  go_region_held3 (fun W => W.cell? ⟨w.heap.size, 0, none⟩ = some (.int .i64 s) ∧ W.cell? ⟨w.heap.size, 1, none⟩ = some (.slice a n ca) ∧ W.cell? ⟨w.heap.size, 2, none⟩ = some (.int .i64 t) ∧ W.cell? ⟨w.heap.size, 3, none⟩ = some (.slice (some ⟨b1, off, none⟩) m cb) ∧ W.cell? ⟨b1, off + k, none⟩ = some (.int .i64 z) ∧ Below w.heap.size w W)
    (first | exact HK.out _ T0.out BD.out | exact HK.out _ T1.out B1.out | exact HK.out _ (T1.out.set2 (by omega)) (below_set2 B1.out (by omega)))
    ((go_at_call 98; refine (HC.out _ BD.out).mono ?_; rintro e w1 ⟨p1, c1, rfl, hown1, hc1⟩; have T1 := Lib.hid (T0.out.keep hc1); have U1 := Lib.hid (U0.out.keep hc1 (show w.heap.size + 1 < W0.drew.heap.size from hz0)); have B1 := Lib.hid (BD.out.trans (hc1.mono BD.out.size)); have O1 := Lib.hid (own_base hown1 (show w.heap.size + 2 ≤ W0.drew.heap.size by show _ ≤ W0.heap.size; omega)); obtain ⟨q0, q1, q2, q3⟩ := U1.out.facts; have q4 := U1.out.lt; clear hown1 hc1))
  rename_i hh
  clear hh q0 q1 q2 q3
  obtain ⟨r0, r1, r2, r3⟩ := ((U1.out.set0 (.int .i64 s)).set1 (.slice p1 (ofZ s.toNat (mapL s xs 1 z)).length c1)).facts
  go_wp2
  refine bodyPost_ret (v := rhy s p1 (ofZ s.toNat (mapL s xs 1 z)).length c1) (by simp [results, Try.results70, go_sem, *]) rfl ⟨p1, c1, by rw [HV.out], ?_, ?_⟩
  · rw [HV.out]
    exact own_set2 O1.out (by omega) (by omega)
  · exact below_set2 B1.out (by omega)
end Go.Proofs.Ythnlakdfbalgdaa.Rhy
