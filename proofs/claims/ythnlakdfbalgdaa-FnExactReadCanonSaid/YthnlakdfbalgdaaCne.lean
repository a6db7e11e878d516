/-
  Helpers of the claims beside this text: canons: ExchangeCanon of both sides.
-/
import Derived.Test.YthnlakdfbalgdaaCnd
namespace Go.Proofs.Ythnlakdfbalgdaa.Rhy
open Go.RowKit
set_option linter.unusedVariables false
set_option linter.unusedSimpArgs false

theorem below_set4 {B N o p q r : Nat} {w w' : World} {u v x y : Value} (h : Below B w w') (hN : B ≤ N) : Below B w ((((w'.setCell ⟨N, o, none⟩ u).setCell ⟨N, p, none⟩ v).setCell ⟨N, q, none⟩ x).setCell ⟨N, r, none⟩ y) :=
  below_set2 (below_set2 h hN) hN
theorem Four.set4 {W : World} {b g : Nat} {v0 v1 v2 v3 x y u v : Value} (h : Four W b v0 v1 v2 v3) (hg : g ≠ b) : Four ((((W.setCell ⟨g, 0, none⟩ x).setCell ⟨g, 1, none⟩ y).setCell ⟨g, 2, none⟩ u).setCell ⟨g, 3, none⟩ v) b v0 v1 v2 v3 :=
  h.within (((((Within.refl g (g + 1) W).setCell g (by omega) 0 x).setCell g (by omega) 1 y).setCell g (by omega) 2 u).setCell g (by omega) 3 v) (by omega)
theorem rowC_set4 {W : World} {g lo hi : Nat} {a0 a1 : Option Addr} {c0 c1 : Nat} {z0 z1 : List Int} {x y u v : Value} (h : RowC W lo hi a0 c0 z0 a1 c1 z1) (hg : g < lo) :
    RowC ((((W.setCell ⟨g, 0, none⟩ x).setCell ⟨g, 1, none⟩ y).setCell ⟨g, 2, none⟩ u).setCell ⟨g, 3, none⟩ v) lo hi a0 c0 z0 a1 c1 z1 :=
  h.within (((((Within.refl g (g + 1) W).setCell g (by omega) 0 x).setCell g (by omega) 1 y).setCell g (by omega) 2 u).setCell g (by omega) 3 v) (by omega)

/-- What a function answers that has a canon if c holds. -/
def CanC (c : Prop) (s0 : Int) (z0 : List Int) (s1 : Int) (z1 : List Int) (w : World) (e : Ending) (w' : World) : Prop := CanBPost (cS c s0) (cZ c z0) (cS c s1) (cZ c z1) (cB c) w e w'
theorem canc_yes {c : Prop} {s0 s1 : Int} {z0 z1 : List Int} {w w' : World} {a0 a1 : Option Addr} {c0 c1 lo : Nat} (h : c) (hr : RowC w' lo w'.heap.size a0 c0 z0 a1 c1 z1) (hl : w.heap.size ≤ lo) (hb : Below w.heap.size w w') :
    CanC c s0 z0 s1 z1 w (.returned (.tuple #[can s0 a0 z0.length c0 s1 a1 z1.length c1, .bool true])) w' := by
  unfold CanC CanBPost
  rw [cS_yes h, cS_yes h, cZ_yes h, cZ_yes h, cB_yes h]
  exact ⟨a0, c0, a1, c1, rfl, hr.lo hl, hb⟩
theorem canc_no {c : Prop} {s0 s1 : Int} {z0 z1 : List Int} {w w' : World} (h : ¬ c) (hb : Below w.heap.size w w') :
    CanC c s0 z0 s1 z1 w (.returned (.tuple #[can 0 none 0 0 0 none 0 0, .bool false])) w' := by
  unfold CanC CanBPost
  rw [cS_no h, cS_no h, cZ_no h, cZ_no h, cB_no h]
  exact ⟨none, 0, none, 0, rfl, rowC_nil _ _ _ hb.size (Nat.le_refl _), hb⟩

/-- The result's box is there; what was there before the call is as it was. -/
def Ex (W w : World) (g : Nat) (t : TypeId) : Prop := (∃ v0 v1 v2 v3, Bux W g v0 v1 v2 v3 t) ∧ Below w.heap.size w W
theorem Ex.keep {W W' w : World} {g : Nat} {t : TypeId} (h : Ex W w g t) (hb : Below W.heap.size W W') : Ex W' w g t := by
  obtain ⟨⟨v0, v1, v2, v3, hU⟩, hB⟩ := h
  exact ⟨⟨v0, v1, v2, v3, hU.keep hb hU.lt⟩, hB.trans (hb.mono hB.size)⟩
theorem Ex.set4 {W w : World} {g : Nat} {t : TypeId} {x y u v : Value} (h : Ex W w g t) (hg : w.heap.size ≤ g) : Ex ((((W.setCell ⟨g, 0, none⟩ x).setCell ⟨g, 1, none⟩ y).setCell ⟨g, 2, none⟩ u).setCell ⟨g, 3, none⟩ v) w g t := by
  obtain ⟨⟨v0, v1, v2, v3, hU⟩, hB⟩ := h
  exact ⟨⟨_, _, _, _, (((hU.set0 x).set1 y).set2 u).set3 v⟩, below_set4 hB hg⟩
theorem cc_eq {s t : Int} {xs ys : List Int} (h : CC s xs t ys) : s = t := h.1.2.2

set_option maxHeartbeats 4000000 in
set_option maxRecDepth 100000 in
theorem exc_spec (s : Int) (a : Option Addr) (n ca : Nat) (xs : List Int) (t : Int) (b : Option Addr) (m cb : Nat) (ys : List Int) (w : World) (ha : IntsAt w a n xs) (hn : xs.length ≤ 1048576) (hb : IntsAt w b m ys) (hm : ys.length ≤ 1048576) :
    Calls Try.prog 37 #[can s a n ca t b m cb] w (CanC (CC s xs t ys) t ys s xs w) := by
  obtain ⟨W0, hW⟩ : ∃ W0, W0 = (w.alloc (canCells s a n ca t b m cb 29)).alloc (canCells 0 none 0 0 0 none 0 0 29) := ⟨_, rfl⟩
  have HW := Lib.hid hW
  have HB := Lib.hid (show Below w.heap.size w W0 by rw [hW]; exact bel2 w _ _)
  have HT := Lib.hid (show Four W0 w.heap.size (.int .i64 s) (.slice a n ca) (.int .i64 t) (.slice b m cb) by rw [hW]; exact (four_new w _ _ _ _ _).keep (bel1 _ _))
  have HU := Lib.hid (show Bux W0 (w.heap.size + 1) (.int .i64 0) (.slice none 0 0) (.int .i64 0) (.slice none 0 0) 29 by
    rw [hW]
    have := bux_new (w.alloc (canCells s a n ca t b m cb 29)) (.int .i64 0) (.slice none 0 0) (.int .i64 0) (.slice none 0 0) 29
    simpa using this)
  have hz0 : w.heap.size + 1 < W0.heap.size := HU.out.lt
  have hz1 : W0.heap.size = w.heap.size + 2 := by rw [hW]; simp
  clear hW
  have hl : n ≤ 1048576 := by have := ha.1; omega
  have hlm : m ≤ 1048576 := by have := hb.1; omega
  have FA := Lib.hid ha
  have FB := Lib.hid hb
  clear ha hb
  have HC := Lib.hid (fun W hA hB => cok_spec s a n ca xs t b m cb ys W hA hn hB hm)
  by_cases hc : CC s xs t ys
  · rw [cB_yes hc] at HC
    have HO := Lib.hid hc.1.1
    have HP := Lib.hid hc.1.2.1
    have HCC := Lib.hid hc
    clear hc
    have EX : ofZ s.toNat (mapL s xs 1 0) = xs := rot_zero HO.out
    have EY : ofZ t.toNat (mapL t ys 1 0) = ys := rot_zero HP.out
    have HX : Hid (∀ W, Below w.heap.size w W → Calls Try.prog 80 #[rhy s a n ca, .int .i64 1, .int .i64 0] W (RhyPost s xs W)) := Lib.hid (fun W hW => by have := map_any s a n ca xs 1 0 W (FA.out.below hW) hl HO.out (by omega) (by omega) (by omega) (by omega); rwa [EX] at this)
    have HY : Hid (∀ W, Below w.heap.size w W → Calls Try.prog 80 #[rhy t b m cb, .int .i64 1, .int .i64 0] W (RhyPost t ys W)) := Lib.hid (fun W hW => by have := map_any t b m cb ys 1 0 W (FB.out.below hW) hlm HP.out (by omega) (by omega) (by omega) (by omega); rwa [EY] at this)
    clear EX EY
    go_enter Try.func37, Try.ntmps37
    go_wp2_with fail
    rw [← HW.out]
    refine (HC.out _ (FA.out.below HB.out) (FB.out.below HB.out)).mono ?_
    rintro e w1 ⟨rfl, hb1⟩
    have B1 := Lib.hid (HB.out.trans (hb1.mono HB.out.size))
    have T1 := Lib.hid (HT.out.keep hb1)
    have U1 := Lib.hid (HU.out.keep hb1 hz0)
    have hz3 : w.heap.size + 2 ≤ w1.heap.size := by have := hb1.size; omega
    clear hb1
    obtain ⟨t0, t1, t2, t3, t4⟩ := T1.out
    obtain ⟨u0, u1, u2, u3, u5, u6, u7, u8⟩ := U1.out.facts
    have u4 := U1.out.lt
    go_wp2
    have HSB : Hid (∀ W, (W.cell? ⟨w.heap.size, 0, none⟩ = some (.int .i64 s) ∧ W.cell? ⟨w.heap.size, 1, none⟩ = some (.slice a n ca) ∧ W.cell? ⟨w.heap.size, 2, none⟩ = some (.int .i64 t) ∧ W.cell? ⟨w.heap.size, 3, none⟩ = some (.slice b m cb) ∧ Ex W w (w.heap.size + 1) 29 ∧ w1.heap.size ≤ W.heap.size) → Below w.heap.size w W) := Lib.hid (fun W h => h.2.2.2.2.1.2)
    have HSC : Hid (∀ W W', Below W.heap.size W W' → (W.cell? ⟨w.heap.size, 0, none⟩ = some (.int .i64 s) ∧ W.cell? ⟨w.heap.size, 1, none⟩ = some (.slice a n ca) ∧ W.cell? ⟨w.heap.size, 2, none⟩ = some (.int .i64 t) ∧ W.cell? ⟨w.heap.size, 3, none⟩ = some (.slice b m cb) ∧ Ex W w (w.heap.size + 1) 29 ∧ w1.heap.size ≤ W.heap.size) → (W'.cell? ⟨w.heap.size, 0, none⟩ = some (.int .i64 s) ∧ W'.cell? ⟨w.heap.size, 1, none⟩ = some (.slice a n ca) ∧ W'.cell? ⟨w.heap.size, 2, none⟩ = some (.int .i64 t) ∧ W'.cell? ⟨w.heap.size, 3, none⟩ = some (.slice b m cb) ∧ Ex W' w (w.heap.size + 1) 29 ∧ w1.heap.size ≤ W'.heap.size)) := Lib.hid (fun W W' hb h => ⟨(by rw [hb.cell (p := ⟨w.heap.size, 0, none⟩) (by have := h.2.2.2.2.1.2.size; have := h.2.2.2.2.2; show w.heap.size < _; omega)]; exact h.1), (by rw [hb.cell (p := ⟨w.heap.size, 1, none⟩) (by have := h.2.2.2.2.2; show w.heap.size < _; omega)]; exact h.2.1), (by rw [hb.cell (p := ⟨w.heap.size, 2, none⟩) (by have := h.2.2.2.2.2; show w.heap.size < _; omega)]; exact h.2.2.1), (by rw [hb.cell (p := ⟨w.heap.size, 3, none⟩) (by have := h.2.2.2.2.2; show w.heap.size < _; omega)]; exact h.2.2.2.1), h.2.2.2.2.1.keep hb, Nat.le_trans h.2.2.2.2.2 hb.size⟩)
    have HSZ : Hid (∀ W, (W.cell? ⟨w.heap.size, 0, none⟩ = some (.int .i64 s) ∧ W.cell? ⟨w.heap.size, 1, none⟩ = some (.slice a n ca) ∧ W.cell? ⟨w.heap.size, 2, none⟩ = some (.int .i64 t) ∧ W.cell? ⟨w.heap.size, 3, none⟩ = some (.slice b m cb) ∧ Ex W w (w.heap.size + 1) 29 ∧ w1.heap.size ≤ W.heap.size) → w1.heap.size ≤ W.heap.size) := Lib.hid (fun W h => h.2.2.2.2.2)
    have HSS : Hid (∀ W x y u v, (W.cell? ⟨w.heap.size, 0, none⟩ = some (.int .i64 s) ∧ W.cell? ⟨w.heap.size, 1, none⟩ = some (.slice a n ca) ∧ W.cell? ⟨w.heap.size, 2, none⟩ = some (.int .i64 t) ∧ W.cell? ⟨w.heap.size, 3, none⟩ = some (.slice b m cb) ∧ Ex W w (w.heap.size + 1) 29 ∧ w1.heap.size ≤ W.heap.size) → (((((W.setCell ⟨w.heap.size + 1, 0, none⟩ x).setCell ⟨w.heap.size + 1, 1, none⟩ y).setCell ⟨w.heap.size + 1, 2, none⟩ u).setCell ⟨w.heap.size + 1, 3, none⟩ v).cell? ⟨w.heap.size, 0, none⟩ = some (.int .i64 s) ∧ ((((W.setCell ⟨w.heap.size + 1, 0, none⟩ x).setCell ⟨w.heap.size + 1, 1, none⟩ y).setCell ⟨w.heap.size + 1, 2, none⟩ u).setCell ⟨w.heap.size + 1, 3, none⟩ v).cell? ⟨w.heap.size, 1, none⟩ = some (.slice a n ca) ∧ ((((W.setCell ⟨w.heap.size + 1, 0, none⟩ x).setCell ⟨w.heap.size + 1, 1, none⟩ y).setCell ⟨w.heap.size + 1, 2, none⟩ u).setCell ⟨w.heap.size + 1, 3, none⟩ v).cell? ⟨w.heap.size, 2, none⟩ = some (.int .i64 t) ∧ ((((W.setCell ⟨w.heap.size + 1, 0, none⟩ x).setCell ⟨w.heap.size + 1, 1, none⟩ y).setCell ⟨w.heap.size + 1, 2, none⟩ u).setCell ⟨w.heap.size + 1, 3, none⟩ v).cell? ⟨w.heap.size, 3, none⟩ = some (.slice b m cb) ∧ Ex ((((W.setCell ⟨w.heap.size + 1, 0, none⟩ x).setCell ⟨w.heap.size + 1, 1, none⟩ y).setCell ⟨w.heap.size + 1, 2, none⟩ u).setCell ⟨w.heap.size + 1, 3, none⟩ v) w (w.heap.size + 1) 29 ∧ w1.heap.size ≤ ((((W.setCell ⟨w.heap.size + 1, 0, none⟩ x).setCell ⟨w.heap.size + 1, 1, none⟩ y).setCell ⟨w.heap.size + 1, 2, none⟩ u).setCell ⟨w.heap.size + 1, 3, none⟩ v).heap.size)) := Lib.hid (fun W x y u v h => by
      have hF : Four W w.heap.size (.int .i64 s) (.slice a n ca) (.int .i64 t) (.slice b m cb) := ⟨by have := h.2.2.2.2.2; omega, h.1, h.2.1, h.2.2.1, h.2.2.2.1⟩
      have hG := hF.set4 (g := w.heap.size + 1) (x := x) (y := y) (u := u) (v := v) (by omega)
      exact ⟨hG.2.1, hG.2.2.1, hG.2.2.2.1, hG.2.2.2.2, h.2.2.2.2.1.set4 (by omega), by simpa using h.2.2.2.2.2⟩)
    have HS0 : Hid (w1.drew.cell? ⟨w.heap.size, 0, none⟩ = some (.int .i64 s) ∧ w1.drew.cell? ⟨w.heap.size, 1, none⟩ = some (.slice a n ca) ∧ w1.drew.cell? ⟨w.heap.size, 2, none⟩ = some (.int .i64 t) ∧ w1.drew.cell? ⟨w.heap.size, 3, none⟩ = some (.slice b m cb) ∧ Ex w1.drew w (w.heap.size + 1) 29 ∧ w1.heap.size ≤ w1.drew.heap.size) := Lib.hid (by
      have hT := T1.out.keep (Below.refl w1.heap.size w1).drew
      exact ⟨hT.2.1, hT.2.2.1, hT.2.2.2.1, hT.2.2.2.2, ⟨⟨_, _, _, _, U1.out.keep (Below.refl w1.heap.size w1).drew (by omega)⟩, B1.out.trans ((Below.refl w1.heap.size w1).drew.mono B1.out.size)⟩, Nat.le_refl _⟩)
    clear u0 u1 u2 u3 u4 u5 u6 u7 u8
    go_region_held3 (fun W => W.cell? ⟨w.heap.size, 0, none⟩ = some (.int .i64 s) ∧ W.cell? ⟨w.heap.size, 1, none⟩ = some (.slice a n ca) ∧ W.cell? ⟨w.heap.size, 2, none⟩ = some (.int .i64 t) ∧ W.cell? ⟨w.heap.size, 3, none⟩ = some (.slice b m cb) ∧ Ex W w (w.heap.size + 1) 29 ∧ w1.heap.size ≤ W.heap.size)
      (first | exact HS0.out | exact hsX | exact hsY | exact HSS.out _ _ _ _ _ hsX | exact HSS.out _ _ _ _ _ hsY)
      ((first
        | (go_at_call 80; (with_reducible refine (HX.out _ (HSB.out _ (by assumption))).mono ?_); rintro e wX ⟨pX, cX, rfl, hownX, hcX⟩; have hsX := HSC.out _ _ hcX (by assumption); have OX : Row wX _ wX.heap.size pX xs.length cX xs := row_of hownX; (first | have OY := OY.keep hcX | skip); obtain ⟨⟨y0, y1, y2, y3, yU⟩, _⟩ := hsX.2.2.2.2.1; obtain ⟨q0, q1, q2, q3, q5, q6, q7, q8⟩ := yU.facts; have q4 := yU.lt)
        | (go_at_call 80; (with_reducible refine (HY.out _ (HSB.out _ (by assumption))).mono ?_); rintro e wY ⟨pY, cY, rfl, hownY, hcY⟩; have hsY := HSC.out _ _ hcY (by assumption); have OY : Row wY _ wY.heap.size pY ys.length cY ys := row_of hownY; (first | have OX := OX.keep hcY | skip); obtain ⟨⟨y0, y1, y2, y3, yU⟩, _⟩ := hsY.2.2.2.2.1; obtain ⟨q0, q1, q2, q3, q5, q6, q7, q8⟩ := yU.facts; have q4 := yU.lt)))
    all_goals
      rename_i hh
      first
      | (have hR : RowC wX w1.drew.heap.size wX.heap.size pY cY ys pX cX xs := RowC.of (HSZ.out _ hsY) hcX.size OY OX; have hE := (HSS.out _ (.int .i64 t) (.slice pY ys.length cY) (.int .i64 s) (.slice pX xs.length cX) hsX).2.2.2.2.1)
      | (have hR : RowC wY w1.drew.heap.size wY.heap.size pY cY ys pX cX xs := RowC.of' (HSZ.out _ hsX) hcY.size OX OY; have hE := (HSS.out _ (.int .i64 t) (.slice pY ys.length cY) (.int .i64 s) (.slice pX xs.length cX) hsY).2.2.2.2.1)
      have HR := Lib.hid hR
      have HEB := Lib.hid hE.2
      obtain ⟨e0, e1, e2, e3, e5, e6, e7, e8⟩ := ((((yU.set0 (.int .i64 t)).set1 (.slice pY ys.length cY)).set2 (.int .i64 s)).set3 (.slice pX xs.length cX)).facts
      clear hh hR hE q0 q1 q2 q3 q5 q6 q7 q8 hsX hsY hcX hcY hownX hownY OX OY
      go_wp2
      refine bodyPost_ret (v := .tuple #[can t pY ys.length cY s pX xs.length cX, .bool true]) (by simp [results, Try.results37, go_sem, *]) rfl (canc_yes (lo := w1.drew.heap.size) HCC.out ?_ B1.out.size HEB.out)
      have := rowC_set4 HR.out (g := w.heap.size + 1) (x := .int .i64 t) (y := .slice pY ys.length cY) (u := .int .i64 s) (v := .slice pX xs.length cX) (show w.heap.size + 1 < w1.heap.size by omega)
      simpa using this
  · rw [cB_no hc] at HC
    have HN := Lib.hid hc
    clear hc
    go_enter Try.func37, Try.ntmps37
    go_wp2_with fail
    rw [← HW.out]
    refine (HC.out _ (FA.out.below HB.out) (FB.out.below HB.out)).mono ?_
    rintro e w1 ⟨rfl, hb1⟩
    have B1 := Lib.hid (HB.out.trans (hb1.mono HB.out.size))
    have T1 := Lib.hid (HT.out.keep hb1)
    have U1 := Lib.hid (HU.out.keep hb1 hz0)
    have hz3 : w.heap.size + 2 ≤ w1.heap.size := by have := hb1.size; omega
    clear hb1
    obtain ⟨t0, t1, t2, t3, t4⟩ := T1.out
    obtain ⟨u0, u1, u2, u3, u5, u6, u7, u8⟩ := U1.out.facts
    have u4 := U1.out.lt
    go_wp2
    refine bodyPost_ret (v := .tuple #[can 0 none 0 0 0 none 0 0, .bool false]) (by simp [results, Try.results37, go_sem, *]) rfl (canc_no HN.out ?_)
    exact below_set4 B1.out (by omega)

set_option maxHeartbeats 4000000 in
set_option maxRecDepth 100000 in
theorem exc_impl (s : Int) (a : Option Addr) (n ca : Nat) (xs : List Int) (t : Int) (b : Option Addr) (m cb : Nat) (ys : List Int) (w : World) (ha : IntsAt w a n xs) (hn : xs.length ≤ 1048576) (hb : IntsAt w b m ys) (hm : ys.length ≤ 1048576) :
    Calls Try.prog 16 #[can s a n ca t b m cb] w (CanC (CC s xs t ys) t ys s xs w) := by
  obtain ⟨W0, hW⟩ : ∃ W0, W0 = (w.alloc (canCells s a n ca t b m cb 29)).alloc (canCells 0 none 0 0 0 none 0 0 29) := ⟨_, rfl⟩
  have HW := Lib.hid hW
  have HB := Lib.hid (show Below w.heap.size w W0 by rw [hW]; exact bel2 w _ _)
  have HT := Lib.hid (show Four W0 w.heap.size (.int .i64 s) (.slice a n ca) (.int .i64 t) (.slice b m cb) by rw [hW]; exact (four_new w _ _ _ _ _).keep (bel1 _ _))
  have HU := Lib.hid (show Bux W0 (w.heap.size + 1) (.int .i64 0) (.slice none 0 0) (.int .i64 0) (.slice none 0 0) 29 by
    rw [hW]
    have := bux_new (w.alloc (canCells s a n ca t b m cb 29)) (.int .i64 0) (.slice none 0 0) (.int .i64 0) (.slice none 0 0) 29
    simpa using this)
  have hz0 : w.heap.size + 1 < W0.heap.size := HU.out.lt
  have hz1 : W0.heap.size = w.heap.size + 2 := by rw [hW]; simp
  clear hW
  have hl : n ≤ 1048576 := by have := ha.1; omega
  have hlm : m ≤ 1048576 := by have := hb.1; omega
  have FA := Lib.hid ha
  have FB := Lib.hid hb
  clear ha hb
  have HC := Lib.hid (fun W hA hB => cval_impl s a n ca xs t b m cb ys W hA hn hB hm)
  by_cases hc : CC s xs t ys
  · rw [cB_yes hc] at HC
    have HO := Lib.hid hc.1.1
    have HP := Lib.hid hc.1.2.1
    have HCC := Lib.hid hc
    clear hc
    have HX : Hid (∀ W, Below w.heap.size w W → Calls Try.prog 63 #[rhy s a n ca] W (RhyPost s xs W)) := Lib.hid (fun W hW => copied_impl s a n ca xs W (FA.out.below hW) hl)
    have HY : Hid (∀ W, Below w.heap.size w W → Calls Try.prog 63 #[rhy t b m cb] W (RhyPost t ys W)) := Lib.hid (fun W hW => copied_impl t b m cb ys W (FB.out.below hW) hlm)
    go_enter Try.func16, Try.ntmps16
    go_wp2_with fail
    rw [← HW.out]
    refine (HC.out _ (FA.out.below HB.out) (FB.out.below HB.out)).mono ?_
    rintro e w1 ⟨rfl, hb1⟩
    have B1 := Lib.hid (HB.out.trans (hb1.mono HB.out.size))
    have T1 := Lib.hid (HT.out.keep hb1)
    have U1 := Lib.hid (HU.out.keep hb1 hz0)
    have hz3 : w.heap.size + 2 ≤ w1.heap.size := by have := hb1.size; omega
    clear hb1
    obtain ⟨t0, t1, t2, t3, t4⟩ := T1.out
    obtain ⟨u0, u1, u2, u3, u5, u6, u7, u8⟩ := U1.out.facts
    have u4 := U1.out.lt
    go_wp2
    have HSB : Hid (∀ W, (W.cell? ⟨w.heap.size, 0, none⟩ = some (.int .i64 s) ∧ W.cell? ⟨w.heap.size, 1, none⟩ = some (.slice a n ca) ∧ W.cell? ⟨w.heap.size, 2, none⟩ = some (.int .i64 t) ∧ W.cell? ⟨w.heap.size, 3, none⟩ = some (.slice b m cb) ∧ Ex W w (w.heap.size + 1) 29 ∧ w1.heap.size ≤ W.heap.size) → Below w.heap.size w W) := Lib.hid (fun W h => h.2.2.2.2.1.2)
    have HSC : Hid (∀ W W', Below W.heap.size W W' → (W.cell? ⟨w.heap.size, 0, none⟩ = some (.int .i64 s) ∧ W.cell? ⟨w.heap.size, 1, none⟩ = some (.slice a n ca) ∧ W.cell? ⟨w.heap.size, 2, none⟩ = some (.int .i64 t) ∧ W.cell? ⟨w.heap.size, 3, none⟩ = some (.slice b m cb) ∧ Ex W w (w.heap.size + 1) 29 ∧ w1.heap.size ≤ W.heap.size) → (W'.cell? ⟨w.heap.size, 0, none⟩ = some (.int .i64 s) ∧ W'.cell? ⟨w.heap.size, 1, none⟩ = some (.slice a n ca) ∧ W'.cell? ⟨w.heap.size, 2, none⟩ = some (.int .i64 t) ∧ W'.cell? ⟨w.heap.size, 3, none⟩ = some (.slice b m cb) ∧ Ex W' w (w.heap.size + 1) 29 ∧ w1.heap.size ≤ W'.heap.size)) := Lib.hid (fun W W' hb h => ⟨(by rw [hb.cell (p := ⟨w.heap.size, 0, none⟩) (by have := h.2.2.2.2.1.2.size; have := h.2.2.2.2.2; show w.heap.size < _; omega)]; exact h.1), (by rw [hb.cell (p := ⟨w.heap.size, 1, none⟩) (by have := h.2.2.2.2.2; show w.heap.size < _; omega)]; exact h.2.1), (by rw [hb.cell (p := ⟨w.heap.size, 2, none⟩) (by have := h.2.2.2.2.2; show w.heap.size < _; omega)]; exact h.2.2.1), (by rw [hb.cell (p := ⟨w.heap.size, 3, none⟩) (by have := h.2.2.2.2.2; show w.heap.size < _; omega)]; exact h.2.2.2.1), h.2.2.2.2.1.keep hb, Nat.le_trans h.2.2.2.2.2 hb.size⟩)
    have HSZ : Hid (∀ W, (W.cell? ⟨w.heap.size, 0, none⟩ = some (.int .i64 s) ∧ W.cell? ⟨w.heap.size, 1, none⟩ = some (.slice a n ca) ∧ W.cell? ⟨w.heap.size, 2, none⟩ = some (.int .i64 t) ∧ W.cell? ⟨w.heap.size, 3, none⟩ = some (.slice b m cb) ∧ Ex W w (w.heap.size + 1) 29 ∧ w1.heap.size ≤ W.heap.size) → w1.heap.size ≤ W.heap.size) := Lib.hid (fun W h => h.2.2.2.2.2)
    have HSS : Hid (∀ W x y u v, (W.cell? ⟨w.heap.size, 0, none⟩ = some (.int .i64 s) ∧ W.cell? ⟨w.heap.size, 1, none⟩ = some (.slice a n ca) ∧ W.cell? ⟨w.heap.size, 2, none⟩ = some (.int .i64 t) ∧ W.cell? ⟨w.heap.size, 3, none⟩ = some (.slice b m cb) ∧ Ex W w (w.heap.size + 1) 29 ∧ w1.heap.size ≤ W.heap.size) → (((((W.setCell ⟨w.heap.size + 1, 0, none⟩ x).setCell ⟨w.heap.size + 1, 1, none⟩ y).setCell ⟨w.heap.size + 1, 2, none⟩ u).setCell ⟨w.heap.size + 1, 3, none⟩ v).cell? ⟨w.heap.size, 0, none⟩ = some (.int .i64 s) ∧ ((((W.setCell ⟨w.heap.size + 1, 0, none⟩ x).setCell ⟨w.heap.size + 1, 1, none⟩ y).setCell ⟨w.heap.size + 1, 2, none⟩ u).setCell ⟨w.heap.size + 1, 3, none⟩ v).cell? ⟨w.heap.size, 1, none⟩ = some (.slice a n ca) ∧ ((((W.setCell ⟨w.heap.size + 1, 0, none⟩ x).setCell ⟨w.heap.size + 1, 1, none⟩ y).setCell ⟨w.heap.size + 1, 2, none⟩ u).setCell ⟨w.heap.size + 1, 3, none⟩ v).cell? ⟨w.heap.size, 2, none⟩ = some (.int .i64 t) ∧ ((((W.setCell ⟨w.heap.size + 1, 0, none⟩ x).setCell ⟨w.heap.size + 1, 1, none⟩ y).setCell ⟨w.heap.size + 1, 2, none⟩ u).setCell ⟨w.heap.size + 1, 3, none⟩ v).cell? ⟨w.heap.size, 3, none⟩ = some (.slice b m cb) ∧ Ex ((((W.setCell ⟨w.heap.size + 1, 0, none⟩ x).setCell ⟨w.heap.size + 1, 1, none⟩ y).setCell ⟨w.heap.size + 1, 2, none⟩ u).setCell ⟨w.heap.size + 1, 3, none⟩ v) w (w.heap.size + 1) 29 ∧ w1.heap.size ≤ ((((W.setCell ⟨w.heap.size + 1, 0, none⟩ x).setCell ⟨w.heap.size + 1, 1, none⟩ y).setCell ⟨w.heap.size + 1, 2, none⟩ u).setCell ⟨w.heap.size + 1, 3, none⟩ v).heap.size)) := Lib.hid (fun W x y u v h => by
      have hF : Four W w.heap.size (.int .i64 s) (.slice a n ca) (.int .i64 t) (.slice b m cb) := ⟨by have := h.2.2.2.2.2; omega, h.1, h.2.1, h.2.2.1, h.2.2.2.1⟩
      have hG := hF.set4 (g := w.heap.size + 1) (x := x) (y := y) (u := u) (v := v) (by omega)
      exact ⟨hG.2.1, hG.2.2.1, hG.2.2.2.1, hG.2.2.2.2, h.2.2.2.2.1.set4 (by omega), by simpa using h.2.2.2.2.2⟩)
    have HS0 : Hid (w1.drew.cell? ⟨w.heap.size, 0, none⟩ = some (.int .i64 s) ∧ w1.drew.cell? ⟨w.heap.size, 1, none⟩ = some (.slice a n ca) ∧ w1.drew.cell? ⟨w.heap.size, 2, none⟩ = some (.int .i64 t) ∧ w1.drew.cell? ⟨w.heap.size, 3, none⟩ = some (.slice b m cb) ∧ Ex w1.drew w (w.heap.size + 1) 29 ∧ w1.heap.size ≤ w1.drew.heap.size) := Lib.hid (by
      have hT := T1.out.keep (Below.refl w1.heap.size w1).drew
      exact ⟨hT.2.1, hT.2.2.1, hT.2.2.2.1, hT.2.2.2.2, ⟨⟨_, _, _, _, U1.out.keep (Below.refl w1.heap.size w1).drew (by omega)⟩, B1.out.trans ((Below.refl w1.heap.size w1).drew.mono B1.out.size)⟩, Nat.le_refl _⟩)
    clear u0 u1 u2 u3 u4 u5 u6 u7 u8
    go_region_held3 (fun W => W.cell? ⟨w.heap.size, 0, none⟩ = some (.int .i64 s) ∧ W.cell? ⟨w.heap.size, 1, none⟩ = some (.slice a n ca) ∧ W.cell? ⟨w.heap.size, 2, none⟩ = some (.int .i64 t) ∧ W.cell? ⟨w.heap.size, 3, none⟩ = some (.slice b m cb) ∧ Ex W w (w.heap.size + 1) 29 ∧ w1.heap.size ≤ W.heap.size)
      (first | exact HS0.out | exact hsX | exact hsY | exact HSS.out _ _ _ _ _ hsX | exact HSS.out _ _ _ _ _ hsY)
      ((first
        | (go_at_call 63; (with_reducible refine (HX.out _ (HSB.out _ (by assumption))).mono ?_); rintro e wX ⟨pX, cX, rfl, hownX, hcX⟩; have hsX := HSC.out _ _ hcX (by assumption); have OX : Row wX _ wX.heap.size pX xs.length cX xs := row_of hownX; (first | have OY := OY.keep hcX | skip); obtain ⟨⟨y0, y1, y2, y3, yU⟩, _⟩ := hsX.2.2.2.2.1; obtain ⟨q0, q1, q2, q3, q5, q6, q7, q8⟩ := yU.facts; have q4 := yU.lt)
        | (go_at_call 63; (with_reducible refine (HY.out _ (HSB.out _ (by assumption))).mono ?_); rintro e wY ⟨pY, cY, rfl, hownY, hcY⟩; have hsY := HSC.out _ _ hcY (by assumption); have OY : Row wY _ wY.heap.size pY ys.length cY ys := row_of hownY; (first | have OX := OX.keep hcY | skip); obtain ⟨⟨y0, y1, y2, y3, yU⟩, _⟩ := hsY.2.2.2.2.1; obtain ⟨q0, q1, q2, q3, q5, q6, q7, q8⟩ := yU.facts; have q4 := yU.lt)))
    all_goals
      rename_i hh
      first
      | (have hR : RowC wX w1.drew.heap.size wX.heap.size pY cY ys pX cX xs := RowC.of (HSZ.out _ hsY) hcX.size OY OX; have hE := (HSS.out _ (.int .i64 t) (.slice pY ys.length cY) (.int .i64 s) (.slice pX xs.length cX) hsX).2.2.2.2.1)
      | (have hR : RowC wY w1.drew.heap.size wY.heap.size pY cY ys pX cX xs := RowC.of' (HSZ.out _ hsX) hcY.size OX OY; have hE := (HSS.out _ (.int .i64 t) (.slice pY ys.length cY) (.int .i64 s) (.slice pX xs.length cX) hsY).2.2.2.2.1)
      have HR := Lib.hid hR
      have HEB := Lib.hid hE.2
      obtain ⟨e0, e1, e2, e3, e5, e6, e7, e8⟩ := ((((yU.set0 (.int .i64 t)).set1 (.slice pY ys.length cY)).set2 (.int .i64 s)).set3 (.slice pX xs.length cX)).facts
      clear hh hR hE q0 q1 q2 q3 q5 q6 q7 q8 hsX hsY hcX hcY hownX hownY OX OY
      go_wp2
      refine bodyPost_ret (v := .tuple #[can t pY ys.length cY s pX xs.length cX, .bool true]) (by simp [results, Try.results16, go_sem, *]) rfl (canc_yes (lo := w1.drew.heap.size) HCC.out ?_ B1.out.size HEB.out)
      have := rowC_set4 HR.out (g := w.heap.size + 1) (x := .int .i64 t) (y := .slice pY ys.length cY) (u := .int .i64 s) (v := .slice pX xs.length cX) (show w.heap.size + 1 < w1.heap.size by omega)
      simpa using this
  · rw [cB_no hc] at HC
    have HN := Lib.hid hc
    clear hc
    go_enter Try.func16, Try.ntmps16
    go_wp2_with fail
    rw [← HW.out]
    refine (HC.out _ (FA.out.below HB.out) (FB.out.below HB.out)).mono ?_
    rintro e w1 ⟨rfl, hb1⟩
    have B1 := Lib.hid (HB.out.trans (hb1.mono HB.out.size))
    have T1 := Lib.hid (HT.out.keep hb1)
    have U1 := Lib.hid (HU.out.keep hb1 hz0)
    have hz3 : w.heap.size + 2 ≤ w1.heap.size := by have := hb1.size; omega
    clear hb1
    obtain ⟨t0, t1, t2, t3, t4⟩ := T1.out
    obtain ⟨u0, u1, u2, u3, u5, u6, u7, u8⟩ := U1.out.facts
    have u4 := U1.out.lt
    go_wp2
    refine bodyPost_ret (v := .tuple #[can 0 none 0 0 0 none 0 0, .bool false]) (by simp [results, Try.results16, go_sem, *]) rfl (canc_no HN.out ?_)
    exact below_set4 B1.out (by omega)

end Go.Proofs.Ythnlakdfbalgdaa.Rhy
