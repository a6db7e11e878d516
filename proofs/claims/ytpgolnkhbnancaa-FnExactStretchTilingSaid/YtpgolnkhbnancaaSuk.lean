/-
  Helpers of the claims beside this text: StretchTiling of both sides: the answers.
-/
import Derived.Test.YtpgolnkhbnancaaSuj
import Derived.Test.YtpgolnkhbnancaaReg
namespace Go.Proofs.Ytpgolnkhbnancaa.Rhy
open Go.RowKit
set_option linter.unusedVariables false
set_option linter.unusedSimpArgs false

/-- What a function that answers with two rhythms and a bool leaves: the rows of the two lie apart. -/
def Ret2Post (s1 : Int) (l1 : List Int) (s2 : Int) (l2 : List Int) (ok : Bool) (w : World) (e : Ending) (w' : World) : Prop :=
  ∃ a c b d m, e = .returned (.tuple #[rhy s1 a l1.length c, rhy s2 b l2.length d, .bool ok]) ∧ Row w' w.heap.size m a l1.length c l1 ∧ Row w' m w'.heap.size b l2.length d l2 ∧ w.heap.size ≤ m ∧ Below w.heap.size w w'
def StC (s : Int) (xs : List Int) (t : Int) (ys : List Int) (k : Int) : Prop := ((Ok s xs ∧ Ok t ys ∧ s = t) ∧ tilC s xs ys) ∧ 1 ≤ k ∧ k * s ≤ 24
def C2Post (c : Prop) (s1 : Int) (l1 : List Int) (s2 : Int) (l2 : List Int) (w : World) (e : Ending) (w' : World) : Prop := Ret2Post (cS c s1) (cZ c l1) (cS c s2) (cZ c l2) (cB c) w e w'
theorem c2_no {c : Prop} {s1 s2 : Int} {l1 l2 : List Int} {w w' : World} (h : ¬ c) (hb : Below w.heap.size w w') :
    C2Post c s1 l1 s2 l2 w (.returned (.tuple #[rhy 0 none 0 0, rhy 0 none 0 0, .bool false])) w' := by
  unfold C2Post
  rw [cS_no h, cZ_no h, cS_no h, cZ_no h, cB_no h]
  exact ⟨none, 0, none, 0, w'.heap.size, rfl, row_of (World.ownsRow_nil _ _ _ _), row_of (World.ownsRow_nil _ _ _ _), hb.size, hb⟩
theorem c2_yes {c : Prop} {s1 s2 : Int} {l1 l2 : List Int} {w w' : World} {e : Ending} (h : c) (hr : Ret2Post s1 l1 s2 l2 true w e w') : C2Post c s1 l1 s2 l2 w e w' := by
  unfold C2Post
  rwa [cS_yes h, cZ_yes h, cS_yes h, cZ_yes h, cB_yes h]
theorem Row.set {w : World} {lo hi : Nat} {a : Option Addr} {n cap : Nat} {l : List Int} (h : Row w lo hi a n cap l) {N : Nat} (hN : N < lo) (o : Nat) (v : Value) : Row (w.setCell ⟨N, o, none⟩ v) lo hi a n cap l :=
  ⟨ownsRow_setCell_below h.1 (by show N < lo; exact hN) _, h.2.1, by simpa using h.2.2⟩
theorem row_down {w w' : World} {lo hi : Nat} {a : Option Addr} {n cap : Nat} {l : List Int} (h : Row w lo hi a n cap l) {lo' : Nat} (hl : lo' ≤ lo) (hs : w'.heap.size = hi) (e : w' = w) : Row w' lo' w'.heap.size a n cap l := by
  subst e
  rw [hs]
  exact h.lo hl
theorem til_no {s : Int} {xs : List Int} {t : Int} {ys : List Int} {k : Int} (h : tilB s xs t ys = false) : ¬ (StC s xs t ys k) := fun q => by
  have : tilB s xs t ys = true := cB_yes q.1
  rw [h] at this
  cases this
theorem til_yes {s : Int} {xs : List Int} {t : Int} {ys : List Int} (h : tilB s xs t ys = true) : (Ok s xs ∧ Ok t ys ∧ s = t) ∧ tilC s xs ys := by
  by_cases q : (Ok s xs ∧ Ok t ys ∧ s = t) ∧ tilC s xs ys
  · exact q
  · unfold tilB at h; rw [cB_no q] at h; cases h
theorem wid_anyN (n : Nat) (a : Option Addr) (len cap : Nat) (zs : List Int) (k r N : Nat) (w : World) (hN : k * n = N) (h : IntsAt w a len zs) (hl : len ≤ 1048576) (ho : Ok n zs) (hk : 1 ≤ k) (hkn : k * n ≤ 24) (hr : r ≤ k) :
    Calls Try.prog 80 #[rhy n a len cap, .int .i64 k, .int .i64 r] w (RhyPost (N : Int) (widL k r zs) w) := by
  rw [← hN]
  exact wid_any n a len cap zs k r w h hl ho hk hkn hr
/-- What both answer. -/
abbrev StV (s : Int) (xs : List Int) (t : Int) (ys : List Int) (k : Int) (w : World) : Ending → World → Prop := C2Post (StC s xs t ys k) (k * s) (widL k.toNat 1 xs) (k * s) (widL k.toNat k.toNat ys) w

set_option maxHeartbeats 2000000 in
set_option maxRecDepth 100000 in
theorem stt_impl (s : Int) (a : Option Addr) (n ca : Nat) (xs : List Int) (t : Int) (b : Option Addr) (m cb : Nat) (ys : List Int) (k : Int) (w : World) (ha : IntsAt w a n xs) (hn : xs.length ≤ 1048576) (hb : IntsAt w b m ys) (hm : ys.length ≤ 1048576) (hk1 : -9223372036854775808 ≤ k) (hk2 : k ≤ 9223372036854775807) :
    Calls Try.prog 53 #[rhy s a n ca, rhy t b m cb, .int .i64 k] w (StV s xs t ys k w) := by
  have FA := Lib.hid ha
  have FB := Lib.hid hb
  have hn' : n ≤ 1048576 := by have := ha.1; omega
  have hm' : m ≤ 1048576 := by have := hb.1; omega
  clear ha hb
  obtain ⟨W0, hW⟩ : ∃ W0, W0 = (((w.alloc (.cells #[.int .i64 s, .slice a n ca] 26)).alloc (.cells #[.int .i64 t, .slice b m cb] 26)).alloc (.cells #[.int .i64 0, .slice none 0 0] 26)).alloc (.cells #[.int .i64 0, .slice none 0 0] 26) := ⟨_, rfl⟩
  have HW := Lib.hid hW
  have HB0 := Lib.hid (show Below w.heap.size w W0 by rw [hW]; exact bel4 w _ _ _ _)
  have HX0 : Hid (RhI W0 w.heap.size s a n ca xs) := Lib.hid ⟨by rw [hW]; exact (box_new w _ _ _).keep (bel3 _ _ _ _) (by simp), FA.out.below HB0.out⟩
  have HY0 : Hid (RhI W0 (w.heap.size + 1) t b m cb ys) := Lib.hid ⟨by rw [hW]; simpa using (box_new (w.alloc (.cells #[.int .i64 s, .slice a n ca] 26)) (.int .i64 t) (.slice b m cb) 26).keep (bel2 _ _ _) (by simp), FB.out.below HB0.out⟩
  have HU0 : Hid (Box W0 (w.heap.size + 1 + 1) (.int .i64 0) (.slice none 0 0) 26) := Lib.hid (by rw [hW]; simpa using (box_new ((w.alloc (.cells #[.int .i64 s, .slice a n ca] 26)).alloc (.cells #[.int .i64 t, .slice b m cb] 26)) (.int .i64 0) (.slice none 0 0) 26).keep (bel1 _ _) (by simp))
  have HV0 : Hid (Box W0 (w.heap.size + 1 + 1 + 1) (.int .i64 0) (.slice none 0 0) 26) := Lib.hid (by rw [hW]; simpa using box_new (((w.alloc (.cells #[.int .i64 s, .slice a n ca] 26)).alloc (.cells #[.int .i64 t, .slice b m cb] 26)).alloc (.cells #[.int .i64 0, .slice none 0 0] 26)) (.int .i64 0) (.slice none 0 0) 26)
  clear hW FA FB
  cases hd : tilB s xs t ys
  · have HD := Lib.hid hd
    have HC : Hid (¬ (StC s xs t ys k)) := Lib.hid (til_no hd)
    clear hd
    obtain ⟨c0, c1, f0, f1⟩ := HX0.out.1.facts
    obtain ⟨d0, d1, g0, g1⟩ := HY0.out.1.facts
    go_enter Try.func53, Try.ntmps53
    go_wp2_with fail
    rw [← HW.out]
    refine (til_impl s a n ca xs t b m cb ys _ HX0.out.2 hn HY0.out.2 hm).mono ?_
    rintro e w1 ⟨rfl, hb1⟩
    rw [HD.out]
    have HB1 := Lib.hid (HB0.out.trans (hb1.mono HB0.out.size))
    have HX1 := Lib.hid (HX0.out.keep hb1)
    have HY1 := Lib.hid (HY0.out.keep hb1)
    have HU1 := Lib.hid (HU0.out.keep hb1 HU0.out.lt)
    have HV1 := Lib.hid (HV0.out.keep hb1 HV0.out.lt)
    clear c0 c1 f0 f1 d0 d1 g0 g1 hb1
    obtain ⟨c0, c1, f0, f1⟩ := HX1.out.1.facts
    obtain ⟨d0, d1, g0, g1⟩ := HY1.out.1.facts
    obtain ⟨q0, q1, q2, q3⟩ := HU1.out.facts
    have l1 := HU1.out.lt
    obtain ⟨r0, r1, r2, r3⟩ := HV1.out.facts
    have l2 := HV1.out.lt
    go_wp2
    refine bodyPost_ret (v := .tuple #[rhy 0 none 0 0, rhy 0 none 0 0, .bool false]) (by simp [results, Try.results53, go_sem, *]) rfl (c2_no HC.out ?_)
    exact (((HB1.out.setCell (by show w.heap.size ≤ w.heap.size + 1 + 1; omega) _).setCell (by show w.heap.size ≤ w.heap.size + 1 + 1; omega) _).setCell (by show w.heap.size ≤ w.heap.size + 1 + 1 + 1; omega) _).setCell (by show w.heap.size ≤ w.heap.size + 1 + 1 + 1; omega) _
  · have HD := Lib.hid hd
    have hq0 := til_yes hd
    have hs1 := hq0.1.1.1.1
    have hs2 := hq0.1.1.1.2
    have HQ0 := Lib.hid hq0
    clear hd hq0
    by_cases hg : 1 ≤ k ∧ k * s ≤ 24
    · have HG : Hid (decide (1 ≤ k ∧ k * s ≤ 24) = true) := Lib.hid (decide_eq_true hg)
      obtain ⟨q, rfl⟩ : ∃ q : Nat, s = q := ⟨s.toNat, by omega⟩
      obtain ⟨kk, rfl⟩ : ∃ kk : Nat, k = kk := ⟨k.toNat, by omega⟩
      have hKq : kk * q ≤ 24 := by have := hg.2; exact_mod_cast this
      have HC : Hid (StC q xs t ys kk) := Lib.hid ⟨HQ0.out, hg⟩
      have HT : Hid (t = (q : Int)) := Lib.hid HQ0.out.1.2.2.symm
      have HO : Hid (Ok (q : Int) xs) := Lib.hid HQ0.out.1.1
      have HP : Hid (Ok (q : Int) ys) := Lib.hid (by have := HQ0.out.1.2.1; rwa [← HQ0.out.1.2.2] at this)
      have hK1 : 1 ≤ kk := by omega
      obtain ⟨N, hN⟩ : ∃ N : Nat, kk * q = N := ⟨_, rfl⟩
      have hmulz : (kk : Int) * (q : Int) = (N : Int) := by rw [← hN]; simp
      have HN := Lib.hid hN
      clear hN
      have HKQ := Lib.hid hKq
      clear hKq
      have HMZ := Lib.hid hmulz
      clear hg hmulz
      rw [HT.out] at HY0 HW HD ⊢
      unfold StV
      rw [HT.out] at HC
      rw [HMZ.out, Int.toNat_natCast]
      obtain ⟨c0, c1, f0, f1⟩ := HX0.out.1.facts
      obtain ⟨d0, d1, g0, g1⟩ := HY0.out.1.facts
      go_enter Try.func53, Try.ntmps53
      go_wp2_with fail
      rw [← HW.out]
      refine (til_impl q a n ca xs q b m cb ys _ HX0.out.2 hn HY0.out.2 hm).mono ?_
      rintro e w1 ⟨rfl, hb1⟩
      rw [HD.out]
      have HB1 := Lib.hid (HB0.out.trans (hb1.mono HB0.out.size))
      have HX1 := Lib.hid (HX0.out.keep hb1)
      have HY1 := Lib.hid (HY0.out.keep hb1)
      have HU1 := Lib.hid (HU0.out.keep hb1 HU0.out.lt)
      have HV1 := Lib.hid (HV0.out.keep hb1 HV0.out.lt)
      clear c0 c1 f0 f1 d0 d1 g0 g1 hb1
      obtain ⟨c0, c1, f0, f1⟩ := HX1.out.1.facts
      obtain ⟨d0, d1, g0, g1⟩ := HY1.out.1.facts
      go_wp2_with fail
      refine (grow_any q a n ca kk _ hs1 hs2 hk1 hk2 true HG.out).mono ?_
      rintro e w2 ⟨rfl, hb2⟩
      have HB2 := Lib.hid (HB1.out.trans (hb2.mono HB1.out.size))
      have HX2 := Lib.hid (HX1.out.keep hb2)
      have HY2 := Lib.hid (HY1.out.keep hb2)
      have HU2 := Lib.hid (HU1.out.keep hb2 HU1.out.lt)
      have HV2 := Lib.hid (HV1.out.keep hb2 HV1.out.lt)
      clear c0 c1 f0 f1 d0 d1 g0 g1 hb2
      obtain ⟨c0, c1, f0, f1⟩ := HX2.out.1.facts
      obtain ⟨d0, d1, g0, g1⟩ := HY2.out.1.facts
      clear c0 c1 f0 f1 d0 d1 g0 g1
      go_upto_region 3 with fail
      have HK : Hid (∀ W' : World, Below w2.heap.size w2 W' → W'.cell? ⟨w.heap.size, 0, none⟩ = some (.int .i64 q) ∧ W'.cell? ⟨w.heap.size, 1, none⟩ = some (.slice a n ca) ∧ W'.cell? ⟨w.heap.size + 1, 0, none⟩ = some (.int .i64 q) ∧ W'.cell? ⟨w.heap.size + 1, 1, none⟩ = some (.slice b m cb)) := Lib.hid (fun W' hW => ⟨(HX2.out.keep hW).1.facts.1, (HX2.out.keep hW).1.facts.2.1, (HY2.out.keep hW).1.facts.1, (HY2.out.keep hW).1.facts.2.1⟩)
      have hq0 : Below w2.heap.size w2 w2.drew := (Below.refl _ _).drew
      refine wp_region_held_drew (S := fun W' => W'.cell? ⟨w.heap.size, 0, none⟩ = some (.int .i64 q) ∧ W'.cell? ⟨w.heap.size, 1, none⟩ = some (.slice a n ca) ∧ W'.cell? ⟨w.heap.size + 1, 0, none⟩ = some (.int .i64 q) ∧ W'.cell? ⟨w.heap.size + 1, 1, none⟩ = some (.slice b m cb)) (by kernel_rfl) (HK.out _ hq0) (fun hSS0 => ?_)
      refine wpAnyH_take (i := 0) (oi := ⟨some 21, _, _, _, _, _⟩) (v := .agg #[.int .i64 q, .slice a n ca]) rfl (by kernel_rfl) (by kernel_rfl) (by kernel_rfl) (fun _ _ _ h => h) (Or.inl ⟨by rfl, fun W hSw => by obtain ⟨s1, s2, s3, s4⟩ := hSw; go_simp⟩) (by assumption) ?_
      try simp only [Act.put, List.setIfInBounds_toArray, List.set_cons_zero, List.set_cons_succ]
      refine wpAnyH_take (i := 1) (oi := ⟨some 22, _, _, _, _, _⟩) (v := .int .i64 kk) rfl (by kernel_rfl) (by kernel_rfl) (by kernel_rfl) (fun _ _ _ h => h) (Or.inl ⟨by rfl, fun W hSw => by go_simp⟩) (by assumption) ?_
      try simp only [Act.put, List.setIfInBounds_toArray, List.set_cons_zero, List.set_cons_succ]
      refine wpAnyH_take (i := 3) (oi := ⟨some 24, _, _, _, _, _⟩) (v := .agg #[.int .i64 q, .slice b m cb]) rfl (by kernel_rfl) (by kernel_rfl) (by kernel_rfl) (fun _ _ _ h => h) (Or.inl ⟨by rfl, fun W hSw => by obtain ⟨s1, s2, s3, s4⟩ := hSw; go_simp⟩) (by assumption) ?_
      try simp only [Act.put, List.setIfInBounds_toArray, List.set_cons_zero, List.set_cons_succ]
      refine wpAnyH_take (i := 4) (oi := ⟨some 25, _, _, _, _, _⟩) (v := .int .i64 kk) rfl (by kernel_rfl) (by kernel_rfl) (by kernel_rfl) (fun _ _ _ h => h) (Or.inl ⟨by rfl, fun W hSw => by go_simp⟩) (by assumption) ?_
      try simp only [Act.put, List.setIfInBounds_toArray, List.set_cons_zero, List.set_cons_succ]
      refine wpAnyH_take (i := 5) (oi := ⟨some 26, _, _, _, _, _⟩) (v := .int .i64 kk) rfl (by kernel_rfl) (by kernel_rfl) (by kernel_rfl) (fun _ _ _ h => h) (Or.inl ⟨by rfl, fun W hSw => by go_simp⟩) (by assumption) ?_
      try simp only [Act.put, List.setIfInBounds_toArray, List.set_cons_zero, List.set_cons_succ]
      refine wpAnyH_ready (rs := [2]) (by kernel_rfl) (by simp) ?_
      refine AllReadyH.cons rfl (fun K hKK => ?_) AllReadyH.nil
      go_simp
      go_at_call 80
      refine (wid_anyN q a n ca xs kk 1 N _ HN.out (HX2.out.keep hq0).2 hn' HO.out hK1 HKQ.out hK1).mono ?_
      rintro e y1 ⟨ax, cx, rfl, hownx, hc1⟩
      have hr1 : Row y1 w2.heap.size y1.heap.size ax (widL kk 1 xs).length cx (widL kk 1 xs) := (row_of hownx).lo (by simp)
      have hq1 := hq0.trans (hc1.mono hq0.size)
      clear hc1 hownx
      refine hKK.out _ _ (HK.out _ hq1) (fun hSS1 => ?_)
      clear hKK hSS0
      try simp only [Act.put, List.setIfInBounds_toArray, List.set_cons_zero, List.set_cons_succ]
      refine wpAnyH_ready (rs := [6]) (by kernel_rfl) (by simp) ?_
      refine AllReadyH.cons rfl (fun K hKK => ?_) AllReadyH.nil
      go_simp
      go_at_call 80
      refine (wid_anyN q b m cb ys kk kk N _ HN.out (HY2.out.keep hq1).2 hm' HP.out hK1 HKQ.out (Nat.le_refl _)).mono ?_
      rintro e y2 ⟨ay, cy, rfl, howny, hc2⟩
      have hr2 : Row y2 w2.heap.size y1.heap.size ax (widL kk 1 xs).length cx (widL kk 1 xs) := hr1.keep hc2
      have hr3 : Row y2 y1.heap.size y2.heap.size ay (widL kk kk ys).length cy (widL kk kk ys) := row_of howny
      have hq2 := hq1.trans (hc2.mono hq1.size)
      have hz21 := hc2.size
      clear hc2 howny hr1
      refine hKK.out _ _ (HK.out _ hq2) (fun hSS2 => ?_)
      clear hKK hSS1
      try simp only [Act.put, List.setIfInBounds_toArray, List.set_cons_zero, List.set_cons_succ]
      have hz2 := hq1.size
      have HUy := HU2.out.keep hq2 HU2.out.lt
      have HVy := HV2.out.keep hq2 HV2.out.lt
      obtain ⟨q0, q1, q2, q3⟩ := HUy.facts
      obtain ⟨lx, hlx⟩ : ∃ l, widL kk 1 xs = l := ⟨_, rfl⟩
      obtain ⟨ly, hly⟩ : ∃ l, widL kk kk ys = l := ⟨_, rfl⟩
      have HLX := Lib.hid hlx
      have HLY := Lib.hid hly
      rw [hlx] at hr2
      rw [hly] at hr3
      rw [hlx, hly]
      clear hlx hly
      have hu := HU2.out.lt
      have hv := HV2.out.lt
      have HB3 := Lib.hid (HB2.out.trans (hq2.mono HB2.out.size))
      have hnx : w.heap.size + 1 + 1 ≠ w.heap.size := by omega
      have hny : w.heap.size + 1 + 1 ≠ w.heap.size + 1 := by omega
      have HXy := HX2.out.keep hq2
      have HYy := HY2.out.keep hq2
      have hbx : w.heap.size + 1 + 1 < y2.heap.size := by omega
      refine wpAnyH_ready (rs := [7]) (by kernel_rfl) (by simp) ?_
      refine AllReadyH.cons rfl (fun K hKK => ?_) AllReadyH.nil
      go_simp
      have ex1 := (HXy.1.other (c := w.heap.size + 1 + 1) (o := 0) (.int .i64 N) hnx).other (c := w.heap.size + 1 + 1) (o := 1) (.slice ax lx.length cx) hnx
      have ey1 := (HYy.1.other (c := w.heap.size + 1 + 1) (o := 0) (.int .i64 N) hny).other (c := w.heap.size + 1 + 1) (o := 1) (.slice ax lx.length cx) hny
      have ev1 := (HVy.other (c := w.heap.size + 1 + 1) (o := 0) (.int .i64 N) (by omega)).other (c := w.heap.size + 1 + 1) (o := 1) (.slice ax lx.length cx) (by omega)
      have eu1 := (HUy.set0 (.int .i64 N)).set1 (.slice ax lx.length cx)
      refine hKK.out _ _ ⟨ex1.facts.1, ex1.facts.2.1, ey1.facts.1, ey1.facts.2.1⟩ (fun hSS3 => ?_)
      clear hKK hSS2 q0 q1 q2 q3
      try simp only [Act.put, List.setIfInBounds_toArray, List.set_cons_zero, List.set_cons_succ]
      obtain ⟨y3, hy3⟩ : ∃ y3, y3 = (y2.setCell ⟨w.heap.size + 1 + 1, 0, none⟩ (.int .i64 N)).setCell ⟨w.heap.size + 1 + 1, 1, none⟩ (.slice ax lx.length cx) := ⟨_, rfl⟩
      rw [← hy3] at ex1 ey1 ev1 eu1 hSS3 ⊢
      have hb3 : Below w.heap.size w y3 := by rw [hy3]; exact (HB3.out.setCell (by show w.heap.size ≤ w.heap.size + 1 + 1; omega) _).setCell (by show w.heap.size ≤ w.heap.size + 1 + 1; omega) _
      have hr4 : Row y3 w2.heap.size y1.heap.size ax lx.length cx lx := by rw [hy3]; exact (hr2.set (by omega) _ _).set (by omega) _ _
      have hr5 : Row y3 y1.heap.size y2.heap.size ay ly.length cy ly := by rw [hy3]; exact (hr3.set (by omega) _ _).set (by omega) _ _
      have hz3 : y3.heap.size = y2.heap.size := by rw [hy3]; simp
      clear hr2 hr3 HB3 HXy HYy HUy HVy hy3
      obtain ⟨r0, r1, r2, r3⟩ := ev1.facts
      refine wpAnyH_ready (rs := [8]) (by kernel_rfl) (by simp) ?_
      refine AllReadyH.cons rfl (fun K hKK => ?_) AllReadyH.nil
      go_simp
      have ex2 := (ex1.other (c := w.heap.size + 1 + 1 + 1) (o := 0) (.int .i64 N) (by omega)).other (c := w.heap.size + 1 + 1 + 1) (o := 1) (.slice ay ly.length cy) (by omega)
      have ey2 := (ey1.other (c := w.heap.size + 1 + 1 + 1) (o := 0) (.int .i64 N) (by omega)).other (c := w.heap.size + 1 + 1 + 1) (o := 1) (.slice ay ly.length cy) (by omega)
      have eu2 := (eu1.other (c := w.heap.size + 1 + 1 + 1) (o := 0) (.int .i64 N) (by omega)).other (c := w.heap.size + 1 + 1 + 1) (o := 1) (.slice ay ly.length cy) (by omega)
      have ev2 := (ev1.set0 (.int .i64 N)).set1 (.slice ay ly.length cy)
      refine hKK.out _ _ ⟨ex2.facts.1, ex2.facts.2.1, ey2.facts.1, ey2.facts.2.1⟩ (fun hSS4 => ?_)
      clear hKK hSS3 r0 r1 r2 r3
      try simp only [Act.put, List.setIfInBounds_toArray, List.set_cons_zero, List.set_cons_succ]
      obtain ⟨y4, hy4⟩ : ∃ y4, y4 = (y3.setCell ⟨w.heap.size + 1 + 1 + 1, 0, none⟩ (.int .i64 N)).setCell ⟨w.heap.size + 1 + 1 + 1, 1, none⟩ (.slice ay ly.length cy) := ⟨_, rfl⟩
      rw [← hy4] at ex2 ey2 ev2 eu2 hSS4 ⊢
      have hb4 : Below w.heap.size w y4 := by rw [hy4]; exact (hb3.setCell (by show w.heap.size ≤ w.heap.size + 1 + 1 + 1; omega) _).setCell (by show w.heap.size ≤ w.heap.size + 1 + 1 + 1; omega) _
      have hr6 : Row y4 w2.heap.size y1.heap.size ax lx.length cx lx := by rw [hy4]; exact (hr4.set (by omega) _ _).set (by omega) _ _
      have hr7 : Row y4 y1.heap.size y2.heap.size ay ly.length cy ly := by rw [hy4]; exact (hr5.set (by omega) _ _).set (by omega) _ _
      have hz4 : y4.heap.size = y2.heap.size := by rw [hy4]; simp [hz3]
      clear hr4 hr5 hb3 ex1 ey1 ev1 eu1 hy4
      refine wpAnyH_take (i := 9) (oi := ⟨some 8, _, _, _, _, _⟩) (v := .bool true) rfl (by kernel_rfl) (by kernel_rfl) (by kernel_rfl) (fun _ _ _ h => h) (Or.inl ⟨by rfl, fun W hSw => by go_simp⟩) (by assumption) ?_
      try simp only [Act.put, List.setIfInBounds_toArray, List.set_cons_zero, List.set_cons_succ]
      refine wpAnyH_done (by kernel_rfl) ?_ _
      obtain ⟨u0, u1, u2, u3⟩ := eu2.facts
      obtain ⟨v0, v1, v2, v3⟩ := ev2.facts
      have lu := eu2.lt
      have lv := ev2.lt
      go_wp2
      refine bodyPost_ret (v := .tuple #[rhy (N : Int) ax lx.length cx, rhy (N : Int) ay ly.length cy, .bool true]) (by simp [results, Try.results53, go_sem, *]) rfl (c2_yes HC.out ?_)
      rw [HLX.out, HLY.out]
      exact ⟨ax, cx, ay, cy, y1.heap.size, rfl, hr6.lo (by omega), by rw [hz4]; exact hr7, by omega, hb4⟩
    · have HG : Hid (decide (1 ≤ k ∧ k * s ≤ 24) = false) := Lib.hid (decide_eq_false hg)
      have HC : Hid (¬ (StC s xs t ys k)) := Lib.hid (fun q => hg q.2)
      clear hg
      obtain ⟨c0, c1, f0, f1⟩ := HX0.out.1.facts
      obtain ⟨d0, d1, g0, g1⟩ := HY0.out.1.facts
      go_enter Try.func53, Try.ntmps53
      go_wp2_with fail
      rw [← HW.out]
      refine (til_impl s a n ca xs t b m cb ys _ HX0.out.2 hn HY0.out.2 hm).mono ?_
      rintro e w1 ⟨rfl, hb1⟩
      rw [HD.out]
      have HB1 := Lib.hid (HB0.out.trans (hb1.mono HB0.out.size))
      have HX1 := Lib.hid (HX0.out.keep hb1)
      have HY1 := Lib.hid (HY0.out.keep hb1)
      have HU1 := Lib.hid (HU0.out.keep hb1 HU0.out.lt)
      have HV1 := Lib.hid (HV0.out.keep hb1 HV0.out.lt)
      clear c0 c1 f0 f1 d0 d1 g0 g1 hb1
      obtain ⟨c0, c1, f0, f1⟩ := HX1.out.1.facts
      obtain ⟨d0, d1, g0, g1⟩ := HY1.out.1.facts
      go_wp2_with fail
      refine (grow_any s a n ca k _ hs1 hs2 hk1 hk2 false HG.out).mono ?_
      rintro e w2 ⟨rfl, hb2⟩
      have HB2 := Lib.hid (HB1.out.trans (hb2.mono HB1.out.size))
      have HX2 := Lib.hid (HX1.out.keep hb2)
      have HY2 := Lib.hid (HY1.out.keep hb2)
      have HU2 := Lib.hid (HU1.out.keep hb2 HU1.out.lt)
      have HV2 := Lib.hid (HV1.out.keep hb2 HV1.out.lt)
      clear c0 c1 f0 f1 d0 d1 g0 g1 hb2
      obtain ⟨c0, c1, f0, f1⟩ := HX2.out.1.facts
      obtain ⟨d0, d1, g0, g1⟩ := HY2.out.1.facts
      obtain ⟨q0, q1, q2, q3⟩ := HU2.out.facts
      have l1 := HU2.out.lt
      obtain ⟨r0, r1, r2, r3⟩ := HV2.out.facts
      have l2 := HV2.out.lt
      go_wp2
      refine bodyPost_ret (v := .tuple #[rhy 0 none 0 0, rhy 0 none 0 0, .bool false]) (by simp [results, Try.results53, go_sem, *]) rfl (c2_no HC.out ?_)
      exact (((HB2.out.setCell (by show w.heap.size ≤ w.heap.size + 1 + 1; omega) _).setCell (by show w.heap.size ≤ w.heap.size + 1 + 1; omega) _).setCell (by show w.heap.size ≤ w.heap.size + 1 + 1 + 1; omega) _).setCell (by show w.heap.size ≤ w.heap.size + 1 + 1 + 1; omega) _
end Go.Proofs.Ytpgolnkhbnancaa.Rhy
