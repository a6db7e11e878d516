/-
  Helpers of the claims beside this text: PeriodOf, IsPeriodic, RotationTo, AreRotations, AreForms, AxesOf, IsMirrored of both sides.
-/
import Derived.Test.YtcppmcacjjjjeaaFmc
namespace Go.Proofs.Ytcppmcacjjjjeaa.Rhy
open Go.RowKit
set_option linter.unusedVariables false

/-! What both sides answer. -/
noncomputable def ispB (s : Int) (zs : List Int) : Bool := okB s zs && decide ((perZ s zs : Int) < s)
noncomputable def rotToB (s : Int) (xs : List Int) (t : Int) (ys : List Int) : Int := @ite _ (Ok s xs ∧ Ok t ys) (Classical.propDecidable _) (rotToW s.toNat xs t ys) (-1)
theorem rotToB_yes {n : Nat} {xs : List Int} {t : Int} {ys : List Int} (hx : Ok n xs) (hy : Ok t ys) : rotToB n xs t ys = rotToW n xs t ys := by simp [rotToB, hx, hy]
theorem rotToB_no {s : Int} {xs : List Int} {t : Int} {ys : List Int} (h : ¬ (Ok s xs ∧ Ok t ys)) : rotToB s xs t ys = -1 := by unfold rotToB; rw [if_neg h]
noncomputable def arotB (s : Int) (xs : List Int) (t : Int) (ys : List Int) : Bool := decide (0 ≤ rotToB s xs t ys)
noncomputable def aforB (s : Int) (xs : List Int) (t : Int) (ys : List Int) : Bool := okB s xs && (arotB s xs t ys || arotB s (rotZ s xs (-1) 0) t ys)
noncomputable def axB (s : Int) (zs : List Int) : List Int := cZ (Ok s zs) (axesZ s zs)
theorem axB_yes {s : Int} {zs : List Int} (h : Ok s zs) : axB s zs = axesZ s zs := cZ_yes h
theorem axB_no {s : Int} {zs : List Int} (h : ¬ Ok s zs) : axB s zs = [] := cZ_no h
theorem axB_int (s : Int) (zs : List Int) : AllInt (axB s zs) := by
  by_cases h : Ok s zs
  · rw [axB_yes h]; exact axesP_int _ _ _ (by have := h.1; omega)
  · rw [axB_no h]; intro z hz; cases hz
theorem axB_len (s : Int) (zs : List Int) : (axB s zs).length ≤ 24 := by
  by_cases h : Ok s zs
  · rw [axB_yes h]; exact Nat.le_trans (axesP_len _ _ _) (by have := h.1; omega)
  · rw [axB_no h]; simp
noncomputable def ismB (s : Int) (zs : List Int) : Bool := decide (0 < (axB s zs).length)
theorem rotToB_bd (s : Int) (xs : List Int) (t : Int) (ys : List Int) : -1 ≤ rotToB s xs t ys ∧ rotToB s xs t ys ≤ 24 := by
  by_cases h : Ok s xs ∧ Ok t ys
  · obtain ⟨n, rfl⟩ : ∃ n : Nat, s = n := ⟨s.toNat, by have := h.1.1; omega⟩
    rw [rotToB_yes h.1 h.2]
    have := h.1.1.2
    unfold rotToW rotToZ
    split
    · split <;> omega
    · omega
  · rw [rotToB_no h]; omega
theorem start2 (w W0 : World) (s : Int) (a : Option Addr) (n ca : Nat) (t : Int) (b : Option Addr) (m cb : Nat) (hW : W0 = (w.alloc (.cells #[.int .i64 s, .slice a n ca] 25)).alloc (.cells #[.int .i64 t, .slice b m cb] 25)) :
    Below w.heap.size w W0 ∧ Two W0 w.heap.size (.int .i64 s) (.slice a n ca) ∧ Two W0 (w.heap.size + 1) (.int .i64 t) (.slice b m cb) := by
  subst hW
  refine ⟨bel2 w _ _, (two_new w _ _ _).keep (bel1 _ _), ?_⟩
  have := two_new (w.alloc (.cells #[.int .i64 s, .slice a n ca] 25)) (.int .i64 t) (.slice b m cb) 25
  simpa using this




set_option maxHeartbeats 1000000 in
set_option maxRecDepth 100000 in
theorem rotTo_impl (s : Int) (a : Option Addr) (n ca : Nat) (xs : List Int) (t : Int) (b : Option Addr) (m cb : Nat) (ys : List Int) (w : World) (ha : IntsAt w a n xs) (hn : xs.length ≤ 1048576) (hb : IntsAt w b m ys) (hm : ys.length ≤ 1048576) :
    Calls Try.prog 107 #[rhy s a n ca, rhy t b m cb] w fun e w' => e = .returned (.int .i64 (rotToB s xs t ys)) ∧ Below w.heap.size w w' := by
  have FA := Lib.hid ha
  have FB := Lib.hid hb
  have ln : n ≤ 1048576 := by have := ha.1; omega
  have lm : m ≤ 1048576 := by have := hb.1; omega
  clear ha hb
  obtain ⟨W0, hW⟩ : ∃ W0, W0 = (w.alloc (.cells #[.int .i64 s, .slice a n ca] 25)).alloc (.cells #[.int .i64 t, .slice b m cb] 25) := ⟨_, rfl⟩
  have HW := Lib.hid hW
  have H0 := Lib.hid (start2 w W0 s a n ca t b m cb hW)
  clear hW
  by_cases ho : Ok s xs
  · have HOA := Lib.hid ho
    by_cases hp : Ok t ys
    · have HOB := Lib.hid hp
      obtain ⟨k, rfl⟩ : ∃ k : Nat, s = k := ⟨s.toNat, by have := ho.1.1; omega⟩
      have HE := Lib.hid (rotToB_yes (n := k) ho hp)
      clear ho hp
      go_enter Try.func107, Try.ntmps107
      go_wp2_with fail
      rw [← HW.out]
      refine (valid_yes _ a n ca xs _ (FA.out.below H0.out.1) ln HOA.out).mono ?_
      rintro e w1 ⟨rfl, hb1⟩
      have B1 := Lib.hid ((H0.out.1).trans (hb1.mono (H0.out.1).size))
      have T1 := Lib.hid (H0.out.2.1.keep hb1)
      have U1 := Lib.hid (H0.out.2.2.keep hb1)
      obtain ⟨t1, t1a, t1b⟩ := T1.out
      obtain ⟨u1, u1a, u1b⟩ := U1.out
      clear hb1
      go_wp2_with fail
      refine (valid_yes t b m cb ys _ (FB.out.below B1.out) lm HOB.out).mono ?_
      rintro e w2 ⟨rfl, hb2⟩
      have B2 := Lib.hid ((B1.out).trans (hb2.mono (B1.out).size))
      have T2 := Lib.hid (T1.out.keep hb2)
      have U2 := Lib.hid (U1.out.keep hb2)
      obtain ⟨t2, t2a, t2b⟩ := T2.out
      obtain ⟨u2, u2a, u2b⟩ := U2.out
      clear hb2
      clear t1 t1a t1b u1 u1a u1b
      have HK : Hid (∀ W', Below w2.heap.size w2 W' → W'.cell? ⟨w.heap.size, 0, none⟩ = some (.int .i64 k) ∧ W'.cell? ⟨w.heap.size, 1, none⟩ = some (.slice a n ca) ∧ W'.cell? ⟨w.heap.size + 1, 0, none⟩ = some (.int .i64 t) ∧ W'.cell? ⟨w.heap.size + 1, 1, none⟩ = some (.slice b m cb) ∧ Below w2.heap.size w2 W') := Lib.hid (fun W' hW => ⟨(T2.out.keep hW).2.1, (T2.out.keep hW).2.2, (U2.out.keep hW).2.1, (U2.out.keep hW).2.2, hW⟩)
      have HA : Hid (∀ W', Below w2.heap.size w2 W' → IntsAt W' a n xs) := Lib.hid (fun W' hW => FA.out.below (B2.out.trans (hW.mono B2.out.size)))
      have HB : Hid (∀ W', Below w2.heap.size w2 W' → IntsAt W' b m ys) := Lib.hid (fun W' hW => FB.out.below (B2.out.trans (hW.mono B2.out.size)))
      go_wp2
      go_region_held3 (fun W' => W'.cell? ⟨w.heap.size, 0, none⟩ = some (.int .i64 k) ∧ W'.cell? ⟨w.heap.size, 1, none⟩ = some (.slice a n ca) ∧ W'.cell? ⟨w.heap.size + 1, 0, none⟩ = some (.int .i64 t) ∧ W'.cell? ⟨w.heap.size + 1, 1, none⟩ = some (.slice b m cb) ∧ Below w2.heap.size w2 W')
        (first | exact HK.out _ (Below.refl _ _).drew | exact HK.out _ hb3 | exact HK.out _ hb4)
        ((first
          | (go_at_call 122; refine (form_any t b m cb ys _ (HB.out _ (Below.refl _ _).drew) lm HOB.out).mono ?_; rintro e w3 ⟨rfl, hc3⟩; have hb3 := (Below.refl w2.heap.size w2).drew.trans hc3; clear hc3)
          | (go_at_call 124; refine (rotationTo_any k a n ca xs t ys _ (HA.out _ hb3) ln HOA.out HOB.out).mono ?_; rintro e w4 ⟨rfl, hc4⟩; have hb4 := hb3.trans (hc4.mono hb3.size); clear hc4)))
      have HX4 := Lib.hid (B2.out.trans (hb4.mono B2.out.size))
      clear HK HA HB hb3 hb4
      go_wp2
      go_ret
      exact ⟨ret_int HE.out.symm, HX4.out⟩
    · have HOB := Lib.hid hp
      have HE := Lib.hid (rotToB_no (s := s) (xs := xs) (t := t) (ys := ys) (fun q => hp q.2))
      clear ho hp
      go_enter Try.func107, Try.ntmps107
      go_wp2_with fail
      rw [← HW.out]
      refine (valid_yes s a n ca xs _ (FA.out.below H0.out.1) ln HOA.out).mono ?_
      rintro e w1 ⟨rfl, hb1⟩
      have B1 := Lib.hid ((H0.out.1).trans (hb1.mono (H0.out.1).size))
      have T1 := Lib.hid (H0.out.2.1.keep hb1)
      have U1 := Lib.hid (H0.out.2.2.keep hb1)
      obtain ⟨t1, t1a, t1b⟩ := T1.out
      obtain ⟨u1, u1a, u1b⟩ := U1.out
      clear hb1
      go_wp2_with fail
      refine (valid_no t b m cb ys _ (FB.out.below B1.out) lm HOB.out).mono ?_
      rintro e w2 ⟨rfl, hb2⟩
      have B2 := Lib.hid ((B1.out).trans (hb2.mono (B1.out).size))
      have T2 := Lib.hid (T1.out.keep hb2)
      have U2 := Lib.hid (U1.out.keep hb2)
      obtain ⟨t2, t2a, t2b⟩ := T2.out
      obtain ⟨u2, u2a, u2b⟩ := U2.out
      clear hb2
      go_wp2
      go_ret
      exact ⟨ret_int HE.out.symm, B2.out⟩
  · have HOA := Lib.hid ho
    have HE := Lib.hid (rotToB_no (s := s) (xs := xs) (t := t) (ys := ys) (fun q => ho q.1))
    clear ho
    go_enter Try.func107, Try.ntmps107
    go_wp2_with fail
    rw [← HW.out]
    refine (valid_no s a n ca xs _ (FA.out.below H0.out.1) ln HOA.out).mono ?_
    rintro e w1 ⟨rfl, hb1⟩
    have B1 := Lib.hid ((H0.out.1).trans (hb1.mono (H0.out.1).size))
    have T1 := Lib.hid (H0.out.2.1.keep hb1)
    have U1 := Lib.hid (H0.out.2.2.keep hb1)
    obtain ⟨t1, t1a, t1b⟩ := T1.out
    obtain ⟨u1, u1a, u1b⟩ := U1.out
    clear hb1
    go_wp2
    go_ret
    exact ⟨ret_int HE.out.symm, B1.out⟩

set_option maxHeartbeats 1000000 in
set_option maxRecDepth 100000 in
theorem rotTo_spec (s : Int) (a : Option Addr) (n ca : Nat) (xs : List Int) (t : Int) (b : Option Addr) (m cb : Nat) (ys : List Int) (w : World) (ha : IntsAt w a n xs) (hn : xs.length ≤ 1048576) (hb : IntsAt w b m ys) (hm : ys.length ≤ 1048576) :
    Calls Try.prog 126 #[rhy s a n ca, rhy t b m cb] w fun e w' => e = .returned (.int .i64 (rotToB s xs t ys)) ∧ Below w.heap.size w w' := by
  have FA := Lib.hid ha
  have FB := Lib.hid hb
  have ln : n ≤ 1048576 := by have := ha.1; omega
  have lm : m ≤ 1048576 := by have := hb.1; omega
  clear ha hb
  obtain ⟨W0, hW⟩ : ∃ W0, W0 = (w.alloc (.cells #[.int .i64 s, .slice a n ca] 25)).alloc (.cells #[.int .i64 t, .slice b m cb] 25) := ⟨_, rfl⟩
  have HW := Lib.hid hW
  have H0 := Lib.hid (start2 w W0 s a n ca t b m cb hW)
  clear hW
  by_cases ho : Ok s xs
  · have HOA := Lib.hid ho
    by_cases hp : Ok t ys
    · have HOB := Lib.hid hp
      obtain ⟨k, rfl⟩ : ∃ k : Nat, s = k := ⟨s.toNat, by have := ho.1.1; omega⟩
      have hk24 : k ≤ 24 := by have := ho.1.2; omega
      have HE := Lib.hid (rotToB_yes (n := k) ho hp)
      clear ho hp
      by_cases hst : (k : Int) = t
      · subst hst
        have HE2 : Hid (rotToB k xs k ys = rotToZ k xs ys) := Lib.hid (by rw [HE.out]; unfold rotToW; rw [if_pos rfl])
        go_enter Try.func126, Try.ntmps126
        go_wp2_with fail
        rw [← HW.out]
        refine (ok_yes _ a n ca xs _ (FA.out.below H0.out.1) ln HOA.out).mono ?_
        rintro e w1 ⟨rfl, hb1⟩
        have B1 := Lib.hid ((H0.out.1).trans (hb1.mono (H0.out.1).size))
        have T1 := Lib.hid (H0.out.2.1.keep hb1)
        have U1 := Lib.hid (H0.out.2.2.keep hb1)
        obtain ⟨t1, t1a, t1b⟩ := T1.out
        obtain ⟨u1, u1a, u1b⟩ := U1.out
        clear hb1
        go_wp2_with fail
        refine (ok_yes _ b m cb ys _ (FB.out.below B1.out) lm HOB.out).mono ?_
        rintro e w2 ⟨rfl, hb2⟩
        have B2 := Lib.hid ((B1.out).trans (hb2.mono (B1.out).size))
        have T2 := Lib.hid (T1.out.keep hb2)
        have U2 := Lib.hid (U1.out.keep hb2)
        obtain ⟨t2, t2a, t2b⟩ := T2.out
        obtain ⟨u2, u2a, u2b⟩ := U2.out
        clear hb2
        clear t1 t1a t1b u1 u1a u1b
        go_wp2
        go_loopw [5] (fun i wr => ∃ j : Nat, j ≤ k ∧ i = .int .i64 j ∧ Hid (∀ j' : Nat, j' < j → isRot k xs ys 1 j' = false) ∧ Below w2.heap.size w2 wr) (fun i _ => k - (intOf i).toNat)
        case atStart => exact ⟨0, by omega, rfl, Lib.hid (fun j hj => by omega), Below.refl _ _⟩
        case round =>
          clear t2 t2a t2b u2 u2a u2b
          obtain ⟨j, hj, rfl, HN, hnx⟩ := hrel
          have HBW := Lib.hid (B2.out.trans (hnx.mono B2.out.size))
          have HX := Lib.hid hnx
          have T3 := Lib.hid (T2.out.keep hnx)
          have U3 := Lib.hid (U2.out.keep hnx)
          clear hnx
          obtain ⟨x0, x1, x2⟩ := T3.out
          by_cases hlt : j < k
          · have HRI := Lib.hid (rotZ_int (s := k) (zs := xs) (u := 1) (k := j) (by omega))
            have hrl := rotZ_len (s := k) (zs := xs) (u := 1) (k := j) (by omega)
            have HK : Hid (∀ W', Below wr.heap.size wr W' → W'.cell? ⟨w.heap.size, 0, none⟩ = some (.int .i64 k) ∧ W'.cell? ⟨w.heap.size, 1, none⟩ = some (.slice a n ca) ∧ W'.cell? ⟨w.heap.size + 1, 0, none⟩ = some (.int .i64 k) ∧ W'.cell? ⟨w.heap.size + 1, 1, none⟩ = some (.slice b m cb) ∧ Below wr.heap.size wr W') := Lib.hid (fun W' hW => ⟨(T3.out.keep hW).2.1, (T3.out.keep hW).2.2, (U3.out.keep hW).2.1, (U3.out.keep hW).2.2, hW⟩)
            have HA : Hid (∀ W', Below wr.heap.size wr W' → IntsAt W' a n xs) := Lib.hid (fun W' hW => FA.out.below (HBW.out.trans (hW.mono HBW.out.size)))
            have HB : Hid (∀ W', Below wr.heap.size wr W' → IntsAt W' b m ys) := Lib.hid (fun W' hW => FB.out.below (HBW.out.trans (hW.mono HBW.out.size)))
            go_wp2
            go_region_held3 (fun W' => W'.cell? ⟨w.heap.size, 0, none⟩ = some (.int .i64 k) ∧ W'.cell? ⟨w.heap.size, 1, none⟩ = some (.slice a n ca) ∧ W'.cell? ⟨w.heap.size + 1, 0, none⟩ = some (.int .i64 k) ∧ W'.cell? ⟨w.heap.size + 1, 1, none⟩ = some (.slice b m cb) ∧ Below wr.heap.size wr W')
              (first | exact HK.out _ (Below.refl _ _).drew | exact HK.out _ hb3 | exact HK.out _ hb4)
              ((first
                | (go_at_call 94; refine (map_any k a n ca xs 1 j _ (HA.out _ (Below.refl _ _).drew) ln HOA.out (by omega) (by omega) (by omega) (by omega)).mono ?_; rintro e w3 ⟨b1, c1, rfl, hown1, hc1⟩; have hb3 := (Below.refl wr.heap.size wr).drew.trans hc1; have hr1 := intsAt_own hown1 HRI.out; have hfd := fun L W => run_beats k b1 L c1 W; clear hown1 hc1)
                | (go_at_call 87; refine (same_spec0 b1 b _ m c1 cb _ ys w3 hr1 (HB.out _ hb3) (Nat.le_trans hrl (by omega)) lm).mono ?_; rintro e w4 ⟨rfl, rfl⟩)))
            have HX4 := Lib.hid (HX.out.trans (hb3.mono HX.out.size))
            have HXW := Lib.hid (HBW.out.trans (hb3.mono HBW.out.size))
            have hz4 := (T3.out.keep hb3).2.1
            clear HK HA HB hb3 x0 x1 x2 hr1
            cases hc : eqB (ofZ k (mapL k xs 1 j)) ys
            · have HN2 : Hid (∀ j' : Nat, j' < j + 1 → isRot k xs ys 1 j' = false) := Lib.hid (fun j' hj' => by
                by_cases e : j' = j
                · subst e; unfold isRot rotZ; rw [Int.toNat_natCast]; exact hc
                · exact HN.out j' (by omega))
              go_wp2
              go_roundw
              case rel => exact ⟨j + 1, by omega, by go_num, HN2, HX4.out⟩
              case measure => simp [intOf]; omega
            · have HQ := Lib.hid (rotTo_at hlt HN.out (show isRot k xs ys 1 j = true by unfold isRot rotZ; rw [Int.toNat_natCast]; exact hc))
              go_wp2
              go_ret
              exact ⟨ret_int (by rw [HE2.out, HQ.out]), HXW.out⟩
          · have HQ := Lib.hid (rotTo_none (n := k) (zs := xs) (ys := ys) (fun j' hj' => HN.out j' (by omega)))
            go_wp2
            go_ret
            exact ⟨ret_int (by rw [HE2.out, HQ.out]), HBW.out⟩
      · have hne : ((k : Int) == t) = false := by simpa using hst
        have HE2 : Hid (rotToB k xs t ys = -1) := Lib.hid (by rw [HE.out]; unfold rotToW; rw [if_neg hst])
        clear hst
        go_enter Try.func126, Try.ntmps126
        go_wp2_with fail
        rw [← HW.out]
        refine (ok_yes _ a n ca xs _ (FA.out.below H0.out.1) ln HOA.out).mono ?_
        rintro e w1 ⟨rfl, hb1⟩
        have B1 := Lib.hid ((H0.out.1).trans (hb1.mono (H0.out.1).size))
        have T1 := Lib.hid (H0.out.2.1.keep hb1)
        have U1 := Lib.hid (H0.out.2.2.keep hb1)
        obtain ⟨t1, t1a, t1b⟩ := T1.out
        obtain ⟨u1, u1a, u1b⟩ := U1.out
        clear hb1
        go_wp2_with fail
        refine (ok_yes t b m cb ys _ (FB.out.below B1.out) lm HOB.out).mono ?_
        rintro e w2 ⟨rfl, hb2⟩
        have B2 := Lib.hid ((B1.out).trans (hb2.mono (B1.out).size))
        have T2 := Lib.hid (T1.out.keep hb2)
        have U2 := Lib.hid (U1.out.keep hb2)
        obtain ⟨t2, t2a, t2b⟩ := T2.out
        obtain ⟨u2, u2a, u2b⟩ := U2.out
        clear hb2
        clear t1 t1a t1b u1 u1a u1b
        go_wp2
        go_ret
        exact ⟨ret_int HE2.out.symm, B2.out⟩
    · have HOB := Lib.hid hp
      have HE := Lib.hid (rotToB_no (s := s) (xs := xs) (t := t) (ys := ys) (fun q => hp q.2))
      clear ho hp
      go_enter Try.func126, Try.ntmps126
      go_wp2_with fail
      rw [← HW.out]
      refine (ok_yes s a n ca xs _ (FA.out.below H0.out.1) ln HOA.out).mono ?_
      rintro e w1 ⟨rfl, hb1⟩
      have B1 := Lib.hid ((H0.out.1).trans (hb1.mono (H0.out.1).size))
      have T1 := Lib.hid (H0.out.2.1.keep hb1)
      have U1 := Lib.hid (H0.out.2.2.keep hb1)
      obtain ⟨t1, t1a, t1b⟩ := T1.out
      obtain ⟨u1, u1a, u1b⟩ := U1.out
      clear hb1
      go_wp2_with fail
      refine (ok_no t b m cb ys _ (FB.out.below B1.out) lm HOB.out).mono ?_
      rintro e w2 ⟨rfl, hb2⟩
      have B2 := Lib.hid ((B1.out).trans (hb2.mono (B1.out).size))
      have T2 := Lib.hid (T1.out.keep hb2)
      have U2 := Lib.hid (U1.out.keep hb2)
      obtain ⟨t2, t2a, t2b⟩ := T2.out
      obtain ⟨u2, u2a, u2b⟩ := U2.out
      clear hb2
      go_wp2
      go_ret
      exact ⟨ret_int HE.out.symm, B2.out⟩
  · have HOA := Lib.hid ho
    have HE := Lib.hid (rotToB_no (s := s) (xs := xs) (t := t) (ys := ys) (fun q => ho q.1))
    clear ho
    go_enter Try.func126, Try.ntmps126
    go_wp2_with fail
    rw [← HW.out]
    refine (ok_no s a n ca xs _ (FA.out.below H0.out.1) ln HOA.out).mono ?_
    rintro e w1 ⟨rfl, hb1⟩
    have B1 := Lib.hid ((H0.out.1).trans (hb1.mono (H0.out.1).size))
    have T1 := Lib.hid (H0.out.2.1.keep hb1)
    have U1 := Lib.hid (H0.out.2.2.keep hb1)
    obtain ⟨t1, t1a, t1b⟩ := T1.out
    obtain ⟨u1, u1a, u1b⟩ := U1.out
    clear hb1
    go_wp2
    go_ret
    exact ⟨ret_int HE.out.symm, B1.out⟩

theorem arot_spec (s : Int) (a : Option Addr) (n ca : Nat) (xs : List Int) (t : Int) (b : Option Addr) (m cb : Nat) (ys : List Int) (w : World) (ha : IntsAt w a n xs) (hn : xs.length ≤ 1048576) (hb : IntsAt w b m ys) (hm : ys.length ≤ 1048576) :
    Calls Try.prog 113 #[rhy s a n ca, rhy t b m cb] w fun e w' => e = .returned (.bool (arotB s xs t ys)) ∧ Below w.heap.size w w' := by
  have FA := Lib.hid ha
  have FB := Lib.hid hb
  have ln : n ≤ 1048576 := by have := ha.1; omega
  have lm : m ≤ 1048576 := by have := hb.1; omega
  clear ha hb
  obtain ⟨W0, hW⟩ : ∃ W0, W0 = (w.alloc (.cells #[.int .i64 s, .slice a n ca] 25)).alloc (.cells #[.int .i64 t, .slice b m cb] 25) := ⟨_, rfl⟩
  have HW := Lib.hid hW
  have H0 := Lib.hid (start2 w W0 s a n ca t b m cb hW)
  clear hW
  obtain ⟨r1, r2⟩ := rotToB_bd s xs t ys
  obtain ⟨t0, t0a, t0b⟩ := H0.out.2.1
  obtain ⟨u0, u0a, u0b⟩ := H0.out.2.2
  go_enter Try.func113, Try.ntmps113
  go_wp2_with fail
  rw [← HW.out]
  refine (rotTo_spec s a n ca xs t b m cb ys _ (FA.out.below H0.out.1) hn (FB.out.below H0.out.1) hm).mono ?_
  rintro e w1 ⟨rfl, hb1⟩
  have HB1 := Lib.hid (H0.out.1.trans (hb1.mono H0.out.1.size))
  clear hb1
  go_wp2
  go_ret
  exact ⟨rfl, HB1.out⟩

theorem arot_impl (s : Int) (a : Option Addr) (n ca : Nat) (xs : List Int) (t : Int) (b : Option Addr) (m cb : Nat) (ys : List Int) (w : World) (ha : IntsAt w a n xs) (hn : xs.length ≤ 1048576) (hb : IntsAt w b m ys) (hm : ys.length ≤ 1048576) :
    Calls Try.prog 74 #[rhy s a n ca, rhy t b m cb] w fun e w' => e = .returned (.bool (arotB s xs t ys)) ∧ Below w.heap.size w w' := by
  have FA := Lib.hid ha
  have FB := Lib.hid hb
  have ln : n ≤ 1048576 := by have := ha.1; omega
  have lm : m ≤ 1048576 := by have := hb.1; omega
  clear ha hb
  obtain ⟨W0, hW⟩ : ∃ W0, W0 = (w.alloc (.cells #[.int .i64 s, .slice a n ca] 25)).alloc (.cells #[.int .i64 t, .slice b m cb] 25) := ⟨_, rfl⟩
  have HW := Lib.hid hW
  have H0 := Lib.hid (start2 w W0 s a n ca t b m cb hW)
  clear hW
  obtain ⟨r1, r2⟩ := rotToB_bd s xs t ys
  obtain ⟨t0, t0a, t0b⟩ := H0.out.2.1
  obtain ⟨u0, u0a, u0b⟩ := H0.out.2.2
  go_enter Try.func74, Try.ntmps74
  go_wp2_with fail
  rw [← HW.out]
  refine (rotTo_impl s a n ca xs t b m cb ys _ (FA.out.below H0.out.1) hn (FB.out.below H0.out.1) hm).mono ?_
  rintro e w1 ⟨rfl, hb1⟩
  have HB1 := Lib.hid (H0.out.1.trans (hb1.mono H0.out.1.size))
  clear hb1
  go_wp2
  go_ret
  exact ⟨rfl, HB1.out⟩





end Go.Proofs.Ytcppmcacjjjjeaa.Rhy
