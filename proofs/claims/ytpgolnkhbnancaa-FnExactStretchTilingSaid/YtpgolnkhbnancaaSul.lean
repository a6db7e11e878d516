/-
  Helpers of the claims beside this text: StretchTiling of the model.
-/
import Derived.Test.YtpgolnkhbnancaaSuk
namespace Go.Proofs.Ytpgolnkhbnancaa.Rhy
open Go.RowKit
set_option linter.unusedVariables false
set_option linter.unusedSimpArgs false
theorem mulL_len (k : Nat) (xs : List Int) : (mulL k xs).length = xs.length := by simp [mulL]

set_option maxHeartbeats 4000000 in
set_option maxRecDepth 100000 in
theorem stt_spec (s : Int) (a : Option Addr) (n ca : Nat) (xs : List Int) (t : Int) (b : Option Addr) (m cb : Nat) (ys : List Int) (k : Int) (w : World) (ha : IntsAt w a n xs) (hn : xs.length ≤ 1048576) (hb : IntsAt w b m ys) (hm : ys.length ≤ 1048576) (hk1 : -9223372036854775808 ≤ k) (hk2 : k ≤ 9223372036854775807) :
    Calls Try.prog 52 #[rhy s a n ca, rhy t b m cb, .int .i64 k] w (StV s xs t ys k w) := by
  have FA := Lib.hid ha
  have FB := Lib.hid hb
  have hn' : n ≤ 1048576 := by have := ha.1; omega
  have hm' : m ≤ 1048576 := by have := hb.1; omega
  clear ha hb
  obtain ⟨W0, hW⟩ : ∃ W0, W0 = (((w.alloc (.cells #[.int .i64 s, .slice a n ca] 26)).alloc (.cells #[.int .i64 t, .slice b m cb] 26)).alloc (.cells #[.int .i64 0, .slice none 0 0] 26)).alloc (.cells #[.int .i64 0, .slice none 0 0] 26) := ⟨_, rfl⟩
  have HW := Lib.hid hW
  have HB0 := Lib.hid (show Below w.heap.size w W0 by rw [hW]; exact bel4 w _ _ _ _)
  have HX0 : Hid (RhI W0 w.heap.size s a n ca xs) := Lib.hid ⟨by rw [hW]; exact (box_new w _ _ _).keep (bel3 _ _ _ _) (by simp), FA.out.below HB0.out⟩
  have HY0 : Hid (RhI W0 (w.heap.size + 1) t b m cb ys) := Lib.hid ⟨by rw [hW]; simpa using (box_new (w.alloc (.cells #[.int .i64 s, .slice a n ca] 26)) (.int .i64 t) (.slice b m cb) 26).keep (bel2 _ _ _) (by simp), FB.out.below HB0.out⟩
  have HU0 : Hid (Box W0 (w.heap.size + 1 + 1) (.int .i64 0) (.slice none 0 0) 26) := Lib.hid (by rw [hW]; simpa using (box_new ((w.alloc (.cells #[.int .i64 s, .slice a n ca] 26)).alloc (.cells #[.int .i64 t, .slice b m cb] 26)) (.int .i64 0) (.slice none 0 0) 26).keep (bel1 _ _) (by simp))
  have HV0 : Hid (Box W0 (w.heap.size + 1 + 1 + 1) (.int .i64 0) (.slice none 0 0) 26) := Lib.hid (by rw [hW]; simpa using box_new (((w.alloc (.cells #[.int .i64 s, .slice a n ca] 26)).alloc (.cells #[.int .i64 t, .slice b m cb] 26)).alloc (.cells #[.int .i64 0, .slice none 0 0] 26)) (.int .i64 0) (.slice none 0 0) 26)
  clear hW FA FB
  cases hd : tilB s xs t ys
  · have HD := Lib.hid hd
    have HC : Hid (¬ (StC s xs t ys k)) := Lib.hid (til_no hd)
    clear hd
    obtain ⟨c0, c1, f0, f1⟩ := HX0.out.1.facts
    obtain ⟨d0, d1, g0, g1⟩ := HY0.out.1.facts
    go_enter Try.func52, Try.ntmps52
    go_wp2_with fail
    rw [← HW.out]
    refine (til_spec s a n ca xs t b m cb ys _ HX0.out.2 hn HY0.out.2 hm).mono ?_
    rintro e w1 ⟨rfl, hb1⟩
    rw [HD.out]
    have HB1 := Lib.hid (HB0.out.trans (hb1.mono HB0.out.size))
    have HX1 := Lib.hid (HX0.out.keep hb1)
    have HY1 := Lib.hid (HY0.out.keep hb1)
    have HU1 := Lib.hid (HU0.out.keep hb1 HU0.out.lt)
    have HV1 := Lib.hid (HV0.out.keep hb1 HV0.out.lt)
    clear c0 c1 f0 f1 d0 d1 g0 g1 hb1
    obtain ⟨c0, c1, f0, f1⟩ := HX1.out.1.facts
    obtain ⟨d0, d1, g0, g1⟩ := HY1.out.1.facts
    obtain ⟨q0, q1, q2, q3⟩ := HU1.out.facts
    have l1 := HU1.out.lt
    obtain ⟨r0, r1, r2, r3⟩ := HV1.out.facts
    have l2 := HV1.out.lt
    go_wp2
    refine bodyPost_ret (v := .tuple #[rhy 0 none 0 0, rhy 0 none 0 0, .bool false]) (by simp [results, Try.results52, go_sem, *]) rfl (c2_no HC.out ?_)
    exact (((HB1.out.setCell (by show w.heap.size ≤ w.heap.size + 1 + 1; omega) _).setCell (by show w.heap.size ≤ w.heap.size + 1 + 1; omega) _).setCell (by show w.heap.size ≤ w.heap.size + 1 + 1 + 1; omega) _).setCell (by show w.heap.size ≤ w.heap.size + 1 + 1 + 1; omega) _
  · have HD := Lib.hid hd
    have hq0 := til_yes hd
    have hs1 := hq0.1.1.1.1
    have hs2 := hq0.1.1.1.2
    have HQ0 := Lib.hid hq0
    clear hd hq0
    by_cases hi : 1 ≤ k ∧ k ≤ 24
    · by_cases hg : k * s ≤ 24
      · obtain ⟨q, rfl⟩ : ∃ q : Nat, s = q := ⟨s.toNat, by omega⟩
        obtain ⟨kk, rfl⟩ : ∃ kk : Nat, k = kk := ⟨k.toNat, by omega⟩
        have hKq : kk * q ≤ 24 := by exact_mod_cast hg
        have HC : Hid (StC q xs t ys kk) := Lib.hid ⟨HQ0.out, hi.1, hg⟩
        have HT : Hid (t = (q : Int)) := Lib.hid HQ0.out.1.2.2.symm
        have HO : Hid (Ok (q : Int) xs) := Lib.hid HQ0.out.1.1
        have HP : Hid (Ok (q : Int) ys) := Lib.hid (by have := HQ0.out.1.2.1; rwa [← HQ0.out.1.2.2] at this)
        have hK1 : 1 ≤ kk := by omega
        have hK24 : kk ≤ 24 := by omega
        obtain ⟨N, hN⟩ : ∃ N : Nat, kk * q = N := ⟨_, rfl⟩
        have hmul : (kk : Int) * (q : Int) = (N : Int) := by rw [← hN]; simp
        have HN := Lib.hid hN
        have HKQ := Lib.hid hKq
        have hN24 : N ≤ 24 := by omega
        have HIJ := Lib.hid hi
        clear hg hKq hN hi
        rw [HT.out] at HY0 HW HD ⊢
        unfold StV
        rw [HT.out] at HC
        rw [hmul, Int.toNat_natCast, widL_one]
        obtain ⟨c0, c1, f0, f1⟩ := HX0.out.1.facts
        obtain ⟨d0, d1, g0, g1⟩ := HY0.out.1.facts
        go_enter Try.func52, Try.ntmps52
        go_wp2_with fail
        rw [← HW.out]
        refine (til_spec q a n ca xs q b m cb ys _ HX0.out.2 hn HY0.out.2 hm).mono ?_
        rintro e w1 ⟨rfl, hb1⟩
        rw [HD.out]
        have HB1 := Lib.hid (HB0.out.trans (hb1.mono HB0.out.size))
        have HX1 := Lib.hid (HX0.out.keep hb1)
        have HY1 := Lib.hid (HY0.out.keep hb1)
        have HU1 := Lib.hid (HU0.out.keep hb1 HU0.out.lt)
        have HV1 := Lib.hid (HV0.out.keep hb1 HV0.out.lt)
        clear c0 c1 f0 f1 d0 d1 g0 g1 hb1
        obtain ⟨c0, c1, f0, f1⟩ := HX1.out.1.facts
        obtain ⟨d0, d1, g0, g1⟩ := HY1.out.1.facts
        go_wp2_with fail
        refine (in_yes _ _ _ _ HIJ.out.1 HIJ.out.2).mono ?_
        rintro e w' ⟨rfl, rfl⟩
        have HWO := Lib.hid (show w.heap.size + 1 + 1 + 1 < w1.heap.size from HV1.out.lt)
        have hwx := HX1.out.1.lt
        have hwy := HY1.out.1.lt
        go_wp2
        go_loopw [42] (fun i wr => ∃ b : Nat, b ≤ n ∧ i = .int .i64 b ∧ LstAt (N : Int) (mulL kk (xs.take b)) w1 wr) (fun i _ => n - (intOf i).toNat)
        case atStart => exact ⟨0, by omega, rfl, lst_start _ w1⟩
        case round =>
          obtain ⟨j, hj, rfl, av, cv, hb0, hown, hnx, hsz⟩ := hrel
          have H0 := Lib.hid hb0
          have HO1 := Lib.hid hown
          have HX := Lib.hid hnx
          have HZ := Lib.hid hsz
          have HXr := Lib.hid (HX1.out.keep hnx)
          have HYr := Lib.hid (HY1.out.keep hnx)
          clear c0 c1 f0 f1 d0 d1 g0 g1
          obtain ⟨c0, c1, f0, f1⟩ := HXr.out.1.facts
          obtain ⟨d0, d1, g0, g1⟩ := HYr.out.1.facts
          obtain ⟨e0, e1, i0, i1⟩ := H0.out.facts
          have lt0 := hb0.lt
          clear hb0 hown hnx hsz
          by_cases hlt : j < n
          · obtain ⟨g, off, z, rfl, hg, hs, hc, hz1', hz2⟩ := HXr.out.2.at hlt
            obtain ⟨hz0, hzs⟩ := ok_at HO.out hs
            obtain ⟨hkz0, hkz1⟩ := kz_bd hK1 HKQ.out hz0 hzs
            have HMS := Lib.hid (mulL_snoc (k := kk) hs)
            clear hs
            obtain ⟨P, hP⟩ : ∃ P, mulL kk (xs.take j) = P := ⟨_, rfl⟩
            have hpl : P.length ≤ 1048577 := by rw [← hP, mulL_len, List.length_take]; omega
            rw [hP] at H0 HO1 HMS e1
            have hv : wrap64 ((kk : Int) * z) = (kk : Int) * z := by unfold wrap64; omega
            obtain ⟨kz, hkz⟩ : ∃ kz, (kk : Int) * z = kz := ⟨_, rfl⟩
            rw [hkz] at hkz0 hkz1 hv HMS
            clear hP
            go_wp2_with (at_builtin; refine append_int rfl _ _ rfl (w1.heap.size + 1) _ P _ _ HO1.out hpl HZ.out _ rfl rfl rfl ?_; intro a' c' w' hown' hb'; have HO2 := Lib.hid hown'; have HX2 := Lib.hid hb'; have hq := HX2.out.frozen (p := ⟨w1.heap.size, 1, none⟩) (by show w1.heap.size < w1.heap.size + 1; omega); have hq2 := HX2.out.cell (p := ⟨w1.heap.size, 1, none⟩) (by show w1.heap.size < w1.heap.size + 1; omega); clear hown' hb')
            go_roundw
            case rel =>
              refine ⟨j + 1, by omega, by go_num, ?_⟩
              rw [HMS.out]
              have := lst_snoc H0.out HX.out HZ.out HO2.out HX2.out
              simpa using this
            case measure => simp [intOf]; omega
          · have e : xs.take j = xs := List.take_of_length_le (by have := HXr.out.2.1; omega)
            rw [e] at H0 HO1 e1
            obtain ⟨lx, hlx⟩ : ∃ l, mulL kk xs = l := ⟨_, rfl⟩
            have HLX := Lib.hid hlx
            rw [hlx] at H0 HO1 e1
            rw [hlx]
            obtain ⟨wx, rfl⟩ : ∃ wx : World, wx = wr := ⟨_, rfl⟩
            have HRX := Lib.hid ((row_of HO1.out).lo (lo' := w.heap.size + 1 + 1 + 1 + 1) (by have := HWO.out; omega))
            have HBX := Lib.hid (HB1.out.trans (HX.out.mono HB1.out.size))
            have HUX := Lib.hid (HU1.out.keep HX.out HU1.out.lt)
            have HVX := Lib.hid (HV1.out.keep HX.out HV1.out.lt)
            clear hlx e HO1 HX
            obtain ⟨bx, hbx⟩ : ∃ bx, w1.heap.size = bx := ⟨_, rfl⟩
            have HBQ := Lib.hid hbx
            rw [hbx] at H0 HZ HWO e0 e1 i0 i1 lt0
            clear hbx
            have hwx2 := HXr.out.1.lt
            have hwy2 := HYr.out.1.lt
            go_wp2
            rw [HBQ.out]
            go_loopw [63] (fun i wr => ∃ b : Nat, b ≤ m ∧ i = .int .i64 b ∧ LstAt (N : Int) (widL kk kk (ys.take b)) wx wr) (fun i _ => m - (intOf i).toNat)
            case atStart => exact ⟨0, by omega, rfl, lst_start _ wx⟩
            case round =>
              obtain ⟨b', hb, rfl, hat⟩ := hrel
              have HA := Lib.hid hat
              obtain ⟨wo, rfl⟩ : ∃ wo : World, wo = wr := ⟨_, rfl⟩
              have hxx : Below wx.heap.size wx wo := by obtain ⟨_, _, _, _, h, _⟩ := HA.out; exact h
              have HYo := Lib.hid (HYr.out.keep hxx)
              clear c0 c1 f0 f1 d0 d1 g0 g1 e0 e1 i0 i1 hat
              obtain ⟨d0, d1, g0, g1⟩ := HYo.out.1.facts
              have HXX := Lib.hid hxx
              clear hxx
              by_cases hlt2 : b' < m
              · obtain ⟨g, off, z, rfl, hg, hs, hc, hz1', hz2⟩ := HYo.out.2.at hlt2
                obtain ⟨hz0, hzs⟩ := ok_at HP.out hs
                obtain ⟨hkz0, hkz1⟩ := kz_bd hK1 HKQ.out hz0 hzs
                have HAL := Lib.hid (widP_all (k := kk) (r := kk) hs)
                have HLN : Hid (∀ i, i ≤ kk → (widP kk kk ys b' z i).length ≤ 1048577) := Lib.hid (fun i hi => by
                  have h1 := widP_len (k := kk) (r := kk) (xs := ys) (j := b') (z := z) (i := i) hi
                  have hoy := ok_len HP.out
                  have hyl := HYo.out.2.1
                  have h2 : (b' + 1) * kk ≤ 25 * 24 := Nat.mul_le_mul (by omega) (by omega)
                  omega)
                clear hs
                go_wp2
                go_loopw [15] (fun i wr => ∃ j : Nat, j ≤ kk ∧ i = .int .i64 j ∧ LstAt (N : Int) (widP kk kk ys b' z j) wx wr) (fun i _ => kk - (intOf i).toNat)
                case atStart => exact ⟨0, by omega, rfl, by rw [widP_zero]; exact HA.out⟩
                case round =>
                  obtain ⟨j2, hj2, rfl, av2, cv2, hb02, hown2, hnx2, hsz2⟩ := hrel
                  have H2 := Lib.hid hb02
                  have HO2 := Lib.hid hown2
                  have HX2 := Lib.hid hnx2
                  have HZ2 := Lib.hid hsz2
                  clear d0 d1 g0 g1
                  obtain ⟨c0, c1, f0, f1⟩ := H2.out.facts
                  have lt2 := hb02.lt
                  clear hb02 hown2 hnx2 hsz2
                  by_cases hjl : j2 < kk
                  · have HNN := Lib.hid (widP_snoc kk kk ys b' z j2)
                    obtain ⟨P, hP⟩ : ∃ P, widP kk kk ys b' z j2 = P := ⟨_, rfl⟩
                    have hpl := HLN.out j2 (by omega)
                    rw [hP] at H2 HO2 HNN c1 hpl
                    have hv : wrap64 ((kk : Int) * z) = (kk : Int) * z := by unfold wrap64; omega
                    have hv2 : wrap64 ((kk : Int) * z + (j2 : Int)) = (kk : Int) * z + (j2 : Int) := by unfold wrap64; omega
                    obtain ⟨kz, hkz⟩ : ∃ kz, (kk : Int) * z = kz := ⟨_, rfl⟩
                    rw [hkz] at hkz0 hkz1 hv hv2 HNN
                    clear hP
                    go_wp2_with (at_builtin; refine append_int rfl _ _ rfl (wx.heap.size + 1) _ P _ _ HO2.out hpl HZ2.out _ rfl rfl rfl ?_; intro a' c' w' hown' hb'; have HO3 := Lib.hid hown'; have HX3 := Lib.hid hb'; have hq := HX3.out.frozen (p := ⟨wx.heap.size, 1, none⟩) (by show wx.heap.size < wx.heap.size + 1; omega); have hq2 := HX3.out.cell (p := ⟨wx.heap.size, 1, none⟩) (by show wx.heap.size < wx.heap.size + 1; omega); clear hown' hb')
                    go_roundw
                    case rel =>
                      refine ⟨j2 + 1, by omega, by go_num, ?_⟩
                      rw [HNN.out]
                      have := lst_snoc H2.out HX2.out HZ2.out HO3.out HX3.out
                      simpa using this
                    case measure => simp [intOf]; omega
                  · have HL : Hid (LstAt (N : Int) (widL kk kk (ys.take (b' + 1))) wx wr) := Lib.hid (by rw [← HAL.out, show kk = j2 by omega]; exact ⟨av2, cv2, by rw [← show kk = j2 by omega] at H2 HO2 ⊢; exact H2.out, by rw [← show kk = j2 by omega] at HO2 ⊢; exact HO2.out, HX2.out, HZ2.out⟩)
                    go_wp2
                    go_roundw
                    case rel => exact ⟨b' + 1, by omega, by go_num, HL.out⟩
                    case measure => simp [intOf]; omega
              · have e : ys.take b' = ys := List.take_of_length_le (by have := HYo.out.2.1; omega)
                rw [e] at HA
                obtain ⟨ly, hly⟩ : ∃ l, widL kk kk ys = l := ⟨_, rfl⟩
                have HLY := Lib.hid hly
                rw [hly] at HA
                obtain ⟨ay, cy, hb0, hown, hnx, hsz⟩ := HA.out
                obtain ⟨ax, hax⟩ : ∃ ax, av = ax := ⟨_, rfl⟩
                obtain ⟨cx, hcx⟩ : ∃ cx, cv = cx := ⟨_, rfl⟩
                rw [hax, hcx] at H0 HRX
                have EX0 := Lib.hid (H0.out.keep hnx H0.out.lt)
                have EY0 := Lib.hid hb0
                have HR2 := Lib.hid (HRX.out.keep hnx)
                have HR3 := Lib.hid ((row_of hown).lo (lo' := wx.heap.size) (by omega))
                have HU9 := Lib.hid (HUX.out.keep hnx HUX.out.lt)
                have HV9 := Lib.hid (HVX.out.keep hnx HVX.out.lt)
                have HB3 := Lib.hid (HBX.out.trans (hnx.mono HBX.out.size))
                have hzz := H0.out.lt
                have hwo := HWO.out
                have hyl := hb0.lt
                clear hb0 hown hnx hsz hly e HA hax hcx d0 d1 g0 g1
                obtain ⟨x0, x1, x2, x3⟩ := EX0.out.facts
                obtain ⟨y0, y1, y2, y3⟩ := EY0.out.facts
                go_upto_region 18 with fail
                refine wp_region_held_drew (S := fun W' => W'.cell? ⟨bx, 0, none⟩ = some (.int .i64 N) ∧ W'.cell? ⟨bx, 1, none⟩ = some (.slice ax lx.length cx) ∧ W'.cell? ⟨wx.heap.size, 0, none⟩ = some (.int .i64 N) ∧ W'.cell? ⟨wx.heap.size, 1, none⟩ = some (.slice ay ly.length cy)) (by kernel_rfl) ⟨by simpa using x0, by simpa using x1, by simpa using y0, by simpa using y1⟩ (fun hSS0 => ?_)
                refine wpAnyH_take (i := 0) (oi := ⟨some 83, _, _, _, _, _⟩) (v := .agg #[.int .i64 N, .slice ax lx.length cx]) rfl (by kernel_rfl) (by kernel_rfl) (by kernel_rfl) (fun _ _ _ h => h) (Or.inl ⟨by rfl, fun W hSw => by obtain ⟨s1, s2, s3, s4⟩ := hSw; go_simp⟩) (by assumption) ?_
                try simp only [Act.put, List.setIfInBounds_toArray, List.set_cons_zero, List.set_cons_succ]
                refine wpAnyH_take (i := 1) (oi := ⟨some 84, _, _, _, _, _⟩) (v := .agg #[.int .i64 N, .slice ay ly.length cy]) rfl (by kernel_rfl) (by kernel_rfl) (by kernel_rfl) (fun _ _ _ h => h) (Or.inl ⟨by rfl, fun W hSw => by obtain ⟨s1, s2, s3, s4⟩ := hSw; go_simp⟩) (by assumption) ?_
                try simp only [Act.put, List.setIfInBounds_toArray, List.set_cons_zero, List.set_cons_succ]
                obtain ⟨y2', hy2⟩ : ∃ y2', y2' = wo.drew := ⟨_, rfl⟩
                have hq0 : Below wo.heap.size wo wo.drew := (Below.refl _ _).drew
                have HXy := EX0.out.keep hq0 EX0.out.lt
                have HYy := EY0.out.keep hq0 EY0.out.lt
                have HUy := HU9.out.keep hq0 HU9.out.lt
                have HVy := HV9.out.keep hq0 HV9.out.lt
                have hr2 := HR2.out.keep hq0
                have hr3 := HR3.out.keep hq0
                have HB4 := HB3.out.trans (hq0.mono HB3.out.size)
                have hzo : wo.drew.heap.size = wo.heap.size := by simp
                rw [← hy2] at HXy HYy HUy HVy hr2 hr3 HB4 hzo hSS0 ⊢
                clear x0 x1 x2 x3 y0 y1 y2 y3 hq0 hy2
                obtain ⟨q0, q1, q2, q3⟩ := HUy.facts
                refine wpAnyH_ready (rs := [2]) (by kernel_rfl) (by simp) ?_
                refine AllReadyH.cons rfl (fun K hKK => ?_) AllReadyH.nil
                go_simp
                have ex1 := (HXy.other (c := w.heap.size + 1 + 1) (o := 0) (.int .i64 N) (by omega)).other (c := w.heap.size + 1 + 1) (o := 1) (.slice ax lx.length cx) (by omega)
                have ey1 := (HYy.other (c := w.heap.size + 1 + 1) (o := 0) (.int .i64 N) (by omega)).other (c := w.heap.size + 1 + 1) (o := 1) (.slice ax lx.length cx) (by omega)
                have ev1 := (HVy.other (c := w.heap.size + 1 + 1) (o := 0) (.int .i64 N) (by omega)).other (c := w.heap.size + 1 + 1) (o := 1) (.slice ax lx.length cx) (by omega)
                have eu1 := (HUy.set0 (.int .i64 N)).set1 (.slice ax lx.length cx)
                refine hKK.out _ _ ⟨ex1.facts.1, ex1.facts.2.1, ey1.facts.1, ey1.facts.2.1⟩ (fun hSS3 => ?_)
                clear hKK hSS0 q0 q1 q2 q3
                try simp only [Act.put, List.setIfInBounds_toArray, List.set_cons_zero, List.set_cons_succ]
                obtain ⟨y3, hy3⟩ : ∃ y3, y3 = (y2'.setCell ⟨w.heap.size + 1 + 1, 0, none⟩ (.int .i64 N)).setCell ⟨w.heap.size + 1 + 1, 1, none⟩ (.slice ax lx.length cx) := ⟨_, rfl⟩
                rw [← hy3] at ex1 ey1 ev1 eu1 hSS3 ⊢
                have hb3 : Below w.heap.size w y3 := by rw [hy3]; exact (HB4.setCell (by show w.heap.size ≤ w.heap.size + 1 + 1; omega) _).setCell (by show w.heap.size ≤ w.heap.size + 1 + 1; omega) _
                have hr4 : Row y3 (w.heap.size + 1 + 1 + 1 + 1) wx.heap.size ax lx.length cx lx := by rw [hy3]; exact (hr2.set (by omega) _ _).set (by omega) _ _
                have hr5 : Row y3 wx.heap.size wo.heap.size ay ly.length cy ly := by rw [hy3]; exact (hr3.set (by omega) _ _).set (by omega) _ _
                have hz3 : y3.heap.size = wo.heap.size := by rw [hy3]; simp [hzo]
                clear hr2 hr3 HB4 HXy HYy HUy HVy hy3
                obtain ⟨r0, r1, r2, r3⟩ := ev1.facts
                refine wpAnyH_ready (rs := [3]) (by kernel_rfl) (by simp) ?_
                refine AllReadyH.cons rfl (fun K hKK => ?_) AllReadyH.nil
                go_simp
                have ex2 := (ex1.other (c := w.heap.size + 1 + 1 + 1) (o := 0) (.int .i64 N) (by omega)).other (c := w.heap.size + 1 + 1 + 1) (o := 1) (.slice ay ly.length cy) (by omega)
                have ey2 := (ey1.other (c := w.heap.size + 1 + 1 + 1) (o := 0) (.int .i64 N) (by omega)).other (c := w.heap.size + 1 + 1 + 1) (o := 1) (.slice ay ly.length cy) (by omega)
                have eu2 := (eu1.other (c := w.heap.size + 1 + 1 + 1) (o := 0) (.int .i64 N) (by omega)).other (c := w.heap.size + 1 + 1 + 1) (o := 1) (.slice ay ly.length cy) (by omega)
                have ev2 := (ev1.set0 (.int .i64 N)).set1 (.slice ay ly.length cy)
                refine hKK.out _ _ ⟨ex2.facts.1, ex2.facts.2.1, ey2.facts.1, ey2.facts.2.1⟩ (fun hSS4 => ?_)
                clear hKK hSS3 r0 r1 r2 r3
                try simp only [Act.put, List.setIfInBounds_toArray, List.set_cons_zero, List.set_cons_succ]
                obtain ⟨y4, hy4⟩ : ∃ y4, y4 = (y3.setCell ⟨w.heap.size + 1 + 1 + 1, 0, none⟩ (.int .i64 N)).setCell ⟨w.heap.size + 1 + 1 + 1, 1, none⟩ (.slice ay ly.length cy) := ⟨_, rfl⟩
                rw [← hy4] at ex2 ey2 ev2 eu2 hSS4 ⊢
                have hb4 : Below w.heap.size w y4 := by rw [hy4]; exact (hb3.setCell (by show w.heap.size ≤ w.heap.size + 1 + 1 + 1; omega) _).setCell (by show w.heap.size ≤ w.heap.size + 1 + 1 + 1; omega) _
                have hr6 : Row y4 (w.heap.size + 1 + 1 + 1 + 1) wx.heap.size ax lx.length cx lx := by rw [hy4]; exact (hr4.set (by omega) _ _).set (by omega) _ _
                have hr7 : Row y4 wx.heap.size wo.heap.size ay ly.length cy ly := by rw [hy4]; exact (hr5.set (by omega) _ _).set (by omega) _ _
                have hz4 : y4.heap.size = wo.heap.size := by rw [hy4]; simp [hz3]
                clear hr4 hr5 hb3 ex1 ey1 ev1 eu1 hy4
                refine wpAnyH_take (i := 4) (oi := ⟨some 8, _, _, _, _, _⟩) (v := .bool true) rfl (by kernel_rfl) (by kernel_rfl) (by kernel_rfl) (fun _ _ _ h => h) (Or.inl ⟨by rfl, fun W hSw => by go_simp⟩) (by assumption) ?_
                try simp only [Act.put, List.setIfInBounds_toArray, List.set_cons_zero, List.set_cons_succ]
                refine wpAnyH_done (by kernel_rfl) ?_ _
                obtain ⟨u0, u1, u2, u3⟩ := eu2.facts
                obtain ⟨v0, v1, v2, v3⟩ := ev2.facts
                have lu := eu2.lt
                have lv := ev2.lt
                go_wp2
                refine bodyPost_ret (v := .tuple #[rhy (N : Int) ax lx.length cx, rhy (N : Int) ay ly.length cy, .bool true]) (by simp [results, Try.results52, go_sem, *]) rfl (c2_yes HC.out ?_)
                rw [HLX.out, HLY.out]
                exact ⟨ax, cx, ay, cy, wx.heap.size, rfl, hr6.lo (show w.heap.size ≤ w.heap.size + 1 + 1 + 1 + 1 by omega), by rw [hz4]; exact hr7, by omega, hb4⟩
      · obtain ⟨p, hp⟩ : ∃ p, k * s = p := ⟨_, rfl⟩
        have hp0 : 0 ≤ p ∧ p ≤ 576 := by
          rw [← hp]
          have h1 := Int.mul_le_mul hi.2 hs2 (by omega) (show (0 : Int) ≤ 24 by omega)
          have h2 := Int.mul_nonneg (show (0 : Int) ≤ k by omega) (show (0 : Int) ≤ s by omega)
          omega
        have HC : Hid (¬ (StC s xs t ys k)) := Lib.hid (fun q => hg q.2.2)
        rw [hp] at hg
        have HIJ := Lib.hid hi
        clear hi
        obtain ⟨c0, c1, f0, f1⟩ := HX0.out.1.facts
        obtain ⟨d0, d1, g0, g1⟩ := HY0.out.1.facts
        go_enter Try.func52, Try.ntmps52
        go_wp2_with fail
        rw [← HW.out]
        refine (til_spec s a n ca xs t b m cb ys _ HX0.out.2 hn HY0.out.2 hm).mono ?_
        rintro e w1 ⟨rfl, hb1⟩
        rw [HD.out]
        have HB1 := Lib.hid (HB0.out.trans (hb1.mono HB0.out.size))
        have HX1 := Lib.hid (HX0.out.keep hb1)
        have HY1 := Lib.hid (HY0.out.keep hb1)
        have HU1 := Lib.hid (HU0.out.keep hb1 HU0.out.lt)
        have HV1 := Lib.hid (HV0.out.keep hb1 HV0.out.lt)
        clear c0 c1 f0 f1 d0 d1 g0 g1 hb1
        obtain ⟨c0, c1, f0, f1⟩ := HX1.out.1.facts
        obtain ⟨d0, d1, g0, g1⟩ := HY1.out.1.facts
        go_wp2_with fail
        refine (in_yes _ _ _ _ HIJ.out.1 HIJ.out.2).mono ?_
        rintro e w' ⟨rfl, rfl⟩
        obtain ⟨q0, q1, q2, q3⟩ := HU1.out.facts
        have l1 := HU1.out.lt
        obtain ⟨r0, r1, r2, r3⟩ := HV1.out.facts
        have l2 := HV1.out.lt
        go_wp2
        refine bodyPost_ret (v := .tuple #[rhy 0 none 0 0, rhy 0 none 0 0, .bool false]) (by simp [results, Try.results52, go_sem, *]) rfl (c2_no HC.out ?_)
        exact (((HB1.out.setCell (by show w.heap.size ≤ w.heap.size + 1 + 1; omega) _).setCell (by show w.heap.size ≤ w.heap.size + 1 + 1; omega) _).setCell (by show w.heap.size ≤ w.heap.size + 1 + 1 + 1; omega) _).setCell (by show w.heap.size ≤ w.heap.size + 1 + 1 + 1; omega) _
    · have HG := Lib.hid hi
      have HC : Hid (¬ (StC s xs t ys k)) := Lib.hid (fun q => hi ⟨q.2.1, by
        have h1 : k * 1 ≤ k * s := Int.mul_le_mul_of_nonneg_left hs1 (by have := q.2.1; omega)
        have := q.2.2
        omega⟩)
      clear hi
      obtain ⟨c0, c1, f0, f1⟩ := HX0.out.1.facts
      obtain ⟨d0, d1, g0, g1⟩ := HY0.out.1.facts
      go_enter Try.func52, Try.ntmps52
      go_wp2_with fail
      rw [← HW.out]
      refine (til_spec s a n ca xs t b m cb ys _ HX0.out.2 hn HY0.out.2 hm).mono ?_
      rintro e w1 ⟨rfl, hb1⟩
      rw [HD.out]
      have HB1 := Lib.hid (HB0.out.trans (hb1.mono HB0.out.size))
      have HX1 := Lib.hid (HX0.out.keep hb1)
      have HY1 := Lib.hid (HY0.out.keep hb1)
      have HU1 := Lib.hid (HU0.out.keep hb1 HU0.out.lt)
      have HV1 := Lib.hid (HV0.out.keep hb1 HV0.out.lt)
      clear c0 c1 f0 f1 d0 d1 g0 g1 hb1
      obtain ⟨c0, c1, f0, f1⟩ := HX1.out.1.facts
      obtain ⟨d0, d1, g0, g1⟩ := HY1.out.1.facts
      go_wp2_with fail
      refine (in_no _ _ _ _ HG.out).mono ?_
      rintro e w' ⟨rfl, rfl⟩
      obtain ⟨q0, q1, q2, q3⟩ := HU1.out.facts
      have l1 := HU1.out.lt
      obtain ⟨r0, r1, r2, r3⟩ := HV1.out.facts
      have l2 := HV1.out.lt
      go_wp2
      refine bodyPost_ret (v := .tuple #[rhy 0 none 0 0, rhy 0 none 0 0, .bool false]) (by simp [results, Try.results52, go_sem, *]) rfl (c2_no HC.out ?_)
      exact (((HB1.out.setCell (by show w.heap.size ≤ w.heap.size + 1 + 1; omega) _).setCell (by show w.heap.size ≤ w.heap.size + 1 + 1; omega) _).setCell (by show w.heap.size ≤ w.heap.size + 1 + 1 + 1; omega) _).setCell (by show w.heap.size ≤ w.heap.size + 1 + 1 + 1; omega) _
end Go.Proofs.Ytpgolnkhbnancaa.Rhy
