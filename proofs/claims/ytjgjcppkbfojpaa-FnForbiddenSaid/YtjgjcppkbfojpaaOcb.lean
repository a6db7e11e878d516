/-
  Helpers of the claims beside this text: forbidden intervals of the model: FreePulses.
-/
import Derived.Test.YtjgjcppkbfojpaaOba
import Derived.Test.YtjgjcppkbfojpaaOca
import Derived.Test.YtjgjcppkbfojpaaOdm
import Derived.Test.YtjgjcppkbfojpaaGpe
namespace Go.Proofs.Ytjgjcppkbfojpaa.Rhy
open Go.RowKit
set_option linter.unusedVariables false
set_option linter.unusedSimpArgs false

/-! ### FreePulses -/
noncomputable def frB (s : Int) (zs : List Int) (d : Int) : List Int := cZ (AvC s d zs) (frP s.toNat zs d s.toNat)
theorem frP_zero (n : Nat) (zs : List Int) (d : Int) : frP n zs d 0 = [] := by simp [frP]
theorem frP_len (n : Nat) (zs : List Int) (d : Int) (j : Nat) : (frP n zs d j).length ≤ j := by
  unfold frP
  refine Nat.le_trans (List.length_filter_le _ _) ?_
  simp
theorem frP_yes {n j : Nat} {zs : List Int} {d : Int} (h1 : hasB zs j = false) (h2 : hasB zs (((j : Int) + d) % n) = false) (h3 : hasB zs (((j : Int) - d) % n) = false) : frP n zs d (j + 1) = frP n zs d j ++ [(j : Int)] := by
  unfold hasB at h1 h2 h3
  rw [frP_snoc, h1, h2, h3]
  rfl
theorem frP_no {n j : Nat} {zs : List Int} {d : Int} (h : hasB zs j = true ∨ hasB zs (((j : Int) + d) % n) = true ∨ hasB zs (((j : Int) - d) % n) = true) : frP n zs d (j + 1) = frP n zs d j := by
  unfold hasB at h
  rw [frP_snoc, if_neg]
  · simp
  · rcases h with h | h | h <;> rw [h] <;> simp

end Go.Proofs.Ytjgjcppkbfojpaa.Rhy

/-
  Helpers of the claims beside this text: forbidden intervals of the program: OppositePairs, FreePulses.
-/
namespace Go.Proofs.Ytjgjcppkbfojpaa.Rhy
open Go.RowKit
set_option linter.unusedVariables false
set_option linter.unusedSimpArgs false

set_option maxHeartbeats 1000000 in
theorem opp0_any (n : Nat) (a : Option Addr) (cap : Nat) (zs : List Int) (w : World) (h : IntsAt w a zs.length zs) (ho : Ok n zs) :
    Calls Try.prog 92 #[rhy n a zs.length cap] w (IPost (opP n zs (n / 2)) w) := by
  have HS := Lib.hid h
  have HO := Lib.hid ho
  have hl24 := ok_len ho
  have hn1 : 1 ≤ n := by have := ho.1.1; omega
  have hn24 : n ≤ 24 := by have := ho.1.2; omega
  have HEQ := Lib.hid (opp_filter ho)
  obtain ⟨m, hm2⟩ : ∃ m, n / 2 = m := ⟨_, rfl⟩
  have HM := Lib.hid hm2
  have hm12 : m ≤ 12 := by omega
  have hdm : (n : Int) / 2 = (m : Int) := by omega
  have HDM := Lib.hid hdm
  clear h ho hm2 hdm
  obtain ⟨W0, hW⟩ : ∃ W0, W0 = w.alloc (.cells #[.int .i64 n, .slice a zs.length cap] 25) := ⟨_, rfl⟩
  have HW := Lib.hid hW
  have HB0 := Lib.hid (show Below w.heap.size w W0 by rw [hW]; exact bel1 w _)
  have HX0 : Hid (RhI W0 w.heap.size n a zs.length cap zs) := Lib.hid ⟨by rw [hW]; exact box_new w _ _ _, HS.out.below HB0.out⟩
  clear hW
  obtain ⟨c0, c1, f0, f1⟩ := HX0.out.1.facts
  have hdm := HDM.out
  go_enter Try.func92, Try.ntmps92
  go_wp2
  rw [← HW.out]
  clear c0 c1 f0 f1
  go_loopw [4, 13] (fun v i wr => ∃ k : Nat, k ≤ zs.length ∧ i = .int .i64 k ∧ VecAt ((zs.take k).filter (opQ n zs)) W0 wr v) (fun _ i _ => zs.length - (intOf i).toNat)
  case atStart => exact ⟨0, by omega, rfl, vec_nil W0⟩
  case round =>
    obtain ⟨k, hk, rfl, av, cv, rfl, hown, hnx, hsz⟩ := hrel
    obtain ⟨L, hL⟩ : ∃ L, (zs.take k).filter (opQ n zs) = L := ⟨_, rfl⟩
    have hml : L.length ≤ 1048577 := by
      rw [← hL]
      have h1 := List.length_filter_le (opQ n zs) (zs.take k)
      have h2 : (zs.take k).length ≤ k := by simp; omega
      omega
    rw [hL] at hown ⊢
    have HL := Lib.hid hL
    have HO1 := Lib.hid hown
    have HN := Lib.hid hnx
    have HZ := Lib.hid hsz
    have HXr := Lib.hid (HX0.out.keep hnx)
    obtain ⟨d0, d1, g0, g1⟩ := HXr.out.1.facts
    clear hL hown hnx hsz
    by_cases hlt : k < zs.length
    · obtain ⟨g, off, z, rfl, hg, hs, hc, hz1, hz2⟩ := HXr.out.2.at hlt
      obtain ⟨hz0, hzn⟩ := ok_at HO.out hs
      have HSS := Lib.hid hs
      have hw1 : wrap64 (z + (m : Int)) = z + m := by unfold wrap64; omega
      clear hs
      by_cases hzm : z < m
      · have HRM : Hid (remB (z + m) n = z + m) := Lib.hid (em_self ⟨by omega, by omega⟩)
        cases hh : hasB zs (z + m)
        · have HH := Lib.hid hh
          have HY : Hid ((zs.take (k + 1)).filter (opQ n zs) = L) := Lib.hid (by rw [opp_no HSS.out (.inr (by rw [HM.out]; exact hh)), HL.out])
          clear hh
          go_wp2_with fail
          refine (hasBeat_any n _ zs.length cap zs (z + m) _ HXr.out.2 (by omega) (by omega) (by omega) (by omega) (by omega)).mono ?_
          rw [HRM.out, HH.out]
          rintro e w' ⟨rfl, hb'⟩
          have HB' := Lib.hid hb'
          clear hb' d0 d1 g0 g1 hc
          go_wp2
          go_roundw
          case rel => exact ⟨k + 1, by omega, by go_num, by rw [HY.out]; exact vec_keep ⟨av, cv, rfl, HO1.out, HN.out, HZ.out⟩ HB'.out⟩
          case measure => simp [intOf]; omega
        · have HH := Lib.hid hh
          have HY : Hid ((zs.take (k + 1)).filter (opQ n zs) = L ++ [z]) := Lib.hid (by rw [opp_yes HSS.out (by rw [HM.out]; exact hzm) (by rw [HM.out]; exact hh), HL.out])
          clear hh
          go_wp2_with fail
          refine (hasBeat_any n _ zs.length cap zs (z + m) _ HXr.out.2 (by omega) (by omega) (by omega) (by omega) (by omega)).mono ?_
          rw [HRM.out, HH.out]
          rintro e w2 ⟨rfl, hb'⟩
          have HX2 := Lib.hid hb'
          have HOr := Lib.hid (own_below HO1.out hb')
          have HN3 := Lib.hid (HN.out.trans (hb'.mono HZ.out))
          have HZ3 := Lib.hid (Nat.le_trans HZ.out hb'.size)
          clear hb' d0 d1 g0 g1 hc
          go_wp2_with (at_builtin; refine append_int rfl _ _ rfl W0.heap.size _ L _ _ HOr.out hml HZ3.out _ rfl rfl rfl ?_; intro a' c' w4 hown' hb'; have HO4 := Lib.hid hown'; have HX4 := Lib.hid hb'; clear hown' hb')
          go_roundw
          case rel =>
            refine ⟨k + 1, by omega, by go_num, ?_⟩
            rw [HY.out]
            have := vec_snoc HN3.out HZ3.out HO4.out HX4.out
            simpa using this
          case measure => simp [intOf]; omega
      · have HY : Hid ((zs.take (k + 1)).filter (opQ n zs) = L) := Lib.hid (by rw [opp_no HSS.out (.inl (by rw [HM.out]; exact hzm)), HL.out])
        clear d0 d1 g0 g1
        go_wp2
        go_roundw
        case rel => exact ⟨k + 1, by omega, by go_num, by rw [HY.out]; exact ⟨av, cv, rfl, HO1.out, HN.out, HZ.out⟩⟩
        case measure => simp [intOf]; omega
    · have e : k = zs.length := by omega
      have HE : Hid (opP n zs (n / 2) = L) := Lib.hid (by rw [← HEQ.out, ← HL.out, e, List.take_length])
      clear e
      go_wp2
      go_ret
      rw [HE.out]
      exact ⟨av, cv, rfl, own_base HO1.out HB0.out.size, HB0.out.trans (HN.out.mono HB0.out.size)⟩

set_option maxHeartbeats 1000000 in
theorem opp_impl (s : Int) (a : Option Addr) (len cap : Nat) (zs : List Int) (w : World) (h : IntsAt w a len zs) (hm : zs.length ≤ 1048576) :
    Calls Try.prog 42 #[rhy s a len cap] w (IPost (opB s zs) w) := by
  have HS := Lib.hid h
  obtain rfl : zs.length = len := h.len
  clear h
  by_cases ho : Ok s zs
  · obtain ⟨n, rfl⟩ : ∃ n : Nat, s = n := ⟨s.toNat, by have := ho.1; omega⟩
    have HO := Lib.hid ho
    have hn1 : 1 ≤ n := by have := ho.1.1; omega
    have hn24 : n ≤ 24 := by have := ho.1.2; omega
    by_cases hod : (n : Int) % 2 = 1
    · have HE : Hid (opB n zs = []) := Lib.hid (cZ_no (fun x => by have := x.2; omega))
      have ht : ((n : Int) % 2 == 1) = true := by simpa using hod
      have ht2 : (n % 2 == 1) = true := by simp; omega
      clear ho hod
      rw [HE.out]
      go_enter Try.func42, Try.ntmps42
      go_wp2_with fail
      refine (valid_yes n a zs.length cap zs _ (HS.out.below (bel1 w _)) hm HO.out).mono ?_
      rintro e w1 ⟨rfl, hb1⟩
      have HB := Lib.hid ((bel1 w (.cells #[.int .i64 n, .slice a zs.length cap] 25)).trans (hb1.mono (by simp)))
      have HT := Lib.hid ((two_new w (.int .i64 n) (.slice a zs.length cap) 25).keep hb1)
      clear hb1
      obtain ⟨t, ta, tb⟩ := HT.out
      go_wp2
      go_ret
      exact ⟨none, 0, rfl, World.ownsRow_nil _ _ _ _, HB.out⟩
    · have ht : ((n : Int) % 2 == 1) = false := by simp; omega
      have ht2 : (n % 2 == 1) = false := by simp; omega
      have HE : Hid (opB n zs = opP n zs (n / 2)) := Lib.hid (by unfold opB; rw [cZ_yes ⟨ho, by omega⟩, Int.toNat_natCast])
      clear ho hod
      rw [HE.out]
      go_enter Try.func42, Try.ntmps42
      go_wp2_with fail
      refine (valid_yes n a zs.length cap zs _ (HS.out.below (bel1 w _)) hm HO.out).mono ?_
      rintro e w1 ⟨rfl, hb1⟩
      have HB := Lib.hid ((bel1 w (.cells #[.int .i64 n, .slice a zs.length cap] 25)).trans (hb1.mono (by simp)))
      have HT := Lib.hid ((two_new w (.int .i64 n) (.slice a zs.length cap) 25).keep hb1)
      clear hb1
      obtain ⟨t, ta, tb⟩ := HT.out
      go_wp2_with fail
      refine (opp0_any n a cap zs _ (HS.out.below HB.out) HO.out).mono ?_
      rintro e w2 ⟨b, c, rfl, hown, hb2⟩
      have HO2 := Lib.hid hown
      have HB2 := Lib.hid (HB.out.trans (hb2.mono HB.out.size))
      clear hown hb2
      go_wp2
      go_ret
      exact ⟨b, c, rfl, own_base HO2.out HB.out.size, HB2.out⟩
  · have HO := Lib.hid ho
    have HE : Hid (opB s zs = []) := Lib.hid (cZ_no (fun x => ho x.1))
    clear ho
    rw [HE.out]
    go_enter Try.func42, Try.ntmps42
    go_wp2_with fail
    refine (valid_no s a zs.length cap zs _ (HS.out.below (bel1 w _)) hm HO.out).mono ?_
    rintro e w1 ⟨rfl, hb1⟩
    have HB := Lib.hid ((bel1 w (.cells #[.int .i64 s, .slice a zs.length cap] 25)).trans (hb1.mono (by simp)))
    clear hb1
    go_wp2
    go_ret
    exact ⟨none, 0, rfl, World.ownsRow_nil _ _ _ _, HB.out⟩

/-! ### FreePulses -/
set_option maxHeartbeats 1000000 in
theorem free0_any (n : Nat) (a : Option Addr) (cap : Nat) (zs : List Int) (d : Int) (w : World) (h : IntsAt w a zs.length zs) (ho : Ok n zs) (hd : 1 ≤ d ∧ d < n) (ha : avC n zs d) :
    Calls Try.prog 87 #[rhy n a zs.length cap, .int .i64 d] w (IPost (frP n zs d n) w) := by
  have HS := Lib.hid h
  have HO := Lib.hid ho
  have hl24 := ok_len ho
  have hn1 : 1 ≤ n := by have := ho.1.1; omega
  have hn24 : n ≤ 24 := by have := ho.1.2; omega
  have HF : Hid (∀ p : Nat, p < n → (avC n (ofZ n (zs ++ [(p : Int)])) d ↔ hasB zs (((p : Int) + d) % n) = false ∧ hasB zs (((p : Int) - d) % n) = false)) := Lib.hid (fun p hp => free_iff ho hd ⟨by omega, by omega⟩ ha)
  have hd1 := hd.1
  have hd2 := hd.2
  clear h ho ha hd
  obtain ⟨W0, hW⟩ : ∃ W0, W0 = w.alloc (.cells #[.int .i64 n, .slice a zs.length cap] 25) := ⟨_, rfl⟩
  have HW := Lib.hid hW
  have HB0 := Lib.hid (show Below w.heap.size w W0 by rw [hW]; exact bel1 w _)
  have HX0 : Hid (RhI W0 w.heap.size n a zs.length cap zs) := Lib.hid ⟨by rw [hW]; exact box_new w _ _ _, HS.out.below HB0.out⟩
  clear hW
  obtain ⟨c0, c1, f0, f1⟩ := HX0.out.1.facts
  go_enter Try.func87, Try.ntmps87
  go_wp2
  rw [← HW.out]
  clear c0 c1 f0 f1
  go_loopw [5, 11] (fun v i wr => ∃ p : Nat, p ≤ n ∧ i = .int .i64 p ∧ VecAt (frP n zs d p) W0 wr v) (fun _ i _ => n - (intOf i).toNat)
  case atStart => exact ⟨0, by omega, rfl, by rw [frP_zero]; exact vec_nil W0⟩
  case round =>
    obtain ⟨p, hpm, rfl, av, cv, rfl, hown, hnx, hsz⟩ := hrel
    obtain ⟨L, hL⟩ : ∃ L, frP n zs d p = L := ⟨_, rfl⟩
    have hml : L.length ≤ 1048577 := by rw [← hL]; have := frP_len n zs d p; omega
    rw [hL] at hown ⊢
    have HL := Lib.hid hL
    have HO1 := Lib.hid hown
    have HN := Lib.hid hnx
    have HZ := Lib.hid hsz
    have HXr := Lib.hid (HX0.out.keep hnx)
    obtain ⟨d0, e1, g0, g1⟩ := HXr.out.1.facts
    clear hL hown hnx hsz
    by_cases hlt : p < n
    · have HPE : Hid ((p : Int) % n = p) := Lib.hid (em_self ⟨by omega, by omega⟩)
      have HFP := Lib.hid (HF.out p hlt)
      go_wp2_with fail
      refine (addBeat_any n a cap zs p _ HXr.out.2 HO.out (by omega) (by omega)).mono ?_
      rw [HPE.out]
      rintro e w2 hcp
      cases hh : hasB zs p
      · obtain ⟨b2, c2, rfl, hown2, hb2⟩ := cp_open hh hcp
        obtain ⟨Y, hY⟩ : ∃ Y, ofZ n (zs ++ [(p : Int)]) = Y := ⟨_, rfl⟩
        rw [hY] at hown2 HFP ⊢
        have HOY : Hid (Ok n Y) := Lib.hid (by rw [← hY]; exact ok_of (by omega) (by omega) (ofZ_sorted _ _) fun z hz => by have := (ofZ_mem.1 hz).1; omega)
        have hyl := ok_len HOY.out
        have HX2 := Lib.hid hb2
        have HOr := Lib.hid (own_below HO1.out hb2)
        have HN2 := Lib.hid (HN.out.trans (hb2.mono HZ.out))
        have HZ2 := Lib.hid (Nat.le_trans HZ.out hb2.size)
        have HIY := Lib.hid (intsAt_own hown2 (ok_int HOY.out))
        clear hown2 hb2 d0 e1 g0 g1 hY hcp
        obtain ⟨q, hq⟩ : ∃ q, avB n Y d = q := ⟨_, rfl⟩
        have HQ := Lib.hid hq
        clear hq
        go_wp2_with fail
        refine (avoids_any n b2 Y.length c2 Y d _ (HIY.out.below (bel1 w2 _)) HOY.out (by omega) (by omega)).mono ?_
        rw [HQ.out]
        rintro e w3 ⟨rfl, hb3⟩
        have hb3' := (bel1 w2 (.cells #[.int .i64 n, .slice b2 Y.length c2] 25)).trans (hb3.mono (by simp))
        have HO3 := Lib.hid (own_below HOr.out hb3')
        have HN3 := Lib.hid (HN2.out.trans (hb3'.mono HZ2.out))
        have HZ3 := Lib.hid (Nat.le_trans HZ2.out hb3'.size)
        clear hb3 hb3'
        cases hq : q
        · have HY : Hid (frP n zs d (p + 1) = L) := Lib.hid (by
            rw [frP_no, HL.out]
            cases h2 : hasB zs (((p : Int) + d) % n)
            · cases h3 : hasB zs (((p : Int) - d) % n)
              · have := avB_yes (HFP.out.2 ⟨h2, h3⟩)
                rw [HQ.out, hq] at this
                cases this
              · exact .inr (.inr rfl)
            · exact .inr (.inl rfl))
          clear hh
          go_wp2
          go_roundw
          case rel => exact ⟨p + 1, by omega, by go_num, by rw [HY.out]; exact ⟨av, cv, rfl, HO3.out, HN3.out, HZ3.out⟩⟩
          case measure => simp [intOf]; omega
        · have HY : Hid (frP n zs d (p + 1) = L ++ [(p : Int)]) := Lib.hid (by
            have hav : avC n Y d := by
              by_cases x : avC n Y d
              · exact x
              · have := avB_no x; rw [HQ.out, hq] at this; cases this
            obtain ⟨h2, h3⟩ := HFP.out.1 hav
            rw [frP_yes hh h2 h3, HL.out])
          clear hh
          go_wp2_with (at_builtin; refine append_int rfl _ _ rfl W0.heap.size _ L _ _ HO3.out hml HZ3.out _ rfl rfl rfl ?_; intro a' c' w4 hown' hb'; have HO4 := Lib.hid hown'; have HX4 := Lib.hid hb'; clear hown' hb')
          go_roundw
          case rel =>
            refine ⟨p + 1, by omega, by go_num, ?_⟩
            rw [HY.out]
            have := vec_snoc HN3.out HZ3.out HO4.out HX4.out
            simpa using this
          case measure => simp [intOf]; omega
      · obtain ⟨b2, c2, rfl, hown2, hb2⟩ := hcp
        have hnc : ¬ hasB zs p = false := by rw [hh]; simp
        rw [cS_no hnc, cZ_no hnc, cB_no hnc]
        have HOr := Lib.hid (own_below HO1.out hb2)
        have hb3' := hb2.trans ((bel1 w2 (.cells #[.int .i64 0, .slice b2 ([] : List Int).length c2] 25)).mono hb2.size)
        have HO3 := Lib.hid (own_below HO1.out hb3')
        have HN3 := Lib.hid (HN.out.trans (hb3'.mono HZ.out))
        have HZ3 := Lib.hid (Nat.le_trans HZ.out hb3'.size)
        have HY : Hid (frP n zs d (p + 1) = L) := Lib.hid (by rw [frP_no (.inl hh), HL.out])
        clear hown2 hb2 hb3' hnc hh d0 e1 g0 g1
        go_wp2
        go_roundw
        case rel => exact ⟨p + 1, by omega, by go_num, by rw [HY.out]; exact ⟨av, cv, rfl, HO3.out, HN3.out, HZ3.out⟩⟩
        case measure => simp [intOf]; omega
    · have e : p = n := by omega
      subst e
      go_wp2
      go_ret
      rw [HL.out]
      exact ⟨av, cv, rfl, own_base HO1.out HB0.out.size, HB0.out.trans (HN.out.mono HB0.out.size)⟩

set_option maxHeartbeats 1000000 in
theorem free_impl (s : Int) (a : Option Addr) (len cap : Nat) (zs : List Int) (d : Int) (w : World) (h : IntsAt w a len zs) (hm : zs.length ≤ 1048576) (h3 : -9223372036854775808 ≤ d) (h4 : d ≤ 9223372036854775807) :
    Calls Try.prog 37 #[rhy s a len cap, .int .i64 d] w (IPost (frB s zs d) w) := by
  have HS := Lib.hid h
  obtain rfl : zs.length = len := h.len
  clear h
  by_cases hc : AvC s d zs
  · have HC := Lib.hid (aviB_yes hc)
    obtain ⟨n, rfl⟩ : ∃ n : Nat, s = n := ⟨s.toNat, by have := hc.1.1; omega⟩
    have HO := Lib.hid hc.1
    have HD : Hid (1 ≤ d ∧ d < (n : Int)) := Lib.hid (by have := hc.2.1; omega)
    have HA := Lib.hid hc.2.2
    have HE : Hid (frB n zs d = frP n zs d n) := Lib.hid (by unfold frB; rw [cZ_yes hc, Int.toNat_natCast])
    clear hc
    rw [HE.out]
    go_enter Try.func37, Try.ntmps37
    go_wp2_with fail
    refine (avi_impl n a zs.length cap zs d _ (HS.out.below (bel1 w _)) hm h3 h4).mono ?_
    rintro e w1 ⟨rfl, hb1⟩
    rw [HC.out]
    have HB := Lib.hid ((bel1 w (.cells #[.int .i64 n, .slice a zs.length cap] 25)).trans (hb1.mono (by simp)))
    have HT := Lib.hid ((two_new w (.int .i64 n) (.slice a zs.length cap) 25).keep hb1)
    clear hb1
    obtain ⟨t, ta, tb⟩ := HT.out
    go_wp2_with fail
    refine (free0_any n a cap zs d _ (HS.out.below HB.out) HO.out HD.out HA.out).mono ?_
    rintro e w2 ⟨b, c, rfl, hown, hb2⟩
    have HO2 := Lib.hid hown
    have HB2 := Lib.hid (HB.out.trans (hb2.mono HB.out.size))
    clear hown hb2
    go_wp2
    go_ret
    exact ⟨b, c, rfl, own_base HO2.out HB.out.size, HB2.out⟩
  · have HC := Lib.hid (aviB_no hc)
    have HE : Hid (frB s zs d = []) := Lib.hid (cZ_no hc)
    clear hc
    rw [HE.out]
    go_enter Try.func37, Try.ntmps37
    go_wp2_with fail
    refine (avi_impl s a zs.length cap zs d _ (HS.out.below (bel1 w _)) hm h3 h4).mono ?_
    rintro e w1 ⟨rfl, hb1⟩
    rw [HC.out]
    have HB := Lib.hid ((bel1 w (.cells #[.int .i64 s, .slice a zs.length cap] 25)).trans (hb1.mono (by simp)))
    clear hb1
    go_wp2
    go_ret
    exact ⟨none, 0, rfl, World.ownsRow_nil _ _ _ _, HB.out⟩
end Go.Proofs.Ytjgjcppkbfojpaa.Rhy
