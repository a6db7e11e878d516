/-
  Helpers of the claims beside this text: forbidden intervals of the program: AvoidsInterval, HasOddity.
-/
import Derived.Test.YtjgjcppkbfojpaaOba
import Derived.Test.YtjgjcppkbfojpaaLsi
import Derived.Test.YtjgjcppkbfojpaaEvn
import Derived.Test.YtjgjcppkbfojpaaIvs
import Derived.Deep.RegionLaw
namespace Go.Proofs.Ytjgjcppkbfojpaa.Rhy
open Go.RowKit
set_option linter.unusedVariables false
set_option linter.unusedSimpArgs false

set_option maxHeartbeats 1000000 in
theorem avoids_any (n : Nat) (a : Option Addr) (len cap : Nat) (zs : List Int) (d : Int) (w : World) (h : IntsAt w a len zs) (ho : Ok n zs) (hd0 : 0 ≤ d) (hd1 : d ≤ 24) :
    Calls Try.prog 89 #[rhy n a len cap, .int .i64 d] w fun e w' => e = .returned (.bool (avB n zs d)) ∧ Below w.heap.size w w' := by
  have HS := Lib.hid h
  have HO := Lib.hid ho
  obtain rfl : zs.length = len := h.len
  have hl24 := ok_len ho
  have hn1 : 1 ≤ n := by have := ho.1.1; omega
  have hn24 : n ≤ 24 := by have := ho.1.2; omega
  clear h ho
  obtain ⟨q, hq⟩ : ∃ q, avB n zs d = q := ⟨_, rfl⟩
  have HQ := Lib.hid hq
  rw [hq]
  clear hq
  obtain ⟨W0, hW⟩ : ∃ W0, W0 = w.alloc (.cells #[.int .i64 n, .slice a zs.length cap] 25) := ⟨_, rfl⟩
  have HW := Lib.hid hW
  have HB0 := Lib.hid (show Below w.heap.size w W0 by rw [hW]; exact bel1 w _)
  have HX0 : Hid (RhI W0 w.heap.size n a zs.length cap zs) := Lib.hid ⟨by rw [hW]; exact box_new w _ _ _, HS.out.below HB0.out⟩
  clear hW
  obtain ⟨c0, c1, f0, f1⟩ := HX0.out.1.facts
  go_enter Try.func89, Try.ntmps89
  go_wp2
  rw [← HW.out]
  clear c0 c1 f0 f1
  go_loopw [10] (fun i wr => ∃ k : Nat, k ≤ zs.length ∧ i = .int .i64 k ∧ Hid (∀ (j : Nat) (z : Int), j < k → zs[j]? = some z → (z + d) % n ∉ zs) ∧ Below W0.heap.size W0 wr) (fun i _ => zs.length - (intOf i).toNat)
  case atStart => exact ⟨0, by omega, rfl, Lib.hid (fun j z hj => by omega), Below.refl _ _⟩
  case round =>
    obtain ⟨k, hk, rfl, HEV, hbw⟩ := hrel
    have HBW := Lib.hid hbw
    clear hbw
    have HXr := Lib.hid (HX0.out.keep HBW.out)
    obtain ⟨d0, d1, g0, g1⟩ := HXr.out.1.facts
    by_cases hlt : k < zs.length
    · obtain ⟨g, off, z, rfl, hg, hs, hc, hz1, hz2⟩ := HXr.out.2.at hlt
      obtain ⟨hz0, hzn⟩ := ok_at HO.out hs
      have hw1 : wrap64 (z + d) = z + d := by unfold wrap64; omega
      have HSS := Lib.hid hs
      obtain ⟨y, hy⟩ : ∃ y, (z + d) % (n : Int) = y := ⟨_, rfl⟩
      have HRM : Hid (remB (z + d) n = y) := Lib.hid hy
      have HYY := Lib.hid hy
      clear hy
      cases hh : hasB zs y
      · have HH := Lib.hid hh
        have HEV2 : Hid (∀ (j : Nat) (x : Int), j < k + 1 → zs[j]? = some x → (x + d) % n ∉ zs) := Lib.hid (fun j x hj hx => by
          by_cases e : j = k
          · subst e
            rw [HSS.out] at hx
            cases hx
            rw [HYY.out]
            intro hm
            unfold hasB at hh
            rw [List.contains_iff_mem.2 hm] at hh
            cases hh
          · exact HEV.out j x (by omega) hx)
        clear hs hh
        go_wp2_with fail
        refine (hasBeat_any n _ zs.length cap zs (z + d) _ HXr.out.2 (by omega) (by omega) (by omega) (by omega) (by omega)).mono ?_
        rw [HRM.out, HH.out]
        rintro e w' ⟨rfl, hb'⟩
        have HB' := Lib.hid (HBW.out.trans (hb'.mono HBW.out.size))
        clear hb' d0 d1 g0 g1 hc
        go_wp2
        go_roundw
        case rel => exact ⟨k + 1, by omega, by go_num, HEV2, HB'.out⟩
        case measure => simp [intOf]; omega
      · have HH := Lib.hid hh
        have HQF : Hid (q = false) := Lib.hid (by
          rw [← HQ.out]
          refine avB_no fun hav => hav z (List.mem_of_getElem? HSS.out) ?_
          rw [HYY.out]
          unfold hasB at hh
          exact List.contains_iff_mem.1 hh)
        clear hs hh
        go_wp2_with fail
        refine (hasBeat_any n _ zs.length cap zs (z + d) _ HXr.out.2 (by omega) (by omega) (by omega) (by omega) (by omega)).mono ?_
        rw [HRM.out, HH.out]
        rintro e w' ⟨rfl, hb'⟩
        have HB' := Lib.hid (HBW.out.trans (hb'.mono HBW.out.size))
        clear hb' d0 d1 g0 g1 hc
        go_wp2
        go_ret
        exact ⟨by rw [HQF.out]; rfl, HB0.out.trans (HB'.out.mono HB0.out.size)⟩
    · have HQT : Hid (q = true) := Lib.hid (by
        rw [← HQ.out]
        refine avB_yes fun p hp => ?_
        obtain ⟨j, hj⟩ := List.mem_iff_getElem?.1 hp
        have hjl : j < zs.length := by
          rcases Nat.lt_or_ge j zs.length with q | q
          · exact q
          · rw [List.getElem?_eq_none q] at hj; cases hj
        exact HEV.out j p (by omega) hj)
      go_wp2
      go_ret
      exact ⟨by rw [HQT.out]; rfl, HB0.out.trans (HBW.out.mono HB0.out.size)⟩

theorem isint_yes (d n : Int) (w : World) (h1 : 1 ≤ d) (h2 : d < n) : Calls Try.prog 88 #[.int .i64 d, .int .i64 n] w fun e w' => e = .returned (.bool true) ∧ w = w' := by
  go_enter Try.func88, Try.ntmps88
  go_wp2
  go_ret
  exact ⟨rfl, rfl⟩
theorem isint_no (d n : Int) (w : World) (h : ¬ (1 ≤ d ∧ d < n)) : Calls Try.prog 88 #[.int .i64 d, .int .i64 n] w fun e w' => e = .returned (.bool false) ∧ w = w' := by
  have HH := Lib.hid h
  by_cases h1 : 1 ≤ d
  · have h2 : ¬ d < n := fun q => h ⟨h1, q⟩
    clear h
    go_enter Try.func88, Try.ntmps88
    go_wp2
    go_ret
    exact ⟨rfl, rfl⟩
  · clear h
    go_enter Try.func88, Try.ntmps88
    go_wp2
    go_ret
    exact ⟨rfl, rfl⟩

set_option maxHeartbeats 1000000 in
theorem avi_impl (s : Int) (a : Option Addr) (len cap : Nat) (zs : List Int) (d : Int) (w : World) (h : IntsAt w a len zs) (hm : zs.length ≤ 1048576) (h3 : -9223372036854775808 ≤ d) (h4 : d ≤ 9223372036854775807) :
    Calls Try.prog 38 #[rhy s a len cap, .int .i64 d] w fun e w' => e = .returned (.bool (aviB s zs d)) ∧ Below w.heap.size w w' := by
  have HS := Lib.hid h
  obtain rfl : zs.length = len := h.len
  clear h
  by_cases ho : Ok s zs
  · obtain ⟨n, rfl⟩ : ∃ n : Nat, s = n := ⟨s.toNat, by have := ho.1; omega⟩
    have HO := Lib.hid ho
    have hn1 : 1 ≤ n := by have := ho.1.1; omega
    have hn24 : n ≤ 24 := by have := ho.1.2; omega
    by_cases hd : 1 ≤ d ∧ d ≤ (n : Int) - 1
    · have HD := Lib.hid hd
      obtain ⟨hd1, hd2⟩ := hd
      obtain ⟨q, hq⟩ : ∃ q, avB n zs d = q := ⟨_, rfl⟩
      have HQ := Lib.hid hq
      have HE : Hid (aviB n zs d = q) := Lib.hid (by
        rw [← hq]
        by_cases hc : avC n zs d
        · rw [avB_yes hc, aviB_yes ⟨ho, HD.out, hc⟩]
        · rw [avB_no hc, aviB_no (fun x => hc x.2.2)])
      clear ho hq
      rw [HE.out]
      go_enter Try.func38, Try.ntmps38
      go_wp2_with fail
      refine (valid_yes n a zs.length cap zs _ (HS.out.below (bel1 w _)) hm HO.out).mono ?_
      rintro e w1 ⟨rfl, hb1⟩
      have HB := Lib.hid ((bel1 w (.cells #[.int .i64 n, .slice a zs.length cap] 25)).trans (hb1.mono (by simp)))
      have HT := Lib.hid ((two_new w (.int .i64 n) (.slice a zs.length cap) 25).keep hb1)
      clear hb1
      obtain ⟨t, ta, tb⟩ := HT.out
      go_wp2_with fail
      refine (isint_yes d n _ hd1 (by omega)).mono ?_
      rintro e w' ⟨rfl, rfl⟩
      go_wp2_with fail
      refine (avoids_any n a zs.length cap zs d _ (HS.out.below HB.out) HO.out (by omega) (by omega)).mono ?_
      rintro e w2 ⟨rfl, hb2⟩
      rw [HQ.out]
      have HB2 := Lib.hid (HB.out.trans (hb2.mono HB.out.size))
      clear hb2
      go_wp2
      go_ret
      exact ⟨rfl, HB2.out⟩
    · have HD : Hid (¬ (1 ≤ d ∧ d < (n : Int))) := Lib.hid (by omega)
      have HE := Lib.hid (aviB_no (s := (n : Int)) (zs := zs) (d := d) (fun x => hd x.2.1))
      clear ho hd
      rw [HE.out]
      go_enter Try.func38, Try.ntmps38
      go_wp2_with fail
      refine (valid_yes n a zs.length cap zs _ (HS.out.below (bel1 w _)) hm HO.out).mono ?_
      rintro e w1 ⟨rfl, hb1⟩
      have HB := Lib.hid ((bel1 w (.cells #[.int .i64 n, .slice a zs.length cap] 25)).trans (hb1.mono (by simp)))
      have HT := Lib.hid ((two_new w (.int .i64 n) (.slice a zs.length cap) 25).keep hb1)
      clear hb1
      obtain ⟨t, ta, tb⟩ := HT.out
      go_wp2_with fail
      refine (isint_no d n _ HD.out).mono ?_
      rintro e w' ⟨rfl, rfl⟩
      go_wp2
      go_ret
      exact ⟨rfl, HB.out⟩
  · have HO := Lib.hid ho
    have HE := Lib.hid (aviB_no (s := s) (zs := zs) (d := d) (fun x => ho x.1))
    clear ho
    rw [HE.out]
    go_enter Try.func38, Try.ntmps38
    go_wp2_with fail
    refine (valid_no s a zs.length cap zs _ (HS.out.below (bel1 w _)) hm HO.out).mono ?_
    rintro e w1 ⟨rfl, hb1⟩
    have HB := Lib.hid ((bel1 w (.cells #[.int .i64 s, .slice a zs.length cap] 25)).trans (hb1.mono (by simp)))
    clear hb1
    go_wp2
    go_ret
    exact ⟨rfl, HB.out⟩

set_option maxHeartbeats 1000000 in
theorem odd_impl (s : Int) (a : Option Addr) (len cap : Nat) (zs : List Int) (w : World) (h : IntsAt w a len zs) (hm : zs.length ≤ 1048576) :
    Calls Try.prog 41 #[rhy s a len cap] w fun e w' => e = .returned (.bool (oddB s zs)) ∧ Below w.heap.size w w' := by
  have HS := Lib.hid h
  obtain rfl : zs.length = len := h.len
  clear h
  by_cases ho : Ok s zs
  · obtain ⟨n, rfl⟩ : ∃ n : Nat, s = n := ⟨s.toNat, by have := ho.1; omega⟩
    have HO := Lib.hid ho
    have hn1 : 1 ≤ n := by have := ho.1.1; omega
    have hn24 : n ≤ 24 := by have := ho.1.2; omega
    by_cases hod : (n : Int) % 2 = 1
    · have HE := Lib.hid (oddB_yes ⟨ho, .inl hod⟩)
      have ht : ((n : Int) % 2 == 1) = true := by simpa using hod
      have ht2 : (n % 2 == 1) = true := by simp; omega
      clear ho hod
      rw [HE.out]
      go_enter Try.func41, Try.ntmps41
      go_wp2_with fail
      refine (valid_yes n a zs.length cap zs _ (HS.out.below (bel1 w _)) hm HO.out).mono ?_
      rintro e w1 ⟨rfl, hb1⟩
      have HB := Lib.hid ((bel1 w (.cells #[.int .i64 n, .slice a zs.length cap] 25)).trans (hb1.mono (by simp)))
      have HT := Lib.hid ((two_new w (.int .i64 n) (.slice a zs.length cap) 25).keep hb1)
      clear hb1
      obtain ⟨t, ta, tb⟩ := HT.out
      go_wp2
      go_ret
      exact ⟨rfl, HB.out⟩
    · have ht : ((n : Int) % 2 == 1) = false := by simp; omega
      have ht2 : (n % 2 == 1) = false := by simp; omega
      obtain ⟨q, hq⟩ : ∃ q, avB n zs ((n : Int) / 2) = q := ⟨_, rfl⟩
      have HQ := Lib.hid hq
      have HE : Hid (oddB n zs = q) := Lib.hid (by
        rw [← hq]
        by_cases hc : avC n zs ((n : Int) / 2)
        · rw [avB_yes hc, oddB_yes ⟨ho, .inr hc⟩]
        · rw [avB_no hc, oddB_no (fun x => x.2.elim hod hc)])
      clear ho hod hq
      rw [HE.out]
      go_enter Try.func41, Try.ntmps41
      go_wp2_with fail
      refine (valid_yes n a zs.length cap zs _ (HS.out.below (bel1 w _)) hm HO.out).mono ?_
      rintro e w1 ⟨rfl, hb1⟩
      have HB := Lib.hid ((bel1 w (.cells #[.int .i64 n, .slice a zs.length cap] 25)).trans (hb1.mono (by simp)))
      have HT := Lib.hid ((two_new w (.int .i64 n) (.slice a zs.length cap) 25).keep hb1)
      clear hb1
      obtain ⟨t, ta, tb⟩ := HT.out
      go_wp2_with fail
      refine (avoids_any n a zs.length cap zs _ _ (HS.out.below HB.out) HO.out (by omega) (by omega)).mono ?_
      rintro e w2 ⟨rfl, hb2⟩
      rw [HQ.out]
      have HB2 := Lib.hid (HB.out.trans (hb2.mono HB.out.size))
      clear hb2
      go_wp2
      go_ret
      exact ⟨rfl, HB2.out⟩
  · have HO := Lib.hid ho
    have HE := Lib.hid (oddB_no (s := s) (zs := zs) (fun x => ho x.1))
    clear ho
    rw [HE.out]
    go_enter Try.func41, Try.ntmps41
    go_wp2_with fail
    refine (valid_no s a zs.length cap zs _ (HS.out.below (bel1 w _)) hm HO.out).mono ?_
    rintro e w1 ⟨rfl, hb1⟩
    have HB := Lib.hid ((bel1 w (.cells #[.int .i64 s, .slice a zs.length cap] 25)).trans (hb1.mono (by simp)))
    clear hb1
    go_wp2
    go_ret
    exact ⟨rfl, HB.out⟩
end Go.Proofs.Ytjgjcppkbfojpaa.Rhy

/-
  Helpers of the claims beside this text: the program's even rhythms: haveRoom, evenRhythm, ShiftedEven, EvenRhythm, CountEven.
-/
namespace Go.Proofs.Ytjgjcppkbfojpaa.Rhy
open Go.RowKit
set_option linter.unusedVariables false
set_option linter.unusedSimpArgs false

theorem room_yes (k n : Int) (w : World) (h : EvC k n) :
    Calls Try.prog 126 #[.int .i64 k, .int .i64 n] w fun e w' => e = .returned (.bool true) ∧ w = w' := by
  obtain ⟨h1, h2, h3, h4⟩ := h
  have e1 : decide (1 ≤ n) = true := by simp; omega
  have e2 : decide (n ≤ 24) = true := by simp; omega
  have e3 : decide (0 ≤ k) = true := by simp; omega
  have e4 : decide (k ≤ n) = true := by simp; omega
  go_enter Try.func126, Try.ntmps126
  go_wp2
  go_ret
  exact ⟨rfl, rfl⟩
theorem room_no (k n : Int) (w : World) (h : ¬ EvC k n) :
    Calls Try.prog 126 #[.int .i64 k, .int .i64 n] w fun e w' => e = .returned (.bool false) ∧ w = w' := by
  have HN := Lib.hid h
  clear h
  by_cases h1 : 1 ≤ n
  · have e1 : decide (1 ≤ n) = true := by simp; omega
    by_cases h2 : n ≤ 24
    · have e2 : decide (n ≤ 24) = true := by simp; omega
      by_cases h3 : 0 ≤ k
      · have e3 : decide (0 ≤ k) = true := by simp; omega
        have e4 : decide (k ≤ n) = false := by
          simp
          have := HN.out
          unfold EvC at this
          omega
        go_enter Try.func126, Try.ntmps126
        go_wp2
        go_ret
        exact ⟨rfl, rfl⟩
      · have e3 : decide (0 ≤ k) = false := by simp; omega
        go_enter Try.func126, Try.ntmps126
        go_wp2
        go_ret
        exact ⟨rfl, rfl⟩
    · have e2 : decide (n ≤ 24) = false := by simp; omega
      go_enter Try.func126, Try.ntmps126
      go_wp2
      go_ret
      exact ⟨rfl, rfl⟩
  · have e1 : decide (1 ≤ n) = false := by simp; omega
    go_enter Try.func126, Try.ntmps126
    go_wp2
    go_ret
    exact ⟨rfl, rfl⟩





end Go.Proofs.Ytjgjcppkbfojpaa.Rhy
