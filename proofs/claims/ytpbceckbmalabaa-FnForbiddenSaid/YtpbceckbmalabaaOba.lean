/-
  Helpers of the claims beside this text: forbidden intervals of the model: AvoidsInterval, HasOddity, MostAvoiding, OppositePairs, FreePulses.
-/
import Derived.Test.YtpbceckbmalabaaObn
import Derived.Test.YtpbceckbmalabaaGnm
namespace Go.Proofs.Ytpbceckbmalabaa.Rhy
open Go.RowKit
set_option linter.unusedVariables false
set_option linter.unusedSimpArgs false

noncomputable def avB (n : Int) (zs : List Int) (d : Int) : Bool := @decide (avC n zs d) (Classical.propDecidable _)
theorem avB_yes {n d : Int} {zs : List Int} (h : avC n zs d) : avB n zs d = true := by simp [avB, h]
theorem avB_no {n d : Int} {zs : List Int} (h : ¬ avC n zs d) : avB n zs d = false := by simp [avB, h]

set_option maxHeartbeats 1000000 in
theorem avoids_spec (n : Nat) (a : Option Addr) (cap : Nat) (zs : List Int) (d : Int) (w : World) (h : IntsAt w a zs.length zs) (ho : Ok n zs) (hd0 : 0 ≤ d) (hd1 : d ≤ 24) :
    Calls Try.prog 67 #[rhy n a zs.length cap, .int .i64 d] w fun e w' => e = .returned (.bool (avB n zs d)) ∧ Below w.heap.size w w' := by
  have HS := Lib.hid h
  have HRNG := Lib.hid (ok_range ho)
  have hl24 := ok_len ho
  have hn1 : 1 ≤ n := by have := ho.1.1; omega
  have hn24 : n ≤ 24 := by have := ho.1.2; omega
  clear h ho
  obtain ⟨q, hq⟩ : ∃ q, avB n zs d = q := ⟨_, rfl⟩
  have HQ := Lib.hid hq
  rw [hq]
  clear hq
  obtain ⟨W0, hW⟩ : ∃ W0, W0 = w.alloc (.cells #[.int .i64 n, .slice a zs.length cap] 30) := ⟨_, rfl⟩
  have HW := Lib.hid hW
  have HT : Hid (Two W0 w.heap.size (.int .i64 n) (.slice a zs.length cap)) := Lib.hid (by rw [hW]; exact two_new w _ _ _)
  have B0 : Hid (Below w.heap.size w W0) := Lib.hid (by rw [hW]; exact bel1 w _)
  clear hW
  obtain ⟨t, ta, tb⟩ := HT.out
  go_enter Try.func67, Try.ntmps67
  go_wp2_with fail
  rw [← HW.out]
  clear t ta tb
  go_loopw [10] (fun i wr => ∃ j : Nat, j ≤ zs.length ∧ i = .int .i64 j ∧ Hid (∀ (k : Nat) (z : Int), k < j → zs[k]? = some z → (z + d) % n ∉ zs) ∧ Below W0.heap.size W0 wr) (fun i _ => zs.length - (intOf i).toNat)
  case atStart => exact ⟨0, by omega, rfl, Lib.hid (fun k z hk => by omega), Below.refl _ _⟩
  case round =>
    obtain ⟨j, hj, rfl, HEV, hbl⟩ := hrel
    have HX := Lib.hid hbl
    have HTr := Lib.hid (HT.out.keep hbl)
    have HI : Hid (IntsAt wr a zs.length zs) := Lib.hid (HS.out.below (B0.out.trans (hbl.mono B0.out.size)))
    obtain ⟨t1, t1a, t1b⟩ := HTr.out
    clear hbl
    by_cases hlt : j < zs.length
    · obtain ⟨b, off, z, rfl, hb, hs, hc, hz1, hz2⟩ := HI.out.at hlt
      have hz := HRNG.out z (List.mem_of_getElem? hs)
      obtain ⟨y, hy⟩ : ∃ y, (z + d) % (n : Int) = y := ⟨_, rfl⟩
      have hyb := em_bd (z + d) (n := (n : Int)) (by omega)
      rw [hy] at hyb
      have hw1 : IntKind.i64.wrap (z + d) = z + d := IntWalk.i64_in _ ⟨by omega, by omega⟩
      have hq1 : Int.tmod (z + d) n = y := by rw [Int.tmod_eq_emod_of_nonneg (by omega)]; exact hy
      have hw2 : IntKind.i64.wrap y = y := IntWalk.i64_in _ ⟨by omega, by omega⟩
      have hn0 : ¬ n = 0 := by omega
      have hn0' : ¬ (n : Int) = 0 := by omega
      have HYY := Lib.hid hy
      have HSS := Lib.hid hs
      have HK : Hid (∀ W : World, Below wr.heap.size wr W → W.cell? ⟨w.heap.size, 0, none⟩ = some (.int .i64 n) ∧ W.cell? ⟨w.heap.size, 1, none⟩ = some (.slice (some ⟨b, off, none⟩) zs.length cap)) :=
        Lib.hid (fun W hW => ⟨(HTr.out.keep hW).2.1, (HTr.out.keep hW).2.2⟩)
      clear hy hs hz1 hz2
      cases hh : hasB zs y
      · have HY := Lib.hid hh
        have HEV2 : Hid (∀ (k : Nat) (x : Int), k < j + 1 → zs[k]? = some x → (x + d) % n ∉ zs) := Lib.hid (fun k x hk hx => by
          by_cases e : k = j
          · subst e
            rw [HSS.out] at hx
            cases hx
            rw [HYY.out]
            intro hm
            unfold hasB at hh
            rw [List.contains_iff_mem.2 hm] at hh
            cases hh
          · exact HEV.out k x (by omega) hx)
        clear hh
        go_wp2
        refine wp_region_held_drew (S := fun W => W.cell? ⟨w.heap.size, 0, none⟩ = some (.int .i64 n) ∧ W.cell? ⟨w.heap.size, 1, none⟩ = some (.slice (some ⟨b, off, none⟩) zs.length cap)) (by kernel_rfl) (HK.out _ (Below.refl _ _).drew) (fun hSS0 => ?_)
        refine wpAnyH_take (i := 0) (oi := ⟨some 14, _, _, _, _, _⟩) (v := .pointer (some ⟨w.heap.size, 1, none⟩)) rfl (by kernel_rfl) (by kernel_rfl) (by kernel_rfl) (fun _ _ _ h => h) (Or.inl ⟨by rfl, fun W hSw => by go_simp⟩) (by assumption) ?_
        try simp only [Act.put, List.setIfInBounds_toArray, List.set_cons_zero, List.set_cons_succ]
        refine wpAnyH_take (i := 1) (oi := ⟨some 15, _, _, _, _, _⟩) (v := .slice (some ⟨b, off, none⟩) zs.length cap) rfl (by kernel_rfl) (by kernel_rfl) (by kernel_rfl) (fun _ _ _ h => h) (Or.inl ⟨by rfl, fun W hSw => by obtain ⟨q1, q2⟩ := hSw; go_simp⟩) (by assumption) ?_
        try simp only [Act.put, List.setIfInBounds_toArray, List.set_cons_zero, List.set_cons_succ]
        refine wpAnyH_take (i := 2) (oi := ⟨some 16, _, _, _, _, _⟩) (v := .int .i64 z) rfl (by kernel_rfl) (by kernel_rfl) (by kernel_rfl) (fun _ _ _ h => h) (Or.inl ⟨by rfl, fun W hSw => by go_simp⟩) (by assumption) ?_
        try simp only [Act.put, List.setIfInBounds_toArray, List.set_cons_zero, List.set_cons_succ]
        refine wpAnyH_take (i := 3) (oi := ⟨some 17, _, _, _, _, _⟩) (v := .int .i64 d) rfl (by kernel_rfl) (by kernel_rfl) (by kernel_rfl) (fun _ _ _ h => h) (Or.inl ⟨by rfl, fun W hSw => by go_simp⟩) (by assumption) ?_
        try simp only [Act.put, List.setIfInBounds_toArray, List.set_cons_zero, List.set_cons_succ]
        refine wpAnyH_take (i := 4) (oi := ⟨some 18, _, _, _, _, _⟩) (v := .int .i64 (z + d)) rfl (by kernel_rfl) (by kernel_rfl) (by kernel_rfl) (fun _ _ _ h => h) (Or.inl ⟨by rfl, fun W hSw => by go_simp⟩) (by assumption) ?_
        try simp only [Act.put, List.setIfInBounds_toArray, List.set_cons_zero, List.set_cons_succ]
        refine wpAnyH_take (i := 5) (oi := ⟨some 19, _, _, _, _, _⟩) (v := .pointer (some ⟨w.heap.size, 0, none⟩)) rfl (by kernel_rfl) (by kernel_rfl) (by kernel_rfl) (fun _ _ _ h => h) (Or.inl ⟨by rfl, fun W hSw => by go_simp⟩) (by assumption) ?_
        try simp only [Act.put, List.setIfInBounds_toArray, List.set_cons_zero, List.set_cons_succ]
        refine wpAnyH_take (i := 6) (oi := ⟨some 20, _, _, _, _, _⟩) (v := .int .i64 n) rfl (by kernel_rfl) (by kernel_rfl) (by kernel_rfl) (fun _ _ _ h => h) (Or.inl ⟨by rfl, fun W hSw => by obtain ⟨q1, q2⟩ := hSw; go_simp⟩) (by assumption) ?_
        try simp only [Act.put, List.setIfInBounds_toArray, List.set_cons_zero, List.set_cons_succ]
        refine wpAnyH_take (i := 7) (oi := ⟨some 21, _, _, _, _, _⟩) (v := .int .i64 y) rfl (by kernel_rfl) (by kernel_rfl) (by kernel_rfl) (fun _ _ _ h => h) (Or.inl ⟨by rfl, fun W hSw => by go_simp⟩) (by assumption) ?_
        try simp only [Act.put, List.setIfInBounds_toArray, List.set_cons_zero, List.set_cons_succ]
        refine wpAnyH_ready (rs := [8]) (by kernel_rfl) (by simp) ?_
        refine AllReadyH.cons rfl (fun K hKK => ?_) AllReadyH.nil
        go_simp
        go_at_call 69
        refine (has_any (some ⟨b, off, none⟩) zs.length cap zs y _ (HI.out.below (Below.refl _ _).drew) (by omega)).mono ?_
        rintro e w2 ⟨rfl, rfl⟩
        rw [HY.out]
        refine hKK.out _ _ (HK.out _ (Below.refl _ _).drew) (fun hSS1 => ?_)
        clear hKK K hSS0
        try simp only [Act.put, List.setIfInBounds_toArray, List.set_cons_zero, List.set_cons_succ]
        refine wpAnyH_done (by kernel_rfl) ?_ _
        clear HK
        go_wp2
        go_roundw
        case rel => exact ⟨j + 1, by omega, by go_num, HEV2, HX.out.trans (((Below.refl wr.heap.size wr).drew).mono HX.out.size)⟩
        case measure => simp [intOf]; omega
      · have HY := Lib.hid hh
        have HQF : Hid (q = false) := Lib.hid (by
          rw [← HQ.out]
          refine avB_no fun hav => hav z (List.mem_of_getElem? HSS.out) ?_
          rw [HYY.out]
          unfold hasB at hh
          exact List.contains_iff_mem.1 hh)
        clear hh
        go_wp2
        refine wp_region_held_drew (S := fun W => W.cell? ⟨w.heap.size, 0, none⟩ = some (.int .i64 n) ∧ W.cell? ⟨w.heap.size, 1, none⟩ = some (.slice (some ⟨b, off, none⟩) zs.length cap)) (by kernel_rfl) (HK.out _ (Below.refl _ _).drew) (fun hSS0 => ?_)
        refine wpAnyH_take (i := 0) (oi := ⟨some 14, _, _, _, _, _⟩) (v := .pointer (some ⟨w.heap.size, 1, none⟩)) rfl (by kernel_rfl) (by kernel_rfl) (by kernel_rfl) (fun _ _ _ h => h) (Or.inl ⟨by rfl, fun W hSw => by go_simp⟩) (by assumption) ?_
        try simp only [Act.put, List.setIfInBounds_toArray, List.set_cons_zero, List.set_cons_succ]
        refine wpAnyH_take (i := 1) (oi := ⟨some 15, _, _, _, _, _⟩) (v := .slice (some ⟨b, off, none⟩) zs.length cap) rfl (by kernel_rfl) (by kernel_rfl) (by kernel_rfl) (fun _ _ _ h => h) (Or.inl ⟨by rfl, fun W hSw => by obtain ⟨q1, q2⟩ := hSw; go_simp⟩) (by assumption) ?_
        try simp only [Act.put, List.setIfInBounds_toArray, List.set_cons_zero, List.set_cons_succ]
        refine wpAnyH_take (i := 2) (oi := ⟨some 16, _, _, _, _, _⟩) (v := .int .i64 z) rfl (by kernel_rfl) (by kernel_rfl) (by kernel_rfl) (fun _ _ _ h => h) (Or.inl ⟨by rfl, fun W hSw => by go_simp⟩) (by assumption) ?_
        try simp only [Act.put, List.setIfInBounds_toArray, List.set_cons_zero, List.set_cons_succ]
        refine wpAnyH_take (i := 3) (oi := ⟨some 17, _, _, _, _, _⟩) (v := .int .i64 d) rfl (by kernel_rfl) (by kernel_rfl) (by kernel_rfl) (fun _ _ _ h => h) (Or.inl ⟨by rfl, fun W hSw => by go_simp⟩) (by assumption) ?_
        try simp only [Act.put, List.setIfInBounds_toArray, List.set_cons_zero, List.set_cons_succ]
        refine wpAnyH_take (i := 4) (oi := ⟨some 18, _, _, _, _, _⟩) (v := .int .i64 (z + d)) rfl (by kernel_rfl) (by kernel_rfl) (by kernel_rfl) (fun _ _ _ h => h) (Or.inl ⟨by rfl, fun W hSw => by go_simp⟩) (by assumption) ?_
        try simp only [Act.put, List.setIfInBounds_toArray, List.set_cons_zero, List.set_cons_succ]
        refine wpAnyH_take (i := 5) (oi := ⟨some 19, _, _, _, _, _⟩) (v := .pointer (some ⟨w.heap.size, 0, none⟩)) rfl (by kernel_rfl) (by kernel_rfl) (by kernel_rfl) (fun _ _ _ h => h) (Or.inl ⟨by rfl, fun W hSw => by go_simp⟩) (by assumption) ?_
        try simp only [Act.put, List.setIfInBounds_toArray, List.set_cons_zero, List.set_cons_succ]
        refine wpAnyH_take (i := 6) (oi := ⟨some 20, _, _, _, _, _⟩) (v := .int .i64 n) rfl (by kernel_rfl) (by kernel_rfl) (by kernel_rfl) (fun _ _ _ h => h) (Or.inl ⟨by rfl, fun W hSw => by obtain ⟨q1, q2⟩ := hSw; go_simp⟩) (by assumption) ?_
        try simp only [Act.put, List.setIfInBounds_toArray, List.set_cons_zero, List.set_cons_succ]
        refine wpAnyH_take (i := 7) (oi := ⟨some 21, _, _, _, _, _⟩) (v := .int .i64 y) rfl (by kernel_rfl) (by kernel_rfl) (by kernel_rfl) (fun _ _ _ h => h) (Or.inl ⟨by rfl, fun W hSw => by go_simp⟩) (by assumption) ?_
        try simp only [Act.put, List.setIfInBounds_toArray, List.set_cons_zero, List.set_cons_succ]
        refine wpAnyH_ready (rs := [8]) (by kernel_rfl) (by simp) ?_
        refine AllReadyH.cons rfl (fun K hKK => ?_) AllReadyH.nil
        go_simp
        go_at_call 69
        refine (has_any (some ⟨b, off, none⟩) zs.length cap zs y _ (HI.out.below (Below.refl _ _).drew) (by omega)).mono ?_
        rintro e w2 ⟨rfl, rfl⟩
        rw [HY.out]
        refine hKK.out _ _ (HK.out _ (Below.refl _ _).drew) (fun hSS1 => ?_)
        clear hKK K hSS0
        try simp only [Act.put, List.setIfInBounds_toArray, List.set_cons_zero, List.set_cons_succ]
        refine wpAnyH_done (by kernel_rfl) ?_ _
        clear HK
        go_wp2
        go_ret
        exact ⟨by rw [HQF.out]; rfl, B0.out.trans ((HX.out.trans (((Below.refl wr.heap.size wr).drew).mono HX.out.size)).mono B0.out.size)⟩
    · have HQT : Hid (q = true) := Lib.hid (by
        rw [← HQ.out]
        refine avB_yes fun p hp => ?_
        obtain ⟨k, hk⟩ := List.mem_iff_getElem?.1 hp
        have hkl : k < zs.length := by
          rcases Nat.lt_or_ge k zs.length with q | q
          · exact q
          · rw [List.getElem?_eq_none q] at hk; cases hk
        exact HEV.out k p (by omega) hk)
      go_wp2
      go_ret
      exact ⟨by rw [HQT.out]; rfl, B0.out.trans (HX.out.mono B0.out.size)⟩

/-! ### AvoidsInterval, HasOddity -/
def AvC (s d : Int) (zs : List Int) : Prop := Ok s zs ∧ (1 ≤ d ∧ d ≤ s - 1) ∧ avC s zs d
noncomputable def aviB (s : Int) (zs : List Int) (d : Int) : Bool := @decide (AvC s d zs) (Classical.propDecidable _)
theorem aviB_yes {s d : Int} {zs : List Int} (h : AvC s d zs) : aviB s zs d = true := by simp [aviB, h]
theorem aviB_no {s d : Int} {zs : List Int} (h : ¬ AvC s d zs) : aviB s zs d = false := by simp [aviB, h]
set_option maxHeartbeats 1000000 in
theorem avi_spec (s : Int) (a : Option Addr) (len cap : Nat) (zs : List Int) (d : Int) (w : World) (h : IntsAt w a len zs) (hm : zs.length ≤ 1048576) (h3 : -9223372036854775808 ≤ d) (h4 : d ≤ 9223372036854775807) :
    Calls Try.prog 28 #[rhy s a len cap, .int .i64 d] w fun e w' => e = .returned (.bool (aviB s zs d)) ∧ Below w.heap.size w w' := by
  have HS := Lib.hid h
  obtain rfl : zs.length = len := h.len
  clear h
  by_cases ho : Ok s zs
  · obtain ⟨n, rfl⟩ : ∃ n : Nat, s = n := ⟨s.toNat, by have := ho.1; omega⟩
    have HO := Lib.hid ho
    have hn1 : 1 ≤ n := by have := ho.1.1; omega
    have hn24 : n ≤ 24 := by have := ho.1.2; omega
    by_cases hd : 1 ≤ d ∧ d ≤ (n : Int) - 1
    · have HD := Lib.hid hd
      obtain ⟨hd1, hd2⟩ := hd
      obtain ⟨q, hq⟩ : ∃ q, avB n zs d = q := ⟨_, rfl⟩
      have HQ := Lib.hid hq
      have HE : Hid (aviB n zs d = q) := Lib.hid (by
        rw [← hq]
        by_cases hc : avC n zs d
        · rw [avB_yes hc, aviB_yes ⟨ho, HD.out, hc⟩]
        · rw [avB_no hc, aviB_no (fun x => hc x.2.2)])
      clear ho hq
      rw [HE.out]
      go_enter Try.func28, Try.ntmps28
      go_wp2_with fail
      refine (ok_yes n a zs.length cap zs _ (HS.out.below (bel1 w _)) hm HO.out).mono ?_
      rintro e w1 ⟨rfl, hb1⟩
      have HB := Lib.hid ((bel1 w (.cells #[.int .i64 n, .slice a zs.length cap] 30)).trans (hb1.mono (by simp)))
      have HT := Lib.hid ((two_new w (.int .i64 n) (.slice a zs.length cap) 30).keep hb1)
      clear hb1
      obtain ⟨t, ta, tb⟩ := HT.out
      go_wp2_with fail
      refine (in_yes _ _ _ _ hd1 hd2).mono ?_
      rintro e w' ⟨rfl, rfl⟩
      go_wp2_with fail
      refine (avoids_spec n a cap zs d _ (HS.out.below HB.out) HO.out (by omega) (by omega)).mono ?_
      rintro e w2 ⟨rfl, hb2⟩
      rw [HQ.out]
      have HB2 := Lib.hid (HB.out.trans (hb2.mono HB.out.size))
      clear hb2
      go_wp2
      go_ret
      exact ⟨rfl, HB2.out⟩
    · have HD := Lib.hid hd
      have HE := Lib.hid (aviB_no (s := (n : Int)) (zs := zs) (d := d) (fun x => hd x.2.1))
      clear ho hd
      rw [HE.out]
      go_enter Try.func28, Try.ntmps28
      go_wp2_with fail
      refine (ok_yes n a zs.length cap zs _ (HS.out.below (bel1 w _)) hm HO.out).mono ?_
      rintro e w1 ⟨rfl, hb1⟩
      have HB := Lib.hid ((bel1 w (.cells #[.int .i64 n, .slice a zs.length cap] 30)).trans (hb1.mono (by simp)))
      have HT := Lib.hid ((two_new w (.int .i64 n) (.slice a zs.length cap) 30).keep hb1)
      clear hb1
      obtain ⟨t, ta, tb⟩ := HT.out
      go_wp2_with fail
      refine (in_no _ _ _ _ HD.out).mono ?_
      rintro e w' ⟨rfl, rfl⟩
      go_wp2
      go_ret
      exact ⟨rfl, HB.out⟩
  · have HO := Lib.hid ho
    have HE := Lib.hid (aviB_no (s := s) (zs := zs) (d := d) (fun x => ho x.1))
    clear ho
    rw [HE.out]
    go_enter Try.func28, Try.ntmps28
    go_wp2_with fail
    refine (ok_no s a zs.length cap zs _ (HS.out.below (bel1 w _)) hm HO.out).mono ?_
    rintro e w1 ⟨rfl, hb1⟩
    have HB := Lib.hid ((bel1 w (.cells #[.int .i64 s, .slice a zs.length cap] 30)).trans (hb1.mono (by simp)))
    clear hb1
    go_wp2
    go_ret
    exact ⟨rfl, HB.out⟩
def OdC (s : Int) (zs : List Int) : Prop := Ok s zs ∧ (s % 2 = 1 ∨ avC s zs (s / 2))
noncomputable def oddB (s : Int) (zs : List Int) : Bool := @decide (OdC s zs) (Classical.propDecidable _)
theorem oddB_yes {s : Int} {zs : List Int} (h : OdC s zs) : oddB s zs = true := by simp [oddB, h]
theorem oddB_no {s : Int} {zs : List Int} (h : ¬ OdC s zs) : oddB s zs = false := by simp [oddB, h]
set_option maxHeartbeats 1000000 in
theorem odd_spec (s : Int) (a : Option Addr) (len cap : Nat) (zs : List Int) (w : World) (h : IntsAt w a len zs) (hm : zs.length ≤ 1048576) :
    Calls Try.prog 31 #[rhy s a len cap] w fun e w' => e = .returned (.bool (oddB s zs)) ∧ Below w.heap.size w w' := by
  have HS := Lib.hid h
  obtain rfl : zs.length = len := h.len
  clear h
  by_cases ho : Ok s zs
  · obtain ⟨n, rfl⟩ : ∃ n : Nat, s = n := ⟨s.toNat, by have := ho.1; omega⟩
    have HO := Lib.hid ho
    have hn1 : 1 ≤ n := by have := ho.1.1; omega
    have hn24 : n ≤ 24 := by have := ho.1.2; omega
    by_cases hod : (n : Int) % 2 = 1
    · have HE := Lib.hid (oddB_yes ⟨ho, .inl hod⟩)
      have ht : ((n : Int) % 2 == 1) = true := by simpa using hod
      have ht2 : (n % 2 == 1) = true := by simp; omega
      clear ho hod
      rw [HE.out]
      go_enter Try.func31, Try.ntmps31
      go_wp2_with fail
      refine (ok_yes n a zs.length cap zs _ (HS.out.below (bel1 w _)) hm HO.out).mono ?_
      rintro e w1 ⟨rfl, hb1⟩
      have HB := Lib.hid ((bel1 w (.cells #[.int .i64 n, .slice a zs.length cap] 30)).trans (hb1.mono (by simp)))
      have HT := Lib.hid ((two_new w (.int .i64 n) (.slice a zs.length cap) 30).keep hb1)
      clear hb1
      obtain ⟨t, ta, tb⟩ := HT.out
      go_wp2
      go_ret
      exact ⟨rfl, HB.out⟩
    · have ht : ((n : Int) % 2 == 1) = false := by simp; omega
      have ht2 : (n % 2 == 1) = false := by simp; omega
      obtain ⟨q, hq⟩ : ∃ q, avB n zs ((n : Int) / 2) = q := ⟨_, rfl⟩
      have HQ := Lib.hid hq
      have HE : Hid (oddB n zs = q) := Lib.hid (by
        rw [← hq]
        by_cases hc : avC n zs ((n : Int) / 2)
        · rw [avB_yes hc, oddB_yes ⟨ho, .inr hc⟩]
        · rw [avB_no hc, oddB_no (fun x => x.2.elim hod hc)])
      clear ho hod hq
      rw [HE.out]
      go_enter Try.func31, Try.ntmps31
      go_wp2_with fail
      refine (ok_yes n a zs.length cap zs _ (HS.out.below (bel1 w _)) hm HO.out).mono ?_
      rintro e w1 ⟨rfl, hb1⟩
      have HB := Lib.hid ((bel1 w (.cells #[.int .i64 n, .slice a zs.length cap] 30)).trans (hb1.mono (by simp)))
      have HT := Lib.hid ((two_new w (.int .i64 n) (.slice a zs.length cap) 30).keep hb1)
      clear hb1
      obtain ⟨t, ta, tb⟩ := HT.out
      go_wp2_with fail
      refine (avoids_spec n a cap zs _ _ (HS.out.below HB.out) HO.out (by omega) (by omega)).mono ?_
      rintro e w2 ⟨rfl, hb2⟩
      rw [HQ.out]
      have HB2 := Lib.hid (HB.out.trans (hb2.mono HB.out.size))
      clear hb2
      go_wp2
      go_ret
      exact ⟨rfl, HB2.out⟩
  · have HO := Lib.hid ho
    have HE := Lib.hid (oddB_no (s := s) (zs := zs) (fun x => ho x.1))
    clear ho
    rw [HE.out]
    go_enter Try.func31, Try.ntmps31
    go_wp2_with fail
    refine (ok_no s a zs.length cap zs _ (HS.out.below (bel1 w _)) hm HO.out).mono ?_
    rintro e w1 ⟨rfl, hb1⟩
    have HB := Lib.hid ((bel1 w (.cells #[.int .i64 s, .slice a zs.length cap] 30)).trans (hb1.mono (by simp)))
    clear hb1
    go_wp2
    go_ret
    exact ⟨rfl, HB.out⟩

/-! ### MostAvoiding -/
def MoC (n d : Int) : Prop := (2 ≤ n ∧ n ≤ 24) ∧ (1 ≤ d ∧ d ≤ n - 1)
noncomputable def moaB (n d : Int) : Int := @ite _ (MoC n d) (Classical.propDecidable _) (mostN n.toNat d.toNat : Nat) (-1)
theorem moaB_yes {n d : Int} (h : MoC n d) : moaB n d = (mostN n.toNat d.toNat : Nat) := by simp [moaB, h]
theorem moaB_no {n d : Int} (h : ¬ MoC n d) : moaB n d = -1 := by simp [moaB, h]
theorem mostav_spec (n d : Int) (w : World) (h1 : -9223372036854775808 ≤ n) (h2 : n ≤ 9223372036854775807) (h3 : -9223372036854775808 ≤ d) (h4 : d ≤ 9223372036854775807) :
    Calls Try.prog 42 #[.int .i64 n, .int .i64 d] w fun e w' => e = .returned (.int .i64 (moaB n d)) ∧ Below w.heap.size w w' := by
  by_cases hn : 2 ≤ n ∧ n ≤ 24
  · by_cases hd : 1 ≤ d ∧ d ≤ n - 1
    · have HE := Lib.hid (moaB_yes ⟨hn, hd⟩)
      obtain ⟨N, rfl⟩ : ∃ N : Nat, n = N := ⟨n.toNat, by omega⟩
      obtain ⟨D, rfl⟩ : ∃ D : Nat, d = D := ⟨d.toNat, by omega⟩
      obtain ⟨hn1, hn2⟩ := hn
      obtain ⟨hd1, hd2⟩ := hd
      obtain ⟨g, hg⟩ : ∃ g, Nat.gcd N D = g := ⟨_, rfl⟩
      have hg1 : 1 ≤ g := by rw [← hg]; exact Nat.gcd_pos_of_pos_left _ (by omega)
      have hgn : g ≤ N := by rw [← hg]; exact Nat.gcd_le_left _ (by omega)
      obtain ⟨m, hm⟩ : ∃ m, N / g / 2 = m := ⟨_, rfl⟩
      have hm12 : m ≤ 12 := by
        rw [← hm]
        have : N / g ≤ N := Nat.div_le_self _ _
        omega
      obtain ⟨p, hp⟩ : ∃ p, g * m = p := ⟨_, rfl⟩
      have hpb : p ≤ 288 := by rw [← hp]; exact Nat.mul_le_mul (show g ≤ 24 by omega) hm12
      have HM : Hid ((mostN (N : Int).toNat (D : Int).toNat : Nat) = p) := Lib.hid (by unfold mostN; rw [Int.toNat_natCast, Int.toNat_natCast, hg, hm, hp])
      have HG := Lib.hid hg
      have HD1 : Hid ((N : Int) / (g : Int) / 2 = (m : Int)) := Lib.hid (by rw [← hm]; simp)
      have HP : Hid ((g : Int) * (m : Int) = (p : Int)) := Lib.hid (by rw [← hp]; simp)
      have hg0 : ¬ g = 0 := by omega
      have hw : wrap64 ((g : Int) * (m : Int)) = (p : Int) := by rw [HP.out]; unfold wrap64; omega
      have HWW := Lib.hid hw
      clear hg hm hp hw
      rw [HE.out, HM.out]
      go_enter Try.func42, Try.ntmps42
      go_wp2_with fail
      refine (in_yes _ _ _ _ hn1 hn2).mono ?_
      rintro e w' ⟨rfl, rfl⟩
      go_wp2_with fail
      refine (in_yes _ _ _ _ hd1 hd2).mono ?_
      rintro e w' ⟨rfl, rfl⟩
      go_wp2_with fail
      refine (gcd_spec N D _ (by omega) (by omega)).mono ?_
      rintro e w2 ⟨rfl, rfl⟩
      rw [HG.out]
      have hd1' := HD1.out
      go_wp2
      go_ret
      exact ⟨ret_int HWW.out, Below.refl _ _⟩
    · have HD := Lib.hid hd
      obtain ⟨hn1, hn2⟩ := hn
      have HE := Lib.hid (moaB_no (n := n) (d := d) (fun x => hd x.2))
      clear hd
      rw [HE.out]
      go_enter Try.func42, Try.ntmps42
      go_wp2_with fail
      refine (in_yes _ _ _ _ hn1 hn2).mono ?_
      rintro e w' ⟨rfl, rfl⟩
      go_wp2_with fail
      refine (in_no _ _ _ _ HD.out).mono ?_
      rintro e w' ⟨rfl, rfl⟩
      go_wp2
      go_ret
      exact ⟨rfl, Below.refl _ _⟩
  · have HN := Lib.hid hn
    have HE := Lib.hid (moaB_no (n := n) (d := d) (fun x => hn x.1))
    clear hn
    rw [HE.out]
    go_enter Try.func42, Try.ntmps42
    go_wp2_with fail
    refine (in_no _ _ _ _ HN.out).mono ?_
    rintro e w' ⟨rfl, rfl⟩
    go_wp2
    go_ret
    exact ⟨rfl, Below.refl _ _⟩

/-! ### OppositePairs -/
def opT (n : Nat) (zs : List Int) (p : Int) : Bool := zs.contains p && zs.contains (p + (n / 2 : Nat))
def opP (n : Nat) (zs : List Int) (j : Nat) : List Int := ((List.range j).map Int.ofNat).filter (opT n zs)
noncomputable def opB (s : Int) (zs : List Int) : List Int := cZ (Ok s zs ∧ s % 2 = 0) (opP s.toNat zs (s.toNat / 2))
theorem opP_zero (n : Nat) (zs : List Int) : opP n zs 0 = [] := by simp [opP]
theorem opP_yes {n j : Nat} {zs : List Int} (h : opT n zs j = true) : opP n zs (j + 1) = opP n zs j ++ [(j : Int)] := by
  unfold opP
  rw [List.range_succ, List.map_append, List.filter_append]
  congr 1
  simp only [List.map_cons, List.map_nil]
  exact List.filter_cons_of_pos h
theorem opP_no {n j : Nat} {zs : List Int} (h : opT n zs j = false) : opP n zs (j + 1) = opP n zs j := by
  unfold opP
  rw [List.range_succ, List.map_append, List.filter_append]
  simp only [List.map_cons, List.map_nil]
  rw [List.filter_cons_of_neg (by rw [show Int.ofNat j = (j : Int) from rfl, h]; simp)]
  simp
theorem opP_len (n : Nat) (zs : List Int) (j : Nat) : (opP n zs j).length ≤ j := by
  unfold opP
  refine Nat.le_trans (List.length_filter_le _ _) ?_
  simp
set_option maxHeartbeats 1000000 in
theorem opp_spec (s : Int) (a : Option Addr) (len cap : Nat) (zs : List Int) (w : World) (h : IntsAt w a len zs) (hm : zs.length ≤ 1048576) :
    Calls Try.prog 32 #[rhy s a len cap] w (IPost (opB s zs) w) := by
  have HS := Lib.hid h
  obtain rfl : zs.length = len := h.len
  clear h
  by_cases ho : Ok s zs
  · obtain ⟨n, rfl⟩ : ∃ n : Nat, s = n := ⟨s.toNat, by have := ho.1; omega⟩
    have HO := Lib.hid ho
    have hn1 : 1 ≤ n := by have := ho.1.1; omega
    have hn24 : n ≤ 24 := by have := ho.1.2; omega
    by_cases hod : (n : Int) % 2 = 1
    · have HE : Hid (opB n zs = []) := Lib.hid (cZ_no (fun x => by have := x.2; omega))
      have ht : ((n : Int) % 2 == 1) = true := by simpa using hod
      have ht2 : (n % 2 == 1) = true := by simp; omega
      clear ho hod
      rw [HE.out]
      go_enter Try.func32, Try.ntmps32
      go_wp2_with fail
      refine (ok_yes n a zs.length cap zs _ (HS.out.below (bel1 w _)) hm HO.out).mono ?_
      rintro e w1 ⟨rfl, hb1⟩
      have HB := Lib.hid ((bel1 w (.cells #[.int .i64 n, .slice a zs.length cap] 30)).trans (hb1.mono (by simp)))
      have HT := Lib.hid ((two_new w (.int .i64 n) (.slice a zs.length cap) 30).keep hb1)
      clear hb1
      obtain ⟨t, ta, tb⟩ := HT.out
      go_wp2
      go_ret
      exact ⟨none, 0, rfl, World.ownsRow_nil _ _ _ _, HB.out⟩
    · have ht : ((n : Int) % 2 == 1) = false := by simp; omega
      have ht2 : (n % 2 == 1) = false := by simp; omega
      have HE : Hid (opB n zs = opP n zs (n / 2)) := Lib.hid (by unfold opB; rw [cZ_yes ⟨ho, by omega⟩, Int.toNat_natCast])
      obtain ⟨m, hm2⟩ : ∃ m, n / 2 = m := ⟨_, rfl⟩
      have HM := Lib.hid hm2
      have hm12 : m ≤ 12 := by omega
      have hdm : (n : Int) / 2 = (m : Int) := by omega
      have HDM := Lib.hid hdm
      rw [hm2] at HE
      clear ho hod hm2 hdm
      rw [HE.out]
      go_enter Try.func32, Try.ntmps32
      go_wp2_with fail
      refine (ok_yes n a zs.length cap zs _ (HS.out.below (bel1 w _)) hm HO.out).mono ?_
      rintro e w1 ⟨rfl, hb1⟩
      have HB := Lib.hid ((bel1 w (.cells #[.int .i64 n, .slice a zs.length cap] 30)).trans (hb1.mono (by simp)))
      have HT := Lib.hid ((two_new w (.int .i64 n) (.slice a zs.length cap) 30).keep hb1)
      clear hb1
      obtain ⟨t, ta, tb⟩ := HT.out
      go_wp2
      clear t ta tb
      go_loopw [3, 4] (fun v i wr => ∃ p : Nat, p ≤ m ∧ i = .int .i64 p ∧ VecAt (opP n zs p) w1 wr v) (fun _ i _ => m - (intOf i).toNat)
      case atStart => exact ⟨0, by omega, rfl, by rw [opP_zero]; exact vec_made w1⟩
      case round =>
        obtain ⟨p, hpm, rfl, av, cv, rfl, hown, hnx, hsz⟩ := hrel
        obtain ⟨L, hL⟩ : ∃ L, opP n zs p = L := ⟨_, rfl⟩
        have hml : L.length ≤ 1048577 := by rw [← hL]; have := opP_len n zs p; omega
        rw [hL] at hown ⊢
        have HL := Lib.hid hL
        have HO1 := Lib.hid hown
        have HN := Lib.hid hnx
        have HZ := Lib.hid hsz
        have HTr := Lib.hid (HT.out.keep hnx)
        have HI : Hid (IntsAt wr a zs.length zs) := Lib.hid (HS.out.below (HB.out.trans (hnx.mono HB.out.size)))
        obtain ⟨t1, t1a, t1b⟩ := HTr.out
        have hdm := HDM.out
        clear hL hown hnx hsz
        by_cases hlt : p < m
        · cases h1 : hasB zs p
          · have H1 := Lib.hid h1
            have HY : Hid (opP n zs (p + 1) = L) := Lib.hid (by
              rw [opP_no (by unfold opT; unfold hasB at h1; rw [h1]; rfl), HL.out])
            clear h1
            go_wp2_with fail
            refine (has_any a zs.length cap zs p _ HI.out (by omega)).mono ?_
            rintro e w' ⟨rfl, rfl⟩
            rw [H1.out]
            go_wp2
            go_roundw
            case rel => exact ⟨p + 1, by omega, by go_num, by rw [HY.out]; exact ⟨av, cv, rfl, HO1.out, HN.out, HZ.out⟩⟩
            case measure => simp [intOf]; omega
          · cases h2 : hasB zs ((p : Int) + m)
            · have H1 := Lib.hid h1
              have H2 := Lib.hid h2
              have HY : Hid (opP n zs (p + 1) = L) := Lib.hid (by
                rw [opP_no (by unfold opT; rw [HM.out]; unfold hasB at h2; rw [h2]; simp), HL.out])
              clear h1 h2
              go_wp2_with fail
              refine (has_any a zs.length cap zs p _ HI.out (by omega)).mono ?_
              rintro e w' ⟨rfl, rfl⟩
              rw [H1.out]
              go_wp2_with fail
              refine (has_any a zs.length cap zs ((p : Int) + m) _ HI.out (by omega)).mono ?_
              rintro e w' ⟨rfl, rfl⟩
              rw [H2.out]
              go_wp2
              go_roundw
              case rel => exact ⟨p + 1, by omega, by go_num, by rw [HY.out]; exact ⟨av, cv, rfl, HO1.out, HN.out, HZ.out⟩⟩
              case measure => simp [intOf]; omega
            · have H1 := Lib.hid h1
              have H2 := Lib.hid h2
              have HY : Hid (opP n zs (p + 1) = L ++ [(p : Int)]) := Lib.hid (by
                rw [opP_yes (by unfold opT; rw [HM.out]; unfold hasB at h1 h2; rw [h1, h2]; rfl), HL.out])
              clear h1 h2
              go_wp2_with fail
              refine (has_any a zs.length cap zs p _ HI.out (by omega)).mono ?_
              rintro e w' ⟨rfl, rfl⟩
              rw [H1.out]
              go_wp2_with fail
              refine (has_any a zs.length cap zs ((p : Int) + m) _ HI.out (by omega)).mono ?_
              rintro e w' ⟨rfl, rfl⟩
              rw [H2.out]
              go_wp2_with (at_builtin; refine append_int rfl _ _ rfl w1.heap.size _ L _ _ HO1.out hml HZ.out _ rfl rfl rfl ?_; intro a' c' w3 hown' hb'; have HO3 := Lib.hid hown'; have HX3 := Lib.hid hb'; clear hown' hb')
              go_roundw
              case rel =>
                refine ⟨p + 1, by omega, by go_num, ?_⟩
                rw [HY.out]
                have := vec_snoc HN.out HZ.out HO3.out HX3.out
                simpa using this
              case measure => simp [intOf]; omega
        · have e : p = m := by omega
          subst e
          go_wp2
          go_ret
          rw [HL.out]
          exact ⟨av, cv, rfl, own_base HO1.out HB.out.size, HB.out.trans (HN.out.mono HB.out.size)⟩
  · have HO := Lib.hid ho
    have HE : Hid (opB s zs = []) := Lib.hid (cZ_no (fun x => ho x.1))
    clear ho
    rw [HE.out]
    go_enter Try.func32, Try.ntmps32
    go_wp2_with fail
    refine (ok_no s a zs.length cap zs _ (HS.out.below (bel1 w _)) hm HO.out).mono ?_
    rintro e w1 ⟨rfl, hb1⟩
    have HB := Lib.hid ((bel1 w (.cells #[.int .i64 s, .slice a zs.length cap] 30)).trans (hb1.mono (by simp)))
    clear hb1
    go_wp2
    go_ret
    exact ⟨none, 0, rfl, World.ownsRow_nil _ _ _ _, HB.out⟩
end Go.Proofs.Ytpbceckbmalabaa.Rhy
