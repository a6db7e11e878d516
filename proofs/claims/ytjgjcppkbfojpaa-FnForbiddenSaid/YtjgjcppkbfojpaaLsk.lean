import Derived.Test.YtjgjcppkbfojpaaLsi
namespace Go.Proofs.Ytjgjcppkbfojpaa.Rhy
open Go.RowKit

theorem two_cases {x y r : Item} {j : Nat} (h : [x, y][j]? = some r) : r = x ∨ r = y := by
  rcases j with _ | _ | j
  · exact .inl (by simpa using h.symm)
  · exact .inr (by simpa using h.symm)
  · simp at h
/-- Two rhythms in a slice that has just been laid. -/
theorem two_items (w : World) (n : Int) (b1 : Option Addr) (c1 : Nat) (l1 : List Int) (b2 : Option Addr) (c2 : Nat) (l2 : List Int) (h1 : IntsAt w b1 l1.length l1) (h2 : IntsAt w b2 l2.length l2) :
    ItemsAt (w.alloc (.cells #[.int .i64 n, .slice b1 l1.length c1, .int .i64 n, .slice b2 l2.length c2] 25)) (.slice (some ⟨w.heap.size, 0, none⟩) 2 2) [⟨n, b1, c1, l1⟩, ⟨n, b2, c2, l2⟩] := by
  refine ⟨_, 2, rfl, Nat.le_refl _, fun _ => ⟨w.heap.size, 0, rfl, by simp, fun i r hi => ?_⟩⟩
  have hn := heap_alloc_new w (.cells #[.int .i64 n, .slice b1 l1.length c1, .int .i64 n, .slice b2 l2.length c2] 25)
  rcases i with _ | _ | i
  · obtain rfl : (⟨n, b1, c1, l1⟩ : Item) = r := by simpa using hi
    exact ⟨by rw [cell_of_row _ _ _ _ _ _ hn]; rfl, by rw [cell_of_row _ _ _ _ _ _ hn]; rfl, h1.below (bel1 _ _)⟩
  · obtain rfl : (⟨n, b2, c2, l2⟩ : Item) = r := by simpa using hi
    exact ⟨by rw [cell_of_row _ _ _ _ _ _ hn]; rfl, by rw [cell_of_row _ _ _ _ _ _ hn]; rfl, h2.below (bel1 _ _)⟩
  · simp at hi

set_option maxHeartbeats 2000000 in
set_option maxRecDepth 100000 in
theorem form_impl (s : Int) (a : Option Addr) (len cap : Nat) (zs : List Int) (w : World) (h : IntsAt w a len zs) (hm : zs.length ≤ 1048576) :
    Calls Try.prog 25 #[rhy s a len cap] w (CPost (Ok s zs) s (formZ s zs) w) := by
  have HS := Lib.hid h
  have hl : len ≤ 1048576 := by have := h.1; omega
  clear h
  obtain ⟨W0, hW⟩ : ∃ W0, W0 = (w.alloc (.cells #[.int .i64 s, .slice a len cap] 25)).alloc (.cells #[.int .i64 0, .slice none 0 0] 25) := ⟨_, rfl⟩
  have HW := Lib.hid hW
  have HB := Lib.hid (show Below w.heap.size w W0 by rw [hW]; exact bel2 w _ _)
  have HT := Lib.hid (show Two W0 w.heap.size (.int .i64 s) (.slice a len cap) by rw [hW]; exact (two_new w _ _ _).keep (bel1 _ _))
  have HU := Lib.hid (show Box W0 (w.heap.size + 1) (.int .i64 0) (.slice none 0 0) 25 by
    rw [hW]
    have := box_new (w.alloc (.cells #[.int .i64 s, .slice a len cap] 25)) (.int .i64 0) (.slice none 0 0) 25
    simpa using this)
  have hz0 := HU.out.lt
  clear hW
  by_cases ho : Ok s zs
  · obtain ⟨n, rfl⟩ : ∃ n : Nat, s = n := ⟨s.toNat, by have := ho.1.1; omega⟩
    have HO := Lib.hid ho
    have HC := Lib.hid ho
    have hn24 : n ≤ 24 := by have := ho.1.2; omega
    clear ho
    go_enter Try.func25, Try.ntmps25
    go_wp2_with fail
    rw [← HW.out]
    refine (valid_yes n a len cap zs _ (HS.out.below HB.out) hl HO.out).mono ?_
    rintro e w1 ⟨rfl, hb1⟩
    have B1 := Lib.hid (HB.out.trans (hb1.mono HB.out.size))
    have T1 := Lib.hid (HT.out.keep hb1)
    have U1 := Lib.hid (HU.out.keep hb1 hz0)
    have hz1 : W0.heap.size ≤ w1.heap.size := hb1.size
    obtain ⟨t1, t1a, t1b⟩ := T1.out
    clear hb1
    have HI := Lib.hid (HS.out.below B1.out)
    have HK : Hid (∀ W', Below w1.heap.size w1 W' → W'.cell? ⟨w.heap.size, 0, none⟩ = some (.int .i64 n) ∧ W'.cell? ⟨w.heap.size, 1, none⟩ = some (.slice a len cap)) :=
      Lib.hid (fun W' hW => ⟨(T1.out.keep hW).2.1, (T1.out.keep hW).2.2⟩)
    have hml := rotZ_len (s := n) (zs := zs) (u := -1) (k := 0) HO.out.1.2
    have HOM := Lib.hid (rot_ok HO.out.1 (-1) 0 (zs := zs))
    have HOL1 := Lib.hid (least_ok HO.out)
    have HOL2 := Lib.hid (least_ok HOM.out)
    go_wp2
    refine wp_region_held_drew (S := fun W' => W'.cell? ⟨w.heap.size, 0, none⟩ = some (.int .i64 n) ∧ W'.cell? ⟨w.heap.size, 1, none⟩ = some (.slice a len cap)) (by kernel_rfl) (HK.out _ (Below.refl _ _).drew) (fun hS0 => ?_)
    refine wpAnyH_take (i := 0) (oi := ⟨some 8, _, _, _, _, _⟩) (v := rhy n a len cap) rfl (by kernel_rfl) (by kernel_rfl) (by kernel_rfl) (fun _ _ _ h => h) (Or.inl ⟨by rfl, fun w' hSw => by obtain ⟨q1, q2⟩ := hSw; go_simp⟩) (by assumption) ?_
    try simp only [Act.put, List.setIfInBounds_toArray, List.set_cons_zero, List.set_cons_succ]
    refine wpAnyH_take (i := 2) (oi := ⟨some 10, _, _, _, _, _⟩) (v := rhy n a len cap) rfl (by kernel_rfl) (by kernel_rfl) (by kernel_rfl) (fun _ _ _ h => h) (Or.inl ⟨by rfl, fun w' hSw => by obtain ⟨q1, q2⟩ := hSw; go_simp⟩) (by assumption) ?_
    try simp only [Act.put, List.setIfInBounds_toArray, List.set_cons_zero, List.set_cons_succ]
    refine wpAnyH_ready (rs := [1]) (by kernel_rfl) (by simp) ?_
    refine AllReadyH.cons rfl (fun K hKK => ?_) AllReadyH.nil
    go_simp
    go_at_call 73
    refine (leastRot_any n a len cap zs _ (HI.out.below (Below.refl _ _).drew) hl HO.out).mono ?_
    rintro e w2 ⟨b2, c2, rfl, hown2, hc⟩
    have hb2 := (Below.refl w1.heap.size w1).drew.trans hc
    have ho2 : w2.ownsRow w1.heap.size 3 1 (.slice b2 (leastZ n zs).length c2) (leastZ n zs).length (ints (leastZ n zs)) := hown2
    clear hc hown2
    refine hKK.out _ _ (HK.out _ hb2) (fun hS2 => ?_)
    clear hKK K
    try simp only [Act.put, List.setIfInBounds_toArray, List.set_cons_zero, List.set_cons_succ]
    refine wpAnyH_ready (rs := [3]) (by kernel_rfl) (by simp) ?_
    refine AllReadyH.cons rfl (fun K hKK => ?_) AllReadyH.nil
    go_simp
    go_at_call 59
    refine (moved_of n a len cap zs (-1) 0 _ (HI.out.below hb2) hl HO.out (by omega) (by omega) (by omega) (by omega) (gcd_mone n)).mono ?_
    rintro e w3 ⟨b3, c3, rfl, hown3, hc⟩
    have hi3 : IntsAt w3 b3 (rotZ n zs (-1) 0).length (rotZ n zs (-1) 0) := intsAt_own hown3 (rotZ_int HO.out.1.2)
    have hb3 := hb2.trans (hc.mono hb2.size)
    have ho3 := own_below ho2 hc
    clear hown3 hc ho2
    refine hKK.out _ _ (HK.out _ hb3) (fun hS3 => ?_)
    clear hKK K
    try simp only [Act.put, List.setIfInBounds_toArray, List.set_cons_zero, List.set_cons_succ]
    refine wpAnyH_ready (rs := [4]) (by kernel_rfl) (by simp) ?_
    refine AllReadyH.cons rfl (fun K hKK => ?_) AllReadyH.nil
    go_simp
    go_at_call 73
    refine (leastRot_any n b3 (rotZ n zs (-1) 0).length c3 (rotZ n zs (-1) 0) w3 hi3 (by omega) HOM.out).mono ?_
    rintro e w4 ⟨b4, c4, rfl, hown4, hc⟩
    have ho4 := own_base hown4 hb3.size
    have ho4' := own_below ho3 hc
    have hb4 := hb3.trans (hc.mono hb3.size)
    clear hown4 hc ho3
    refine hKK.out _ _ (HK.out _ hb4) (fun hS4 => ?_)
    clear hKK K
    try simp only [Act.put, List.setIfInBounds_toArray, List.set_cons_zero, List.set_cons_succ]
    refine wpAnyH_ready (rs := [5]) (by kernel_rfl) (by simp) ?_
    refine AllReadyH.cons rfl (fun K hKK => ?_) AllReadyH.nil
    go_simp
    refine hKK.out _ _ (HK.out _ (hb4.alloc hb4.size _)) (fun hS5 => ?_)
    clear hKK K
    try simp only [Act.put, List.setIfInBounds_toArray, List.set_cons_zero, List.set_cons_succ]
    have hat := two_items w4 n b2 c2 (leastZ n zs) b4 c4 (leastZ n (rotZ n zs (-1) 0)) (intsAt_own ho4' (ok_int HOL1.out)) (intsAt_own ho4 (ok_int HOL2.out))
    refine wpAnyH_ready (rs := [6]) (by kernel_rfl) (by simp) ?_
    refine AllReadyH.cons rfl (fun K hKK => ?_) AllReadyH.nil
    go_simp
    go_at_call 72
    refine (last_any n _ [⟨n, b2, c2, leastZ n zs⟩, ⟨n, b4, c4, leastZ n (rotZ n zs (-1) 0)⟩] _ hat (by simp) (by simp) ?_).mono ?_
    · intro i r hi
      rcases two_cases hi with rfl | rfl
      · exact ⟨rfl, HOL1.out⟩
      · exact ⟨rfl, HOL2.out⟩
    rintro e w5 ⟨j, r, hj, rfl, hz, hc⟩
    have hb5 : Below w1.heap.size w1 w5 := (hb4.alloc hb4.size _).trans (hc.mono (by have := hb4.size; simp; omega))
    have HR : Hid (r.s = n ∧ r.zs = formZ n zs ∧ w5.ownsRow w1.heap.size 3 1 (.slice r.a r.zs.length r.cap) r.zs.length (ints r.zs)) := Lib.hid (by
      refine ⟨?_, ?_, ?_⟩
      · rcases two_cases hj with rfl | rfl <;> rfl
      · rw [hz]; have := form_two n zs; rw [Int.toNat_natCast] at this; exact this
      · rcases two_cases hj with rfl | rfl
        · exact own_below (ho4'.alloc _) hc
        · exact own_below (ho4.alloc _) hc)
    rw [HR.out.1]
    have HB5 := Lib.hid hb5
    clear hj hz hc ho4 ho4' hat
    refine hKK.out _ _ (HK.out _ hb5) (fun hS6 => ?_)
    clear hKK K
    try simp only [Act.put, List.setIfInBounds_toArray, List.set_cons_zero, List.set_cons_succ]
    have hub := (U1.out.keep hb5 U1.out.lt)
    have HT5 := Lib.hid (T1.out.keep hb5)
    obtain ⟨q0, q1, q2, q3⟩ := hub.facts
    have l1 := hub.lt
    have l2 := U1.out.lt
    clear hb5 hb4 hb3 hb2 hS0 hS2 hS3 hS4 hS5 hub hi3
    refine wpAnyH_ready (rs := [7]) (by kernel_rfl) (by simp) ?_
    refine AllReadyH.cons rfl (fun K hKK => ?_) AllReadyH.nil
    go_simp
    refine hKK.out _ _ ?_ (fun hS7 => ?_)
    · have := two_setCell (two_setCell HT5.out (show w.heap.size ≠ w.heap.size + 1 by omega) 0 (.int .i64 n)) (show w.heap.size ≠ w.heap.size + 1 by omega) 1 (.slice r.a r.zs.length r.cap)
      exact ⟨this.2.1, this.2.2⟩
    clear hKK K
    try simp only [Act.put, List.setIfInBounds_toArray, List.set_cons_zero, List.set_cons_succ]
    refine wpAnyH_take (i := 8) (oi := ⟨some 3, _, _, _, _, _⟩) (v := .bool true) rfl (by kernel_rfl) (by kernel_rfl) (by kernel_rfl) (fun _ _ _ h => h) (Or.inl ⟨by rfl, fun w' hSw => by go_simp⟩) (by assumption) ?_
    try simp only [Act.put, List.setIfInBounds_toArray, List.set_cons_zero, List.set_cons_succ]
    refine wpAnyH_done (by kernel_rfl) ?_ _
    clear hS7 hS6
    go_wp2
    refine bodyPost_ret (v := .tuple #[rhy n r.a r.zs.length r.cap, .bool true]) (by simp [results, Try.results25, go_sem, *]) rfl ?_
    rw [HR.out.2.1]
    refine cpost_yes HC.out rfl ?_ ?_
    · rw [← HR.out.2.1]
      exact own_base (ownsRow_setCell_below (ownsRow_setCell_below HR.out.2.2 (by show w.heap.size + 1 < w1.heap.size; omega) _) (by show w.heap.size + 1 < w1.heap.size; omega) _) (by omega)
    · exact ((B1.out.trans (HB5.out.mono (by omega))).setCell (by simp) _).setCell (by simp) _
  · have HO := Lib.hid ho
    have HC := Lib.hid ho
    clear ho
    go_enter Try.func25, Try.ntmps25
    go_wp2_with fail
    rw [← HW.out]
    refine (valid_no s a len cap zs _ (HS.out.below HB.out) hl HO.out).mono ?_
    rintro e w1 ⟨rfl, hb1⟩
    have B1 := Lib.hid (HB.out.trans (hb1.mono HB.out.size))
    have T1 := Lib.hid (HT.out.keep hb1)
    have U1 := Lib.hid (HU.out.keep hb1 hz0)
    obtain ⟨t1, t1a, t1b⟩ := T1.out
    clear hb1
    obtain ⟨q0, q1, q2, q3⟩ := U1.out.facts
    have l1 := U1.out.lt
    go_wp2
    refine bodyPost_ret (v := .tuple #[rhy 0 none 0 0, .bool false]) (by simp [results, Try.results25, go_sem, *]) rfl (cpost_no HC.out ?_)
    exact (B1.out.setCell (by simp) _).setCell (by simp) _

theorem form_yes {n : Nat} {zs : List Int} (h : afterB n (leastZ n (rotZ n zs (-1) 0)) (leastZ n zs) = true) : formZ n zs = leastZ n (rotZ n zs (-1) 0) := by unfold formZ; rw [Int.toNat_natCast, if_pos h]
theorem form_no {n : Nat} {zs : List Int} (h : afterB n (leastZ n (rotZ n zs (-1) 0)) (leastZ n zs) = false) : formZ n zs = leastZ n zs := by unfold formZ; rw [Int.toNat_natCast, if_neg (by rw [h]; simp)]
set_option maxHeartbeats 2000000 in
set_option maxRecDepth 100000 in
theorem form_spec (s : Int) (a : Option Addr) (len cap : Nat) (zs : List Int) (w : World) (h : IntsAt w a len zs) (hm : zs.length ≤ 1048576) :
    Calls Try.prog 103 #[rhy s a len cap] w (CPost (Ok s zs) s (formZ s zs) w) := by
  have HS := Lib.hid h
  have hl : len ≤ 1048576 := by have := h.1; omega
  clear h
  obtain ⟨W0, hW⟩ : ∃ W0, W0 = (w.alloc (.cells #[.int .i64 s, .slice a len cap] 25)).alloc (.cells #[.int .i64 0, .slice none 0 0] 25) := ⟨_, rfl⟩
  have HW := Lib.hid hW
  have HB := Lib.hid (show Below w.heap.size w W0 by rw [hW]; exact bel2 w _ _)
  have HT := Lib.hid (show Two W0 w.heap.size (.int .i64 s) (.slice a len cap) by rw [hW]; exact (two_new w _ _ _).keep (bel1 _ _))
  have HU := Lib.hid (show Box W0 (w.heap.size + 1) (.int .i64 0) (.slice none 0 0) 25 by
    rw [hW]
    have := box_new (w.alloc (.cells #[.int .i64 s, .slice a len cap] 25)) (.int .i64 0) (.slice none 0 0) 25
    simpa using this)
  have hz0 := HU.out.lt
  clear hW
  by_cases ho : Ok s zs
  · obtain ⟨n, rfl⟩ : ∃ n : Nat, s = n := ⟨s.toNat, by have := ho.1.1; omega⟩
    have HO := Lib.hid ho
    have HC := Lib.hid ho
    have hn24 : n ≤ 24 := by have := ho.1.2; omega
    clear ho
    go_enter Try.func103, Try.ntmps103
    go_wp2_with fail
    rw [← HW.out]
    refine (ok_yes n a len cap zs _ (HS.out.below HB.out) hl HO.out).mono ?_
    rintro e w1 ⟨rfl, hb1⟩
    have B1 := Lib.hid (HB.out.trans (hb1.mono HB.out.size))
    have T1 := Lib.hid (HT.out.keep hb1)
    have U1 := Lib.hid (HU.out.keep hb1 hz0)
    have hz1 : W0.heap.size ≤ w1.heap.size := hb1.size
    obtain ⟨t1, t1a, t1b⟩ := T1.out
    clear hb1
    have hml := rotZ_len (s := n) (zs := zs) (u := -1) (k := 0) HO.out.1.2
    have HOM := Lib.hid (rot_ok HO.out.1 (-1) 0 (zs := zs))
    have HOL1 := Lib.hid (least_ok HO.out)
    have HOL2 := Lib.hid (least_ok HOM.out)
    have hll1 := ok_len HOL1.out
    have hll2 := ok_len HOL2.out
    go_wp2_with fail
    refine (least0_spec n a len cap zs w1 (HS.out.below B1.out) hl HO.out).mono ?_
    rintro e w2 ⟨b2, c2, rfl, hown2, hb2⟩
    have HO2 := Lib.hid hown2
    obtain ⟨W2, hW2⟩ : ∃ W2, W2 = w2.alloc (.cells #[.int .i64 n, .slice b2 (leastZ n zs).length c2] 25) := ⟨_, rfl⟩
    have HW2 := Lib.hid hW2
    have B2 := Lib.hid (show Below w1.heap.size w1 W2 by rw [hW2]; exact hb2.alloc hb2.size _)
    have HO2' := Lib.hid (show W2.ownsRow w1.heap.size 3 1 (.slice b2 (leastZ n zs).length c2) (leastZ n zs).length (ints (leastZ n zs)) by rw [hW2]; exact hown2.alloc _)
    have TB2 := Lib.hid (show Two W2 w2.heap.size (.int .i64 n) (.slice b2 (leastZ n zs).length c2) by rw [hW2]; exact two_new _ _ _ _)
    have hg2 : w1.heap.size ≤ w2.heap.size := hb2.size
    have T2 := Lib.hid (T1.out.keep B2.out)
    have U2 := Lib.hid (U1.out.keep B2.out U1.out.lt)
    obtain ⟨x1, x1a, x1b⟩ := T1.out.keep hb2
    clear hown2 hb2 hW2 t1 t1a t1b
    obtain ⟨g4, hg4⟩ : ∃ g4, g4 = w2.heap.size := ⟨_, rfl⟩
    rw [← hg4] at TB2 hg2
    go_wp2_with fail
    rw [← HW2.out]
    refine (map_rot n a len cap zs (-1) 0 W2 (HS.out.below (B1.out.trans (B2.out.mono B1.out.size))) hl HO.out (by omega) (by omega) (by omega) (by omega)).mono ?_
    rintro e w3 ⟨b3, c3, rfl, hown3, hb3⟩
    rw [← hg4]
    have HI3 := Lib.hid (intsAt_own hown3 (rotZ_int HO.out.1.2))
    have B3 := Lib.hid (B2.out.trans (hb3.mono B2.out.size))
    have HO3 := Lib.hid (own_below HO2'.out hb3)
    have TB3 := Lib.hid (TB2.out.keep hb3)
    clear hown3 hb3 x1 x1a x1b hg4
    go_wp2_with fail
    refine (least0_spec n b3 (rotZ n zs (-1) 0).length c3 (rotZ n zs (-1) 0) w3 HI3.out (by omega) HOM.out).mono ?_
    rintro e w4 ⟨b4, c4, rfl, hown4, hb4⟩
    obtain ⟨W4, hW4⟩ : ∃ W4, W4 = w4.alloc (.cells #[.int .i64 n, .slice b4 (leastZ n (rotZ n zs (-1) 0)).length c4] 25) := ⟨_, rfl⟩
    have HW4 := Lib.hid hW4
    have B4 := Lib.hid (show Below w3.heap.size w3 W4 by rw [hW4]; exact hb4.alloc hb4.size _)
    have HO4 := Lib.hid (show W4.ownsRow w1.heap.size 3 1 (.slice b4 (leastZ n (rotZ n zs (-1) 0)).length c4) (leastZ n (rotZ n zs (-1) 0)).length (ints (leastZ n (rotZ n zs (-1) 0))) by rw [hW4]; exact own_base (hown4.alloc _) B3.out.size)
    have T54 := Lib.hid (show Two W4 w4.heap.size (.int .i64 n) (.slice b4 (leastZ n (rotZ n zs (-1) 0)).length c4) by rw [hW4]; exact two_new _ _ _ _)
    have HO24 := Lib.hid (own_below HO3.out B4.out)
    have TB4 := Lib.hid (TB3.out.keep B4.out)
    have B14 := Lib.hid (B3.out.trans (B4.out.mono B3.out.size))
    obtain ⟨y0, y1, y2⟩ := TB3.out.keep hb4
    clear hown4 hb4 hW4
    go_wp2_with fail
    rw [← HW4.out]
    refine (after_spec n b4 (leastZ n (rotZ n zs (-1) 0)).length c4 (leastZ n (rotZ n zs (-1) 0)) n b2 (leastZ n zs).length c2 (leastZ n zs) W4 (intsAt_own HO4.out (ok_int HOL2.out)) (intsAt_own HO24.out (ok_int HOL1.out)) (by omega) (by omega) hn24).mono ?_
    rintro e w5 ⟨rfl, hb5⟩
    have T5 := Lib.hid (T54.out.keep hb5)
    have TB5 := Lib.hid (TB4.out.keep hb5)
    have U5 := Lib.hid (U1.out.keep (B14.out.trans (hb5.mono B14.out.size)) U1.out.lt)
    have B5 := Lib.hid (B14.out.trans (hb5.mono B14.out.size))
    have R1 := Lib.hid (own_below HO24.out hb5)
    have R2 := Lib.hid (own_below HO4.out hb5)
    clear hb5 y0 y1 y2
    obtain ⟨y0, y1, y2⟩ := TB5.out
    obtain ⟨z0, z1, z2⟩ := T5.out
    obtain ⟨q0, q1, q2, q3⟩ := U5.out.facts
    have l1 := U5.out.lt
    have l2 := U1.out.lt
    cases hq : afterB n (leastZ n (rotZ n zs (-1) 0)) (leastZ n zs)
    · have HE := Lib.hid (form_no hq)
      clear hq
      go_wp2
      refine bodyPost_ret (v := .tuple #[rhy n b2 (leastZ n zs).length c2, .bool true]) (by simp [results, Try.results103, go_sem, *]) rfl ?_
      rw [HE.out]
      refine cpost_yes HC.out rfl ?_ ?_
      · exact own_base (ownsRow_setCell_below (ownsRow_setCell_below R1.out (by show w.heap.size + 1 < w1.heap.size; omega) _) (by show w.heap.size + 1 < w1.heap.size; omega) _) (by omega)
      · exact ((B1.out.trans (B5.out.mono (by omega))).setCell (by simp) _).setCell (by simp) _
    · have HE := Lib.hid (form_yes hq)
      clear hq
      go_wp2
      refine bodyPost_ret (v := .tuple #[rhy n b4 (leastZ n (rotZ n zs (-1) 0)).length c4, .bool true]) (by simp [results, Try.results103, go_sem, *]) rfl ?_
      rw [HE.out]
      refine cpost_yes HC.out rfl ?_ ?_
      · exact own_base (ownsRow_setCell_below (ownsRow_setCell_below R2.out (by show w.heap.size + 1 < w1.heap.size; omega) _) (by show w.heap.size + 1 < w1.heap.size; omega) _) (by omega)
      · exact ((B1.out.trans (B5.out.mono (by omega))).setCell (by simp) _).setCell (by simp) _
  · have HO := Lib.hid ho
    have HC := Lib.hid ho
    clear ho
    go_enter Try.func103, Try.ntmps103
    go_wp2_with fail
    rw [← HW.out]
    refine (ok_no s a len cap zs _ (HS.out.below HB.out) hl HO.out).mono ?_
    rintro e w1 ⟨rfl, hb1⟩
    have B1 := Lib.hid (HB.out.trans (hb1.mono HB.out.size))
    have T1 := Lib.hid (HT.out.keep hb1)
    have U1 := Lib.hid (HU.out.keep hb1 hz0)
    obtain ⟨t1, t1a, t1b⟩ := T1.out
    clear hb1
    obtain ⟨q0, q1, q2, q3⟩ := U1.out.facts
    have l1 := U1.out.lt
    go_wp2
    refine bodyPost_ret (v := .tuple #[rhy 0 none 0 0, .bool false]) (by simp [results, Try.results103, go_sem, *]) rfl (cpost_no HC.out ?_)
    exact (B1.out.setCell (by simp) _).setCell (by simp) _

end Go.Proofs.Ytjgjcppkbfojpaa.Rhy
