/-
  Helpers of the claims beside this text: the program's even rhythms: haveRoom, evenRhythm, ShiftedEven, EvenRhythm, CountEven.
-/
import Derived.Test.YthcmpkhfimapgaaEvn
import Derived.Test.YthcmpkhfimapgaaIvs
import Derived.Deep.RegionLaw
namespace Go.Proofs.Ythcmpkhfimapgaa.Rhy
open Go.RowKit
set_option linter.unusedVariables false
set_option linter.unusedSimpArgs false

theorem room_yes (k n : Int) (w : World) (h : EvC k n) :
    Calls Try.prog 51 #[.int .i64 k, .int .i64 n] w fun e w' => e = .returned (.bool true) ∧ w = w' := by
  obtain ⟨h1, h2, h3, h4⟩ := h
  have e1 : decide (1 ≤ n) = true := by simp; omega
  have e2 : decide (n ≤ 24) = true := by simp; omega
  have e3 : decide (0 ≤ k) = true := by simp; omega
  have e4 : decide (k ≤ n) = true := by simp; omega
  go_enter Try.func51, Try.ntmps51
  go_wp2
  go_ret
  exact ⟨rfl, rfl⟩
theorem room_no (k n : Int) (w : World) (h : ¬ EvC k n) :
    Calls Try.prog 51 #[.int .i64 k, .int .i64 n] w fun e w' => e = .returned (.bool false) ∧ w = w' := by
  have HN := Lib.hid h
  clear h
  by_cases h1 : 1 ≤ n
  · have e1 : decide (1 ≤ n) = true := by simp; omega
    by_cases h2 : n ≤ 24
    · have e2 : decide (n ≤ 24) = true := by simp; omega
      by_cases h3 : 0 ≤ k
      · have e3 : decide (0 ≤ k) = true := by simp; omega
        have e4 : decide (k ≤ n) = false := by
          simp
          have := HN.out
          unfold EvC at this
          omega
        go_enter Try.func51, Try.ntmps51
        go_wp2
        go_ret
        exact ⟨rfl, rfl⟩
      · have e3 : decide (0 ≤ k) = false := by simp; omega
        go_enter Try.func51, Try.ntmps51
        go_wp2
        go_ret
        exact ⟨rfl, rfl⟩
    · have e2 : decide (n ≤ 24) = false := by simp; omega
      go_enter Try.func51, Try.ntmps51
      go_wp2
      go_ret
      exact ⟨rfl, rfl⟩
  · have e1 : decide (1 ≤ n) = false := by simp; omega
    go_enter Try.func51, Try.ntmps51
    go_wp2
    go_ret
    exact ⟨rfl, rfl⟩

set_option maxHeartbeats 1000000 in
theorem evenR_any (k n m : Int) (w : World) (h : EvC k n) (hm : 0 ≤ m ∧ m < n) :
    Calls Try.prog 86 #[.int .i64 k, .int .i64 n, .int .i64 m] w (RhyPost n (evZ k n m) w) := by
  have HC := Lib.hid h
  have HE := Lib.hid (evZ_evP h hm)
  have hm24 : m ≤ 24 := by have := h.2.1; omega
  have hm0 := hm.1
  have hn24 := h.2.1
  obtain ⟨K, rfl⟩ : ∃ K : Nat, k = K := ⟨k.toNat, by have := h.2.2.1; omega⟩
  have hK24 : K ≤ 24 := by have := h.2.2.2; omega
  clear h hm
  obtain ⟨w1, hW⟩ : ∃ w1, w1 = w.alloc (.cells #[.int .i64 0, .slice none 0 0] 26) := ⟨_, rfl⟩
  have HW := Lib.hid hW
  have B1 := Lib.hid (show Below w.heap.size w w1 by rw [hW]; exact bel1 w _)
  have U1 := Lib.hid (show Box w1 w.heap.size (.int .i64 0) (.slice none 0 0) 26 by rw [hW]; exact box_new w _ _ _)
  have HSZ := Lib.hid (show w1.heap.size = w.heap.size + 1 by rw [hW]; simp)
  clear hW
  go_enter Try.func86, Try.ntmps86
  go_wp2
  rw [← HW.out, ← HSZ.out]
  go_loopw [12] (fun i wr => ∃ j : Nat, j ≤ K ∧ i = .int .i64 j ∧ LstAt n (evP K n m j) w1 wr) (fun i _ => K - (intOf i).toNat)
  case atStart => exact ⟨0, by omega, rfl, lst_start n w1⟩
  case round =>
    obtain ⟨j, hj, rfl, hat⟩ := hrel
    obtain ⟨av, cv, hb0, hown, hnx, hsz⟩ := hat
    have hsl : (evP K n m j).length ≤ 1048577 := by rw [evP_len]; omega
    have HN := Lib.hid (evP_snoc K n m j)
    obtain ⟨L, hL⟩ : ∃ L, evP K n m j = L := ⟨_, rfl⟩
    rw [hL] at hb0 hown hsl HN
    have HL := Lib.hid hL
    have H0 := Lib.hid hb0
    have HO := Lib.hid hown
    have HX := Lib.hid hnx
    have HZ := Lib.hid hsz
    have lt0 := hb0.lt
    clear hb0 hown hnx hsz hL
    obtain ⟨c0, c1, f0, f1⟩ := H0.out.facts
    by_cases hlt : j < K
    · obtain ⟨t1, t2, p1, p2⟩ := evT_bd (i := j) HC.out ⟨hm0, hm24⟩ (by omega)
      unfold evT at t1 t2 HN
      obtain ⟨p, hp⟩ : ∃ p : Int, (j : Int) * n = p := ⟨_, rfl⟩
      have HP := Lib.hid hp
      rw [hp] at t1 t2 p1 p2 HN
      have hw1 : IntKind.i64.wrap ((j : Int) * n) = p := by rw [hp]; exact IntWalk.i64_in _ ⟨by omega, by omega⟩
      have hw2 : IntKind.i64.wrap (p + m) = p + m := IntWalk.i64_in _ ⟨by omega, by omega⟩
      obtain ⟨q, hq'⟩ : ∃ q : Int, (p + m) / K = q := ⟨_, rfl⟩
      have hq : Int.tdiv (p + m) K = q := by rw [Int.tdiv_eq_ediv_of_nonneg (by omega)]; exact hq'
      rw [hq'] at t1 t2 HN
      have hw3 : IntKind.i64.wrap q = q := IntWalk.i64_in _ ⟨by omega, by omega⟩
      have hk1 : ¬ K = 0 := by omega
      clear hp hq'
      go_wp2
      go_region_law ((refine step_append_int rfl _ _ rfl (w1.heap.size + 1) _ L q wr.drew (own_below HO.out (Below.refl _ _).drew) hsl HZ.out _ rfl rfl rfl ?_; intro a' c' w' hown' hb'; have HO2 := Lib.hid hown'; have HX2 := Lib.hid hb'; have hc1' := HX2.out.cell (p := ⟨w1.heap.size, 1, none⟩) (Nat.lt_succ_self _); have hf1' := HX2.out.frozen (p := ⟨w1.heap.size, 1, none⟩) (Nat.lt_succ_self _); clear hown' hb'))
      all_goals go_wp2
      all_goals go_roundw
      all_goals first
        | (refine ⟨j + 1, by omega, by go_num, ?_⟩
           rw [HN.out]
           have := lst_snoc H0.out HX.out HZ.out HO2.out ((Below.refl (w1.heap.size + 1) wr).drew.trans HX2.out)
           simpa using this)
        | (simp [intOf]; omega)
    · have e : j = K := by omega
      subst e
      have HE2 : Hid (evZ (j : Nat) n m = L) := Lib.hid (by rw [HE.out, ← HL.out]; rfl)
      have b1 := B1.out.size
      obtain ⟨y1, y2, y3, y4⟩ := (U1.out.keep HX.out U1.out.lt).facts
      have y5 := (U1.out.keep HX.out U1.out.lt).lt
      go_wp2
      refine bodyPost_ret (v := rhy n av L.length cv) (by simp [results, Try.results86, go_sem, *]) rfl ?_
      rw [HE2.out]
      refine ⟨av, cv, rfl, ?_, ?_⟩
      · exact own_base (ownsRow_setCell_below (ownsRow_setCell_below HO.out (by show w.heap.size < w1.heap.size + 1; have := U1.out.lt; omega) _) (by show w.heap.size < w1.heap.size + 1; have := U1.out.lt; omega) _) (by omega)
      · exact ((B1.out.trans (HX.out.mono (by omega))).setCell (by simp) _).setCell (by simp) _
set_option maxHeartbeats 1000000 in
theorem shift_impl (k n m : Int) (w : World) (h1 : -9223372036854775808 ≤ k) (h2 : k ≤ 9223372036854775807) (h3 : -9223372036854775808 ≤ n) (h4 : n ≤ 9223372036854775807) (h5 : -9223372036854775808 ≤ m) (h6 : m ≤ 9223372036854775807) :
    Calls Try.prog 65 #[.int .i64 k, .int .i64 n, .int .i64 m] w (CPost (EvM k n m) n (evZ k n m) w) := by
  have HX := Lib.hid (box_new w (.int .i64 0) (.slice none 0 0) 26)
  by_cases ho : EvC k n
  · have HE := Lib.hid ho
    clear ho
    by_cases hm0 : 0 ≤ m
    · have e1 : decide (m < 0) = false := by simp; omega
      by_cases hm1 : m < n
      · have e2 : decide (n ≤ m) = false := by simp; omega
        by_cases hk0 : k = 0
        · have e3 : (k == 0) = true := by simp [hk0]
          by_cases hz : m = 0
          · have e4 : (m == 0) = true := by simp [hz]
            have HO := Lib.hid (show EvM k n m from ⟨HE.out, hm0, hm1, by omega⟩)
            clear hk0 hz
            go_enter Try.func65, Try.ntmps65
            go_wp2_with fail
            refine (room_yes k n _ HE.out).mono ?_
            rintro e w1 ⟨rfl, rfl⟩
            go_wp2_with fail
            refine (evenR_any k n m _ HE.out ⟨hm0, hm1⟩).mono ?_
            rintro e w2 ⟨a2, cap2, rfl, hown, hb⟩
            have HW := Lib.hid hown
            have HB := Lib.hid ((bel1 w (.cells #[.int .i64 0, .slice none 0 0] 26)).trans (hb.mono (by simp)))
            have hx := HX.out.keep hb (by simp)
            obtain ⟨c0, c1, c2, c3⟩ := hx.facts
            have lt0 := hx.lt
            clear hown hb hx
            go_wp2
            refine bodyPost_ret (v := .tuple #[rhy n a2 (evZ k n m).length cap2, .bool true]) (by simp [results, Try.results65, go_sem, *]) rfl ?_
            refine cpost_yes HO.out rfl ?_ ?_
            · exact own_base (ownsRow_setCell_below (ownsRow_setCell_below HW.out (by show w.heap.size < _; simp) _) (by show w.heap.size < _; simp) _) (by simp)
            · exact (HB.out.setCell (by simp) _).setCell (by simp) _
          · have e4 : (m == 0) = false := by simp [hz]
            have HO := Lib.hid (show ¬ EvM k n m from fun q => q.2.2.2 ⟨hk0, by omega⟩)
            clear hk0 hz
            go_enter Try.func65, Try.ntmps65
            go_wp2_with fail
            refine (room_yes k n _ HE.out).mono ?_
            rintro e w1 ⟨rfl, rfl⟩
            obtain ⟨c0, c1, c2, c3⟩ := HX.out.facts
            have lt0 := HX.out.lt
            go_wp2
            refine bodyPost_ret (v := .tuple #[rhy 0 none 0 0, .bool false]) (by simp [results, Try.results65, go_sem, *]) rfl ?_
            exact cpost_no HO.out (bel1 w _)
        · have e3 : (k == 0) = false := by simp [hk0]
          have HO := Lib.hid (show EvM k n m from ⟨HE.out, hm0, hm1, by omega⟩)
          clear hk0
          go_enter Try.func65, Try.ntmps65
          go_wp2_with fail
          refine (room_yes k n _ HE.out).mono ?_
          rintro e w1 ⟨rfl, rfl⟩
          go_wp2_with fail
          refine (evenR_any k n m _ HE.out ⟨hm0, hm1⟩).mono ?_
          rintro e w2 ⟨a2, cap2, rfl, hown, hb⟩
          have HW := Lib.hid hown
          have HB := Lib.hid ((bel1 w (.cells #[.int .i64 0, .slice none 0 0] 26)).trans (hb.mono (by simp)))
          have hx := HX.out.keep hb (by simp)
          obtain ⟨c0, c1, c2, c3⟩ := hx.facts
          have lt0 := hx.lt
          clear hown hb hx
          go_wp2
          refine bodyPost_ret (v := .tuple #[rhy n a2 (evZ k n m).length cap2, .bool true]) (by simp [results, Try.results65, go_sem, *]) rfl ?_
          refine cpost_yes HO.out rfl ?_ ?_
          · exact own_base (ownsRow_setCell_below (ownsRow_setCell_below HW.out (by show w.heap.size < _; simp) _) (by show w.heap.size < _; simp) _) (by simp)
          · exact (HB.out.setCell (by simp) _).setCell (by simp) _
      · have e2 : decide (n ≤ m) = true := by simp; omega
        have HO := Lib.hid (show ¬ EvM k n m from fun q => hm1 q.2.2.1)
        go_enter Try.func65, Try.ntmps65
        go_wp2_with fail
        refine (room_yes k n _ HE.out).mono ?_
        rintro e w1 ⟨rfl, rfl⟩
        obtain ⟨c0, c1, c2, c3⟩ := HX.out.facts
        have lt0 := HX.out.lt
        go_wp2
        refine bodyPost_ret (v := .tuple #[rhy 0 none 0 0, .bool false]) (by simp [results, Try.results65, go_sem, *]) rfl ?_
        exact cpost_no HO.out (bel1 w _)
    · have e1 : decide (m < 0) = true := by simp; omega
      have HO := Lib.hid (show ¬ EvM k n m from fun q => hm0 q.2.1)
      go_enter Try.func65, Try.ntmps65
      go_wp2_with fail
      refine (room_yes k n _ HE.out).mono ?_
      rintro e w1 ⟨rfl, rfl⟩
      obtain ⟨c0, c1, c2, c3⟩ := HX.out.facts
      have lt0 := HX.out.lt
      go_wp2
      refine bodyPost_ret (v := .tuple #[rhy 0 none 0 0, .bool false]) (by simp [results, Try.results65, go_sem, *]) rfl ?_
      exact cpost_no HO.out (bel1 w _)
  · have HO := Lib.hid (show ¬ EvM k n m from fun q => ho q.1)
    have HE := Lib.hid ho
    clear ho
    go_enter Try.func65, Try.ntmps65
    go_wp2_with fail
    refine (room_no k n _ HE.out).mono ?_
    rintro e w1 ⟨rfl, rfl⟩
    obtain ⟨c0, c1, c2, c3⟩ := HX.out.facts
    have lt0 := HX.out.lt
    go_wp2
    refine bodyPost_ret (v := .tuple #[rhy 0 none 0 0, .bool false]) (by simp [results, Try.results65, go_sem, *]) rfl ?_
    exact cpost_no HO.out (bel1 w _)

set_option maxHeartbeats 400000 in
theorem even_impl (k n : Int) (w : World) (h1 : -9223372036854775808 ≤ k) (h2 : k ≤ 9223372036854775807) (h3 : -9223372036854775808 ≤ n) (h4 : n ≤ 9223372036854775807) :
    Calls Try.prog 29 #[.int .i64 k, .int .i64 n] w (CPost (EvC k n) n (evZ k n 0) w) := by
  have HX := Lib.hid (box_new w (.int .i64 0) (.slice none 0 0) 26)
  have HV : Hid (EvM k n 0 ↔ EvC k n) := Lib.hid ⟨fun q => q.1, fun q => ⟨q, Int.le_refl 0, by have := q.1; omega, by omega⟩⟩
  go_enter Try.func29, Try.ntmps29
  go_wp2_with fail
  refine (shift_impl k n 0 _ h1 h2 h3 h4 (by omega) (by omega)).mono ?_
  rintro e w2 h
  unfold CPost at h
  obtain ⟨a2, cap2, rfl, hown, hb⟩ := h
  have HW := Lib.hid hown
  have HB := Lib.hid ((bel1 w (.cells #[.int .i64 0, .slice none 0 0] 26)).trans (hb.mono (by simp)))
  have hx := HX.out.keep hb (by simp)
  obtain ⟨c0, c1, c2, c3⟩ := hx.facts
  have lt0 := hx.lt
  clear hown hb hx
  by_cases ho : EvC k n
  · have HO := Lib.hid ho
    have HO2 := Lib.hid (HV.out.2 ho)
    clear ho
    rw [cS_yes HO2.out, cZ_yes HO2.out, cB_yes HO2.out]
    have HW2 := HW.out
    rw [cZ_yes HO2.out] at HW2
    have HW3 := Lib.hid HW2
    clear HW2
    go_wp2
    refine bodyPost_ret (v := .tuple #[rhy n a2 (evZ k n 0).length cap2, .bool true]) (by simp [results, Try.results29, go_sem, *]) rfl ?_
    refine cpost_yes HO.out rfl ?_ ?_
    · exact own_base (ownsRow_setCell_below (ownsRow_setCell_below HW3.out (by show w.heap.size < _; simp) _) (by show w.heap.size < _; simp) _) (by simp)
    · exact (HB.out.setCell (by simp) _).setCell (by simp) _
  · have HO := Lib.hid ho
    have HO2 := Lib.hid (fun q => ho (HV.out.1 q))
    clear ho
    rw [cS_no HO2.out, cZ_no HO2.out, cB_no HO2.out]
    have HW2 := HW.out
    rw [cZ_no HO2.out] at HW2
    have HW3 := Lib.hid HW2
    clear HW2
    go_wp2
    refine bodyPost_ret (v := .tuple #[rhy 0 a2 0 cap2, .bool false]) (by simp [results, Try.results29, go_sem, *]) rfl ?_
    unfold CPost
    rw [cS_no HO.out, cZ_no HO.out, cB_no HO.out]
    refine ⟨a2, cap2, rfl, ?_, ?_⟩
    · exact own_base (ownsRow_setCell_below (ownsRow_setCell_below HW3.out (by show w.heap.size < _; simp) _) (by show w.heap.size < _; simp) _) (by simp)
    · exact (HB.out.setCell (by simp) _).setCell (by simp) _


end Go.Proofs.Ythcmpkhfimapgaa.Rhy
