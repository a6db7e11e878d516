/-
  Helpers of the claims beside this text: even rhythms: EvenRhythm, ShiftedEven, CountEven of the model.
-/
import Derived.Test.YthjkblekccpafaaRot
import Derived.Test.YthjkblekccpafaaVec
namespace Go.Proofs.Ythjkblekccpafaa.Rhy
open Go.RowKit
set_option linter.unusedVariables false
set_option linter.unusedSimpArgs false

def EvC (k n : Int) : Prop := 1 ≤ n ∧ n ≤ 24 ∧ 0 ≤ k ∧ k ≤ n
def EvM (k n m : Int) : Prop := EvC k n ∧ 0 ≤ m ∧ m < n ∧ ¬ (k = 0 ∧ 0 < m)
/-- The i-th beat. -/
def evT (k n m : Int) (i : Nat) : Int := ((i : Int) * n + m) / k
def evP (k n m : Int) (j : Nat) : List Int := (List.range j).map fun i => evT k n m i
def evZ (k n m : Int) : List Int := ofZ n.toNat (evP k n m k.toNat)
theorem evP_len (k n m : Int) (j : Nat) : (evP k n m j).length = j := by simp [evP]
theorem evP_snoc (k n m : Int) (j : Nat) : evP k n m (j + 1) = evP k n m j ++ [evT k n m j] := by simp [evP, List.range_succ]
theorem evT_bd {k n m : Int} {i : Nat} (h : EvC k n) (hm : 0 ≤ m ∧ m ≤ 24) (hi : (i : Int) < k) : 0 ≤ evT k n m i ∧ evT k n m i ≤ 600 ∧ 0 ≤ (i : Int) * n ∧ (i : Int) * n ≤ 576 := by
  have h1 : 0 ≤ (i : Int) * n := Int.mul_nonneg (by omega) (by have := h.1; omega)
  have h2 : (i : Int) * n ≤ 24 * 24 := Int.mul_le_mul (by have := h.2.2.2; have := h.2.1; omega) h.2.1 (by have := h.1; omega) (by omega)
  unfold evT
  have h3 : 0 ≤ ((i : Int) * n + m) / k := Int.ediv_nonneg (by omega) (by omega)
  have h4 : ((i : Int) * n + m) / k ≤ (i : Int) * n + m := Int.ediv_le_self _ (by omega)
  omega
theorem evP_int {k n m : Int} {j : Nat} (h : EvC k n) (hm : 0 ≤ m ∧ m ≤ 24) (hj : (j : Int) ≤ k) : AllInt (evP k n m j) := by
  intro z hz
  unfold evP at hz
  rw [List.mem_map] at hz
  obtain ⟨i, hi, rfl⟩ := hz
  have := List.mem_range.1 hi
  have := evT_bd (i := i) h hm (by omega)
  omega

theorem six_yes (k n : Int) (w : World) (h : EvC k n) :
    Calls Try.prog 32 #[.int .i64 k, .int .i64 n] w fun e w' => e = .returned (.bool true) ∧ w = w' := by
  obtain ⟨h1, h2, h3, h4⟩ := h
  go_enter Try.func32, Try.ntmps32
  go_wp2_with fail
  refine (in_yes _ _ _ _ h1 h2).mono ?_
  rintro e w' ⟨rfl, rfl⟩
  go_wp2_with fail
  refine (in_yes _ _ _ _ h3 h4).mono ?_
  rintro e w' ⟨rfl, rfl⟩
  go_wp2
  go_ret
  exact ⟨rfl, rfl⟩
theorem six_no (k n : Int) (w : World) (h : ¬ EvC k n) :
    Calls Try.prog 32 #[.int .i64 k, .int .i64 n] w fun e w' => e = .returned (.bool false) ∧ w = w' := by
  by_cases hn : 1 ≤ n ∧ n ≤ 24
  · have HK := Lib.hid (show ¬ (0 ≤ k ∧ k ≤ n) from fun q => h ⟨hn.1, hn.2, q.1, q.2⟩)
    clear h
    go_enter Try.func32, Try.ntmps32
    go_wp2_with fail
    refine (in_yes _ _ _ _ hn.1 hn.2).mono ?_
    rintro e w' ⟨rfl, rfl⟩
    go_wp2_with fail
    refine (in_no _ _ _ _ HK.out).mono ?_
    rintro e w' ⟨rfl, rfl⟩
    go_wp2
    go_ret
    exact ⟨rfl, rfl⟩
  · have HN := Lib.hid hn
    clear h hn
    go_enter Try.func32, Try.ntmps32
    go_wp2_with fail
    refine (in_no _ _ _ _ HN.out).mono ?_
    rintro e w' ⟨rfl, rfl⟩
    go_wp2
    go_ret
    exact ⟨rfl, rfl⟩

def EvAt (g j : Nat) (k n m : Int) (v : Value) (w wr : World) : Prop :=
  ∃ av cv, v = .slice av (evP k n m j).length cv ∧ Box wr g (.int .i64 0) (.slice none 0 0) 24 ∧
    wr.ownsRow (g + 1) 3 1 (.slice av (evP k n m j).length cv) (evP k n m j).length (ints (evP k n m j)) ∧ Below g w wr ∧ g + 1 ≤ wr.heap.size

set_option maxHeartbeats 1000000 in
theorem even0_spec (k n m : Int) (w : World) (h : EvC k n) (hm0 : 0 ≤ m) (hm1 : m ≤ 24) :
    Calls Try.prog 33 #[.int .i64 k, .int .i64 n, .int .i64 m] w (RhyPost n (evZ k n m) w) := by
  have HC := Lib.hid h
  obtain ⟨hn1, hn2, hk0, hkn⟩ := h
  obtain ⟨K, rfl⟩ : ∃ K : Nat, k = K := ⟨k.toNat, by omega⟩
  obtain ⟨g, hg⟩ : ∃ g, g = w.heap.size := ⟨_, rfl⟩
  have HG := Lib.hid hg
  clear hg
  go_enter Try.func33, Try.ntmps33
  go_wp2
  rw [← HG.out]
  go_loopw [7, 8] (fun v i wr => ∃ j : Nat, j ≤ K ∧ i = .int .i64 j ∧ EvAt g j K n m v w wr) (fun _ i _ => K - (intOf i).toNat)
  case atStart =>
    refine ⟨0, by omega, rfl, some ⟨g + 1, 0, none⟩, 0, rfl, ?_, ?_, ?_, ?_⟩
    · rw [HG.out]
      exact (box_new w (.int .i64 0) (.slice none 0 0) 24).keep (B := w.heap.size + 1) ((Below.refl _ _).alloc (by simp) _) (by omega)
    · have := World.ownsRow_made (base := w.heap.size + 1) (e := 3) (size := 1) (w.alloc (.cells #[.int .i64 0, .slice none 0 0] 24)) #[] 0 (by simp) (by unfold maxLen; omega) rfl
      rw [HG.out]
      simpa [evP, ints] using this
    · rw [HG.out]; exact bel2 w _ _
    · rw [HG.out]; simp
  case round =>
    obtain ⟨j, hj, rfl, av, cv, rfl, hb0, hown, hnx, hsz⟩ := hrel
    have H0 := Lib.hid hb0
    have HO := Lib.hid hown
    have HX := Lib.hid hnx
    have HZ := Lib.hid hsz
    obtain ⟨c0, c1, f0, f1⟩ := H0.out.facts
    have lt0 := hb0.lt
    clear hb0 hown hnx hsz
    have hml : (evP K n m j).length ≤ 1048577 := by rw [evP_len]; omega
    by_cases hlt : j < K
    · obtain ⟨t1, t2, p1, p2⟩ := evT_bd (i := j) HC.out ⟨hm0, hm1⟩ (by omega)
      have HN := Lib.hid (evP_snoc K n m j)
      unfold evT at t1 t2 HN
      obtain ⟨p, hp⟩ : ∃ p : Int, (j : Int) * n = p := ⟨_, rfl⟩
      have HP := Lib.hid hp
      rw [hp] at t1 t2 p1 p2 HN
      have hw1 : wrap64 ((j : Int) * n) = p := by rw [hp]; unfold wrap64; omega
      have hw2 : wrap64 (p + m) = p + m := by unfold wrap64; omega
      have hq : Int.tdiv (p + m) K = (p + m) / K := Int.tdiv_eq_ediv_of_nonneg (by omega)
      have hk1 : ¬ (K : Int) = 0 := by omega
      clear hp
      go_wp2_with (at_builtin; refine append_int rfl _ _ rfl (g + 1) _ (evP K n m j) _ _ HO.out hml HZ.out _ rfl rfl rfl ?_; intro a' c' w' hown' hb'; have HO2 := Lib.hid hown'; have HX2 := Lib.hid hb'; clear hown' hb')
      go_roundw
      case rel =>
        refine ⟨j + 1, by omega, by go_num, a', c', by rw [HN.out]; simp, H0.out.keep HX2.out (by omega), by rw [HN.out]; exact HO2.out, HX.out.trans (HX2.out.mono (by omega)), Nat.le_trans HZ.out HX2.out.size⟩
      case measure => simp [intOf]; omega
    · have e : j = K := by omega
      subst e
      have HR : Hid (IntsAt wr av (evP j n m j).length (evP j n m j)) := Lib.hid (intsAt_own HO.out (evP_int HC.out ⟨hm0, hm1⟩ (Int.le_refl _)))
      have hml2 : (evP j n m j).length ≤ 1048576 := by rw [evP_len]; omega
      have hn0 : 0 ≤ n ∧ n ≤ 1000 := by omega
      go_wp2_with fail
      refine (of_int n av (evP j n m j).length cv (evP j n m j) wr HR.out hml2 hn0.1 hn0.2).mono ?_
      rintro e w2 ⟨a2, cap2, rfl, hown2, hb2⟩
      have HO2 := Lib.hid hown2
      have HB2 := Lib.hid hb2
      have HF := Lib.hid (show w2.frozen? ⟨g, 0, none⟩ = false ∧ w2.frozen? ⟨g, 1, none⟩ = false ∧ g < w2.heap.size from ⟨(H0.out.keep hb2 lt0).facts.2.2.1, (H0.out.keep hb2 lt0).facts.2.2.2, (H0.out.keep hb2 lt0).lt⟩)
      obtain ⟨q0, q1, q2⟩ := HF.out
      obtain ⟨r0, r1, _, _⟩ := (H0.out.keep hb2 lt0).facts
      clear hown2 hb2
      go_wp2
      have HE : Hid (evZ j n m = ofZ n.toNat (evP j n m j)) := Lib.hid (by unfold evZ; rw [show ((j : Int)).toNat = j by omega])
      refine bodyPost_ret (v := rhy n a2 (ofZ n.toNat (evP j n m j)).length cap2) (by simp [results, Try.results33, go_sem, *]) rfl ⟨a2, cap2, by rw [HE.out], ?_, ?_⟩
      · rw [HE.out]; exact own_base (ownsRow_setCell_below (ownsRow_setCell_below HO2.out (by show g < wr.heap.size; omega) _) (by show g < wr.heap.size; omega) _) (by have := HG.out; omega)
      · rw [← HG.out]; exact ((HX.out.trans (HB2.out.mono (by omega))).setCell (by show g ≤ g; omega) _).setCell (by show g ≤ g; omega) _
/-! EvenRhythm, ShiftedEven, CountEven -/
set_option maxHeartbeats 400000 in
theorem even_spec (k n : Int) (w : World) (h1 : -9223372036854775808 ≤ k) (h2 : k ≤ 9223372036854775807) (h3 : -9223372036854775808 ≤ n) (h4 : n ≤ 9223372036854775807) :
    Calls Try.prog 11 #[.int .i64 k, .int .i64 n] w (CPost (EvC k n) n (evZ k n 0) w) := by
  have HX := Lib.hid (box_new w (.int .i64 0) (.slice none 0 0) 24)
  by_cases ho : EvC k n
  · have HO := Lib.hid ho
    clear ho
    go_enter Try.func11, Try.ntmps11
    go_wp2_with fail
    refine (six_yes k n _ HO.out).mono ?_
    rintro e w1 ⟨rfl, rfl⟩
    go_wp2_with fail
    refine (even0_spec k n 0 _ HO.out (by omega) (by omega)).mono ?_
    rintro e w2 ⟨a2, cap2, rfl, hown, hb⟩
    have HW := Lib.hid hown
    have HB := Lib.hid ((bel1 w (.cells #[.int .i64 0, .slice none 0 0] 24)).trans (hb.mono (by simp)))
    have hx := HX.out.keep hb (by simp)
    obtain ⟨c0, c1, c2, c3⟩ := hx.facts
    have lt0 := hx.lt
    clear hown hb hx
    go_wp2
    refine bodyPost_ret (v := .tuple #[rhy n a2 (evZ k n 0).length cap2, .bool true]) (by simp [results, Try.results11, go_sem, *]) rfl ?_
    refine cpost_yes HO.out rfl ?_ ?_
    · exact own_base (ownsRow_setCell_below (ownsRow_setCell_below HW.out (by show w.heap.size < _; simp) _) (by show w.heap.size < _; simp) _) (by simp)
    · exact (HB.out.setCell (by simp) _).setCell (by simp) _
  · have HO := Lib.hid ho
    clear ho
    go_enter Try.func11, Try.ntmps11
    go_wp2_with fail
    refine (six_no k n _ HO.out).mono ?_
    rintro e w1 ⟨rfl, rfl⟩
    obtain ⟨c0, c1, c2, c3⟩ := HX.out.facts
    have lt0 := HX.out.lt
    go_wp2
    refine bodyPost_ret (v := .tuple #[rhy 0 none 0 0, .bool false]) (by simp [results, Try.results11, go_sem, *]) rfl ?_
    exact cpost_no HO.out (bel1 w _)
set_option maxHeartbeats 400000 in
theorem shift_spec (k n m : Int) (w : World) (h1 : -9223372036854775808 ≤ k) (h2 : k ≤ 9223372036854775807) (h3 : -9223372036854775808 ≤ n) (h4 : n ≤ 9223372036854775807) (h5 : -9223372036854775808 ≤ m) (h6 : m ≤ 9223372036854775807) :
    Calls Try.prog 16 #[.int .i64 k, .int .i64 n, .int .i64 m] w (CPost (EvM k n m) n (evZ k n m) w) := by
  have HX := Lib.hid (box_new w (.int .i64 0) (.slice none 0 0) 24)
  by_cases ho : EvC k n
  · by_cases hm : 0 ≤ m ∧ m ≤ n - 1
    · by_cases hk : k = 0 ∧ 0 < m
      · have HO := Lib.hid (show ¬ EvM k n m from fun q => q.2.2.2 hk)
        have HE := Lib.hid ho
        have hn := ho.1
        have hn2 := ho.2.1
        obtain ⟨hk1, hk2⟩ := hk
        have hkb : (k == 0) = true := by simp [hk1]
        clear hk1
        have hk3 : decide (0 < m) = true := by simp; omega
        have hw : wrap64 (n - 1) = n - 1 := by unfold wrap64; omega
        clear ho
        go_enter Try.func16, Try.ntmps16
        go_wp2_with fail
        refine (six_yes k n _ HE.out).mono ?_
        rintro e w1 ⟨rfl, rfl⟩
        go_wp2_with fail
        refine (in_yes _ _ _ _ hm.1 hm.2).mono ?_
        rintro e w' ⟨rfl, rfl⟩
        obtain ⟨c0, c1, c2, c3⟩ := HX.out.facts
        have lt0 := HX.out.lt
        go_wp2
        refine bodyPost_ret (v := .tuple #[rhy 0 none 0 0, .bool false]) (by simp [results, Try.results16, go_sem, *]) rfl ?_
        exact cpost_no HO.out (bel1 w _)
      · have HO := Lib.hid (show EvM k n m from ⟨ho, hm.1, by omega, hk⟩)
        have HE := Lib.hid ho
        have hn := ho.1
        have hn2 := ho.2.1
        have hw : wrap64 (n - 1) = n - 1 := by unfold wrap64; omega
        have HK := Lib.hid hk
        clear ho hk
        by_cases hk0 : k = 0
        · have hk3 : decide (0 < m) = false := by have := HK.out; simp; omega
          have hkb : (k == 0) = true := by simp [hk0]
          clear hk0
          go_enter Try.func16, Try.ntmps16
          go_wp2_with fail
          refine (six_yes k n _ HE.out).mono ?_
          rintro e w1 ⟨rfl, rfl⟩
          go_wp2_with fail
          refine (in_yes _ _ _ _ hm.1 hm.2).mono ?_
          rintro e w' ⟨rfl, rfl⟩
          go_wp2_with fail
          refine (even0_spec k n m _ HE.out (by omega) (by omega)).mono ?_
          rintro e w2 ⟨a2, cap2, rfl, hown, hb⟩
          have HW := Lib.hid hown
          have HB := Lib.hid ((bel1 w (.cells #[.int .i64 0, .slice none 0 0] 24)).trans (hb.mono (by simp)))
          have hx := HX.out.keep hb (by simp)
          obtain ⟨c0, c1, c2, c3⟩ := hx.facts
          have lt0 := hx.lt
          clear hown hb hx
          go_wp2
          refine bodyPost_ret (v := .tuple #[rhy n a2 (evZ k n m).length cap2, .bool true]) (by simp [results, Try.results16, go_sem, *]) rfl ?_
          refine cpost_yes HO.out rfl ?_ ?_
          · exact own_base (ownsRow_setCell_below (ownsRow_setCell_below HW.out (by show w.heap.size < _; simp) _) (by show w.heap.size < _; simp) _) (by simp)
          · exact (HB.out.setCell (by simp) _).setCell (by simp) _
        · have hkb : (k == 0) = false := by simp [hk0]
          clear hk0
          go_enter Try.func16, Try.ntmps16
          go_wp2_with fail
          refine (six_yes k n _ HE.out).mono ?_
          rintro e w1 ⟨rfl, rfl⟩
          go_wp2_with fail
          refine (in_yes _ _ _ _ hm.1 hm.2).mono ?_
          rintro e w' ⟨rfl, rfl⟩
          go_wp2_with fail
          refine (even0_spec k n m _ HE.out (by omega) (by omega)).mono ?_
          rintro e w2 ⟨a2, cap2, rfl, hown, hb⟩
          have HW := Lib.hid hown
          have HB := Lib.hid ((bel1 w (.cells #[.int .i64 0, .slice none 0 0] 24)).trans (hb.mono (by simp)))
          have hx := HX.out.keep hb (by simp)
          obtain ⟨c0, c1, c2, c3⟩ := hx.facts
          have lt0 := hx.lt
          clear hown hb hx
          go_wp2
          refine bodyPost_ret (v := .tuple #[rhy n a2 (evZ k n m).length cap2, .bool true]) (by simp [results, Try.results16, go_sem, *]) rfl ?_
          refine cpost_yes HO.out rfl ?_ ?_
          · exact own_base (ownsRow_setCell_below (ownsRow_setCell_below HW.out (by show w.heap.size < _; simp) _) (by show w.heap.size < _; simp) _) (by simp)
          · exact (HB.out.setCell (by simp) _).setCell (by simp) _
    · have HO := Lib.hid (show ¬ EvM k n m from fun q => hm ⟨q.2.1, by have := q.2.2.1; omega⟩)
      have HE := Lib.hid ho
      have hn := ho.1
      have hn2 := ho.2.1
      have hw : wrap64 (n - 1) = n - 1 := by unfold wrap64; omega
      have HM := Lib.hid hm
      clear ho hm
      go_enter Try.func16, Try.ntmps16
      go_wp2_with fail
      refine (six_yes k n _ HE.out).mono ?_
      rintro e w1 ⟨rfl, rfl⟩
      go_wp2_with fail
      refine (in_no _ _ _ _ HM.out).mono ?_
      rintro e w' ⟨rfl, rfl⟩
      obtain ⟨c0, c1, c2, c3⟩ := HX.out.facts
      have lt0 := HX.out.lt
      go_wp2
      refine bodyPost_ret (v := .tuple #[rhy 0 none 0 0, .bool false]) (by simp [results, Try.results16, go_sem, *]) rfl ?_
      exact cpost_no HO.out (bel1 w _)
  · have HO := Lib.hid (show ¬ EvM k n m from fun q => ho q.1)
    have HE := Lib.hid ho
    clear ho
    go_enter Try.func16, Try.ntmps16
    go_wp2_with fail
    refine (six_no k n _ HE.out).mono ?_
    rintro e w1 ⟨rfl, rfl⟩
    obtain ⟨c0, c1, c2, c3⟩ := HX.out.facts
    have lt0 := HX.out.lt
    go_wp2
    refine bodyPost_ret (v := .tuple #[rhy 0 none 0 0, .bool false]) (by simp [results, Try.results16, go_sem, *]) rfl ?_
    exact cpost_no HO.out (bel1 w _)

theorem evZ_ok {k n m : Int} (h : EvC k n) : Ok n (evZ k n m) := by
  refine ok_of h.1 h.2.1 (ofZ_sorted _ _) fun z hz => ?_
  have := (ofZ_mem.1 hz).1
  have := h.1
  omega
theorem ok_int' {n : Int} {zs : List Int} (h : Ok n zs) : AllInt zs := fun z hz => by have := ok_range h z hz; have := h.1; omega
theorem ok_size {s : Int} {zs : List Int} (h : Ok s zs) : (zs.length : Int) ≤ s := by
  have h1 := h.1
  have e := ofZ_self (n := s.toNat) (ok_sorted h) (fun x hx => by have := ok_range h x hx; omega)
  have := ofZ_len s.toNat zs
  rw [e] at this
  omega

open Classical in
noncomputable def cevB (k n : Int) : Int := if EvC k n then ((n.toNat / Nat.gcd k.toNat n.toNat : Nat) : Int) else -1
theorem cev_spec (k n : Int) (w : World) (h1 : -9223372036854775808 ≤ k) (h2 : k ≤ 9223372036854775807) (h3 : -9223372036854775808 ≤ n) (h4 : n ≤ 9223372036854775807) :
    Calls Try.prog 28 #[.int .i64 k, .int .i64 n] w fun e w' => e = .returned (.int .i64 (cevB k n)) ∧ Below w.heap.size w w' := by
  by_cases ho : EvC k n
  · have HO := Lib.hid ho
    have HE : Hid (cevB k n = ((n.toNat / Nat.gcd k.toNat n.toNat : Nat) : Int)) := Lib.hid (by unfold cevB; rw [if_pos ho])
    obtain ⟨hn1, hn2, hk1, hk2⟩ := ho
    obtain ⟨K, rfl⟩ : ∃ K : Nat, k = K := ⟨k.toNat, by omega⟩
    obtain ⟨N, rfl⟩ : ∃ N : Nat, n = N := ⟨n.toNat, by omega⟩
    rw [HE.out]
    obtain ⟨G, hG⟩ : ∃ G, Nat.gcd K N = G := ⟨_, rfl⟩
    have hG1 : 1 ≤ G := by rw [← hG]; exact Nat.gcd_pos_of_pos_right _ (by omega)
    have HG := Lib.hid hG
    clear hG HE
    have hz : ¬ (G : Int) = 0 := by omega
    have hq : Int.tdiv (N : Int) (G : Int) = ((N / G : Nat) : Int) := by rw [Int.tdiv_eq_ediv_of_nonneg (by omega)]; simp
    go_enter Try.func28, Try.ntmps28
    go_wp2_with fail
    refine (six_yes _ _ _ HO.out).mono ?_
    rintro e w1 ⟨rfl, rfl⟩
    go_wp2_with fail
    refine (gcd_spec K N _ (by omega) (by omega)).mono ?_
    rintro e w' ⟨rfl, rfl⟩
    rw [HG.out]
    go_wp2
    go_ret
    have e1 : 0 ≤ (N : Int) / (G : Int) := Int.ediv_nonneg (by omega) (by omega)
    have e2 : (N : Int) / (G : Int) ≤ N := Int.ediv_le_self _ (by omega)
    have e3 : wrap64 ((N : Int) / (G : Int)) = (N : Int) / (G : Int) := by unfold wrap64; omega
    exact ⟨by simp [HG.out, e3], Below.refl _ _⟩
  · have HO := Lib.hid ho
    have HE : Hid (cevB k n = -1) := Lib.hid (by unfold cevB; rw [if_neg ho])
    clear ho
    rw [HE.out]
    go_enter Try.func28, Try.ntmps28
    go_wp2_with fail
    refine (six_no k n _ HO.out).mono ?_
    rintro e w1 ⟨rfl, rfl⟩
    go_wp2
    go_ret
    exact ⟨rfl, Below.refl _ _⟩
end Go.Proofs.Ythjkblekccpafaa.Rhy
