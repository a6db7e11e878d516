/-
  Helpers of the claims beside this text: canons: ReadCanon of the program.
-/
import Derived.Test.YthnlakdfbalgdaaCnk
import Derived.Deep.RegionHeld3
namespace Go.Proofs.Ythnlakdfbalgdaa.Rhy
open Go.RowKit
set_option linter.unusedVariables false
set_option linter.unusedSimpArgs false

theorem RowC.wide {w : World} {lo hi hi' : Nat} {a0 : Option Addr} {c0 : Nat} {z0 : List Int} {a1 : Option Addr} {c1 : Nat} {z1 : List Int} (h : RowC w lo hi a0 c0 z0 a1 c1 z1) (hh : hi ≤ hi') : RowC w lo hi' a0 c0 z0 a1 c1 z1 := by
  obtain ⟨l0, h0, l1, h1, q1, q2, q3, q4, q5, q6, q7, r0, r1⟩ := h
  exact ⟨l0, h0, l1, h1, q1, q2, by omega, q4, q5, by omega, q7, r0, r1⟩
set_option maxHeartbeats 4000000 in
set_option maxRecDepth 100000 in
theorem ent_impl (n : Nat) (p1 : Option Addr) (c1 : Nat) (xs : List Int) (a : Option Addr) (m c : Nat) (ss : List ByteArray) (f : Nat → ByteArray) (w : World) (hx : IntsAt w p1 xs.length xs) (ha : TxtsAt w a m ss) (hm : m ≤ 1048576) (ho : Ok (n : Int) xs)
    (hf : ∀ p : Nat, f p = fmtT n (ofZ n (mapL n xs 1 p))) (hm0 : 0 < m) :
    Calls Try.prog 75 #[rhy n p1 xs.length c1, .slice a m c] w (RhyPost n (rdE f ss n) w) := by
  have HX0 := Lib.hid hx
  have HS := Lib.hid ha
  have hml : ss.length = m := ha.1
  have HO := Lib.hid ho
  have HF := Lib.hid hf
  have h24 := ho.1
  have hxl : xs.length ≤ 24 := ok_len' ho
  obtain ⟨b0, off0, t0, rfl, hb0, hst0, hct0⟩ := HS.out.at (k := 0) hm0
  have HMM : Hid (∀ W, Below w.heap.size w W → TxtsAt W (some ⟨b0, off0, none⟩) m ss) := Lib.hid (fun W hW => HS.out.below hW)
  clear hx ha ho hf hst0 hct0
  obtain ⟨W1, hW1⟩ : ∃ W1, W1 = (w.alloc (.cells #[.int .i64 n, .slice p1 xs.length c1] 25)).alloc (.cells #[.int .i64 0, .slice none 0 0] 25) := ⟨_, rfl⟩
  have HW1 := Lib.hid hW1
  have hz1 : W1.heap.size = w.heap.size + 2 := by rw [hW1]; simp
  have B1 := Lib.hid (show Below w.heap.size w W1 by rw [hW1]; exact bel2 w _ _)
  have T1 := Lib.hid (show Two W1 w.heap.size (.int .i64 n) (.slice p1 xs.length c1) by rw [hW1]; exact (two_new w _ _ _).keep (bel1 _ _))
  have U1 := Lib.hid (show Box W1 (w.heap.size + 1) (.int .i64 0) (.slice none 0 0) 25 by
    rw [hW1]
    have := box_new (w.alloc (.cells #[.int .i64 n, .slice p1 xs.length c1] 25)) (.int .i64 0) (.slice none 0 0) 25
    simpa using this)
  clear hW1
  obtain ⟨W2, hW2⟩ : ∃ W2, W2 = W1.alloc (.cells #[.int .i64 n, .slice none 0 0] 25) := ⟨_, rfl⟩
  have HW2 := Lib.hid hW2
  have R2 := Lib.hid (show RdAt (w.heap.size + 2) n [] W1 W2 by
    rw [hW2, ← hz1]
    exact ⟨none, 0, box_new W1 _ _ _, World.ownsRow_nil _ _ _ _, bel1 W1 _⟩)
  have T2 := Lib.hid (show Two W2 w.heap.size (.int .i64 n) (.slice p1 xs.length c1) by rw [hW2]; exact T1.out.keep (bel1 _ _))
  clear hW2
  obtain ⟨t0', t1, t2⟩ := T1.out
  obtain ⟨y0, y1, y2⟩ := T2.out
  go_enter Try.func75, Try.ntmps75
  go_wp2_with fail
  rw [← HW1.out]
  go_wp2
  rw [← HW2.out]
  go_wp2
  go_loopw [13] (fun iv wr => ∃ q : Nat, q ≤ n ∧ iv = .int .i64 q ∧ RdAt (w.heap.size + 2) n (rdE f ss q) W1 wr) (fun iv _ => n - (intOf iv).toNat)
  case atStart => exact ⟨0, by omega, rfl, R2.out⟩
  case round =>
    obtain ⟨q, hq, rfl, hrd⟩ := hrel
    obtain ⟨av, cv, hbx, hox, hbel⟩ := hrd
    obtain ⟨L, hL⟩ : ∃ L, rdE f ss q = L := ⟨_, rfl⟩
    rw [hL] at hbx hox
    have HLL := Lib.hid hL
    have hLl : L.length ≤ 24 := by rw [← hL]; have := rdE_len f ss q; omega
    have HBX := Lib.hid hbx
    have HOX := Lib.hid hox
    have BR := Lib.hid (show Below W1.heap.size W1 wr by rw [hz1]; exact hbel)
    have hdz : w.heap.size + 2 < wr.heap.size := hbx.lt
    have T3 := Lib.hid (T1.out.keep BR.out)
    have U3 := Lib.hid (U1.out.keep BR.out (by omega))
    have B3 := Lib.hid (B1.out.trans (BR.out.mono (by omega)))
    obtain ⟨z0, z1, z2, z3⟩ := hbx.facts
    clear hbx hox hbel hL t0' t1 t2 y0 y1 y2
    obtain ⟨y0, y1, y2⟩ := T3.out
    by_cases hlt : q < n
    · by_cases hnx : L.length < m
      · obtain ⟨b9, off9, line, hadr, hb9, hsl, hcl⟩ := (HMM.out wr B3.out).at hnx
        obtain ⟨rfl, rfl⟩ : b0 = b9 ∧ off0 = off9 := by simpa using hadr
        have HSL := Lib.hid hsl
        clear hadr hsl
        have hd : decide ((L.length : Int) < (m : Int)) = true := by simp; omega
        have HK : Hid (∀ W, Below wr.heap.size wr W → W.cell? ⟨w.heap.size, 0, none⟩ = some (.int .i64 n) ∧ W.cell? ⟨w.heap.size, 1, none⟩ = some (.slice p1 xs.length c1) ∧ W.cell? ⟨b0, off0 + L.length, none⟩ = some (.string line) ∧ Below wr.heap.size wr W) :=
          Lib.hid (fun W hW => ⟨(T3.out.keep hW).2.1, (T3.out.keep hW).2.2, by rw [hW.cell (p := ⟨b0, off0 + L.length, none⟩) hb9]; exact hcl, hW⟩)
        have HM := Lib.hid (fun W (hW : Below wr.heap.size wr W) => moved_of n p1 xs.length c1 xs 1 q W (HX0.out.below (B3.out.trans (hW.mono B3.out.size))) (by omega) HO.out (by omega) (by omega) (by omega) (by omega) (gcd_one _))
        have hok : Ok (n : Int) (ofZ (n : Int).toNat (mapL n xs 1 q)) := rot_ok h24 1 q
        have HOK := Lib.hid hok
        have HIA : Hid (AllInt (ofZ (n : Int).toNat (mapL n xs 1 q))) := Lib.hid (ofZ_int (by omega))
        have hlen5 := ofZ_len (n : Int).toNat (mapL n xs 1 q)
        have HFQ : Hid (fmtT (n : Int).toNat (ofZ (n : Int).toNat (mapL n xs 1 q)) = f q) := Lib.hid (by rw [HF.out q, Int.toNat_natCast])
        clear hok hcl
        by_cases heq : f q = line
        · have hyes : ss[(rdE f ss q).length]? = some (f q) := by rw [HLL.out, HSL.out, heq]
          have HN := Lib.hid (rdE_yes hyes)
          have hstr : ((f q).toList == line.toList) = true := by rw [heq]; simp
          obtain ⟨fl, hfl⟩ : ∃ fl, f q = fl := ⟨_, rfl⟩
          rw [hfl] at hstr HFQ
          clear hyes heq hfl
          go_wp2
          go_region_held3 (fun W => W.cell? ⟨w.heap.size, 0, none⟩ = some (.int .i64 n) ∧ W.cell? ⟨w.heap.size, 1, none⟩ = some (.slice p1 xs.length c1) ∧ W.cell? ⟨b0, off0 + L.length, none⟩ = some (.string line) ∧ Below wr.heap.size wr W)
            (first | exact HK.out _ (Below.refl _ _).drew | exact HK.out _ hb5 | exact HK.out _ hb6)
            ((first
              | (go_at_call 98; refine (HM.out _ (Below.refl _ _).drew).mono ?_; rintro e w4 ⟨p4, c4, rfl, hown4, hc4⟩; have hb5 := (Below.refl wr.heap.size wr).drew.trans hc4; have hi4 := intsAt_own hown4 HIA.out; clear hc4)
              | (go_at_call 73; refine (text_any n p4 _ c4 _ w4 hi4 (by omega) HOK.out).mono ?_; rintro e w5 ⟨rfl, hc5⟩; rw [HFQ.out]; have hb6 := hb5.trans (hc5.mono hb5.size); clear hc5)))
          rename_i hh
          have hb6 := hh.2.2.2
          clear hh
          have HB6 := Lib.hid hb6
          have HBX6 := Lib.hid (HBX.out.keep hb6 (by omega))
          have HOX6 := Lib.hid (own_below HOX.out hb6)
          have hz6 := hb6.size
          clear hb6 z0 z1 z2 z3 y0 y1 y2
          obtain ⟨z0, z1, z2, z3⟩ := HBX6.out.facts
          go_wp2_with (at_builtin; refine append_int rfl _ _ rfl (w.heap.size + 2 + 1) _ L _ _ HOX6.out (by omega) (by omega) _ rfl rfl rfl ?_; intro a' c' w' hown' hb'; have HO2 := Lib.hid hown'; have HX2 := Lib.hid hb'; have hq1 := HX2.out.frozen (p := ⟨w.heap.size + 1 + 1, 1, none⟩) (by show w.heap.size + 1 + 1 < w.heap.size + 2 + 1; omega); have hq2 := HX2.out.cell (p := ⟨w.heap.size + 1 + 1, 1, none⟩) (by show w.heap.size + 1 + 1 < w.heap.size + 2 + 1; omega); clear hown' hb')
          go_roundw
          case rel =>
            refine ⟨q + 1, by omega, by go_num, ?_⟩
            rw [HN.out, HLL.out]
            refine ⟨a', c', ?_, ?_, ?_⟩
            · have := (HBX6.out.keep HX2.out (by omega)).set1 (.slice a' (L.length + 1) c')
              simpa using this
            · exact ownsRow_setCell_below HO2.out (by show w.heap.size + 1 + 1 < w.heap.size + 2 + 1; omega) _
            · exact ((show Below (w.heap.size + 2) W1 wr by rw [← hz1]; exact BR.out).trans ((HB6.out.mono (by omega)).trans (HX2.out.mono (by omega)))).setCell (by show w.heap.size + 2 ≤ w.heap.size + 1 + 1; omega) _
          case measure => simp [intOf]; omega
        · have hno : ss[(rdE f ss q).length]? ≠ some (f q) := by
            rw [HLL.out, HSL.out]
            exact fun h => heq (Option.some.inj h).symm
          have HN := Lib.hid (rdE_no hno)
          have hstr : ((f q).toList == line.toList) = false := ba_ne heq
          obtain ⟨fl, hfl⟩ : ∃ fl, f q = fl := ⟨_, rfl⟩
          rw [hfl] at hstr HFQ
          clear hno heq hfl
          go_wp2
          go_region_held3 (fun W => W.cell? ⟨w.heap.size, 0, none⟩ = some (.int .i64 n) ∧ W.cell? ⟨w.heap.size, 1, none⟩ = some (.slice p1 xs.length c1) ∧ W.cell? ⟨b0, off0 + L.length, none⟩ = some (.string line) ∧ Below wr.heap.size wr W)
            (first | exact HK.out _ (Below.refl _ _).drew | exact HK.out _ hb5 | exact HK.out _ hb6)
            ((first
              | (go_at_call 98; refine (HM.out _ (Below.refl _ _).drew).mono ?_; rintro e w4 ⟨p4, c4, rfl, hown4, hc4⟩; have hb5 := (Below.refl wr.heap.size wr).drew.trans hc4; have hi4 := intsAt_own hown4 HIA.out; clear hc4)
              | (go_at_call 73; refine (text_any n p4 _ c4 _ w4 hi4 (by omega) HOK.out).mono ?_; rintro e w5 ⟨rfl, hc5⟩; rw [HFQ.out]; have hb6 := hb5.trans (hc5.mono hb5.size); clear hc5)))
          rename_i hh
          have hb6 := hh.2.2.2
          clear hh
          have HB6 := Lib.hid hb6
          have HBX6 := Lib.hid (HBX.out.keep hb6 (by omega))
          have HOX6 := Lib.hid (own_below HOX.out hb6)
          have hz6 := hb6.size
          clear hb6 z0 z1 z2 z3 y0 y1 y2
          go_wp2
          go_roundw
          case rel =>
            refine ⟨q + 1, by omega, by go_num, ?_⟩
            rw [HN.out, HLL.out]
            exact ⟨av, cv, HBX6.out, HOX6.out, (show Below (w.heap.size + 2) W1 wr by rw [← hz1]; exact BR.out).trans (HB6.out.mono (by omega))⟩
          case measure => simp [intOf]; omega
      · have hd : decide ((L.length : Int) < (m : Int)) = false := by simp; omega
        have hno : ss[(rdE f ss q).length]? ≠ some (f q) := by rw [HLL.out, List.getElem?_eq_none (by omega)]; simp
        have HN := Lib.hid (rdE_no hno)
        clear hno
        go_wp2
        refine wp_region_held_drew (S := fun W => Below wr.heap.size wr W) (by kernel_rfl) ((Below.refl _ _).drew) (fun hS0 => ?_)
        refine wpAnyH_take (i := 0) (oi := ⟨some 19, _, _, _, _, _⟩) (v := .int .i64 L.length) rfl (by kernel_rfl) (by kernel_rfl) (by kernel_rfl) (fun _ _ _ h => h) (Or.inl ⟨by rfl, fun w hSw => by go_simp⟩) (by assumption) ?_
        try simp only [Act.put, List.setIfInBounds_toArray, List.set_cons_zero, List.set_cons_succ]
        refine wpAnyH_take (i := 1) (oi := ⟨some 20, _, _, _, _, _⟩) (v := .slice (some ⟨b0, off0, none⟩) m c) rfl (by kernel_rfl) (by kernel_rfl) (by kernel_rfl) (fun _ _ _ h => h) (Or.inl ⟨by rfl, fun w hSw => by go_simp⟩) (by assumption) ?_
        try simp only [Act.put, List.setIfInBounds_toArray, List.set_cons_zero, List.set_cons_succ]
        refine wpAnyH_take (i := 2) (oi := ⟨some 21, _, _, _, _, _⟩) (v := .int .i64 m) rfl (by kernel_rfl) (by kernel_rfl) (by kernel_rfl) (fun _ _ _ h => h) (Or.inl ⟨by rfl, fun w hSw => by go_simp⟩) (by assumption) ?_
        try simp only [Act.put, List.setIfInBounds_toArray, List.set_cons_zero, List.set_cons_succ]
        refine wpAnyH_take (i := 3) (oi := ⟨some 22, _, _, _, _, _⟩) (v := .bool false) rfl (by kernel_rfl) (by kernel_rfl) (by kernel_rfl) (fun _ _ _ h => h) (Or.inl ⟨by rfl, fun w hSw => by go_simp⟩) (by assumption) ?_
        try simp only [Act.put, List.setIfInBounds_toArray, List.set_cons_zero, List.set_cons_succ]
        refine wpAnyH_take (i := 4) (oi := ⟨some 23, _, _, _, _, _⟩) (v := .bool false) rfl (by kernel_rfl) (by kernel_rfl) (by kernel_rfl) (fun _ _ _ h => h) (Or.inl ⟨by rfl, fun w hSw => by go_simp⟩) (by assumption) ?_
        try simp only [Act.put, List.setIfInBounds_toArray, List.set_cons_zero, List.set_cons_succ]
        refine wpAnyH_take (i := 5) (oi := ⟨some 24, _, _, _, _, _⟩) (v := undef) rfl (by kernel_rfl) (by kernel_rfl) (by kernel_rfl) (fun _ _ _ h => h) (Or.inr ⟨by rfl, rfl⟩) (by assumption) ?_
        try simp only [Act.put, List.setIfInBounds_toArray, List.set_cons_zero, List.set_cons_succ]
        refine wpAnyH_take (i := 6) (oi := ⟨some 25, _, _, _, _, _⟩) (v := undef) rfl (by kernel_rfl) (by kernel_rfl) (by kernel_rfl) (fun _ _ _ h => h) (Or.inr ⟨by rfl, rfl⟩) (by assumption) ?_
        try simp only [Act.put, List.setIfInBounds_toArray, List.set_cons_zero, List.set_cons_succ]
        refine wpAnyH_take (i := 7) (oi := ⟨some 26, _, _, _, _, _⟩) (v := undef) rfl (by kernel_rfl) (by kernel_rfl) (by kernel_rfl) (fun _ _ _ h => h) (Or.inr ⟨by rfl, rfl⟩) (by assumption) ?_
        try simp only [Act.put, List.setIfInBounds_toArray, List.set_cons_zero, List.set_cons_succ]
        refine wpAnyH_take (i := 8) (oi := ⟨some 27, _, _, _, _, _⟩) (v := undef) rfl (by kernel_rfl) (by kernel_rfl) (by kernel_rfl) (fun _ _ _ h => h) (Or.inr ⟨by rfl, rfl⟩) (by assumption) ?_
        try simp only [Act.put, List.setIfInBounds_toArray, List.set_cons_zero, List.set_cons_succ]
        refine wpAnyH_take (i := 9) (oi := ⟨some 28, _, _, _, _, _⟩) (v := undef) rfl (by kernel_rfl) (by kernel_rfl) (by kernel_rfl) (fun _ _ _ h => h) (Or.inr ⟨by rfl, rfl⟩) (by assumption) ?_
        try simp only [Act.put, List.setIfInBounds_toArray, List.set_cons_zero, List.set_cons_succ]
        refine wpAnyH_take (i := 10) (oi := ⟨some 29, _, _, _, _, _⟩) (v := undef) rfl (by kernel_rfl) (by kernel_rfl) (by kernel_rfl) (fun _ _ _ h => h) (Or.inr ⟨by rfl, rfl⟩) (by assumption) ?_
        try simp only [Act.put, List.setIfInBounds_toArray, List.set_cons_zero, List.set_cons_succ]
        refine wpAnyH_take (i := 11) (oi := ⟨some 30, _, _, _, _, _⟩) (v := undef) rfl (by kernel_rfl) (by kernel_rfl) (by kernel_rfl) (fun _ _ _ h => h) (Or.inr ⟨by rfl, rfl⟩) (by assumption) ?_
        try simp only [Act.put, List.setIfInBounds_toArray, List.set_cons_zero, List.set_cons_succ]
        refine wpAnyH_take (i := 12) (oi := ⟨some 31, _, _, _, _, _⟩) (v := undef) rfl (by kernel_rfl) (by kernel_rfl) (by kernel_rfl) (fun _ _ _ h => h) (Or.inr ⟨by rfl, rfl⟩) (by assumption) ?_
        try simp only [Act.put, List.setIfInBounds_toArray, List.set_cons_zero, List.set_cons_succ]
        refine wpAnyH_take (i := 13) (oi := ⟨some 32, _, _, _, _, _⟩) (v := undef) rfl (by kernel_rfl) (by kernel_rfl) (by kernel_rfl) (fun _ _ _ h => h) (Or.inr ⟨by rfl, rfl⟩) (by assumption) ?_
        try simp only [Act.put, List.setIfInBounds_toArray, List.set_cons_zero, List.set_cons_succ]
        refine wpAnyH_take (i := 14) (oi := ⟨some 33, _, _, _, _, _⟩) (v := .bool false) rfl (by kernel_rfl) (by kernel_rfl) (by kernel_rfl) (fun _ _ _ h => h) (Or.inl ⟨by rfl, fun w hSw => by go_simp⟩) (by assumption) ?_
        try simp only [Act.put, List.setIfInBounds_toArray, List.set_cons_zero, List.set_cons_succ]
        refine wpAnyH_done (by kernel_rfl) ?_ _
        clear hS0
        go_wp2
        go_roundw
        case rel =>
          refine ⟨q + 1, by omega, by go_num, ?_⟩
          rw [HN.out, HLL.out]
          exact ⟨av, cv, HBX.out.keep (Below.refl wr.heap.size wr).drew (by omega), own_below HOX.out (Below.refl _ _).drew, (show Below (w.heap.size + 2) W1 wr by rw [← hz1]; exact BR.out).trans ((Below.refl wr.heap.size wr).drew.mono (by omega))⟩
        case measure => simp [intOf]; omega
    · have e : q = n := by omega
      have HE : Hid (rdE f ss n = L) := Lib.hid (by rw [← e]; exact HLL.out)
      obtain ⟨u0, u1, u2, u3⟩ := U3.out.facts
      have u4 := U3.out.lt
      obtain ⟨e0, e1, e2, e3⟩ := ((U3.out.set0 (.int .i64 n)).set1 (.slice av L.length cv)).facts
      clear e
      go_wp2
      clear u0 u1 u2 u3
      refine bodyPost_ret (v := rhy n av L.length cv) (by simp [results, Try.results75, go_sem, *]) rfl ?_
      rw [HE.out]
      refine ⟨av, cv, rfl, own_set2 HOX.out (by omega) (by omega), below_set2 B3.out (by omega)⟩

set_option maxHeartbeats 4000000 in
set_option maxRecDepth 100000 in
theorem rd_impl (a : Option Addr) (m c : Nat) (ss : List ByteArray) (w : World) (ha : TxtsAt w a m ss) (hm : m ≤ 1048576) (hs0 : (rd0 ss).size ≤ 1048576) :
    Calls Try.prog 28 #[.slice a m c] w (CanC (RdC ss) (rd0 ss).size (rdX ss) (rd0 ss).size (rdZ ss) w) := by
  have HS := Lib.hid ha
  have hml : ss.length = m := ha.1
  clear ha
  obtain ⟨W0, hW⟩ : ∃ W0, W0 = w.alloc (canCells 0 none 0 0 0 none 0 0 29) := ⟨_, rfl⟩
  have HW := Lib.hid hW
  have HB := Lib.hid (show Below w.heap.size w W0 by rw [hW]; exact bel1 w _)
  have HU := Lib.hid (show Bux W0 w.heap.size (.int .i64 0) (.slice none 0 0) (.int .i64 0) (.slice none 0 0) 29 by rw [hW]; exact bux_new w _ _ _ _ _)
  have hz0 : W0.heap.size = w.heap.size + 1 := by rw [hW]; simp
  clear hW
  obtain ⟨u0, u1, u2, u3, u5, u6, u7, u8⟩ := HU.out.facts
  have u4 := HU.out.lt
  by_cases h0 : m = 0
  · have HN : Hid (¬ RdC ss) := Lib.hid (fun h => by
      have e : ss = [] := List.eq_nil_of_length_eq_zero (by omega)
      subst e
      have := h.1.1.1
      simp [rd0] at this)
    subst h0
    go_enter Try.func28, Try.ntmps28
    go_wp2_with fail
    rw [← HW.out]
    go_wp2
    refine bodyPost_ret (v := .tuple #[can 0 none 0 0 0 none 0 0, .bool false]) (by simp [results, Try.results28, go_sem, *]) rfl (canc_no HN.out ?_)
    exact HB.out
  · obtain ⟨b0, off0, t0, rfl, hb0, hst0, hct0⟩ := HS.out.at (k := 0) (by omega)
    have e0 : rd0 ss = t0 := by unfold rd0; rw [hst0]; rfl
    simp only [Nat.add_zero] at hct0
    have hq0 : ((m : Int) == 0) = false := by simp; omega
    have HP := Lib.hid (fun W => prs_impl t0 W (by rw [← e0]; exact hs0))
    have HMM : Hid (∀ W, Below w.heap.size w W → TxtsAt W (some ⟨b0, off0, none⟩) m ss) := Lib.hid (fun W hW => HS.out.below hW)
    unfold CPost at HP
    by_cases hpc : PC t0
    · rw [cS_yes hpc, cZ_yes hpc, cB_yes hpc] at HP
      obtain ⟨n, hn⟩ : ∃ n, t0.size = n := ⟨_, rfl⟩
      obtain ⟨xs, hxs⟩ : ∃ xs, xZ t0 t0.size = xs := ⟨_, rfl⟩
      have h24 : 1 ≤ n ∧ n ≤ 24 := by rw [← hn]; exact hpc.1
      have HO : Hid (Ok (n : Int) xs) := Lib.hid (by rw [← hxs, ← hn]; exact xZ_ok hpc.1.1 hpc.1.2)
      have hxi : AllInt xs := by rw [← hxs]; exact xZ_int (by have := hpc.1; omega)
      have hxl : xs.length ≤ 24 := by rw [← hxs]; have := xZ_len t0 t0.size; omega
      rw [hxs, hn] at HP
      have HF0 := Lib.hid (rdF_zero hpc)
      have HFD : Hid (∀ p : Nat, rdF t0 p = fmtT n (ofZ n (mapL n xs 1 p))) := Lib.hid (fun p => by unfold rdF; rw [hxs, hn])
      by_cases hx0 : 0 < xs.length
      · have HRC : Hid (RdC ss ↔ ss.length ≤ (rdE (rdF t0) ss n).length) := Lib.hid (by
          unfold RdC rdX rdZ
          rw [e0, hxs, hn]
          exact ⟨fun h => h.2.2, fun h => ⟨hpc, hx0, h⟩⟩)
        have HRX : Hid (rdX ss = xs) := Lib.hid (by unfold rdX; rw [e0, hxs])
        have HRZ : Hid (rdZ ss = rdE (rdF t0) ss n) := Lib.hid (by unfold rdZ; rw [e0, hn])
        have HRN : Hid ((rd0 ss).size = n) := Lib.hid (by rw [e0, hn])
        have hxq : ((xs.length : Int) == 0) = false := by rw [beq_eq_false_iff_ne]; omega
        clear hpc hxs hn hst0
        go_enter Try.func28, Try.ntmps28
        go_wp2_with fail
        rw [← HW.out]
        go_wp2_with fail
        refine (HP.out _).mono ?_
        rintro e w1 ⟨p1, c1, rfl, hown1, hb1⟩
        have B1 := Lib.hid (HB.out.trans (hb1.mono HB.out.size))
        have U1 := Lib.hid (HU.out.keep hb1 u4)
        have I1 := Lib.hid (intsAt_own hown1 hxi)
        have O1 := Lib.hid (row_of (own_base hown1 (show w.heap.size + 1 ≤ W0.heap.size by omega)))
        have hz1 : w.heap.size + 1 ≤ w1.heap.size := by have := hb1.size; omega
        clear hown1 hb1 u0 u1 u2 u3 u5 u6 u7 u8 u4 hct0
        obtain ⟨W2, hW2⟩ : ∃ W2, W2 = w1.alloc (.cells #[.int .i64 n, .slice p1 xs.length c1] 25) := ⟨_, rfl⟩
        have HW2 := Lib.hid hW2
        have B2 := Lib.hid (show Below w.heap.size w W2 by rw [hW2]; exact B1.out.trans ((bel1 w1 _).mono B1.out.size))
        have U2 := Lib.hid (show Bux W2 w.heap.size (.int .i64 0) (.slice none 0 0) (.int .i64 0) (.slice none 0 0) 29 by rw [hW2]; exact U1.out.keep (bel1 _ _) (by omega))
        have T2 := Lib.hid (show Two W2 w1.heap.size (.int .i64 n) (.slice p1 xs.length c1) by rw [hW2]; exact two_new w1 _ _ _)
        have I2 := Lib.hid (show IntsAt W2 p1 xs.length xs by rw [hW2]; exact I1.out.below (bel1 _ _))
        have O2 := Lib.hid (show Row W2 (w.heap.size + 1) w1.heap.size p1 xs.length c1 xs by rw [hW2]; exact O1.out.keep (bel1 _ _))
        have hz2 : W2.heap.size = w1.heap.size + 1 := by rw [hW2]; simp
        clear hW2
        obtain ⟨y0, y1, y2⟩ := T2.out
        go_wp2_with fail
        rw [← HW2.out]
        refine (ent_impl n p1 c1 xs (some ⟨b0, off0, none⟩) m c ss (rdF t0) _ I2.out (HMM.out _ B2.out) hm HO.out HFD.out (by omega)).mono ?_
        rintro e w3 ⟨p3, c3, rfl, hown3, hb3⟩
        obtain ⟨L, hL⟩ : ∃ L, rdE (rdF t0) ss n = L := ⟨_, rfl⟩
        have hLm := rdE_most (rdF t0) ss n
        rw [hL] at hown3 hLm ⊢
        have HLL := Lib.hid hL
        rw [hL] at HRZ HRC
        have B3 := Lib.hid (B2.out.trans (hb3.mono B2.out.size))
        have U3 := Lib.hid (U2.out.keep hb3 (by omega))
        have T3 := Lib.hid (T2.out.keep hb3)
        have O3 := Lib.hid (O2.out.keep hb3)
        have P3 := Lib.hid (row_of hown3)
        have hz3 : w1.heap.size + 1 ≤ w3.heap.size := by have := hb3.size; omega
        clear hown3 hb3 hL y0 y1 y2
        obtain ⟨v0, v1, v2⟩ := T3.out
        obtain ⟨u0, u1, u2, u3, u5, u6, u7, u8⟩ := U3.out.facts
        have u4 := U3.out.lt
        by_cases hful : L.length < m
        · have HN : Hid (¬ RdC ss) := Lib.hid (fun h => by have := HRC.out.1 h; omega)
          go_wp2
          refine bodyPost_ret (v := .tuple #[can 0 none 0 0 0 none 0 0, .bool false]) (by simp [results, Try.results28, go_sem, *]) rfl (canc_no HN.out ?_)
          exact (below_set4 B3.out (Nat.le_refl _)).alloc (by have := B3.out.size; simpa using this) _
        · have HYES : Hid (RdC ss) := Lib.hid (HRC.out.2 (by omega))
          obtain ⟨e0', e1, e2, e3, e5, e6, e7, e8⟩ := ((((U3.out.set0 (.int .i64 n)).set1 (.slice p1 xs.length c1)).set2 (.int .i64 n)).set3 (.slice p3 L.length c3)).facts
          go_wp2
          clear u0 u1 u2 u3 u5 u6 u7 u8
          refine bodyPost_ret (v := .tuple #[can n p1 xs.length c1 n p3 L.length c3, .bool true]) (by simp [results, Try.results28, go_sem, *]) rfl ?_
          rw [HRN.out, HRX.out, HRZ.out]
          have hR : RowC w3 (w.heap.size + 1) w3.heap.size p1 c1 xs p3 c3 L := RowC.of (m := w1.heap.size) hz1 (by omega) O3.out (Row.wide P3.out (by omega) (Nat.le_refl _) (Nat.le_refl _))
          have hR2 := rowC_set4 hR (g := w.heap.size) (x := .int .i64 n) (y := .slice p1 xs.length c1) (u := .int .i64 n) (v := .slice p3 L.length c3) (by omega)
          have hR3 := (hR2.keep (bel1 _ (.cells #[.int .i64 n, .slice p3 L.length c3] 25))).wide (hi' := w3.heap.size + 1) (by omega)
          exact canc_yes (lo := w.heap.size + 1) HYES.out (by simpa using hR3) (by omega) ((below_set4 B3.out (Nat.le_refl _)).alloc (by have := B3.out.size; simpa using this) _)
      · have hxe : xs.length = 0 := by omega
        have HN : Hid (¬ RdC ss) := Lib.hid (fun h => by
          have h2 := h.2.1
          unfold rdX at h2
          rw [e0, hxs] at h2
          omega)
        clear hpc hxs hn hst0 hx0
        go_enter Try.func28, Try.ntmps28
        go_wp2_with fail
        rw [← HW.out]
        go_wp2_with fail
        refine (HP.out _).mono ?_
        rintro e w1 ⟨p1, c1, rfl, hown1, hb1⟩
        have B1 := Lib.hid (HB.out.trans (hb1.mono HB.out.size))
        have U1 := Lib.hid (HU.out.keep hb1 u4)
        rw [hxe]
        clear hown1 hb1 u0 u1 u2 u3 u5 u6 u7 u8 u4 hct0 hxe
        obtain ⟨u0, u1, u2, u3, u5, u6, u7, u8⟩ := U1.out.facts
        have u4 := U1.out.lt
        go_wp2
        refine bodyPost_ret (v := .tuple #[can 0 none 0 0 0 none 0 0, .bool false]) (by simp [results, Try.results28, go_sem, *]) rfl (canc_no HN.out ?_)
        exact (below_set4 B1.out (Nat.le_refl _)).alloc (by have := B1.out.size; simpa using this) _
    · rw [cS_no hpc, cZ_no hpc, cB_no hpc] at HP
      have HN : Hid (¬ RdC ss) := Lib.hid (fun h => hpc (by have := h.1; rwa [e0] at this))
      clear hpc hst0
      go_enter Try.func28, Try.ntmps28
      go_wp2_with fail
      rw [← HW.out]
      go_wp2_with fail
      refine (HP.out _).mono ?_
      rintro e w1 ⟨p1, c1, rfl, hown1, hb1⟩
      have B1 := Lib.hid (HB.out.trans (hb1.mono HB.out.size))
      have U1 := Lib.hid (HU.out.keep hb1 u4)
      clear hown1 hb1 u0 u1 u2 u3 u5 u6 u7 u8 u4 hct0
      obtain ⟨u0, u1, u2, u3, u5, u6, u7, u8⟩ := U1.out.facts
      have u4 := U1.out.lt
      go_wp2
      refine bodyPost_ret (v := .tuple #[can 0 none 0 0 0 none 0 0, .bool false]) (by simp [results, Try.results28, go_sem, *]) rfl (canc_no HN.out ?_)
      exact (below_set4 B1.out (Nat.le_refl _)).alloc (by have := B1.out.size; simpa using this) _

end Go.Proofs.Ythnlakdfbalgdaa.Rhy
