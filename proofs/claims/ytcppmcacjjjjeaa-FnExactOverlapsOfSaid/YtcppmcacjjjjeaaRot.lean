/-
  Helpers of the claims beside this text: RotateRhythm of the model and of the program.
-/
import Derived.Test.YtcppmcacjjjjeaaMoves
namespace Go.Proofs.Ytcppmcacjjjjeaa.Rhy
open Go.RowKit
set_option linter.unusedVariables false

def RotC (s : Int) (zs : List Int) (k : Int) : Prop := Ok s zs ∧ -1000 ≤ k ∧ k ≤ 1000
theorem gcd_one (s : Int) : Nat.gcd (1 : Int).natAbs s.natAbs = 1 := by simp
theorem gcd_mone (s : Int) : Nat.gcd (-1 : Int).natAbs s.natAbs = 1 := by simp


-- the program
theorem moved_of (s : Int) (a : Option Addr) (len cap : Nat) (zs : List Int) (u k : Int) (w : World) (h : IntsAt w a len zs) (hm : len ≤ 1048576) (ho : Ok s zs) (hu1 : -1000 ≤ u) (hu2 : u ≤ 1000) (hk1 : -1000 ≤ k) (hk2 : k ≤ 1000) (hc : Nat.gcd u.natAbs s.natAbs = 1) :
    Calls Try.prog 65 #[rhy s a len cap, .int .i64 u, .int .i64 k] w (RhyPost s (ofZ s.toNat (mapL s zs u k)) w) := by
  rw [← moved_eq ho hc]
  exact moved_any s a len cap zs u k w h hm ho hu1 hu2 hk1 hk2

set_option maxHeartbeats 1000000 in
theorem rot_impl (s : Int) (a : Option Addr) (len cap : Nat) (zs : List Int) (k : Int) (w : World) (h : IntsAt w a len zs) (hm : zs.length ≤ 1048576) (h3 : -9223372036854775808 ≤ k) (h4 : k ≤ 9223372036854775807) :
    Calls Try.prog 21 #[rhy s a len cap, .int .i64 k] w (CPost (RotC s zs k) s (ofZ s.toNat (mapL s zs 1 k)) w) := by
  have HS := Lib.hid h
  have hl : len ≤ 1048576 := by have := h.1; omega
  clear h
  obtain ⟨W0, hW⟩ : ∃ W0, W0 = (w.alloc (.cells #[.int .i64 s, .slice a len cap] 25)).alloc (.cells #[.int .i64 0, .slice none 0 0] 25) := ⟨_, rfl⟩
  have HW := Lib.hid hW
  have HB := Lib.hid (show Below w.heap.size w W0 by rw [hW]; exact bel2 w _ _)
  have HT := Lib.hid (show Two W0 w.heap.size (.int .i64 s) (.slice a len cap) by rw [hW]; exact (two_new w _ _ _).keep (bel1 _ _))
  have HU := Lib.hid (show Box W0 (w.heap.size + 1) (.int .i64 0) (.slice none 0 0) 25 by
    rw [hW]
    have := box_new (w.alloc (.cells #[.int .i64 s, .slice a len cap] 25)) (.int .i64 0) (.slice none 0 0) 25
    simpa using this)
  have hz0 := HU.out.lt
  clear hW
  by_cases ho : Ok s zs
  · have HO := Lib.hid ho
    by_cases hk1 : -1000 ≤ k
    · have hd1 : decide (k < -1000) = false := by simp; omega
      by_cases hk2 : k ≤ 1000
      · have hd2 : decide (1000 < k) = false := by simp; omega
        have HC := Lib.hid (show RotC s zs k from ⟨ho, hk1, hk2⟩)
        clear ho
        go_enter Try.func21, Try.ntmps21
        go_wp2_with fail
        rw [← HW.out]
        refine (valid_yes s a len cap zs _ (HS.out.below HB.out) hl HO.out).mono ?_
        rintro e w1 ⟨rfl, hb1⟩
        have B1 := Lib.hid (HB.out.trans (hb1.mono HB.out.size))
        have T1 := Lib.hid (HT.out.keep hb1)
        have U1 := Lib.hid (HU.out.keep hb1 hz0)
        obtain ⟨t1, t1a, t1b⟩ := T1.out
        clear hb1
        go_wp2_with fail
        refine (moved_of s a len cap zs 1 k w1 (HS.out.below B1.out) hl HO.out (by omega) (by omega) hk1 hk2 (gcd_one s)).mono ?_
        rintro e w2 ⟨a2, cap2, rfl, hown2, hb2⟩
        have HO2 := Lib.hid hown2
        have HB2 := Lib.hid hb2
        obtain ⟨q0, q1, q2, q3⟩ := (U1.out.keep hb2 U1.out.lt).facts
        have l1 := (U1.out.keep hb2 U1.out.lt).lt
        have l2 := U1.out.lt
        clear hown2 hb2
        go_wp2
        refine bodyPost_ret (v := .tuple #[rhy s a2 (ofZ s.toNat (mapL s zs 1 k)).length cap2, .bool true]) (by simp [results, Try.results21, go_sem, *]) rfl (cpost_yes HC.out rfl ?_ ?_)
        · exact own_base (ownsRow_setCell_below (ownsRow_setCell_below HO2.out (by show w.heap.size + 1 < w1.heap.size; omega) _) (by show w.heap.size + 1 < w1.heap.size; omega) _) (by omega)
        · exact ((B1.out.trans (HB2.out.mono (by omega))).setCell (by simp) _).setCell (by simp) _
      · have hd2 : decide (1000 < k) = true := by simp; omega
        have HC := Lib.hid (show ¬ RotC s zs k from fun q => hk2 q.2.2)
        clear ho hk2
        go_enter Try.func21, Try.ntmps21
        go_wp2_with fail
        rw [← HW.out]
        refine (valid_yes s a len cap zs _ (HS.out.below HB.out) hl HO.out).mono ?_
        rintro e w1 ⟨rfl, hb1⟩
        have B1 := Lib.hid (HB.out.trans (hb1.mono HB.out.size))
        have T1 := Lib.hid (HT.out.keep hb1)
        have U1 := Lib.hid (HU.out.keep hb1 hz0)
        obtain ⟨t1, t1a, t1b⟩ := T1.out
        clear hb1
        obtain ⟨q0, q1, q2, q3⟩ := U1.out.facts
        have l1 := U1.out.lt
        go_wp2
        refine bodyPost_ret (v := .tuple #[rhy 0 none 0 0, .bool false]) (by simp [results, Try.results21, go_sem, *]) rfl (cpost_no HC.out ?_)
        exact (B1.out.setCell (by simp) _).setCell (by simp) _
    · have hd1 : decide (k < -1000) = true := by simp; omega
      have HC := Lib.hid (show ¬ RotC s zs k from fun q => hk1 q.2.1)
      clear ho hk1
      go_enter Try.func21, Try.ntmps21
      go_wp2_with fail
      rw [← HW.out]
      refine (valid_yes s a len cap zs _ (HS.out.below HB.out) hl HO.out).mono ?_
      rintro e w1 ⟨rfl, hb1⟩
      have B1 := Lib.hid (HB.out.trans (hb1.mono HB.out.size))
      have T1 := Lib.hid (HT.out.keep hb1)
      have U1 := Lib.hid (HU.out.keep hb1 hz0)
      obtain ⟨t1, t1a, t1b⟩ := T1.out
      clear hb1
      obtain ⟨q0, q1, q2, q3⟩ := U1.out.facts
      have l1 := U1.out.lt
      go_wp2
      refine bodyPost_ret (v := .tuple #[rhy 0 none 0 0, .bool false]) (by simp [results, Try.results21, go_sem, *]) rfl (cpost_no HC.out ?_)
      exact (B1.out.setCell (by simp) _).setCell (by simp) _
  · have HO := Lib.hid ho
    have HC := Lib.hid (show ¬ RotC s zs k from fun q => ho q.1)
    clear ho
    go_enter Try.func21, Try.ntmps21
    go_wp2_with fail
    rw [← HW.out]
    refine (valid_no s a len cap zs _ (HS.out.below HB.out) hl HO.out).mono ?_
    rintro e w1 ⟨rfl, hb1⟩
    have B1 := Lib.hid (HB.out.trans (hb1.mono HB.out.size))
    have T1 := Lib.hid (HT.out.keep hb1)
    have U1 := Lib.hid (HU.out.keep hb1 hz0)
    obtain ⟨t1, t1a, t1b⟩ := T1.out
    clear hb1
    obtain ⟨q0, q1, q2, q3⟩ := U1.out.facts
    have l1 := U1.out.lt
    go_wp2
    refine bodyPost_ret (v := .tuple #[rhy 0 none 0 0, .bool false]) (by simp [results, Try.results21, go_sem, *]) rfl (cpost_no HC.out ?_)
    exact (B1.out.setCell (by simp) _).setCell (by simp) _

set_option maxHeartbeats 1000000 in
theorem mir_spec (s : Int) (a : Option Addr) (len cap : Nat) (zs : List Int) (w : World) (h : IntsAt w a len zs) (hm : zs.length ≤ 1048576) :
    Calls Try.prog 112 #[rhy s a len cap] w (CPost (Ok s zs) s (ofZ s.toNat (mapL s zs (-1) 0)) w) := by
  have HS := Lib.hid h
  have hl : len ≤ 1048576 := by have := h.1; omega
  clear h
  obtain ⟨W0, hW⟩ : ∃ W0, W0 = (w.alloc (.cells #[.int .i64 s, .slice a len cap] 25)).alloc (.cells #[.int .i64 0, .slice none 0 0] 25) := ⟨_, rfl⟩
  have HW := Lib.hid hW
  have HB := Lib.hid (show Below w.heap.size w W0 by rw [hW]; exact bel2 w _ _)
  have HT := Lib.hid (show Two W0 w.heap.size (.int .i64 s) (.slice a len cap) by rw [hW]; exact (two_new w _ _ _).keep (bel1 _ _))
  have HU := Lib.hid (show Box W0 (w.heap.size + 1) (.int .i64 0) (.slice none 0 0) 25 by
    rw [hW]
    have := box_new (w.alloc (.cells #[.int .i64 s, .slice a len cap] 25)) (.int .i64 0) (.slice none 0 0) 25
    simpa using this)
  have hz0 := HU.out.lt
  clear hW
  by_cases ho : Ok s zs
  · have HO := Lib.hid ho
    have HC := Lib.hid ho
    clear ho
    go_enter Try.func112, Try.ntmps112
    go_wp2_with fail
    rw [← HW.out]
    refine (ok_yes s a len cap zs _ (HS.out.below HB.out) hl HO.out).mono ?_
    rintro e w1 ⟨rfl, hb1⟩
    have B1 := Lib.hid (HB.out.trans (hb1.mono HB.out.size))
    have T1 := Lib.hid (HT.out.keep hb1)
    have U1 := Lib.hid (HU.out.keep hb1 hz0)
    obtain ⟨t1, t1a, t1b⟩ := T1.out
    clear hb1
    go_wp2_with fail
    refine (map_any s a len cap zs (-1) 0 w1 (HS.out.below B1.out) hl HO.out (by omega) (by omega) (by omega) (by omega)).mono ?_
    rintro e w2 ⟨a2, cap2, rfl, hown2, hb2⟩
    have HO2 := Lib.hid hown2
    have HB2 := Lib.hid hb2
    obtain ⟨q0, q1, q2, q3⟩ := (U1.out.keep hb2 U1.out.lt).facts
    have l1 := (U1.out.keep hb2 U1.out.lt).lt
    have l2 := U1.out.lt
    clear hown2 hb2
    go_wp2
    refine bodyPost_ret (v := .tuple #[rhy s a2 (ofZ s.toNat (mapL s zs (-1) 0)).length cap2, .bool true]) (by simp [results, Try.results112, go_sem, *]) rfl (cpost_yes HC.out rfl ?_ ?_)
    · exact own_base (ownsRow_setCell_below (ownsRow_setCell_below HO2.out (by show w.heap.size + 1 < w1.heap.size; omega) _) (by show w.heap.size + 1 < w1.heap.size; omega) _) (by omega)
    · exact ((B1.out.trans (HB2.out.mono (by omega))).setCell (by simp) _).setCell (by simp) _
  · have HO := Lib.hid ho
    have HC := Lib.hid ho
    clear ho
    go_enter Try.func112, Try.ntmps112
    go_wp2_with fail
    rw [← HW.out]
    refine (ok_no s a len cap zs _ (HS.out.below HB.out) hl HO.out).mono ?_
    rintro e w1 ⟨rfl, hb1⟩
    have B1 := Lib.hid (HB.out.trans (hb1.mono HB.out.size))
    have T1 := Lib.hid (HT.out.keep hb1)
    have U1 := Lib.hid (HU.out.keep hb1 hz0)
    obtain ⟨t1, t1a, t1b⟩ := T1.out
    clear hb1
    obtain ⟨q0, q1, q2, q3⟩ := U1.out.facts
    have l1 := U1.out.lt
    go_wp2
    refine bodyPost_ret (v := .tuple #[rhy 0 none 0 0, .bool false]) (by simp [results, Try.results112, go_sem, *]) rfl (cpost_no HC.out ?_)
    exact (B1.out.setCell (by simp) _).setCell (by simp) _

set_option maxHeartbeats 1000000 in
theorem mir_impl (s : Int) (a : Option Addr) (len cap : Nat) (zs : List Int) (w : World) (h : IntsAt w a len zs) (hm : zs.length ≤ 1048576) :
    Calls Try.prog 25 #[rhy s a len cap] w (CPost (Ok s zs) s (ofZ s.toNat (mapL s zs (-1) 0)) w) := by
  have HS := Lib.hid h
  have hl : len ≤ 1048576 := by have := h.1; omega
  clear h
  obtain ⟨W0, hW⟩ : ∃ W0, W0 = (w.alloc (.cells #[.int .i64 s, .slice a len cap] 25)).alloc (.cells #[.int .i64 0, .slice none 0 0] 25) := ⟨_, rfl⟩
  have HW := Lib.hid hW
  have HB := Lib.hid (show Below w.heap.size w W0 by rw [hW]; exact bel2 w _ _)
  have HT := Lib.hid (show Two W0 w.heap.size (.int .i64 s) (.slice a len cap) by rw [hW]; exact (two_new w _ _ _).keep (bel1 _ _))
  have HU := Lib.hid (show Box W0 (w.heap.size + 1) (.int .i64 0) (.slice none 0 0) 25 by
    rw [hW]
    have := box_new (w.alloc (.cells #[.int .i64 s, .slice a len cap] 25)) (.int .i64 0) (.slice none 0 0) 25
    simpa using this)
  have hz0 := HU.out.lt
  clear hW
  by_cases ho : Ok s zs
  · have HO := Lib.hid ho
    have HC := Lib.hid ho
    clear ho
    go_enter Try.func25, Try.ntmps25
    go_wp2_with fail
    rw [← HW.out]
    refine (valid_yes s a len cap zs _ (HS.out.below HB.out) hl HO.out).mono ?_
    rintro e w1 ⟨rfl, hb1⟩
    have B1 := Lib.hid (HB.out.trans (hb1.mono HB.out.size))
    have T1 := Lib.hid (HT.out.keep hb1)
    have U1 := Lib.hid (HU.out.keep hb1 hz0)
    obtain ⟨t1, t1a, t1b⟩ := T1.out
    clear hb1
    go_wp2_with fail
    refine (moved_of s a len cap zs (-1) 0 w1 (HS.out.below B1.out) hl HO.out (by omega) (by omega) (by omega) (by omega) (gcd_mone s)).mono ?_
    rintro e w2 ⟨a2, cap2, rfl, hown2, hb2⟩
    have HO2 := Lib.hid hown2
    have HB2 := Lib.hid hb2
    obtain ⟨q0, q1, q2, q3⟩ := (U1.out.keep hb2 U1.out.lt).facts
    have l1 := (U1.out.keep hb2 U1.out.lt).lt
    have l2 := U1.out.lt
    clear hown2 hb2
    go_wp2
    refine bodyPost_ret (v := .tuple #[rhy s a2 (ofZ s.toNat (mapL s zs (-1) 0)).length cap2, .bool true]) (by simp [results, Try.results25, go_sem, *]) rfl (cpost_yes HC.out rfl ?_ ?_)
    · exact own_base (ownsRow_setCell_below (ownsRow_setCell_below HO2.out (by show w.heap.size + 1 < w1.heap.size; omega) _) (by show w.heap.size + 1 < w1.heap.size; omega) _) (by omega)
    · exact ((B1.out.trans (HB2.out.mono (by omega))).setCell (by simp) _).setCell (by simp) _
  · have HO := Lib.hid ho
    have HC := Lib.hid ho
    clear ho
    go_enter Try.func25, Try.ntmps25
    go_wp2_with fail
    rw [← HW.out]
    refine (valid_no s a len cap zs _ (HS.out.below HB.out) hl HO.out).mono ?_
    rintro e w1 ⟨rfl, hb1⟩
    have B1 := Lib.hid (HB.out.trans (hb1.mono HB.out.size))
    have T1 := Lib.hid (HT.out.keep hb1)
    have U1 := Lib.hid (HU.out.keep hb1 hz0)
    obtain ⟨t1, t1a, t1b⟩ := T1.out
    clear hb1
    obtain ⟨q0, q1, q2, q3⟩ := U1.out.facts
    have l1 := U1.out.lt
    go_wp2
    refine bodyPost_ret (v := .tuple #[rhy 0 none 0 0, .bool false]) (by simp [results, Try.results25, go_sem, *]) rfl (cpost_no HC.out ?_)
    exact (B1.out.setCell (by simp) _).setCell (by simp) _

end Go.Proofs.Ytcppmcacjjjjeaa.Rhy
