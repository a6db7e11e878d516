import Derived.Test.YtcppmcacjjjjeaaOth
namespace Go.Proofs.Ytcppmcacjjjjeaa.Rhy
open Go.RowKit
theorem gcd_impl (a b : Nat) (w : World) (ha : a ≤ 1000) (hb : b ≤ 1000) :
    Calls Try.prog 102 #[.int .i64 a, .int .i64 b] w fun e w' => e = .returned (.int .i64 (Nat.gcd a b)) ∧ Below w.heap.size w w' := by
  go_enter Try.func102, Try.ntmps102
  go_wp2
  go_loopw [0, 1] (fun x y wr => ∃ p q : Nat, p ≤ 1000 ∧ q ≤ 1000 ∧ x = .int .i64 p ∧ y = .int .i64 q ∧ Hid (Nat.gcd p q = Nat.gcd a b) ∧ Below w.heap.size w wr) (fun _ y _ => (intOf y).toNat)
  case atStart => exact ⟨a, b, ha, hb, rfl, rfl, Lib.hid rfl, Below.refl _ _⟩
  case round =>
    obtain ⟨p, q, hp, hq, rfl, rfl, HG, hnx⟩ := hrel
    have HX := Lib.hid hnx
    clear hnx
    by_cases h0 : 0 < q
    · have HM : Hid (Nat.gcd q (p % q) = Nat.gcd a b) := Lib.hid (by rw [← HG.out, Nat.gcd_comm q (p % q), ← Nat.gcd_rec, Nat.gcd_comm])
      have HL := Lib.hid (Nat.mod_lt p h0)
      have hne : ((q : Int) == 0) = false := by simp; omega
      have hne' : ((q : Int) != 0) = true := by simp; omega
      go_wp2
      go_quiet (fail)
      go_wp2
      go_roundw
      case rel => exact ⟨q, p % q, by omega, by have := HL.out; omega, rfl, by simp, HM, below_drewN HX.out _⟩
      case measure => have := HL.out; simp [intOf]; omega
    · have e : q = 0 := by omega
      subst e
      go_wp2
      go_ret
      exact ⟨ret_int (by rw [← HG.out]; simp), HX.out⟩

-- stretch
/-- u is a unit of s. -/
def UC (s u : Int) : Prop := (1 ≤ u ∧ u ≤ max 1 (s - 1)) ∧ Nat.gcd u.natAbs s.natAbs = 1

set_option maxHeartbeats 400000 in
theorem unit_yes (s u : Int) (w : World) (h1 : 1 ≤ s) (h2 : s ≤ 24) (hu : UC s u) :
    Calls Try.prog 68 #[.int .i64 u, .int .i64 s] w fun e w' => e = .returned (.bool true) ∧ Below w.heap.size w w' := by
  obtain ⟨⟨h3, h4⟩, hg⟩ := hu
  by_cases e1 : u = 1
  · subst e1
    clear hg h4
    go_enter Try.func68, Try.ntmps68
    go_wp2
    go_ret
    exact ⟨rfl, Below.refl _ _⟩
  · have h5 : u < s := by omega
    have h6 : 1 < u := by omega
    have hq : (u == 1) = false := by simpa using e1
    have HG := Lib.hid (show Nat.gcd u.toNat s.toNat = 1 by rw [← hg]; congr 1 <;> omega)
    obtain ⟨p, hp⟩ : ∃ p : Nat, u = p := ⟨u.toNat, by omega⟩
    obtain ⟨q, hq'⟩ : ∃ q : Nat, s = q := ⟨s.toNat, by omega⟩
    clear hg e1 h4
    subst hp hq'
    have HG2 := Lib.hid (show Nat.gcd p q = 1 by have := HG.out; simpa using this)
    clear HG
    go_enter Try.func68, Try.ntmps68
    go_wp2_with fail
    refine (gcd_impl p q w (by omega) (by omega)).mono ?_
    rintro e w1 ⟨rfl, hb⟩
    rw [HG2.out]
    have HB := Lib.hid hb
    clear hb
    go_wp2
    go_ret
    exact ⟨rfl, HB.out⟩
set_option maxHeartbeats 400000 in
theorem unit_no (s u : Int) (w : World) (h1 : 1 ≤ s) (h2 : s ≤ 24) (hu : ¬ UC s u) :
    Calls Try.prog 68 #[.int .i64 u, .int .i64 s] w fun e w' => e = .returned (.bool false) ∧ Below w.heap.size w w' := by
  have h1u : u ≠ 1 := by
    rintro rfl
    exact hu ⟨⟨by omega, by omega⟩, by simp⟩
  have hq : (u == 1) = false := by simpa using h1u
  by_cases h3 : 1 < u
  · by_cases h4 : u < s
    · have hg : ¬ Nat.gcd u.natAbs s.natAbs = 1 := fun h => hu ⟨⟨by omega, by omega⟩, h⟩
      obtain ⟨p, hp⟩ : ∃ p : Nat, u = p := ⟨u.toNat, by omega⟩
      obtain ⟨q, hq'⟩ : ∃ q : Nat, s = q := ⟨s.toNat, by omega⟩
      clear hu h1u
      subst hp hq'
      have hg2 : ((Nat.gcd p q : Nat) == 1) = false := by simpa using hg
      have hg3 : (((Nat.gcd p q : Nat) : Int) == 1) = false := by simp at hg ⊢; omega
      clear hg
      go_enter Try.func68, Try.ntmps68
      go_wp2_with fail
      refine (gcd_impl p q w (by omega) (by omega)).mono ?_
      rintro e w1 ⟨rfl, hb⟩
      have HB := Lib.hid hb
      clear hb
      go_wp2
      go_ret
      exact ⟨rfl, HB.out⟩
    · have hd : decide (u < s) = false := by simpa using h4
      clear hu h1u h4
      go_enter Try.func68, Try.ntmps68
      go_wp2
      go_ret
      exact ⟨rfl, Below.refl _ _⟩
  · have hd : decide (1 < u) = false := by simpa using h3
    clear hu h1u h3
    go_enter Try.func68, Try.ntmps68
    go_wp2
    go_ret
    exact ⟨rfl, Below.refl _ _⟩

set_option maxHeartbeats 1000000 in
theorem str_impl (s : Int) (a : Option Addr) (len cap : Nat) (zs : List Int) (u : Int) (w : World) (h : IntsAt w a len zs) (hm : zs.length ≤ 1048576) (h3 : -9223372036854775808 ≤ u) (h4 : u ≤ 9223372036854775807) :
    Calls Try.prog 26 #[rhy s a len cap, .int .i64 u] w (CPost (Ok s zs ∧ UC s u) s (ofZ s.toNat (mapL s zs u 0)) w) := by
  have HS := Lib.hid h
  have hl : len ≤ 1048576 := by have := h.1; omega
  clear h
  obtain ⟨W0, hW⟩ : ∃ W0, W0 = (w.alloc (.cells #[.int .i64 s, .slice a len cap] 25)).alloc (.cells #[.int .i64 0, .slice none 0 0] 25) := ⟨_, rfl⟩
  have HW := Lib.hid hW
  have HB := Lib.hid (show Below w.heap.size w W0 by rw [hW]; exact bel2 w _ _)
  have HT := Lib.hid (show Two W0 w.heap.size (.int .i64 s) (.slice a len cap) by rw [hW]; exact (two_new w _ _ _).keep (bel1 _ _))
  have HU := Lib.hid (show Box W0 (w.heap.size + 1) (.int .i64 0) (.slice none 0 0) 25 by
    rw [hW]
    have := box_new (w.alloc (.cells #[.int .i64 s, .slice a len cap] 25)) (.int .i64 0) (.slice none 0 0) 25
    simpa using this)
  have hz0 := HU.out.lt
  clear hW
  by_cases ho : Ok s zs
  · have HO := Lib.hid ho
    have hs1 := ho.1.1
    have hs2 := ho.1.2
    by_cases hu : UC s u
    · have HU' := Lib.hid hu
      have HC := Lib.hid (show Ok s zs ∧ UC s u from ⟨ho, hu⟩)
      have hu2 := hu.1
      obtain ⟨hu3, hu4⟩ := hu2
      have hu5 : u ≤ 1000 := by omega
      have HGC := Lib.hid hu.2
      clear ho hu hu4
      go_enter Try.func26, Try.ntmps26
      go_wp2_with fail
      rw [← HW.out]
      refine (valid_yes s a len cap zs _ (HS.out.below HB.out) hl HO.out).mono ?_
      rintro e w1 ⟨rfl, hb1⟩
      have B1 := Lib.hid (HB.out.trans (hb1.mono HB.out.size))
      have T1 := Lib.hid (HT.out.keep hb1)
      have U1 := Lib.hid (HU.out.keep hb1 hz0)
      obtain ⟨t1, t1a, t1b⟩ := T1.out
      clear hb1
      go_wp2_with fail
      refine (unit_yes s u w1 hs1 hs2 HU'.out).mono ?_
      rintro e w3 ⟨rfl, hb3⟩
      have B3 := Lib.hid (B1.out.trans (hb3.mono B1.out.size))
      have T3 := Lib.hid (T1.out.keep hb3)
      have U3 := Lib.hid (U1.out.keep hb3 U1.out.lt)
      clear hb3 B1 T1 U1 t1 t1a t1b
      obtain ⟨t1, t1a, t1b⟩ := T3.out
      go_wp2_with fail
      refine (moved_of s a len cap zs u 0 w3 (HS.out.below B3.out) hl HO.out (by omega) hu5 (by omega) (by omega) HGC.out).mono ?_
      rintro e w2 ⟨a2, cap2, rfl, hown2, hb2⟩
      have HO2 := Lib.hid hown2
      have HB2 := Lib.hid hb2
      obtain ⟨q0, q1, q2, q3⟩ := (U3.out.keep hb2 U3.out.lt).facts
      have l1 := (U3.out.keep hb2 U3.out.lt).lt
      have l2 := U3.out.lt
      clear hown2 hb2
      go_wp2
      refine bodyPost_ret (v := .tuple #[rhy s a2 (ofZ s.toNat (mapL s zs u 0)).length cap2, .bool true]) (by simp [results, Try.results26, go_sem, *]) rfl (cpost_yes HC.out rfl ?_ ?_)
      · exact own_base (ownsRow_setCell_below (ownsRow_setCell_below HO2.out (by show w.heap.size + 1 < w3.heap.size; omega) _) (by show w.heap.size + 1 < w3.heap.size; omega) _) (by omega)
      · exact ((B3.out.trans (HB2.out.mono (by omega))).setCell (by simp) _).setCell (by simp) _
    · have HU' := Lib.hid hu
      have HC := Lib.hid (show ¬ (Ok s zs ∧ UC s u) from fun q => hu q.2)
      clear ho hu
      go_enter Try.func26, Try.ntmps26
      go_wp2_with fail
      rw [← HW.out]
      refine (valid_yes s a len cap zs _ (HS.out.below HB.out) hl HO.out).mono ?_
      rintro e w1 ⟨rfl, hb1⟩
      have B1 := Lib.hid (HB.out.trans (hb1.mono HB.out.size))
      have T1 := Lib.hid (HT.out.keep hb1)
      have U1 := Lib.hid (HU.out.keep hb1 hz0)
      obtain ⟨t1, t1a, t1b⟩ := T1.out
      clear hb1
      go_wp2_with fail
      refine (unit_no s u w1 hs1 hs2 HU'.out).mono ?_
      rintro e w3 ⟨rfl, hb3⟩
      have B3 := Lib.hid (B1.out.trans (hb3.mono B1.out.size))
      have T3 := Lib.hid (T1.out.keep hb3)
      have U3 := Lib.hid (U1.out.keep hb3 U1.out.lt)
      clear hb3 B1 T1 U1 t1 t1a t1b
      obtain ⟨t1, t1a, t1b⟩ := T3.out
      obtain ⟨q0, q1, q2, q3⟩ := U3.out.facts
      have l1 := U3.out.lt
      go_wp2
      refine bodyPost_ret (v := .tuple #[rhy 0 none 0 0, .bool false]) (by simp [results, Try.results26, go_sem, *]) rfl (cpost_no HC.out ?_)
      exact (B3.out.setCell (by simp) _).setCell (by simp) _
  · have HO := Lib.hid ho
    have HC := Lib.hid (show ¬ (Ok s zs ∧ UC s u) from fun q => ho q.1)
    clear ho
    go_enter Try.func26, Try.ntmps26
    go_wp2_with fail
    rw [← HW.out]
    refine (valid_no s a len cap zs _ (HS.out.below HB.out) hl HO.out).mono ?_
    rintro e w1 ⟨rfl, hb1⟩
    have B1 := Lib.hid (HB.out.trans (hb1.mono HB.out.size))
    have T1 := Lib.hid (HT.out.keep hb1)
    have U1 := Lib.hid (HU.out.keep hb1 hz0)
    obtain ⟨t1, t1a, t1b⟩ := T1.out
    clear hb1
    obtain ⟨q0, q1, q2, q3⟩ := U1.out.facts
    have l1 := U1.out.lt
    go_wp2
    refine bodyPost_ret (v := .tuple #[rhy 0 none 0 0, .bool false]) (by simp [results, Try.results26, go_sem, *]) rfl (cpost_no HC.out ?_)
    exact (B1.out.setCell (by simp) _).setCell (by simp) _


end Go.Proofs.Ytcppmcacjjjjeaa.Rhy
