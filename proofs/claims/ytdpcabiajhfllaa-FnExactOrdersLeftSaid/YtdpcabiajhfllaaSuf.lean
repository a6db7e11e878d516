/-
  Helpers of the claims beside this text: SumRhythm of both sides.
-/
import Derived.Test.YtdpcabiajhfllaaSue
namespace Go.Proofs.Ytdpcabiajhfllaa.Rhy
open Go.RowKit
set_option linter.unusedVariables false
set_option linter.unusedSimpArgs false

set_option maxHeartbeats 1000000 in
theorem sumr_spec (s : Int) (a : Option Addr) (n ca : Nat) (xs : List Int) (t : Int) (b : Option Addr) (m cb : Nat) (ys : List Int) (w : World) (ha : IntsAt w a n xs) (hn : xs.length ≤ 1048576) (hb : IntsAt w b m ys) (hm : ys.length ≤ 1048576) :
    Calls Try.prog 48 #[rhy s a n ca, rhy t b m cb] w (CPost (Ok s xs ∧ Ok t ys ∧ s = t) s (suZ s xs ys) w) := by
  have FA := Lib.hid ha
  have FB := Lib.hid hb
  have hn' : n ≤ 1048576 := by have := ha.1; omega
  have hm' : m ≤ 1048576 := by have := hb.1; omega
  clear ha hb
  obtain ⟨W0, hW⟩ : ∃ W0, W0 = ((w.alloc (.cells #[.int .i64 s, .slice a n ca] 29)).alloc (.cells #[.int .i64 t, .slice b m cb] 29)).alloc (.cells #[.int .i64 0, .slice none 0 0] 29) := ⟨_, rfl⟩
  have HW := Lib.hid hW
  have HSZ := Lib.hid (show W0.heap.size = w.heap.size + 1 + 1 + 1 by rw [hW]; simp)
  have HB0 := Lib.hid (show Below w.heap.size w W0 by rw [hW]; exact bel3 w _ _ _)
  have HX0 : Hid (RhI W0 w.heap.size s a n ca xs) := Lib.hid ⟨by rw [hW]; exact (box_new w _ _ _).keep (bel2 _ _ _) (by simp), FA.out.below HB0.out⟩
  have HY0 : Hid (RhI W0 (w.heap.size + 1) t b m cb ys) := Lib.hid ⟨by rw [hW]; simpa using (box_new (w.alloc (.cells #[.int .i64 s, .slice a n ca] 29)) (.int .i64 t) (.slice b m cb) 29).keep (bel1 _ _) (by simp), FB.out.below HB0.out⟩
  have HU0 : Hid (Box W0 (w.heap.size + 1 + 1) (.int .i64 0) (.slice none 0 0) 29) := Lib.hid (by rw [hW]; simpa using box_new ((w.alloc (.cells #[.int .i64 s, .slice a n ca] 29)).alloc (.cells #[.int .i64 t, .slice b m cb] 29)) (.int .i64 0) (.slice none 0 0) 29)
  clear hW FA FB
  by_cases hc : (Ok s xs ∧ Ok t ys ∧ s = t)
  · obtain ⟨hx, hy, hst⟩ := hc
    subst hst
    obtain ⟨q, rfl⟩ : ∃ q : Nat, s = q := ⟨s.toNat, by have := hx.1; omega⟩
    have hq1 : 1 ≤ q := by have := hx.1; omega
    have hq24 : q ≤ 24 := by have := hx.1; omega
    have HO := Lib.hid hx
    have HP := Lib.hid hy
    clear hx hy
    obtain ⟨c0, c1, f0, f1⟩ := HX0.out.1.facts
    obtain ⟨d0, d1, g0, g1⟩ := HY0.out.1.facts
    go_enter Try.func48, Try.ntmps48
    go_wp2_with fail
    rw [← HW.out]
    refine (two_yes q a n ca xs q b m cb ys _ HX0.out.2 hn HY0.out.2 hm ⟨HO.out, HP.out, rfl⟩).mono ?_
    rintro e w1 ⟨rfl, hb1⟩
    have HB1 := Lib.hid (HB0.out.trans (hb1.mono HB0.out.size))
    have HX1 := Lib.hid (HX0.out.keep hb1)
    have HY1 := Lib.hid (HY0.out.keep hb1)
    have HU1 := Lib.hid (HU0.out.keep hb1 HU0.out.lt)
    clear c0 c1 f0 f1 d0 d1 g0 g1 hb1
    obtain ⟨c0, c1, f0, f1⟩ := HX1.out.1.facts
    obtain ⟨d0, d1, g0, g1⟩ := HY1.out.1.facts
    have lx1 := HX1.out.1.lt
    have ly1 := HY1.out.1.lt
    obtain ⟨W1, hW1⟩ : ∃ W1, W1 = w1.alloc (.cells #[.int .i64 q, .slice none 0 0] 29) := ⟨_, rfl⟩
    have HW1 := Lib.hid hW1
    have HBA := Lib.hid (show Below w.heap.size w W1 by rw [hW1]; exact HB1.out.trans ((bel1 w1 _).mono HB1.out.size))
    have HS1 := Lib.hid (show Box W1 w1.heap.size (.int .i64 q) (.slice none 0 0) 29 by rw [hW1]; exact box_new w1 _ _ _)
    have HXA := Lib.hid (show RhI W1 w.heap.size q a n ca xs by rw [hW1]; exact HX1.out.keep (bel1 _ _))
    have HYA := Lib.hid (show RhI W1 (w.heap.size + 1) q b m cb ys by rw [hW1]; exact HY1.out.keep (bel1 _ _))
    have HUA := Lib.hid (show Box W1 (w.heap.size + 1 + 1) (.int .i64 0) (.slice none 0 0) 29 by rw [hW1]; exact HU1.out.keep (bel1 _ _) HU1.out.lt)
    have HSZ1 := Lib.hid (show W1.heap.size = w1.heap.size + 1 by rw [hW1]; simp)
    have HSZ0 := Lib.hid (show w.heap.size + 3 ≤ w1.heap.size by have := HU1.out.lt; omega)
    clear hW1
    go_wp2_with fail
    rw [← HW1.out]
    refine (cnt0_spec q a n ca xs b m cb ys _ HXA.out.2 hn' HYA.out.2 hm' HO.out HP.out).mono ?_
    rintro e w2 ⟨a2, c2, rfl, hown, hb2⟩
    clear c0 c1 f0 f1 d0 d1 g0 g1
    obtain ⟨L, hL⟩ : ∃ L, sumL (q : Int) xs ys = L := ⟨_, rfl⟩
    have HL := Lib.hid hL
    rw [hL] at hown
    have HCI : Hid (AllInt (cntZ q L)) := Lib.hid (by rw [← hL]; exact cntS_int HO.out HP.out _)
    have HCL : Hid (∀ x : Int, L.count x ≤ 576) := Lib.hid (fun x => Nat.le_trans List.count_le_length (by rw [← hL]; exact sum_few HO.out HP.out))
    rw [cnt_len] at hown
    have HR2 := Lib.hid ((row_of hown).lo (lo' := w1.heap.size + 1) (by have := HSZ1.out; omega))
    have HB2 := Lib.hid (HBA.out.trans (hb2.mono HBA.out.size))
    have HS2 := Lib.hid (HS1.out.keep hb2 HS1.out.lt)
    have HU2 := Lib.hid (HUA.out.keep hb2 HUA.out.lt)
    have HSZ2 : Hid (w1.heap.size + 1 ≤ w2.heap.size) := Lib.hid (by have := hb2.size; have := HSZ1.out; omega)
    rw [cnt_len]
    clear hown hb2 hL
    obtain ⟨b0, hb0⟩ : ∃ b0, w1.heap.size = b0 := ⟨_, rfl⟩
    rw [hb0] at HS2 HR2 HSZ0 HSZ2
    rw [hb0]
    have HB00 := Lib.hid hb0
    clear hb0 HS1 HW1 HXA HYA HUA HSZ1
    go_wp2
    go_loopw [21] (fun i wr => ∃ k : Nat, k ≤ q ∧ i = .int .i64 k ∧ SumAt q (suP L k) b0 w2 wr) (fun i _ => q - (intOf i).toNat)
    case atStart => exact ⟨0, by omega, rfl, none, 0, HS2.out, World.ownsRow_nil _ _ _ _, Within.refl _ _ _⟩
    case round =>
      obtain ⟨k, hk, rfl, av, cv, hb0, hown, hwi⟩ := hrel
      obtain ⟨P, hP⟩ : ∃ P, suP L k = P := ⟨_, rfl⟩
      rw [hP] at hb0 hown
      have HPP := Lib.hid hP
      have HPL : P.length ≤ 1048577 := by rw [← hP]; have := suP_len L k; omega
      have H0 := Lib.hid hb0
      have HOW := Lib.hid hown
      have HWI := Lib.hid hwi
      have HJ : Hid (IntsAt wr a2 q (cntZ q L)) := Lib.hid ((HR2.out.within hwi (.inr (by omega))).at HCI.out)
      have lt0 := hb0.lt
      have HZ : Hid (w2.heap.size ≤ wr.heap.size) := Lib.hid hwi.size
      clear hb0 hown hwi hP
      obtain ⟨c0, c1, f0, f1⟩ := H0.out.facts
      by_cases hlt : k < q
      · obtain ⟨b1, off, z, rfl, hb, hs, hc, hz1, hz2⟩ := HJ.out.at hlt
        rw [cnt_at hlt] at hs
        obtain rfl := Option.some.inj hs
        have hcl := HCL.out (k : Int)
        by_cases hpos : 0 < L.count (k : Int)
        · have HN := Lib.hid (suP_yes hpos)
          generalize L.count (k : Int) = c at hpos hc hcl hz1 hz2 hs
          clear hs
          go_wp2_with (at_builtin; refine append_int rfl _ _ rfl w2.heap.size _ P _ _ HOW.out HPL HZ.out _ rfl rfl rfl ?_; intro a' c' w' hown' hb'; have HO2 := Lib.hid hown'; have HX2 := Lib.hid hb'; have hq := HX2.out.frozen (p := ⟨b0, 1, none⟩) (by show b0 < w2.heap.size; have := HSZ2.out; omega); have hq2 := HX2.out.cell (p := ⟨b0, 1, none⟩) (by show b0 < w2.heap.size; have := HSZ2.out; omega); clear hown' hb')
          go_roundw
          case rel =>
            refine ⟨k + 1, by omega, by go_num, ?_⟩
            rw [HN.out, HPP.out]
            have hlz := HSZ2.out
            refine ⟨a', c', ?_, ?_, ?_⟩
            · have := (H0.out.keep HX2.out (by omega)).set1 (.slice a' (P.length + 1) c')
              simpa using this
            · exact ownsRow_setCell_below HO2.out (by show b0 < w2.heap.size; omega) _
            · exact (HWI.out.below HX2.out).setCell b0 ⟨Nat.le_refl _, by omega⟩ 1 _
          case measure => simp [intOf]; omega
        · have HN := Lib.hid (suP_no hpos)
          generalize L.count (k : Int) = c at hpos hc hcl hz1 hz2 hs
          obtain rfl : c = 0 := by omega
          clear hs hpos
          go_wp2
          go_roundw
          case rel => exact ⟨k + 1, by omega, by go_num, by rw [HN.out, HPP.out]; exact ⟨av, cv, H0.out, HOW.out, HWI.out⟩⟩
          case measure => simp [intOf]; omega
      · have e : k = q := by omega
        have HE : Hid (suZ q xs ys = P) := Lib.hid (by rw [← suP_all, HL.out, ← HPP.out, e])
        have hz0 := HSZ0.out
        have hz2 := HSZ2.out
        have hz3 := HZ.out
        have UW : Box wr (w.heap.size + 1 + 1) (.int .i64 0) (.slice none 0 0) 29 := (HU2.out.keep (HWI.out.down (B := b0) (Nat.le_refl _) (by omega)) (by omega))
        obtain ⟨y1, y2, y3, y4⟩ := UW.facts
        have y5 := UW.lt
        clear UW e
        go_wp2
        refine bodyPost_ret (v := .tuple #[rhy q av P.length cv, .bool true]) (by simp [results, Try.results48, go_sem, *]) rfl ?_
        rw [HE.out]
        refine cpost_yes (by first | exact ⟨HO.out, HP.out⟩ | exact ⟨HO.out, HP.out, by trivial⟩) rfl ?_ ?_
        · exact own_base (ownsRow_setCell_below (ownsRow_setCell_below HOW.out (by show w.heap.size + 1 + 1 < w2.heap.size; omega) _) (by show w.heap.size + 1 + 1 < w2.heap.size; omega) _) (by omega)
        · exact ((HB2.out.trans (HWI.out.down (B := w.heap.size) (by omega) (by omega))).setCell (by show w.heap.size ≤ w.heap.size + 1 + 1; omega) _).setCell (by show w.heap.size ≤ w.heap.size + 1 + 1; omega) _
  · have HC := Lib.hid hc
    clear hc
    obtain ⟨c0, c1, f0, f1⟩ := HX0.out.1.facts
    obtain ⟨d0, d1, g0, g1⟩ := HY0.out.1.facts
    go_enter Try.func48, Try.ntmps48
    go_wp2_with fail
    rw [← HW.out]
    refine (two_no s a n ca xs t b m cb ys _ HX0.out.2 hn HY0.out.2 hm HC.out).mono ?_
    rintro e w1 ⟨rfl, hb1⟩
    have HB1 := Lib.hid (HB0.out.trans (hb1.mono HB0.out.size))
    have HX1 := Lib.hid (HX0.out.keep hb1)
    have HY1 := Lib.hid (HY0.out.keep hb1)
    have HU1 := Lib.hid (HU0.out.keep hb1 HU0.out.lt)
    clear c0 c1 f0 f1 d0 d1 g0 g1 hb1
    obtain ⟨c0, c1, f0, f1⟩ := HX1.out.1.facts
    obtain ⟨d0, d1, g0, g1⟩ := HY1.out.1.facts
    obtain ⟨q0, q1, q2, q3⟩ := HU1.out.facts
    have l1 := HU1.out.lt
    go_wp2
    refine bodyPost_ret (v := .tuple #[rhy 0 none 0 0, .bool false]) (by simp [results, Try.results48, go_sem, *]) rfl (cpost_no HC.out ?_)
    exact (HB1.out.setCell (by show w.heap.size ≤ w.heap.size + 1 + 1; omega) _).setCell (by show w.heap.size ≤ w.heap.size + 1 + 1; omega) _


end Go.Proofs.Ytdpcabiajhfllaa.Rhy
