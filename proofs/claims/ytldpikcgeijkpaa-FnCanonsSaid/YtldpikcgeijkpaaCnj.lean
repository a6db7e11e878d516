/-
  Helpers of the claims beside this text: canons: FormatCanon of both sides.
-/
import Derived.Test.YtldpikcgeijkpaaCnb
import Derived.Test.YtldpikcgeijkpaaCnc
import Derived.Test.YtldpikcgeijkpaaTxs
import Derived.Test.YtldpikcgeijkpaaFmt
import Derived.Test.YtldpikcgeijkpaaFrm
namespace Go.Proofs.Ytldpikcgeijkpaa.Rhy
open Go.RowKit
set_option linter.unusedVariables false
set_option linter.unusedSimpArgs false

noncomputable def fcaL (s : Int) (xs ys : List Int) (k : Nat) : List ByteArray := (List.range k).map fun j : Nat => fmtT s.toNat (voiZ s xs ys j)
theorem fcaL_len (s : Int) (xs ys : List Int) (k : Nat) : (fcaL s xs ys k).length = k := by simp [fcaL]
theorem fcaL_snoc (s : Int) (xs ys : List Int) (k : Nat) : fcaL s xs ys (k + 1) = fcaL s xs ys k ++ [fmtT s.toNat (voiZ s xs ys k)] := by simp [fcaL, List.range_succ]
noncomputable def fcaZ (s : Int) (xs : List Int) (t : Int) (ys : List Int) : List ByteArray := @ite _ (CC s xs t ys) (Classical.propDecidable _) (fcaL s xs ys ys.length) []
theorem fcaZ_yes {s t : Int} {xs ys : List Int} (h : CC s xs t ys) : fcaZ s xs t ys = fcaL s xs ys ys.length := by simp [fcaZ, h]
theorem fcaZ_no {s t : Int} {xs ys : List Int} (h : ¬ CC s xs t ys) : fcaZ s xs t ys = [] := by simp [fcaZ, h]
theorem fcaZ_len (s : Int) (xs : List Int) (t : Int) (ys : List Int) : (fcaZ s xs t ys).length ≤ 24 := by
  by_cases h : CC s xs t ys
  · rw [fcaZ_yes h, fcaL_len]; exact (cc_len h).2
  · rw [fcaZ_no h]; simp
theorem voiZ_ok {s : Int} {xs ys : List Int} {k : Int} (h : 1 ≤ s ∧ s ≤ 24) : Ok s (voiZ s xs ys k) := rot_ok h 1 _


set_option maxHeartbeats 1000000 in
set_option maxRecDepth 100000 in
theorem fca_impl (s : Int) (a : Option Addr) (n ca : Nat) (xs : List Int) (t : Int) (b : Option Addr) (m cb : Nat) (ys : List Int) (w : World) (ha : IntsAt w a n xs) (hn : xs.length ≤ 1048576) (hb : IntsAt w b m ys) (hm : ys.length ≤ 1048576) :
    Calls Try.prog 24 #[can s a n ca t b m cb] w (TPost (fcaZ s xs t ys) w) := by
  obtain ⟨W0, hW⟩ : ∃ W0, W0 = w.alloc (canCells s a n ca t b m cb 29) := ⟨_, rfl⟩
  have HW := Lib.hid hW
  have HB := Lib.hid (show Below w.heap.size w W0 by rw [hW]; exact bel1 w _)
  have HT := Lib.hid (show Four W0 w.heap.size (.int .i64 s) (.slice a n ca) (.int .i64 t) (.slice b m cb) by rw [hW]; exact four_new w _ _ _ _ _)
  clear hW
  have hl : n ≤ 1048576 := by have := ha.1; omega
  have hlm : m ≤ 1048576 := by have := hb.1; omega
  have hml : ys.length = m := hb.1
  have FA := Lib.hid ha
  have FB := Lib.hid hb
  clear ha hb
  have HC := Lib.hid (fun W hA hB => cval_impl s a n ca xs t b m cb ys W hA hn hB hm)
  by_cases hc : CC s xs t ys
  · rw [cB_yes hc] at HC
    have HE : Hid (fcaZ s xs t ys = fcaL s xs ys ys.length) := Lib.hid (fcaZ_yes hc)
    have HCC := Lib.hid hc
    have h24 := hc.1.1.1
    have h24' := hc.1.2.1.1
    have hyl := (cc_len hc).2
    clear hc
    go_enter Try.func24, Try.ntmps24
    go_wp2_with fail
    rw [← HW.out]
    refine (HC.out _ (FA.out.below HB.out) (FB.out.below HB.out)).mono ?_
    rintro e w1 ⟨rfl, hb1⟩
    have B1 := Lib.hid (HB.out.trans (hb1.mono HB.out.size))
    have T1 := Lib.hid (HT.out.keep hb1)
    obtain ⟨t0, t1, t2, t3, t4⟩ := T1.out
    clear hb1
    have HV1 := Lib.hid (vecT_nil w1)
    go_wp2
    go_loopw [3, 12] (fun v i wr => ∃ k : Nat, k ≤ m ∧ i = .int .i64 k ∧ VecT (fcaL s xs ys k) w1 wr v) (fun _ i _ => m - (intOf i).toNat)
    case atStart => exact ⟨0, by omega, rfl, HV1.out⟩
    case round =>
      obtain ⟨k, hk, rfl, av, cv, rfl, hown, hnx, hsz⟩ := hrel
      obtain ⟨P, hP⟩ : ∃ P, fcaL s xs ys k = P := ⟨_, rfl⟩
      rw [hP] at hown ⊢
      have HPP := Lib.hid hP
      have HPL : P.length ≤ 1048577 := by rw [← hP, fcaL_len]; omega
      have HOW := Lib.hid hown
      have HX := Lib.hid hnx
      have HZ := Lib.hid hsz
      have HR := Lib.hid (B1.out.trans (hnx.mono B1.out.size))
      have T2 := Lib.hid (T1.out.keep hnx)
      clear t0 t1 t2 t3 t4 hown hnx hsz hP
      obtain ⟨x0, x1, x2, x3, x4⟩ := T2.out
      by_cases hlt : k < m
      · have HN := Lib.hid (fcaL_snoc s xs ys k)
        go_wp2_with fail
        refine (voc_impl s a n ca xs t b m cb ys k _ (FA.out.below HR.out) hn (FB.out.below HR.out) hm HCC.out hlt).mono ?_
        rintro e w3 ⟨p3, c3, rfl, hown3, hb3⟩
        have hI3 := intsAt_own hown3 (ofZ_int (by omega))
        have hlen3 : (voiZ s xs ys k).length ≤ s.toNat := ofZ_len _ _
        clear hown3
        go_wp2_with fail
        refine (text_any s p3 _ c3 _ _ hI3 (by omega) (voiZ_ok h24)).mono ?_
        rintro e w4 ⟨rfl, hb4⟩
        clear hI3 hlen3
        have O4 := Lib.hid (own_below (own_below HOW.out hb3) hb4)
        have X4 := Lib.hid ((HX.out.trans (hb3.mono HZ.out)).trans (hb4.mono (Nat.le_trans HZ.out hb3.size)))
        have Z4 := Lib.hid (Nat.le_trans (Nat.le_trans HZ.out hb3.size) hb4.size)
        clear hb3 hb4
        go_wp2_with (at_builtin; refine append_txt rfl _ _ rfl w1.heap.size _ P _ _ O4.out HPL Z4.out _ rfl rfl rfl ?_; intro a' c' w' hown' hb'; have HO2 := Lib.hid hown'; have HX2 := Lib.hid hb'; clear hown' hb')
        go_roundw
        case rel =>
          refine ⟨k + 1, by omega, by go_num, ?_⟩
          rw [HN.out, HPP.out]
          have := vecT_snoc X4.out Z4.out HO2.out HX2.out
          simpa using this
        case measure => simp [intOf]; omega
      · have e : k = m := by omega
        have HF : Hid (fcaZ s xs t ys = P) := Lib.hid (by rw [HE.out, ← HPP.out, e, hml])
        clear e
        go_wp2
        go_ret
        rw [HF.out]
        exact ⟨av, cv, rfl, own_base HOW.out B1.out.size, HR.out⟩
  · rw [cB_no hc] at HC
    have HE : Hid (fcaZ s xs t ys = []) := Lib.hid (fcaZ_no hc)
    clear hc
    go_enter Try.func24, Try.ntmps24
    go_wp2_with fail
    rw [← HW.out]
    refine (HC.out _ (FA.out.below HB.out) (FB.out.below HB.out)).mono ?_
    rintro e w1 ⟨rfl, hb1⟩
    have B1 := Lib.hid (HB.out.trans (hb1.mono HB.out.size))
    clear hb1
    go_wp2
    go_ret
    rw [HE.out]
    exact ⟨none, 0, rfl, World.ownsRow_nil _ _ _ _, B1.out⟩
end Go.Proofs.Ytldpikcgeijkpaa.Rhy
