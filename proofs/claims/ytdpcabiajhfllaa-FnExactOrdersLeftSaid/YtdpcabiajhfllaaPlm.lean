/-
  Helpers of the claims beside this text: the orders at which a rhythm vanishes, and values of polynomials: both sides.
-/
import Derived.Test.YtdpcabiajhfllaaPll
namespace Go.Proofs.Ytdpcabiajhfllaa.Rhy
open Go.RowKit
set_option linter.unusedVariables false
set_option linter.unusedSimpArgs false

theorem vanB_no {s : Int} {zs : List Int} {d : Int} (h : ¬ ResC s zs d) : vanB s zs d = false := cB_no (fun q => h q.1)
theorem vanB_val {q : Nat} {zs : List Int} {N : Nat} (h : ResC q zs N) : vanB q zs N = (restZ q zs N).isEmpty := by
  unfold vanB
  rw [Int.toNat_natCast, Int.toNat_natCast]
  cases hr : restZ q zs N with
  | nil => rw [cB_yes ⟨h, rfl⟩]; rfl
  | cons x l => rw [cB_no (fun q => by cases q.2)]; rfl
theorem len_beq (l : List Int) : (((l.length : Nat) : Int) == 0) = l.isEmpty := by cases l <;> simp; omega
set_option maxHeartbeats 400000 in
theorem van_any (q : Nat) (a : Option Addr) (len cap : Nat) (zs : List Int) (N : Nat) (w : World) (h : IntsAt w a len zs) (hm : len ≤ 1048576) (ho : Ok q zs) (hN1 : 1 ≤ N) (hN2 : N ≤ 24) :
    Calls Try.prog 64 #[rhy q a len cap, .int .i64 N] w fun e w' => e = .returned (.bool (restZ q zs N).isEmpty) ∧ Below w.heap.size w w' := by
  have FA := Lib.hid h
  have HC := Lib.hid ho
  clear h ho
  obtain ⟨W0, hW⟩ : ∃ W0, W0 = w.alloc (.cells #[.int .i64 q, .slice a len cap] 29) := ⟨_, rfl⟩
  have HW := Lib.hid hW
  have HB0 := Lib.hid (show Below w.heap.size w W0 by rw [hW]; exact bel1 w _)
  have HX0 : Hid (RhI W0 w.heap.size q a len cap zs) := Lib.hid ⟨by rw [hW]; exact box_new w _ _ _, FA.out.below HB0.out⟩
  clear hW FA
  obtain ⟨c0, c1, f0, f1⟩ := HX0.out.1.facts
  go_enter Try.func64, Try.ntmps64
  go_wp2_with fail
  rw [← HW.out]
  refine (rest_any q a len cap zs N _ HX0.out.2 hm HC.out hN1 hN2).mono ?_
  rintro e w3 ⟨a3, d3, rfl, hr, hb⟩
  have HB := Lib.hid (HB0.out.trans (hb.mono HB0.out.size))
  have HE := Lib.hid (len_beq (restZ q zs N))
  generalize (restZ q zs N).length = LL at HE ⊢
  clear hr hb
  go_wp2
  go_ret
  exact ⟨ret_b HE.out, HB.out⟩


set_option maxHeartbeats 1000000 in
theorem vat_spec (s : Int) (a : Option Addr) (len cap : Nat) (zs : List Int) (d : Int) (w : World) (h : IntsAt w a len zs) (hz : zs.length ≤ 1048576) (h3 : -9223372036854775808 ≤ d) (h4 : d ≤ 9223372036854775807) :
    Calls Try.prog 59 #[rhy s a len cap, .int .i64 d] w fun e w' => e = .returned (.bool (vanB s zs d)) ∧ Below w.heap.size w w' := by
  have FA := Lib.hid h
  have hm : len ≤ 1048576 := by have := h.1; omega
  clear h
  obtain ⟨W0, hW⟩ : ∃ W0, W0 = w.alloc (.cells #[.int .i64 s, .slice a len cap] 29) := ⟨_, rfl⟩
  have HW := Lib.hid hW
  have HB0 := Lib.hid (show Below w.heap.size w W0 by rw [hW]; exact bel1 w _)
  have HX0 : Hid (RhI W0 w.heap.size s a len cap zs) := Lib.hid ⟨by rw [hW]; exact box_new w _ _ _, FA.out.below HB0.out⟩
  clear hW FA
  obtain ⟨c0, c1, f0, f1⟩ := HX0.out.1.facts
  by_cases hc : Ok s zs
  · have HC := Lib.hid hc
    by_cases hd : OrdC d
    · have HD := Lib.hid hd
      obtain ⟨q, hq⟩ : ∃ q : Nat, s = q := ⟨s.toNat, by have := hc.1; omega⟩
      obtain ⟨N, hN⟩ : ∃ N : Nat, d = N := ⟨d.toNat, by have := hd.1; omega⟩
      have hN1 : 1 ≤ N := by have := hd.1; omega
      have hN2 : N ≤ 24 := by have := hd.2; omega
      subst hq hN
      have HRC : Hid (ResC q zs N) := Lib.hid ⟨hc, hd⟩
      have HE := Lib.hid (vanB_val HRC.out)
      clear hc hd
      go_enter Try.func59, Try.ntmps59
      go_wp2_with fail
      rw [← HW.out]
      refine (ok_yes q a len cap zs _ HX0.out.2 hm HC.out).mono ?_
      rintro e w1 ⟨rfl, hb1⟩
      have HB1 := Lib.hid (HB0.out.trans (hb1.mono HB0.out.size))
      have HX1 := Lib.hid (HX0.out.keep hb1)
      clear c0 c1 f0 f1 hb1
      obtain ⟨c0, c1, f0, f1⟩ := HX1.out.1.facts
      go_wp2_with fail
      refine (in_yes N 1 24 _ HD.out.1 HD.out.2).mono ?_
      rintro e w' ⟨rfl, rfl⟩
      go_wp2_with fail
      refine (res_spec q a len cap zs N _ HX1.out.2 hz h3 h4).mono ?_
      rintro e w3 ⟨a3, d3, rfl, hr, hb⟩
      have HB := Lib.hid (HB1.out.trans (hb.mono HB1.out.size))
      have HL : Hid (((((resB q zs N).length : Nat) : Int) == 0) = (restZ q zs N).isEmpty) := Lib.hid (by rw [len_beq, show resB q zs N = restZ q zs N from (cZ_yes HRC.out).trans (by rw [Int.toNat_natCast, Int.toNat_natCast])])
      generalize (resB q zs N).length = LL at HL ⊢
      clear hr hb
      go_wp2
      go_ret
      exact ⟨ret_b (by rw [HE.out]; exact HL.out), HB.out⟩
    · have HD := Lib.hid hd
      have HE : Hid (vanB s zs d = false) := Lib.hid (vanB_no (fun h => hd h.2))
      clear hc hd
      go_enter Try.func59, Try.ntmps59
      go_wp2_with fail
      rw [← HW.out]
      refine (ok_yes s a len cap zs _ HX0.out.2 hm HC.out).mono ?_
      rintro e w1 ⟨rfl, hb1⟩
      have HB1 := Lib.hid (HB0.out.trans (hb1.mono HB0.out.size))
      have HX1 := Lib.hid (HX0.out.keep hb1)
      clear c0 c1 f0 f1 hb1
      obtain ⟨c0, c1, f0, f1⟩ := HX1.out.1.facts
      go_wp2_with fail
      refine (in_no d 1 24 _ HD.out).mono ?_
      rintro e w' ⟨rfl, rfl⟩
      go_wp2
      go_ret
      exact ⟨ret_b HE.out.symm, HB1.out⟩
  · have HC := Lib.hid hc
    have HE : Hid (vanB s zs d = false) := Lib.hid (vanB_no (fun h => hc h.1))
    clear hc
    go_enter Try.func59, Try.ntmps59
    go_wp2_with fail
    rw [← HW.out]
    refine (ok_no s a len cap zs _ HX0.out.2 hm HC.out).mono ?_
    rintro e w1 ⟨rfl, hb⟩
    have HB := Lib.hid (HB0.out.trans (hb.mono HB0.out.size))
    clear hb
    go_wp2
    go_ret
    exact ⟨ret_b HE.out.symm, HB.out⟩



set_option maxHeartbeats 1000000 in
theorem vor_any (q : Nat) (a : Option Addr) (len cap : Nat) (zs : List Int) (w : World) (h : IntsAt w a len zs) (hm : len ≤ 1048576) (ho : Ok q zs) :
    Calls Try.prog 66 #[rhy q a len cap] w (IPost (vanP q zs q) w) := by
  have FA := Lib.hid h
  have HC := Lib.hid ho
  have hq1 : 1 ≤ q := by have := ho.1.1; omega
  have hq24 : q ≤ 24 := by have := ho.1.2; omega
  clear h ho
  obtain ⟨W0, hW⟩ : ∃ W0, W0 = w.alloc (.cells #[.int .i64 q, .slice a len cap] 29) := ⟨_, rfl⟩
  have HW := Lib.hid hW
  have HB0 := Lib.hid (show Below w.heap.size w W0 by rw [hW]; exact bel1 w _)
  have HX0 : Hid (RhI W0 w.heap.size q a len cap zs) := Lib.hid ⟨by rw [hW]; exact box_new w _ _ _, FA.out.below HB0.out⟩
  clear hW FA
  obtain ⟨L, hL⟩ : ∃ L, divP q q = L := ⟨_, rfl⟩
  have HL := Lib.hid hL
  have HLL : Hid (L.length = (divsL q).length) := Lib.hid (by rw [← hL, divP_all]; simp)
  have HLI : Hid (AllInt L) := Lib.hid (by rw [← hL]; exact divP_int q q (by omega))
  have hll : L.length ≤ 24 := by rw [← hL]; exact Nat.le_trans (divP_len q q) hq24
  have HDB : Hid (divB q = L) := Lib.hid (by rw [divB, cZ_yes (show DivC (q : Int) from ⟨by omega, by omega⟩), Int.toNat_natCast, hL])
  clear hL
  obtain ⟨c0, c1, f0, f1⟩ := HX0.out.1.facts
  go_enter Try.func66, Try.ntmps66
  go_wp2_with fail
  rw [← HW.out]
  refine (div_impl q _ (by omega) (by omega)).mono ?_
  rintro e w2 ⟨a2, e2, rfl, hown, hb2⟩
  rw [HDB.out] at hown ⊢
  have HD := Lib.hid (intsAt_own hown HLI.out)
  have HB2 := Lib.hid (HB0.out.trans (hb2.mono HB0.out.size))
  have HX2 := Lib.hid (HX0.out.keep hb2)
  clear hown hb2 c0 c1 f0 f1
  go_wp2
  go_loopw [10, 3] (fun i v wr => ∃ k : Nat, k ≤ L.length ∧ i = .int .i64 k ∧ VecAt (vanQ q zs k) w2 wr v) (fun i _ _ => L.length - (intOf i).toNat)
  case atStart => exact ⟨0, by omega, rfl, by rw [show vanQ q zs 0 = [] from rfl]; exact vec_nil w2⟩
  case round =>
    obtain ⟨k, hk, rfl, ⟨av, cv, rfl, hown, hnx, hsz⟩⟩ := hrel
    obtain ⟨P, hP⟩ : ∃ P, vanQ q zs k = P := ⟨_, rfl⟩
    rw [hP] at hown ⊢
    have HPP := Lib.hid hP
    have HPL : P.length ≤ 1048577 := by rw [← hP]; have := vanQ_len q zs k; omega
    have HOW := Lib.hid hown
    have HX := Lib.hid hnx
    have HZ := Lib.hid hsz
    have HXB := Lib.hid (HX2.out.keep hnx)
    clear hown hnx hsz hP
    obtain ⟨c0, c1, f0, f1⟩ := HXB.out.1.facts
    by_cases hlt : k < L.length
    · obtain ⟨b, off, z, rfl, hb, hs, hc, hz1, hz2⟩ := (HD.out.below HX.out).at hlt
      obtain ⟨d, hd⟩ : ∃ d, (divsL q)[k]? = some d := ⟨_, List.getElem?_eq_getElem (by rw [← HLL.out]; exact hlt)⟩
      obtain ⟨hd1, hd2, hd3⟩ := divs_mem hd
      obtain rfl : z = d := by
        rw [← HL.out, divP_all, List.getElem?_map, hd] at hs
        exact (Option.some.inj hs).symm
      clear hs
      by_cases hd0 : 1 < d
      · have hvf := vanF_iff (n := q) (zs := zs) hd0
        cases hv : vanF q zs d
        · have HN := Lib.hid (vanQ_no hd hv)
          have HV : Hid ((restZ q zs d).isEmpty = false) := Lib.hid (by rw [← hvf]; exact hv)
          clear hv hvf hd
          go_wp2_with fail
          refine (van_any q a len cap zs d _ HXB.out.2 hm HC.out hd1 (by omega)).mono ?_
          rintro e w3 ⟨rfl, hb3⟩
          rw [HV.out]
          have HV3 : Hid (VecAt P w2 w3 (.slice av P.length cv)) := Lib.hid (vec_keep ⟨av, cv, rfl, HOW.out, HX.out, HZ.out⟩ hb3)
          clear hb3 c0 c1 f0 f1 hc
          go_wp2
          go_roundw
          case rel => exact ⟨k + 1, by omega, by go_num, by rw [HN.out, HPP.out]; exact HV3.out⟩
          case measure => simp [intOf]; omega
        · have HN := Lib.hid (vanQ_yes hd hv)
          have HV : Hid ((restZ q zs d).isEmpty = true) := Lib.hid (by rw [← hvf]; exact hv)
          clear hv hvf hd
          go_wp2_with fail
          refine (van_any q a len cap zs d _ HXB.out.2 hm HC.out hd1 (by omega)).mono ?_
          rintro e w3 ⟨rfl, hb3⟩
          rw [HV.out]
          have HOW := Lib.hid (own_below HOW.out hb3)
          have HX := Lib.hid (HX.out.trans (hb3.mono HZ.out))
          have HZ := Lib.hid (Nat.le_trans HZ.out hb3.size)
          clear hb3 c0 c1 f0 f1 hc
          go_wp2_with (at_builtin; refine append_int rfl _ _ rfl w2.heap.size _ P _ _ HOW.out HPL HZ.out _ rfl rfl rfl ?_; intro a' c' w' hown' hb'; have HO2 := Lib.hid hown'; have HX2 := Lib.hid hb'; clear hown' hb')
          go_roundw
          case rel =>
            refine ⟨k + 1, by omega, by go_num, ?_⟩
            rw [HN.out, HPP.out]
            have := vec_snoc HX.out HZ.out HO2.out HX2.out
            simpa using this
          case measure => simp [intOf]; omega
      · have e : d = 1 := by omega
        subst e
        have HN := Lib.hid (vanQ_no hd (vanF_one q zs))
        clear hd
        go_wp2
        go_roundw
        case rel => exact ⟨k + 1, by omega, by go_num, by rw [HN.out, HPP.out]; exact ⟨av, cv, rfl, HOW.out, HX.out, HZ.out⟩⟩
        case measure => simp [intOf]; omega
    · have HE : Hid (vanP q zs q = P) := Lib.hid (by rw [← vanQ_all, ← HPP.out, show k = (divsL q).length by have := HLL.out; omega])
      go_wp2
      go_ret
      rw [HE.out]
      exact ⟨av, cv, rfl, own_base HOW.out HB2.out.size, HB2.out.trans (HX.out.mono HB2.out.size)⟩



set_option maxHeartbeats 1000000 in
theorem vor_spec (s : Int) (a : Option Addr) (len cap : Nat) (zs : List Int) (w : World) (h : IntsAt w a len zs) (hz : zs.length ≤ 1048576) :
    Calls Try.prog 40 #[rhy s a len cap] w (IPost (vorB s zs) w) := by
  have FA := Lib.hid h
  have hm : len ≤ 1048576 := by have := h.1; omega
  clear h
  obtain ⟨W0, hW⟩ : ∃ W0, W0 = w.alloc (.cells #[.int .i64 s, .slice a len cap] 29) := ⟨_, rfl⟩
  have HW := Lib.hid hW
  have HB0 := Lib.hid (show Below w.heap.size w W0 by rw [hW]; exact bel1 w _)
  have HX0 : Hid (RhI W0 w.heap.size s a len cap zs) := Lib.hid ⟨by rw [hW]; exact box_new w _ _ _, FA.out.below HB0.out⟩
  clear hW FA
  obtain ⟨c0, c1, f0, f1⟩ := HX0.out.1.facts
  by_cases hc : Ok s zs
  · have HC := Lib.hid hc
    have HE : Hid (vorB s zs = vanP s.toNat zs s.toNat) := Lib.hid (cZ_yes hc)
    obtain ⟨q, hq⟩ : ∃ q : Nat, s = q := ⟨s.toNat, by have := hc.1; omega⟩
    have hq1 : 1 ≤ q := by have := hc.1.1; omega
    have hq24 : q ≤ 24 := by have := hc.1.2; omega
    clear hc
    subst hq
    rw [Int.toNat_natCast] at HE
    go_enter Try.func40, Try.ntmps40
    go_wp2_with fail
    rw [← HW.out]
    refine (ok_yes q a len cap zs _ HX0.out.2 hm HC.out).mono ?_
    rintro e w1 ⟨rfl, hb1⟩
    have HB1 := Lib.hid (HB0.out.trans (hb1.mono HB0.out.size))
    have HX1 := Lib.hid (HX0.out.keep hb1)
    clear c0 c1 f0 f1 hb1
    obtain ⟨c0, c1, f0, f1⟩ := HX1.out.1.facts
    have HVM := Lib.hid (vec_made w1)
    have HXM := Lib.hid (HX1.out.keep (bel1 w1 (.cells #[] 3)))
    clear c0 c1 f0 f1
    obtain ⟨c0, c1, f0, f1⟩ := HXM.out.1.facts
    go_wp2
    go_loopw [4, 3] (fun i v wr => ∃ k : Nat, 1 ≤ k ∧ k ≤ q ∧ i = .int .i64 ((k : Int) + 1) ∧ VecAt (vanP q zs k) w1 wr v) (fun i _ _ => q + 1 - (intOf i).toNat)
    case atStart => exact ⟨1, by omega, hq1, rfl, by rw [show vanP q zs 1 = [] by simp [vanP, vanF]]; exact HVM.out⟩
    case round =>
      clear c0 c1 f0 f1
      obtain ⟨k, hk1, hk, rfl, ⟨av, cv, rfl, hown, hnx, hsz⟩⟩ := hrel
      obtain ⟨P, hP⟩ : ∃ P, vanP q zs k = P := ⟨_, rfl⟩
      rw [hP] at hown ⊢
      have HPP := Lib.hid hP
      have HPL : P.length ≤ 1048577 := by rw [← hP]; have := vanP_len q zs k; omega
      have HOW := Lib.hid hown
      have HX := Lib.hid hnx
      have HZ := Lib.hid hsz
      have HXB := Lib.hid (HX1.out.keep hnx)
      clear hown hnx hsz hP
      obtain ⟨c0, c1, f0, f1⟩ := HXB.out.1.facts
      by_cases hlt : k < q
      · have hz0 : ((k : Int) + 1 == 0) = false := by simp; omega
        have ht : (q : Int) % ((k : Int) + 1) = ((q % (k + 1) : Nat) : Int) := by simp
        by_cases hd : q % (k + 1) = 0
        · have ht2 : (q : Int) % ((k : Int) + 1) = 0 := by rw [ht, hd]; rfl
          have HVB : Hid (vanB q zs ((k + 1 : Nat) : Int) = vanF q zs (k + 1)) := Lib.hid (by rw [vanB_val ⟨HC.out, by unfold OrdC; omega⟩, vanF_iff (by omega)])
          cases hv : vanF q zs (k + 1)
          · have HN := Lib.hid (vanP_no (n := q) (zs := zs) (k := k) (fun h => by rw [hv] at h; cases h.2))
            rw [hv] at HVB
            clear ht hd hv
            go_wp2_with fail
            refine (vat_spec q a len cap zs ((k + 1 : Nat) : Int) _ HXB.out.2 hz (by omega) (by omega)).mono ?_
            rintro e w3 ⟨rfl, hb3⟩
            rw [HVB.out]
            have HV3 : Hid (VecAt P w1 w3 (.slice av P.length cv)) := Lib.hid (vec_keep ⟨av, cv, rfl, HOW.out, HX.out, HZ.out⟩ hb3)
            clear hb3 c0 c1 f0 f1
            go_wp2
            go_roundw
            case rel => exact ⟨k + 1, by omega, by omega, by go_num, by rw [HN.out, HPP.out]; exact HV3.out⟩
            case measure => simp [intOf]; omega
          · have HN := Lib.hid (vanP_yes (n := q) (zs := zs) (k := k) hd hv)
            rw [hv] at HVB
            clear ht hd hv
            go_wp2_with fail
            refine (vat_spec q a len cap zs ((k + 1 : Nat) : Int) _ HXB.out.2 hz (by omega) (by omega)).mono ?_
            rintro e w3 ⟨rfl, hb3⟩
            rw [HVB.out]
            have HOW := Lib.hid (own_below HOW.out hb3)
            have HX := Lib.hid (HX.out.trans (hb3.mono HZ.out))
            have HZ := Lib.hid (Nat.le_trans HZ.out hb3.size)
            clear hb3 c0 c1 f0 f1
            go_wp2_with (at_builtin; refine append_int rfl _ _ rfl w1.heap.size _ P _ _ HOW.out HPL HZ.out _ rfl rfl rfl ?_; intro a' c' w' hown' hb'; have HO2 := Lib.hid hown'; have HX2 := Lib.hid hb'; clear hown' hb')
            go_roundw
            case rel =>
              refine ⟨k + 1, by omega, by omega, by go_num, ?_⟩
              rw [HN.out, HPP.out]
              have := vec_snoc HX.out HZ.out HO2.out HX2.out
              simpa using this
            case measure => simp [intOf]; omega
        · have HN := Lib.hid (vanP_no (n := q) (zs := zs) (k := k) (fun h => hd h.1))
          have hq : ((q : Int) % ((k : Int) + 1) == 0) = false := by rw [ht]; simp only [beq_eq_false_iff_ne]; omega
          clear ht hd
          go_wp2
          go_roundw
          case rel => exact ⟨k + 1, by omega, by omega, by go_num, by rw [HN.out, HPP.out]; exact ⟨av, cv, rfl, HOW.out, HX.out, HZ.out⟩⟩
          case measure => simp [intOf]; omega
      · have e : k = q := by omega
        have HQ : Hid (vanP q zs q = P) := Lib.hid (by rw [← HPP.out, e])
        clear e
        go_wp2
        go_ret
        rw [HE.out, HQ.out]
        exact ⟨av, cv, rfl, own_base HOW.out HB1.out.size, HB1.out.trans (HX.out.mono HB1.out.size)⟩
  · have HC := Lib.hid hc
    clear hc
    go_enter Try.func40, Try.ntmps40
    go_wp2_with fail
    rw [← HW.out]
    refine (ok_no s a len cap zs _ HX0.out.2 hm HC.out).mono ?_
    rintro e w1 ⟨rfl, hb⟩
    have HB := Lib.hid (HB0.out.trans (hb.mono HB0.out.size))
    clear hb
    go_wp2
    go_ret
    exact ipost_nil HC.out HB.out


def PlvC (zs : List Int) (x : Int) : Prop := PolC zs ∧ zs.length ≤ 25 ∧ -2 ≤ x ∧ x ≤ 2
noncomputable def plvB (zs : List Int) (x : Int) : Int := @ite _ (PlvC zs x) (Classical.propDecidable _) (pEval zs x) 0
noncomputable def plvQ (zs : List Int) (x : Int) : Bool := cB (PlvC zs x)
theorem plvB_yes {zs : List Int} {x : Int} (h : PlvC zs x) : plvB zs x = pEval zs x := by unfold plvB; rw [if_pos h]
theorem plvB_no {zs : List Int} {x : Int} (h : ¬ PlvC zs x) : plvB zs x = 0 := by unfold plvB; rw [if_neg h]
theorem plvB_bd (zs : List Int) (x : Int) : -33554431000 ≤ plvB zs x ∧ plvB zs x ≤ 33554431000 := by
  by_cases h : PlvC zs x
  · rw [plvB_yes h]; simpa using val_bd h.1 h.2.1 h.2.2 0
  · rw [plvB_no h]; omega
theorem ret_p {k : IntKind} {a b : Int} {p q : Bool} (h : a = b) (h2 : p = q) : Ending.returned (.tuple #[.int k a, .bool p]) = .returned (.tuple #[.int k b, .bool q]) := by rw [h, h2]




end Go.Proofs.Ytdpcabiajhfllaa.Rhy
