/-
  Helpers of the claims beside this text: the orders at which neither of two rhythms vanishes: both sides.
-/
import Derived.Test.YtdpcabiajhfllaaPlm
import Derived.Test.YtdpcabiajhfllaaSuh
namespace Go.Proofs.Ytdpcabiajhfllaa.Rhy
open Go.RowKit
set_option linter.unusedVariables false
set_option linter.unusedSimpArgs false

def ordF (n : Nat) (xs ys : List Int) (d : Nat) : Bool := decide (1 < d) && !vanF n xs d && !vanF n ys d
def ordQ (n : Nat) (xs ys : List Int) (j : Nat) : List Int := (((divsL n).take j).filter fun d => ordF n xs ys d).map fun d : Nat => (d : Int)
theorem ordQ_yes {n : Nat} {xs ys : List Int} {j d : Nat} (h : (divsL n)[j]? = some d) (hv : ordF n xs ys d = true) : ordQ n xs ys (j + 1) = ordQ n xs ys j ++ [(d : Int)] := by
  unfold ordQ
  rw [List.take_add_one, h, List.filter_append, List.map_append]
  congr 1
  simp [hv]
theorem ordQ_no {n : Nat} {xs ys : List Int} {j d : Nat} (h : (divsL n)[j]? = some d) (hv : ordF n xs ys d = false) : ordQ n xs ys (j + 1) = ordQ n xs ys j := by
  unfold ordQ
  rw [List.take_add_one, h, List.filter_append, List.map_append]
  simp [hv]
theorem ordQ_len (n : Nat) (xs ys : List Int) (j : Nat) : (ordQ n xs ys j).length ≤ j := by
  unfold ordQ
  rw [List.length_map]
  exact Nat.le_trans (List.length_filter_le _ _) (by simp; omega)
noncomputable def orlB (s : Int) (xs : List Int) (t : Int) (ys : List Int) : List Int := cZ (Ok s xs ∧ Ok t ys ∧ s = t) (ordQ s.toNat xs ys (divsL s.toNat).length)
theorem divsL_len (n : Nat) : (divsL n).length ≤ n := by
  unfold divsL
  exact Nat.le_trans (List.length_filter_le _ _) (by simp)
theorem orlB_int (s : Int) (xs : List Int) (t : Int) (ys : List Int) : AllInt (orlB s xs t ys) := by
  unfold orlB
  by_cases h : Ok s xs ∧ Ok t ys ∧ s = t
  · rw [cZ_yes h]
    intro z hz
    unfold ordQ at hz
    rw [List.mem_map] at hz
    obtain ⟨d, hd, rfl⟩ := hz
    have h1 := List.mem_of_mem_take (List.mem_filter.1 hd).1
    unfold divsL at h1
    have := List.mem_range'_1.1 (List.mem_filter.1 h1).1
    have := h.1.1
    omega
  · rw [cZ_no h]; intro z hz; cases hz
theorem orlB_len (s : Int) (xs : List Int) (t : Int) (ys : List Int) : (orlB s xs t ys).length ≤ 24 := by
  unfold orlB
  by_cases h : Ok s xs ∧ Ok t ys ∧ s = t
  · rw [cZ_yes h]; exact Nat.le_trans (ordQ_len _ _ _ _) (Nat.le_trans (divsL_len _) (by have := h.1.1; omega))
  · rw [cZ_no h]; simp
theorem has_van {n : Nat} {zs : List Int} {j d : Nat} (h : (divsL n)[j]? = some d) : hasB (vanP n zs n) (d : Int) = vanF n zs d := by
  have hm := List.mem_of_getElem? h
  unfold divsL at hm
  obtain ⟨h1, h2⟩ := List.mem_filter.1 hm
  cases hv : vanF n zs d
  · refine Bool.eq_false_iff.2 fun hh => ?_
    have hh : ((d : Nat) : Int) ∈ vanP n zs n := by unfold hasB at hh; simpa using hh
    unfold vanP at hh
    rw [List.mem_map] at hh
    obtain ⟨e, he, hed⟩ := hh
    obtain rfl : e = d := by omega
    have := (List.mem_filter.1 he).2
    rw [hv] at this
    simp at this
  · have goal : ((d : Nat) : Int) ∈ vanP n zs n := ?_
    · unfold hasB; simpa using goal
    unfold vanP
    rw [List.mem_map]
    exact ⟨d, List.mem_filter.2 ⟨h1, by rw [hv, h2]; rfl⟩, rfl⟩


set_option maxHeartbeats 1000000 in
theorem orl_any (q : Nat) (a : Option Addr) (n ca : Nat) (xs : List Int) (b : Option Addr) (m cb : Nat) (ys : List Int) (w : World) (ha : IntsAt w a n xs) (hn : n ≤ 1048576) (hb : IntsAt w b m ys) (hm : m ≤ 1048576) (hx : Ok q xs) (hy : Ok q ys) :
    Calls Try.prog 58 #[rhy q a n ca, rhy q b m cb] w (IPost (ordQ q xs ys (divsL q).length) w) := by
  have FA := Lib.hid ha
  have FB := Lib.hid hb
  have HO := Lib.hid hx
  have HP := Lib.hid hy
  have hq1 : 1 ≤ q := by have := hx.1.1; omega
  have hq24 : q ≤ 24 := by have := hx.1.2; omega
  clear ha hb hx hy
  obtain ⟨W0, hW⟩ : ∃ W0, W0 = (w.alloc (.cells #[.int .i64 q, .slice a n ca] 29)).alloc (.cells #[.int .i64 q, .slice b m cb] 29) := ⟨_, rfl⟩
  have HW := Lib.hid hW
  have HB0 := Lib.hid (show Below w.heap.size w W0 by rw [hW]; exact bel2 w _ _)
  have HX0 : Hid (RhI W0 w.heap.size q a n ca xs) := Lib.hid ⟨by rw [hW]; exact (box_new w _ _ _).keep (bel1 _ _) (by simp), FA.out.below HB0.out⟩
  have HY0 : Hid (RhI W0 (w.heap.size + 1) q b m cb ys) := Lib.hid ⟨by rw [hW]; simpa using box_new (w.alloc (.cells #[.int .i64 q, .slice a n ca] 29)) (.int .i64 q) (.slice b m cb) 29, FB.out.below HB0.out⟩
  clear hW FA FB
  obtain ⟨L, hL⟩ : ∃ L, divP q q = L := ⟨_, rfl⟩
  have HL := Lib.hid hL
  have HLL : Hid (L.length = (divsL q).length) := Lib.hid (by rw [← hL, divP_all]; simp)
  have HLI : Hid (AllInt L) := Lib.hid (by rw [← hL]; exact divP_int q q (by omega))
  have hll : L.length ≤ 24 := by rw [← hL]; exact Nat.le_trans (divP_len q q) hq24
  have HDB : Hid (divB q = L) := Lib.hid (by rw [divB, cZ_yes (show DivC (q : Int) from ⟨by omega, by omega⟩), Int.toNat_natCast, hL])
  clear hL
  obtain ⟨c0, c1, f0, f1⟩ := HX0.out.1.facts
  go_enter Try.func58, Try.ntmps58
  go_wp2_with fail
  rw [← HW.out]
  refine (div_impl q _ (by omega) (by omega)).mono ?_
  rintro e w2 ⟨a2, e2, rfl, hown, hb2⟩
  rw [HDB.out] at hown ⊢
  have HD := Lib.hid (intsAt_own hown HLI.out)
  have HB2 := Lib.hid (HB0.out.trans (hb2.mono HB0.out.size))
  have HX2 := Lib.hid (HX0.out.keep hb2)
  have HY2 := Lib.hid (HY0.out.keep hb2)
  clear hown hb2 c0 c1 f0 f1
  go_wp2
  go_loopw [12, 5] (fun i v wr => ∃ k : Nat, k ≤ L.length ∧ i = .int .i64 k ∧ VecAt (ordQ q xs ys k) w2 wr v) (fun i _ _ => L.length - (intOf i).toNat)
  case atStart => exact ⟨0, by omega, rfl, by rw [show ordQ q xs ys 0 = [] from rfl]; exact vec_nil w2⟩
  case round =>
    obtain ⟨k, hk, rfl, ⟨av, cv, rfl, hown, hnx, hsz⟩⟩ := hrel
    obtain ⟨P, hP⟩ : ∃ P, ordQ q xs ys k = P := ⟨_, rfl⟩
    rw [hP] at hown ⊢
    have HPP := Lib.hid hP
    have HPL : P.length ≤ 1048577 := by rw [← hP]; have := ordQ_len q xs ys k; omega
    have HOW := Lib.hid hown
    have HX := Lib.hid hnx
    have HZ := Lib.hid hsz
    have HXB := Lib.hid (HX2.out.keep hnx)
    have HYB := Lib.hid (HY2.out.keep hnx)
    clear hown hnx hsz hP
    obtain ⟨c0, c1, f0, f1⟩ := HXB.out.1.facts
    obtain ⟨d0, d1, g0, g1⟩ := HYB.out.1.facts
    by_cases hlt : k < L.length
    · obtain ⟨bq, off, z, rfl, hb, hs, hc, hz1, hz2⟩ := (HD.out.below HX.out).at hlt
      obtain ⟨d, hd⟩ : ∃ d, (divsL q)[k]? = some d := ⟨_, List.getElem?_eq_getElem (by rw [← HLL.out]; exact hlt)⟩
      obtain ⟨hd1, hd2, hd3⟩ := divs_mem hd
      obtain rfl : z = d := by
        rw [← HL.out, divP_all, List.getElem?_map, hd] at hs
        exact (Option.some.inj hs).symm
      clear hs
      by_cases hd0 : 1 < d
      · have hvf := vanF_iff (n := q) (zs := xs) hd0
        have hvg := vanF_iff (n := q) (zs := ys) hd0
        cases hv : vanF q xs d
        · have HV : Hid ((restZ q xs d).isEmpty = false) := Lib.hid (by rw [← hvf]; exact hv)
          cases hu : vanF q ys d
          · have HN := Lib.hid (ordQ_yes (xs := xs) (ys := ys) hd (by simp [ordF, hv, hu, hd0]))
            have HU : Hid ((restZ q ys d).isEmpty = false) := Lib.hid (by rw [← hvg]; exact hu)
            clear hv hu hvf hvg hd
            go_wp2_with fail
            refine (van_any q a n ca xs d _ HXB.out.2 hn HO.out hd1 (by omega)).mono ?_
            rintro e w3 ⟨rfl, hb3⟩
            rw [HV.out]
            have HYC := Lib.hid (HYB.out.keep hb3)
            have HOW := Lib.hid (own_below HOW.out hb3)
            have HX := Lib.hid (HX.out.trans (hb3.mono HZ.out))
            have HZ := Lib.hid (Nat.le_trans HZ.out hb3.size)
            clear c0 c1 f0 f1 d0 d1 g0 g1 hb3 hc
            obtain ⟨d0, d1, g0, g1⟩ := HYC.out.1.facts
            go_wp2_with fail
            refine (van_any q b m cb ys d _ HYC.out.2 hm HP.out hd1 (by omega)).mono ?_
            rintro e w4 ⟨rfl, hb4⟩
            rw [HU.out]
            have HOW := Lib.hid (own_below HOW.out hb4)
            have HX := Lib.hid (HX.out.trans (hb4.mono HZ.out))
            have HZ := Lib.hid (Nat.le_trans HZ.out hb4.size)
            clear hb4 d0 d1 g0 g1
            go_wp2_with (at_builtin; refine append_int rfl _ _ rfl w2.heap.size _ P _ _ HOW.out HPL HZ.out _ rfl rfl rfl ?_; intro a' c' w' hown' hb'; have HO2 := Lib.hid hown'; have HX2 := Lib.hid hb'; clear hown' hb')
            go_roundw
            case rel =>
              refine ⟨k + 1, by omega, by go_num, ?_⟩
              rw [HN.out, HPP.out]
              have := vec_snoc HX.out HZ.out HO2.out HX2.out
              simpa using this
            case measure => simp [intOf]; omega
          · have HN := Lib.hid (ordQ_no (xs := xs) (ys := ys) hd (by simp [ordF, hu]))
            have HU : Hid ((restZ q ys d).isEmpty = true) := Lib.hid (by rw [← hvg]; exact hu)
            clear hv hu hvf hvg hd
            go_wp2_with fail
            refine (van_any q a n ca xs d _ HXB.out.2 hn HO.out hd1 (by omega)).mono ?_
            rintro e w3 ⟨rfl, hb3⟩
            rw [HV.out]
            have HYC := Lib.hid (HYB.out.keep hb3)
            have HOW := Lib.hid (own_below HOW.out hb3)
            have HX := Lib.hid (HX.out.trans (hb3.mono HZ.out))
            have HZ := Lib.hid (Nat.le_trans HZ.out hb3.size)
            clear c0 c1 f0 f1 d0 d1 g0 g1 hb3 hc
            obtain ⟨d0, d1, g0, g1⟩ := HYC.out.1.facts
            go_wp2_with fail
            refine (van_any q b m cb ys d _ HYC.out.2 hm HP.out hd1 (by omega)).mono ?_
            rintro e w4 ⟨rfl, hb4⟩
            rw [HU.out]
            have HV4 : Hid (VecAt P w2 w4 (.slice av P.length cv)) := Lib.hid (vec_keep ⟨av, cv, rfl, HOW.out, HX.out, HZ.out⟩ hb4)
            clear hb4 d0 d1 g0 g1
            go_wp2
            go_roundw
            case rel => exact ⟨k + 1, by omega, by go_num, by rw [HN.out, HPP.out]; exact HV4.out⟩
            case measure => simp [intOf]; omega
        · have HV : Hid ((restZ q xs d).isEmpty = true) := Lib.hid (by rw [← hvf]; exact hv)
          have HN := Lib.hid (ordQ_no (xs := xs) (ys := ys) hd (by simp [ordF, hv]))
          clear hv hvf hvg hd
          go_wp2_with fail
          refine (van_any q a n ca xs d _ HXB.out.2 hn HO.out hd1 (by omega)).mono ?_
          rintro e w3 ⟨rfl, hb3⟩
          rw [HV.out]
          have HV3 : Hid (VecAt P w2 w3 (.slice av P.length cv)) := Lib.hid (vec_keep ⟨av, cv, rfl, HOW.out, HX.out, HZ.out⟩ hb3)
          clear hb3 c0 c1 f0 f1 d0 d1 g0 g1 hc
          go_wp2
          go_roundw
          case rel => exact ⟨k + 1, by omega, by go_num, by rw [HN.out, HPP.out]; exact HV3.out⟩
          case measure => simp [intOf]; omega
      · have e : d = 1 := by omega
        subst e
        have HN := Lib.hid (ordQ_no (xs := xs) (ys := ys) hd (by simp [ordF]))
        clear hd
        go_wp2
        go_roundw
        case rel => exact ⟨k + 1, by omega, by go_num, by rw [HN.out, HPP.out]; exact ⟨av, cv, rfl, HOW.out, HX.out, HZ.out⟩⟩
        case measure => simp [intOf]; omega
    · have HE : Hid (ordQ q xs ys (divsL q).length = P) := Lib.hid (by rw [← HPP.out, show k = (divsL q).length by have := HLL.out; omega])
      go_wp2
      go_ret
      rw [HE.out]
      exact ⟨av, cv, rfl, own_base HOW.out HB2.out.size, HB2.out.trans (HX.out.mono HB2.out.size)⟩


set_option maxHeartbeats 400000 in
theorem orl_impl (s : Int) (a : Option Addr) (n ca : Nat) (xs : List Int) (t : Int) (b : Option Addr) (m cb : Nat) (ys : List Int) (w : World) (ha : IntsAt w a n xs) (hn : xs.length ≤ 1048576) (hb : IntsAt w b m ys) (hm : ys.length ≤ 1048576) :
    Calls Try.prog 34 #[rhy s a n ca, rhy t b m cb] w (IPost (orlB s xs t ys) w) := by
  have FA := Lib.hid ha
  have FB := Lib.hid hb
  have hn' : n ≤ 1048576 := by have := ha.1; omega
  have hm' : m ≤ 1048576 := by have := hb.1; omega
  clear ha hb
  obtain ⟨W0, hW⟩ : ∃ W0, W0 = (w.alloc (.cells #[.int .i64 s, .slice a n ca] 29)).alloc (.cells #[.int .i64 t, .slice b m cb] 29) := ⟨_, rfl⟩
  have HW := Lib.hid hW
  have HB0 := Lib.hid (show Below w.heap.size w W0 by rw [hW]; exact bel2 w _ _)
  have HX0 : Hid (RhI W0 w.heap.size s a n ca xs) := Lib.hid ⟨by rw [hW]; exact (box_new w _ _ _).keep (bel1 _ _) (by simp), FA.out.below HB0.out⟩
  have HY0 : Hid (RhI W0 (w.heap.size + 1) t b m cb ys) := Lib.hid ⟨by rw [hW]; simpa using box_new (w.alloc (.cells #[.int .i64 s, .slice a n ca] 29)) (.int .i64 t) (.slice b m cb) 29, FB.out.below HB0.out⟩
  clear hW FA FB
  by_cases hc : (Ok s xs ∧ Ok t ys ∧ s = t)
  · obtain ⟨hx, hy, hst⟩ := hc
    subst hst
    obtain ⟨q, rfl⟩ : ∃ q : Nat, s = q := ⟨s.toNat, by have := hx.1; omega⟩
    have hq1 : 1 ≤ q := by have := hx.1; omega
    have hq24 : q ≤ 24 := by have := hx.1; omega
    have HO := Lib.hid hx
    have HP := Lib.hid hy
    clear hx hy
    have HE : Hid (orlB q xs q ys = ordQ q xs ys (divsL q).length) := Lib.hid (by rw [orlB, cZ_yes ⟨HO.out, HP.out, rfl⟩, Int.toNat_natCast])
    obtain ⟨c0, c1, f0, f1⟩ := HX0.out.1.facts
    obtain ⟨d0, d1, g0, g1⟩ := HY0.out.1.facts
    go_enter Try.func34, Try.ntmps34
    go_wp2_with fail
    rw [← HW.out]
    refine (one_yes q a n ca xs q b m cb ys _ HX0.out.2 hn HY0.out.2 hm ⟨HO.out, HP.out, rfl⟩).mono ?_
    rintro e w1 ⟨rfl, hb1⟩
    have HB1 := Lib.hid (HB0.out.trans (hb1.mono HB0.out.size))
    have HX1 := Lib.hid (HX0.out.keep hb1)
    have HY1 := Lib.hid (HY0.out.keep hb1)
    clear c0 c1 f0 f1 d0 d1 g0 g1 hb1
    obtain ⟨c0, c1, f0, f1⟩ := HX1.out.1.facts
    obtain ⟨d0, d1, g0, g1⟩ := HY1.out.1.facts
    go_wp2_with fail
    refine (orl_any q a n ca xs b m cb ys _ HX1.out.2 hn' HY1.out.2 hm' HO.out HP.out).mono ?_
    rintro e w2 ⟨a2, d2, rfl, hr, hb⟩
    have HR := Lib.hid (own_base hr HB1.out.size)
    have HB := Lib.hid (HB1.out.trans (hb.mono HB1.out.size))
    clear hr hb
    go_wp2
    go_ret
    rw [HE.out]
    exact ⟨a2, d2, rfl, HR.out, HB.out⟩
  · have HC := Lib.hid hc
    clear hc
    obtain ⟨c0, c1, f0, f1⟩ := HX0.out.1.facts
    obtain ⟨d0, d1, g0, g1⟩ := HY0.out.1.facts
    go_enter Try.func34, Try.ntmps34
    go_wp2_with fail
    rw [← HW.out]
    refine (one_no s a n ca xs t b m cb ys _ HX0.out.2 hn HY0.out.2 hm HC.out).mono ?_
    rintro e w1 ⟨rfl, hb1⟩
    have HB1 := Lib.hid (HB0.out.trans (hb1.mono HB0.out.size))
    have HX1 := Lib.hid (HX0.out.keep hb1)
    have HY1 := Lib.hid (HY0.out.keep hb1)
    clear c0 c1 f0 f1 d0 d1 g0 g1 hb1
    obtain ⟨c0, c1, f0, f1⟩ := HX1.out.1.facts
    obtain ⟨d0, d1, g0, g1⟩ := HY1.out.1.facts
    go_wp2
    go_ret
    exact ipost_nil HC.out HB1.out


set_option maxHeartbeats 1000000 in
theorem orl_spec (s : Int) (a : Option Addr) (n ca : Nat) (xs : List Int) (t : Int) (b : Option Addr) (m cb : Nat) (ys : List Int) (w : World) (ha : IntsAt w a n xs) (hn : xs.length ≤ 1048576) (hb : IntsAt w b m ys) (hm : ys.length ≤ 1048576) :
    Calls Try.prog 33 #[rhy s a n ca, rhy t b m cb] w (IPost (orlB s xs t ys) w) := by
  have FA := Lib.hid ha
  have FB := Lib.hid hb
  have hn' : n ≤ 1048576 := by have := ha.1; omega
  have hm' : m ≤ 1048576 := by have := hb.1; omega
  clear ha hb
  obtain ⟨W0, hW⟩ : ∃ W0, W0 = (w.alloc (.cells #[.int .i64 s, .slice a n ca] 29)).alloc (.cells #[.int .i64 t, .slice b m cb] 29) := ⟨_, rfl⟩
  have HW := Lib.hid hW
  have HB0 := Lib.hid (show Below w.heap.size w W0 by rw [hW]; exact bel2 w _ _)
  have HX0 : Hid (RhI W0 w.heap.size s a n ca xs) := Lib.hid ⟨by rw [hW]; exact (box_new w _ _ _).keep (bel1 _ _) (by simp), FA.out.below HB0.out⟩
  have HY0 : Hid (RhI W0 (w.heap.size + 1) t b m cb ys) := Lib.hid ⟨by rw [hW]; simpa using box_new (w.alloc (.cells #[.int .i64 s, .slice a n ca] 29)) (.int .i64 t) (.slice b m cb) 29, FB.out.below HB0.out⟩
  clear hW FA FB
  by_cases hc : (Ok s xs ∧ Ok t ys ∧ s = t)
  · obtain ⟨hx, hy, hst⟩ := hc
    subst hst
    obtain ⟨q, rfl⟩ : ∃ q : Nat, s = q := ⟨s.toNat, by have := hx.1; omega⟩
    have hq1 : 1 ≤ q := by have := hx.1; omega
    have hq24 : q ≤ 24 := by have := hx.1; omega
    have HO := Lib.hid hx
    have HP := Lib.hid hy
    clear hx hy
    have HE : Hid (orlB q xs q ys = ordQ q xs ys (divsL q).length) := Lib.hid (by rw [orlB, cZ_yes ⟨HO.out, HP.out, rfl⟩, Int.toNat_natCast])
    have HEX : Hid (vorB q xs = vanP q xs q) := Lib.hid (by rw [vorB, cZ_yes HO.out, Int.toNat_natCast])
    have HEY : Hid (vorB q ys = vanP q ys q) := Lib.hid (by rw [vorB, cZ_yes HP.out, Int.toNat_natCast])
    obtain ⟨L, hL⟩ : ∃ L, divP q q = L := ⟨_, rfl⟩
    have HL := Lib.hid hL
    have HLL : Hid (L.length = (divsL q).length) := Lib.hid (by rw [← hL, divP_all]; simp)
    have HLI : Hid (AllInt L) := Lib.hid (by rw [← hL]; exact divP_int q q (by omega))
    have hll : L.length ≤ 24 := by rw [← hL]; exact Nat.le_trans (divP_len q q) hq24
    have HDB : Hid (divB q = L) := Lib.hid (by rw [divB, cZ_yes (show DivC (q : Int) from ⟨by omega, by omega⟩), Int.toNat_natCast, hL])
    clear hL
    obtain ⟨c0, c1, f0, f1⟩ := HX0.out.1.facts
    obtain ⟨d0, d1, g0, g1⟩ := HY0.out.1.facts
    go_enter Try.func33, Try.ntmps33
    go_wp2_with fail
    rw [← HW.out]
    refine (two_yes q a n ca xs q b m cb ys _ HX0.out.2 hn HY0.out.2 hm ⟨HO.out, HP.out, rfl⟩).mono ?_
    rintro e w1 ⟨rfl, hb1⟩
    have HB1 := Lib.hid (HB0.out.trans (hb1.mono HB0.out.size))
    have HX1 := Lib.hid (HX0.out.keep hb1)
    have HY1 := Lib.hid (HY0.out.keep hb1)
    clear c0 c1 f0 f1 d0 d1 g0 g1 hb1
    obtain ⟨c0, c1, f0, f1⟩ := HX1.out.1.facts
    obtain ⟨d0, d1, g0, g1⟩ := HY1.out.1.facts
    go_wp2_with fail
    refine (vor_spec q a n ca xs _ HX1.out.2 hn).mono ?_
    rintro e w2 ⟨a2, c2, rfl, hown2, hb2⟩
    rw [HEX.out] at hown2 ⊢
    have HM2 := Lib.hid (intsAt_own hown2 (by rw [← HEX.out]; exact vorB_int _ _))
    clear hown2
    have HB2 := Lib.hid (HB1.out.trans (hb2.mono HB1.out.size))
    have HX2 := Lib.hid (HX1.out.keep hb2)
    have HY2 := Lib.hid (HY1.out.keep hb2)
    clear c0 c1 f0 f1 d0 d1 g0 g1 hb2
    obtain ⟨c0, c1, f0, f1⟩ := HX2.out.1.facts
    obtain ⟨d0, d1, g0, g1⟩ := HY2.out.1.facts
    go_wp2_with fail
    refine (vor_spec q b m cb ys _ HY2.out.2 hm).mono ?_
    rintro e w3 ⟨a3, c3, rfl, hown3, hb3⟩
    rw [HEY.out] at hown3 ⊢
    have HM3 := Lib.hid (intsAt_own hown3 (by rw [← HEY.out]; exact vorB_int _ _))
    have HM2 := Lib.hid (HM2.out.below hb3)
    clear hown3
    have HB3 := Lib.hid (HB2.out.trans (hb3.mono HB2.out.size))
    have HX3 := Lib.hid (HX2.out.keep hb3)
    have HY3 := Lib.hid (HY2.out.keep hb3)
    clear c0 c1 f0 f1 d0 d1 g0 g1 hb3
    obtain ⟨c0, c1, f0, f1⟩ := HX3.out.1.facts
    obtain ⟨d0, d1, g0, g1⟩ := HY3.out.1.facts
    obtain ⟨W4, hW4⟩ : ∃ W4, W4 = w3.alloc (.cells #[] 3) := ⟨_, rfl⟩
    have HW4 := Lib.hid hW4
    have HXA := Lib.hid (show RhI W4 w.heap.size q a n ca xs by rw [hW4]; exact HX3.out.keep (bel1 _ _))
    have HBA := Lib.hid (show Below w.heap.size w W4 by rw [hW4]; exact HB3.out.trans ((bel1 w3 _).mono HB3.out.size))
    have HVA := Lib.hid (show VecAt [] w3 W4 (.slice (some ⟨w3.heap.size, 0, none⟩) 0 0) by rw [hW4]; exact vec_made w3)
    have HSZ4 := Lib.hid (show W4.heap.size = w3.heap.size + 1 by rw [hW4]; simp)
    have lx3 := HX3.out.1.lt
    clear hW4
    go_wp2_with fail
    rw [← HW4.out]
    refine (div_spec q _ (by omega) (by omega)).mono ?_
    rintro e w5 ⟨a5, c5, rfl, hown5, hb5⟩
    rw [HDB.out] at hown5 ⊢
    have HOR := Lib.hid hown5
    have HV5 := Lib.hid (vec_keep HVA.out hb5)
    have HZ5 : Hid (W4.heap.size ≤ w5.heap.size) := Lib.hid hb5.size
    clear c0 c1 f0 f1 d0 d1 g0 g1 hb5 hown5
    go_wp2
    go_loopw [23, 7] (fun i v wr => ∃ k : Nat, k ≤ L.length ∧ i = .int .i64 k ∧ VecAt (ordQ q xs ys k) w3 wr v ∧ Outside W4.heap.size w5.heap.size v ∧ Same W4.heap.size w5.heap.size w5 wr ∧ w5.heap.size ≤ wr.heap.size) (fun i _ _ => L.length - (intOf i).toNat)
    case atStart =>
      refine ⟨0, by omega, rfl, by rw [show ordQ q xs ys 0 = [] from rfl]; exact HV5.out, ?_, Same.refl _ _ _, Nat.le_refl _⟩
      intro k hk
      have : k = w3.heap.size := by simpa [Value.ownBlock] using hk.symm
      have := HSZ4.out
      omega
    case round =>
      obtain ⟨k, hk, rfl, ⟨av, cv, rfl, hown, hnx, hsz⟩, hout, hsame, hsz3⟩ := hrel
      obtain ⟨P, hP⟩ : ∃ P, ordQ q xs ys k = P := ⟨_, rfl⟩
      rw [hP] at hown hout ⊢
      have HPP := Lib.hid hP
      have HPL : P.length ≤ 1048577 := by rw [← hP]; have := ordQ_len q xs ys k; omega
      have HOW := Lib.hid hown
      have HX := Lib.hid hnx
      have HZ := Lib.hid hsz
      have HOUT := Lib.hid hout
      have HSAME := Lib.hid hsame
      have HZW := Lib.hid hsz3
      have HD : Hid (IntsAt wr a5 L.length L) := Lib.hid (intsAt_own (owns_same HOR.out hsame) HLI.out)
      clear hown hnx hsz hout hsame hsz3 hP
      by_cases hlt : k < L.length
      · obtain ⟨bq, off, z, rfl, hb, hs, hc, hz1, hz2⟩ := HD.out.at hlt
        obtain ⟨d, hd⟩ : ∃ d, (divsL q)[k]? = some d := ⟨_, List.getElem?_eq_getElem (by rw [← HLL.out]; exact hlt)⟩
        obtain ⟨hd1, hd2, hd3⟩ := divs_mem hd
        obtain rfl : z = d := by
          rw [← HL.out, divP_all, List.getElem?_map, hd] at hs
          exact (Option.some.inj hs).symm
        clear hs
        by_cases hd0 : 1 < d
        · cases hv : vanF q xs d
          · have HV : Hid (hasB (vanP q xs q) (d : Int) = false) := Lib.hid (by rw [has_van hd]; exact hv)
            cases hu : vanF q ys d
            · have HN := Lib.hid (ordQ_yes (xs := xs) (ys := ys) hd (by simp [ordF, hv, hu, hd0]))
              have HU : Hid (hasB (vanP q ys q) (d : Int) = false) := Lib.hid (by rw [has_van hd]; exact hu)
              clear hv hu hd
              go_wp2_with fail
              refine (has_any a2 (vanP q xs q).length c2 (vanP q xs q) (d : Int) _ (HM2.out.below HX.out) (by have := vanP_len q xs q; omega)).mono ?_
              rintro e w' ⟨rfl, rfl⟩
              rw [HV.out]
              go_wp2_with fail
              refine (has_any a3 (vanP q ys q).length c3 (vanP q ys q) (d : Int) _ (HM3.out.below HX.out) (by have := vanP_len q ys q; omega)).mono ?_
              rintro e w' ⟨rfl, rfl⟩
              rw [HU.out]
              go_wp2_with (at_builtin; refine append_out W4.heap.size w5.heap.size rfl _ _ rfl w3.heap.size _ P _ _ HOW.out HPL HZ.out HOUT.out HZW.out _ rfl rfl rfl ?_; intro a' c' w' hown' hb' hs' ho'; have HO2 := Lib.hid hown'; have HX2 := Lib.hid hb'; have HS2 := Lib.hid hs'; have HOUT2 := Lib.hid ho'; clear hown' hb' hs' ho')
              go_roundw
              case rel =>
                refine ⟨k + 1, by omega, by go_num, ?_, ?_, HSAME.out.trans HS2.out, ?_⟩
                · rw [HN.out, HPP.out]
                  have := vec_snoc HX.out HZ.out HO2.out HX2.out
                  simpa using this
                · simpa using HOUT2.out
                · exact Nat.le_trans HZW.out HX2.out.size
              case measure => simp [intOf]; omega
            · have HN := Lib.hid (ordQ_no (xs := xs) (ys := ys) hd (by simp [ordF, hu]))
              have HU : Hid (hasB (vanP q ys q) (d : Int) = true) := Lib.hid (by rw [has_van hd]; exact hu)
              clear hv hu hd
              go_wp2_with fail
              refine (has_any a2 (vanP q xs q).length c2 (vanP q xs q) (d : Int) _ (HM2.out.below HX.out) (by have := vanP_len q xs q; omega)).mono ?_
              rintro e w' ⟨rfl, rfl⟩
              rw [HV.out]
              go_wp2_with fail
              refine (has_any a3 (vanP q ys q).length c3 (vanP q ys q) (d : Int) _ (HM3.out.below HX.out) (by have := vanP_len q ys q; omega)).mono ?_
              rintro e w' ⟨rfl, rfl⟩
              rw [HU.out]
              go_wp2
              go_roundw
              case rel => exact ⟨k + 1, by omega, by go_num, by rw [HN.out, HPP.out]; exact ⟨av, cv, rfl, HOW.out, HX.out, HZ.out⟩, HOUT.out, HSAME.out, HZW.out⟩
              case measure => simp [intOf]; omega
          · have HV : Hid (hasB (vanP q xs q) (d : Int) = true) := Lib.hid (by rw [has_van hd]; exact hv)
            have HN := Lib.hid (ordQ_no (xs := xs) (ys := ys) hd (by simp [ordF, hv]))
            clear hv hd
            go_wp2_with fail
            refine (has_any a2 (vanP q xs q).length c2 (vanP q xs q) (d : Int) _ (HM2.out.below HX.out) (by have := vanP_len q xs q; omega)).mono ?_
            rintro e w' ⟨rfl, rfl⟩
            rw [HV.out]
            go_wp2
            go_roundw
            case rel => exact ⟨k + 1, by omega, by go_num, by rw [HN.out, HPP.out]; exact ⟨av, cv, rfl, HOW.out, HX.out, HZ.out⟩, HOUT.out, HSAME.out, HZW.out⟩
            case measure => simp [intOf]; omega
        · have e : d = 1 := by omega
          subst e
          have HN := Lib.hid (ordQ_no (xs := xs) (ys := ys) hd (by simp [ordF]))
          clear hd
          go_wp2
          go_roundw
          case rel => exact ⟨k + 1, by omega, by go_num, by rw [HN.out, HPP.out]; exact ⟨av, cv, rfl, HOW.out, HX.out, HZ.out⟩, HOUT.out, HSAME.out, HZW.out⟩
          case measure => simp [intOf]; omega
      · have e : k = (divsL q).length := by have := HLL.out; omega
        have HG : Hid (ordQ q xs ys (divsL q).length = P) := Lib.hid (by rw [← HPP.out, e])
        clear e
        go_wp2
        go_ret
        rw [HE.out, HG.out]
        exact ⟨av, cv, rfl, own_base HOW.out HB3.out.size, HB3.out.trans (HX.out.mono HB3.out.size)⟩
  · have HC := Lib.hid hc
    clear hc
    obtain ⟨c0, c1, f0, f1⟩ := HX0.out.1.facts
    obtain ⟨d0, d1, g0, g1⟩ := HY0.out.1.facts
    go_enter Try.func33, Try.ntmps33
    go_wp2_with fail
    rw [← HW.out]
    refine (two_no s a n ca xs t b m cb ys _ HX0.out.2 hn HY0.out.2 hm HC.out).mono ?_
    rintro e w1 ⟨rfl, hb1⟩
    have HB1 := Lib.hid (HB0.out.trans (hb1.mono HB0.out.size))
    have HX1 := Lib.hid (HX0.out.keep hb1)
    have HY1 := Lib.hid (HY0.out.keep hb1)
    clear c0 c1 f0 f1 d0 d1 g0 g1 hb1
    obtain ⟨c0, c1, f0, f1⟩ := HX1.out.1.facts
    obtain ⟨d0, d1, g0, g1⟩ := HY1.out.1.facts
    go_wp2
    go_ret
    exact ipost_nil HC.out HB1.out
end Go.Proofs.Ytdpcabiajhfllaa.Rhy
