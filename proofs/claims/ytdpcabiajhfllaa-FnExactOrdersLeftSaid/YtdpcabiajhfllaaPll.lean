/-
  Helpers of the claims beside this text: the polynomials of rhythms, their rests, and the orders at which they vanish: both sides.
-/
import Derived.Test.YtdpcabiajhfllaaPlk
import Derived.Test.YtdpcabiajhfllaaIvs
namespace Go.Proofs.Ytdpcabiajhfllaa.Rhy
open Go.RowKit
set_option linter.unusedVariables false
set_option linter.unusedSimpArgs false

theorem own_drop0 {w : World} {lo g N M : Nat} {L : List Int} (h : w.ownsRow lo 3 1 (.slice (some ⟨g, 0, none⟩) N M) N (ints L)) : w.ownsRow lo 3 1 (.slice (some ⟨g, 0, none⟩) N M) N (ints L) := h
theorem restZ_rem (n : Nat) (zs : List Int) (d : Nat) : remZ (polZ n zs) (cycL d) = restZ n zs d := rfl
theorem pol_bdN {n : Nat} {zs : List Int} : Bd (1000 : Nat) (polZ n zs) := (pol_bd n zs).mono (by omega)
theorem pol_int (n : Nat) (zs : List Int) : AllInt (polZ n zs) := bd_one (pol_bd n zs)
theorem restZ_le {n : Nat} {zs : List Int} {d : Nat} (hd : 1 ≤ d ∧ d ≤ 24) : (restZ n zs d).length ≤ 24 := by
  have h1 := restZ_len (n := n) (zs := zs) hd
  have := totP_le d d
  rw [totP_all] at this
  omega
theorem restZ_int {n : Nat} {zs : List Int} (hn : n ≤ 24) {d : Nat} (hd : 1 ≤ d ∧ d ≤ 24) : AllInt (restZ n zs d) := by
  refine bd_int (M := ((1 * 2 ^ (steps (polZ n zs) (cycL d)) : Nat) : Int)) (bd_trim (dvR_bd (M := 1) (pol_bd n zs) (cyc_bd hd) _)) ?_
  have h1 : steps (polZ n zs) (cycL d) ≤ 25 := by
    unfold steps
    have := pol_len n zs
    omega
  have h2 := Nat.pow_le_pow_right (n := 2) (by omega) h1
  have h3 : (2 ^ 25 : Nat) ≤ 100000000 := by decide
  omega


set_option maxHeartbeats 1000000 in
theorem pol0_spec (n : Nat) (a : Option Addr) (len cap : Nat) (zs : List Int) (w : World) (h : IntsAt w a len zs) (hm : len ≤ 1048576) (ho : Ok n zs) :
    Calls Try.prog 104 #[rhy n a len cap] w (IPart (polZ n zs) w) := by
  have HS := Lib.hid h
  have HO := Lib.hid ho
  have hn1 : 1 ≤ n := by have := ho.1.1; omega
  have hn24 : n ≤ 24 := by have := ho.1.2; omega
  have HLX := Lib.hid h.1
  clear h ho
  obtain ⟨i0, hi, hz0, hz1, hz2⟩ := info_parts infoInt
  have HI := Lib.hid (show _ ∧ _ ∧ _ ∧ _ from ⟨hi, hz0, hz1, hz2⟩)
  clear hi hz0 hz1 hz2
  obtain ⟨g, hg⟩ : ∃ g, g = w.heap.size := ⟨_, rfl⟩
  have HG := Lib.hid hg
  clear hg
  obtain ⟨W0, hW⟩ : ∃ W0, W0 = w.alloc (.cells #[.int .i64 n, .slice a len cap] 29) := ⟨_, rfl⟩
  have HW := Lib.hid hW
  clear hW
  have HSZ := Lib.hid (show W0.heap.size = g + 1 by rw [HW.out, HG.out]; simp)
  have HT0 := Lib.hid (show Box W0 g (.int .i64 n) (.slice a len cap) 29 by rw [HW.out, HG.out]; exact box_new w _ _ _)
  have HBW := Lib.hid (show Below g w W0 by rw [HW.out, HG.out]; exact bel1 w _)
  go_enter Try.func104, Try.ntmps104
  go_wp2_with (at_make; refine wpList_make_full _ rfl _ _ 24 rfl (g + 1) 3 i0 (.int .i64 0) 1 Try.underlying24 HI.out.1 HI.out.2.1 HI.out.2.2.1 .i64 .i64 n n n rfl rfl rfl rfl ?b2 ?b3 ?b4 ?_)
  case b2 => rw [HI.out.2.2.2]; omega
  case b3 => unfold maxLen; omega
  case b4 => have := HSZ.out; rw [HW.out] at this; omega
  rw [← HW.out]
  intro w1 hown hgrow
  have HOW := Lib.hid hown
  have HX : Hid (Below (g + 1) W0 w1) := Lib.hid ((Below.refl (g + 1) W0).grown hgrow (by have := HSZ.out; omega) (by intro k hk; cases hk))
  clear hown hgrow
  rw [← HG.out]
  rw [← HG.out] at HOW
  obtain ⟨c0, c1, f0, f1⟩ := (HT0.out.keep HX.out (by omega)).facts
  have HA : Hid (w1.ownsRow (g + 1) 3 1 (.slice (some ⟨g + 1, 0, none⟩) n n) n (ints (onesL n (zs.take 0))) ∧ Below g w w1) := Lib.hid ⟨by
    have := HOW.out
    rw [toList_madeCells_one] at this
    rw [List.take_zero, ones_zero]
    simpa [ints] using this, HBW.out.trans (HX.out.mono (by omega))⟩
  clear HOW HX
  go_wp2
  go_loopw [12] (fun i wr => ∃ k : Nat, k ≤ len ∧ i = .int .i64 k ∧ wr.ownsRow (g + 1) 3 1 (.slice (some ⟨g + 1, 0, none⟩) n n) n (ints (onesL n (zs.take k))) ∧ Below g w wr) (fun i _ => len - (intOf i).toNat)
  case atStart => exact ⟨0, by omega, rfl, HA.out⟩
  case round =>
    clear HA c0 c1 f0 f1
    obtain ⟨k, hk, rfl, hat, hnx⟩ := hrel
    have HAT := Lib.hid hat
    have HNX := Lib.hid hnx
    clear hat hnx
    have HJ : Hid (IntsAt wr a len zs) := Lib.hid (HS.out.below (by rw [← HG.out]; exact HNX.out))
    by_cases hlt : k < len
    · obtain ⟨b1, off, z, rfl, hb, hs, hc, hz1, hz2⟩ := HJ.out.at hlt
      obtain ⟨hz0, hzn⟩ := ok_at HO.out hs
      obtain ⟨r, hr⟩ : ∃ r : Nat, z = r := ⟨z.toNat, by omega⟩
      have HPN := Lib.hid (ones_snoc (n := n) hs ⟨hz0, hzn⟩)
      subst hr
      rw [Int.toNat_natCast] at HPN
      have hcr := HAT.out.cellAt r (by omega)
      have hfr := HAT.out.frozenAt r
      obtain ⟨v, hv⟩ : ∃ v, wr.cell? ⟨g + 1, r, none⟩ = some v := by
        rw [hcr]
        exact ⟨_, List.getElem?_eq_getElem (by have := HAT.out.1; omega)⟩
      clear hs hcr
      go_wp2
      go_roundw
      case rel =>
        have hst := HAT.out.stored r (.int .i64 1)
        rw [ints, ← List.map_set, ← HPN.out] at hst
        exact ⟨k + 1, by omega, by go_num, hst.1, HNX.out.setCell (by show g ≤ g + 1; omega) _⟩
      case measure => simp [intOf]; omega
    · have HE : Hid (onesL n (zs.take k) = onesL n zs) := Lib.hid (by rw [show k = zs.length by have := HLX.out; omega, List.take_length])
      have HIN : Hid (IntsAt wr (some ⟨g + 1, 0, none⟩) n (onesL n zs)) := Lib.hid (by
        have h1 := HAT.out
        rw [HE.out] at h1
        exact intsAt_own h1 (bd_one (ones_bd n zs)))
      go_wp2_with fail
      refine (trim_spec _ _ _ _ _ HIN.out (by omega) (Nat.le_refl _)).mono ?_
      rintro e w' ⟨rfl, rfl⟩
      go_wp2
      go_ret
      have h1 := HAT.out
      rw [HE.out] at h1
      refine ⟨some ⟨g + 1, 0, none⟩, _, rfl, ?_, ?_⟩
      · rw [← HG.out]
        exact (prow_own h1 0 _ _ (by have h1 := pol_len n zs; omega) (by rw [List.drop_zero]; exact (trim_is_take _).symm)).lo (by omega)
      · rw [← HG.out]
        exact HNX.out


set_option maxHeartbeats 1000000 in
theorem pol0_impl (n : Nat) (a : Option Addr) (len cap : Nat) (zs : List Int) (w : World) (h : IntsAt w a len zs) (hm : len ≤ 1048576) (ho : Ok n zs) :
    Calls Try.prog 110 #[rhy n a len cap] w (IPart (polZ n zs) w) := by
  have HS := Lib.hid h
  have HO := Lib.hid ho
  have hn1 : 1 ≤ n := by have := ho.1.1; omega
  have hn24 : n ≤ 24 := by have := ho.1.2; omega
  have HLX := Lib.hid h.1
  clear h ho
  obtain ⟨i0, hi, hz0, hz1, hz2⟩ := info_parts infoInt
  have HI := Lib.hid (show _ ∧ _ ∧ _ ∧ _ from ⟨hi, hz0, hz1, hz2⟩)
  clear hi hz0 hz1 hz2
  obtain ⟨g, hg⟩ : ∃ g, g = w.heap.size := ⟨_, rfl⟩
  have HG := Lib.hid hg
  clear hg
  obtain ⟨W0, hW⟩ : ∃ W0, W0 = w.alloc (.cells #[.int .i64 n, .slice a len cap] 29) := ⟨_, rfl⟩
  have HW := Lib.hid hW
  clear hW
  have HSZ := Lib.hid (show W0.heap.size = g + 1 by rw [HW.out, HG.out]; simp)
  have HT0 := Lib.hid (show Box W0 g (.int .i64 n) (.slice a len cap) 29 by rw [HW.out, HG.out]; exact box_new w _ _ _)
  have HBW := Lib.hid (show Below g w W0 by rw [HW.out, HG.out]; exact bel1 w _)
  go_enter Try.func110, Try.ntmps110
  go_wp2_with (at_make; refine wpList_make_full _ rfl _ _ 86 rfl (g + 1) 3 i0 (.int .i64 0) 1 Try.underlying86 HI.out.1 HI.out.2.1 HI.out.2.2.1 .i64 .i64 n n n rfl rfl rfl rfl ?b2 ?b3 ?b4 ?_)
  case b2 => rw [HI.out.2.2.2]; omega
  case b3 => unfold maxLen; omega
  case b4 => have := HSZ.out; rw [HW.out] at this; omega
  rw [← HW.out]
  intro w1 hown hgrow
  have HOW := Lib.hid hown
  have HX : Hid (Below (g + 1) W0 w1) := Lib.hid ((Below.refl (g + 1) W0).grown hgrow (by have := HSZ.out; omega) (by intro k hk; cases hk))
  clear hown hgrow
  rw [← HG.out]
  rw [← HG.out] at HOW
  obtain ⟨c0, c1, f0, f1⟩ := (HT0.out.keep HX.out (by omega)).facts
  have HA : Hid (w1.ownsRow (g + 1) 3 1 (.slice (some ⟨g + 1, 0, none⟩) n n) n (ints (onesL n (zs.take 0))) ∧ Below g w w1) := Lib.hid ⟨by
    have := HOW.out
    rw [toList_madeCells_one] at this
    rw [List.take_zero, ones_zero]
    simpa [ints] using this, HBW.out.trans (HX.out.mono (by omega))⟩
  clear HOW HX
  go_wp2
  go_loopw [12] (fun i wr => ∃ k : Nat, k ≤ len ∧ i = .int .i64 k ∧ wr.ownsRow (g + 1) 3 1 (.slice (some ⟨g + 1, 0, none⟩) n n) n (ints (onesL n (zs.take k))) ∧ Below g w wr) (fun i _ => len - (intOf i).toNat)
  case atStart => exact ⟨0, by omega, rfl, HA.out⟩
  case round =>
    clear HA c0 c1 f0 f1
    obtain ⟨k, hk, rfl, hat, hnx⟩ := hrel
    have HAT := Lib.hid hat
    have HNX := Lib.hid hnx
    clear hat hnx
    have HJ : Hid (IntsAt wr a len zs) := Lib.hid (HS.out.below (by rw [← HG.out]; exact HNX.out))
    by_cases hlt : k < len
    · obtain ⟨b1, off, z, rfl, hb, hs, hc, hz1, hz2⟩ := HJ.out.at hlt
      obtain ⟨hz0, hzn⟩ := ok_at HO.out hs
      obtain ⟨r, hr⟩ : ∃ r : Nat, z = r := ⟨z.toNat, by omega⟩
      have HPN := Lib.hid (ones_snoc (n := n) hs ⟨hz0, hzn⟩)
      subst hr
      rw [Int.toNat_natCast] at HPN
      have hcr := HAT.out.cellAt r (by omega)
      have hfr := HAT.out.frozenAt r
      obtain ⟨v, hv⟩ : ∃ v, wr.cell? ⟨g + 1, r, none⟩ = some v := by
        rw [hcr]
        exact ⟨_, List.getElem?_eq_getElem (by have := HAT.out.1; omega)⟩
      clear hs hcr
      go_wp2
      go_roundw
      case rel =>
        have hst := HAT.out.stored r (.int .i64 1)
        rw [ints, ← List.map_set, ← HPN.out] at hst
        exact ⟨k + 1, by omega, by go_num, hst.1, HNX.out.setCell (by show g ≤ g + 1; omega) _⟩
      case measure => simp [intOf]; omega
    · have HE : Hid (onesL n (zs.take k) = onesL n zs) := Lib.hid (by rw [show k = zs.length by have := HLX.out; omega, List.take_length])
      have HIN : Hid (IntsAt wr (some ⟨g + 1, 0, none⟩) n (onesL n zs)) := Lib.hid (by
        have h1 := HAT.out
        rw [HE.out] at h1
        exact intsAt_own h1 (bd_one (ones_bd n zs)))
      go_wp2_with fail
      refine (trim_impl _ _ _ _ _ HIN.out (by omega) (Nat.le_refl _)).mono ?_
      rintro e w' ⟨rfl, rfl⟩
      go_wp2
      go_ret
      have h1 := HAT.out
      rw [HE.out] at h1
      refine ⟨some ⟨g + 1, 0, none⟩, _, rfl, ?_, ?_⟩
      · rw [← HG.out]
        exact (prow_own h1 0 _ _ (by have h1 := pol_len n zs; omega) (by rw [List.drop_zero]; exact (trim_is_take _).symm)).lo (by omega)
      · rw [← HG.out]
        exact HNX.out


/-- What both answer. -/
noncomputable def polB (s : Int) (zs : List Int) : List Int := cZ (Ok s zs) (polZ s.toNat zs)
theorem polB_int (s : Int) (zs : List Int) : AllInt (polB s zs) := by
  unfold polB
  by_cases h : Ok s zs
  · rw [cZ_yes h]; exact pol_int _ _
  · rw [cZ_no h]; intro z hz; cases hz
theorem polB_len (s : Int) (zs : List Int) : (polB s zs).length ≤ 24 := by
  unfold polB
  by_cases h : Ok s zs
  · rw [cZ_yes h]; exact Nat.le_trans (pol_len _ _) (by have := h.1; omega)
  · rw [cZ_no h]; simp
def ResC (s : Int) (zs : List Int) (d : Int) : Prop := Ok s zs ∧ OrdC d
noncomputable def resB (s : Int) (zs : List Int) (d : Int) : List Int := cZ (ResC s zs d) (restZ s.toNat zs d.toNat)
theorem resB_int (s : Int) (zs : List Int) (d : Int) : AllInt (resB s zs d) := by
  unfold resB
  by_cases h : ResC s zs d
  · rw [cZ_yes h]; exact restZ_int (by have := h.1.1; omega) (by have := h.2.1; have := h.2.2; omega)
  · rw [cZ_no h]; intro z hz; cases hz
theorem resB_len (s : Int) (zs : List Int) (d : Int) : (resB s zs d).length ≤ 24 := by
  unfold resB
  by_cases h : ResC s zs d
  · rw [cZ_yes h]; exact restZ_le (by have := h.2.1; have := h.2.2; omega)
  · rw [cZ_no h]; simp
noncomputable def vanB (s : Int) (zs : List Int) (d : Int) : Bool := cB (ResC s zs d ∧ restZ s.toNat zs d.toNat = [])
/-- The orders up to k at which a rhythm vanishes. -/
def vanF (n : Nat) (zs : List Int) (d : Nat) : Bool := decide (1 < d) && (restZ n zs d).isEmpty
def vanP (n : Nat) (zs : List Int) (k : Nat) : List Int := ((List.range' 1 k).filter fun d => n % d == 0 && vanF n zs d).map fun d : Nat => (d : Int)
def vanQ (n : Nat) (zs : List Int) (j : Nat) : List Int := (((divsL n).take j).filter fun d => vanF n zs d).map fun d : Nat => (d : Int)
theorem vanQ_all (n : Nat) (zs : List Int) : vanQ n zs (divsL n).length = vanP n zs n := by
  unfold vanQ vanP
  rw [List.take_length, divsL, List.filter_filter]
  congr 1
  refine List.filter_congr fun d _ => ?_
  rw [Bool.and_comm]
theorem vanQ_yes {n : Nat} {zs : List Int} {j d : Nat} (h : (divsL n)[j]? = some d) (hv : vanF n zs d = true) : vanQ n zs (j + 1) = vanQ n zs j ++ [(d : Int)] := by
  unfold vanQ
  rw [List.take_add_one, h, List.filter_append, List.map_append]
  congr 1
  simp [hv]
theorem vanQ_no {n : Nat} {zs : List Int} {j d : Nat} (h : (divsL n)[j]? = some d) (hv : vanF n zs d = false) : vanQ n zs (j + 1) = vanQ n zs j := by
  unfold vanQ
  rw [List.take_add_one, h, List.filter_append, List.map_append]
  simp [hv]
theorem vanP_yes {n : Nat} {zs : List Int} {k : Nat} (h : n % (k + 1) = 0) (hv : vanF n zs (k + 1) = true) : vanP n zs (k + 1) = vanP n zs k ++ [((k + 1 : Nat) : Int)] := by
  unfold vanP
  rw [List.range'_1_concat, List.filter_append, List.map_append, Nat.add_comm 1 k]
  congr 1
  rw [List.filter_cons_of_pos (by simp [h, hv])]
  rfl
theorem vanP_no {n : Nat} {zs : List Int} {k : Nat} (h : ¬ (n % (k + 1) = 0 ∧ vanF n zs (k + 1) = true)) : vanP n zs (k + 1) = vanP n zs k := by
  unfold vanP
  rw [List.range'_1_concat, List.filter_append, List.map_append, Nat.add_comm 1 k]
  rw [List.filter_cons_of_neg (by simpa using h)]
  simp
theorem vanP_len (n : Nat) (zs : List Int) (k : Nat) : (vanP n zs k).length ≤ k := by
  unfold vanP
  rw [List.length_map]
  exact Nat.le_trans (List.length_filter_le _ _) (by simp)
theorem vanQ_len (n : Nat) (zs : List Int) (j : Nat) : (vanQ n zs j).length ≤ j := by
  unfold vanQ
  rw [List.length_map]
  exact Nat.le_trans (List.length_filter_le _ _) (by simp; omega)
noncomputable def vorB (s : Int) (zs : List Int) : List Int := cZ (Ok s zs) (vanP s.toNat zs s.toNat)
theorem vorB_int (s : Int) (zs : List Int) : AllInt (vorB s zs) := by
  unfold vorB
  by_cases h : Ok s zs
  · rw [cZ_yes h]
    intro z hz
    unfold vanP at hz
    rw [List.mem_map] at hz
    obtain ⟨d, hd, rfl⟩ := hz
    have := List.mem_range'_1.1 (List.mem_filter.1 hd).1
    have := h.1
    omega
  · rw [cZ_no h]; intro z hz; cases hz
theorem vorB_len (s : Int) (zs : List Int) : (vorB s zs).length ≤ 24 := by
  unfold vorB
  by_cases h : Ok s zs
  · rw [cZ_yes h]; exact Nat.le_trans (vanP_len _ _ _) (by have := h.1; omega)
  · rw [cZ_no h]; simp
theorem vanF_one (n : Nat) (zs : List Int) : vanF n zs 1 = false := by simp [vanF]
theorem vanF_iff {n : Nat} {zs : List Int} {d : Nat} (h : 1 < d) : vanF n zs d = (restZ n zs d).isEmpty := by simp [vanF, h]




set_option maxHeartbeats 1000000 in
theorem rest_any (q : Nat) (a : Option Addr) (len cap : Nat) (zs : List Int) (N : Nat) (w : World) (h : IntsAt w a len zs) (hm : len ≤ 1048576) (ho : Ok q zs) (hN1 : 1 ≤ N) (hN2 : N ≤ 24) :
    Calls Try.prog 91 #[rhy q a len cap, .int .i64 N] w (IPart (restZ q zs N) w) := by
  have FA := Lib.hid h
  have HC := Lib.hid ho
  clear h ho
  obtain ⟨W0, hW⟩ : ∃ W0, W0 = w.alloc (.cells #[.int .i64 q, .slice a len cap] 29) := ⟨_, rfl⟩
  have HW := Lib.hid hW
  have HB0 := Lib.hid (show Below w.heap.size w W0 by rw [hW]; exact bel1 w _)
  have HX0 : Hid (RhI W0 w.heap.size q a len cap zs) := Lib.hid ⟨by rw [hW]; exact box_new w _ _ _, FA.out.below HB0.out⟩
  clear hW FA
  obtain ⟨c0, c1, f0, f1⟩ := HX0.out.1.facts
  go_enter Try.func91, Try.ntmps91
  go_wp2_with fail
  rw [← HW.out]
  refine (pol0_impl q a len cap zs _ HX0.out.2 hm HC.out).mono ?_
  rintro e wp ⟨ap, cp, rfl, hrp, hbp⟩
  have HRP := Lib.hid (hrp.lo (Nat.le_refl _))
  have HBP := Lib.hid (HB0.out.trans (hbp.mono HB0.out.size))
  have hsp := hbp.size
  clear hrp hbp c0 c1 f0 f1
  go_wp2_with fail
  refine (cyc_any 24 N _ hN2 hN1 hN2).mono ?_
  rintro e wc ⟨ac, cc, rfl, hrc, hbc, hcc⟩
  have HRC := Lib.hid hrc
  have HRQ := Lib.hid (HRP.out.keep hbc)
  have HBC := Lib.hid (HBP.out.trans (hbc.mono HBP.out.size))
  clear hrc hbc HRP
  go_wp2_with fail
  refine (div_any ap _ cp (polZ q zs) ac _ cc (cycL N) _ (HRQ.out.at (pol_int _ _)) (HRC.out.at (cyc_int ⟨hN1, hN2⟩)) (totN N) (cyc_facts ⟨hN1, hN2⟩).1 (cyc_facts ⟨hN1, hN2⟩).2.2 (by have := totP_le N N; rw [totP_all] at this; omega) hcc (cyc_facts ⟨hN1, hN2⟩).2.1 pol_bdN (cyc_bd ⟨hN1, hN2⟩) (Nat.le_trans (pol_len _ _) (by have := HC.out.1; omega))).mono ?_
  rintro e wd ⟨a4, c4, b4, d4, rfl, hq4, hr4, hb4, _, _⟩
  rw [restZ_rem] at hr4
  have HR4 := Lib.hid (hr4.lo HBC.out.size)
  have HB4 := Lib.hid (HBC.out.trans (hb4.mono HBC.out.size))
  clear hq4 hr4 hb4
  rw [restZ_rem]
  go_wp2
  go_ret
  exact ⟨b4, d4, rfl, HR4.out, HB4.out⟩


set_option maxHeartbeats 1000000 in
theorem res_spec (s : Int) (a : Option Addr) (len cap : Nat) (zs : List Int) (d : Int) (w : World) (h : IntsAt w a len zs) (hz : zs.length ≤ 1048576) (h3 : -9223372036854775808 ≤ d) (h4 : d ≤ 9223372036854775807) :
    Calls Try.prog 77 #[rhy s a len cap, .int .i64 d] w (IPart (resB s zs d) w) := by
  have FA := Lib.hid h
  have hm : len ≤ 1048576 := by have := h.1; omega
  clear h
  obtain ⟨W0, hW⟩ : ∃ W0, W0 = w.alloc (.cells #[.int .i64 s, .slice a len cap] 29) := ⟨_, rfl⟩
  have HW := Lib.hid hW
  have HB0 := Lib.hid (show Below w.heap.size w W0 by rw [hW]; exact bel1 w _)
  have HX0 : Hid (RhI W0 w.heap.size s a len cap zs) := Lib.hid ⟨by rw [hW]; exact box_new w _ _ _, FA.out.below HB0.out⟩
  clear hW FA
  obtain ⟨c0, c1, f0, f1⟩ := HX0.out.1.facts
  by_cases hc : Ok s zs
  · have HC := Lib.hid hc
    by_cases hd : OrdC d
    · have HD := Lib.hid hd
      have HE : Hid (resB s zs d = restZ s.toNat zs d.toNat) := Lib.hid (cZ_yes ⟨hc, hd⟩)
      obtain ⟨q, hq⟩ : ∃ q : Nat, s = q := ⟨s.toNat, by have := hc.1; omega⟩
      obtain ⟨N, hN⟩ : ∃ N : Nat, d = N := ⟨d.toNat, by have := hd.1; omega⟩
      have hN1 : 1 ≤ N := by have := hd.1; omega
      have hN2 : N ≤ 24 := by have := hd.2; omega
      clear hc hd
      subst hq hN
      rw [Int.toNat_natCast, Int.toNat_natCast] at HE
      go_enter Try.func77, Try.ntmps77
      go_wp2_with fail
      rw [← HW.out]
      refine (ok_yes q a len cap zs _ HX0.out.2 hm HC.out).mono ?_
      rintro e w1 ⟨rfl, hb1⟩
      have HB1 := Lib.hid (HB0.out.trans (hb1.mono HB0.out.size))
      have HX1 := Lib.hid (HX0.out.keep hb1)
      clear c0 c1 f0 f1 hb1
      obtain ⟨c0, c1, f0, f1⟩ := HX1.out.1.facts
      go_wp2_with fail
      refine (in_yes N 1 24 _ HD.out.1 HD.out.2).mono ?_
      rintro e w' ⟨rfl, rfl⟩
      go_wp2_with fail
      refine (pol0_spec q a len cap zs _ HX1.out.2 hm HC.out).mono ?_
      rintro e wp ⟨ap, cp, rfl, hrp, hbp⟩
      have HRP := Lib.hid (hrp.lo (Nat.le_refl _))
      have HBP := Lib.hid (HB1.out.trans (hbp.mono HB1.out.size))
      have hsp := hbp.size
      clear hrp hbp c0 c1 f0 f1
      go_wp2_with fail
      refine (cycs_any 24 N _ hN2 hN1 hN2).mono ?_
      rintro e wc ⟨ac, cc, rfl, hrc, hbc, hcc⟩
      have HRC := Lib.hid hrc
      have HRQ := Lib.hid (HRP.out.keep hbc)
      have HBC := Lib.hid (HBP.out.trans (hbc.mono HBP.out.size))
      clear hrc hbc HRP
      go_wp2_with fail
      refine (divide_spec ap _ cp (polZ q zs) ac _ cc (cycL N) _ (HRQ.out.at (pol_int _ _)) (HRC.out.at (cyc_int ⟨hN1, hN2⟩)) (totN N) (cyc_facts ⟨hN1, hN2⟩).1 (by have := totP_le N N; rw [totP_all] at this; omega) (cyc_facts ⟨hN1, hN2⟩).2.1 pol_bdN (cyc_bd ⟨hN1, hN2⟩) (Nat.le_trans (pol_len _ _) (by have := HC.out.1; omega))).mono ?_
      rintro e wd ⟨a4, c4, b4, d4, rfl, hq4, hr4, hb4, _, _⟩
      rw [restZ_rem] at hr4
      have HR4 := Lib.hid (hr4.lo HBC.out.size)
      have HB4 := Lib.hid (HBC.out.trans (hb4.mono HBC.out.size))
      clear hq4 hr4 hb4
      rw [restZ_rem]
      go_wp2
      go_ret
      rw [HE.out]
      exact ⟨b4, d4, rfl, HR4.out, HB4.out⟩
    · have HD := Lib.hid hd
      have HN : Hid (¬ ResC s zs d) := Lib.hid (fun h => hd h.2)
      clear hc hd
      go_enter Try.func77, Try.ntmps77
      go_wp2_with fail
      rw [← HW.out]
      refine (ok_yes s a len cap zs _ HX0.out.2 hm HC.out).mono ?_
      rintro e w1 ⟨rfl, hb1⟩
      have HB1 := Lib.hid (HB0.out.trans (hb1.mono HB0.out.size))
      have HX1 := Lib.hid (HX0.out.keep hb1)
      clear c0 c1 f0 f1 hb1
      obtain ⟨c0, c1, f0, f1⟩ := HX1.out.1.facts
      go_wp2_with fail
      refine (in_no d 1 24 _ HD.out).mono ?_
      rintro e w' ⟨rfl, rfl⟩
      go_wp2
      go_ret
      exact ipart_of (ipost_nil HN.out HB1.out)
  · have HC := Lib.hid hc
    have HN : Hid (¬ ResC s zs d) := Lib.hid (fun h => hc h.1)
    clear hc
    go_enter Try.func77, Try.ntmps77
    go_wp2_with fail
    rw [← HW.out]
    refine (ok_no s a len cap zs _ HX0.out.2 hm HC.out).mono ?_
    rintro e w1 ⟨rfl, hb⟩
    have HB := Lib.hid (HB0.out.trans (hb.mono HB0.out.size))
    clear hb
    go_wp2
    go_ret
    exact ipart_of (ipost_nil HN.out HB.out)



end Go.Proofs.Ytdpcabiajhfllaa.Rhy
