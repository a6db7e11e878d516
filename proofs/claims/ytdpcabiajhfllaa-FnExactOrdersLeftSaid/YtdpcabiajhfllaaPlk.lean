/-
  Helpers of the claims beside this text: the model's cyclotomic polynomials; Cyclotomic of both sides.
-/
import Derived.Test.YtdpcabiajhfllaaPlj
namespace Go.Proofs.Ytdpcabiajhfllaa.Rhy
open Go.RowKit
set_option linter.unusedVariables false
set_option linter.unusedSimpArgs false

theorem cycM_tab2 : ((List.range' 1 24).all fun n => (List.range n).all fun k => smallB (cycM n cycL k)) = true := by decide +kernel
theorem cycM_small {n : Nat} (hn : 1 ≤ n ∧ n ≤ 24) {k : Nat} (hk : k < n) : smallB (cycM n cycL k) = true := by
  have h := List.all_eq_true.1 cycM_tab2 n (List.mem_range'_1.2 (by omega))
  exact List.all_eq_true.1 h k (List.mem_range.2 hk)

set_option maxHeartbeats 1000000 in
theorem cycs_any (N : Nat) : ∀ (n : Nat) (w : World), n ≤ N → 1 ≤ n → n ≤ 24 → Calls Try.prog 105 #[.int .i64 n] w (ICap (cycL n) w) := by
  induction N with
  | zero => intro n w h1 h2; omega
  | succ N ih =>
    intro n w h1 h2 h3
    have IH := Lib.hid ih
    clear ih
    obtain ⟨i0, hi, hz0, hz1, hz2⟩ := info_parts infoInt
    have HI := Lib.hid (show _ ∧ _ ∧ _ ∧ _ from ⟨hi, hz0, hz1, hz2⟩)
    clear hi hz0 hz1 hz2
    obtain ⟨g, hg⟩ : ∃ g, g = w.heap.size := ⟨_, rfl⟩
    have HG := Lib.hid hg
    clear hg
    go_enter Try.func105, Try.ntmps105
    go_wp2_with (at_make; refine wpList_make_full _ rfl _ _ 24 rfl g 3 i0 (.int .i64 0) 1 Try.underlying24 HI.out.1 HI.out.2.1 HI.out.2.2.1 .i64 .i64 (n + 1) (n + 1) (n + 1) rfl rfl (by go_num) (by go_num) ?b2 ?b3 ?b4 ?_)
    case b2 => rw [HI.out.2.2.2]; omega
    case b3 => unfold maxLen; omega
    case b4 => have := HG.out; omega
    intro w1 hown hgrow
    have HX : Hid (Below g w w1) := Lib.hid ((Below.refl g w).grown hgrow (by have := HG.out; omega) (by intro k hk; cases hk))
    have HOW : Hid (w1.ownsRow g 3 1 (.slice (some ⟨g, 0, none⟩) (n + 1) (n + 1)) (n + 1) (ints (List.replicate (n + 1) 0))) := Lib.hid (by
      rw [← HG.out] at hown
      rw [toList_madeCells_one] at hown
      simpa [ints] using hown)
    clear hown hgrow
    rw [← HG.out]
    have HO1 := Lib.hid (HOW.out.stored 0 (.int .i64 (-1))).1
    have HO2 := Lib.hid (HO1.out.stored n (.int .i64 1)).1
    have f1 := HOW.out.frozenAt 0
    have f2 := HO1.out.frozenAt n
    have q1 : w1.cell? ⟨g, 0, none⟩ = some (.int .i64 0) := by rw [HOW.out.cellAt 0 (by omega), ints, List.getElem?_map, List.getElem?_replicate, if_pos (by omega)]; rfl
    obtain ⟨v2, q2⟩ : ∃ v, (w1.setCell ⟨g, 0, none⟩ (.int .i64 (-1))).cell? ⟨g, n, none⟩ = some v := by
      rw [HO1.out.cellAt n (by omega)]
      exact ⟨_, List.getElem?_eq_getElem (by have := HO1.out.1; omega)⟩
    obtain ⟨W, hW⟩ : ∃ W, (w1.setCell ⟨g, 0, none⟩ (.int .i64 (-1))).setCell ⟨g, n, none⟩ (.int .i64 1) = W := ⟨_, rfl⟩
    have HW := Lib.hid hW
    have HA : Hid (W.ownsRow g 3 1 (.slice (some ⟨g, 0, none⟩) (n + 1) (n + 1)) (n + 1) (ints (xn1 n)) ∧ Below g w W) := Lib.hid (by
      have h3 := HO2.out
      rw [ints, ← List.map_set, ← List.map_set, xn1_set h2, hW] at h3
      refine ⟨h3, ?_⟩
      rw [← hW]
      exact (HX.out.setCell (Nat.le_refl _) _).setCell (Nat.le_refl _) _)
    clear hW
    go_wp2
    rw [HW.out]
    go_loopw [4, 3] (fun i v wr => ∃ k : Nat, k + 1 ≤ n ∧ i = .int .i64 ((k : Int) + 1) ∧ (∃ a c, v = .slice a (cycM n cycL k).length c ∧ PRow wr w.heap.size wr.heap.size a (cycM n cycL k).length c (cycM n cycL k) ∧ (cycM n cycL k).length ≤ c) ∧ Below w.heap.size w wr) (fun i _ _ => n + 1 - (intOf i).toNat)
    case atStart =>
      refine ⟨0, by omega, rfl, ⟨some ⟨g, 0, none⟩, n + 1, by rw [cycM_zero, xn1_len h2], ?_, by rw [cycM_zero, xn1_len h2]; exact Nat.le_refl _⟩, by rw [← HG.out]; exact HA.out.2⟩
      rw [cycM_zero, xn1_len h2]
      refine prow_of ?_
      rw [← HG.out]
      exact HA.out.1
    case round =>
      clear HA HOW HO1 HO2 HX f1 f2 q1 q2
      obtain ⟨k, hk, rfl, ⟨a, c, rfl, hrow, hcc⟩, hnx⟩ := hrel
      have HSM : Hid (smallB (cycM n cycL k) = true) := Lib.hid (cycM_small ⟨h2, h3⟩ (by omega))
      obtain ⟨P, hP⟩ : ∃ P, cycM n cycL k = P := ⟨_, rfl⟩
      rw [hP] at hrow hcc HSM ⊢
      have HPP := Lib.hid hP
      have HROW := Lib.hid hrow
      have HX := Lib.hid hnx
      clear hrow hnx hP
      by_cases hlt : k + 1 < n
      · have hz : ((k : Int) + 1 == 0) = false := by simp; omega
        have ht : (n : Int) % ((k : Int) + 1) = ((n % (k + 1) : Nat) : Int) := by simp
        by_cases hd : n % (k + 1) = 0
        · have HCS : Hid (cycM n cycL (k + 1) = quoZ P (cycL (k + 1))) := Lib.hid (by rw [cycM_yes hd, HPP.out]; rfl)
          rw [hd] at ht
          have ht2 : (n : Int) % ((k : Int) + 1) = 0 := ht
          clear ht hd
          go_wp2_with fail
          refine (IH.out (k + 1) _ (by omega) (by omega) (by omega)).mono ?_
          rintro e w3 ⟨a3, c3, rfl, hr3, hb3, hc3⟩
          have HR3 := Lib.hid (HROW.out.keep hb3)
          have HX3 := Lib.hid (HX.out.trans (hb3.mono HX.out.size))
          have HQ3 := Lib.hid hr3
          have hd1 : 1 ≤ k + 1 ∧ k + 1 ≤ 24 := by omega
          have HD1 := Lib.hid hd1
          clear hr3 hb3 hc3 hd1
          go_wp2_with fail
          refine (divide_spec a P.length c P a3 _ c3 (cycL (k + 1)) _ (HR3.out.at (bd_int (smallB_bd HSM.out) (by omega))) (HQ3.out.at (cyc_int HD1.out)) (totN (k + 1)) (cyc_facts HD1.out).1 (by have := totP_le (k + 1) (k + 1); rw [totP_all] at this; omega) (cyc_facts HD1.out).2.1 (smallB_bd HSM.out) (cyc_bd HD1.out) (smallB_len HSM.out)).mono ?_
          rintro e w4 ⟨a4, c4, b4, d4, rfl, hq4, hr4, hb4, hc4, _⟩
          have HQ4 := Lib.hid hq4
          have HB4 := Lib.hid hb4
          have HC4 := Lib.hid hc4
          clear hq4 hr4 hb4 hc4
          go_wp2
          go_roundw
          case rel =>
            refine ⟨k + 1, by omega, by go_num, ⟨a4, c4, by rw [HCS.out], ?_, by rw [HCS.out]; exact HC4.out⟩, HX3.out.trans (HB4.out.mono HX3.out.size)⟩
            rw [HCS.out]
            exact HQ4.out.lo HX3.out.size
          case measure => simp [intOf]; omega
        · have HCS : Hid (cycM n cycL (k + 1) = P) := Lib.hid (by rw [cycM_no hd, HPP.out])
          have hq : ((n : Int) % ((k : Int) + 1) == 0) = false := by rw [ht]; simp only [beq_eq_false_iff_ne]; omega
          clear ht hd
          go_wp2
          go_roundw
          case rel => exact ⟨k + 1, by omega, by go_num, ⟨a, c, by rw [HCS.out], by rw [HCS.out]; exact HROW.out, by rw [HCS.out]; exact hcc⟩, HX.out⟩
          case measure => simp [intOf]; omega
      · have HE : Hid (P = cycL n) := Lib.hid (by rw [← HPP.out, show k = n - 1 by omega, cycM_all ⟨h2, h3⟩])
        go_wp2
        go_ret
        rw [← HE.out]
        exact ⟨a, c, rfl, HROW.out, HX.out, hcc⟩
/-- What both answer. -/
noncomputable def cycB (n : Int) : List Int := cZ (OrdC n) (cycL n.toNat)
theorem cycB_int (n : Int) : AllInt (cycB n) := by
  unfold cycB
  by_cases h : OrdC n
  · rw [cZ_yes h]; exact cyc_int (by have := h.1; have := h.2; omega)
  · rw [cZ_no h]; intro z hz; cases hz
theorem cyc_len25 {n : Nat} (h : 1 ≤ n ∧ n ≤ 24) : (cycL n).length ≤ 25 := by
  rw [(cyc_facts h).1]
  have := totP_le n n
  rw [totP_all] at this
  omega
theorem cycB_len (n : Int) : (cycB n).length ≤ 25 := by
  unfold cycB
  by_cases h : OrdC n
  · rw [cZ_yes h]; exact cyc_len25 (by have := h.1; have := h.2; omega)
  · rw [cZ_no h]; simp




end Go.Proofs.Ytdpcabiajhfllaa.Rhy
