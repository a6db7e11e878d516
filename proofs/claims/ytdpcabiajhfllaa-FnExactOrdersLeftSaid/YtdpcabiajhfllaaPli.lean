/-
  Helpers of the claims beside this text: the program's cyclotomic polynomials.
-/
import Derived.Test.YtdpcabiajhfllaaPlg
import Derived.Test.YtdpcabiajhfllaaPlh
namespace Go.Proofs.Ytdpcabiajhfllaa.Rhy
open Go.RowKit
set_option linter.unusedVariables false
set_option linter.unusedSimpArgs false

/-- x^n - 1 divided by those of the lesser divisors, one by one. -/
def cycP (n k : Nat) : List Int := ((divsL n).take k).foldl (fun a d => if d < n then quoZ a (cycL d) else a) (xn1 n)
theorem cycP_zero (n : Nat) : cycP n 0 = xn1 n := by simp [cycP]
theorem cycP_succ {n k d : Nat} (h : (divsL n)[k]? = some d) : cycP n (k + 1) = if d < n then quoZ (cycP n k) (cycL d) else cycP n k := by
  unfold cycP
  rw [List.take_add_one, h, List.foldl_append]
  rfl
def smallB (l : List Int) : Bool := decide (l.length ≤ 25) && l.all fun x => decide (-1000 ≤ x ∧ x ≤ 1000)
theorem smallB_len {l : List Int} (h : smallB l = true) : l.length ≤ 25 := by
  unfold smallB at h
  simp only [Bool.and_eq_true, decide_eq_true_eq] at h
  exact h.1
theorem smallB_bd {l : List Int} (h : smallB l = true) : Bd (1000 : Nat) l := by
  unfold smallB at h
  simp only [Bool.and_eq_true, List.all_eq_true, decide_eq_true_eq] at h
  intro p
  by_cases hp : p < l.length
  · rw [co_get hp]; have := h.2 _ (List.getElem_mem hp); omega
  · rw [co_big (by omega)]; omega
theorem cycP_tab : ((List.range' 1 24).all fun n => cycP n (divsL n).length == cycL n && (List.range ((divsL n).length + 1)).all fun k => smallB (cycP n k)) = true := by decide +kernel
theorem cycP_all {n : Nat} (hn : 1 ≤ n ∧ n ≤ 24) : cycP n (divsL n).length = cycL n := by
  have h := List.all_eq_true.1 cycP_tab n (List.mem_range'_1.2 (by omega))
  simp only [Bool.and_eq_true, beq_iff_eq] at h
  exact h.1
theorem cycP_small {n : Nat} (hn : 1 ≤ n ∧ n ≤ 24) {k : Nat} (hk : k ≤ (divsL n).length) : smallB (cycP n k) = true := by
  have h := List.all_eq_true.1 cycP_tab n (List.mem_range'_1.2 (by omega))
  simp only [Bool.and_eq_true, beq_iff_eq] at h
  exact List.all_eq_true.1 h.2 k (List.mem_range.2 (by omega))
theorem divs_mem {n k d : Nat} (h : (divsL n)[k]? = some d) : 1 ≤ d ∧ d ≤ n ∧ n % d = 0 := by
  have h1 := List.mem_of_getElem? h
  unfold divsL at h1
  rw [List.mem_filter, List.mem_range'_1] at h1
  have h2 := h1.2
  simp at h2
  exact ⟨by omega, by omega, h2⟩
theorem bd_one {l : List Int} (h : Bd 1 l) : AllInt l := bd_int h (by omega)
theorem cyc_int {n : Nat} (hn : 1 ≤ n ∧ n ≤ 24) : AllInt (cycL n) := bd_one (cyc_bd hn)
theorem xn1_len {n : Nat} (hn : 1 ≤ n) : (xn1 n).length = n + 1 := by unfold xn1; simp; omega
theorem xn1_set {n : Nat} (hn : 1 ≤ n) : ((List.replicate (n + 1) (0 : Int)).set 0 (-1)).set n 1 = xn1 n := by
  refine list_co (by rw [xn1_len hn]; simp) fun i hi => ?_
  have hi : i < n + 1 := by simpa using hi
  rw [co_xn1 hn, co_set, co_set]
  simp only [List.length_set, List.length_replicate]
  by_cases h1 : i = n
  · rw [if_pos ⟨h1, by omega⟩, if_neg (by omega), if_pos h1]
  · rw [if_neg (by omega), if_neg (c := i = n) h1]
    by_cases h2 : i = 0
    · rw [if_pos ⟨h2, by omega⟩, if_pos h2]
    · rw [if_neg (by omega), if_neg h2, co_get (by simpa using hi)]
      simp
/-- What a function that answers with a part of a row leaves, and that it can be cut. -/
def ICap (zs : List Int) (w : World) (e : Ending) (w' : World) : Prop :=
  ∃ a cap, e = .returned (.slice a zs.length cap) ∧ PRow w' w.heap.size w'.heap.size a zs.length cap zs ∧ Below w.heap.size w w' ∧ zs.length ≤ cap
theorem icap_of {zs : List Int} {w : World} {e : Ending} {w' : World} (h : IPost zs w e w') : ICap zs w e w' := by
  obtain ⟨a, cap, rfl, h1, h2⟩ := h
  exact ⟨a, cap, rfl, prow_of h1, h2, own_cap h1⟩
theorem ipart_cap {zs : List Int} {w : World} {e : Ending} {w' : World} (h : ICap zs w e w') : IPart zs w e w' := by
  obtain ⟨a, cap, rfl, h1, h2, _⟩ := h
  exact ⟨a, cap, rfl, h1, h2⟩

set_option maxHeartbeats 400000 in
theorem unity_any (n : Nat) (w : World) (h1 : 1 ≤ n) (h2 : n ≤ 24) : Calls Try.prog 117 #[.int .i64 n] w (IPost (xn1 n) w) := by
  obtain ⟨i0, hi, hz0, hz1, hz2⟩ := info_parts infoInt
  have HI := Lib.hid (show _ ∧ _ ∧ _ ∧ _ from ⟨hi, hz0, hz1, hz2⟩)
  clear hi hz0 hz1 hz2
  obtain ⟨g, hg⟩ : ∃ g, g = w.heap.size := ⟨_, rfl⟩
  have HG := Lib.hid hg
  clear hg
  go_enter Try.func117, Try.ntmps117
  go_wp2_with (at_make; refine wpList_make_full _ rfl _ _ 86 rfl g 3 i0 (.int .i64 0) 1 Try.underlying86 HI.out.1 HI.out.2.1 HI.out.2.2.1 .i64 .i64 (n + 1) (n + 1) (n + 1) rfl rfl (by go_num) (by go_num) ?b2 ?b3 ?b4 ?_)
  case b2 => rw [HI.out.2.2.2]; omega
  case b3 => unfold maxLen; omega
  case b4 => have := HG.out; omega
  intro w1 hown hgrow
  have HX : Hid (Below g w w1) := Lib.hid ((Below.refl g w).grown hgrow (by have := HG.out; omega) (by intro k hk; cases hk))
  have HOW : Hid (w1.ownsRow g 3 1 (.slice (some ⟨g, 0, none⟩) (n + 1) (n + 1)) (n + 1) (ints (List.replicate (n + 1) 0))) := Lib.hid (by
    rw [← HG.out] at hown
    rw [toList_madeCells_one] at hown
    simpa [ints] using hown)
  clear hown hgrow
  rw [← HG.out]
  have HO1 := Lib.hid (HOW.out.stored 0 (.int .i64 (-1))).1
  have HO2 := Lib.hid (HO1.out.stored n (.int .i64 1)).1
  have f1 := HOW.out.frozenAt 0
  have f2 := HO1.out.frozenAt n
  have q1 : w1.cell? ⟨g, 0, none⟩ = some (.int .i64 0) := by rw [HOW.out.cellAt 0 (by omega), ints, List.getElem?_map, List.getElem?_replicate, if_pos (by omega)]; rfl
  obtain ⟨v2, q2⟩ : ∃ v, (w1.setCell ⟨g, 0, none⟩ (.int .i64 (-1))).cell? ⟨g, n, none⟩ = some v := by
    rw [HO1.out.cellAt n (by omega)]
    exact ⟨_, List.getElem?_eq_getElem (by have := HO1.out.1; omega)⟩
  go_wp2
  go_ret
  have h3 := HO2.out
  rw [ints, ← List.map_set, ← List.map_set, xn1_set h1] at h3
  refine ⟨some ⟨g, 0, none⟩, n + 1, by rw [xn1_len h1]; rfl, ?_, ?_⟩
  · rw [xn1_len h1, ← HG.out]; exact h3
  · rw [← HG.out]
    exact (HX.out.setCell (Nat.le_refl _) _).setCell (Nat.le_refl _) _

set_option maxHeartbeats 1000000 in
theorem cyc_any (N : Nat) : ∀ (n : Nat) (w : World), n ≤ N → 1 ≤ n → n ≤ 24 → Calls Try.prog 112 #[.int .i64 n] w (ICap (cycL n) w) := by
  induction N with
  | zero => intro n w h1 h2; omega
  | succ N ih =>
    intro n w h1 h2 h3
    have IH := Lib.hid ih
    clear ih
    obtain ⟨L, hL⟩ : ∃ L, divP n n = L := ⟨_, rfl⟩
    have HL := Lib.hid hL
    have HLL : Hid (L.length = (divsL n).length) := Lib.hid (by rw [← hL, divP_all]; simp)
    have HLI : Hid (AllInt L) := Lib.hid (by rw [← hL]; exact divP_int n n (by omega))
    have hll : L.length ≤ 1000 := by rw [← hL]; exact Nat.le_trans (divP_len n n) (by omega)
    have HDB : Hid (divB n = L) := Lib.hid (by rw [divB, cZ_yes (show DivC (n : Int) from ⟨by omega, by omega⟩), Int.toNat_natCast, hL])
    clear hL
    go_enter Try.func112, Try.ntmps112
    go_wp2_with fail
    refine (unity_any n w h2 h3).mono ?_
    intro e w1 hp
    obtain ⟨a1, c1, rfl, hr1, hb1, hcp1⟩ := icap_of hp
    have HR1 := Lib.hid hr1
    have HB1 := Lib.hid hb1
    have HC1 := Lib.hid hcp1
    clear hp hr1 hb1 hcp1
    go_wp2_with fail
    refine (div_impl n w1 (by omega) (by omega)).mono ?_
    rintro e w2 ⟨a2, c2, rfl, hown, hb2⟩
    rw [HDB.out] at hown ⊢
    have HD := Lib.hid (intsAt_own hown HLI.out)
    have HR2 := Lib.hid (HR1.out.keep hb2)
    have HB2 := Lib.hid (HB1.out.trans (hb2.mono HB1.out.size))
    clear hown hb2
    go_wp2
    go_loopw [11, 3] (fun i v wr => ∃ k : Nat, k ≤ L.length ∧ i = .int .i64 k ∧ (∃ a c, v = .slice a (cycP n k).length c ∧ PRow wr w.heap.size wr.heap.size a (cycP n k).length c (cycP n k) ∧ (cycP n k).length ≤ c) ∧ Below w2.heap.size w2 wr) (fun i _ _ => L.length - (intOf i).toNat)
    case atStart => exact ⟨0, by omega, rfl, ⟨a1, c1, by rw [cycP_zero], by rw [cycP_zero]; exact HR2.out.hi HR2.out.2.1 (Nat.le_refl _), by rw [cycP_zero]; exact HC1.out⟩, Below.refl _ _⟩
    case round =>
      obtain ⟨k, hk, rfl, ⟨a, c, rfl, hrow, hcc⟩, hnx⟩ := hrel
      have HSM : Hid (smallB (cycP n k) = true) := Lib.hid (cycP_small ⟨h2, h3⟩ (by rw [← HLL.out]; exact hk))
      obtain ⟨P, hP⟩ : ∃ P, cycP n k = P := ⟨_, rfl⟩
      rw [hP] at hrow hcc HSM ⊢
      have HPP := Lib.hid hP
      have HROW := Lib.hid hrow
      have HX := Lib.hid hnx
      clear hrow hnx hP
      by_cases hlt : k < L.length
      · obtain ⟨b, off, z, rfl, hb, hs, hc, hz1, hz2⟩ := (HD.out.below HX.out).at hlt
        obtain ⟨d, hd⟩ : ∃ d, (divsL n)[k]? = some d := ⟨_, List.getElem?_eq_getElem (by rw [← HLL.out]; exact hlt)⟩
        obtain ⟨hd1, hd2, hd3⟩ := divs_mem hd
        obtain rfl : z = d := by
          rw [← HL.out, divP_all, List.getElem?_map, hd] at hs
          exact (Option.some.inj hs).symm
        have HCS := Lib.hid (cycP_succ hd)
        clear hs hd
        by_cases hdn : d < n
        · rw [if_pos hdn, HPP.out] at HCS
          go_wp2_with fail
          refine (IH.out d _ (by omega) hd1 (by omega)).mono ?_
          rintro e w3 ⟨a3, c3, rfl, hr3, hb3, hc3⟩
          have HR3 := Lib.hid (HROW.out.keep hb3)
          have HX3 := Lib.hid (HX.out.trans (hb3.mono HX.out.size))
          have HQ3 := Lib.hid hr3
          have HC3 := Lib.hid hc3
          clear hr3 hb3 hc3 hc
          go_wp2_with fail
          refine (div_any a P.length c P a3 _ c3 (cycL d) _ (HR3.out.at (bd_int (smallB_bd HSM.out) (by omega))) (HQ3.out.at (cyc_int ⟨hd1, by omega⟩)) (totN d) (cyc_facts ⟨hd1, by omega⟩).1 (cyc_facts ⟨hd1, by omega⟩).2.2 (by have := totP_le d d; rw [totP_all] at this; omega) HC3.out (cyc_facts ⟨hd1, by omega⟩).2.1 (smallB_bd HSM.out) (cyc_bd ⟨hd1, by omega⟩) (smallB_len HSM.out)).mono ?_
          rintro e w4 ⟨a4, c4, b4, d4, rfl, hq4, hr4, hb4, hc4, _⟩
          have HQ4 := Lib.hid hq4
          have HB4 := Lib.hid hb4
          have HC4 := Lib.hid hc4
          clear hq4 hr4 hb4 hc4
          go_wp2
          go_roundw
          case rel =>
            refine ⟨k + 1, by omega, by go_num, ⟨a4, c4, by rw [HCS.out], ?_, by rw [HCS.out]; exact HC4.out⟩, HX3.out.trans (HB4.out.mono HX3.out.size)⟩
            rw [HCS.out]
            exact HQ4.out.lo (Nat.le_trans (Nat.le_trans HB2.out.size HX.out.size) (by have := HX3.out.size; have := HR3.out.2.1; omega))
          case measure => simp [intOf]; omega
        · rw [if_neg hdn, HPP.out] at HCS
          go_wp2
          go_roundw
          case rel => exact ⟨k + 1, by omega, by go_num, ⟨a, c, by rw [HCS.out], by rw [HCS.out]; exact HROW.out, by rw [HCS.out]; exact hcc⟩, HX.out⟩
          case measure => simp [intOf]; omega
      · have HE : Hid (P = cycL n) := Lib.hid (by rw [← HPP.out, show k = (divsL n).length by have := HLL.out; omega, cycP_all ⟨h2, h3⟩])
        go_wp2
        go_ret
        rw [← HE.out]
        exact ⟨a, c, rfl, HROW.out, HB2.out.trans (HX.out.mono HB2.out.size), hcc⟩
end Go.Proofs.Ytdpcabiajhfllaa.Rhy
