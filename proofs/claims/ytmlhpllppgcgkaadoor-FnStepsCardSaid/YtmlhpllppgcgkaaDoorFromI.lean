/-
  Helpers of the claims beside this text: the program's FromSteps.
-/
import Derived.Test.YtmlhpllppgcgkaaDoorStp
namespace Go.Proofs.YtmlhpllppgcgkaaDoor.Rhy
open Go.RowKit
set_option linter.unusedVariables false

/-- When steps fill a bar. -/
def SizC (zs : List Int) : Prop := 0 < zs.length ∧ (∀ x ∈ zs, 1 ≤ x ∧ x ≤ 24) ∧ zs.sum ≤ 24
/-- What the first k steps must be for the rest to be looked at. -/
def SizP (zs : List Int) (k : Nat) : Prop := (∀ x ∈ zs.take k, 1 ≤ x ∧ x ≤ 24) ∧ (zs.take k).sum ≤ 24
theorem sizP_ge {zs : List Int} {k : Nat} (h : SizP zs k) : 0 ≤ (zs.take k).sum := by
  have := sum_ge (m := zs.take k) (fun x hx => (h.1 x hx).1)
  omega
theorem sizP_next {zs : List Int} {k : Nat} {z : Int} (h : SizP zs k) (hs : zs[k]? = some z) (hz : 1 ≤ z) (hn : z ≤ 24 - (zs.take k).sum) : SizP zs (k + 1) := by
  have := sizP_ge h
  refine ⟨?_, by rw [sum_snoc hs]; omega⟩
  intro x hx
  rw [List.take_add_one, hs] at hx
  rcases List.mem_append.mp hx with q | q
  · exact h.1 x q
  · have : x = z := by simpa using q
    omega
theorem sizC_not {zs : List Int} {k : Nat} {z : Int} (h : SizP zs k) (hs : zs[k]? = some z) (hz : z < 1 ∨ 24 - (zs.take k).sum < z) : ¬ SizC zs := by
  rintro ⟨_, h1, h2⟩
  have hx := h1 z (List.mem_of_getElem? hs)
  have h3 := sum_mono (m := zs) (fun x hx => by have := h1 x hx; omega) (k + 1)
  rw [sum_snoc hs] at h3
  omega

set_option maxHeartbeats 400000 in
theorem size_impl (a : Option Addr) (len cap : Nat) (zs : List Int) (w : World) (h : IntsAt w a len zs) (hm : len ≤ 1048576) :
    Calls Tryd.prog 29 #[.slice a len cap] w fun e w' => e = .returned (.tuple #[.int .i64 (cS (SizC zs) zs.sum), .bool (cB (SizC zs))]) ∧ w = w' := by
  have HS := Lib.hid h
  clear h
  go_enter Tryd.func29, Tryd.ntmps29
  go_wp2
  go_loop [4, 9] (fun n i => ∃ k : Nat, k ≤ len ∧ i = .int .i64 k ∧ n = .int .i64 (zs.take k).sum ∧ SizP zs k) (fun _ i => len - (intOf i).toNat)
  case atStart => exact ⟨0, by omega, rfl, rfl, by simp, by simp⟩
  case round =>
    obtain ⟨k, hk, rfl, rfl, hpre⟩ := hrel
    have HP := Lib.hid hpre
    have hn0 := sizP_ge hpre
    have hn1 := hpre.2
    obtain ⟨n, hn⟩ : ∃ n, n = (zs.take k).sum := ⟨_, rfl⟩
    have HN := Lib.hid hn
    rw [← hn] at hn0 hn1 ⊢
    clear hpre hn
    by_cases hlt : k < len
    · obtain ⟨b, off, z, rfl, hb, hs, hc, hz1, hz2⟩ := HS.out.at hlt
      by_cases hz : z < 1
      · have HC := Lib.hid (sizC_not HP.out hs (.inl hz))
        have HE := Lib.hid (cS_no (s := zs.sum) HC.out)
        have HF := Lib.hid (cB_no HC.out)
        clear hs
        go_wp2
        refine bodyPost_ret (v := .tuple #[.int .i64 0, .bool false]) (by simp [results, Tryd.results29, go_sem, *]) rfl ?_
        exact ⟨by rw [HE.out, HF.out], rfl⟩
      · by_cases hq : 24 - n < z
        · have HC := Lib.hid (sizC_not HP.out hs (.inr (by rw [← HN.out]; exact hq)))
          have HE := Lib.hid (cS_no (s := zs.sum) HC.out)
          have HF := Lib.hid (cB_no HC.out)
          have hd : decide (z < 1) = false := by simpa using hz
          clear hs hz
          go_wp2
          refine bodyPost_ret (v := .tuple #[.int .i64 0, .bool false]) (by simp [results, Tryd.results29, go_sem, *]) rfl ?_
          exact ⟨by rw [HE.out, HF.out], rfl⟩
        · have HP2 := Lib.hid (sizP_next HP.out hs (by omega) (by rw [← HN.out]; omega))
          have HN2 := Lib.hid (sum_snoc hs)
          rw [← HN.out] at HN2
          have hd : decide (z < 1) = false := by simpa using hz
          have hd2 : decide (24 - n < z) = false := by simpa using hq
          have hzz : 1 ≤ z ∧ z ≤ 24 := by omega
          obtain ⟨hza, hzb⟩ := hzz
          clear hs hz hq
          go_wp2
          go_round
          case rel => exact ⟨k + 1, by omega, by go_num, by rw [HN2.out], HP2.out⟩
          case measure => simp [intOf]; omega
    · have e : k = len := by omega
      have HT := Lib.hid (show zs.take k = zs from List.take_of_length_le (by have := HS.out.len; omega))
      rw [HT.out] at HN
      have hP := HP.out
      unfold SizP at hP
      rw [HT.out] at hP
      have HLL := Lib.hid HS.out.len
      by_cases h0 : 0 < n
      · have HC := Lib.hid (show SizC zs from ⟨by
          rcases Nat.eq_zero_or_pos zs.length with q | q
          · have : zs = [] := List.eq_nil_of_length_eq_zero q
            rw [this] at HN
            have := HN.out
            simp at this
            omega
          · exact q, hP.1, hP.2⟩)
        have HE := Lib.hid (cS_yes (s := zs.sum) HC.out)
        have HF := Lib.hid (cB_yes HC.out)
        clear hP
        go_wp2
        refine bodyPost_ret (v := .tuple #[.int .i64 n, .bool true]) (by simp [results, Tryd.results29, go_sem, *]) rfl ?_
        exact ⟨by rw [HE.out, HF.out, HN.out], rfl⟩
      · have HC := Lib.hid (show ¬ SizC zs from fun q => by
          have := sum_ge (m := zs) (fun x hx => (hP.1 x hx).1)
          have := q.1
          have := HN.out
          omega)
        have HE := Lib.hid (cS_no (s := zs.sum) HC.out)
        have HF := Lib.hid (cB_no HC.out)
        have hn00 : n = 0 := by omega
        clear hP
        subst hn00
        go_wp2
        refine bodyPost_ret (v := .tuple #[.int .i64 0, .bool false]) (by simp [results, Tryd.results29, go_sem, *]) rfl ?_
        exact ⟨by rw [HE.out, HF.out], rfl⟩

set_option maxHeartbeats 1000000 in
theorem from_impl (a : Option Addr) (len cap : Nat) (zs : List Int) (f : Int) (w : World) (h : IntsAt w a len zs) (hm : zs.length ≤ 1048576) (hf1 : -9223372036854775808 ≤ f) (hf2 : f ≤ 9223372036854775807) :
    Calls Tryd.prog 10 #[.slice a len cap, .int .i64 f] w (CPost (FromC zs f) zs.sum (fromL f zs zs.length) w) := by
  have HS := Lib.hid h
  have hl' : len ≤ 1048576 := by have := h.1; omega
  have HL := Lib.hid h.len
  clear h
  obtain ⟨g, hg⟩ : ∃ g, g = w.heap.size := ⟨_, rfl⟩
  have HG := Lib.hid hg
  obtain ⟨W0, hW⟩ : ∃ W0, W0 = w.alloc (.cells #[.int .i64 0, .slice none 0 0] 25) := ⟨_, rfl⟩
  have HW := Lib.hid hW
  have HB := Lib.hid (show Below g w W0 by rw [hW, hg]; exact bel1 w _)
  have HU := Lib.hid (show Box W0 g (.int .i64 0) (.slice none 0 0) 25 by rw [hW, hg]; exact box_new w _ _ _)
  have HSZ := Lib.hid (show W0.heap.size = g + 1 by rw [hW, hg]; simp)
  have HI : Hid (IntsAt W0 a len zs) := Lib.hid (HS.out.below (by rw [← hg]; exact HB.out))
  obtain ⟨c0, c1, f0, f1⟩ := HU.out.facts
  have l0 := HU.out.lt
  clear hW
  by_cases hc : SizC zs
  · have HC := Lib.hid hc
    have HE := Lib.hid (cS_yes (s := zs.sum) hc)
    have HF := Lib.hid (cB_yes hc)
    obtain ⟨k, hk⟩ : ∃ k, len = k + 1 := ⟨len - 1, by have := hc.1; have := HL.out; omega⟩
    subst hk
    obtain ⟨b, off, z, rfl, hb, hs, hcz, hz1, hz2⟩ := HI.out.at (show k < k + 1 by omega)
    have HLAST : Hid (zs[zs.length - 1]?.getD 0 = z) := Lib.hid (by rw [HL.out]; simp [hs])
    have HPA := Lib.hid hc.2.1
    obtain ⟨hza, hzb⟩ := HPA.out z (List.mem_of_getElem? hs)
    have HLE : Hid (k + 1 ≤ 24) := Lib.hid (by
      have := sum_ge (m := zs) (fun x hx => (HPA.out x hx).1)
      have := hc.2.2
      have := HL.out
      omega)
    have hkk := HLE.out
    obtain ⟨n, hn⟩ : ∃ n, n = zs.sum := ⟨_, rfl⟩
    have HN := Lib.hid hn
    rw [← hn] at HE
    have hn1 : n ≤ 24 := by rw [hn]; exact hc.2.2
    have hn0 : 0 ≤ n := by rw [hn]; have := sum_ge (m := zs) (fun x hx => (HPA.out x hx).1); omega
    have hk1 : ((k + 1 : Nat) : Int) - 1 = k := by omega
    clear hc hs hg hn
    by_cases hfa : f < 0
    · have HCC : Hid (¬ FromC zs f) := Lib.hid (fun q => by have := q.2.2.2.1; omega)
      go_enter Tryd.func10, Tryd.ntmps10
      go_wp2_with fail
      rw [← HW.out, ← HG.out]
      refine (size_impl _ (k + 1) cap zs W0 HI.out hl').mono ?_
      rintro e w' ⟨rfl, rfl⟩
      rw [← HN.out, HE.out, HF.out]
      go_wp2
      refine bodyPost_ret (v := .tuple #[rhy 0 none 0 0, .bool false]) (by simp [results, Tryd.results10, go_sem, *]) rfl (cpost_no HCC.out ?_)
      rw [← HG.out]
      exact (HB.out.setCell (by simp) _).setCell (by simp) _
    · have hd : decide (f < 0) = false := by simpa using hfa
      by_cases hfb : z ≤ f
      · have HCC : Hid (¬ FromC zs f) := Lib.hid (fun q => by have := q.2.2.2.2; rw [HLAST.out] at this; omega)
        clear hfa
        go_enter Tryd.func10, Tryd.ntmps10
        go_wp2_with fail
        rw [← HW.out, ← HG.out]
        refine (size_impl _ (k + 1) cap zs W0 HI.out hl').mono ?_
        rintro e w' ⟨rfl, rfl⟩
        rw [← HN.out, HE.out, HF.out]
        go_wp2
        refine bodyPost_ret (v := .tuple #[rhy 0 none 0 0, .bool false]) (by simp [results, Tryd.results10, go_sem, *]) rfl (cpost_no HCC.out ?_)
        rw [← HG.out]
        exact (HB.out.setCell (by simp) _).setCell (by simp) _
      · have hd2 : decide (z ≤ f) = false := by simpa using hfb
        have hf0 : 0 ≤ f := by omega
        have hf24 : f ≤ 24 := by omega
        have HCC : Hid (FromC zs f) := Lib.hid ⟨HC.out.1, HPA.out, HC.out.2.2, hf0, by rw [HLAST.out]; omega⟩
        have HQ := Lib.hid (show ∀ x ∈ zs, 0 ≤ x ∧ x ≤ 24 by intro x hx; have := HPA.out x hx; omega)
        clear hfa hfb
        go_enter Tryd.func10, Tryd.ntmps10
        go_wp2_with fail
        rw [← HW.out, ← HG.out]
        refine (size_impl _ (k + 1) cap zs W0 HI.out hl').mono ?_
        rintro e w' ⟨rfl, rfl⟩
        rw [← HN.out, HE.out, HF.out]
        go_wp2
        rw [HSZ.out]
        go_loopw [9, 39] (fun p i wr => ∃ j : Nat, j ≤ k + 1 ∧ i = .int .i64 j ∧ p = .int .i64 (f + (zs.take j).sum) ∧ FromAt g j f n zs w wr) (fun _ i _ => (k + 1) - (intOf i).toNat)
        case atStart =>
          refine ⟨0, by omega, rfl, by simp, none, 0, ?_, ?_, World.ownsRow_nil _ _ _ _, ?_, ?_⟩
          · exact HU.out.keep (B := W0.heap.size) ((Below.refl _ _).alloc (Nat.le_refl _) _) HU.out.lt
          · have := box_new W0 (.int .i64 n) (.slice none 0 0) 25
            rw [HSZ.out] at this
            simpa [fromL] using this
          · exact HB.out.alloc (by have := HSZ.out; omega) _
          · have := HSZ.out
            simp; omega
        case round =>
          obtain ⟨j, hj, rfl, rfl, av, cv, hb0, hb1, hown, hnx, hsz⟩ := hrel
          have H0 := Lib.hid hb0
          have H1 := Lib.hid hb1
          have HO := Lib.hid hown
          have HX := Lib.hid hnx
          have HZ := Lib.hid hsz
          obtain ⟨c0, c1, f0, f1⟩ := H0.out.facts
          obtain ⟨d0, d1, e0, e1⟩ := H1.out.facts
          obtain ⟨lt0, lt1⟩ := And.intro hb0.lt hb1.lt
          have HI2 : Hid (IntsAt wr (some ⟨b, off, none⟩) (k + 1) zs) := Lib.hid (HS.out.below (by rw [← HG.out]; exact HX.out))
          clear hb0 hb1 hown hnx hsz
          by_cases hlt : j < k + 1
          · obtain ⟨b', off', y, he', hb, hs, hc, hy1, hy2⟩ := HI2.out.at hlt
            obtain ⟨rfl, rfl⟩ : b = b' ∧ off = off' := by simpa using he'
            have hS := sum_bd HQ.out j (by have := HL.out; omega)
            have HNX := Lib.hid (fromL_snoc f zs j)
            have HSU := Lib.hid (sum_snoc hs)
            obtain ⟨hya, hyb⟩ := HPA.out y (List.mem_of_getElem? hs)
            obtain ⟨S, hSS⟩ : ∃ S, S = (zs.take j).sum := ⟨_, rfl⟩
            rw [← hSS] at hS HNX HSU ⊢
            obtain ⟨hS1, hS2⟩ := hS
            have hfl : (fromL f zs j).length ≤ 1048577 := by rw [fromL_len]; omega
            clear hs hSS he'
            go_wp2_with (at_builtin; refine append_int rfl _ _ rfl (g + 2) _ (fromL f zs j) _ _ HO.out hfl HZ.out _ rfl rfl rfl ?_; intro a' c' w' hown' hb'; have HO2 := Lib.hid hown'; have HX2 := Lib.hid hb'; have hq := HX2.out.frozen (p := ⟨g + 1, 1, none⟩) (by show g + 1 < g + 2; omega); have hq2 := HX2.out.cell (p := ⟨g + 1, 1, none⟩) (by show g + 1 < g + 2; omega); clear hown' hb')
            go_roundw
            case rel =>
              refine ⟨j + 1, by omega, by go_num, by rw [HSU.out]; go_num, a', c', ?_, ?_, ?_, ?_, ?_⟩
              · exact (H0.out.keep HX2.out (by omega)).other _ (by omega)
              · rw [HNX.out]
                have := (H1.out.keep HX2.out (by omega)).set1 (.slice a' ((fromL f zs j).length + 1) c')
                simpa using this
              · rw [HNX.out]
                exact ownsRow_setCell_below HO2.out (by show g + 1 < g + 2; omega) _
              · exact (HX.out.trans (HX2.out.mono (by omega))).setCell (by show g ≤ g + 1; omega) _
              · have := HX2.out.size
                have := HZ.out
                simp; omega
            case measure => simp [intOf]; omega
          · have e : j = k + 1 := by omega
            subst e
            have HLN : Hid (zs.length = k + 1) := HL
            go_wp2
            refine bodyPost_ret (v := .tuple #[rhy n av (fromL f zs (k + 1)).length cv, .bool true]) (by simp [results, Tryd.results10, go_sem, *]) rfl ?_
            rw [← HN.out, HLN.out]
            refine cpost_yes HCC.out rfl ?_ ?_
            · exact own_base (ownsRow_setCell_below (ownsRow_setCell_below HO.out (by show g < g + 2; omega) _) (by show g < g + 2; omega) _) (by have := HG.out; omega)
            · rw [← HG.out]; exact (HX.out.setCell (by simp) _).setCell (by simp) _
  · have HC := Lib.hid hc
    have HE := Lib.hid (cS_no (s := zs.sum) hc)
    have HF := Lib.hid (cB_no hc)
    have HCC : Hid (¬ FromC zs f) := Lib.hid (fun q => hc ⟨q.1, q.2.1, q.2.2.1⟩)
    clear hc hg
    go_enter Tryd.func10, Tryd.ntmps10
    go_wp2_with fail
    rw [← HW.out, ← HG.out]
    refine (size_impl a len cap zs W0 HI.out hl').mono ?_
    rintro e w' ⟨rfl, rfl⟩
    rw [HE.out, HF.out]
    go_wp2
    refine bodyPost_ret (v := .tuple #[rhy 0 none 0 0, .bool false]) (by simp [results, Tryd.results10, go_sem, *]) rfl (cpost_no HCC.out ?_)
    rw [← HG.out]
    exact (HB.out.setCell (by simp) _).setCell (by simp) _
end Go.Proofs.YtmlhpllppgcgkaaDoor.Rhy
