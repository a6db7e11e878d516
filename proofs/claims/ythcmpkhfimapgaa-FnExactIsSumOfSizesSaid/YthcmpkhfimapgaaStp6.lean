/-
  Helpers of the claims beside this text: the model's StepSizes and SpanSizes.
-/
import Derived.Test.YthcmpkhfimapgaaStp5
namespace Go.Proofs.Ythcmpkhfimapgaa.Rhy
open Go.RowKit
set_option linter.unusedVariables false

noncomputable def sizeB (s : Int) (zs : List Int) : List Int := ofZ 25 (stB s zs)
theorem sizeB_int (s : Int) (zs : List Int) : AllInt (sizeB s zs) := ofZ_int (by omega)

set_option maxHeartbeats 400000 in
theorem sizes_spec (s : Int) (a : Option Addr) (len cap : Nat) (zs : List Int) (w : World) (h : IntsAt w a len zs) (hm : zs.length ≤ 1048576) :
    Calls Try.prog 77 #[rhy s a len cap] w (IPost (sizeB s zs) w) := by
  have HS := Lib.hid h
  clear h
  obtain ⟨l, hl⟩ : ∃ l, l = stB s zs := ⟨_, rfl⟩
  have HC := Lib.hid (fun w h => steps_spec s a len cap zs w h hm)
  have HV := Lib.hid (show sizeB s zs = ofZ 25 l by rw [hl]; rfl)
  rw [← hl] at HC
  have hlen : l.length ≤ 24 := by rw [hl]; exact stB_len s zs
  have HBD := Lib.hid (show ∀ x ∈ l, 1 ≤ x ∧ x ≤ 24 by rw [hl]; exact stB_bd s zs)
  have HI := Lib.hid (show AllInt l by rw [hl]; exact stB_int s zs)
  clear hl
  by_cases h0 : l.length = 0
  · obtain rfl : l = [] := List.eq_nil_of_length_eq_zero h0
    clear h0
    go_enter Try.func77, Try.ntmps77
    go_wp2_with fail
    refine (HC.out _ (HS.out.below (bel1 w _))).mono ?_
    rintro e w1 ⟨b, c, rfl, hown, hb⟩
    have HB := Lib.hid ((bel1 w (.cells #[.int .i64 s, .slice a len cap] 26)).trans (hb.mono (by simp)))
    clear hown hb
    go_wp2
    go_ret
    rw [HV.out]
    exact ⟨none, 0, rfl, World.ownsRow_nil _ _ _ _, HB.out⟩
  · have hz : ((l.length : Int) == 0) = false := by simp only [beq_eq_false_iff_ne]; omega
    go_enter Try.func77, Try.ntmps77
    go_wp2_with fail
    refine (HC.out _ (HS.out.below (bel1 w _))).mono ?_
    rintro e w1 ⟨b, c, rfl, hown, hb⟩
    have HO := Lib.hid (intsAt_own hown HI.out)
    have HB := Lib.hid ((bel1 w (.cells #[.int .i64 s, .slice a len cap] 26)).trans (hb.mono (by simp)))
    clear hown hb
    go_wp2_with fail
    refine (sizes0_spec 25 b l.length c l w1 HO.out (by omega) (by omega) (fun x hx => by have := HBD.out x hx; omega)).mono ?_
    rintro e w2 ⟨b2, c2, rfl, hown2, hb2⟩
    have HO2 := Lib.hid hown2
    have HB2 := Lib.hid hb2
    clear hown2 hb2
    go_wp2
    go_ret
    rw [HV.out]
    exact ⟨b2, c2, rfl, own_base HO2.out HB.out.size, HB.out.trans (HB2.out.mono HB.out.size)⟩

def spansL (l : List Int) (k n : Nat) : List Int := (List.range n).map fun i => spanL l i k
theorem spansL_len (l : List Int) (k n : Nat) : (spansL l k n).length = n := by simp [spansL]
theorem spansL_snoc (l : List Int) (k n : Nat) : spansL l k (n + 1) = spansL l k n ++ [spanL l n k] := by simp [spansL, List.range_succ]
theorem spansL_bd {l : List Int} (h : ∀ x ∈ l, 1 ≤ x ∧ x ≤ 24) {k n : Nat} (hk : k ≤ 24) : ∀ x ∈ spansL l k n, 0 ≤ x ∧ x < (577 : Nat) := by
  intro x hx
  unfold spansL at hx
  rw [List.mem_map] at hx
  obtain ⟨i, _, rfl⟩ := hx
  have := spanL_bd h i k
  omega
/-- What both answer. -/
noncomputable def spansB (s : Int) (zs : List Int) (k : Int) : List Int := cZ (0 < (stB s zs).length ∧ 0 ≤ k ∧ k ≤ (stB s zs).length) (ofZ 577 (spansL (stB s zs) k.toNat (stB s zs).length))
theorem spansB_int (s : Int) (zs : List Int) (k : Int) : AllInt (spansB s zs k) := cZ_int (ofZ_int (by omega))

set_option maxHeartbeats 1000000 in
theorem spans_spec (s : Int) (a : Option Addr) (len cap : Nat) (zs : List Int) (k : Int) (w : World) (h : IntsAt w a len zs) (hm : zs.length ≤ 1048576) (hk1 : -9223372036854775808 ≤ k) (hk2 : k ≤ 9223372036854775807) :
    Calls Try.prog 76 #[rhy s a len cap, .int .i64 k] w (IPost (spansB s zs k) w) := by
  have HS := Lib.hid h
  clear h
  obtain ⟨l, hl⟩ : ∃ l, l = stB s zs := ⟨_, rfl⟩
  have HC := Lib.hid (fun w h => steps_spec s a len cap zs w h hm)
  have HV := Lib.hid (show spansB s zs k = cZ (0 < l.length ∧ 0 ≤ k ∧ k ≤ l.length) (ofZ 577 (spansL l k.toNat l.length)) by rw [hl]; rfl)
  rw [← hl] at HC
  have hlen : l.length ≤ 24 := by rw [hl]; exact stB_len s zs
  have HBD := Lib.hid (show ∀ x ∈ l, 1 ≤ x ∧ x ≤ 24 by rw [hl]; exact stB_bd s zs)
  have HI := Lib.hid (show AllInt l by rw [hl]; exact stB_int s zs)
  clear hl
  by_cases h0 : l.length = 0
  · obtain rfl : l = [] := List.eq_nil_of_length_eq_zero h0
    have HE : Hid (spansB s zs k = []) := Lib.hid (by rw [HV.out, cZ_no (fun q => absurd q.1 (by simp))])
    clear h0
    go_enter Try.func76, Try.ntmps76
    go_wp2_with fail
    refine (HC.out _ (HS.out.below (bel1 w _))).mono ?_
    rintro e w1 ⟨b, c, rfl, hown, hb⟩
    have HB := Lib.hid ((bel1 w (.cells #[.int .i64 s, .slice a len cap] 26)).trans (hb.mono (by simp)))
    clear hown hb
    go_wp2
    go_ret
    rw [HE.out]
    exact ⟨none, 0, rfl, World.ownsRow_nil _ _ _ _, HB.out⟩
  · have hz : ((l.length : Int) == 0) = false := by simp only [beq_eq_false_iff_ne]; omega
    have hlp : 0 < l.length := by omega
    clear h0
    by_cases hkn : 0 ≤ k ∧ k ≤ l.length
    · have HE : Hid (spansB s zs k = ofZ 577 (spansL l k.toNat l.length)) := Lib.hid (by rw [HV.out, cZ_yes ⟨by omega, hkn⟩])
      obtain ⟨q, rfl⟩ : ∃ q : Nat, k = q := ⟨k.toNat, by omega⟩
      have HKN := Lib.hid hkn
      have hq : q ≤ 24 := by omega
      clear hkn
      go_enter Try.func76, Try.ntmps76
      go_wp2_with fail
      refine (HC.out _ (HS.out.below (bel1 w _))).mono ?_
      rintro e w1 ⟨b, c, rfl, hown, hb⟩
      have HO := Lib.hid (intsAt_own hown HI.out)
      have HB := Lib.hid ((bel1 w (.cells #[.int .i64 s, .slice a len cap] 26)).trans (hb.mono (by simp)))
      clear hown hb
      go_wp2_with fail
      refine (in_yes _ _ _ _ HKN.out.1 HKN.out.2).mono ?_
      rintro e w' ⟨rfl, rfl⟩
      go_wp2
      go_loopw [6, 23] (fun v i wr => ∃ j : Nat, j ≤ l.length ∧ i = .int .i64 j ∧ VecAt (spansL l q j) w1 wr v) (fun _ i _ => l.length - (intOf i).toNat)
      case atStart => exact ⟨0, by omega, rfl, vec_made w1⟩
      case round =>
        obtain ⟨j, hj, rfl, av, cv, rfl, hown, hnx, hsz⟩ := hrel
        have HO1 := Lib.hid hown
        have HX := Lib.hid hnx
        have HZ := Lib.hid hsz
        clear hown hnx hsz
        by_cases hlt : j < l.length
        · have HN := Lib.hid (spansL_snoc l q j)
          have hsl : (spansL l q j).length ≤ 1048577 := by rw [spansL_len]; omega
          have HOL : Hid (IntsAt wr b l.length l) := Lib.hid (HO.out.below HX.out)
          go_wp2_with (first
            | (go_at_call 93; refine (span0_spec b l.length c l j q _ HOL.out HBD.out hlen hlt (by omega)).mono ?_; rintro e w' ⟨rfl, rfl⟩)
            | (at_builtin; refine append_int rfl _ _ rfl w1.heap.size _ (spansL l q j) _ _ HO1.out hsl HZ.out _ rfl rfl rfl ?_; intro a' c' w' hown' hb'; have HO2 := Lib.hid hown'; have HX2 := Lib.hid hb'; clear hown' hb'))
          go_roundw
          case rel =>
            refine ⟨j + 1, by omega, by go_num, ?_⟩
            rw [HN.out]
            have := vec_snoc HX.out HZ.out HO2.out HX2.out
            simpa using this
          case measure => simp [intOf]; omega
        · have e : j = l.length := by omega
          subst e
          have HL := Lib.hid (spansL_len l q l.length)
          have HIT : Hid (IntsAt wr av l.length (spansL l q l.length)) := Lib.hid (by
            have := intsAt_own HO1.out (fun z hz => by have := spansL_bd HBD.out hq z hz; omega)
            rw [HL.out] at this
            exact this)
          rw [HL.out]
          go_wp2_with fail
          refine (sizes0_spec 577 av l.length cv _ wr HIT.out (by omega) (by omega) (spansL_bd HBD.out hq)).mono ?_
          rintro e w2 ⟨b2, c2, rfl, hown2, hb2⟩
          have HO2 := Lib.hid hown2
          have HB2 := Lib.hid hb2
          have HBW : Hid (Below w.heap.size w wr) := Lib.hid (HB.out.trans (HX.out.mono HB.out.size))
          clear hown2 hb2
          go_wp2
          go_ret
          rw [HE.out]
          exact ⟨b2, c2, rfl, own_base HO2.out HBW.out.size, HBW.out.trans (HB2.out.mono HBW.out.size)⟩
    · have HE : Hid (spansB s zs k = []) := Lib.hid (by rw [HV.out, cZ_no (fun q => hkn q.2)])
      have HKN := Lib.hid hkn
      clear hkn
      go_enter Try.func76, Try.ntmps76
      go_wp2_with fail
      refine (HC.out _ (HS.out.below (bel1 w _))).mono ?_
      rintro e w1 ⟨b, c, rfl, hown, hb⟩
      have HB := Lib.hid ((bel1 w (.cells #[.int .i64 s, .slice a len cap] 26)).trans (hb.mono (by simp)))
      clear hown hb
      go_wp2_with fail
      refine (in_no _ _ _ _ HKN.out).mono ?_
      rintro e w' ⟨rfl, rfl⟩
      go_wp2
      go_ret
      rw [HE.out]
      exact ⟨none, 0, rfl, World.ownsRow_nil _ _ _ _, HB.out⟩
end Go.Proofs.Ythcmpkhfimapgaa.Rhy
