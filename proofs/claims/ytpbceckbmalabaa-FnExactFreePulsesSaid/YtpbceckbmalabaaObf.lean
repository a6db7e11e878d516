/-
  Helpers of the claims beside this text: forbidden intervals of the model: FreePulses.
-/
import Derived.Test.YtpbceckbmalabaaOba
namespace Go.Proofs.Ytpbceckbmalabaa.Rhy
open Go.RowKit
set_option linter.unusedVariables false
set_option linter.unusedSimpArgs false

/-! ### FreePulses -/
noncomputable def frB (s : Int) (zs : List Int) (d : Int) : List Int := cZ (AvC s d zs) (frP s.toNat zs d s.toNat)
theorem frP_zero (n : Nat) (zs : List Int) (d : Int) : frP n zs d 0 = [] := by simp [frP]
theorem frP_len (n : Nat) (zs : List Int) (d : Int) (j : Nat) : (frP n zs d j).length ≤ j := by
  unfold frP
  refine Nat.le_trans (List.length_filter_le _ _) ?_
  simp
theorem frP_yes {n j : Nat} {zs : List Int} {d : Int} (h1 : hasB zs j = false) (h2 : hasB zs (((j : Int) + d) % n) = false) (h3 : hasB zs (((j : Int) - d) % n) = false) : frP n zs d (j + 1) = frP n zs d j ++ [(j : Int)] := by
  unfold hasB at h1 h2 h3
  rw [frP_snoc, h1, h2, h3]
  rfl
theorem frP_no {n j : Nat} {zs : List Int} {d : Int} (h : hasB zs j = true ∨ hasB zs (((j : Int) + d) % n) = true ∨ hasB zs (((j : Int) - d) % n) = true) : frP n zs d (j + 1) = frP n zs d j := by
  unfold hasB at h
  rw [frP_snoc, if_neg]
  · simp
  · rcases h with h | h | h <;> rw [h] <;> simp
set_option maxHeartbeats 1000000 in
theorem free_spec (s : Int) (a : Option Addr) (len cap : Nat) (zs : List Int) (d : Int) (w : World) (h : IntsAt w a len zs) (hm : zs.length ≤ 1048576) (h3 : -9223372036854775808 ≤ d) (h4 : d ≤ 9223372036854775807) :
    Calls Try.prog 43 #[rhy s a len cap, .int .i64 d] w (IPost (frB s zs d) w) := by
  have HS := Lib.hid h
  obtain rfl : zs.length = len := h.len
  clear h
  by_cases hc : AvC s d zs
  · have HC := Lib.hid (aviB_yes hc)
    obtain ⟨n, rfl⟩ : ∃ n : Nat, s = n := ⟨s.toNat, by have := hc.1.1; omega⟩
    have HO := Lib.hid hc.1
    have hn1 : 1 ≤ n := by have := hc.1.1.1; omega
    have hn24 : n ≤ 24 := by have := hc.1.1.2; omega
    have hd1 : 1 ≤ d := hc.2.1.1
    have hd2 : d ≤ (n : Int) - 1 := hc.2.1.2
    have HE : Hid (frB n zs d = frP n zs d n) := Lib.hid (by unfold frB; rw [cZ_yes hc, Int.toNat_natCast])
    clear hc
    rw [HE.out]
    go_enter Try.func43, Try.ntmps43
    go_wp2_with fail
    refine (avi_spec n a zs.length cap zs d _ (HS.out.below (bel1 w _)) hm h3 h4).mono ?_
    rintro e w1 ⟨rfl, hb1⟩
    rw [HC.out]
    have HB := Lib.hid ((bel1 w (.cells #[.int .i64 n, .slice a zs.length cap] 30)).trans (hb1.mono (by simp)))
    have HT := Lib.hid ((two_new w (.int .i64 n) (.slice a zs.length cap) 30).keep hb1)
    clear hb1
    obtain ⟨t, ta, tb⟩ := HT.out
    go_wp2
    clear t ta tb
    go_loopw [5, 6] (fun v i wr => ∃ p : Nat, p ≤ n ∧ i = .int .i64 p ∧ VecAt (frP n zs d p) w1 wr v) (fun _ i _ => n - (intOf i).toNat)
    case atStart => exact ⟨0, by omega, rfl, by rw [frP_zero]; exact vec_made w1⟩
    case round =>
      obtain ⟨p, hpm, rfl, av, cv, rfl, hown, hnx, hsz⟩ := hrel
      obtain ⟨L, hL⟩ : ∃ L, frP n zs d p = L := ⟨_, rfl⟩
      have hml : L.length ≤ 1048577 := by rw [← hL]; have := frP_len n zs d p; omega
      rw [hL] at hown ⊢
      have HL := Lib.hid hL
      have HO1 := Lib.hid hown
      have HN := Lib.hid hnx
      have HZ := Lib.hid hsz
      have HTr := Lib.hid (HT.out.keep hnx)
      have HI : Hid (IntsAt wr a zs.length zs) := Lib.hid (HS.out.below (HB.out.trans (hnx.mono HB.out.size)))
      have HB2 : Hid (∀ k : Int, beatB n zs k = hasB zs (k % n)) := Lib.hid (fun k => by rw [beatB_yes HO.out]; rfl)
      obtain ⟨t1, t1a, t1b⟩ := HTr.out
      clear hL hown hnx hsz
      by_cases hlt : p < n
      · cases h1 : hasB zs p
        · have H1 := Lib.hid h1
          clear h1
          go_wp2_with fail
          refine (has_any a zs.length cap zs p _ HI.out (by omega)).mono ?_
          rintro e w' ⟨rfl, rfl⟩
          rw [H1.out]
          go_wp2_with fail
          refine (beat_spec n a zs.length cap zs ((p : Int) + d) wr HI.out hm (by omega) (by omega)).mono ?_
          rintro e w2 ⟨rfl, hb2⟩
          have HI2 := Lib.hid (HI.out.below hb2)
          have HTr2 := Lib.hid (HTr.out.keep hb2)
          have HX2 := Lib.hid hb2
          clear hb2 t1 t1a t1b
          obtain ⟨t1, t1a, t1b⟩ := HTr2.out
          cases h2 : beatB n zs ((p : Int) + d)
          · have H2 : Hid (hasB zs (((p : Int) + d) % n) = false) := Lib.hid (by rw [← HB2.out]; exact h2)
            clear h2
            go_wp2_with fail
            refine (beat_spec n a zs.length cap zs ((p : Int) - d) w2 HI2.out hm (by omega) (by omega)).mono ?_
            rintro e w3 ⟨rfl, hb3⟩
            have HX3 := Lib.hid (HX2.out.trans (hb3.mono HX2.out.size))
            have HOr := Lib.hid (own_below HO1.out HX3.out)
            have HN3 := Lib.hid (HN.out.trans (HX3.out.mono HZ.out))
            have HZ3 := Lib.hid (Nat.le_trans HZ.out HX3.out.size)
            clear hb3
            cases h3' : beatB n zs ((p : Int) - d)
            · have H3 : Hid (hasB zs (((p : Int) - d) % n) = false) := Lib.hid (by rw [← HB2.out]; exact h3')
              have HY : Hid (frP n zs d (p + 1) = L ++ [(p : Int)]) := Lib.hid (by rw [frP_yes H1.out H2.out H3.out, HL.out])
              clear h3'
              go_wp2_with (at_builtin; refine append_int rfl _ _ rfl w1.heap.size _ L _ _ HOr.out hml HZ3.out _ rfl rfl rfl ?_; intro a' c' w4 hown' hb'; have HO4 := Lib.hid hown'; have HX4 := Lib.hid hb'; clear hown' hb')
              go_roundw
              case rel =>
                refine ⟨p + 1, by omega, by go_num, ?_⟩
                rw [HY.out]
                have := vec_snoc HN3.out HZ3.out HO4.out HX4.out
                simpa using this
              case measure => simp [intOf]; omega
            · have HY : Hid (frP n zs d (p + 1) = L) := Lib.hid (by rw [frP_no (.inr (.inr (by rw [← HB2.out]; exact h3'))), HL.out])
              clear h3'
              go_wp2
              go_roundw
              case rel => exact ⟨p + 1, by omega, by go_num, by rw [HY.out]; exact ⟨av, cv, rfl, HOr.out, HN3.out, HZ3.out⟩⟩
              case measure => simp [intOf]; omega
          · have HY : Hid (frP n zs d (p + 1) = L) := Lib.hid (by rw [frP_no (.inr (.inl (by rw [← HB2.out]; exact h2))), HL.out])
            clear h2
            go_wp2
            go_roundw
            case rel => exact ⟨p + 1, by omega, by go_num, by rw [HY.out]; exact vec_keep ⟨av, cv, rfl, HO1.out, HN.out, HZ.out⟩ HX2.out⟩
            case measure => simp [intOf]; omega
        · have H1 := Lib.hid h1
          have HY : Hid (frP n zs d (p + 1) = L) := Lib.hid (by rw [frP_no (.inl h1), HL.out])
          clear h1
          go_wp2_with fail
          refine (has_any a zs.length cap zs p _ HI.out (by omega)).mono ?_
          rintro e w' ⟨rfl, rfl⟩
          rw [H1.out]
          go_wp2
          go_roundw
          case rel => exact ⟨p + 1, by omega, by go_num, by rw [HY.out]; exact ⟨av, cv, rfl, HO1.out, HN.out, HZ.out⟩⟩
          case measure => simp [intOf]; omega
      · have e : p = n := by omega
        subst e
        go_wp2
        go_ret
        rw [HL.out]
        exact ⟨av, cv, rfl, own_base HO1.out HB.out.size, HB.out.trans (HN.out.mono HB.out.size)⟩
  · have HC := Lib.hid (aviB_no hc)
    have HE : Hid (frB s zs d = []) := Lib.hid (cZ_no hc)
    clear hc
    rw [HE.out]
    go_enter Try.func43, Try.ntmps43
    go_wp2_with fail
    refine (avi_spec s a zs.length cap zs d _ (HS.out.below (bel1 w _)) hm h3 h4).mono ?_
    rintro e w1 ⟨rfl, hb1⟩
    rw [HC.out]
    have HB := Lib.hid ((bel1 w (.cells #[.int .i64 s, .slice a zs.length cap] 30)).trans (hb1.mono (by simp)))
    clear hb1
    go_wp2
    go_ret
    exact ⟨none, 0, rfl, World.ownsRow_nil _ _ _ _, HB.out⟩
end Go.Proofs.Ytpbceckbmalabaa.Rhy
