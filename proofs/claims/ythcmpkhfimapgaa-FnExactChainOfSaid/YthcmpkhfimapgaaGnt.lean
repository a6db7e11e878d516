/-
  Helpers of the claims beside this text: TwoSizeCounts of the model.
-/
import Derived.Test.YthcmpkhfimapgaaGnd
import Derived.Test.YthcmpkhfimapgaaOut
namespace Go.Proofs.Ythcmpkhfimapgaa.Rhy
open Go.RowKit
set_option linter.unusedVariables false
set_option linter.unusedSimpArgs false

def tsQ (n g k : Int) : Prop := GenC n k g ∧ csB n (genZ n k g) ≤ 2
open Classical in
noncomputable def tsP (n g : Int) (j : Nat) : List Int := ((List.range j).map Int.ofNat).filter fun k => decide (2 ≤ k ∧ tsQ n g k)
def TsC (n g : Int) : Prop := (1 ≤ n ∧ n ≤ 24) ∧ (1 ≤ g ∧ g ≤ n)
noncomputable def tsB (n g : Int) : List Int := cZ (TsC n g) (tsP n g n.toNat)
theorem tsP_mem {n g : Int} {j : Nat} {x : Int} : x ∈ tsP n g j ↔ (2 ≤ x ∧ x < j) ∧ tsQ n g x := by
  unfold tsP
  rw [List.mem_filter, List.mem_map]
  constructor
  · rintro ⟨⟨i, hi, rfl⟩, hd⟩
    have := List.mem_range.1 hi
    simp only [decide_eq_true_eq] at hd
    exact ⟨⟨hd.1, by show ((i : Nat) : Int) < j; omega⟩, hd.2⟩
  · rintro ⟨⟨h1, h2⟩, hq⟩
    refine ⟨⟨x.toNat, List.mem_range.2 (by omega), by show ((x.toNat : Nat) : Int) = x; omega⟩, ?_⟩
    simp only [decide_eq_true_eq]
    exact ⟨h1, hq⟩
theorem tsP_two (n g : Int) : tsP n g 2 = [] := by
  rw [List.eq_nil_iff_forall_not_mem]
  intro x hx
  have := (tsP_mem.1 hx).1
  omega
theorem tsP_yes {n g : Int} {k : Nat} (h1 : 2 ≤ k) (h : tsQ n g k) : tsP n g (k + 1) = tsP n g k ++ [(k : Int)] := by
  unfold tsP
  rw [List.range_succ, List.map_append, List.filter_append]
  congr 1
  simp only [List.map_cons, List.map_nil]
  rw [List.filter_cons_of_pos]
  · rfl
  · simp only [decide_eq_true_eq]; exact ⟨by show (2 : Int) ≤ (k : Int); omega, h⟩
theorem tsP_no {n g : Int} {k : Nat} (h : ¬ tsQ n g k) : tsP n g (k + 1) = tsP n g k := by
  unfold tsP
  rw [List.range_succ, List.map_append, List.filter_append]
  simp only [List.map_cons, List.map_nil]
  rw [List.filter_cons_of_neg]
  · simp
  · simp only [decide_eq_true_eq]; exact fun q => h q.2
theorem tsP_len (n g : Int) (j : Nat) : (tsP n g j).length ≤ j := by
  unfold tsP
  refine Nat.le_trans (List.length_filter_le _ _) ?_
  simp
theorem tsB_int (n g : Int) : AllInt (tsB n g) := by
  by_cases h : TsC n g
  · unfold tsB
    rw [cZ_yes h]
    intro z hz
    have := (tsP_mem.1 hz).1
    have := h.1
    omega
  · unfold tsB
    rw [cZ_no h]
    intro z hz; cases hz
theorem tsB_len (n g : Int) : (tsB n g).length ≤ 24 := by
  by_cases h : TsC n g
  · unfold tsB
    rw [cZ_yes h]
    exact Nat.le_trans (tsP_len _ _ _) (by have := h.1; omega)
  · unfold tsB
    rw [cZ_no h]
    simp

set_option maxHeartbeats 2000000 in
theorem tsc_spec (n g : Int) (w : World) (h1 : -9223372036854775808 ≤ n) (h2 : n ≤ 9223372036854775807) (h3 : -9223372036854775808 ≤ g) (h4 : g ≤ 9223372036854775807) :
    Calls Try.prog 48 #[.int .i64 n, .int .i64 g] w (IPost (tsB n g) w) := by
  by_cases hn : 1 ≤ n ∧ n ≤ 24
  · by_cases hg : 1 ≤ g ∧ g ≤ n
    · obtain ⟨N, rfl⟩ : ∃ N : Nat, n = N := ⟨n.toNat, by omega⟩
      have HE : Hid (tsB N g = tsP N g N) := Lib.hid (by unfold tsB; rw [cZ_yes ⟨hn, hg⟩, Int.toNat_natCast])
      obtain ⟨hn1, hn2⟩ := hn
      obtain ⟨hg1, hg2⟩ := hg
      rw [HE.out]
      go_enter Try.func48, Try.ntmps48
      go_wp2_with fail
      refine (in_yes _ _ _ _ hn1 hn2).mono ?_
      rintro e w' ⟨rfl, rfl⟩
      go_wp2_with fail
      refine (in_yes _ _ _ _ hg1 hg2).mono ?_
      rintro e w' ⟨rfl, rfl⟩
      go_wp2
      go_loopw [5, 6] (fun v i wr => ∃ k : Nat, 2 ≤ k ∧ k ≤ 25 ∧ (k ≤ N ∨ k = 2) ∧ i = .int .i64 k ∧ VecAt (tsP N g k) w wr v) (fun _ i _ => 25 - (intOf i).toNat)
      case atStart => exact ⟨2, by omega, by omega, .inr rfl, rfl, by rw [tsP_two]; exact vec_made w⟩
      case round =>
        obtain ⟨k, hk2, hk25, hkN, rfl, av, cv, rfl, hown, hnx, hsz⟩ := hrel
        obtain ⟨L, hL⟩ : ∃ L, tsP N g k = L := ⟨_, rfl⟩
        have hml : L.length ≤ 1048577 := by rw [← hL]; have := tsP_len N g k; omega
        rw [hL] at hown ⊢
        have HL := Lib.hid hL
        have HO1 := Lib.hid hown
        have HN := Lib.hid hnx
        have HZ := Lib.hid hsz
        clear hL hown hnx hsz
        by_cases hlt : k < N
        · go_wp2_with fail
          refine (gen_spec N k g wr (by omega) (by omega) (by omega) (by omega) (by omega) (by omega)).mono ?_
          rintro e w2 hp
          unfold CPost at hp
          by_cases hc : GenC N k g
          · rw [cS_yes hc, cZ_yes hc, cB_yes hc] at hp
            obtain ⟨a2, cap2, rfl, hown2, hb2⟩ := hp
            obtain ⟨X, hX⟩ : ∃ X, genZ N k g = X := ⟨_, rfl⟩
            have hXl : X.length ≤ 24 := by rw [← hX]; exact ok_len (genZ_ok (by omega))
            have HXI : Hid (AllInt X) := Lib.hid (by rw [← hX]; exact ok_int' (genZ_ok (by omega)))
            rw [hX] at hown2 ⊢
            have HX := Lib.hid hX
            have HC := Lib.hid hc
            have HIx := Lib.hid (intsAt_own hown2 HXI.out)
            have HB2 := Lib.hid hb2
            clear hX hc hown2 hb2
            go_wp2_with fail
            refine (csz_spec N a2 X.length cap2 X _ (HIx.out.below (bel1 _ _)) (by omega)).mono ?_
            rintro e w3 ⟨rfl, hb3⟩
            have HB3 := Lib.hid (HB2.out.trans (((bel1 w2 (.cells #[.int .i64 N, .slice a2 X.length cap2] 26)).trans (hb3.mono (by simp))).mono HB2.out.size))
            have HOr := Lib.hid (own_below HO1.out HB3.out)
            have HN3 := Lib.hid (HN.out.trans (HB3.out.mono HZ.out))
            have HZ3 := Lib.hid (Nat.le_trans HZ.out HB3.out.size)
            obtain ⟨z, hz⟩ : ∃ z, csB N X = z := ⟨_, rfl⟩
            have HQ : Hid (tsQ N g k ↔ z ≤ 2) := Lib.hid ⟨fun q => by have := q.2; rwa [HX.out, hz] at this, fun q => ⟨HC.out, by rw [HX.out, hz]; exact q⟩⟩
            rw [hz]
            clear hz hb3
            by_cases h0 : z ≤ 2
            · have hd : decide (z ≤ 2) = true := decide_eq_true h0
              have HY : Hid (tsP N g (k + 1) = L ++ [(k : Int)]) := Lib.hid (by rw [tsP_yes hk2 (HQ.out.2 h0), HL.out])
              go_wp2_with (at_builtin; refine append_int rfl _ _ rfl w.heap.size _ L _ _ HOr.out hml HZ3.out _ rfl rfl rfl ?_; intro a' c' w' hown' hb'; have HO2 := Lib.hid hown'; have HX2 := Lib.hid hb'; clear hown' hb')
              go_roundw
              case rel =>
                refine ⟨k + 1, by omega, by omega, .inl (by omega), by go_num, ?_⟩
                rw [HY.out]
                have := vec_snoc HN3.out HZ3.out HO2.out HX2.out
                simpa using this
              case measure => simp [intOf]; omega
            · have hd : decide (z ≤ 2) = false := decide_eq_false h0
              have HY : Hid (tsP N g (k + 1) = L) := Lib.hid (by rw [tsP_no (fun q => h0 (HQ.out.1 q)), HL.out])
              go_wp2
              go_roundw
              case rel => exact ⟨k + 1, by omega, by omega, .inl (by omega), by go_num, by rw [HY.out]; exact ⟨av, cv, rfl, HOr.out, HN3.out, HZ3.out⟩⟩
              case measure => simp [intOf]; omega
          · rw [cS_no hc, cZ_no hc, cB_no hc] at hp
            obtain ⟨a2, cap2, rfl, hown2, hb2⟩ := hp
            have HY : Hid (tsP N g (k + 1) = L) := Lib.hid (by rw [tsP_no (fun q => hc q.1), HL.out])
            have HB3 := Lib.hid (hb2.trans ((bel1 w2 (.cells #[.int .i64 0, .slice a2 0 cap2] 26)).mono hb2.size))
            have HOr := Lib.hid (own_below HO1.out HB3.out)
            have HN3 := Lib.hid (HN.out.trans (HB3.out.mono HZ.out))
            have HZ3 := Lib.hid (Nat.le_trans HZ.out HB3.out.size)
            clear hc hown2 hb2
            go_wp2
            go_roundw
            case rel => exact ⟨k + 1, by omega, by omega, .inl (by omega), by go_num, by rw [HY.out]; exact ⟨av, cv, rfl, HOr.out, HN3.out, HZ3.out⟩⟩
            case measure => simp [intOf]; omega
        · have HLE : Hid (tsP N g N = L) := Lib.hid (by
            rw [← HL.out]
            by_cases e : k = N
            · rw [e]
            · obtain rfl : k = 2 := by omega
              rw [tsP_two, List.eq_nil_iff_forall_not_mem]
              intro x hx
              have := (tsP_mem.1 hx).1
              omega)
          go_wp2
          go_ret
          rw [HLE.out]
          exact ⟨av, cv, rfl, HO1.out, HN.out⟩
    · have HG := Lib.hid hg
      have HE : Hid (tsB n g = []) := Lib.hid (by unfold tsB; rw [cZ_no (fun q => hg q.2)])
      obtain ⟨hn1, hn2⟩ := hn
      clear hg
      rw [HE.out]
      go_enter Try.func48, Try.ntmps48
      go_wp2_with fail
      refine (in_yes _ _ _ _ hn1 hn2).mono ?_
      rintro e w' ⟨rfl, rfl⟩
      go_wp2_with fail
      refine (in_no _ _ _ _ HG.out).mono ?_
      rintro e w' ⟨rfl, rfl⟩
      go_wp2
      go_ret
      exact ⟨none, 0, rfl, World.ownsRow_nil _ _ _ _, Below.refl _ _⟩
  · have HN := Lib.hid hn
    have HE : Hid (tsB n g = []) := Lib.hid (by unfold tsB; rw [cZ_no (fun q => hn q.1)])
    clear hn
    rw [HE.out]
    go_enter Try.func48, Try.ntmps48
    go_wp2_with fail
    refine (in_no _ _ _ _ HN.out).mono ?_
    rintro e w' ⟨rfl, rfl⟩
    go_wp2
    go_ret
    exact ⟨none, 0, rfl, World.ownsRow_nil _ _ _ _, Below.refl _ _⟩
end Go.Proofs.Ythcmpkhfimapgaa.Rhy
