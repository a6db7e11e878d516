/-
  Helpers of the claims beside this text: GeneratorsOf, IsGenerated of the model.
-/
import Derived.Test.YthcmpkhfimapgaaGns
import Derived.Test.YthcmpkhfimapgaaFma
import Derived.Test.YthcmpkhfimapgaaOut
namespace Go.Proofs.Ythcmpkhfimapgaa.Rhy
open Go.RowKit
set_option linter.unusedVariables false
set_option linter.unusedSimpArgs false

/-- g generates a rotation of the rhythm. -/
def gnQ (n : Int) (zs : List Int) (g : Int) : Prop := GenC n (zs.length : Nat) g ∧ 0 ≤ rotToB n (genZ n (zs.length : Nat) g) n zs
open Classical in
noncomputable def gnP (n : Int) (zs : List Int) (j : Nat) : List Int := ((List.range j).map Int.ofNat).filter fun g => decide (1 ≤ g ∧ gnQ n zs g)
noncomputable def gnB (s : Int) (zs : List Int) : List Int := cZ (Ok s zs) (gnP s zs s.toNat)
theorem gnP_mem {n : Int} {zs : List Int} {j : Nat} {x : Int} : x ∈ gnP n zs j ↔ (1 ≤ x ∧ x < j) ∧ gnQ n zs x := by
  unfold gnP
  rw [List.mem_filter, List.mem_map]
  constructor
  · rintro ⟨⟨i, hi, rfl⟩, hd⟩
    have := List.mem_range.1 hi
    simp only [decide_eq_true_eq] at hd
    exact ⟨⟨hd.1, by show ((i : Nat) : Int) < j; omega⟩, hd.2⟩
  · rintro ⟨⟨h1, h2⟩, hq⟩
    refine ⟨⟨x.toNat, List.mem_range.2 (by omega), by show ((x.toNat : Nat) : Int) = x; omega⟩, ?_⟩
    simp only [decide_eq_true_eq]
    exact ⟨h1, hq⟩
theorem gnP_one (n : Int) (zs : List Int) : gnP n zs 1 = [] := by
  rw [List.eq_nil_iff_forall_not_mem]
  intro x hx
  have := (gnP_mem.1 hx).1
  omega
theorem gnP_yes {n : Int} {zs : List Int} {g : Nat} (h1 : 1 ≤ g) (h : gnQ n zs g) : gnP n zs (g + 1) = gnP n zs g ++ [(g : Int)] := by
  unfold gnP
  rw [List.range_succ, List.map_append, List.filter_append]
  congr 1
  simp only [List.map_cons, List.map_nil]
  rw [List.filter_cons_of_pos]
  · rfl
  · simp only [decide_eq_true_eq]; exact ⟨by show (1 : Int) ≤ (g : Int); omega, h⟩
theorem gnP_no {n : Int} {zs : List Int} {g : Nat} (h : ¬ gnQ n zs g) : gnP n zs (g + 1) = gnP n zs g := by
  unfold gnP
  rw [List.range_succ, List.map_append, List.filter_append]
  simp only [List.map_cons, List.map_nil]
  rw [List.filter_cons_of_neg]
  · simp
  · simp only [decide_eq_true_eq]; exact fun q => h q.2
theorem gnP_len (n : Int) (zs : List Int) (j : Nat) : (gnP n zs j).length ≤ j := by
  unfold gnP
  refine Nat.le_trans (List.length_filter_le _ _) ?_
  simp
theorem gnP_int {n : Int} {zs : List Int} {j : Nat} (hj : j ≤ 1000) : AllInt (gnP n zs j) := by
  intro z hz
  have := (gnP_mem.1 hz).1
  omega
theorem gnB_yes {s : Int} {zs : List Int} (h : Ok s zs) : gnB s zs = gnP s zs s.toNat := cZ_yes h
theorem gnB_no {s : Int} {zs : List Int} (h : ¬ Ok s zs) : gnB s zs = [] := cZ_no h
theorem gnB_int (s : Int) (zs : List Int) : AllInt (gnB s zs) := by
  by_cases h : Ok s zs
  · rw [gnB_yes h]; exact gnP_int (by have := h.1; omega)
  · rw [gnB_no h]; intro z hz; cases hz
theorem gnB_len (s : Int) (zs : List Int) : (gnB s zs).length ≤ 24 := by
  by_cases h : Ok s zs
  · rw [gnB_yes h]; exact Nat.le_trans (gnP_len _ _ _) (by have := h.1; omega)
  · rw [gnB_no h]; simp

set_option maxHeartbeats 2000000 in
theorem gens_spec (s : Int) (a : Option Addr) (len cap : Nat) (zs : List Int) (w : World) (h : IntsAt w a len zs) (hm : zs.length ≤ 1048576) :
    Calls Try.prog 37 #[rhy s a len cap] w (IPost (gnB s zs) w) := by
  have HS := Lib.hid h
  have hl : len ≤ 1048576 := by have := h.1; omega
  obtain rfl : zs.length = len := h.len
  clear h
  by_cases ho : Ok s zs
  · obtain ⟨n, rfl⟩ : ∃ n : Nat, s = n := ⟨s.toNat, by have := ho.1; omega⟩
    have HO := Lib.hid ho
    have hn1 : 1 ≤ n := by have := ho.1.1; omega
    have hn24 : n ≤ 24 := by have := ho.1.2; omega
    have hl24 := ok_len ho
    have HE : Hid (gnB n zs = gnP n zs n) := Lib.hid (by rw [gnB_yes ho, Int.toNat_natCast])
    clear ho
    rw [HE.out]
    go_enter Try.func37, Try.ntmps37
    go_wp2_with fail
    refine (ok_yes n a zs.length cap zs _ (HS.out.below (bel1 w _)) hl HO.out).mono ?_
    rintro e w1 ⟨rfl, hb1⟩
    have HB := Lib.hid ((bel1 w (.cells #[.int .i64 n, .slice a zs.length cap] 26)).trans (hb1.mono (by simp)))
    have HT := Lib.hid ((two_new w (.int .i64 n) (.slice a zs.length cap) 26).keep hb1)
    clear hb1
    go_wp2
    go_loopw [3, 4] (fun v i wr => ∃ g : Nat, 1 ≤ g ∧ g ≤ 25 ∧ g ≤ n ∧ i = .int .i64 g ∧ VecAt (gnP n zs g) w1 wr v) (fun _ i _ => 25 - (intOf i).toNat)
    case atStart => exact ⟨1, by omega, by omega, hn1, rfl, by rw [gnP_one]; exact vec_made w1⟩
    case round =>
      obtain ⟨g, hg1, hg25, hgn, rfl, av, cv, rfl, hown, hnx, hsz⟩ := hrel
      obtain ⟨L, hL⟩ : ∃ L, gnP n zs g = L := ⟨_, rfl⟩
      have hml : L.length ≤ 1048577 := by rw [← hL]; have := gnP_len n zs g; omega
      rw [hL] at hown ⊢
      have HL := Lib.hid hL
      have HO1 := Lib.hid hown
      have HN := Lib.hid hnx
      have HZ := Lib.hid hsz
      have HTr := Lib.hid (HT.out.keep hnx)
      have HI : Hid (IntsAt wr a zs.length zs) := Lib.hid (HS.out.below (HB.out.trans (hnx.mono HB.out.size)))
      obtain ⟨t1, t1a, t1b⟩ := HTr.out
      clear hL hown hnx hsz
      by_cases hlt : g < n
      · go_wp2_with fail
        refine (gen_spec n (zs.length : Nat) g wr (by omega) (by omega) (by omega) (by omega) (by omega) (by omega)).mono ?_
        rintro e w2 hp
        unfold CPost at hp
        by_cases hc : GenC n (zs.length : Nat) g
        · rw [cS_yes hc, cZ_yes hc, cB_yes hc] at hp
          obtain ⟨a2, cap2, rfl, hown2, hb2⟩ := hp
          obtain ⟨X, hX⟩ : ∃ X, genZ n (zs.length : Nat) g = X := ⟨_, rfl⟩
          have hXl : X.length ≤ 24 := by rw [← hX]; exact ok_len (genZ_ok (by omega))
          have HXI : Hid (AllInt X) := Lib.hid (by rw [← hX]; exact ok_int' (genZ_ok (by omega)))
          rw [hX] at hown2 ⊢
          have HX := Lib.hid hX
          have HC := Lib.hid hc
          have HIx := Lib.hid (intsAt_own hown2 HXI.out)
          have HB2 := Lib.hid hb2
          have HT2 := Lib.hid (HTr.out.keep hb2)
          have HBX := Lib.hid (box_new w2 (.int .i64 n) (.slice a2 X.length cap2) 26)
          clear t1 t1a t1b hX hc hown2 hb2
          obtain ⟨t1, t1a, t1b⟩ := HT2.out
          go_wp2_with fail
          refine (rotTo_spec n a2 X.length cap2 X n a zs.length cap zs _ (HIx.out.below (bel1 _ _)) (by omega) (HI.out.below (HB2.out.trans ((bel1 w2 _).mono HB2.out.size))) (by omega)).mono ?_
          rintro e w3 ⟨rfl, hb3⟩
          have HB3 := Lib.hid (HB2.out.trans (((bel1 w2 (.cells #[.int .i64 n, .slice a2 X.length cap2] 26)).trans (hb3.mono (by simp))).mono HB2.out.size))
          have HOr := Lib.hid (own_below HO1.out HB3.out)
          have HN3 := Lib.hid (HN.out.trans (HB3.out.mono HZ.out))
          have HZ3 := Lib.hid (Nat.le_trans HZ.out HB3.out.size)
          obtain ⟨z, hz⟩ : ∃ z, rotToB n X n zs = z := ⟨_, rfl⟩
          have HQ : Hid (gnQ n zs g ↔ 0 ≤ z) := Lib.hid ⟨fun q => by have := q.2; rwa [HX.out, hz] at this, fun q => ⟨HC.out, by rw [HX.out, hz]; exact q⟩⟩
          rw [hz]
          clear hz hb3
          by_cases h0 : 0 ≤ z
          · have hd : decide (0 ≤ z) = true := decide_eq_true h0
            have HY : Hid (gnP n zs (g + 1) = L ++ [(g : Int)]) := Lib.hid (by rw [gnP_yes hg1 (HQ.out.2 h0), HL.out])
            go_wp2_with (at_builtin; refine append_int rfl _ _ rfl w1.heap.size _ L _ _ HOr.out hml HZ3.out _ rfl rfl rfl ?_; intro a' c' w' hown' hb'; have HO2 := Lib.hid hown'; have HX2 := Lib.hid hb'; clear hown' hb')
            go_roundw
            case rel =>
              refine ⟨g + 1, by omega, by omega, by omega, by go_num, ?_⟩
              rw [HY.out]
              have := vec_snoc HN3.out HZ3.out HO2.out HX2.out
              simpa using this
            case measure => simp [intOf]; omega
          · have hd : decide (0 ≤ z) = false := decide_eq_false h0
            have HY : Hid (gnP n zs (g + 1) = L) := Lib.hid (by rw [gnP_no (fun q => h0 (HQ.out.1 q)), HL.out])
            go_wp2
            go_roundw
            case rel => exact ⟨g + 1, by omega, by omega, by omega, by go_num, by rw [HY.out]; exact ⟨av, cv, rfl, HOr.out, HN3.out, HZ3.out⟩⟩
            case measure => simp [intOf]; omega
        · rw [cS_no hc, cZ_no hc, cB_no hc] at hp
          obtain ⟨a2, cap2, rfl, hown2, hb2⟩ := hp
          have HY : Hid (gnP n zs (g + 1) = L) := Lib.hid (by rw [gnP_no (fun q => hc q.1), HL.out])
          have HB3 := Lib.hid (hb2.trans ((bel1 w2 (.cells #[.int .i64 0, .slice a2 0 cap2] 26)).mono hb2.size))
          have HOr := Lib.hid (own_below HO1.out HB3.out)
          have HN3 := Lib.hid (HN.out.trans (HB3.out.mono HZ.out))
          have HZ3 := Lib.hid (Nat.le_trans HZ.out HB3.out.size)
          have HT2 := Lib.hid (HTr.out.keep hb2)
          clear t1 t1a t1b hc hown2 hb2
          obtain ⟨t1, t1a, t1b⟩ := HT2.out
          go_wp2
          go_roundw
          case rel => exact ⟨g + 1, by omega, by omega, by omega, by go_num, by rw [HY.out]; exact ⟨av, cv, rfl, HOr.out, HN3.out, HZ3.out⟩⟩
          case measure => simp [intOf]; omega
      · have e : g = n := by omega
        have HLE : Hid (gnP n zs n = L) := Lib.hid (by have := HL.out; rw [e] at this; exact this)
        clear e
        go_wp2
        go_ret
        rw [HLE.out]
        have h1 := HB.out.size
        exact ⟨av, cv, rfl, own_base HO1.out h1, HB.out.trans (HN.out.mono h1)⟩
  · have HO := Lib.hid ho
    have HE := Lib.hid (gnB_no ho)
    clear ho
    rw [HE.out]
    go_enter Try.func37, Try.ntmps37
    go_wp2_with fail
    refine (ok_no s a zs.length cap zs _ (HS.out.below (bel1 w _)) hl HO.out).mono ?_
    rintro e w1 ⟨rfl, hb1⟩
    have HB := Lib.hid ((bel1 w (.cells #[.int .i64 s, .slice a zs.length cap] 26)).trans (hb1.mono (by simp)))
    clear hb1
    go_wp2
    go_ret
    exact ⟨none, 0, rfl, World.ownsRow_nil _ _ _ _, HB.out⟩
noncomputable def isgB (s : Int) (zs : List Int) : Bool := decide (0 < (gnB s zs).length)
set_option maxHeartbeats 400000 in
theorem isgen_spec (s : Int) (a : Option Addr) (len cap : Nat) (zs : List Int) (w : World) (h : IntsAt w a len zs) (hm : zs.length ≤ 1048576) :
    Calls Try.prog 42 #[rhy s a len cap] w fun e w' => e = .returned (.bool (isgB s zs)) ∧ Below w.heap.size w w' := by
  have HS := Lib.hid h
  clear h
  go_enter Try.func42, Try.ntmps42
  go_wp2_with fail
  refine (gens_spec s a len cap zs _ (HS.out.below (bel1 w _)) hm).mono ?_
  rintro e w1 ⟨a1, c1, rfl, hown, hb1⟩
  have HB := Lib.hid ((bel1 w (.cells #[.int .i64 s, .slice a len cap] 26)).trans (hb1.mono (by simp)))
  clear hown hb1
  go_wp2
  go_ret
  exact ⟨rfl, HB.out⟩
end Go.Proofs.Ythcmpkhfimapgaa.Rhy
