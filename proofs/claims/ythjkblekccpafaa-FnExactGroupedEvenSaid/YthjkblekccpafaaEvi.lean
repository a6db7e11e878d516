/-
  Helpers of the claims beside this text: IsEven of the model.
-/
import Derived.Test.YthjkblekccpafaaEvn
import Derived.Test.YthjkblekccpafaaStp6
namespace Go.Proofs.Ythjkblekccpafaa.Rhy
open Go.RowKit
set_option linter.unusedVariables false
set_option linter.unusedSimpArgs false

/-- The last number of a list without the first one. -/
def evnD (l : List Int) : Int := l[l.length - 1]?.getD 0 - l[0]?.getD 0
def evnK (s : Int) (zs : List Int) (k : Nat) : Prop := evnD (spansB s zs k) ≤ 1
def evnC (s : Int) (zs : List Int) : Prop := Ok s zs ∧ ∀ k : Nat, 1 ≤ k → k < zs.length → evnK s zs k
noncomputable def evnB (s : Int) (zs : List Int) : Bool := @decide (evnC s zs) (Classical.propDecidable _)
theorem evnB_yes {s : Int} {zs : List Int} (h : evnC s zs) : evnB s zs = true := by simp [evnB, h]
theorem evnB_no {s : Int} {zs : List Int} (h : ¬ evnC s zs) : evnB s zs = false := by simp [evnB, h]
theorem stB_length {s : Int} {zs : List Int} (h : Ok s zs) : (stB s zs).length = zs.length := by rw [stB_yes h]; exact stepsP_len _ _ _
theorem spansB_eq {s : Int} {zs : List Int} {k : Nat} (h : Ok s zs) (h0 : 0 < zs.length) (hk : k ≤ zs.length) : spansB s zs k = ofZ 577 (spansL (stB s zs) k zs.length) := by
  unfold spansB
  rw [stB_length h, cZ_yes ⟨h0, by omega, by omega⟩]
  rfl
theorem spansB_bd {s : Int} {zs : List Int} {k : Nat} (h : Ok s zs) (h0 : 0 < zs.length) (hk : k ≤ zs.length) : ∀ x ∈ spansB s zs k, 0 ≤ x ∧ x < 577 := by
  intro x hx
  rw [spansB_eq h h0 hk] at hx
  have := (ofZ_mem.1 hx).1
  omega
theorem spansB_ne {s : Int} {zs : List Int} {k : Nat} (h : Ok s zs) (h0 : 0 < zs.length) (hk : k ≤ zs.length) : 0 < (spansB s zs k).length := by
  rw [spansB_eq h h0 hk]
  have hm : spanL (stB s zs) 0 k ∈ spansL (stB s zs) k zs.length := List.mem_map.2 ⟨0, List.mem_range.2 h0, rfl⟩
  have hb := spansL_bd (stB_bd s zs) (k := k) (n := zs.length) (by have := ok_len h; omega) _ hm
  exact List.length_pos_of_mem (ofZ_mem.2 ⟨by omega, hm⟩)
theorem spansB_len {s : Int} {zs : List Int} {k : Nat} (h : Ok s zs) (h0 : 0 < zs.length) (hk : k ≤ zs.length) : (spansB s zs k).length ≤ 577 := by
  rw [spansB_eq h h0 hk]; exact ofZ_len _ _

set_option maxHeartbeats 1000000 in
theorem isEven_spec (s : Int) (a : Option Addr) (len cap : Nat) (zs : List Int) (w : World) (h : IntsAt w a len zs) (hm : zs.length ≤ 1048576) :
    Calls Try.prog 21 #[rhy s a len cap] w fun e w' => e = .returned (.bool (evnB s zs)) ∧ Below w.heap.size w w' := by
  have HS := Lib.hid h
  have hl : len ≤ 1048576 := by have := h.1; omega
  have HLN := Lib.hid h.1
  clear h
  by_cases ho : Ok s zs
  · have HO := Lib.hid ho
    have hl24 : len ≤ 24 := by have := ok_len ho; have := HLN.out; omega
    clear ho
    obtain ⟨q, hq⟩ : ∃ q, evnB s zs = q := ⟨_, rfl⟩
    have HQ := Lib.hid hq
    clear hq
    rw [HQ.out]
    go_enter Try.func21, Try.ntmps21
    go_wp2_with fail
    refine (ok_yes s a len cap zs _ (HS.out.below (bel1 w _)) hl HO.out).mono ?_
    rintro e w1 ⟨rfl, hb1⟩
    have HB := Lib.hid ((bel1 w (.cells #[.int .i64 s, .slice a len cap] 24)).trans (hb1.mono (by simp)))
    have HT := Lib.hid ((two_new w (.int .i64 s) (.slice a len cap) 24).keep hb1)
    clear hb1
    go_wp2
    go_loopw [3] (fun i wr => ∃ k : Nat, 1 ≤ k ∧ k ≤ 25 ∧ i = .int .i64 k ∧ Hid (∀ j : Nat, 1 ≤ j → j < k → j < zs.length → evnK s zs j) ∧ Below w1.heap.size w1 wr) (fun i _ => 25 - (intOf i).toNat)
    case atStart => exact ⟨1, by omega, by omega, rfl, Lib.hid (fun j h1 h2 => absurd h2 (by omega)), Below.refl _ _⟩
    case round =>
      obtain ⟨k, hk1, hk25, rfl, HEV, hbl⟩ := hrel
      have HX := Lib.hid hbl
      have HTr := Lib.hid (HT.out.keep hbl)
      obtain ⟨t1, t1a, t1b⟩ := HTr.out
      have HIr : Hid (IntsAt wr a len zs) := Lib.hid (HS.out.below (HB.out.trans (hbl.mono HB.out.size)))
      clear hbl
      by_cases hlt : k < len
      · have hz0 : 0 < zs.length := by have := HLN.out; omega
        have hkz : k ≤ zs.length := by have := HLN.out; omega
        obtain ⟨l, hle⟩ : ∃ l, spansB s zs k = l := ⟨_, rfl⟩
        have hne := spansB_ne HO.out hz0 hkz
        have hll := spansB_len HO.out hz0 hkz
        have hbd := spansB_bd HO.out hz0 hkz
        rw [hle] at hne hll hbd
        have HLE := Lib.hid hle
        have HBD := Lib.hid hbd
        clear hle hbd
        go_wp2_with fail
        refine (spans_spec s a len cap zs k wr HIr.out (by omega) (by omega) (by omega)).mono ?_
        rintro e w2 ⟨b, c, rfl, hown, hb⟩
        rw [HLE.out] at hown ⊢
        have HI2 := Lib.hid (intsAt_own hown (by rw [← HLE.out]; exact spansB_int s zs k))
        have HB2 := Lib.hid (HX.out.trans (hb.mono HX.out.size))
        have HTr2 := Lib.hid (HTr.out.keep hb)
        clear hown hb
        obtain ⟨g, o, y, rfl, hg, hy, hcy, hy1, hy2⟩ := HI2.out.at (k := l.length - 1) (by omega)
        obtain ⟨g', o', x, he, hg', hx, hcx, hx1, hx2⟩ := HI2.out.at (k := 0) (by omega)
        cases he
        have hcy' : w2.cell? ⟨g, o + (l.length - 1), none⟩ = some (.int .i64 y) := hcy
        have hcx' : w2.cell? ⟨g, o, none⟩ = some (.int .i64 x) := hcx
        have hyb := HBD.out y (List.mem_of_getElem? hy)
        have hxb := HBD.out x (List.mem_of_getElem? hx)
        have HD : Hid (evnD l = y - x) := Lib.hid (by unfold evnD; rw [hy, hx]; rfl)
        have hw1 : wrap64 ((l.length : Int) - 1) = (l.length : Int) - 1 := by unfold wrap64; omega
        have hw2 : wrap64 (y - x) = y - x := by unfold wrap64; omega
        obtain ⟨u1, u1a, u1b⟩ := HTr2.out
        clear hy hx
        by_cases hd : y - x ≤ 1
        · have hdb : decide (1 < y - x) = false := by simp; omega
          go_wp2_with fail
          go_region
          go_wp2
          go_roundw
          case rel =>
            refine ⟨k + 1, by omega, by omega, by go_num, Lib.hid (fun j h1 h2 h3 => ?_), HB2.out.drew⟩
            rcases Nat.lt_or_ge j k with q1 | q1
            · exact HEV.out j h1 q1 h3
            · obtain rfl : j = k := by omega
              show evnD (spansB s zs j) ≤ 1
              rw [HLE.out, HD.out]
              exact hd
          case measure => simp [intOf]; omega
        · have hdb : decide (1 < y - x) = true := by simp; omega
          have HQF : Hid (q = false) := Lib.hid (by
            rw [← HQ.out]
            refine evnB_no (fun hq => hd ?_)
            have : evnD (spansB s zs k) ≤ 1 := hq.2 k hk1 (by have := HLN.out; omega)
            rw [HLE.out, HD.out] at this
            exact this)
          go_wp2_with fail
          go_region
          go_wp2
          go_ret
          exact ⟨by rw [HQF.out]; rfl, HB.out.trans ((HB2.out.drew).mono HB.out.size)⟩
      · have HQT : Hid (q = true) := Lib.hid (by
          rw [← HQ.out]
          exact evnB_yes ⟨HO.out, fun j h1 h2 => HEV.out j h1 (by have := HLN.out; omega) h2⟩)
        go_wp2
        go_ret
        exact ⟨by rw [HQT.out]; rfl, HB.out.trans (HX.out.mono HB.out.size)⟩
  · have HO := Lib.hid ho
    have HE := Lib.hid (evnB_no (s := s) (zs := zs) (fun x => ho x.1))
    clear ho
    rw [HE.out]
    go_enter Try.func21, Try.ntmps21
    go_wp2_with fail
    refine (ok_no s a len cap zs _ (HS.out.below (bel1 w _)) hl HO.out).mono ?_
    rintro e w1 ⟨rfl, hb1⟩
    have HB := Lib.hid ((bel1 w (.cells #[.int .i64 s, .slice a len cap] 24)).trans (hb1.mono (by simp)))
    clear hb1
    go_wp2
    go_ret
    exact ⟨rfl, HB.out⟩
end Go.Proofs.Ythjkblekccpafaa.Rhy
