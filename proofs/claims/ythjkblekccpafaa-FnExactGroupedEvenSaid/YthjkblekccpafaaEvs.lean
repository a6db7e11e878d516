/-
  Helpers of the claims beside this text: SpreadOf, MostSpread of the model.
-/
import Derived.Test.YthjkblekccpafaaEvn
namespace Go.Proofs.Ythjkblekccpafaa.Rhy
open Go.RowKit
set_option linter.unusedVariables false
set_option linter.unusedSimpArgs false

/-- The sum over the pairs of a beat p and the beats of l. -/
def sprR (s p : Int) (l : List Int) : Int := (l.map fun q => (p - q) * (s - p + q)).sum
def sprP (s : Int) (zs : List Int) (j : Nat) : Int := ((List.range j).map fun i => sprR s (zs[i]?.getD 0) (zs.take i)).sum
open Classical in
noncomputable def sprB (s : Int) (zs : List Int) : Int := if Ok s zs then sprP s zs zs.length else -1
theorem sprB_yes {s : Int} {zs : List Int} (h : Ok s zs) : sprB s zs = sprP s zs zs.length := if_pos h
theorem sprB_no {s : Int} {zs : List Int} (h : ¬ Ok s zs) : sprB s zs = -1 := if_neg h
theorem sprR_snoc {s p q : Int} {l : List Int} {k : Nat} (h : l[k]? = some q) : sprR s p (l.take (k + 1)) = sprR s p (l.take k) + (p - q) * (s - p + q) := by
  unfold sprR
  rw [List.take_add_one, h]
  simp
theorem sprP_snoc {s : Int} {zs : List Int} {j : Nat} {p : Int} (h : zs[j]? = some p) : sprP s zs (j + 1) = sprP s zs j + sprR s p (zs.take j) := by
  unfold sprP
  rw [List.range_succ, List.map_append, List.sum_append]
  simp [h]
theorem spr_term {s p q : Int} (hs : 1 ≤ s ∧ s ≤ 24) (hp : 0 ≤ p ∧ p < s) (hq : 0 ≤ q ∧ q < s) : -1200 ≤ (p - q) * (s - p + q) ∧ (p - q) * (s - p + q) ≤ 1200 := by
  have h : ((p - q) * (s - p + q)).natAbs ≤ 24 * 48 := by
    rw [Int.natAbs_mul]
    exact Nat.mul_le_mul (by omega) (by omega)
  omega
theorem sprR_bd {s p : Int} (hs : 1 ≤ s ∧ s ≤ 24) (hp : 0 ≤ p ∧ p < s) : ∀ l : List Int, (∀ q ∈ l, 0 ≤ q ∧ q < s) → -1200 * (l.length : Int) ≤ sprR s p l ∧ sprR s p l ≤ 1200 * (l.length : Int) := by
  intro l
  induction l with
  | nil => intro _; simp [sprR]
  | cons q l ih =>
    intro h
    have h1 := ih (fun x hx => h x (List.mem_cons_of_mem _ hx))
    have h2 := spr_term hs hp (h q (by simp))
    have e : sprR s p (q :: l) = (p - q) * (s - p + q) + sprR s p l := by simp [sprR]
    rw [e]
    simp only [List.length_cons]
    omega
theorem take_mem {l : List Int} {k : Nat} {x : Int} (h : x ∈ l.take k) : x ∈ l := List.mem_of_mem_take h
theorem ok_beat {s : Int} {zs : List Int} (h : Ok s zs) : ∀ q ∈ zs, 0 ≤ q ∧ q < s := fun q hq => ok_range h q hq
theorem sprR_at {s p : Int} {zs : List Int} (h : Ok s zs) (hp : 0 ≤ p ∧ p < s) (k : Nat) : -30000 ≤ sprR s p (zs.take k) ∧ sprR s p (zs.take k) ≤ 30000 := by
  have h1 := sprR_bd (by have := h.1; omega) hp (zs.take k) (fun q hq => ok_beat h q (take_mem hq))
  have h2 : (zs.take k).length ≤ 24 := Nat.le_trans (List.length_take_le' _ _) (ok_len h)
  omega
theorem sprP_bd {s : Int} {zs : List Int} (h : Ok s zs) : ∀ j, j ≤ zs.length → -30000 * (j : Int) ≤ sprP s zs j ∧ sprP s zs j ≤ 30000 * (j : Int) := by
  intro j
  induction j with
  | zero => intro _; simp [sprP]
  | succ j ih =>
    intro hj
    have e := List.getElem?_eq_getElem (show j < zs.length by omega)
    have h1 := ih (by omega)
    have h2 := sprR_at h (ok_beat h _ (List.getElem_mem (show j < zs.length by omega))) j
    rw [sprP_snoc e]
    omega

set_option maxHeartbeats 1000000 in
theorem spr_spec (s : Int) (a : Option Addr) (len cap : Nat) (zs : List Int) (w : World) (h : IntsAt w a len zs) (hm : zs.length ≤ 1048576) (hcap : zs.length ≤ cap) :
    Calls Try.prog 24 #[rhy s a len cap] w fun e w' => e = .returned (.int .i64 (sprB s zs)) ∧ Below w.heap.size w w' := by
  have HS := Lib.hid h
  have hl : len ≤ 1048576 := by have := h.1; omega
  have HLN := Lib.hid h.1
  have hlc : len ≤ cap := by have := h.1; omega
  clear h
  by_cases ho : Ok s zs
  · have HO := Lib.hid ho
    have HE := Lib.hid (sprB_yes ho)
    have hs1 := ho.1.1
    have hs2 := ho.1.2
    have hl24 : len ≤ 24 := by have := ok_len ho; have := HLN.out; omega
    clear ho
    go_enter Try.func24, Try.ntmps24
    go_wp2_with fail
    refine (ok_yes s a len cap zs _ (HS.out.below (bel1 w _)) hl HO.out).mono ?_
    rintro e w1 ⟨rfl, hb1⟩
    have HB := Lib.hid ((bel1 w (.cells #[.int .i64 s, .slice a len cap] 24)).trans (hb1.mono (by simp)))
    have HT := Lib.hid ((two_new w (.int .i64 s) (.slice a len cap) 24).keep hb1)
    obtain ⟨t1, t1a, t1b⟩ := HT.out
    have HI : Hid (IntsAt w1 a len zs) := Lib.hid (HS.out.below HB.out)
    clear hb1
    go_wp2
    go_loop [3, 14] (fun v i => ∃ j : Nat, j ≤ len ∧ i = .int .i64 j ∧ v = .int .i64 (sprP s zs j)) (fun _ i => len - (intOf i).toNat)
    case atStart => exact ⟨0, by omega, rfl, by simp [sprP]⟩
    case round =>
      obtain ⟨j, hj, rfl, rfl⟩ := hrel
      obtain ⟨S, hS⟩ : ∃ S, sprP s zs j = S := ⟨_, rfl⟩
      have hSb := sprP_bd HO.out j (by have := HLN.out; omega)
      rw [hS] at hSb ⊢
      have HSS := Lib.hid hS
      clear hS
      by_cases hlt : j < len
      · obtain ⟨b, off, z, rfl, hb, hs, hc, hz1, hz2⟩ := HI.out.at hlt
        have hz := ok_at HO.out hs
        have HZ := Lib.hid hz
        have HN := Lib.hid (sprP_snoc (s := s) hs)
        have hjc : (j : Int) ≤ (cap : Int) := by omega
        clear hs
        go_wp2
        go_loop [3, 24] (fun v i => ∃ q : Nat, q ≤ j ∧ i = .int .i64 q ∧ v = .int .i64 (S + sprR s z (zs.take q))) (fun _ i => j - (intOf i).toNat)
        case atStart => exact ⟨0, by omega, rfl, by simp [sprR]⟩
        case round =>
          obtain ⟨q, hq, rfl, rfl⟩ := hrel
          obtain ⟨R, hR⟩ : ∃ R, sprR s z (zs.take q) = R := ⟨_, rfl⟩
          have hRb := sprR_at HO.out hz q
          rw [hR] at hRb ⊢
          have HR := Lib.hid hR
          clear hR
          by_cases hlq : q < j
          · obtain ⟨b2, off2, y, hbe, hb2, hs2', hc2, hy1, hy2⟩ := HI.out.at (k := q) (by omega)
            cases hbe
            have hy := ok_at HO.out hs2'
            have hT := spr_term ⟨hs1, hs2⟩ hz hy
            have HNR := Lib.hid (sprR_snoc (s := s) (p := z) hs2')
            obtain ⟨T, hTe⟩ : ∃ T, (z - y) * (s - z + y) = T := ⟨_, rfl⟩
            rw [hTe] at hT HNR
            have hw1 : wrap64 (z - y) = z - y := by unfold wrap64; omega
            have hw2 : wrap64 (s - z) = s - z := by unfold wrap64; omega
            have hw3 : wrap64 (s - z + y) = s - z + y := by unfold wrap64; omega
            have hw4 : wrap64 ((z - y) * (s - z + y)) = T := by rw [hTe]; unfold wrap64; omega
            have hw5 : wrap64 (S + R + T) = S + R + T := by unfold wrap64; omega
            clear hs2' hTe
            go_wp2
            go_round
            case rel => exact ⟨q + 1, by omega, by go_num, by rw [HNR.out, HR.out]; simp; omega⟩
            case measure => simp [intOf]; omega
          · have e : q = j := by omega
            subst e
            go_wp2
            go_round
            case rel => exact ⟨q + 1, by omega, by go_num, by rw [HN.out, HSS.out, HR.out]⟩
            case measure => simp [intOf]; omega
      · have e : j = len := by omega
        have HSE : Hid (sprB s zs = S) := Lib.hid (by rw [HE.out, ← HSS.out, e, HLN.out])
        clear e
        go_wp2
        go_ret
        exact ⟨by rw [HSE.out]; rfl, HB.out⟩
  · have HO := Lib.hid ho
    have HE := Lib.hid (sprB_no ho)
    clear ho
    rw [HE.out]
    go_enter Try.func24, Try.ntmps24
    go_wp2_with fail
    refine (ok_no s a len cap zs _ (HS.out.below (bel1 w _)) hl HO.out).mono ?_
    rintro e w1 ⟨rfl, hb1⟩
    have HB := Lib.hid ((bel1 w (.cells #[.int .i64 s, .slice a len cap] 24)).trans (hb1.mono (by simp)))
    clear hb1
    go_wp2
    go_ret
    exact ⟨rfl, HB.out⟩
/-! the greatest spread -/
theorem evZ_int {k n m : Int} (h : EvC k n) : AllInt (evZ k n m) := ofZ_int (by have := h.2.1; omega)
open Classical in
noncomputable def mostB (k n : Int) : Int := if EvC k n then sprB n (evZ k n 0) else -1
set_option maxHeartbeats 400000 in
theorem most_spec (k n : Int) (w : World) (h1 : -9223372036854775808 ≤ k) (h2 : k ≤ 9223372036854775807) (h3 : -9223372036854775808 ≤ n) (h4 : n ≤ 9223372036854775807) :
    Calls Try.prog 26 #[.int .i64 k, .int .i64 n] w fun e w' => e = .returned (.int .i64 (mostB k n)) ∧ Below w.heap.size w w' := by
  by_cases ho : EvC k n
  · have HO := Lib.hid ho
    have HE : Hid (mostB k n = sprB n (evZ k n 0)) := Lib.hid (if_pos ho)
    have hlen : (evZ k n 0).length ≤ 24 := Nat.le_trans (ofZ_len _ _) (by have := ho.2.1; omega)
    clear ho
    rw [HE.out]
    go_enter Try.func26, Try.ntmps26
    go_wp2_with fail
    refine (even_spec k n _ h1 h2 h3 h4).mono ?_
    rintro e w1 h
    unfold CPost at h
    rw [cS_yes HO.out, cZ_yes HO.out, cB_yes HO.out] at h
    obtain ⟨a, cap, rfl, hown, hb⟩ := h
    have HI := Lib.hid (intsAt_own hown (evZ_int HO.out))
    have HCP := Lib.hid (own_cap hown)
    have HB := Lib.hid hb
    have HX := Lib.hid (box_new w1 (.int .i64 n) (.slice a (evZ k n 0).length cap) 24)
    obtain ⟨c0, c1, c2, c3⟩ := HX.out.facts
    have lt0 := HX.out.lt
    clear hown hb
    go_wp2_with fail
    refine (spr_spec n a (evZ k n 0).length cap (evZ k n 0) _ (HI.out.below (bel1 _ _)) (by omega) HCP.out).mono ?_
    rintro e w2 ⟨rfl, hb2⟩
    have HB2 := Lib.hid (HB.out.trans (((bel1 w1 _).trans (hb2.mono (by simp))).mono HB.out.size))
    clear hb2
    go_wp2
    go_ret
    exact ⟨rfl, HB2.out⟩
  · have HO := Lib.hid ho
    have HE : Hid (mostB k n = -1) := Lib.hid (if_neg ho)
    clear ho
    rw [HE.out]
    go_enter Try.func26, Try.ntmps26
    go_wp2_with fail
    refine (even_spec k n _ h1 h2 h3 h4).mono ?_
    rintro e w1 h
    unfold CPost at h
    rw [cS_no HO.out, cZ_no HO.out, cB_no HO.out] at h
    obtain ⟨a, cap, rfl, hown, hb⟩ := h
    have HB := Lib.hid hb
    clear hown hb
    go_wp2
    go_ret
    exact ⟨rfl, HB.out.trans ((bel1 w1 _).mono HB.out.size)⟩
end Go.Proofs.Ythjkblekccpafaa.Rhy
