/-
  Helpers of the claims beside this text: the model's numbers of steps: the longest, the shortest, spans, rests.
-/
import Derived.Test.YthlklnmnjbjdoaaStp
import Derived.WalkLawsBesides
namespace Go.Proofs.Ythlklnmnjbjdoaa.Rhy
open Go.RowKit
set_option linter.unusedVariables false

theorem stB_bd (s : Int) (zs : List Int) : ∀ x ∈ stB s zs, 1 ≤ x ∧ x ≤ 24 := by
  intro x hx
  by_cases h : Ok s zs
  · rw [stB_yes h] at hx
    have := stepsZ_bd h x hx
    have := h.1
    omega
  · rw [stB_no h] at hx; cases hx

theorem max_ite (a z : Int) : (if a < z then z else a) = max a z := by split <;> omega
def maxL (l : List Int) : Int := l.foldl max 0
theorem maxL_snoc {l : List Int} {k : Nat} {z : Int} (h : l[k]? = some z) : maxL (l.take (k + 1)) = max (maxL (l.take k)) z := by
  unfold maxL
  rw [List.take_add_one, h]
  simp
theorem maxL_bd {l : List Int} {B : Int} (hB : 0 ≤ B) (h : ∀ x ∈ l, x ≤ B) : 0 ≤ maxL l ∧ maxL l ≤ B := by
  have key : ∀ (l : List Int) (m : Int), 0 ≤ m → m ≤ B → (∀ x ∈ l, x ≤ B) → 0 ≤ l.foldl max m ∧ l.foldl max m ≤ B := by
    intro l
    induction l with
    | nil => intro m h0 h1 _; exact ⟨h0, h1⟩
    | cons x l ih =>
      intro m h0 h1 hx
      have := hx x (by simp)
      exact ih (max m x) (by omega) (by omega) (fun y hy => hx y (by simp [hy]))
  exact key l 0 (by omega) hB h

def minP (l : List Int) : Nat → Int
  | 0 => 0
  | k + 1 => if k = 0 ∨ l.getD k 0 < minP l k then l.getD k 0 else minP l k
def minL (l : List Int) : Int := minP l l.length
theorem minP_first {l : List Int} {z : Int} (h : l[0]? = some z) : minP l 1 = z := by simp [minP, List.getD, h]
theorem minP_less {l : List Int} {k : Nat} {z : Int} (h : l[k]? = some z) (hz : z < minP l k) : minP l (k + 1) = z := by simp [minP, List.getD, h, hz]
theorem minP_else {l : List Int} {k : Nat} {z : Int} (h : l[k]? = some z) (h0 : k ≠ 0) (hz : ¬ z < minP l k) : minP l (k + 1) = minP l k := by simp [minP, List.getD, h, hz, h0]

def restsL (l : List Int) : Int := (l.filter (fun x => decide (1 < x))).length
theorem restsL_yes {l : List Int} {k : Nat} {z : Int} (h : l[k]? = some z) (hz : 1 < z) : restsL (l.take (k + 1)) = restsL (l.take k) + 1 := by
  unfold restsL
  rw [List.take_add_one, h]
  simp [List.filter_append, hz]
theorem restsL_no {l : List Int} {k : Nat} {z : Int} (h : l[k]? = some z) (hz : ¬ 1 < z) : restsL (l.take (k + 1)) = restsL (l.take k) := by
  unfold restsL
  rw [List.take_add_one, h]
  simp [List.filter_append, hz]
theorem restsL_bd (l : List Int) : 0 ≤ restsL l ∧ restsL l ≤ l.length := by
  unfold restsL
  have := List.length_filter_le (fun x : Int => decide (1 < x)) l
  omega

def spanL (l : List Int) (i : Nat) : Nat → Int
  | 0 => 0
  | k + 1 => spanL l i k + l.getD ((i + k) % l.length) 0
theorem spanL_bd {l : List Int} (h : ∀ x ∈ l, 1 ≤ x ∧ x ≤ 24) (i k : Nat) : 0 ≤ spanL l i k ∧ spanL l i k ≤ 24 * k := by
  induction k with
  | zero => simp [spanL]
  | succ k ih =>
    have hx : 0 ≤ l.getD ((i + k) % l.length) 0 ∧ l.getD ((i + k) % l.length) 0 ≤ 24 := by
      rw [List.getD_eq_getElem?_getD]
      cases hq : l[(i + k) % l.length]? with
      | none => simp
      | some x => have := h x (List.mem_of_getElem? hq); simp; omega
    simp only [spanL]
    omega
theorem spanL_snoc {l : List Int} {i k : Nat} {z : Int} (h : l[(i + k) % l.length]? = some z) : spanL l i (k + 1) = spanL l i k + z := by
  simp [spanL, List.getD, h]

theorem long_spec (s : Int) (a : Option Addr) (len cap : Nat) (zs : List Int) (w : World) (h : IntsAt w a len zs) (hm : zs.length ≤ 1048576) :
    Calls Try.prog 25 #[rhy s a len cap] w fun e w' => e = .returned (.int .i64 (maxL (stB s zs))) ∧ Below w.heap.size w w' := by
  have HS := Lib.hid h
  clear h
  obtain ⟨l, hl⟩ : ∃ l, l = stB s zs := ⟨_, rfl⟩
  have HC := Lib.hid (fun w h => steps_spec s a len cap zs w h hm)
  rw [← hl] at HC ⊢
  have hlen : l.length ≤ 24 := by rw [hl]; exact stB_len s zs
  have HBD := Lib.hid (show ∀ x ∈ l, 1 ≤ x ∧ x ≤ 24 by rw [hl]; exact stB_bd s zs)
  have HI := Lib.hid (show AllInt l by rw [hl]; exact stB_int s zs)
  clear hl
  go_enter Try.func25, Try.ntmps25
  go_wp2_with fail
  refine (HC.out _ (HS.out.below (bel1 w _))).mono ?_
  rintro e w1 ⟨b, c, rfl, hown, hb⟩
  have HO := Lib.hid (intsAt_own hown HI.out)
  have HB := Lib.hid ((bel1 w (.cells #[.int .i64 s, .slice a len cap] 27)).trans (hb.mono (by simp)))
  clear hown hb
  go_wp2
  go_loop [3, 9] (fun m i => ∃ k : Nat, k ≤ l.length ∧ i = .int .i64 k ∧ m = .int .i64 (maxL (l.take k))) (fun _ i => l.length - (intOf i).toNat)
  case atStart => exact ⟨0, by omega, rfl, rfl⟩
  case round =>
    obtain ⟨k, hk, rfl, rfl⟩ := hrel
    by_cases hlt : k < l.length
    · obtain ⟨g, off, z, rfl, hg, hs, hc, hz1, hz2⟩ := HO.out.at hlt
      have HN := Lib.hid (maxL_snoc hs)
      clear hs
      go_wp2
      go_round
      case rel => exact ⟨k + 1, by omega, by go_num, by first | (rw [HN.out]; done) | rw [HN.out, max_ite]⟩
      case measure => simp [intOf]; omega
    · go_wp2
      go_ret
      exact ⟨ret_int (by rw [List.take_of_length_le (by omega)]), HB.out⟩

theorem short_spec (s : Int) (a : Option Addr) (len cap : Nat) (zs : List Int) (w : World) (h : IntsAt w a len zs) (hm : zs.length ≤ 1048576) :
    Calls Try.prog 27 #[rhy s a len cap] w fun e w' => e = .returned (.int .i64 (minL (stB s zs))) ∧ Below w.heap.size w w' := by
  have HS := Lib.hid h
  clear h
  obtain ⟨l, hl⟩ : ∃ l, l = stB s zs := ⟨_, rfl⟩
  have HC := Lib.hid (fun w h => steps_spec s a len cap zs w h hm)
  rw [← hl] at HC ⊢
  have hlen : l.length ≤ 24 := by rw [hl]; exact stB_len s zs
  have HI := Lib.hid (show AllInt l by rw [hl]; exact stB_int s zs)
  clear hl
  go_enter Try.func27, Try.ntmps27
  go_wp2_with fail
  refine (HC.out _ (HS.out.below (bel1 w _))).mono ?_
  rintro e w1 ⟨b, c, rfl, hown, hb⟩
  have HO := Lib.hid (intsAt_own hown HI.out)
  have HB := Lib.hid ((bel1 w (.cells #[.int .i64 s, .slice a len cap] 27)).trans (hb.mono (by simp)))
  clear hown hb
  go_wp2
  go_loop [3, 9] (fun m i => ∃ k : Nat, k ≤ l.length ∧ i = .int .i64 k ∧ m = .int .i64 (minP l k)) (fun _ i => l.length - (intOf i).toNat)
  case atStart => exact ⟨0, by omega, rfl, rfl⟩
  case round =>
    obtain ⟨k, hk, rfl, rfl⟩ := hrel
    by_cases hlt : k < l.length
    · obtain ⟨g, off, z, rfl, hg, hs, hc, hz1, hz2⟩ := HO.out.at hlt
      by_cases h0 : k = 0
      · subst h0
        have HN := Lib.hid (minP_first hs)
        rw [Nat.add_zero] at hc
        clear hs
        go_wp2
        go_round
        case rel => exact ⟨1, by omega, by go_num, by rw [HN.out]⟩
        case measure => simp [intOf]; omega
      · have hq : ((k : Int) == 0) = false := by simp; omega
        obtain ⟨m, hmm⟩ : ∃ m, m = minP l k := ⟨_, rfl⟩
        by_cases hz : z < m
        · have HN := Lib.hid (minP_less hs (by rw [← hmm]; exact hz))
          have HM := Lib.hid hmm
          rw [← hmm]
          clear hs hmm h0
          go_wp2
          go_round
          case rel => exact ⟨k + 1, by omega, by go_num, by rw [HN.out]⟩
          case measure => simp [intOf]; omega
        · have HN := Lib.hid (minP_else hs h0 (by rw [← hmm]; exact hz))
          have HM := Lib.hid hmm
          have hd : decide (z < m) = false := by simpa using hz
          rw [← hmm]
          clear hs hmm h0
          go_wp2
          go_round
          case rel => exact ⟨k + 1, by omega, by go_num, by rw [HN.out, HM.out]⟩
          case measure => simp [intOf]; omega
    · have e : k = l.length := by omega
      have HE := Lib.hid e
      clear e
      go_wp2
      go_ret
      exact ⟨ret_int (by rw [HE.out]; rfl), HB.out⟩

open Classical in
noncomputable def restsB (s : Int) (zs : List Int) : Int := if Ok s zs then restsL (stB s zs) else -1
theorem restsB_yes {s : Int} {zs : List Int} (h : Ok s zs) : restsB s zs = restsL (stB s zs) := by simp [restsB, h]
theorem restsB_no {s : Int} {zs : List Int} (h : ¬ Ok s zs) : restsB s zs = -1 := by simp [restsB, h]

set_option maxHeartbeats 400000 in
theorem rests_spec (s : Int) (a : Option Addr) (len cap : Nat) (zs : List Int) (w : World) (h : IntsAt w a len zs) (hm : zs.length ≤ 1048576) :
    Calls Try.prog 35 #[rhy s a len cap] w fun e w' => e = .returned (.int .i64 (restsB s zs)) ∧ Below w.heap.size w w' := by
  have HS := Lib.hid h
  have hl' : len ≤ 1048576 := by have := h.1; omega
  clear h
  by_cases ho : Ok s zs
  · have HOK := Lib.hid ho
    have HE := Lib.hid (restsB_yes ho)
    obtain ⟨l, hl⟩ : ∃ l, l = stB s zs := ⟨_, rfl⟩
    have HC := Lib.hid (fun w h => steps_spec s a len cap zs w h hm)
    rw [← hl] at HC HE
    have hlen : l.length ≤ 24 := by rw [hl]; exact stB_len s zs
    have HI := Lib.hid (show AllInt l by rw [hl]; exact stB_int s zs)
    clear hl ho
    go_enter Try.func35, Try.ntmps35
    go_wp2_with fail
    refine (ok_yes s a len cap zs _ (HS.out.below (bel1 w _)) hl' HOK.out).mono ?_
    rintro e w0 ⟨rfl, hb0⟩
    have HB0 := Lib.hid ((bel1 w (.cells #[.int .i64 s, .slice a len cap] 27)).trans (hb0.mono (by simp)))
    have T1 := Lib.hid ((two_new w (.int .i64 s) (.slice a len cap) 27).keep hb0)
    obtain ⟨t1, t1a, t1b⟩ := T1.out
    clear hb0
    go_wp2_with fail
    refine (HC.out _ (HS.out.below HB0.out)).mono ?_
    rintro e w1 ⟨b, c, rfl, hown, hb⟩
    have HO := Lib.hid (intsAt_own hown HI.out)
    have HB := Lib.hid (HB0.out.trans (hb.mono HB0.out.size))
    clear hown hb
    go_wp2
    go_loop [3, 12] (fun m i => ∃ k : Nat, k ≤ l.length ∧ i = .int .i64 k ∧ m = .int .i64 (restsL (l.take k))) (fun _ i => l.length - (intOf i).toNat)
    case atStart => exact ⟨0, by omega, rfl, rfl⟩
    case round =>
      obtain ⟨k, hk, rfl, rfl⟩ := hrel
      have hrb := restsL_bd (l.take k)
      have hrl : (l.take k).length ≤ 24 := by simp; omega
      obtain ⟨hr1, hr2⟩ := hrb
      by_cases hlt : k < l.length
      · obtain ⟨g, off, z, rfl, hg, hs, hc, hz1, hz2⟩ := HO.out.at hlt
        by_cases hz : 1 < z
        · have HN := Lib.hid (restsL_yes hs hz)
          clear hs
          go_wp2
          go_round
          case rel => exact ⟨k + 1, by omega, by go_num, by rw [HN.out]⟩
          case measure => simp [intOf]; omega
        · have HN := Lib.hid (restsL_no hs hz)
          have hd : decide (1 < z) = false := by simpa using hz
          clear hs
          go_wp2
          go_round
          case rel => exact ⟨k + 1, by omega, by go_num, by rw [HN.out]⟩
          case measure => simp [intOf]; omega
      · have HT : Hid (l.take k = l) := Lib.hid (List.take_of_length_le (by omega))
        go_wp2
        go_ret
        exact ⟨ret_int (by rw [HT.out, HE.out]), HB.out⟩
  · have HOK := Lib.hid ho
    have HE := Lib.hid (restsB_no ho)
    clear ho
    go_enter Try.func35, Try.ntmps35
    go_wp2_with fail
    refine (ok_no s a len cap zs _ (HS.out.below (bel1 w _)) hl' HOK.out).mono ?_
    rintro e w0 ⟨rfl, hb0⟩
    have HB0 := Lib.hid ((bel1 w (.cells #[.int .i64 s, .slice a len cap] 27)).trans (hb0.mono (by simp)))
    clear hb0
    go_wp2
    go_ret
    exact ⟨ret_int HE.out.symm, HB0.out⟩

set_option maxHeartbeats 400000 in
theorem span0_spec (a : Option Addr) (n cap : Nat) (l : List Int) (i k : Nat) (w : World) (h : IntsAt w a n l) (hb : ∀ x ∈ l, 1 ≤ x ∧ x ≤ 24) (hn : n ≤ 24) (hi : i < n) (hk : k ≤ 1000) :
    Calls Try.prog 48 #[.slice a n cap, .int .i64 i, .int .i64 k] w fun e w' => e = .returned (.int .i64 (spanL l i k)) ∧ w = w' := by
  have HS := Lib.hid h
  have HBD := Lib.hid hb
  have hnz : ((n : Int) == 0) = false := by simp; omega
  clear h hb
  go_enter Try.func48, Try.ntmps48
  go_wp2
  go_loop [7, 8] (fun m x => ∃ q : Nat, q ≤ k ∧ x = .int .i64 q ∧ m = .int .i64 (spanL l i q)) (fun _ x => k - (intOf x).toNat)
  case atStart => exact ⟨0, by omega, rfl, rfl⟩
  case round =>
    obtain ⟨q, hq, rfl, rfl⟩ := hrel
    have hsb := spanL_bd HBD.out i q
    obtain ⟨hsb1, hsb2⟩ := hsb
    by_cases hlt : q < k
    · obtain ⟨j, hj⟩ : ∃ j, j = (i + q) % n := ⟨_, rfl⟩
      have hjn : j < n := by rw [hj]; exact Nat.mod_lt _ (by omega)
      have hji : ((i : Int) + q) % n = j := by rw [hj]; simp
      have hji2 : ((i : Int) + q).tmod n = j := by rw [Int.tmod_eq_emod_of_nonneg (by omega), hji]
      obtain ⟨b, off, z, rfl, hg, hs, hc, hz1, hz2⟩ := HS.out.at hjn
      have HN : Hid (spanL l i (q + 1) = spanL l i q + z) := Lib.hid (spanL_snoc (by rw [HS.out.len, ← hj]; exact hs))
      have hzb := HBD.out z (List.mem_of_getElem? hs)
      obtain ⟨hzb1, hzb2⟩ := hzb
      clear hs hj
      go_wp2
      go_round
      case rel => exact ⟨q + 1, by omega, by go_num, by rw [HN.out]⟩
      case measure => simp [intOf]; omega
    · have e : q = k := by omega
      subst e
      go_wp2
      go_ret
      exact ⟨rfl, rfl⟩

/-- What both answer. -/
noncomputable def spanB (s : Int) (zs : List Int) (i k : Int) : Int := @ite _ ((0 ≤ i ∧ i < (stB s zs).length) ∧ 0 ≤ k ∧ k ≤ (stB s zs).length) (Classical.propDecidable _) (spanL (stB s zs) i.toNat k.toNat) 0

set_option maxHeartbeats 400000 in
theorem span_spec (s : Int) (a : Option Addr) (len cap : Nat) (zs : List Int) (i k : Int) (w : World) (h : IntsAt w a len zs) (hm : zs.length ≤ 1048576) (hi1 : -9223372036854775808 ≤ i) (hi2 : i ≤ 9223372036854775807) (hk1 : -9223372036854775808 ≤ k) (hk2 : k ≤ 9223372036854775807) :
    Calls Try.prog 31 #[rhy s a len cap, .int .i64 i, .int .i64 k] w fun e w' => e = .returned (.int .i64 (spanB s zs i k)) ∧ Below w.heap.size w w' := by
  have HS := Lib.hid h
  clear h
  obtain ⟨l, hl⟩ : ∃ l, l = stB s zs := ⟨_, rfl⟩
  have HC := Lib.hid (fun w h => steps_spec s a len cap zs w h hm)
  have HV := Lib.hid (show spanB s zs i k = @ite _ ((0 ≤ i ∧ i < l.length) ∧ 0 ≤ k ∧ k ≤ l.length) (Classical.propDecidable _) (spanL l i.toNat k.toNat) 0 by rw [hl]; rfl)
  rw [← hl] at HC
  have hlen : l.length ≤ 24 := by rw [hl]; exact stB_len s zs
  have HBD := Lib.hid (show ∀ x ∈ l, 1 ≤ x ∧ x ≤ 24 by rw [hl]; exact stB_bd s zs)
  have HI := Lib.hid (show AllInt l by rw [hl]; exact stB_int s zs)
  clear hl
  by_cases hin : 0 ≤ i ∧ i < l.length
  · have HIN := Lib.hid (show 0 ≤ i ∧ i ≤ (l.length : Int) - 1 by omega)
    by_cases hkn : 0 ≤ k ∧ k ≤ l.length
    · have HE : Hid (spanB s zs i k = spanL l i.toNat k.toNat) := Lib.hid (by rw [HV.out, if_pos ⟨hin, hkn⟩])
      obtain ⟨p, rfl⟩ : ∃ p : Nat, i = p := ⟨i.toNat, by omega⟩
      obtain ⟨q, rfl⟩ : ∃ q : Nat, k = q := ⟨k.toNat, by omega⟩
      have HKN := Lib.hid hkn
      have hpn : p < l.length := by omega
      have hqn : q ≤ 1000 := by omega
      clear hin hkn
      go_enter Try.func31, Try.ntmps31
      go_wp2_with fail
      refine (HC.out _ (HS.out.below (bel1 w _))).mono ?_
      rintro e w1 ⟨b, c, rfl, hown, hb⟩
      have HO := Lib.hid (intsAt_own hown HI.out)
      have HB := Lib.hid ((bel1 w (.cells #[.int .i64 s, .slice a len cap] 27)).trans (hb.mono (by simp)))
      clear hown hb
      go_wp2_with fail
      refine (in_yes _ _ _ _ HIN.out.1 HIN.out.2).mono ?_
      rintro e w' ⟨rfl, rfl⟩
      go_wp2_with fail
      refine (in_yes _ _ _ _ HKN.out.1 HKN.out.2).mono ?_
      rintro e w' ⟨rfl, rfl⟩
      go_wp2_with fail
      refine (span0_spec b l.length c l p q w1 HO.out HBD.out hlen hpn hqn).mono ?_
      rintro e w' ⟨rfl, rfl⟩
      go_wp2
      go_ret
      exact ⟨ret_int HE.out.symm, HB.out⟩
    · have HE : Hid (spanB s zs i k = 0) := Lib.hid (by rw [HV.out, if_neg (fun q => hkn q.2)])
      have HKN := Lib.hid hkn
      clear hin hkn
      go_enter Try.func31, Try.ntmps31
      go_wp2_with fail
      refine (HC.out _ (HS.out.below (bel1 w _))).mono ?_
      rintro e w1 ⟨b, c, rfl, hown, hb⟩
      have HB := Lib.hid ((bel1 w (.cells #[.int .i64 s, .slice a len cap] 27)).trans (hb.mono (by simp)))
      clear hown hb
      go_wp2_with fail
      refine (in_yes _ _ _ _ HIN.out.1 HIN.out.2).mono ?_
      rintro e w' ⟨rfl, rfl⟩
      go_wp2_with fail
      refine (in_no _ _ _ _ HKN.out).mono ?_
      rintro e w' ⟨rfl, rfl⟩
      go_wp2
      go_ret
      exact ⟨ret_int HE.out.symm, HB.out⟩
  · have HE : Hid (spanB s zs i k = 0) := Lib.hid (by rw [HV.out, if_neg (fun q => hin q.1)])
    have HIN := Lib.hid (show ¬ (0 ≤ i ∧ i ≤ (l.length : Int) - 1) by omega)
    clear hin
    go_enter Try.func31, Try.ntmps31
    go_wp2_with fail
    refine (HC.out _ (HS.out.below (bel1 w _))).mono ?_
    rintro e w1 ⟨b, c, rfl, hown, hb⟩
    have HB := Lib.hid ((bel1 w (.cells #[.int .i64 s, .slice a len cap] 27)).trans (hb.mono (by simp)))
    clear hown hb
    go_wp2_with fail
    refine (in_no _ _ _ _ HIN.out).mono ?_
    rintro e w' ⟨rfl, rfl⟩
    go_wp2
    go_ret
    exact ⟨ret_int HE.out.symm, HB.out⟩
end Go.Proofs.Ythlklnmnjbjdoaa.Rhy
