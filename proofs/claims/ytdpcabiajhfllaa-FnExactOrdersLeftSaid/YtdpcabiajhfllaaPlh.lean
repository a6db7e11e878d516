/-
  Helpers of the claims beside this text: divisors and totients: both sides.
-/
import Derived.Test.YtdpcabiajhfllaaPlc
import Derived.Test.YtdpcabiajhfllaaPle
import Derived.Test.YtdpcabiajhfllaaIvl
namespace Go.Proofs.Ytdpcabiajhfllaa.Rhy
open Go.RowKit
set_option linter.unusedVariables false
set_option linter.unusedSimpArgs false

/-- The divisors of n up to k. -/
def divP (n k : Nat) : List Int := ((List.range' 1 k).filter fun d => n % d == 0).map fun d : Nat => (d : Int)
theorem divP_yes {n k : Nat} (h : n % (k + 1) = 0) : divP n (k + 1) = divP n k ++ [((k + 1 : Nat) : Int)] := by
  unfold divP
  rw [List.range'_1_concat, List.filter_append, List.map_append, Nat.add_comm 1 k]
  congr 1
  rw [List.filter_cons_of_pos (by simp [h])]
  rfl
theorem divP_no {n k : Nat} (h : ¬ n % (k + 1) = 0) : divP n (k + 1) = divP n k := by
  unfold divP
  rw [List.range'_1_concat, List.filter_append, List.map_append, Nat.add_comm 1 k]
  rw [List.filter_cons_of_neg (by simp [h])]
  simp
theorem divP_len (n k : Nat) : (divP n k).length ≤ k := by
  unfold divP
  rw [List.length_map]
  exact Nat.le_trans (List.length_filter_le _ _) (by simp)
theorem divP_all (n : Nat) : divP n n = (divsL n).map fun d : Nat => (d : Int) := rfl
theorem divP_int (n k : Nat) (hk : k ≤ 1000) : AllInt (divP n k) := by
  intro z hz
  unfold divP at hz
  rw [List.mem_map] at hz
  obtain ⟨d, hd, rfl⟩ := hz
  have := List.mem_range'_1.1 (List.mem_filter.1 hd).1
  omega
/-- What both answer. -/
def DivC (n : Int) : Prop := 1 ≤ n ∧ n ≤ 1000
noncomputable def divB (n : Int) : List Int := cZ (DivC n) (divP n.toNat n.toNat)
theorem divB_int (n : Int) : AllInt (divB n) := by
  unfold divB
  by_cases h : DivC n
  · rw [cZ_yes h]; exact divP_int _ _ (by have := h.2; omega)
  · rw [cZ_no h]; intro z hz; cases hz
theorem divB_len (n : Int) : (divB n).length ≤ 1000 := by
  unfold divB
  by_cases h : DivC n
  · rw [cZ_yes h]; exact Nat.le_trans (divP_len _ _) (by have := h.2; omega)
  · rw [cZ_no h]; simp
/-- How many numbers up to k have no divisor in common with n. -/
def totP (n k : Nat) : Nat := ((List.range' 1 k).filter fun d => Nat.gcd d n == 1).length
theorem totP_yes {n k : Nat} (h : Nat.gcd (k + 1) n = 1) : totP n (k + 1) = totP n k + 1 := by
  unfold totP
  rw [List.range'_1_concat, List.filter_append, List.length_append, Nat.add_comm 1 k, List.filter_cons_of_pos (by simp [h])]
  rfl
theorem totP_no {n k : Nat} (h : ¬ Nat.gcd (k + 1) n = 1) : totP n (k + 1) = totP n k := by
  unfold totP
  rw [List.range'_1_concat, List.filter_append, List.length_append, Nat.add_comm 1 k, List.filter_cons_of_neg (by simp [h])]
  rfl
theorem totP_le (n k : Nat) : totP n k ≤ k := by
  unfold totP
  exact Nat.le_trans (List.length_filter_le _ _) (by simp)
theorem totP_all (n : Nat) : totP n n = totN n := rfl
noncomputable def totB (n : Int) : Int := @ite _ (DivC n) (Classical.propDecidable _) (totP n.toNat n.toNat : Int) 0
theorem totB_yes {n : Nat} (h : DivC n) : totB n = totP n n := by unfold totB; rw [if_pos h]; simp
theorem totB_no {n : Int} (h : ¬ DivC n) : totB n = 0 := by unfold totB; rw [if_neg h]

theorem hasd_any (n : Int) (w : World) (h3 : -9223372036854775808 ≤ n) (h4 : n ≤ 9223372036854775807) (q : Bool) (hq : (DivC n → q = true) ∧ (¬ DivC n → q = false)) :
    Calls Try.prog 102 #[.int .i64 n] w fun e w' => e = .returned (.bool q) ∧ w = w' := by
  by_cases h1 : 1 ≤ n
  · by_cases h2 : n ≤ 1000
    · have HE := Lib.hid (hq.1 ⟨h1, h2⟩)
      clear hq
      go_enter Try.func102, Try.ntmps102
      go_wp2
      go_ret
      exact ⟨ret_b HE.out.symm, rfl⟩
    · have HE := Lib.hid (hq.2 (fun h => h2 h.2))
      clear hq
      go_enter Try.func102, Try.ntmps102
      go_wp2
      go_ret
      exact ⟨ret_b HE.out.symm, rfl⟩
  · have HE := Lib.hid (hq.2 (fun h => h1 h.1))
    clear hq
    go_enter Try.func102, Try.ntmps102
    go_wp2
    go_ret
    exact ⟨ret_b HE.out.symm, rfl⟩
/-- An order. -/
def OrdC (d : Int) : Prop := 1 ≤ d ∧ d ≤ 24

set_option maxHeartbeats 400000 in
theorem div_spec (n : Int) (w : World) (h3 : -9223372036854775808 ≤ n) (h4 : n ≤ 9223372036854775807) :
    Calls Try.prog 56 #[.int .i64 n] w (IPost (divB n) w) := by
  by_cases hc : DivC n
  · have HC := Lib.hid hc
    have HE : Hid (divB n = divP n.toNat n.toNat) := Lib.hid (cZ_yes hc)
    obtain ⟨N, hN⟩ : ∃ N : Nat, n = N := ⟨n.toNat, by have := hc.1; omega⟩
    have hN1 : 1 ≤ N := by have := hc.1; omega
    have hN2 : N ≤ 1000 := by have := hc.2; omega
    clear hc
    subst hN
    rw [Int.toNat_natCast] at HE
    go_enter Try.func56, Try.ntmps56
    go_wp2_with fail
    refine (in_yes N 1 1000 _ HC.out.1 HC.out.2).mono ?_
    rintro e w' ⟨rfl, rfl⟩
    go_wp2
    go_loopw [3, 4] (fun v i wr => ∃ k : Nat, k ≤ N ∧ i = .int .i64 ((k : Int) + 1) ∧ VecAt (divP N k) w wr v) (fun _ i _ => N + 1 - (intOf i).toNat)
    case atStart => exact ⟨0, by omega, rfl, by rw [show divP N 0 = [] from rfl]; exact vec_made w⟩
    case round =>
      obtain ⟨k, hk, rfl, ⟨av, cv, rfl, hown, hnx, hsz⟩⟩ := hrel
      obtain ⟨P, hP⟩ : ∃ P, divP N k = P := ⟨_, rfl⟩
      rw [hP] at hown ⊢
      have HPP := Lib.hid hP
      have HPL : P.length ≤ 1048577 := by rw [← hP]; have := divP_len N k; omega
      have HOW := Lib.hid hown
      have HX := Lib.hid hnx
      have HZ := Lib.hid hsz
      clear hown hnx hsz hP
      by_cases hlt : k < N
      · have hz : ((k : Int) + 1 == 0) = false := by simp; omega
        have ht : (N : Int) % ((k : Int) + 1) = ((N % (k + 1) : Nat) : Int) := by simp
        by_cases hd : N % (k + 1) = 0
        · have HN := Lib.hid (divP_yes hd)
          rw [hd] at ht
          have ht2 : (N : Int) % ((k : Int) + 1) = 0 := ht
          clear ht hd
          go_wp2_with (at_builtin; refine append_int rfl _ _ rfl w.heap.size _ P _ _ HOW.out HPL HZ.out _ rfl rfl rfl ?_; intro a' c' w' hown' hb'; have HO2 := Lib.hid hown'; have HX2 := Lib.hid hb'; clear hown' hb')
          go_roundw
          case rel =>
            refine ⟨k + 1, by omega, by go_num, ?_⟩
            rw [HN.out, HPP.out]
            have := vec_snoc HX.out HZ.out HO2.out HX2.out
            simpa using this
          case measure => simp [intOf]; omega
        · have HN := Lib.hid (divP_no hd)
          have hq : ((N : Int) % ((k : Int) + 1) == 0) = false := by rw [ht]; simp only [beq_eq_false_iff_ne]; omega
          clear ht hd
          go_wp2
          go_roundw
          case rel => exact ⟨k + 1, by omega, by go_num, by rw [HN.out, HPP.out]; exact ⟨av, cv, rfl, HOW.out, HX.out, HZ.out⟩⟩
          case measure => simp [intOf]; omega
      · have e : k = N := by omega
        have HQ : Hid (divP N N = P) := Lib.hid (by rw [← HPP.out, e])
        clear e
        go_wp2
        go_ret
        rw [HE.out, HQ.out]
        exact ⟨av, cv, rfl, HOW.out, HX.out⟩
  · have HC := Lib.hid hc
    clear hc
    go_enter Try.func56, Try.ntmps56
    go_wp2_with fail
    refine (in_no n 1 1000 _ HC.out).mono ?_
    rintro e w' ⟨rfl, rfl⟩
    go_wp2
    go_ret
    exact ipost_nil HC.out (Below.refl _ _)



set_option maxHeartbeats 400000 in
theorem div_impl (n : Int) (w : World) (h3 : -9223372036854775808 ≤ n) (h4 : n ≤ 9223372036854775807) :
    Calls Try.prog 76 #[.int .i64 n] w (IPost (divB n) w) := by
  by_cases hc : DivC n
  · have HC := Lib.hid hc
    have HE : Hid (divB n = divP n.toNat n.toNat) := Lib.hid (cZ_yes hc)
    obtain ⟨N, hN⟩ : ∃ N : Nat, n = N := ⟨n.toNat, by have := hc.1; omega⟩
    have hN1 : 1 ≤ N := by have := hc.1; omega
    have hN2 : N ≤ 1000 := by have := hc.2; omega
    clear hc
    subst hN
    rw [Int.toNat_natCast] at HE
    go_enter Try.func76, Try.ntmps76
    go_wp2_with fail
    refine (hasd_any N _ h3 h4 true ⟨fun _ => rfl, fun h => absurd HC.out h⟩).mono ?_
    rintro e w' ⟨rfl, rfl⟩
    go_wp2
    go_loopw [3, 4] (fun v i wr => ∃ k : Nat, k ≤ N ∧ i = .int .i64 ((k : Int) + 1) ∧ VecAt (divP N k) w wr v) (fun _ i _ => N + 1 - (intOf i).toNat)
    case atStart => exact ⟨0, by omega, rfl, by rw [show divP N 0 = [] from rfl]; exact vec_nil w⟩
    case round =>
      obtain ⟨k, hk, rfl, ⟨av, cv, rfl, hown, hnx, hsz⟩⟩ := hrel
      obtain ⟨P, hP⟩ : ∃ P, divP N k = P := ⟨_, rfl⟩
      rw [hP] at hown ⊢
      have HPP := Lib.hid hP
      have HPL : P.length ≤ 1048577 := by rw [← hP]; have := divP_len N k; omega
      have HOW := Lib.hid hown
      have HX := Lib.hid hnx
      have HZ := Lib.hid hsz
      clear hown hnx hsz hP
      by_cases hlt : k < N
      · have hz : ((k : Int) + 1 == 0) = false := by simp; omega
        have ht : (N : Int) % ((k : Int) + 1) = ((N % (k + 1) : Nat) : Int) := by simp
        by_cases hd : N % (k + 1) = 0
        · have HN := Lib.hid (divP_yes hd)
          rw [hd] at ht
          have ht2 : (N : Int) % ((k : Int) + 1) = 0 := ht
          clear ht hd
          go_wp2_with (at_builtin; refine append_int rfl _ _ rfl w.heap.size _ P _ _ HOW.out HPL HZ.out _ rfl rfl rfl ?_; intro a' c' w' hown' hb'; have HO2 := Lib.hid hown'; have HX2 := Lib.hid hb'; clear hown' hb')
          go_roundw
          case rel =>
            refine ⟨k + 1, by omega, by go_num, ?_⟩
            rw [HN.out, HPP.out]
            have := vec_snoc HX.out HZ.out HO2.out HX2.out
            simpa using this
          case measure => simp [intOf]; omega
        · have HN := Lib.hid (divP_no hd)
          have hq : ((N : Int) % ((k : Int) + 1) == 0) = false := by rw [ht]; simp only [beq_eq_false_iff_ne]; omega
          clear ht hd
          go_wp2
          go_roundw
          case rel => exact ⟨k + 1, by omega, by go_num, by rw [HN.out, HPP.out]; exact ⟨av, cv, rfl, HOW.out, HX.out, HZ.out⟩⟩
          case measure => simp [intOf]; omega
      · have e : k = N := by omega
        have HQ : Hid (divP N N = P) := Lib.hid (by rw [← HPP.out, e])
        clear e
        go_wp2
        go_ret
        rw [HE.out, HQ.out]
        exact ⟨av, cv, rfl, HOW.out, HX.out⟩
  · have HC := Lib.hid hc
    clear hc
    go_enter Try.func76, Try.ntmps76
    go_wp2_with fail
    refine (hasd_any n _ h3 h4 false ⟨fun h => absurd h HC.out, fun _ => rfl⟩).mono ?_
    rintro e w' ⟨rfl, rfl⟩
    go_wp2
    go_ret
    exact ipost_nil HC.out (Below.refl _ _)



end Go.Proofs.Ytdpcabiajhfllaa.Rhy
