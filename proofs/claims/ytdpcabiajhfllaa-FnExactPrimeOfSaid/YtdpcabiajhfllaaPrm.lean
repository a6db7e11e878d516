/-
  Helpers of the claims beside this text: prime powers: both sides.
-/
import Derived.Test.YtdpcabiajhfllaaPle
namespace Go.Proofs.Ytdpcabiajhfllaa.Rhy
open Go.RowKit
set_option linter.unusedVariables false
set_option linter.unusedSimpArgs false

def lpF : Nat → Nat → Nat → Nat
  | 0, _, p => p
  | f + 1, n, p => if n % p = 0 then p else lpF f n (p + 1)
theorem lpF_spec : ∀ (f n p : Nat), n ≤ f + p → 1 ≤ p → p ≤ n → n % lpF f n p = 0 ∧ p ≤ lpF f n p ∧ lpF f n p ≤ n ∧ ∀ d, p ≤ d → d < lpF f n p → n % d ≠ 0
  | 0, n, p, h, h1, h2 => by
    obtain rfl : n = p := by omega
    exact ⟨Nat.mod_self n, Nat.le_refl _, Nat.le_refl _, fun d h3 h4 => by simp only [lpF] at h4; omega⟩
  | f + 1, n, p, h, h1, h2 => by
    unfold lpF
    by_cases hp : n % p = 0
    · rw [if_pos hp]
      exact ⟨hp, Nat.le_refl _, h2, fun d h3 h4 => by omega⟩
    · rw [if_neg hp]
      have hne : p ≠ n := fun e => hp (by rw [e, Nat.mod_self])
      obtain ⟨a, b, c, d⟩ := lpF_spec f n (p + 1) (by omega) (by omega) (by omega)
      refine ⟨a, by omega, c, fun x h3 h4 => ?_⟩
      by_cases e : x = p
      · rw [e]; exact hp
      · exact d x (by omega) h4
/-- The least divisor greater than 1. -/
def lpN (n : Nat) : Nat := lpF n n 2
theorem lpN_spec {n : Nat} (h : 2 ≤ n) : n % lpN n = 0 ∧ 2 ≤ lpN n ∧ lpN n ≤ n ∧ ∀ d, 2 ≤ d → d < lpN n → n % d ≠ 0 := lpF_spec n n 2 (by omega) (by omega) h
theorem lpN_at {n p : Nat} (h : 2 ≤ n) (hp : p ≤ lpN n) (h2 : 2 ≤ p) (hd : n % p = 0) : p = lpN n := by
  rcases Nat.lt_or_ge p (lpN n) with q | q
  · exact absurd hd ((lpN_spec h).2.2.2 p h2 q)
  · omega
theorem lpN_lt {n p : Nat} (h : 2 ≤ n) (hp : p ≤ lpN n) (hd : n % p ≠ 0) : p + 1 ≤ lpN n := by
  rcases Nat.lt_or_ge p (lpN n) with q | q
  · exact q
  · have : p = lpN n := by omega
    rw [this] at hd
    exact absurd (lpN_spec h).1 hd
def woF : Nat → Nat → Nat → Nat
  | 0, _, n => n
  | f + 1, p, n => if n % p = 0 then woF f p (n / p) else n
theorem woF_spec {p : Nat} (hp : 2 ≤ p) : ∀ (f n : Nat), n ≤ f → 1 ≤ n → woF f p n % p ≠ 0 ∧ 1 ≤ woF f p n ∧ ∃ k, n = p ^ k * woF f p n
  | 0, n, h, h1 => by omega
  | f + 1, n, h, h1 => by
    unfold woF
    by_cases hd : n % p = 0
    · rw [if_pos hd]
      have hm : p * (n / p) = n := Nat.mul_div_cancel' (Nat.dvd_of_mod_eq_zero hd)
      have h2 : n / p < n := Nat.div_lt_self (by omega) (by omega)
      have h3 : 1 ≤ n / p := by
        rcases Nat.eq_zero_or_pos (n / p) with q | q
        · rw [q] at hm; omega
        · exact q
      obtain ⟨a, b, k, c⟩ := woF_spec hp f (n / p) (by omega) h3
      refine ⟨a, b, k + 1, ?_⟩
      rw [Nat.pow_succ, Nat.mul_comm (p ^ k) p, Nat.mul_assoc, ← c, hm]
    · rw [if_neg hd]
      exact ⟨hd, h1, 0, by simp⟩
/-- The greatest divisor that p does not divide. -/
def woN (p n : Nat) : Nat := woF n p n
theorem woN_spec {p n : Nat} (hp : 2 ≤ p) (hn : 1 ≤ n) : woN p n % p ≠ 0 ∧ 1 ≤ woN p n ∧ ∃ k, n = p ^ k * woN p n := woF_spec hp n n (Nat.le_refl _) hn
/-- What is left on the way of dividing n by p. -/
def OnWay (p R m : Nat) : Prop := 2 ≤ p ∧ 1 ≤ R ∧ R % p ≠ 0 ∧ ∃ k, m = p ^ k * R
theorem OnWay.start {p n : Nat} (hp : 2 ≤ p) (hn : 1 ≤ n) : OnWay p (woN p n) n := by
  obtain ⟨a, b, c⟩ := woN_spec hp hn
  exact ⟨hp, b, a, c⟩
theorem OnWay.pos {p R m : Nat} (h : OnWay p R m) : 1 ≤ m := by
  obtain ⟨h1, h2, h3, k, rfl⟩ := h
  exact Nat.mul_pos (Nat.pow_pos (by omega)) h2
theorem OnWay.down {p R m : Nat} (h : OnWay p R m) (hd : m % p = 0) : OnWay p R (m / p) ∧ m / p < m := by
  have hm := h.pos
  obtain ⟨h1, h2, h3, k, e⟩ := h
  cases k with
  | zero => rw [Nat.pow_zero, Nat.one_mul] at e; rw [e] at hd; exact absurd hd h3
  | succ k =>
    have : m / p = p ^ k * R := by
      rw [e, Nat.pow_succ, Nat.mul_comm (p ^ k) p, Nat.mul_assoc, Nat.mul_div_cancel_left _ (by omega)]
    exact ⟨⟨h1, h2, h3, k, this⟩, Nat.div_lt_self (by omega) (by omega)⟩
theorem OnWay.done {p R m : Nat} (h : OnWay p R m) (hd : m % p ≠ 0) : m = R := by
  obtain ⟨h1, h2, h3, k, e⟩ := h
  cases k with
  | zero => rw [Nat.pow_zero, Nat.one_mul] at e; exact e
  | succ k =>
    refine absurd ?_ hd
    rw [e, Nat.pow_succ, Nat.mul_comm (p ^ k) p, Nat.mul_assoc]
    exact Nat.mul_mod_right _ _
theorem OnWay.le {p R m : Nat} (h : OnWay p R m) : R ≤ m := by
  obtain ⟨h1, h2, h3, k, rfl⟩ := h
  exact Nat.le_mul_of_pos_left _ (Nat.pow_pos (by omega))
/-- The prime of a prime power. -/
def primN (n : Nat) : Nat := if 1 < woN (lpN n) n then 0 else lpN n
def PrmC (n : Int) : Prop := 2 ≤ n ∧ n ≤ 1000
noncomputable def primB (n : Int) : Int := @ite _ (PrmC n) (Classical.propDecidable _) (primN n.toNat : Int) 0
theorem primB_yes {n : Nat} (h : PrmC n) : primB n = primN n := by unfold primB; rw [if_pos h]; simp
theorem primB_no {n : Int} (h : ¬ PrmC n) : primB n = 0 := by unfold primB; rw [if_neg h]
theorem primN_no {n : Nat} (h : 1 < woN (lpN n) n) : primN n = 0 := if_pos h
theorem primN_yes {n : Nat} (h : ¬ 1 < woN (lpN n) n) : primN n = lpN n := if_neg h
theorem emod_nat (n p : Nat) : ((n : Int) % (p : Int)) = ((n % p : Nat) : Int) := by simp
theorem ediv_nat (n p : Nat) : ((n : Int) / (p : Int)) = ((n / p : Nat) : Int) := by simp

set_option maxHeartbeats 400000 in
theorem lep_any (N : Nat) (w : World) (h1 : 2 ≤ N) (h2 : N ≤ 1000) :
    Calls Try.prog 36 #[.int .i64 N] w fun e w' => e = .returned (.int .i64 (lpN N : Nat)) ∧ w = w' := by
  have HS := Lib.hid (lpN_spec h1)
  go_enter Try.func36, Try.ntmps36
  go_wp2
  go_loop [3] (fun i => ∃ k : Nat, 2 ≤ k ∧ k ≤ lpN N ∧ i = .int .i64 k) (fun i => N + 1 - (intOf i).toNat)
  case atStart => exact ⟨2, by omega, HS.out.2.1, rfl⟩
  case round =>
    obtain ⟨k, hk, hkl, rfl⟩ := hrel
    have hl := HS.out.2.2.1
    have hz0 : ((k : Int) == 0) = false := by simp; omega
    have ht := emod_nat N k
    by_cases hd : N % k = 0
    · have HE := Lib.hid (lpN_at h1 hkl hk hd)
      have ht2 : (N : Int) % (k : Int) = 0 := by rw [ht, hd]; rfl
      clear ht hd
      go_wp2
      go_ret
      exact ⟨ret_i (by rw [← HE.out]), rfl⟩
    · have HN := Lib.hid (lpN_lt h1 hkl hd)
      have hq : ((N : Int) % (k : Int) == 0) = false := by rw [ht]; simp only [beq_eq_false_iff_ne]; omega
      have hq2 : ((N : Int) % (k : Int) != 0) = true := by simp only [bne, hq]; rfl
      clear ht hd
      go_wp2
      go_round
      case rel => exact ⟨k + 1, by omega, HN.out, by go_num⟩
      case measure => simp [intOf]; omega

set_option maxHeartbeats 400000 in
theorem wop_any (N p : Nat) (w : World) (h1 : 1 ≤ N) (h2 : N ≤ 1000) (h3 : 2 ≤ p) (h4 : p ≤ 1000) :
    Calls Try.prog 37 #[.int .i64 N, .int .i64 p] w fun e w' => e = .returned (.int .i64 (woN p N : Nat)) ∧ w = w' := by
  obtain ⟨R, hR⟩ : ∃ R, woN p N = R := ⟨_, rfl⟩
  have HW : Hid (OnWay p R N) := Lib.hid (by rw [← hR]; exact OnWay.start h3 h1)
  have HR := Lib.hid hR
  clear hR
  go_enter Try.func37, Try.ntmps37
  go_wp2
  go_loop [0] (fun i => ∃ k : Nat, k ≤ 1000 ∧ Hid (OnWay p R k) ∧ i = .int .i64 k) (fun i => (intOf i).toNat)
  case atStart => exact ⟨N, h2, HW, rfl⟩
  case round =>
    obtain ⟨k, hk, HO, rfl⟩ := hrel
    have hk1 := HO.out.pos
    have hz0 : ((p : Int) == 0) = false := by simp; omega
    have ht := emod_nat k p
    by_cases hd : k % p = 0
    · have HN := Lib.hid (HO.out.down hd)
      have ht2 : (k : Int) % (p : Int) = 0 := by rw [ht, hd]; rfl
      have hlt := HN.out.2
      have hx0 : (0 : Int) ≤ (k : Int) / (p : Int) := by rw [ediv_nat]; exact Int.natCast_nonneg _
      have hx1 : (k : Int) / (p : Int) ≤ 1000 := by rw [ediv_nat]; omega
      clear ht hd
      go_wp2
      go_round
      case rel => exact ⟨k / p, by omega, Lib.hid HN.out.1, by first | rfl | go_num⟩
      case measure => simp [intOf]; omega
    · have HE := Lib.hid (HO.out.done hd)
      have hq : ((k : Int) % (p : Int) == 0) = false := by rw [ht]; simp only [beq_eq_false_iff_ne]; omega
      clear ht hd
      go_wp2
      go_ret
      exact ⟨ret_i (by rw [HR.out, HE.out]), rfl⟩

set_option maxHeartbeats 400000 in
theorem prim_impl (n : Int) (w : World) (h3 : -9223372036854775808 ≤ n) (h4 : n ≤ 9223372036854775807) :
    Calls Try.prog 12 #[.int .i64 n] w fun e w' => e = .returned (.int .i64 (primB n)) ∧ Below w.heap.size w w' := by
  by_cases h1 : 2 ≤ n
  · by_cases h2 : n ≤ 1000
    · obtain ⟨N, hN⟩ : ∃ N : Nat, n = N := ⟨n.toNat, by omega⟩
      subst hN
      have hN1 : 2 ≤ N := by omega
      have hN2 : N ≤ 1000 := by omega
      have HE : Hid (primB N = primN N) := Lib.hid (primB_yes ⟨h1, h2⟩)
      have HS := Lib.hid (lpN_spec hN1)
      have hl := HS.out.2.2.1
      have hl2 := HS.out.2.1
      go_enter Try.func12, Try.ntmps12
      go_wp2_with fail
      refine (lep_any N _ hN1 hN2).mono ?_
      rintro e w' ⟨rfl, rfl⟩
      go_wp2_with fail
      refine (wop_any N (lpN N) _ (by omega) hN2 hl2 (by omega)).mono ?_
      rintro e w' ⟨rfl, rfl⟩
      by_cases hw : 1 < woN (lpN N) N
      · have HN := Lib.hid (primN_no hw)
        go_wp2
        go_ret
        exact ⟨ret_i (by rw [HE.out, HN.out]; rfl), Below.refl _ _⟩
      · have HN := Lib.hid (primN_yes hw)
        go_wp2
        go_ret
        exact ⟨ret_i (by rw [HE.out, HN.out]), Below.refl _ _⟩
    · have HE := Lib.hid (primB_no (n := n) (fun h => h2 h.2))
      go_enter Try.func12, Try.ntmps12
      go_wp2
      go_ret
      exact ⟨ret_i HE.out.symm, Below.refl _ _⟩
  · have HE := Lib.hid (primB_no (n := n) (fun h => h1 h.1))
    go_enter Try.func12, Try.ntmps12
    go_wp2
    go_ret
    exact ⟨ret_i HE.out.symm, Below.refl _ _⟩

set_option maxHeartbeats 400000 in
theorem prim_spec (n : Int) (w : World) (h3 : -9223372036854775808 ≤ n) (h4 : n ≤ 9223372036854775807) :
    Calls Try.prog 11 #[.int .i64 n] w fun e w' => e = .returned (.int .i64 (primB n)) ∧ Below w.heap.size w w' := by
  by_cases hc : PrmC n
  · have HC := Lib.hid hc
    obtain ⟨N, hN⟩ : ∃ N : Nat, n = N := ⟨n.toNat, by have := hc.1; omega⟩
    have hN1 : 2 ≤ N := by have := hc.1; omega
    have hN2 : N ≤ 1000 := by have := hc.2; omega
    subst hN
    have HE : Hid (primB N = primN N) := Lib.hid (primB_yes hc)
    have HS := Lib.hid (lpN_spec hN1)
    clear hc
    go_enter Try.func11, Try.ntmps11
    go_wp2_with fail
    refine (in_yes N 2 1000 _ HC.out.1 HC.out.2).mono ?_
    rintro e w' ⟨rfl, rfl⟩
    go_wp2
    go_loop [3] (fun i => ∃ k : Nat, 2 ≤ k ∧ k ≤ lpN N ∧ i = .int .i64 k) (fun i => N + 1 - (intOf i).toNat)
    case atStart => exact ⟨2, by omega, HS.out.2.1, rfl⟩
    case round =>
      obtain ⟨k, hk, hkl, rfl⟩ := hrel
      have hl := HS.out.2.2.1
      have hz0 : ((k : Int) == 0) = false := by simp; omega
      have ht := emod_nat N k
      by_cases hd : N % k = 0
      · have HP := Lib.hid (lpN_at hN1 hkl hk hd)
        have ht2 : (N : Int) % (k : Int) = 0 := by rw [ht, hd]; rfl
        clear ht
        obtain ⟨R, hR⟩ : ∃ R, woN k N = R := ⟨_, rfl⟩
        have HW : Hid (OnWay k R N) := Lib.hid (by rw [← hR]; exact OnWay.start hk (by omega))
        have HPR : Hid (primN N = if 1 < R then 0 else k) := Lib.hid (by unfold primN; rw [← HP.out, hR])
        clear hR hd
        go_wp2
        go_loop [0] (fun i => ∃ m : Nat, m ≤ 1000 ∧ Hid (OnWay k R m) ∧ i = .int .i64 m) (fun i => (intOf i).toNat)
        case atStart => exact ⟨N, hN2, HW, rfl⟩
        case round =>
          obtain ⟨m, hm, HO, rfl⟩ := hrel
          have hm1 := HO.out.pos
          have ht := emod_nat m k
          clear ht2
          by_cases hd : m % k = 0
          · have HN := Lib.hid (HO.out.down hd)
            have ht2 : (m : Int) % (k : Int) = 0 := by rw [ht, hd]; rfl
            have hlt := HN.out.2
            have hx0 : (0 : Int) ≤ (m : Int) / (k : Int) := by rw [ediv_nat]; exact Int.natCast_nonneg _
            have hx1 : (m : Int) / (k : Int) ≤ 1000 := by rw [ediv_nat]; omega
            clear ht hd
            go_wp2
            go_round
            case rel => exact ⟨m / k, by omega, Lib.hid HN.out.1, by first | rfl | go_num⟩
            case measure => simp [intOf]; omega
          · have HD := Lib.hid (HO.out.done hd)
            have hq : ((m : Int) % (k : Int) == 0) = false := by rw [ht]; simp only [beq_eq_false_iff_ne]; omega
            clear ht hd
            by_cases hw : 1 < m
            · go_wp2
              go_ret
              exact ⟨ret_i (by rw [HE.out, HPR.out, if_pos (by rw [← HD.out]; exact hw)]; rfl), Below.refl _ _⟩
            · go_wp2
              go_ret
              exact ⟨ret_i (by rw [HE.out, HPR.out, if_neg (by rw [← HD.out]; exact hw)]), Below.refl _ _⟩
      · have HN := Lib.hid (lpN_lt hN1 hkl hd)
        have hq : ((N : Int) % (k : Int) == 0) = false := by rw [ht]; simp only [beq_eq_false_iff_ne]; omega
        have hq2 : ((N : Int) % (k : Int) != 0) = true := by simp only [bne, hq]; rfl
        clear ht hd
        go_wp2
        go_round
        case rel => exact ⟨k + 1, by omega, HN.out, by go_num⟩
        case measure => simp [intOf]; omega
  · have HC := Lib.hid hc
    have HE := Lib.hid (primB_no hc)
    clear hc
    go_enter Try.func11, Try.ntmps11
    go_wp2_with fail
    refine (in_no n 2 1000 _ HC.out).mono ?_
    rintro e w' ⟨rfl, rfl⟩
    go_wp2
    go_ret
    exact ⟨ret_i HE.out.symm, Below.refl _ _⟩
end Go.Proofs.Ytdpcabiajhfllaa.Rhy
