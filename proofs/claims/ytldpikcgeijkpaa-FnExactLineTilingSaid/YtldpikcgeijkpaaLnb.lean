/-
  Helpers of the claims beside this text: patterns on a line: whether it is a pattern, its number, its steps: the model's.
-/
import Derived.Test.YtldpikcgeijkpaaLna
import Derived.Test.YtldpikcgeijkpaaVec
import Derived.Test.YtldpikcgeijkpaaOk
import Derived.IntWalk
import Derived.OwnWalk
namespace Go.Proofs.Ytldpikcgeijkpaa.Rhy
open Go.RowKit
set_option linter.unusedVariables false
set_option linter.unusedSimpArgs false

/-- The first k elements keep the rule. -/
def PatK (zs : List Int) (k : Nat) : Prop := ∀ (j : Nat) (x y : Int), j + 1 < k → zs[j]? = some x → zs[j + 1]? = some y → x < y ∧ y ≤ 12
theorem patK_snoc {zs : List Int} {k : Nat} {x y : Int} (h : PatK zs k) (hx : zs[k - 1]? = some x) (hy : zs[k]? = some y) (h1 : x < y) (h2 : y ≤ 12) : PatK zs (k + 1) := by
  intro j u v hj hu hv
  by_cases e : j + 1 = k
  · subst e
    rw [Nat.add_sub_cancel, hu] at hx
    rw [hv] at hy
    injection hx with e1
    injection hy with e2
    subst e1 e2
    exact ⟨h1, h2⟩
  · exact h j u v (by omega) hu hv
theorem patC_of {zs : List Int} (h0 : zs[0]? = some 0) (h : PatK zs zs.length) : PatC zs := ⟨h0, fun j x y hx hy => h j x y (by
  rcases Nat.lt_or_ge (j + 1) zs.length with h3 | h3
  · exact h3
  · rw [List.getElem?_eq_none h3] at hy; cases hy) hx hy⟩
theorem ret_iq {k : IntKind} {a b : Int} (h : a = b) : Ending.returned (.int k a) = .returned (.int k b) := by rw [h]
theorem pow_iq {x P : Nat} (h : 2 ^ x = P) : (2 : Int) ^ x = (P : Int) := by rw [← h]; simp
theorem wrap_small {n : Nat} (h : n < 1000000) : wrap64 (n : Int) = n := by unfold wrap64; omega
theorem ret_q {a b : Bool} (h : a = b) : Ending.returned (.bool a) = .returned (.bool b) := by rw [h]
theorem and_n (a b : Nat) (ha : a < 9223372036854775808) (hb : b < 9223372036854775808) : Go.bits .and .i64 (a : Int) (b : Int) = ((a &&& b : Nat) : Int) := by
  have bv : ∀ a : Nat, a < 9223372036854775808 → (BitVec.ofInt 64 (a : Int)).toNat = a := fun a h => by
    rw [BitVec.toNat_ofInt, Int.emod_eq_of_lt (by omega) (by show (a : Int) < ((2 ^ 64 : Nat) : Int); omega)]
    omega
  have e : (BitVec.ofInt 64 (a : Int) &&& BitVec.ofInt 64 (b : Int)).toNat = a &&& b := by rw [BitVec.toNat_and, bv a (by omega), bv b (by omega)]
  show IntKind.i64.wrap ((BitVec.ofInt 64 (a : Int) &&& BitVec.ofInt 64 (b : Int)).toNat : Int) = _
  rw [e]
  have : a &&& b ≤ a := Nat.and_le_left
  exact IntWalk.i64_in _ ⟨by omega, by omega⟩

theorem pok_spec (a : Option Addr) (len cap : Nat) (zs : List Int) (w : World) (h : IntsAt w a len zs) (hm : len ≤ 1048576) (q : Bool) (hq : (PatC zs → q = true) ∧ (¬ PatC zs → q = false)) :
    Calls Try.prog 29 #[.slice a len cap] w fun e w' => e = .returned (.bool q) ∧ w = w' := by
  have HS := Lib.hid h
  have HQ := Lib.hid hq
  clear h hq
  by_cases h0 : len = 0
  · have HE : Hid (q = false) := Lib.hid (HQ.out.2 (fun hc => by have h1 := hc.1; rw [List.getElem?_eq_none (by rw [HS.out.1]; omega)] at h1; cases h1))
    subst h0
    go_enter Try.func29, Try.ntmps29
    go_wp2
    go_ret
    exact ⟨ret_q HE.out.symm, rfl⟩
  · obtain ⟨b, off, z, rfl, hb, hs, hc, hz1, hz2⟩ := HS.out.at (k := 0) (by omega)
    rw [Nat.add_zero] at hc
    have hl0 : ((len : Int) == 0) = false := by simp; omega
    by_cases hz : z = 0
    · subst hz
      have H0 := Lib.hid hs
      clear hs
      go_enter Try.func29, Try.ntmps29
      go_wp2
      go_loop [16] (fun i => ∃ (k : Nat), k ≤ len ∧ i = .int .i64 k ∧ Hid (PatK zs k)) (fun i => len - (intOf i).toNat)
      case atStart => exact ⟨0, by omega, rfl, Lib.hid (fun j x y hj => by omega)⟩
      case round =>
        obtain ⟨k, hk, rfl, HG⟩ := hrel
        by_cases hlt : k < len
        · obtain ⟨b', off', z, he, hb', hs, hc, hz1, hz2⟩ := HS.out.at hlt
          obtain ⟨rfl, rfl⟩ : b = b' ∧ off = off' := by simpa using he
          by_cases hin : 0 ≤ z ∧ z ≤ 12
          · by_cases h0 : 0 < k
            · obtain ⟨b', off', y, he', hb', hs', hc', hy1, hy2⟩ := HS.out.at (k := k - 1) (by omega)
              obtain ⟨rfl, rfl⟩ : b = b' ∧ off = off' := by simpa using he'
              have hi : ((k : Int) - 1) = ((k - 1 : Nat) : Int) := by omega
              obtain ⟨hi1, hi2⟩ := hin
              by_cases hy : y < z
              · have hle : decide (z ≤ y) = false := by simp; omega
                have HF := Lib.hid (patK_snoc HG.out hs' hs hy hi2)
                clear hs hs' he he' hb'
                go_wp2_with (go_at_call 69; refine (in_yes _ _ _ _ (by omega) (by omega)).mono ?_; rintro e w' ⟨rfl, rfl⟩)
                go_round
                case rel => exact ⟨k + 1, by omega, by go_num, HF⟩
                case measure => simp [intOf]; omega
              · have hle : decide (z ≤ y) = true := by simp; omega
                have HE : Hid (q = false) := Lib.hid (HQ.out.2 (fun hc => by
                  have h1 := hc.2 (k - 1) y z hs' (by rw [show k - 1 + 1 = k by omega]; exact hs)
                  omega))
                clear hs hs' he he' hb'
                go_wp2_with (go_at_call 69; refine (in_yes _ _ _ _ (by omega) (by omega)).mono ?_; rintro e w' ⟨rfl, rfl⟩)
                go_ret
                exact ⟨ret_q HE.out.symm, rfl⟩
            · have e0 : k = 0 := by omega
              subst e0
              rw [Nat.add_zero] at hc
              obtain ⟨hi1, hi2⟩ := hin
              have HF : Hid (PatK zs (0 + 1)) := Lib.hid (fun j x y hj => by omega)
              clear hs he hb'
              go_wp2_with (go_at_call 69; refine (in_yes _ _ _ _ (by omega) (by omega)).mono ?_; rintro e w' ⟨rfl, rfl⟩)
              go_round
              case rel => exact ⟨1, by omega, by go_num, HF⟩
              case measure => simp [intOf]; omega
          · have HI := Lib.hid hin
            have HE : Hid (q = false) := Lib.hid (HQ.out.2 (fun hc => hin (by
              by_cases e : k = 0
              · rw [e, H0.out] at hs; injection hs with e1; omega
              · have h1 := pat_up hc (k - 1) 0 0 z H0.out (by rw [show 0 + 1 + (k - 1) = k by omega]; exact hs)
                omega)))
            clear hin hs he hb'
            go_wp2_with (go_at_call 69; refine (in_no _ _ _ _ HI.out).mono ?_; rintro e w' ⟨rfl, rfl⟩)
            go_ret
            exact ⟨ret_q HE.out.symm, rfl⟩
        · have HE : Hid (q = true) := Lib.hid (HQ.out.1 (patC_of H0.out (by rw [HS.out.1, show len = k by omega]; exact HG.out)))
          go_wp2
          go_ret
          exact ⟨ret_q HE.out.symm, rfl⟩
    · have hz' : (z == 0) = false := by simpa using hz
      have HE : Hid (q = false) := Lib.hid (HQ.out.2 (fun hc => by have h1 := hc.1; rw [hs] at h1; injection h1 with e1; exact hz e1))
      clear hs hz
      go_enter Try.func29, Try.ntmps29
      go_wp2
      go_ret
      exact ⟨ret_q HE.out.symm, rfl⟩

theorem msk_app : ∀ (l : List Nat) (x : Nat), mskN (l ++ [x]) = mskN l + 2 ^ x
  | [], x => by simp [mskN]
  | y :: l, x => by simp only [List.cons_append, mskN, msk_app l x]; omega
theorem msk_app_le : ∀ (l m : List Nat), mskN l ≤ mskN (l ++ m)
  | [], m => Nat.zero_le _
  | y :: l, m => by simp only [List.cons_append, mskN]; have := msk_app_le l m; omega
theorem msk_take {l : List Nat} {k x : Nat} (h : l[k]? = some x) : mskN (l.take (k + 1)) = mskN (l.take k) + 2 ^ x := by
  rw [List.take_add_one, h]
  exact msk_app _ _
theorem msk_take_le (l : List Nat) (k : Nat) : mskN (l.take k) ≤ mskN l := by
  have := msk_app_le (l.take k) (l.drop k)
  rwa [List.take_append_drop] at this
theorem msk_spec (a : Option Addr) (len cap : Nat) (xs : List Nat) (w : World) (h : IntsAt w a len (zsN xs)) (hm : len ≤ 1048576) (hx : ∀ x ∈ xs, x ≤ 12) (hk : mskN xs < 8192) :
    Calls Try.prog 71 #[.slice a len cap] w fun e w' => e = .returned (.int .i64 (mskN xs : Nat)) ∧ w = w' := by
  have HS := Lib.hid h
  have HX := Lib.hid hx
  have HM := Lib.hid hk
  clear h hx hk
  have hll : xs.length = len := by rw [← HS.out.1, zsN_len]
  have HL := Lib.hid hll
  clear hll
  go_enter Try.func71, Try.ntmps71
  go_wp2
  go_loop [3, 8] (fun n i => ∃ (k N : Nat), k ≤ len ∧ i = .int .i64 k ∧ n = .int .i64 N ∧ N < 8192 ∧ Hid (N = mskN (xs.take k))) (fun _ i => len - (intOf i).toNat)
  case atStart => exact ⟨0, 0, by omega, rfl, rfl, by omega, Lib.hid rfl⟩
  case round =>
    obtain ⟨k, N, hk, rfl, rfl, hN, HN⟩ := hrel
    by_cases hlt : k < len
    · obtain ⟨b, off, z, rfl, hb, hs, hc, hz1, hz2⟩ := HS.out.at hlt
      obtain ⟨x, hxk, rfl⟩ := zsN_at hs
      have hx12 : x ≤ 12 := HX.out x (List.mem_of_getElem? hxk)
      have HT := Lib.hid (msk_take hxk)
      have hle := msk_take_le xs (k + 1)
      obtain ⟨P, hP⟩ : ∃ P, 2 ^ x = P := ⟨_, rfl⟩
      have hPb : N + P < 8192 := by rw [← hP, HN.out, ← HT.out]; have := HM.out; omega
      have HP := Lib.hid hP
      clear hs hxk hle hP
      go_wp2
      go_round
      case rel => exact ⟨k + 1, N + P, by omega, by go_num, by rw [pow_iq HP.out, wrap_small (by omega), ← Int.natCast_add, wrap_small (by omega)], by omega, Lib.hid (by rw [HT.out, HN.out, HP.out])⟩
      case measure => simp [intOf]; omega
    · have HE : Hid (mskN xs = N) := Lib.hid (by rw [HN.out, List.take_of_length_le (by rw [HL.out]; omega)])
      go_wp2
      go_ret
      exact ⟨ret_iq (by rw [HE.out]), rfl⟩

/-! ### a step -/
theorem str_even {f s n : Nat} (h : ¬ s % 2 = 1) : strN (f + 1) s n = (s, n) := by
  unfold strN
  rw [if_neg (by simpa using h)]
theorem str_odd {f s n : Nat} (h : s % 2 = 1) : strN (f + 1) s n = strN f (s / 2) (n + 1) := by
  conv => lhs; unfold strN
  rw [if_pos (by simpa using h)]
theorem stp_spec (m s : Nat) (w : World) (hm : m < 8192) (hs : s < 8192) :
    Calls Try.prog 70 #[.int .i64 m, .int .i64 s] w fun e w' => ((∃ s' n, stpN m s = some (s', n) ∧ e = .returned (.tuple #[.int .i64 (s' : Nat), .int .i64 (n : Nat), .bool true])) ∨ stpN m s = none ∧ e = .returned (.tuple #[.int .i64 s, .int .i64 0, .bool false])) ∧ w = w' := by
  obtain ⟨A, hA⟩ : ∃ A, s &&& m = A := ⟨_, rfl⟩
  have hand : Go.bits .and .i64 (s : Int) (m : Int) = (A : Int) := by rw [← hA]; exact and_n s m (by omega) (by omega)
  by_cases h0 : A = 0
  · have HE : Hid (stpN m s = some (strN 14 (s + m) 0)) := Lib.hid (by unfold stpN; rw [hA, h0]; rfl)
    subst h0
    clear hA
    go_enter Try.func70, Try.ntmps70
    go_wp2
    go_loop [1, 7] (fun x n => ∃ (f X N : Nat), x = .int .i64 X ∧ n = .int .i64 N ∧ X < 2 ^ f ∧ f ≤ 14 ∧ N + f = 14 ∧ Hid (strN 14 (s + m) 0 = strN f X N)) (fun x _ => (intOf x).toNat)
    case atStart => exact ⟨14, s + m, 0, by rw [Int.natCast_add], rfl, by omega, by omega, by omega, Lib.hid rfl⟩
    case round =>
      obtain ⟨f, X, N, rfl, rfl, hX, hf, hN, HT⟩ := hrel
      cases f with
      | zero => 
        have hX0 : X = 0 := by omega
        subst hX0
        have HF : Hid (strN 14 (s + m) 0 = (0, N)) := Lib.hid HT.out
        have h1 : Go.bits .and .i64 ((0 : Nat) : Int) (1 : Int) = 0 := by decide
        go_wp2
        go_ret3
        exact ⟨Or.inl ⟨0, N, by rw [HE.out, HF.out], rfl⟩, rfl⟩
      | succ f =>
        have h1 : Go.bits .and .i64 (X : Int) (1 : Int) = ((X % 2 : Nat) : Int) := by
          rw [← Nat.and_one_is_mod]; exact and_n X 1 (by have : 2 ^ (f + 1) ≤ 2 ^ 14 := Nat.pow_le_pow_right (by omega) (by omega); omega) (by omega)
        have hXb : X < 16384 := by have : 2 ^ (f + 1) ≤ 2 ^ 14 := Nat.pow_le_pow_right (by omega) (by omega); omega
        by_cases ho : X % 2 = 1
        · have HF : Hid (strN 14 (s + m) 0 = strN f (X / 2) (N + 1)) := Lib.hid (by rw [HT.out, str_odd ho])
          have HY : Hid (X / 2 < 2 ^ f) := Lib.hid (by rw [Nat.pow_succ] at hX; omega)
          rw [ho] at h1
          clear hX
          go_wp2
          go_round
          case rel => exact ⟨f, X / 2, N + 1, by rw [show ((X / 2 : Nat) : Int) = (X : Int) / 2 by omega], by go_num, HY.out, by omega, by omega, HF⟩
          case measure => simp [intOf]; omega
        · have HF : Hid (strN 14 (s + m) 0 = (X, N)) := Lib.hid (by rw [HT.out, str_even ho])
          have ho0 : X % 2 = 0 := by omega
          rw [ho0] at h1
          clear hX
          go_wp2
          go_ret3
          exact ⟨Or.inl ⟨X, N, by rw [HE.out, HF.out], rfl⟩, rfl⟩
  · have HE : Hid (stpN m s = none) := Lib.hid (by unfold stpN; rw [hA, if_neg (by simpa using h0)])
    have hz : ((A : Int) == 0) = false := by simp; omega
    clear hA
    go_enter Try.func70, Try.ntmps70
    go_wp2
    go_ret3
    exact ⟨Or.inr ⟨HE.out, rfl⟩, rfl⟩
theorem stp_yes (m s : Nat) (w : World) (hm : m < 8192) (hs : s < 8192) {s' n : Nat} (h : stpN m s = some (s', n)) :
    Calls Try.prog 70 #[.int .i64 m, .int .i64 s] w fun e w' => e = .returned (.tuple #[.int .i64 (s' : Nat), .int .i64 (n : Nat), .bool true]) ∧ w = w' := by
  refine (stp_spec m s w hm hs).mono ?_
  rintro e w' ⟨⟨a, b, h1, rfl⟩ | ⟨h1, rfl⟩, rfl⟩
  · rw [h] at h1
    injection h1 with h1
    injection h1 with e1 e2
    subst e1 e2
    exact ⟨rfl, rfl⟩
  · rw [h] at h1; cases h1
theorem stp_no (m s : Nat) (w : World) (hm : m < 8192) (hs : s < 8192) (h : stpN m s = none) :
    Calls Try.prog 70 #[.int .i64 m, .int .i64 s] w fun e w' => e = .returned (.tuple #[.int .i64 s, .int .i64 0, .bool false]) ∧ w = w' := by
  refine (stp_spec m s w hm hs).mono ?_
  rintro e w' ⟨⟨a, b, h1, rfl⟩ | ⟨h1, rfl⟩, rfl⟩
  · rw [h] at h1; cases h1
  · exact ⟨rfl, rfl⟩
end Go.Proofs.Ytldpikcgeijkpaa.Rhy
