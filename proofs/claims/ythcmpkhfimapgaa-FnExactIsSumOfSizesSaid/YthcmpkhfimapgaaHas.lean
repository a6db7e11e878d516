/-
  Helpers of the claims beside this text: whether a list has a number, and remainders: the model's and the program's.
-/
import Derived.Test.YthcmpkhfimapgaaOk
import Derived.Test.YthcmpkhfimapgaaShelf
import Derived.Deep.RegionHeld3
import Derived.IntWalk
namespace Go.Proofs.Ythcmpkhfimapgaa.Rhy
open Go.RowKit
set_option linter.unusedVariables false

def hasB (zs : List Int) (x : Int) : Bool := zs.contains x
theorem has_of (zs : List Int) (x : Int) (k : Nat) (h : zs[k]? = some x) : hasB zs x = true := by
  unfold hasB
  simpa using List.mem_of_getElem? h
theorem has_not (zs : List Int) (x : Int) (h : ∀ j, j < zs.length → zs[j]? ≠ some x) : hasB zs x = false := by
  unfold hasB
  rw [List.contains_eq_mem, decide_eq_false_iff_not]
  intro hm
  obtain ⟨j, hj⟩ := List.mem_iff_getElem?.1 hm
  have : j < zs.length := by
    rcases Nat.lt_or_ge j zs.length with h' | h'
    · exact h'
    · rw [List.getElem?_eq_none h'] at hj; cases hj
  exact h j this hj
theorem ret_bool {a b : Bool} (h : a = b) : Ending.returned (.bool a) = .returned (.bool b) := by rw [h]
theorem ret_int {k : IntKind} {a b : Int} (h : a = b) : Ending.returned (.int k a) = .returned (.int k b) := by rw [h]

theorem has_any (a : Option Addr) (len cap : Nat) (zs : List Int) (x : Int) (w : World) (h : IntsAt w a len zs) (hm : len ≤ 1073741824) :
    Calls Try.prog 70 #[.slice a len cap, .int .i64 x] w fun e w' => e = .returned (.bool (hasB zs x)) ∧ w = w' := by
  have HS := Lib.hid h
  clear h
  go_enter Try.func70, Try.ntmps70
  go_wp2
  go_loop [9] (fun i => ∃ (k : Nat), k ≤ len ∧ i = .int .i64 k ∧ Hid (∀ j, j < k → zs[j]? ≠ some x)) (fun i => len - (intOf i).toNat)
  case atStart => exact ⟨0, by omega, rfl, Lib.hid (fun j hj => by omega)⟩
  case round =>
    obtain ⟨k, hk, rfl, HN⟩ := hrel
    by_cases hlt : k < len
    · obtain ⟨b, off, z, rfl, hb, hs, hc, hz1, hz2⟩ := HS.out.at hlt
      by_cases he : x = z
      · have HB := Lib.hid (has_of zs x k (by rw [he]; exact hs))
        have hq : (x == z) = true := by simpa using he
        clear he hs
        go_wp2
        go_ret
        exact ⟨ret_bool HB.out.symm, rfl⟩
      · have HM : Hid (∀ j, j < k + 1 → zs[j]? ≠ some x) := Lib.hid (fun j hj => by
          by_cases e : j = k
          · rw [e, hs]; exact fun q => he (Option.some.inj q).symm
          · exact HN.out j (by omega))
        have hq : (x == z) = false := by simpa using he
        clear he hs
        go_wp2
        go_round
        case rel => exact ⟨k + 1, by omega, by go_num, HM⟩
        case measure => simp [intOf]; omega
    · have HB := Lib.hid (has_not zs x (fun j hj => HN.out j (by have := HS.out.1; omega)))
      go_wp2
      go_ret
      exact ⟨ret_bool HB.out.symm, rfl⟩

/-- slices.Contains, in the same words. -/
theorem contains_any (a : Option Addr) (len cap : Nat) (zs : List Int) (x : Int) (w : World) (h : IntsAt w a len zs) (hm : len ≤ 1073741824) :
    Calls Try.prog 84 #[.slice a len cap, .int .i64 x] w fun e w' => e = .returned (.bool (hasB zs x)) ∧ w' = w := by
  by_cases h0 : len = 0
  · subst h0
    have hz : zs = [] := List.eq_nil_of_length_eq_zero h.1
    rw [hz]
    exact Try.slices_Contains_int_empty a cap x w
  · obtain ⟨b, off, rfl, hb, hc⟩ := h.2.2 (by omega)
    have h1 := h.1
    refine (Try.slices_Contains_int b off len cap zs x w (by omega) (by omega) (fun j hj => ?_)).mono ?_
    · rw [hc j _ (List.getElem?_eq_getElem hj), List.getD_eq_getElem?_getD, List.getElem?_eq_getElem hj]
      rfl
    · rintro e w' ⟨rfl, rfl⟩
      exact ⟨by rw [List.take_of_length_le (by omega)]; rfl, rfl⟩

theorem tmod_fix (k n : Int) (h : 0 < n) : (k.tmod n + n).tmod n = k % n := by
  have h1 := Int.tmod_lt_of_pos k h
  have h2 := Int.lt_tmod_of_pos k h
  rw [Int.tmod_eq_emod_of_nonneg (by omega), Int.add_emod_right]
  have := Int.tmod_add_mul_tdiv k n
  conv => rhs; rw [← this]
  rw [Int.add_mul_emod_self_left]
theorem tmod_bd (k n : Int) (h : 0 < n) : -n < k.tmod n ∧ k.tmod n < n := ⟨Int.lt_tmod_of_pos k h, Int.tmod_lt_of_pos k h⟩

/-- A remainder from 0 on. -/
def remB (k n : Int) : Int := k % n
theorem remB_bd (k n : Int) (h : 0 < n) : 0 ≤ remB k n ∧ remB k n < n := ⟨Int.emod_nonneg _ (by omega), Int.emod_lt_of_pos _ h⟩

theorem mod_any (k n : Int) (w : World) (h1 : 1 ≤ n) (h2 : n ≤ 1000) (h3 : -9223372036854775808 ≤ k) (h4 : k ≤ 9223372036854775807) :
    Calls Try.prog 82 #[.int .i64 k, .int .i64 n] w fun e w' => e = .returned (.int .i64 (remB k n)) ∧ w = w' := by
  have ht := tmod_bd k n (by omega)
  have HT := Lib.hid ht
  have HF := Lib.hid (tmod_fix k n (by omega))
  have hz : (n == 0) = false := by simp; omega
  clear ht
  go_enter Try.func82, Try.ntmps82
  go_wp2
  go_ret
  exact ⟨ret_int (by rw [show wrap64 (k.tmod n + n) = k.tmod n + n by have := HT.out; unfold wrap64; omega]; exact HF.out), rfl⟩

theorem around_any (k n : Int) (w : World) (h1 : 1 ≤ n) (h2 : n ≤ 1000) (h3 : -9223372036854775808 ≤ k) (h4 : k ≤ 9223372036854775807) :
    Calls Try.prog 52 #[.int .i64 k, .int .i64 n] w fun e w' => e = .returned (.int .i64 (remB k n)) ∧ w = w' := by
  have ht := tmod_bd k n (by omega)
  have hf := tmod_fix k n (by omega)
  have hz : (n == 0) = false := by simp; omega
  by_cases hs : k.tmod n < 0
  · have HR : Hid (k.tmod n + n = remB k n) := Lib.hid (by unfold remB; rw [← hf, Int.tmod_eq_emod_of_nonneg (a := k.tmod n + n) (by omega), Int.emod_eq_of_lt (a := k.tmod n + n) (by omega) (by omega)])
    clear hf
    go_enter Try.func52, Try.ntmps52
    go_wp2
    go_ret
    exact ⟨ret_int HR.out, rfl⟩
  · have HR : Hid (k.tmod n = remB k n) := Lib.hid (by unfold remB; rw [← hf, Int.tmod_eq_emod_of_nonneg (a := k.tmod n + n) (by omega), Int.add_emod_right, Int.emod_eq_of_lt (a := k.tmod n) (by omega) (by omega)])
    clear hf
    go_enter Try.func52, Try.ntmps52
    go_wp2
    go_ret
    exact ⟨ret_int HR.out, rfl⟩
end Go.Proofs.Ythcmpkhfimapgaa.Rhy
