/-
  Helpers of the claims beside this text: plain mathematics: the model's count of avoiding bars, entry by entry, and how great its numbers are.
-/
import Derived.Test.YtpbceckbmalabaaObc
namespace Go.Proofs.Ytpbceckbmalabaa.Rhy
open Go.RowKit
set_option linter.unusedVariables false

def pcv (w : List Nat) (m c : Nat) : Nat → Nat
  | 0 => 0
  | a + 1 => pcv w m c a + if a ≤ c then w[a]?.getD 0 * ccN m (c - a) else 0
theorem pcv_conv (w : List Nat) (m c : Nat) : ∀ a, a ≤ c → pcv w m c (a + 1) = conv w m c a
  | 0, _ => by simp [pcv, conv]
  | a + 1, h => by
    rw [pcv, pcv_conv w m c a (by omega), if_pos h]
    rfl
theorem pcv_past (w : List Nat) (m c : Nat) : ∀ a, c < a → pcv w m c a = conv w m c c
  | 0, h => by omega
  | a + 1, h => by
    by_cases e : a = c
    · subst e
      exact pcv_conv w m a a (Nat.le_refl _)
    · rw [pcv, if_neg (by omega), Nat.add_zero]
      exact pcv_past w m c a (by omega)
/-- An entry when a entries are done, and b of the next. -/
def nxN (w : List Nat) (m a b c : Nat) : Nat := pcv w m c a + if a ≤ c ∧ c < a + b then w[a]?.getD 0 * ccN m (c - a) else 0
def nxL (w : List Nat) (m k a b : Nat) : List Nat := (List.range (k + 1)).map fun c => nxN w m a b c
theorem nxL_len (w : List Nat) (m k a b : Nat) : (nxL w m k a b).length = k + 1 := by simp [nxL]
theorem nxL_at {w : List Nat} {m k a b c : Nat} (h : c ≤ k) : (nxL w m k a b)[c]? = some (nxN w m a b c) := by
  unfold nxL
  rw [List.getElem?_map, List.getElem?_range (by omega)]
  rfl
theorem nxL_zero (w : List Nat) (m k : Nat) : nxL w m k 0 0 = List.replicate (k + 1) 0 := by
  apply List.ext_getElem
  · simp [nxL]
  · intro i h1 h2
    simp [nxL, nxN, pcv]
theorem nxN_new (w : List Nat) (m a b : Nat) : nxN w m a (b + 1) (a + b) = nxN w m a b (a + b) + w[a]?.getD 0 * ccN m b := by
  unfold nxN
  rw [if_pos (by omega), if_neg (by omega), Nat.add_zero, show a + b - a = b by omega]
theorem nxL_step {w : List Nat} {m k a b : Nat} (h : a + b ≤ k) : (nxL w m k a b).set (a + b) (nxN w m a b (a + b) + w[a]?.getD 0 * ccN m b) = nxL w m k a (b + 1) := by
  apply List.ext_getElem?
  intro i
  rw [List.getElem?_set, nxL_len]
  by_cases e : a + b = i
  · subst e
    rw [if_pos rfl, if_pos (by omega), nxL_at h, nxN_new]
  · rw [if_neg e]
    rcases Nat.lt_or_ge k i with q | q
    · rw [List.getElem?_eq_none (by rw [nxL_len]; omega), List.getElem?_eq_none (by rw [nxL_len]; omega)]
    · rw [nxL_at q, nxL_at q]
      congr 1
      unfold nxN
      congr 1
      by_cases g : a ≤ i ∧ i < a + b
      · rw [if_pos g, if_pos (by omega)]
      · rw [if_neg g, if_neg (by omega)]
theorem nxL_next {w : List Nat} {m k a b : Nat} (h : k < a + b) : nxL w m k a b = nxL w m k (a + 1) 0 := by
  apply List.ext_getElem?
  intro i
  rcases Nat.lt_or_ge k i with q | q
  · rw [List.getElem?_eq_none (by rw [nxL_len]; omega), List.getElem?_eq_none (by rw [nxL_len]; omega)]
  · rw [nxL_at q, nxL_at q]
    congr 1
    unfold nxN
    rw [pcv, if_neg (show ¬ (a + 1 ≤ i ∧ i < a + 1 + 0) by omega), Nat.add_zero]
    congr 1
    by_cases g : a ≤ i
    · rw [if_pos (by omega), if_pos g]
    · rw [if_neg (by omega), if_neg g]
theorem nxL_all (w : List Nat) (m k : Nat) : nxL w m k (k + 1) 0 = wayN m k w := by
  unfold nxL wayN
  refine List.map_congr_left fun c hc => ?_
  have := List.mem_range.1 hc
  unfold nxN
  rw [if_neg (by omega), Nat.add_zero]
  exact pcv_past w m c (k + 1) (by omega)

/-! ### how great the numbers are -/
def cuB (m : Nat) : Nat → Nat
  | 0 => 0
  | t + 1 => cuB m t + ccN m t
def cuAll : Bool := (List.range 17).all fun m => (List.range 18).all fun t => Nat.ble (cuB m t) (2 ^ m)
theorem cuAll_yes : cuAll = true := by decide +kernel
theorem cu_le {m t : Nat} (hm : m ≤ 16) (ht : t ≤ 17) : cuB m t ≤ 2 ^ m := by
  have e := cuAll_yes
  unfold cuAll at e
  rw [List.all_eq_true] at e
  have e1 := e m (List.mem_range.2 (by omega))
  rw [List.all_eq_true] at e1
  exact Nat.le_of_ble_eq_true (e1 t (List.mem_range.2 (by omega)))
theorem pcv_le {w : List Nat} {S m c : Nat} (hw : ∀ a : Nat, w[a]?.getD 0 ≤ S) : ∀ a, a ≤ c + 1 → pcv w m c a + S * cuB m (c + 1 - a) ≤ S * cuB m (c + 1)
  | 0, _ => by simp [pcv]
  | a + 1, h => by
    have ih := pcv_le (m := m) (c := c) hw a (by omega)
    rw [pcv, if_pos (by omega)]
    have e : c + 1 - a = (c - a) + 1 := by omega
    have e2 : c + 1 - (a + 1) = c - a := by omega
    rw [e, cuB, Nat.mul_add] at ih
    rw [e2]
    have := Nat.mul_le_mul_right (ccN m (c - a)) (hw a)
    omega
theorem pcv_bd {w : List Nat} {S m c : Nat} (hw : ∀ a : Nat, w[a]?.getD 0 ≤ S) (hm : m ≤ 16) (hc : c ≤ 16) {a : Nat} (ha : a ≤ c + 1) : pcv w m c a ≤ S * 2 ^ m := by
  have h1 := pcv_le (m := m) (c := c) hw a ha
  have h2 := Nat.mul_le_mul_left S (cu_le (t := c + 1) hm (by omega))
  omega
theorem nxN_bd {w : List Nat} {S m a b c : Nat} (hw : ∀ a : Nat, w[a]?.getD 0 ≤ S) (hm : m ≤ 16) (hc : c ≤ 16) (ha : a ≤ c) : nxN w m a b c ≤ S * 2 ^ m := by
  have h1 := pcv_bd (w := w) (m := m) (c := c) hw hm hc (a := a + 1) (by omega)
  rw [pcv, if_pos ha] at h1
  unfold nxN
  split <;> omega
theorem ways_bd {m k : Nat} (hm : m ≤ 16) (hk : k ≤ 16) : ∀ i x : Nat, (waysN m k i)[x]?.getD 0 ≤ 2 ^ (m * i)
  | 0, x => by
    rw [Nat.mul_zero, Nat.pow_zero, waysN]
    rcases x with _ | x
    · simp
    · simp only [List.getElem?_cons_succ, List.getElem?_replicate]
      split <;> simp
  | i + 1, x => by
    rw [waysN]
    unfold wayN
    rcases Nat.lt_or_ge k x with q | q
    · rw [List.getElem?_eq_none (by simp; omega)]
      simp
    · rw [List.getElem?_map, List.getElem?_range (by omega)]
      simp only [Option.map_some, Option.getD_some]
      have h1 := pcv_bd (w := waysN m k i) (m := m) (c := x) (ways_bd hm hk i) hm (by omega) (a := x + 1) (Nat.le_refl _)
      rw [pcv_past _ _ _ _ (by omega)] at h1
      rw [Nat.mul_add, Nat.mul_one, Nat.pow_add]
      exact h1
theorem ways_len (m k : Nat) : ∀ i, (waysN m k i).length = k + 1
  | 0 => by simp [waysN]
  | i + 1 => by simp [waysN, wayN]
/-- The list as integers. -/
def zN (l : List Nat) : List Int := l.map Int.ofNat
theorem zN_len (l : List Nat) : (zN l).length = l.length := by simp [zN]
theorem zN_at {l : List Nat} {i x : Nat} (h : l[i]? = some x) : (zN l)[i]? = some (x : Int) := by unfold zN; rw [List.getElem?_map, h]; rfl
theorem zN_set (l : List Nat) (i x : Nat) : (ints (zN l)).set i (.int .i64 (x : Int)) = ints (zN (l.set i x)) := by
  unfold ints zN
  rw [List.map_set, List.map_set]
  rfl
theorem zN_rep (k : Nat) : List.replicate k (Value.int .i64 0) = ints (zN (List.replicate k 0)) := by
  unfold ints zN
  rw [List.map_replicate, List.map_replicate]
  rfl
theorem zN_int {l : List Nat} {B : Nat} (hB : B ≤ 1048576) (h : ∀ x : Nat, l[x]?.getD 0 ≤ B) : AllInt (zN l) := by
  intro z hz
  unfold zN at hz
  rw [List.mem_map] at hz
  obtain ⟨x, hx, rfl⟩ := hz
  obtain ⟨i, hi⟩ := List.mem_iff_getElem?.1 hx
  have := h i
  rw [hi] at this
  simp only [Option.getD_some] at this
  exact ⟨by show (-9223372036854775808 : Int) ≤ (x : Int); omega, by show (x : Int) ≤ 9223372036854775807; omega⟩
end Go.Proofs.Ytpbceckbmalabaa.Rhy
