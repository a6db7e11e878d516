/-
  Helpers of the claims beside this text: how many bits a number below 65536 has: the library's sum is that count.
-/
import Derived.Test.YtgmhdmhnedljcaaMath
namespace Go.Proofs.Ytgmhdmhnedljcaa.Rhy
set_option linter.unusedVariables false
set_option maxRecDepth 100000

/-- The library's sum, and the count that it is. -/
def popA (x : Nat) : Nat := ((x / 2) &&& 6148914691236517205) + (x &&& 6148914691236517205)
def popB (x : Nat) : Nat := ((popA x / 4) &&& 3689348814741910323) + (popA x &&& 3689348814741910323)
def popC (x : Nat) : Nat := (popB x / 16 + popB x) &&& 1085102592571150095
def popD (x : Nat) : Nat := popC x + popC x / 256
def popE (x : Nat) : Nat := popD x + popD x / 65536
def popF (x : Nat) : Nat := popE x + popE x / 4294967296
def popN (x : Nat) : Nat := popF x &&& 127
def popc (x : Nat) : Nat := ((List.range 16).filter fun i => decide (x / 2 ^ i % 2 = 1)).length
def wts : Nat → Nat → Nat
  | 0, _ => 0
  | m + 1, x => wts m x + x / 2 ^ m % 2
theorem wts_is (x : Nat) : ∀ m, ((List.range m).filter fun i => decide (x / 2 ^ i % 2 = 1)).length = wts m x
  | 0 => rfl
  | m + 1 => by
    rw [List.range_succ, List.filter_append, List.length_append, wts_is x m]
    simp only [wts]
    congr 1
    rcases Nat.mod_two_eq_zero_or_one (x / 2 ^ m) with h | h
    · rw [List.filter_cons_of_neg (by rw [h]; decide), h]; rfl
    · rw [List.filter_cons_of_pos (by rw [h]; decide), h]; rfl
def w16 (x : Nat) : Nat := x % 2 + x / 2 % 2 + x / 4 % 2 + x / 8 % 2 + x / 16 % 2 + x / 32 % 2 + x / 64 % 2 + x / 128 % 2 + x / 256 % 2 + x / 512 % 2 + x / 1024 % 2 + x / 2048 % 2 + x / 4096 % 2 + x / 8192 % 2 + x / 16384 % 2 + x / 32768 % 2
theorem w16_is (x : Nat) : popc x = w16 x := by
  unfold popc
  rw [wts_is]
  simp [wts, w16]
def popK (x : Nat) : Bool := Nat.beq (popN x) (w16 x)
def allB (f : Nat → Bool) : Nat → Bool
  | 0 => true
  | n + 1 => match f n with
    | true => allB f n
    | false => false
theorem allB_is {f : Nat → Bool} : ∀ {n : Nat}, allB f n = true → ∀ i, i < n → f i = true
  | 0, _, i, hi => by omega
  | n + 1, h, i, hi => by
    simp only [allB] at h
    cases hf : f n with
    | false => rw [hf] at h; cases h
    | true =>
      rw [hf] at h
      by_cases e : i = n
      · rw [e]; exact hf
      · exact allB_is h i (by omega)
theorem pop_all : allB (fun a => allB (fun b => popK (256 * a + b)) 256) 256 = true := by decide +kernel
theorem pop_is {x : Nat} (h : x < 65536) : popN x = popc x := by
  have h1 := allB_is pop_all (x / 256) (by omega)
  have h2 := allB_is h1 (x % 256) (by omega)
  rw [show 256 * (x / 256) + x % 256 = x by omega] at h2
  rw [w16_is]
  exact Nat.eq_of_beq_eq_true h2
end Go.Proofs.Ytgmhdmhnedljcaa.Rhy
