/-
  Helpers of the claims beside this text: whether a list has a number, and remainders: the model's and the program's.
-/
import Derived.Test.YtgmhdmhnedljcaaOk
import Derived.Test.YtgmhdmhnedljcaaShelf
import Derived.Deep.RegionHeld3
import Derived.IntWalk
namespace Go.Proofs.Ytgmhdmhnedljcaa.Rhy
open Go.RowKit
set_option linter.unusedVariables false

def hasB (zs : List Int) (x : Int) : Bool := zs.contains x
theorem has_of (zs : List Int) (x : Int) (k : Nat) (h : zs[k]? = some x) : hasB zs x = true := by
  unfold hasB
  simpa using List.mem_of_getElem? h
theorem has_not (zs : List Int) (x : Int) (h : ∀ j, j < zs.length → zs[j]? ≠ some x) : hasB zs x = false := by
  unfold hasB
  rw [List.contains_eq_mem, decide_eq_false_iff_not]
  intro hm
  obtain ⟨j, hj⟩ := List.mem_iff_getElem?.1 hm
  have : j < zs.length := by
    rcases Nat.lt_or_ge j zs.length with h' | h'
    · exact h'
    · rw [List.getElem?_eq_none h'] at hj; cases hj
  exact h j this hj
theorem ret_bool {a b : Bool} (h : a = b) : Ending.returned (.bool a) = .returned (.bool b) := by rw [h]
theorem ret_int {k : IntKind} {a b : Int} (h : a = b) : Ending.returned (.int k a) = .returned (.int k b) := by rw [h]



theorem tmod_fix (k n : Int) (h : 0 < n) : (k.tmod n + n).tmod n = k % n := by
  have h1 := Int.tmod_lt_of_pos k h
  have h2 := Int.lt_tmod_of_pos k h
  rw [Int.tmod_eq_emod_of_nonneg (by omega), Int.add_emod_right]
  have := Int.tmod_add_mul_tdiv k n
  conv => rhs; rw [← this]
  rw [Int.add_mul_emod_self_left]
theorem tmod_bd (k n : Int) (h : 0 < n) : -n < k.tmod n ∧ k.tmod n < n := ⟨Int.lt_tmod_of_pos k h, Int.tmod_lt_of_pos k h⟩

/-- A remainder from 0 on. -/
def remB (k n : Int) : Int := k % n
theorem remB_bd (k n : Int) (h : 0 < n) : 0 ≤ remB k n ∧ remB k n < n := ⟨Int.emod_nonneg _ (by omega), Int.emod_lt_of_pos _ h⟩


theorem around_any (k n : Int) (w : World) (h1 : 1 ≤ n) (h2 : n ≤ 1000) (h3 : -9223372036854775808 ≤ k) (h4 : k ≤ 9223372036854775807) :
    Calls Try.prog 40 #[.int .i64 k, .int .i64 n] w fun e w' => e = .returned (.int .i64 (remB k n)) ∧ w = w' := by
  have ht := tmod_bd k n (by omega)
  have hf := tmod_fix k n (by omega)
  have hz : (n == 0) = false := by simp; omega
  by_cases hs : k.tmod n < 0
  · have HR : Hid (k.tmod n + n = remB k n) := Lib.hid (by unfold remB; rw [← hf, Int.tmod_eq_emod_of_nonneg (a := k.tmod n + n) (by omega), Int.emod_eq_of_lt (a := k.tmod n + n) (by omega) (by omega)])
    clear hf
    go_enter Try.func40, Try.ntmps40
    go_wp2
    go_ret
    exact ⟨ret_int HR.out, rfl⟩
  · have HR : Hid (k.tmod n = remB k n) := Lib.hid (by unfold remB; rw [← hf, Int.tmod_eq_emod_of_nonneg (a := k.tmod n + n) (by omega), Int.add_emod_right, Int.emod_eq_of_lt (a := k.tmod n) (by omega) (by omega)])
    clear hf
    go_enter Try.func40, Try.ntmps40
    go_wp2
    go_ret
    exact ⟨ret_int HR.out, rfl⟩
end Go.Proofs.Ytgmhdmhnedljcaa.Rhy

/-
  Helpers of the claims beside this text: whether a rhythm has a beat: the program's method.
-/
namespace Go.Proofs.Ytgmhdmhnedljcaa.Rhy
open Go.RowKit
set_option linter.unusedVariables false

theorem same_of {P : Program} {f : Nat} {args : Array Value} {w : World} {v : Value} (h : Calls P f args w fun e w' => e = .returned v ∧ w' = w) : Calls P f args w fun e w' => e = .returned v ∧ w = w' :=
  h.mono fun e w' ⟨he, hw⟩ => ⟨he, hw.symm⟩


end Go.Proofs.Ytgmhdmhnedljcaa.Rhy

/-
  Helpers of the claims beside this text: CountBeats and HasBeat of the model and of the program.
-/
namespace Go.Proofs.Ytgmhdmhnedljcaa.Rhy
open Go.RowKit
set_option linter.unusedVariables false

open Classical in
noncomputable def okB (s : Int) (zs : List Int) : Bool := decide (Ok s zs)
theorem okB_yes {s : Int} {zs : List Int} (h : Ok s zs) : okB s zs = true := by simp [okB, h]
theorem okB_no {s : Int} {zs : List Int} (h : ¬ Ok s zs) : okB s zs = false := by simp [okB, h]

open Classical in
noncomputable def countB (s : Int) (zs : List Int) : Int := if Ok s zs then zs.length else -1
theorem countB_yes {s : Int} {zs : List Int} (h : Ok s zs) : countB s zs = zs.length := by simp [countB, h]
theorem countB_no {s : Int} {zs : List Int} (h : ¬ Ok s zs) : countB s zs = -1 := by simp [countB, h]



noncomputable def beatB (s : Int) (zs : List Int) (k : Int) : Bool := okB s zs && hasB zs (remB k s)
theorem beatB_yes {s : Int} {zs : List Int} {k : Int} (h : Ok s zs) : beatB s zs k = hasB zs (remB k s) := by simp [beatB, okB_yes h]
theorem beatB_no {s : Int} {zs : List Int} {k : Int} (h : ¬ Ok s zs) : beatB s zs k = false := by simp [beatB, okB_no h]



end Go.Proofs.Ytgmhdmhnedljcaa.Rhy
