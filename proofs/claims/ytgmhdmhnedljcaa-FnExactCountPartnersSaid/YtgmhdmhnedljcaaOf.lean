/-
  Helpers of the claims beside this text: the model's rhythm of some pulses, and its map of a rhythm.
-/
import Derived.Test.YtgmhdmhnedljcaaApp
import Derived.Test.YtgmhdmhnedljcaaHas
import Derived.Test.YtgmhdmhnedljcaaMath
namespace Go.Proofs.Ytgmhdmhnedljcaa.Rhy
open Go.RowKit
set_option linter.unusedVariables false

theorem hasB_def (l : List Int) (x : Int) : hasB l x = l.contains x := rfl

def OfAt (g n k : Nat) (l : List Int) (w wr : World) : Prop :=
  ∃ av cv, Box wr g (.int .i64 0) (.slice none 0 0) 28 ∧ Box wr (g + 1) (.int .i64 n) (.slice av (ofZ k l).length cv) 28 ∧
    wr.ownsRow (g + 2) 3 1 (.slice av (ofZ k l).length cv) (ofZ k l).length (ints (ofZ k l)) ∧ Below g w wr ∧ g + 2 ≤ wr.heap.size



/-- The remainders of u * p + k of the beats p. -/
def mapL (s : Int) (zs : List Int) (u k : Int) : List Int := zs.map fun p => remB (u * p + k) s
theorem mapL_len (s : Int) (zs : List Int) (u k : Int) : (mapL s zs u k).length = zs.length := by simp [mapL]
theorem mapL_snoc {s : Int} {zs : List Int} {u k : Int} {j : Nat} {z : Int} (h : zs[j]? = some z) : mapL s (zs.take (j + 1)) u k = mapL s (zs.take j) u k ++ [remB (u * z + k) s] := by
  unfold mapL
  rw [List.take_add_one, h]
  simp
theorem mul_bd {u z : Int} (h1 : -1000 ≤ u) (h2 : u ≤ 1000) (h3 : 0 ≤ z) (h4 : z < 24) : -24000 ≤ u * z ∧ u * z ≤ 24000 := by
  have a1 : u * z ≤ 1000 * z := Int.mul_le_mul_of_nonneg_right h2 h3
  have a2 : -1000 * z ≤ u * z := Int.mul_le_mul_of_nonneg_right h1 h3
  omega

def MapAt (g len j : Nat) (s : Int) (a : Option Addr) (cap : Nat) (zs : List Int) (u k : Int) (v : Value) (w wr : World) : Prop :=
  ∃ av cv, v = .slice av (mapL s (zs.take j) u k).length cv ∧ Box wr g (.int .i64 s) (.slice a len cap) 28 ∧ Box wr (g + 1) (.int .i64 0) (.slice none 0 0) 28 ∧
    wr.ownsRow (g + 2) 3 1 (.slice av (mapL s (zs.take j) u k).length cv) (mapL s (zs.take j) u k).length (ints (mapL s (zs.take j) u k)) ∧ Below g w wr ∧ g + 2 ≤ wr.heap.size

theorem ok_at {s : Int} {zs : List Int} (h : Ok s zs) {j : Nat} {z : Int} (hz : zs[j]? = some z) : 0 ≤ z ∧ z < s := by
  have hj : j < zs.length := by
    rcases Nat.lt_or_ge j zs.length with h' | h'
    · exact h'
    · rw [List.getElem?_eq_none h'] at hz; cases hz
  have := h.2 j hj z hz
  exact ⟨this.1, this.2.1⟩
theorem remB_int {k n : Int} (h1 : 1 ≤ n) (h2 : n ≤ 1000) : -9223372036854775808 ≤ remB k n ∧ remB k n ≤ 9223372036854775807 := by
  have := remB_bd k n (by omega)
  omega
theorem mapL_int {s : Int} {zs : List Int} {u k : Int} (h1 : 1 ≤ s) (h2 : s ≤ 1000) : AllInt (mapL s zs u k) := by
  intro z hz
  unfold mapL at hz
  rw [List.mem_map] at hz
  obtain ⟨p, _, rfl⟩ := hz
  exact remB_int h1 h2


end Go.Proofs.Ytgmhdmhnedljcaa.Rhy
