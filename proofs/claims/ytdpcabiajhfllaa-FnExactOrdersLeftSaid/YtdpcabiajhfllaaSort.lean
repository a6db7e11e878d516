/-
  Helpers of the claims beside this text: the library's sort at a slice of the call's own; the program's moved beats.
-/
import Derived.Test.YtdpcabiajhfllaaOf
import Derived.Sort.OwnSortedInts
import Derived.Lib.OwnBridge
namespace Go.Proofs.Ytdpcabiajhfllaa.Rhy
open Go.RowKit
set_option linter.unusedVariables false

def sortZ (l : List Int) : List Int := l.mergeSort fun x y => decide (x ≤ y)
theorem sortZ_len (l : List Int) : (sortZ l).length = l.length := List.length_mergeSort l


theorem map_step (s : Int) (zs : List Int) (u k : Int) (n j : Nat) (z : Int) (hn : zs.length = n) (hs : zs[j]? = some z) :
    (ints (mapL s (zs.take j) u k) ++ List.replicate (n - j) (Value.int .i64 0)).set j (.int .i64 (remB (u * z + k) s)) = ints (mapL s (zs.take (j + 1)) u k) ++ List.replicate (n - (j + 1)) (Value.int .i64 0) := by
  have hk : j < zs.length := by
    rcases Nat.lt_or_ge j zs.length with h | h
    · exact h
    · rw [List.getElem?_eq_none h] at hs; cases hs
  have e : n - j = (n - (j + 1)) + 1 := by omega
  rw [e, List.replicate_succ, mapL_snoc hs]
  have h := set_mid (ints (mapL s (zs.take j) u k)) (List.replicate (n - (j + 1)) (Value.int .i64 0)) (.int .i64 0) (.int .i64 (remB (u * z + k) s))
  rw [show (ints (mapL s (zs.take j) u k)).length = j by simp [ints, mapL]; omega] at h
  rw [h]
  simp [ints]

def MovAt (g len j : Nat) (s : Int) (a : Option Addr) (cap : Nat) (zs : List Int) (u k : Int) (w wr : World) : Prop :=
  Box wr g (.int .i64 s) (.slice a len cap) 29 ∧ Box wr (g + 1) (.int .i64 0) (.slice none 0 0) 29 ∧
    wr.ownsRow (g + 2) 3 1 (.slice (some ⟨g + 1 + 1, 0, none⟩) len len) len (ints (mapL s (zs.take j) u k) ++ List.replicate (len - j) (Value.int .i64 0)) ∧ Below g w wr ∧ g + 2 ≤ wr.heap.size


end Go.Proofs.Ytdpcabiajhfllaa.Rhy
