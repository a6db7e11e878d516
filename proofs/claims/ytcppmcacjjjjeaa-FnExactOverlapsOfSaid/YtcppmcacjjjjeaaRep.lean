/-
  Helpers of the claims beside this text: RepeatRhythm of the model and of the program.
-/
import Derived.Test.YtcppmcacjjjjeaaGcd
namespace Go.Proofs.Ytcppmcacjjjjeaa.Rhy
open Go.RowKit
set_option linter.unusedVariables false

def barL (s : Int) (zs : List Int) (b : Nat) : List Int := zs.map fun p => (b : Int) * s + p
def repL (s : Int) (zs : List Int) (n : Nat) : List Int := (List.range n).flatMap (barL s zs)
def repP (s : Int) (zs : List Int) (b j : Nat) : List Int := repL s zs b ++ barL s (zs.take j) b
theorem repP_zero (s : Int) (zs : List Int) (b : Nat) : repP s zs b 0 = repL s zs b := by simp [repP, barL]
theorem repL_zero (s : Int) (zs : List Int) : repL s zs 0 = [] := rfl
theorem repP_all (s : Int) (zs : List Int) (b j : Nat) (h : zs.length ≤ j) : repP s zs b j = repL s zs (b + 1) := by
  unfold repP repL
  rw [List.take_of_length_le h, List.range_succ, List.flatMap_append]
  simp
theorem repP_snoc {s : Int} {zs : List Int} {b j : Nat} {z : Int} (h : zs[j]? = some z) : repP s zs b (j + 1) = repP s zs b j ++ [(b : Int) * s + z] := by
  unfold repP barL
  rw [List.take_add_one, h]
  simp
theorem repL_len (s : Int) (zs : List Int) (n : Nat) : (repL s zs n).length = n * zs.length := by
  induction n with
  | zero => simp [repL]
  | succ n ih =>
    rw [← repP_all s zs n zs.length (Nat.le_refl _)]
    unfold repP
    rw [List.length_append, ih, List.take_length]
    simp [barL, Nat.succ_mul]
theorem repP_len (s : Int) (zs : List Int) (b j : Nat) : (repP s zs b j).length ≤ (b + 1) * zs.length := by
  unfold repP
  rw [List.length_append, repL_len, Nat.succ_mul]
  simp [barL]
  omega
theorem len_bd {b n : Nat} (h1 : b ≤ 24) (h2 : n ≤ 24) : (b + 1) * n ≤ 600 := Nat.le_trans (Nat.mul_le_mul (show b + 1 ≤ 25 by omega) h2) (by omega)
theorem bs_bd {b : Nat} {s : Int} (h1 : b ≤ 24) (h2 : 0 ≤ s) (h3 : s ≤ 24) : 0 ≤ (b : Int) * s ∧ (b : Int) * s ≤ 576 := by
  refine ⟨Int.mul_nonneg (by omega) h2, ?_⟩
  have := Int.mul_le_mul (show (b : Int) ≤ 24 by omega) h3 h2 (by omega)
  omega
theorem repL_int {s : Int} {zs : List Int} {n : Nat} (ho : Ok s zs) (hn : n ≤ 24) : AllInt (repL s zs n) := by
  intro z hz
  unfold repL barL at hz
  rw [List.mem_flatMap] at hz
  obtain ⟨b, hb, hz⟩ := hz
  rw [List.mem_map] at hz
  obtain ⟨p, hp, rfl⟩ := hz
  rw [List.mem_range] at hb
  have h1 := ok_range ho p hp
  have h2 := ho.1
  have h3 := bs_bd (b := b) (s := s) (by omega) (by omega) h2.2
  omega

/-- A box that holds a number and a list of the call's own: block number 'w1.heap.size'. -/
def LstAt (sz : Int) (l : List Int) (w1 wr : World) : Prop :=
  ∃ av cv, Box wr w1.heap.size (.int .i64 sz) (.slice av l.length cv) 25 ∧ wr.ownsRow (w1.heap.size + 1) 3 1 (.slice av l.length cv) l.length (ints l) ∧ Below w1.heap.size w1 wr ∧ w1.heap.size + 1 ≤ wr.heap.size
theorem lst_start (sz : Int) (w1 : World) : LstAt sz [] w1 (w1.alloc (.cells #[.int .i64 sz, .slice none 0 0] 25)) :=
  ⟨none, 0, box_new w1 _ _ _, World.ownsRow_nil _ _ _ _, bel1 w1 _, by simp⟩
theorem lst_snoc {sz t : Int} {l : List Int} {w1 wr w2 : World} {a' : Option Addr} {c' : Nat} {v : Value} (hB : Box wr w1.heap.size (.int .i64 sz) v 25) (hX : Below w1.heap.size w1 wr) (hZ : w1.heap.size + 1 ≤ wr.heap.size)
    (hO : w2.ownsRow (w1.heap.size + 1) 3 1 (.slice a' (l ++ [t]).length c') (l ++ [t]).length (ints (l ++ [t]))) (hb : Below (w1.heap.size + 1) wr w2) :
    LstAt sz (l ++ [t]) w1 (w2.setCell ⟨w1.heap.size, 1, none⟩ (.slice a' (l ++ [t]).length c')) :=
  ⟨a', c', (hB.keep hb (by omega)).set1 _, ownsRow_setCell_below hO (by show w1.heap.size < w1.heap.size + 1; omega) _, (hX.trans (hb.mono (by omega))).setCell (by show w1.heap.size ≤ w1.heap.size; omega) _, by have := hb.size; simp; omega⟩




end Go.Proofs.Ytcppmcacjjjjeaa.Rhy
