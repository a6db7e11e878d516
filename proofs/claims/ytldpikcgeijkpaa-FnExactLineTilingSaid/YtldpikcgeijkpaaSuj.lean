/-
  Helpers of the claims beside this text: StretchTiling of both sides.
-/
import Derived.Test.YtldpikcgeijkpaaSuh
namespace Go.Proofs.Ytldpikcgeijkpaa.Rhy
open Go.RowKit
set_option linter.unusedVariables false
set_option linter.unusedSimpArgs false

/-- For each number p: k p, and what follows it, r in all. -/
def widQ (k : Nat) (p : Int) (i : Nat) : List Int := (List.range i).map fun j => (k : Int) * p + ((j : Nat) : Int)
def widL (k r : Nat) (xs : List Int) : List Int := xs.flatMap fun p => widQ k p r
def widP (k r : Nat) (xs : List Int) (j : Nat) (z : Int) (i : Nat) : List Int := widL k r (xs.take j) ++ widQ k z i
theorem widP_zero (k r : Nat) (xs : List Int) (j : Nat) (z : Int) : widP k r xs j z 0 = widL k r (xs.take j) := by simp [widP, widQ]
theorem widP_snoc (k r : Nat) (xs : List Int) (j : Nat) (z : Int) (i : Nat) : widP k r xs j z (i + 1) = widP k r xs j z i ++ [(k : Int) * z + (i : Int)] := by
  unfold widP widQ
  rw [List.range_succ, List.map_append, List.append_assoc]
  rfl
theorem widP_all {k r : Nat} {xs : List Int} {j : Nat} {z : Int} (h : xs[j]? = some z) : widP k r xs j z r = widL k r (xs.take (j + 1)) := by
  unfold widP widL
  rw [List.take_add_one, h, List.flatMap_append]
  simp
theorem widL_len (k r : Nat) (xs : List Int) : (widL k r xs).length = xs.length * r := by
  unfold widL
  induction xs with
  | nil => simp
  | cons a xs ih => rw [List.flatMap_cons, List.length_append, ih, List.length_cons, Nat.add_mul]; simp [widQ]; omega
theorem widP_len {k r : Nat} {xs : List Int} {j : Nat} {z : Int} {i : Nat} (hi : i ≤ r) : (widP k r xs j z i).length ≤ (j + 1) * r := by
  unfold widP
  rw [List.length_append, widL_len]
  have h1 : (widQ k z i).length = i := by simp [widQ]
  have h2 : (xs.take j).length * r ≤ j * r := Nat.mul_le_mul_right _ (by simp; omega)
  rw [h1, Nat.add_mul]
  omega
def mulL (k : Nat) (xs : List Int) : List Int := xs.map fun p => (k : Int) * p
theorem widL_one (k : Nat) (xs : List Int) : widL k 1 xs = mulL k xs := by
  unfold widL mulL widQ
  induction xs with
  | nil => rfl
  | cons a xs ih => rw [List.flatMap_cons, ih]; simp [List.range_succ]
theorem mulL_snoc {k : Nat} {xs : List Int} {j : Nat} {z : Int} (h : xs[j]? = some z) : mulL k (xs.take (j + 1)) = mulL k (xs.take j) ++ [(k : Int) * z] := by
  unfold mulL
  rw [List.take_add_one, h, List.map_append]
  rfl
theorem kz_bd {k n : Nat} {z : Int} (hk : 1 ≤ k) (h : k * n ≤ 24) (h0 : 0 ≤ z) (h1 : z < n) : 0 ≤ (k : Int) * z ∧ (k : Int) * z + k ≤ 24 := by
  have e : (k : Int) * z + k = k * (z + 1) := by rw [Int.mul_add]; omega
  have h2 : (k : Int) * (z + 1) ≤ k * n := Int.mul_le_mul_of_nonneg_left (by omega) (by omega)
  have h3 : ((k * n : Nat) : Int) = (k : Int) * n := by simp
  have h4 := Int.mul_nonneg (show (0 : Int) ≤ k by omega) h0
  omega
theorem kn_bd {k n : Nat} (hn : 1 ≤ n) (h : k * n ≤ 24) : k ≤ 24 := Nat.le_trans (Nat.le_mul_of_pos_right k hn) h
theorem wid_int {n k r : Nat} {xs : List Int} (ho : Ok n xs) (hk : 1 ≤ k) (h : k * n ≤ 24) (hr : r ≤ k) : AllInt (widL k r xs) := by
  intro z hz
  unfold widL widQ at hz
  obtain ⟨p, hp, hz⟩ := List.mem_flatMap.1 hz
  obtain ⟨i, hi, rfl⟩ := List.mem_map.1 hz
  have hb := ok_range ho p hp
  have := kz_bd hk h hb.1 hb.2
  have := List.mem_range.1 hi
  omega
theorem wid_few {n k r : Nat} {xs : List Int} (ho : Ok n xs) (hk : 1 ≤ k) (h : k * n ≤ 24) (hr : r ≤ k) : (widL k r xs).length ≤ 576 := by
  rw [widL_len]
  have h1 := ok_len ho
  have h2 := kn_bd (n := n) (by have := ho.1; omega) h
  exact Nat.mul_le_mul h1 (show r ≤ 24 by omega)


end Go.Proofs.Ytldpikcgeijkpaa.Rhy
