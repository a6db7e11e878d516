/-
  Helpers of the claims beside this text: SpreadOf, MostSpread of the model.
-/
import Derived.Test.YthcmpkhfimapgaaEvn
namespace Go.Proofs.Ythcmpkhfimapgaa.Rhy
open Go.RowKit
set_option linter.unusedVariables false
set_option linter.unusedSimpArgs false

/-- The sum over the pairs of a beat p and the beats of l. -/
def sprR (s p : Int) (l : List Int) : Int := (l.map fun q => (p - q) * (s - p + q)).sum
def sprP (s : Int) (zs : List Int) (j : Nat) : Int := ((List.range j).map fun i => sprR s (zs[i]?.getD 0) (zs.take i)).sum
open Classical in
noncomputable def sprB (s : Int) (zs : List Int) : Int := if Ok s zs then sprP s zs zs.length else -1
theorem sprB_yes {s : Int} {zs : List Int} (h : Ok s zs) : sprB s zs = sprP s zs zs.length := if_pos h
theorem sprB_no {s : Int} {zs : List Int} (h : ¬ Ok s zs) : sprB s zs = -1 := if_neg h
theorem sprR_snoc {s p q : Int} {l : List Int} {k : Nat} (h : l[k]? = some q) : sprR s p (l.take (k + 1)) = sprR s p (l.take k) + (p - q) * (s - p + q) := by
  unfold sprR
  rw [List.take_add_one, h]
  simp
theorem sprP_snoc {s : Int} {zs : List Int} {j : Nat} {p : Int} (h : zs[j]? = some p) : sprP s zs (j + 1) = sprP s zs j + sprR s p (zs.take j) := by
  unfold sprP
  rw [List.range_succ, List.map_append, List.sum_append]
  simp [h]
theorem spr_term {s p q : Int} (hs : 1 ≤ s ∧ s ≤ 24) (hp : 0 ≤ p ∧ p < s) (hq : 0 ≤ q ∧ q < s) : -1200 ≤ (p - q) * (s - p + q) ∧ (p - q) * (s - p + q) ≤ 1200 := by
  have h : ((p - q) * (s - p + q)).natAbs ≤ 24 * 48 := by
    rw [Int.natAbs_mul]
    exact Nat.mul_le_mul (by omega) (by omega)
  omega
theorem sprR_bd {s p : Int} (hs : 1 ≤ s ∧ s ≤ 24) (hp : 0 ≤ p ∧ p < s) : ∀ l : List Int, (∀ q ∈ l, 0 ≤ q ∧ q < s) → -1200 * (l.length : Int) ≤ sprR s p l ∧ sprR s p l ≤ 1200 * (l.length : Int) := by
  intro l
  induction l with
  | nil => intro _; simp [sprR]
  | cons q l ih =>
    intro h
    have h1 := ih (fun x hx => h x (List.mem_cons_of_mem _ hx))
    have h2 := spr_term hs hp (h q (by simp))
    have e : sprR s p (q :: l) = (p - q) * (s - p + q) + sprR s p l := by simp [sprR]
    rw [e]
    simp only [List.length_cons]
    omega
theorem take_mem {l : List Int} {k : Nat} {x : Int} (h : x ∈ l.take k) : x ∈ l := List.mem_of_mem_take h
theorem ok_beat {s : Int} {zs : List Int} (h : Ok s zs) : ∀ q ∈ zs, 0 ≤ q ∧ q < s := fun q hq => ok_range h q hq
theorem sprR_at {s p : Int} {zs : List Int} (h : Ok s zs) (hp : 0 ≤ p ∧ p < s) (k : Nat) : -30000 ≤ sprR s p (zs.take k) ∧ sprR s p (zs.take k) ≤ 30000 := by
  have h1 := sprR_bd (by have := h.1; omega) hp (zs.take k) (fun q hq => ok_beat h q (take_mem hq))
  have h2 : (zs.take k).length ≤ 24 := Nat.le_trans (List.length_take_le' _ _) (ok_len h)
  omega
theorem sprP_bd {s : Int} {zs : List Int} (h : Ok s zs) : ∀ j, j ≤ zs.length → -30000 * (j : Int) ≤ sprP s zs j ∧ sprP s zs j ≤ 30000 * (j : Int) := by
  intro j
  induction j with
  | zero => intro _; simp [sprP]
  | succ j ih =>
    intro hj
    have e := List.getElem?_eq_getElem (show j < zs.length by omega)
    have h1 := ih (by omega)
    have h2 := sprR_at h (ok_beat h _ (List.getElem_mem (show j < zs.length by omega))) j
    rw [sprP_snoc e]
    omega


/-! the greatest spread -/
theorem evZ_int {k n m : Int} (h : EvC k n) : AllInt (evZ k n m) := ofZ_int (by have := h.2.1; omega)
open Classical in
noncomputable def mostB (k n : Int) : Int := if EvC k n then sprB n (evZ k n 0) else -1

end Go.Proofs.Ythcmpkhfimapgaa.Rhy
