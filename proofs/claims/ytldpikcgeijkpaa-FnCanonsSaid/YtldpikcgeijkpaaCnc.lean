/-
  Helpers of the claims beside this text: canons: which voices play on a pulse; the model's l12At.
-/
import Derived.Test.YtldpikcgeijkpaaCna
import Derived.Test.YtldpikcgeijkpaaVec
import Derived.Deep.RegionHeld3
import Derived.IntWalk
namespace Go.Proofs.Ytldpikcgeijkpaa.Rhy
open Go.RowKit
set_option linter.unusedVariables false
set_option linter.unusedSimpArgs false

def plays (s : Int) (xs ys : List Int) (t : Int) (v : Nat) : Bool := hasB xs (remB (t - ys.getD v 0) s)
/-- The voices below k that play on a pulse. -/
def atK (s : Int) (xs ys : List Int) (t : Int) (k : Nat) : List Int := ((List.range k).filter (plays s xs ys t)).map (fun v : Nat => (v : Int))
def atL (s : Int) (xs ys : List Int) (t : Int) : List Int := atK s xs ys t ys.length
theorem atK_zero (s : Int) (xs ys : List Int) (t : Int) : atK s xs ys t 0 = [] := rfl
theorem atK_yes {s : Int} {xs ys : List Int} {t : Int} {k : Nat} (h : plays s xs ys t k = true) : atK s xs ys t (k + 1) = atK s xs ys t k ++ [(k : Int)] := by
  simp [atK, List.range_succ, h]
theorem atK_no {s : Int} {xs ys : List Int} {t : Int} {k : Nat} (h : plays s xs ys t k = false) : atK s xs ys t (k + 1) = atK s xs ys t k := by
  simp [atK, List.range_succ, h]
theorem atK_mem {s : Int} {xs ys : List Int} {t : Int} {k : Nat} {z : Int} (h : z ∈ atK s xs ys t k) : 0 ≤ z ∧ z < k := by
  simp [atK] at h
  obtain ⟨a, h1, rfl⟩ := h
  omega
theorem atK_len (s : Int) (xs ys : List Int) (t : Int) (k : Nat) : (atK s xs ys t k).length ≤ k := by
  simp only [atK, List.length_map]
  exact Nat.le_trans (List.length_filter_le _ _) (by simp)
theorem atK_int {s : Int} {xs ys : List Int} {t : Int} {k : Nat} (hk : k ≤ 1048576) : AllInt (atK s xs ys t k) := fun z hz => by
  have := atK_mem hz
  omega
theorem ok_len' {s : Int} {xs : List Int} (h : Ok s xs) : xs.length ≤ 24 := by
  have := ok_len h
  have := h.1
  omega


end Go.Proofs.Ytldpikcgeijkpaa.Rhy

/-
  Helpers of the claims beside this text: canons: VoicesAt, LineOf and CountClashes of the model.
-/
namespace Go.Proofs.Ytldpikcgeijkpaa.Rhy
open Go.RowKit
set_option linter.unusedVariables false
set_option linter.unusedSimpArgs false

theorem ok_mem' {s : Int} {zs : List Int} (h : Ok s zs) : ∀ z ∈ zs, -1000 ≤ z ∧ z ≤ 1000 := fun z hz => by
  obtain ⟨j, hj⟩ := List.mem_iff_getElem?.1 hz
  have := ok_at h hj
  have := h.1
  omega
noncomputable def vatZ (s : Int) (xs : List Int) (t : Int) (ys : List Int) (p : Int) : List Int := cZ (CC s xs t ys ∧ -1000 ≤ p ∧ p ≤ 1000) (atL s xs ys p)
theorem atL_len {s : Int} {xs ys : List Int} {p : Int} : (atL s xs ys p).length ≤ ys.length := atK_len _ _ _ _ _
theorem cc_len {s t : Int} {xs ys : List Int} (h : CC s xs t ys) : xs.length ≤ 24 ∧ ys.length ≤ 24 := ⟨ok_len' h.1.1, ok_len' h.1.2.1⟩
theorem vatZ_int (s : Int) (xs : List Int) (t : Int) (ys : List Int) (p : Int) : AllInt (vatZ s xs t ys p) := by
  unfold vatZ
  by_cases h : CC s xs t ys ∧ -1000 ≤ p ∧ p ≤ 1000
  · rw [cZ_yes h]; exact atK_int (by have := (cc_len h.1).2; omega)
  · rw [cZ_no h]; intro z hz; cases hz
theorem vatZ_len (s : Int) (xs : List Int) (t : Int) (ys : List Int) (p : Int) : (vatZ s xs t ys p).length ≤ 24 :=
  cZ_len fun h => Nat.le_trans atL_len (cc_len h.1).2

/-- The number of a pulse in a line. -/
def lineN : List Int → Int
  | [] => -1
  | [v] => v
  | _ => -2
def linL (s : Int) (xs ys : List Int) (k : Nat) : List Int := (List.range k).map fun j : Nat => lineN (atL s xs ys j)
theorem linL_len (s : Int) (xs ys : List Int) (k : Nat) : (linL s xs ys k).length = k := by simp [linL]
theorem linL_snoc (s : Int) (xs ys : List Int) (k : Nat) : linL s xs ys (k + 1) = linL s xs ys k ++ [lineN (atL s xs ys k)] := by simp [linL, List.range_succ]
theorem lineN_two {l : List Int} (h : 2 ≤ l.length) : lineN l = -2 := by
  match l, h with
  | a :: b :: m, _ => rfl
theorem lineN_bd {l : List Int} {n : Int} (h : ∀ z ∈ l, 0 ≤ z ∧ z < n) (hn : 0 ≤ n) : -2 ≤ lineN l ∧ (lineN l < n ∨ lineN l < 0) := by
  match l, h with
  | [], _ => exact ⟨by decide, .inr (by decide)⟩
  | [v], h => have := h v (by simp); exact ⟨by show -2 ≤ v; omega, .inl this.2⟩
  | a :: b :: m, _ => exact ⟨Int.le_refl _, .inr (by show (-2 : Int) < 0; decide)⟩
theorem linL_mem {s : Int} {xs ys : List Int} {k : Nat} {z : Int} (h : z ∈ linL s xs ys k) : -2 ≤ z ∧ (z < ys.length ∨ z < 0) := by
  simp only [linL, List.mem_map] at h
  obtain ⟨j, _, rfl⟩ := h
  exact lineN_bd (n := ys.length) (fun z hz => atK_mem hz) (by omega)
theorem linL_int {s : Int} {xs ys : List Int} {k : Nat} (h : ys.length ≤ 1048576) : AllInt (linL s xs ys k) := fun z hz => by
  have := linL_mem hz
  omega
noncomputable def linZ (s : Int) (xs : List Int) (t : Int) (ys : List Int) : List Int := cZ (CC s xs t ys) (linL s xs ys s.toNat)
theorem linZ_int (s : Int) (xs : List Int) (t : Int) (ys : List Int) : AllInt (linZ s xs t ys) := by
  unfold linZ
  by_cases h : CC s xs t ys
  · rw [cZ_yes h]; exact linL_int (by have := (cc_len h).2; omega)
  · rw [cZ_no h]; intro z hz; cases hz
theorem linZ_len (s : Int) (xs : List Int) (t : Int) (ys : List Int) : (linZ s xs t ys).length ≤ 24 :=
  cZ_len fun h => by rw [linL_len]; have := h.1.1.1; omega
noncomputable def claN (s : Int) (xs : List Int) (t : Int) (ys : List Int) : Int := @ite _ (CC s xs t ys) (Classical.propDecidable _) (((linL s xs ys s.toNat).count (-2) : Nat) : Int) (-1)
theorem claN_yes {s t : Int} {xs ys : List Int} (h : CC s xs t ys) : claN s xs t ys = (((linL s xs ys s.toNat).count (-2) : Nat) : Int) := by simp [claN, h]
theorem claN_no {s t : Int} {xs ys : List Int} (h : ¬ CC s xs t ys) : claN s xs t ys = -1 := by simp [claN, h]



theorem count_snoc2 (l : List Int) (z : Int) : (l ++ [z]).count (-2) = l.count (-2) + (if z = -2 then 1 else 0) := by
  rw [List.count_append, List.count_singleton]
  by_cases h : z = -2
  · simp [h]
  · simp [h]
theorem count_take {l : List Int} {k : Nat} {z : Int} (h : l[k]? = some z) : (l.take (k + 1)).count (-2) = (l.take k).count (-2) + (if z = -2 then 1 else 0) := by
  rw [List.take_add_one, h]
  exact count_snoc2 _ _


end Go.Proofs.Ytldpikcgeijkpaa.Rhy
