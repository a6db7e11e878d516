/-
  Helpers of the claims beside this text: IsEven of the model.
-/
import Derived.Test.YthcmpkhfimapgaaEvn
import Derived.Test.YthcmpkhfimapgaaStp6
namespace Go.Proofs.Ythcmpkhfimapgaa.Rhy
open Go.RowKit
set_option linter.unusedVariables false
set_option linter.unusedSimpArgs false

/-- The last number of a list without the first one. -/
def evnD (l : List Int) : Int := l[l.length - 1]?.getD 0 - l[0]?.getD 0
def evnK (s : Int) (zs : List Int) (k : Nat) : Prop := evnD (spansB s zs k) ≤ 1
def evnC (s : Int) (zs : List Int) : Prop := Ok s zs ∧ ∀ k : Nat, 1 ≤ k → k < zs.length → evnK s zs k
noncomputable def evnB (s : Int) (zs : List Int) : Bool := @decide (evnC s zs) (Classical.propDecidable _)
theorem evnB_yes {s : Int} {zs : List Int} (h : evnC s zs) : evnB s zs = true := by simp [evnB, h]
theorem evnB_no {s : Int} {zs : List Int} (h : ¬ evnC s zs) : evnB s zs = false := by simp [evnB, h]
theorem stB_length {s : Int} {zs : List Int} (h : Ok s zs) : (stB s zs).length = zs.length := by rw [stB_yes h]; exact stepsP_len _ _ _
theorem spansB_eq {s : Int} {zs : List Int} {k : Nat} (h : Ok s zs) (h0 : 0 < zs.length) (hk : k ≤ zs.length) : spansB s zs k = ofZ 577 (spansL (stB s zs) k zs.length) := by
  unfold spansB
  rw [stB_length h, cZ_yes ⟨h0, by omega, by omega⟩]
  rfl
theorem spansB_bd {s : Int} {zs : List Int} {k : Nat} (h : Ok s zs) (h0 : 0 < zs.length) (hk : k ≤ zs.length) : ∀ x ∈ spansB s zs k, 0 ≤ x ∧ x < 577 := by
  intro x hx
  rw [spansB_eq h h0 hk] at hx
  have := (ofZ_mem.1 hx).1
  omega
theorem spansB_ne {s : Int} {zs : List Int} {k : Nat} (h : Ok s zs) (h0 : 0 < zs.length) (hk : k ≤ zs.length) : 0 < (spansB s zs k).length := by
  rw [spansB_eq h h0 hk]
  have hm : spanL (stB s zs) 0 k ∈ spansL (stB s zs) k zs.length := List.mem_map.2 ⟨0, List.mem_range.2 h0, rfl⟩
  have hb := spansL_bd (stB_bd s zs) (k := k) (n := zs.length) (by have := ok_len h; omega) _ hm
  exact List.length_pos_of_mem (ofZ_mem.2 ⟨by omega, hm⟩)
theorem spansB_len {s : Int} {zs : List Int} {k : Nat} (h : Ok s zs) (h0 : 0 < zs.length) (hk : k ≤ zs.length) : (spansB s zs k).length ≤ 577 := by
  rw [spansB_eq h h0 hk]; exact ofZ_len _ _


end Go.Proofs.Ythcmpkhfimapgaa.Rhy
