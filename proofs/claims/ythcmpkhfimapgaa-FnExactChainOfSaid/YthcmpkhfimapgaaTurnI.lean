/-
  Helpers of the claims beside this text: the program's TurnSteps.
-/
import Derived.Test.YthcmpkhfimapgaaStp3
import Derived.Test.YthcmpkhfimapgaaRot
import Derived.Deep.RegionWith
namespace Go.Proofs.Ythcmpkhfimapgaa.Rhy
open Go.RowKit
set_option linter.unusedVariables false

theorem steps_at {s : Int} {zs : List Int} {k : Nat} (h : k < zs.length) : (stepsZ s zs)[k]? = some (stepAt s zs k) := by simp [stepsZ, stepsP, h]
theorem steps_len (s : Int) (zs : List Int) : (stepsZ s zs).length = zs.length := stepsP_len _ _ _
theorem rev_sum {s : Int} {zs : List Int} : ∀ j, j + 1 ≤ zs.length → ((stepsZ s zs).reverse.take (j + 1)).sum = zs[0]?.getD 0 + s - zs[zs.length - 1 - j]?.getD 0 := by
  intro j
  induction j with
  | zero =>
    intro h
    have e : (stepsZ s zs).reverse[0]? = some (stepAt s zs (zs.length - 1)) := by
      rw [List.getElem?_reverse (by rw [steps_len]; omega), steps_len]
      exact steps_at (by omega)
    rw [sum_snoc e]
    have : zs[zs.length - 1 + 1]? = none := List.getElem?_eq_none (by omega)
    simp [stepAt, this]
  | succ j ih =>
    intro h
    have e : (stepsZ s zs).reverse[j + 1]? = some (stepAt s zs (zs.length - 1 - (j + 1))) := by
      rw [List.getElem?_reverse (by rw [steps_len]; omega), steps_len]
      exact steps_at (by omega)
    rw [sum_snoc e, ih (by omega)]
    have e2 : zs.length - 1 - (j + 1) + 1 = zs.length - 1 - j := by omega
    have e3 := List.getElem?_eq_getElem (show zs.length - 1 - j < zs.length by omega)
    unfold stepAt
    rw [e2, e3]
    simp
    omega

theorem rem_s (a s : Int) : remB (a + s) s = remB a s := by unfold remB; simp
theorem turn_set {s : Int} {zs : List Int} (ho : Ok s zs) (h0 : 0 < zs.length) : ofZ s.toNat (turnZ s zs) = ofZ s.toNat (mapL s zs (-1) (2 * zs[0]?.getD 0)) := by
  refine ofZ_congr fun x => ?_
  have hm : ∀ j, j < zs.length → ∃ i, i < zs.length ∧ remB (zs[0]?.getD 0 + (((stepsZ s zs).reverse.take j).sum)) s = remB (-1 * (zs[i]?.getD 0) + 2 * zs[0]?.getD 0) s ∧ (j = 0 → i = 0) ∧ (0 < j → i = zs.length - j) := by
    intro j hj
    cases j with
    | zero => exact ⟨0, h0, by congr 1; simp; omega, fun _ => rfl, fun q => absurd q (by omega)⟩
    | succ j =>
      refine ⟨zs.length - 1 - j, by omega, ?_, fun q => by omega, fun _ => by omega⟩
      rw [rev_sum j (by omega)]
      rw [← rem_s (-1 * (zs[zs.length - 1 - j]?.getD 0) + 2 * zs[0]?.getD 0) s]
      congr 1
      omega
  unfold turnZ turnL mapL
  rw [stB_yes ho, steps_len, List.mem_map, List.mem_map]
  constructor
  · rintro ⟨j, hj, rfl⟩
    rw [List.mem_range] at hj
    obtain ⟨i, hi, he, _⟩ := hm j hj
    exact ⟨zs[i]?.getD 0, by rw [List.getElem?_eq_getElem hi]; exact List.getElem_mem hi, he.symm⟩
  · rintro ⟨y, hy, rfl⟩
    obtain ⟨i, hi, rfl⟩ := List.getElem_of_mem hy
    by_cases h : i = 0
    · subst h
      obtain ⟨i, hi, he, h1, _⟩ := hm 0 h0
      rw [h1 rfl, List.getElem?_eq_getElem h0] at he
      exact ⟨0, by rw [List.mem_range]; exact h0, by rw [List.getElem?_eq_getElem h0]; exact he⟩
    · obtain ⟨i', hi', he, _, h1⟩ := hm (zs.length - i) (by omega)
      have e : i' = i := by have := h1 (by omega); omega
      rw [e, List.getElem?_eq_getElem hi] at he
      exact ⟨zs.length - i, by rw [List.mem_range]; omega, he⟩


end Go.Proofs.Ythcmpkhfimapgaa.Rhy
