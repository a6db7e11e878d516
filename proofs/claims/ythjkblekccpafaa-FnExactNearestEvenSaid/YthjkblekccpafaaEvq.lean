/-
  Helpers of the claims beside this text: plain mathematics: the nearest even rhythm is the first rotation with the most common beats.
-/
import Derived.Test.YthjkblekccpafaaEvr
import Derived.Test.YthjkblekccpafaaEvm
namespace Go.Proofs.Ythjkblekccpafaa.Rhy
set_option linter.unusedVariables false

/-! the nearest one: the first rotation with the most common beats -/
theorem nrP_first {n : Nat} {E zs : List Int} (hE : Ok n E) : ∀ j, ∃ i : Nat, i ≤ j ∧ nrP n E zs j = rotZ n E 1 (i : Int) ∧ (∀ q : Nat, q ≤ j → comZ (rotZ n E 1 (q : Int)) zs ≤ comZ (rotZ n E 1 (i : Int)) zs) ∧ ∀ q : Nat, q < i → comZ (rotZ n E 1 (q : Int)) zs < comZ (rotZ n E 1 (i : Int)) zs := by
  intro j
  induction j with
  | zero =>
    refine ⟨0, Nat.le_refl _, (rot_zero hE).symm, fun q hq => ?_, fun q hq => absurd hq (by omega)⟩
    obtain rfl : q = 0 := by omega
    exact Nat.le_refl _
  | succ j ih =>
    obtain ⟨i, hi, he, hm, hl⟩ := ih
    simp only [nrP]
    rw [he]
    by_cases hc : comZ (rotZ n E 1 (i : Int)) zs < comZ (rotZ n E 1 ((j + 1 : Nat) : Int)) zs
    · rw [if_pos hc]
      refine ⟨j + 1, Nat.le_refl _, rfl, fun q hq => ?_, fun q hq => ?_⟩
      · by_cases e : q = j + 1
        · subst e; exact Nat.le_refl _
        · have := hm q (by omega); omega
      · have := hm q (by omega); omega
    · rw [if_neg hc]
      refine ⟨i, by omega, rfl, fun q hq => ?_, hl⟩
      by_cases e : q = j + 1
      · subst e; omega
      · exact hm q (by omega)
/-- Whatever number comes first among those with the most common beats is the nearest one's. -/
theorem nrZ_first {n : Nat} {zs : List Int} {k : Nat} (h : Ok n zs) (hE : Ok n (evZ zs.length n 0)) (hk : k < n) (hm : ∀ q : Nat, q < n → comZ zs (rotZ n (evZ zs.length n 0) 1 (q : Int)) ≤ comZ zs (rotZ n (evZ zs.length n 0) 1 (k : Int)))
    (hl : ∀ q : Nat, q < k → comZ zs (rotZ n (evZ zs.length n 0) 1 (q : Int)) < comZ zs (rotZ n (evZ zs.length n 0) 1 (k : Int))) : nrZ n zs = rotZ n (evZ zs.length n 0) 1 (k : Int) := by
  obtain ⟨i, hi, he, hm2, hl2⟩ := nrP_first (zs := zs) hE (n - 1)
  have hc : ∀ q : Nat, comZ (rotZ n (evZ zs.length n 0) 1 (q : Int)) zs = comZ zs (rotZ n (evZ zs.length n 0) 1 (q : Int)) := fun q => com_comm (rot_ok hE.1 _ _) h
  unfold nrZ
  rw [he]
  have e : i = k := by
    rcases Nat.lt_trichotomy i k with q | q | q
    · have h1 := hl i q
      have h2 := hm2 k (by omega)
      rw [hc, hc] at h2
      omega
    · exact q
    · have h1 := hl2 k q
      rw [hc, hc] at h1
      have h2 := hm i (by omega)
      omega
  rw [e]
end Go.Proofs.Ythjkblekccpafaa.Rhy
