/-
  Helpers of the claims beside this text: the program's generators: hasGenerator, GeneratorsOf, IsGenerated, ChainOf.
-/
import Derived.Test.YtpbceckbmalabaaGpl
import Derived.Test.YtpbceckbmalabaaGnm
namespace Go.Proofs.Ytpbceckbmalabaa.Rhy
open Go.RowKit
set_option linter.unusedVariables false
set_option linter.unusedSimpArgs false

/-- A slice of q elements, whichever. -/
def SlPost (q : Nat) (w : World) (e : Ending) (w' : World) : Prop := (∃ a c, e = .returned (.slice a q c)) ∧ Below w.heap.size w w'
def ChQ (n : Int) (zs : List Int) (g : Int) (q : Nat) : Prop := (0 < zs.length → ChM n zs (chF n zs g) g q) ∧ (zs.length = 0 → q = 0)
theorem chQ_ex {n : Int} {zs : List Int} (ho : Ok n zs) (g : Int) : ∃ q, ChQ n zs g q := by
  rcases Nat.eq_zero_or_pos zs.length with q | q
  · exact ⟨0, fun h => absurd h (by omega), fun _ => rfl⟩
  · obtain ⟨m, hm⟩ := chM_ex ho (chF_in (n := n) (zs := zs) g q) g
    exact ⟨m, fun _ => hm, fun h => absurd h (by omega)⟩
theorem chQ_iff {n g : Nat} {zs : List Int} {q : Nat} (ho : Ok n zs) (hg : 1 ≤ g ∧ g < n) (h : ChQ n zs g q) : hasB (gnB n zs) g = true ↔ q = zs.length := by
  rw [gn_iff ho hg]
  rcases Nat.eq_zero_or_pos zs.length with e | e
  · have e2 : zs = [] := List.eq_nil_of_length_eq_zero e
    have h1 := h.2 e
    have h2 := ho.1
    subst e2
    exact ⟨fun _ => h1, fun _ => gnQ_none (by omega) hg⟩
  · exact ⟨fun hq => gnQ_len ho hg e (h.1 e) hq, fun hq => gnQ_all ho hg e (h.1 e) hq⟩


theorem gnP_zero (n : Int) (zs : List Int) : gnP n zs 0 = [] := by simp [gnP]
theorem gnP_has {n g : Nat} {zs : List Int} (ho : Ok n zs) (hg : g < n) (h : hasB (gnB n zs) g = true) : gnP n zs (g + 1) = gnP n zs g ++ [(g : Int)] := by
  have h1 := (gnB_in h).2.1
  exact gnP_yes (by omega) ((gn_iff ho ⟨by omega, hg⟩).1 h)
theorem gnP_not {n g : Nat} {zs : List Int} (ho : Ok n zs) (hg : g < n) (h : hasB (gnB n zs) g = false) : gnP n zs (g + 1) = gnP n zs g := by
  rcases Nat.eq_zero_or_pos g with e | e
  · subst e; rw [gnP_one, gnP_zero]
  · refine gnP_no fun q => ?_
    rw [(gn_iff ho ⟨by omega, hg⟩).2 q] at h
    cases h





end Go.Proofs.Ytpbceckbmalabaa.Rhy
