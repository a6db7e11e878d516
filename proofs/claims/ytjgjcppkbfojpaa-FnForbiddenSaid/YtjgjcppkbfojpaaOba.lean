/-
  Helpers of the claims beside this text: forbidden intervals of the model: AvoidsInterval, HasOddity, MostAvoiding, OppositePairs, FreePulses.
-/
import Derived.Test.YtjgjcppkbfojpaaObn
import Derived.Test.YtjgjcppkbfojpaaGnm
namespace Go.Proofs.Ytjgjcppkbfojpaa.Rhy
open Go.RowKit
set_option linter.unusedVariables false
set_option linter.unusedSimpArgs false

noncomputable def avB (n : Int) (zs : List Int) (d : Int) : Bool := @decide (avC n zs d) (Classical.propDecidable _)
theorem avB_yes {n d : Int} {zs : List Int} (h : avC n zs d) : avB n zs d = true := by simp [avB, h]
theorem avB_no {n d : Int} {zs : List Int} (h : ¬ avC n zs d) : avB n zs d = false := by simp [avB, h]


/-! ### AvoidsInterval, HasOddity -/
def AvC (s d : Int) (zs : List Int) : Prop := Ok s zs ∧ (1 ≤ d ∧ d ≤ s - 1) ∧ avC s zs d
noncomputable def aviB (s : Int) (zs : List Int) (d : Int) : Bool := @decide (AvC s d zs) (Classical.propDecidable _)
theorem aviB_yes {s d : Int} {zs : List Int} (h : AvC s d zs) : aviB s zs d = true := by simp [aviB, h]
theorem aviB_no {s d : Int} {zs : List Int} (h : ¬ AvC s d zs) : aviB s zs d = false := by simp [aviB, h]

def OdC (s : Int) (zs : List Int) : Prop := Ok s zs ∧ (s % 2 = 1 ∨ avC s zs (s / 2))
noncomputable def oddB (s : Int) (zs : List Int) : Bool := @decide (OdC s zs) (Classical.propDecidable _)
theorem oddB_yes {s : Int} {zs : List Int} (h : OdC s zs) : oddB s zs = true := by simp [oddB, h]
theorem oddB_no {s : Int} {zs : List Int} (h : ¬ OdC s zs) : oddB s zs = false := by simp [oddB, h]

/-! ### MostAvoiding -/
def MoC (n d : Int) : Prop := (2 ≤ n ∧ n ≤ 24) ∧ (1 ≤ d ∧ d ≤ n - 1)
noncomputable def moaB (n d : Int) : Int := @ite _ (MoC n d) (Classical.propDecidable _) (mostN n.toNat d.toNat : Nat) (-1)
theorem moaB_yes {n d : Int} (h : MoC n d) : moaB n d = (mostN n.toNat d.toNat : Nat) := by simp [moaB, h]
theorem moaB_no {n d : Int} (h : ¬ MoC n d) : moaB n d = -1 := by simp [moaB, h]

/-! ### OppositePairs -/
def opT (n : Nat) (zs : List Int) (p : Int) : Bool := zs.contains p && zs.contains (p + (n / 2 : Nat))
def opP (n : Nat) (zs : List Int) (j : Nat) : List Int := ((List.range j).map Int.ofNat).filter (opT n zs)
noncomputable def opB (s : Int) (zs : List Int) : List Int := cZ (Ok s zs ∧ s % 2 = 0) (opP s.toNat zs (s.toNat / 2))
theorem opP_zero (n : Nat) (zs : List Int) : opP n zs 0 = [] := by simp [opP]
theorem opP_yes {n j : Nat} {zs : List Int} (h : opT n zs j = true) : opP n zs (j + 1) = opP n zs j ++ [(j : Int)] := by
  unfold opP
  rw [List.range_succ, List.map_append, List.filter_append]
  congr 1
  simp only [List.map_cons, List.map_nil]
  exact List.filter_cons_of_pos h
theorem opP_no {n j : Nat} {zs : List Int} (h : opT n zs j = false) : opP n zs (j + 1) = opP n zs j := by
  unfold opP
  rw [List.range_succ, List.map_append, List.filter_append]
  simp only [List.map_cons, List.map_nil]
  rw [List.filter_cons_of_neg (by rw [show Int.ofNat j = (j : Int) from rfl, h]; simp)]
  simp
theorem opP_len (n : Nat) (zs : List Int) (j : Nat) : (opP n zs j).length ≤ j := by
  unfold opP
  refine Nat.le_trans (List.length_filter_le _ _) ?_
  simp

end Go.Proofs.Ytjgjcppkbfojpaa.Rhy
