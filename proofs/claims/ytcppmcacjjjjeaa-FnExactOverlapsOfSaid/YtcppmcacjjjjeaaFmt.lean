/-
  Helpers of the claims beside this text: FormatRhythm of the model.
-/
import Derived.Test.YtcppmcacjjjjeaaRep
import Derived.Laws.Concat
import Derived.ShutString
namespace Go.Proofs.Ytcppmcacjjjjeaa.Rhy
open Go.RowKit
set_option linter.unusedVariables false

def mark8 (zs : List Int) (p : Nat) : UInt8 := if zs.contains (p : Int) then 120 else 46
def fmtL (n : Nat) (zs : List Int) : List UInt8 := (List.range n).map (mark8 zs)
def fmtT (n : Nat) (zs : List Int) : ByteArray := ⟨(fmtL n zs).toArray⟩
theorem fmtL_len (n : Nat) (zs : List Int) : (fmtL n zs).length = n := by simp [fmtL]
theorem fmtT_size (n : Nat) (zs : List Int) : (fmtT n zs).size = n := by
  show ((fmtL n zs).toArray).size = n
  simp [fmtL_len]
theorem fmtL_succ (n : Nat) (zs : List Int) : fmtL (n + 1) zs = fmtL n zs ++ [mark8 zs n] := by simp [fmtL, List.range_succ]
theorem fmtT_yes {n : Nat} {zs : List Int} (h : zs.contains (n : Int) = true) : fmtT n zs ++ (⟨#[120]⟩ : ByteArray) = fmtT (n + 1) zs := by
  have e : mark8 zs n = 120 := by unfold mark8; rw [if_pos h]
  apply ByteArray.ext
  simp [fmtT, fmtL_succ, e]
theorem fmtT_no {n : Nat} {zs : List Int} (h : zs.contains (n : Int) = false) : fmtT n zs ++ (⟨#[46]⟩ : ByteArray) = fmtT (n + 1) zs := by
  have e : mark8 zs n = 46 := by unfold mark8; rw [if_neg (by rw [h]; simp)]
  apply ByteArray.ext
  simp [fmtT, fmtL_succ, e]
theorem ret_str {a b : ByteArray} (h : a = b) : Ending.returned (.string a) = .returned (.string b) := by rw [h]

/-- What both answer. -/
noncomputable def fmtB (s : Int) (zs : List Int) : ByteArray := @ite _ (Ok s zs) (Classical.propDecidable _) (fmtT s.toNat zs) ByteArray.empty
theorem fmtB_yes {s : Int} {zs : List Int} (h : Ok s zs) : fmtB s zs = fmtT s.toNat zs := by simp [fmtB, h]
theorem fmtB_no {s : Int} {zs : List Int} (h : ¬ Ok s zs) : fmtB s zs = ByteArray.empty := by simp [fmtB, h]


end Go.Proofs.Ytcppmcacjjjjeaa.Rhy
