/-
  Helpers of the claims beside this text: FormatRhythm of the model.
-/
import Derived.Test.YtgmhdmhnedljcaaRot
import Derived.Laws.Concat
import Derived.ShutString
import Derived.Test.YtgmhdmhnedljcaaFrm
import Derived.Lib.Walk
import Derived.Lib.Builder
import Derived.Lib.AppendStr
import Derived.Lib.UnsafeStr
import Derived.Laws.Externs
namespace Go.Proofs.Ytgmhdmhnedljcaa.Rhy
open Go.RowKit
set_option linter.unusedVariables false

def mark8 (zs : List Int) (p : Nat) : UInt8 := if zs.contains (p : Int) then 120 else 46
def fmtL (n : Nat) (zs : List Int) : List UInt8 := (List.range n).map (mark8 zs)
def fmtT (n : Nat) (zs : List Int) : ByteArray := ⟨(fmtL n zs).toArray⟩
theorem fmtL_len (n : Nat) (zs : List Int) : (fmtL n zs).length = n := by simp [fmtL]
theorem fmtT_size (n : Nat) (zs : List Int) : (fmtT n zs).size = n := by
  show ((fmtL n zs).toArray).size = n
  simp [fmtL_len]
theorem fmtL_succ (n : Nat) (zs : List Int) : fmtL (n + 1) zs = fmtL n zs ++ [mark8 zs n] := by simp [fmtL, List.range_succ]
theorem fmtT_yes {n : Nat} {zs : List Int} (h : zs.contains (n : Int) = true) : fmtT n zs ++ (⟨#[120]⟩ : ByteArray) = fmtT (n + 1) zs := by
  have e : mark8 zs n = 120 := by unfold mark8; rw [if_pos h]
  apply ByteArray.ext
  simp [fmtT, fmtL_succ, e]
theorem fmtT_no {n : Nat} {zs : List Int} (h : zs.contains (n : Int) = false) : fmtT n zs ++ (⟨#[46]⟩ : ByteArray) = fmtT (n + 1) zs := by
  have e : mark8 zs n = 46 := by unfold mark8; rw [if_neg (by rw [h]; simp)]
  apply ByteArray.ext
  simp [fmtT, fmtL_succ, e]
theorem ret_str {a b : ByteArray} (h : a = b) : Ending.returned (.string a) = .returned (.string b) := by rw [h]

/-- What both answer. -/
noncomputable def fmtB (s : Int) (zs : List Int) : ByteArray := @ite _ (Ok s zs) (Classical.propDecidable _) (fmtT s.toNat zs) ByteArray.empty
theorem fmtB_yes {s : Int} {zs : List Int} (h : Ok s zs) : fmtB s zs = fmtT s.toNat zs := by simp [fmtB, h]
theorem fmtB_no {s : Int} {zs : List Int} (h : ¬ Ok s zs) : fmtB s zs = ByteArray.empty := by simp [fmtB, h]


end Go.Proofs.Ytgmhdmhnedljcaa.Rhy

/-
  Helpers of the claims beside this text: plain mathematics: texts in the order of bytes; the last of some rhythms in the order of their texts; the last of all turns.
-/
namespace Go.Proofs.Ytgmhdmhnedljcaa.Rhy
set_option linter.unusedVariables false

theorem mark_yes {zs : List Int} {k : Nat} (h : hasB zs k = true) : mark8 zs k = 120 := by unfold mark8; unfold hasB at h; rw [if_pos h]
theorem mark_no {zs : List Int} {k : Nat} (h : hasB zs k = false) : mark8 zs k = 46 := by unfold mark8; unfold hasB at h; rw [h]; rfl
theorem bytes_after (xs ys : List Int) : ∀ f k, (!(Op.bytesLess ((List.range' k f).map (mark8 xs)) ((List.range' k f).map (mark8 ys)) || (List.range' k f).map (mark8 xs) == (List.range' k f).map (mark8 ys))) = afterF xs ys k f := by
  intro f
  induction f with
  | zero => intro k; simp [Op.bytesLess, afterF]
  | succ f ih =>
    intro k
    rw [List.range'_succ, List.map_cons, List.map_cons]
    have := ih (k + 1)
    obtain ⟨A, hA⟩ : ∃ A, A = (List.range' (k + 1) f).map (mark8 xs) := ⟨_, rfl⟩
    obtain ⟨B, hB⟩ : ∃ B, B = (List.range' (k + 1) f).map (mark8 ys) := ⟨_, rfl⟩
    rw [← hA, ← hB] at this ⊢
    cases hx : hasB xs k <;> cases hy : hasB ys k
    · rw [mark_no hx, mark_no hy]
      simp only [afterF, hx, hy, if_true]
      rw [← this]
      simp [Op.bytesLess]
    · rw [mark_no hx, mark_yes hy]
      simp only [afterF, hx, hy]
      simp [Op.bytesLess]
    · rw [mark_yes hx, mark_no hy]
      simp only [afterF, hx, hy]
      simp [Op.bytesLess]
    · rw [mark_yes hx, mark_yes hy]
      simp only [afterF, hx, hy, if_true]
      rw [← this]
      simp [Op.bytesLess]
theorem fmt_after (n : Nat) (xs ys : List Int) : (!(Op.bytesLess (fmtL n xs) (fmtL n ys) || fmtL n xs == fmtL n ys)) = afterF xs ys 0 n := by
  have := bytes_after xs ys n 0
  unfold fmtL
  rw [List.range_eq_range']
  exact this

theorem fmtT_list (n : Nat) (zs : List Int) : (fmtT n zs).toList = fmtL n zs := by rw [ByteArray.toList_eq]; rfl
theorem text_after (n : Nat) (xs ys : List Int) : (!(Op.bytesLess (fmtT n xs).toList (fmtT n ys).toList || (fmtT n xs).toList == (fmtT n ys).toList)) = afterB n xs ys := by
  rw [fmtT_list, fmtT_list]
  exact fmt_after n xs ys

/-- The last one in the order of texts. -/
def pickZ (n : Nat) (b x : List Int) : List Int := if afterB n x b then x else b
def lastF (n : Nat) (b : List Int) (L : List (List Int)) : List Int := L.foldl (pickZ n) b
def lastL (n : Nat) (L : List (List Int)) : List Int := lastF n (L.headD []) L.tail
theorem lastF_snoc {n : Nat} {b : List Int} {L : List (List Int)} {k : Nat} {x : List Int} (h : L[k]? = some x) : lastF n b (L.take (k + 1)) = pickZ n (lastF n b (L.take k)) x := by
  unfold lastF
  rw [List.take_add_one, h]
  simp
/-- The turns by 0 up to p. -/
def rotsP (n : Int) (zs : List Int) (p : Nat) : List (List Int) := (List.range p).map fun k : Nat => rotZ n zs 1 (k : Int)
def rotsZ (n : Int) (zs : List Int) : List (List Int) := rotsP n zs (perZ n zs)
theorem rotsP_len (n : Int) (zs : List Int) (p : Nat) : (rotsP n zs p).length = p := by simp [rotsP]
theorem rotsP_succ (n : Int) (zs : List Int) (p : Nat) : rotsP n zs (p + 1) = rotsP n zs p ++ [rotZ n zs 1 p] := by simp [rotsP, List.range_succ]
theorem last_best (n : Int) (zs : List Int) : ∀ p : Nat, lastL n.toNat (rotsP n zs (p + 1)) = bestP n zs p := by
  intro p
  induction p with
  | zero => simp [rotsP, lastL, lastF, bestP]
  | succ p ih =>
    rw [rotsP_succ]
    have h0 : rotsP n zs (p + 1) ≠ [] := by
      intro h
      have := rotsP_len n zs (p + 1)
      rw [h] at this
      simp at this
    unfold lastL at ih ⊢
    obtain ⟨x, r, hx⟩ : ∃ x r, rotsP n zs (p + 1) = x :: r := List.exists_cons_of_ne_nil h0
    rw [hx] at ih ⊢
    simp only [List.cons_append, List.headD_cons, List.tail_cons] at ih ⊢
    unfold lastF at ih ⊢
    rw [List.foldl_append, ih]
    simp only [List.foldl_cons, List.foldl_nil, bestP]
    rfl
theorem last_rots {n : Int} {zs : List Int} (ho : Ok n zs) : lastL n.toNat (rotsZ n zs) = leastZ n zs := by
  obtain ⟨h1, h2⟩ := per_bd n zs ho.1.1
  obtain ⟨p, hp⟩ : ∃ p, perZ n zs = p + 1 := ⟨perZ n zs - 1, by omega⟩
  unfold rotsZ
  rw [hp, last_best]
  obtain ⟨⟨j, hj, e⟩, hm⟩ := best_spec ho p
  refine least_uniq ho e fun k => ?_
  have hb := em_bd k (n := (perZ n zs : Int)) (by omega)
  have hk : rotZ n zs 1 k = rotZ n zs 1 (k % (perZ n zs : Int)) := by
    rw [fix_eq ho, per_dvd ho]
    have := em_sub k k (perZ n zs : Int)
    have h3 := Int.emod_add_mul_ediv k (perZ n zs)
    rw [show k - k % (perZ n zs : Int) = (perZ n zs : Int) * (k / (perZ n zs : Int)) by omega]
    exact Int.mul_emod_right _ _
  rw [hk]
  have := hm (k % (perZ n zs : Int)).toNat (by omega)
  rwa [Int.toNat_of_nonneg hb.1] at this
theorem last_two (n : Nat) (a b : List Int) : lastL n [a, b] = if afterB n b a then b else a := rfl
theorem form_two (n : Int) (zs : List Int) : lastL n.toNat [leastZ n zs, leastZ n (rotZ n zs (-1) 0)] = formZ n zs := rfl
end Go.Proofs.Ytgmhdmhnedljcaa.Rhy
namespace Go.Proofs.Ytgmhdmhnedljcaa.Rhy
open Go.RowKit

theorem infoByte : (Try.prog.info? 5).map (fun i => (i.zero, i.size, i.bytes)) = some (some (.int .u8 0), 1, 1) := by kernel_rfl





theorem bytes_snoc (l : List UInt8) (c : UInt8) : Lib.byteCells l ++ Lib.strCells ⟨#[c]⟩ = Lib.byteCells (l ++ [c]) := by
  rw [Lib.byteCells_append]
  rfl

theorem fmtL_yes {n : Nat} {zs : List Int} (h : zs.contains (n : Int) = true) : fmtL (n + 1) zs = fmtL n zs ++ [120] := by
  rw [fmtL_succ, show mark8 zs n = 120 by unfold mark8; rw [if_pos h]]
theorem fmtL_no {n : Nat} {zs : List Int} (h : zs.contains (n : Int) = false) : fmtL (n + 1) zs = fmtL n zs ++ [46] := by
  rw [fmtL_succ, show mark8 zs n = 46 by unfold mark8; rw [if_neg (by rw [h]; simp)]]





end Go.Proofs.Ytgmhdmhnedljcaa.Rhy
