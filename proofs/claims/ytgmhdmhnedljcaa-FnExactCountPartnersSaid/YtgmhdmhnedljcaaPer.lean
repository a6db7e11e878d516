/-
  Helpers of the claims beside this text: the model's periods, axes and turns.
-/
import Derived.Test.YtgmhdmhnedljcaaMoves
import Derived.Test.YtgmhdmhnedljcaaSame
import Derived.Test.YtgmhdmhnedljcaaVec
import Derived.Deep.RegionHeld3
namespace Go.Proofs.Ytgmhdmhnedljcaa.Rhy
open Go.RowKit
set_option linter.unusedVariables false

/-- The first number from k on at which p holds, of f numbers; behind them if there is none. -/
def firstFrom (p : Nat → Bool) (k : Nat) : Nat → Nat
  | 0 => k
  | f + 1 => if p k then k else firstFrom p (k + 1) f
theorem first_yes {p : Nat → Bool} {k n : Nat} (hk : k < n) (h : p k = true) : firstFrom p k (n - k) = k := by
  obtain ⟨f, hf⟩ : ∃ f, n - k = f + 1 := ⟨n - k - 1, by omega⟩
  rw [hf]; simp [firstFrom, h]
theorem first_no {p : Nat → Bool} {k n : Nat} (hk : k < n) (h : p k = false) : firstFrom p k (n - k) = firstFrom p (k + 1) (n - (k + 1)) := by
  obtain ⟨f, hf⟩ : ∃ f, n - k = f + 1 := ⟨n - k - 1, by omega⟩
  rw [hf, show n - (k + 1) = f by omega]; simp [firstFrom, h]
theorem first_le (p : Nat → Bool) (f : Nat) : ∀ k, k ≤ firstFrom p k f ∧ firstFrom p k f ≤ k + f := by
  induction f with
  | zero => intro k; simp [firstFrom]
  | succ f ih =>
    intro k
    have := ih (k + 1)
    simp only [firstFrom]
    split <;> omega

def rotZ (s : Int) (zs : List Int) (u k : Int) : List Int := ofZ s.toNat (mapL s zs u k)
theorem rotZ_int {s : Int} {zs : List Int} {u k : Int} (h : s ≤ 24) : AllInt (rotZ s zs u k) := ofZ_int (by omega)
theorem rotZ_len {s : Int} {zs : List Int} {u k : Int} (h : s ≤ 24) : (rotZ s zs u k).length ≤ 24 := Nat.le_trans (ofZ_len _ _) (by omega)
/-- The turn by k, or the mirror turned by k, is ys. -/
def isRot (s : Int) (zs ys : List Int) (u : Int) (k : Nat) : Bool := eqB (rotZ s zs u k) ys
def perZ (s : Int) (zs : List Int) : Nat := firstFrom (isRot s zs zs 1) 1 (s.toNat - 1)
noncomputable def perB (s : Int) (zs : List Int) : Int := cS (Ok s zs) (perZ s zs)
theorem fieldsR : (Try.prog.fieldsOf 28).toList.map (fun f => (f.type, f.offset)) = [(3, 0), (22, 1)] := by kernel_rfl
theorem underR : Try.prog.underlying 28 = some (.struct (Try.prog.fieldsOf 28)) := by kernel_rfl
/-- The beats of a rhythm that is a value. -/
theorem run_beats (s : Int) (a : Option Addr) (n c : Nat) (w : World) : (Instr.field 28 (rhy s a n c) 1).run Try.prog w = .ok (.slice a n c) w := by
  have hf := fieldsR
  have hu := underR
  obtain ⟨F, hF⟩ : ∃ F, F = Try.prog.fieldsOf 28 := ⟨_, rfl⟩
  rw [← hF] at hf hu
  have h1 : ∃ g : Field, F[1]? = some g ∧ g.type = 22 ∧ g.offset = 1 := by
    have h2 : (F.toList.map (fun f => (f.type, f.offset)))[1]? = some (22, 1) := by rw [hf]; rfl
    rw [List.getElem?_map, Option.map_eq_some_iff] at h2
    obtain ⟨g, hg, he⟩ := h2
    simp only [Prod.mk.injEq] at he
    exact ⟨g, by simpa using hg, he.1, he.2⟩
  obtain ⟨g, hg, g1, g2⟩ := h1
  unfold Instr.field rhy
  simp only [Sem.run_bind, run_underlying hu, Result.andThen_ok, hg, g1, g2]
  simp [asAgg, part]


theorem perB_yes {s : Int} {zs : List Int} (h : Ok s zs) : perB s zs = perZ s zs := cS_yes h
theorem perB_no {s : Int} {zs : List Int} (h : ¬ Ok s zs) : perB s zs = 0 := cS_no h


end Go.Proofs.Ytgmhdmhnedljcaa.Rhy
