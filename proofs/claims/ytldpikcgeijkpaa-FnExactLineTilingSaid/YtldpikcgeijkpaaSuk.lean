/-
  Helpers of the claims beside this text: StretchTiling of both sides: the answers.
-/
import Derived.Test.YtldpikcgeijkpaaSuj
import Derived.Test.YtldpikcgeijkpaaReg
namespace Go.Proofs.Ytldpikcgeijkpaa.Rhy
open Go.RowKit
set_option linter.unusedVariables false
set_option linter.unusedSimpArgs false

/-- What a function that answers with two rhythms and a bool leaves: the rows of the two lie apart. -/
def Ret2Post (s1 : Int) (l1 : List Int) (s2 : Int) (l2 : List Int) (ok : Bool) (w : World) (e : Ending) (w' : World) : Prop :=
  ∃ a c b d m, e = .returned (.tuple #[rhy s1 a l1.length c, rhy s2 b l2.length d, .bool ok]) ∧ Row w' w.heap.size m a l1.length c l1 ∧ Row w' m w'.heap.size b l2.length d l2 ∧ w.heap.size ≤ m ∧ Below w.heap.size w w'
def StC (s : Int) (xs : List Int) (t : Int) (ys : List Int) (k : Int) : Prop := ((Ok s xs ∧ Ok t ys ∧ s = t) ∧ tilC s xs ys) ∧ 1 ≤ k ∧ k * s ≤ 24
def C2Post (c : Prop) (s1 : Int) (l1 : List Int) (s2 : Int) (l2 : List Int) (w : World) (e : Ending) (w' : World) : Prop := Ret2Post (cS c s1) (cZ c l1) (cS c s2) (cZ c l2) (cB c) w e w'
theorem c2_no {c : Prop} {s1 s2 : Int} {l1 l2 : List Int} {w w' : World} (h : ¬ c) (hb : Below w.heap.size w w') :
    C2Post c s1 l1 s2 l2 w (.returned (.tuple #[rhy 0 none 0 0, rhy 0 none 0 0, .bool false])) w' := by
  unfold C2Post
  rw [cS_no h, cZ_no h, cS_no h, cZ_no h, cB_no h]
  exact ⟨none, 0, none, 0, w'.heap.size, rfl, row_of (World.ownsRow_nil _ _ _ _), row_of (World.ownsRow_nil _ _ _ _), hb.size, hb⟩
theorem c2_yes {c : Prop} {s1 s2 : Int} {l1 l2 : List Int} {w w' : World} {e : Ending} (h : c) (hr : Ret2Post s1 l1 s2 l2 true w e w') : C2Post c s1 l1 s2 l2 w e w' := by
  unfold C2Post
  rwa [cS_yes h, cZ_yes h, cS_yes h, cZ_yes h, cB_yes h]
theorem Row.set {w : World} {lo hi : Nat} {a : Option Addr} {n cap : Nat} {l : List Int} (h : Row w lo hi a n cap l) {N : Nat} (hN : N < lo) (o : Nat) (v : Value) : Row (w.setCell ⟨N, o, none⟩ v) lo hi a n cap l :=
  ⟨ownsRow_setCell_below h.1 (by show N < lo; exact hN) _, h.2.1, by simpa using h.2.2⟩
theorem row_down {w w' : World} {lo hi : Nat} {a : Option Addr} {n cap : Nat} {l : List Int} (h : Row w lo hi a n cap l) {lo' : Nat} (hl : lo' ≤ lo) (hs : w'.heap.size = hi) (e : w' = w) : Row w' lo' w'.heap.size a n cap l := by
  subst e
  rw [hs]
  exact h.lo hl
theorem til_no {s : Int} {xs : List Int} {t : Int} {ys : List Int} {k : Int} (h : tilB s xs t ys = false) : ¬ (StC s xs t ys k) := fun q => by
  have : tilB s xs t ys = true := cB_yes q.1
  rw [h] at this
  cases this
theorem til_yes {s : Int} {xs : List Int} {t : Int} {ys : List Int} (h : tilB s xs t ys = true) : (Ok s xs ∧ Ok t ys ∧ s = t) ∧ tilC s xs ys := by
  by_cases q : (Ok s xs ∧ Ok t ys ∧ s = t) ∧ tilC s xs ys
  · exact q
  · unfold tilB at h; rw [cB_no q] at h; cases h

/-- What both answer. -/
abbrev StV (s : Int) (xs : List Int) (t : Int) (ys : List Int) (k : Int) (w : World) : Ending → World → Prop := C2Post (StC s xs t ys k) (k * s) (widL k.toNat 1 xs) (k * s) (widL k.toNat k.toNat ys) w


end Go.Proofs.Ytldpikcgeijkpaa.Rhy
