/-
  Helpers of the claims beside this text: SumCounts of both sides; the model's and the program's test of two rhythms.
-/
import Derived.Test.YtldpikcgeijkpaaSuc
import Derived.Test.YtldpikcgeijkpaaOne
namespace Go.Proofs.Ytldpikcgeijkpaa.Rhy
open Go.RowKit
set_option linter.unusedVariables false
set_option linter.unusedSimpArgs false

theorem one_yes (s : Int) (a : Option Addr) (n ca : Nat) (xs : List Int) (t : Int) (b : Option Addr) (m cb : Nat) (ys : List Int) (w : World) (ha : IntsAt w a n xs) (hn : xs.length ≤ 1048576) (hb : IntsAt w b m ys) (hm : ys.length ≤ 1048576) (hc : (Ok s xs ∧ Ok t ys ∧ s = t)) :
    Calls Try.prog 83 #[rhy s a n ca, rhy t b m cb] w fun e w' => e = .returned (.bool true) ∧ Below w.heap.size w w' :=
  (one_any s a n ca xs t b m cb ys w ha hn hb hm).mono fun e w' h => ⟨by rw [h.1, oneB_yes hc], h.2⟩
theorem one_no (s : Int) (a : Option Addr) (n ca : Nat) (xs : List Int) (t : Int) (b : Option Addr) (m cb : Nat) (ys : List Int) (w : World) (ha : IntsAt w a n xs) (hn : xs.length ≤ 1048576) (hb : IntsAt w b m ys) (hm : ys.length ≤ 1048576) (hc : ¬ (Ok s xs ∧ Ok t ys ∧ s = t)) :
    Calls Try.prog 83 #[rhy s a n ca, rhy t b m cb] w fun e w' => e = .returned (.bool false) ∧ Below w.heap.size w w' :=
  (one_any s a n ca xs t b m cb ys w ha hn hb hm).mono fun e w' h => ⟨by rw [h.1, oneB_no hc], h.2⟩
/-- What both answer. -/
noncomputable def sumcB (s : Int) (xs : List Int) (t : Int) (ys : List Int) : List Int := cZ (Ok s xs ∧ Ok t ys ∧ s = t) (cntZ s.toNat (sumL s xs ys))
theorem sumcB_int (s : Int) (xs : List Int) (t : Int) (ys : List Int) : AllInt (sumcB s xs t ys) := by
  unfold sumcB
  by_cases h : (Ok s xs ∧ Ok t ys ∧ s = t)
  · rw [cZ_yes h]; exact cntS_int h.1 (by rw [h.2.2]; exact h.2.1) _
  · rw [cZ_no h]; intro z hz; cases hz
theorem sumcB_len (s : Int) (xs : List Int) (t : Int) (ys : List Int) : (sumcB s xs t ys).length ≤ 24 := by
  unfold sumcB
  by_cases h : (Ok s xs ∧ Ok t ys ∧ s = t)
  · rw [cZ_yes h, cnt_len]; have := h.1.1; omega
  · rw [cZ_no h]; simp



end Go.Proofs.Ytldpikcgeijkpaa.Rhy
