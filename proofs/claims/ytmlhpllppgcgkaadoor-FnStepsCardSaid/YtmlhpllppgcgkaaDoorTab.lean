/-
  Helpers of the claims beside this text: the library's table of the powers of ten, where a card lists it.
-/
import Derived.Test.YtmlhpllppgcgkaaDoorNumFmt
import Derived.Test.YtmlhpllppgcgkaaDoorRows
import Derived.Test.YtmlhpllppgcgkaaDoorCards
import Derived.Test.YtmlhpllppgcgkaaDoorTie
import Derived.WalkKit
import Derived.WalkSmall
import Derived.ProofKit
import Derived.LaidMore
import Derived.Lib.LaidTab
import Derived.LaidSub
import Derived.SevenTiedAt
import Derived.Lib.Hide
namespace Go.Proofs.YtmlhpllppgcgkaaDoor.Rhy
open Go.ChangeShapes Go.WideShapes Go.ChangeAt Go.RowKit
set_option linter.unusedVariables false

def Fact (w : World) : Prop := Lib.TabIs Tryd.prog w "internal/strconv.uint64pow10" .u64 Lib.pow10Tab
theorem gPow : Tryd.prog.globalNamed "internal/strconv.uint64pow10" = some 0 := by kernel_rfl
theorem fact_of_laid {W : World} (L) (h : laidMet Tryd.prog L W) (e : (L.filter fun x => x.1 == "internal/strconv.uint64pow10") = [("internal/strconv.uint64pow10", Lib.tabData .u64 Lib.pow10Tab)]) : Fact W := by
  have h1 := Go.laidMet.filter (fun x => x.1 == "internal/strconv.uint64pow10") h
  rw [e] at h1
  exact Lib.tabIs_of_head gPow (t := 111) (e := 98) (n := 20) (by kernel_rfl) (by kernel_rfl) (by kernel_rfl) (by kernel_rfl) (by kernel_rfl) h1
theorem Fact.below {w w' : World} (h : Fact w) (hb : Below w.heap.size w w') : Fact w' := by
  refine var?_below hb gPow ?_ h
  have h1 := h
  unfold Fact Lib.TabIs World.var? at h1
  rw [gPow] at h1
  rcases Nat.lt_or_ge 0 w.heap.size with h2 | h2
  · exact h2
  · simp [Array.getElem?_eq_none h2] at h1
end Go.Proofs.YtmlhpllppgcgkaaDoor.Rhy
