/-
  No cell of these rows narrows 'for every input' (looked for: loops, veiled, ifaces, maps, wideKeys, modest, calm, conditions, laid).
  DERIVED. THE GIVEN ROWS OF THIS SEAT. 9 by the template 'for every input the law returns true; each argument reads behind the call as it read before'; 0 by the template 'total and deterministic' (their statements: YthlklnmnjbjdoaaTotals.lean).
  GIVEN WITH THE SEED: the statements are not yours to turn. If you find one false, say at which input.
  Laid BY PROGRAM, IN A SANDBOX (cutbox-rows.mjs): the forced cells as the released guide's own fill.sh prints them over the translation 062b4a73486d59fc… (all of the seat's roots in one cut). By AI agents, Wed Nov 11 2026. No macro, syntax, notation, axiom, sorry.
-/
import Derived.Test.YthlklnmnjbjdoaaChecked
import GoSem.Claim
import GoSem.ClaimJoined
import GoSem.ClaimMapViews
import Derived.JoinedTies
import Derived.KernelRfl
namespace Go.Proofs.Ythlklnmnjbjdoaa
/- THE CELL 'sum', in the pinned program and in every row, IS THE sha256 OF THE DUMP (.gsa) THAT YthlklnmnjbjdoaaProg.lean LOADS. Nothing in Lean hashes anything: it is a label: what it is worth is what the hold of that sum in a sandbox is worth. -/
noncomputable def Try.pinned : Pinned := { name := "ythlklnmnjbjdoaa", sum := "062b4a73486d59fce7e114ba3e79985f94d13316f6f9b9f1609af8d6418029c8", checked := Try.checked }
namespace Rows
def none {H : Type} : Left H := { results := [], args := [] }

/-- 'laws.FnExactStepsOf': WHATEVER THE INPUT: true; the input reads as it did. -/
def fnExactStepsOfSpec : ChangeSpec := { name := "fnExactStepsOf", fn := fun _ => fun
  | [d] => { results := [.lit (.bool true)], args := [d] }
  | _ => none }
def fnExactStepsOfRow : OpenClaim := { program := "ythlklnmnjbjdoaa", sum := "062b4a73486d59fce7e114ba3e79985f94d13316f6f9b9f1609af8d6418029c8", func := "loop.example/g03204/laws.FnExactStepsOf", spec := "fnExactStepsOf", unfollowed := true, recurses := true, apart := false }
def FnExactStepsOfSaid : Prop := fnExactStepsOfRow.holds Try.pinned (OpenSpec.ofChange fnExactStepsOfSpec)

/-- ITS FALSE NEIGHBOUR: 'it returns false'. Refute it at one input. -/
def fnExactStepsOfWrong : ChangeSpec := { name := "fnExactStepsOf", fn := fun _ => fun
  | [d] => { results := [.lit (.bool false)], args := [d] }
  | _ => none }
def FnExactStepsOfWrongFalsely : Prop := fnExactStepsOfRow.holds Try.pinned (OpenSpec.ofChange fnExactStepsOfWrong)

/-- 'laws.FnExactFromSteps': WHATEVER THE INPUT: true; the input reads as it did. -/
def fnExactFromStepsSpec : ChangeSpec := { name := "fnExactFromSteps", fn := fun _ => fun
  | [d1, d2] => { results := [.lit (.bool true)], args := [d1, d2] }
  | _ => none }
def fnExactFromStepsRow : OpenClaim := { program := "ythlklnmnjbjdoaa", sum := "062b4a73486d59fce7e114ba3e79985f94d13316f6f9b9f1609af8d6418029c8", func := "loop.example/g03204/laws.FnExactFromSteps", spec := "fnExactFromSteps", apart := false }
def FnExactFromStepsSaid : Prop := fnExactFromStepsRow.holds Try.pinned (OpenSpec.ofChange fnExactFromStepsSpec)

/-- ITS FALSE NEIGHBOUR: 'it returns false'. Refute it at one input. -/
def fnExactFromStepsWrong : ChangeSpec := { name := "fnExactFromSteps", fn := fun _ => fun
  | [d1, d2] => { results := [.lit (.bool false)], args := [d1, d2] }
  | _ => none }
def FnExactFromStepsWrongFalsely : Prop := fnExactFromStepsRow.holds Try.pinned (OpenSpec.ofChange fnExactFromStepsWrong)

/-- 'laws.FnExactLongestStep': WHATEVER THE INPUT: true; the input reads as it did. -/
def fnExactLongestStepSpec : ChangeSpec := { name := "fnExactLongestStep", fn := fun _ => fun
  | [d] => { results := [.lit (.bool true)], args := [d] }
  | _ => none }
def fnExactLongestStepRow : OpenClaim := { program := "ythlklnmnjbjdoaa", sum := "062b4a73486d59fce7e114ba3e79985f94d13316f6f9b9f1609af8d6418029c8", func := "loop.example/g03204/laws.FnExactLongestStep", spec := "fnExactLongestStep", unfollowed := true, recurses := true, apart := false }
def FnExactLongestStepSaid : Prop := fnExactLongestStepRow.holds Try.pinned (OpenSpec.ofChange fnExactLongestStepSpec)

/-- ITS FALSE NEIGHBOUR: 'it returns false'. Refute it at one input. -/
def fnExactLongestStepWrong : ChangeSpec := { name := "fnExactLongestStep", fn := fun _ => fun
  | [d] => { results := [.lit (.bool false)], args := [d] }
  | _ => none }
def FnExactLongestStepWrongFalsely : Prop := fnExactLongestStepRow.holds Try.pinned (OpenSpec.ofChange fnExactLongestStepWrong)

/-- 'laws.FnExactShortestStep': WHATEVER THE INPUT: true; the input reads as it did. -/
def fnExactShortestStepSpec : ChangeSpec := { name := "fnExactShortestStep", fn := fun _ => fun
  | [d] => { results := [.lit (.bool true)], args := [d] }
  | _ => none }
def fnExactShortestStepRow : OpenClaim := { program := "ythlklnmnjbjdoaa", sum := "062b4a73486d59fce7e114ba3e79985f94d13316f6f9b9f1609af8d6418029c8", func := "loop.example/g03204/laws.FnExactShortestStep", spec := "fnExactShortestStep", unfollowed := true, recurses := true, apart := false }
def FnExactShortestStepSaid : Prop := fnExactShortestStepRow.holds Try.pinned (OpenSpec.ofChange fnExactShortestStepSpec)

/-- ITS FALSE NEIGHBOUR: 'it returns false'. Refute it at one input. -/
def fnExactShortestStepWrong : ChangeSpec := { name := "fnExactShortestStep", fn := fun _ => fun
  | [d] => { results := [.lit (.bool false)], args := [d] }
  | _ => none }
def FnExactShortestStepWrongFalsely : Prop := fnExactShortestStepRow.holds Try.pinned (OpenSpec.ofChange fnExactShortestStepWrong)

/-- 'laws.FnExactStepSizes': WHATEVER THE INPUT: true; the input reads as it did. -/
def fnExactStepSizesSpec : ChangeSpec := { name := "fnExactStepSizes", fn := fun _ => fun
  | [d] => { results := [.lit (.bool true)], args := [d] }
  | _ => none }
def fnExactStepSizesRow : OpenClaim := { program := "ythlklnmnjbjdoaa", sum := "062b4a73486d59fce7e114ba3e79985f94d13316f6f9b9f1609af8d6418029c8", func := "loop.example/g03204/laws.FnExactStepSizes", spec := "fnExactStepSizes", unfollowed := true, recurses := true, apart := false }
def FnExactStepSizesSaid : Prop := fnExactStepSizesRow.holds Try.pinned (OpenSpec.ofChange fnExactStepSizesSpec)

/-- ITS FALSE NEIGHBOUR: 'it returns false'. Refute it at one input. -/
def fnExactStepSizesWrong : ChangeSpec := { name := "fnExactStepSizes", fn := fun _ => fun
  | [d] => { results := [.lit (.bool false)], args := [d] }
  | _ => none }
def FnExactStepSizesWrongFalsely : Prop := fnExactStepSizesRow.holds Try.pinned (OpenSpec.ofChange fnExactStepSizesWrong)

/-- 'laws.FnExactSpanOf': WHATEVER THE INPUT: true; the input reads as it did. -/
def fnExactSpanOfSpec : ChangeSpec := { name := "fnExactSpanOf", fn := fun _ => fun
  | [d1, d2, d3] => { results := [.lit (.bool true)], args := [d1, d2, d3] }
  | _ => none }
def fnExactSpanOfRow : OpenClaim := { program := "ythlklnmnjbjdoaa", sum := "062b4a73486d59fce7e114ba3e79985f94d13316f6f9b9f1609af8d6418029c8", func := "loop.example/g03204/laws.FnExactSpanOf", spec := "fnExactSpanOf", unfollowed := true, recurses := true, apart := false }
def FnExactSpanOfSaid : Prop := fnExactSpanOfRow.holds Try.pinned (OpenSpec.ofChange fnExactSpanOfSpec)

/-- ITS FALSE NEIGHBOUR: 'it returns false'. Refute it at one input. -/
def fnExactSpanOfWrong : ChangeSpec := { name := "fnExactSpanOf", fn := fun _ => fun
  | [d1, d2, d3] => { results := [.lit (.bool false)], args := [d1, d2, d3] }
  | _ => none }
def FnExactSpanOfWrongFalsely : Prop := fnExactSpanOfRow.holds Try.pinned (OpenSpec.ofChange fnExactSpanOfWrong)

/-- 'laws.FnExactSpanSizes': WHATEVER THE INPUT: true; the input reads as it did. -/
def fnExactSpanSizesSpec : ChangeSpec := { name := "fnExactSpanSizes", fn := fun _ => fun
  | [d1, d2] => { results := [.lit (.bool true)], args := [d1, d2] }
  | _ => none }
def fnExactSpanSizesRow : OpenClaim := { program := "ythlklnmnjbjdoaa", sum := "062b4a73486d59fce7e114ba3e79985f94d13316f6f9b9f1609af8d6418029c8", func := "loop.example/g03204/laws.FnExactSpanSizes", spec := "fnExactSpanSizes", unfollowed := true, recurses := true, apart := false }
def FnExactSpanSizesSaid : Prop := fnExactSpanSizesRow.holds Try.pinned (OpenSpec.ofChange fnExactSpanSizesSpec)

/-- ITS FALSE NEIGHBOUR: 'it returns false'. Refute it at one input. -/
def fnExactSpanSizesWrong : ChangeSpec := { name := "fnExactSpanSizes", fn := fun _ => fun
  | [d1, d2] => { results := [.lit (.bool false)], args := [d1, d2] }
  | _ => none }
def FnExactSpanSizesWrongFalsely : Prop := fnExactSpanSizesRow.holds Try.pinned (OpenSpec.ofChange fnExactSpanSizesWrong)

/-- 'laws.FnExactRestsOf': WHATEVER THE INPUT: true; the input reads as it did. -/
def fnExactRestsOfSpec : ChangeSpec := { name := "fnExactRestsOf", fn := fun _ => fun
  | [d] => { results := [.lit (.bool true)], args := [d] }
  | _ => none }
def fnExactRestsOfRow : OpenClaim := { program := "ythlklnmnjbjdoaa", sum := "062b4a73486d59fce7e114ba3e79985f94d13316f6f9b9f1609af8d6418029c8", func := "loop.example/g03204/laws.FnExactRestsOf", spec := "fnExactRestsOf", unfollowed := true, recurses := true, apart := false }
def FnExactRestsOfSaid : Prop := fnExactRestsOfRow.holds Try.pinned (OpenSpec.ofChange fnExactRestsOfSpec)

/-- ITS FALSE NEIGHBOUR: 'it returns false'. Refute it at one input. -/
def fnExactRestsOfWrong : ChangeSpec := { name := "fnExactRestsOf", fn := fun _ => fun
  | [d] => { results := [.lit (.bool false)], args := [d] }
  | _ => none }
def FnExactRestsOfWrongFalsely : Prop := fnExactRestsOfRow.holds Try.pinned (OpenSpec.ofChange fnExactRestsOfWrong)

/-- 'laws.FnExactTurnSteps': WHATEVER THE INPUT: true; the input reads as it did. -/
def fnExactTurnStepsSpec : ChangeSpec := { name := "fnExactTurnSteps", fn := fun _ => fun
  | [d] => { results := [.lit (.bool true)], args := [d] }
  | _ => none }
def fnExactTurnStepsRow : OpenClaim := { program := "ythlklnmnjbjdoaa", sum := "062b4a73486d59fce7e114ba3e79985f94d13316f6f9b9f1609af8d6418029c8", func := "loop.example/g03204/laws.FnExactTurnSteps", spec := "fnExactTurnSteps", recurses := true, apart := false }
def FnExactTurnStepsSaid : Prop := fnExactTurnStepsRow.holds Try.pinned (OpenSpec.ofChange fnExactTurnStepsSpec)

/-- ITS FALSE NEIGHBOUR: 'it returns false'. Refute it at one input. -/
def fnExactTurnStepsWrong : ChangeSpec := { name := "fnExactTurnSteps", fn := fun _ => fun
  | [d] => { results := [.lit (.bool false)], args := [d] }
  | _ => none }
def FnExactTurnStepsWrongFalsely : Prop := fnExactTurnStepsRow.holds Try.pinned (OpenSpec.ofChange fnExactTurnStepsWrong)

/- THE SECOND FORM. 'bulk': how many values and letters a reading holds, each counted each time it is reached (what is shared counts as often as it is met; a slice's spare places count too). A statement '..UptoSaid' is the law's where the arguments, and the package variables that the reading takes, are together of bulk at most 1048576: NARROWER than '..Said'. Prove '..Said' where nothing that the law and all that it calls make is longer than what came in: it says more and counts as full. Else prove '..UptoSaid'. A law counts once. -/
mutual
def uptoBulk {H : Type} : DataW H → Nat
  | .lit (.string bytes) => bytes.length + 1
  | .lit _ => 1
  | .nil => 1
  | .ptr d => uptoBulk d + 1
  | .slice elems spare => uptoBulkAll elems + uptoBulkAll spare + 1
  | .agg parts => uptoBulkAll parts + 1
  | .iface _ d => uptoBulk d + 1
  | .map entries => uptoBulkEntries entries + 1
  | .held _ => 1
def uptoBulkAll {H : Type} : List (DataW H) → Nat
  | [] => 0
  | d :: r => uptoBulk d + uptoBulkAll r
def uptoBulkEntries {H : Type} : List (Lit × DataW H) → Nat
  | [] => 0
  | x :: r => uptoBulkEntry x + uptoBulkEntries r
def uptoBulkEntry {H : Type} : Lit × DataW H → Nat
  | (.string bytes, d) => bytes.length + uptoBulk d + 1
  | (_, d) => uptoBulk d + 1
 end
def uptoSmall : (H : Type) → List (DataW H) → Bool := fun _ ds => decide (uptoBulkAll ds ≤ 1048576)
def OpenSpec.upto (s : _root_.Go.ChangeSpec) : _root_.Go.OpenSpec := { _root_.Go.OpenSpec.ofChange s with cond := some uptoSmall }

/-- 'laws.FnExactStepsOf', WHERE WHAT IT READS IS OF BULK AT MOST 1048576: true; the input reads as it did. -/
def fnExactStepsOfUptoRow : OpenClaim := { program := "ythlklnmnjbjdoaa", sum := "062b4a73486d59fce7e114ba3e79985f94d13316f6f9b9f1609af8d6418029c8", func := "loop.example/g03204/laws.FnExactStepsOf", spec := "fnExactStepsOf", unfollowed := true, recurses := true, apart := false, narrowed := true }
def FnExactStepsOfUptoSaid : Prop := fnExactStepsOfUptoRow.holds Try.pinned (OpenSpec.upto fnExactStepsOfSpec)

/-- 'laws.FnExactFromSteps', WHERE WHAT IT READS IS OF BULK AT MOST 1048576: true; the input reads as it did. -/
def fnExactFromStepsUptoRow : OpenClaim := { program := "ythlklnmnjbjdoaa", sum := "062b4a73486d59fce7e114ba3e79985f94d13316f6f9b9f1609af8d6418029c8", func := "loop.example/g03204/laws.FnExactFromSteps", spec := "fnExactFromSteps", apart := false, narrowed := true }
def FnExactFromStepsUptoSaid : Prop := fnExactFromStepsUptoRow.holds Try.pinned (OpenSpec.upto fnExactFromStepsSpec)

/-- 'laws.FnExactLongestStep', WHERE WHAT IT READS IS OF BULK AT MOST 1048576: true; the input reads as it did. -/
def fnExactLongestStepUptoRow : OpenClaim := { program := "ythlklnmnjbjdoaa", sum := "062b4a73486d59fce7e114ba3e79985f94d13316f6f9b9f1609af8d6418029c8", func := "loop.example/g03204/laws.FnExactLongestStep", spec := "fnExactLongestStep", unfollowed := true, recurses := true, apart := false, narrowed := true }
def FnExactLongestStepUptoSaid : Prop := fnExactLongestStepUptoRow.holds Try.pinned (OpenSpec.upto fnExactLongestStepSpec)

/-- 'laws.FnExactShortestStep', WHERE WHAT IT READS IS OF BULK AT MOST 1048576: true; the input reads as it did. -/
def fnExactShortestStepUptoRow : OpenClaim := { program := "ythlklnmnjbjdoaa", sum := "062b4a73486d59fce7e114ba3e79985f94d13316f6f9b9f1609af8d6418029c8", func := "loop.example/g03204/laws.FnExactShortestStep", spec := "fnExactShortestStep", unfollowed := true, recurses := true, apart := false, narrowed := true }
def FnExactShortestStepUptoSaid : Prop := fnExactShortestStepUptoRow.holds Try.pinned (OpenSpec.upto fnExactShortestStepSpec)

/-- 'laws.FnExactStepSizes', WHERE WHAT IT READS IS OF BULK AT MOST 1048576: true; the input reads as it did. -/
def fnExactStepSizesUptoRow : OpenClaim := { program := "ythlklnmnjbjdoaa", sum := "062b4a73486d59fce7e114ba3e79985f94d13316f6f9b9f1609af8d6418029c8", func := "loop.example/g03204/laws.FnExactStepSizes", spec := "fnExactStepSizes", unfollowed := true, recurses := true, apart := false, narrowed := true }
def FnExactStepSizesUptoSaid : Prop := fnExactStepSizesUptoRow.holds Try.pinned (OpenSpec.upto fnExactStepSizesSpec)

/-- 'laws.FnExactSpanOf', WHERE WHAT IT READS IS OF BULK AT MOST 1048576: true; the input reads as it did. -/
def fnExactSpanOfUptoRow : OpenClaim := { program := "ythlklnmnjbjdoaa", sum := "062b4a73486d59fce7e114ba3e79985f94d13316f6f9b9f1609af8d6418029c8", func := "loop.example/g03204/laws.FnExactSpanOf", spec := "fnExactSpanOf", unfollowed := true, recurses := true, apart := false, narrowed := true }
def FnExactSpanOfUptoSaid : Prop := fnExactSpanOfUptoRow.holds Try.pinned (OpenSpec.upto fnExactSpanOfSpec)

/-- 'laws.FnExactSpanSizes', WHERE WHAT IT READS IS OF BULK AT MOST 1048576: true; the input reads as it did. -/
def fnExactSpanSizesUptoRow : OpenClaim := { program := "ythlklnmnjbjdoaa", sum := "062b4a73486d59fce7e114ba3e79985f94d13316f6f9b9f1609af8d6418029c8", func := "loop.example/g03204/laws.FnExactSpanSizes", spec := "fnExactSpanSizes", unfollowed := true, recurses := true, apart := false, narrowed := true }
def FnExactSpanSizesUptoSaid : Prop := fnExactSpanSizesUptoRow.holds Try.pinned (OpenSpec.upto fnExactSpanSizesSpec)

/-- 'laws.FnExactRestsOf', WHERE WHAT IT READS IS OF BULK AT MOST 1048576: true; the input reads as it did. -/
def fnExactRestsOfUptoRow : OpenClaim := { program := "ythlklnmnjbjdoaa", sum := "062b4a73486d59fce7e114ba3e79985f94d13316f6f9b9f1609af8d6418029c8", func := "loop.example/g03204/laws.FnExactRestsOf", spec := "fnExactRestsOf", unfollowed := true, recurses := true, apart := false, narrowed := true }
def FnExactRestsOfUptoSaid : Prop := fnExactRestsOfUptoRow.holds Try.pinned (OpenSpec.upto fnExactRestsOfSpec)

/-- 'laws.FnExactTurnSteps', WHERE WHAT IT READS IS OF BULK AT MOST 1048576: true; the input reads as it did. -/
def fnExactTurnStepsUptoRow : OpenClaim := { program := "ythlklnmnjbjdoaa", sum := "062b4a73486d59fce7e114ba3e79985f94d13316f6f9b9f1609af8d6418029c8", func := "loop.example/g03204/laws.FnExactTurnSteps", spec := "fnExactTurnSteps", recurses := true, apart := false, narrowed := true }
def FnExactTurnStepsUptoSaid : Prop := fnExactTurnStepsUptoRow.holds Try.pinned (OpenSpec.upto fnExactTurnStepsSpec)

end Rows
end Go.Proofs.Ythlklnmnjbjdoaa
