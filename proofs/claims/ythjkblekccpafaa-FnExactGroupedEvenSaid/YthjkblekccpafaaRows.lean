/-
  No cell of these rows narrows 'for every input' (looked for: loops, veiled, ifaces, maps, wideKeys, modest, calm, conditions, laid).
  DERIVED. THE GIVEN ROWS OF THIS SEAT. 8 by the template 'for every input the law returns true; each argument reads behind the call as it read before'; 0 by the template 'total and deterministic' (their statements: YthjkblekccpafaaTotals.lean).
  GIVEN WITH THE SEED: the statements are not yours to turn. If you find one false, say at which input.
  Laid BY PROGRAM, IN A SANDBOX (cutbox-rows.mjs): the forced cells as the released guide's own fill.sh prints them over the translation 842f64d7300db68a… (all of the seat's roots in one cut). By AI agents, Wed Nov 11 2026. No macro, syntax, notation, axiom, sorry.
-/
import Derived.Test.YthjkblekccpafaaChecked
import GoSem.Claim
import GoSem.ClaimJoined
import GoSem.ClaimMapViews
import Derived.JoinedTies
import Derived.KernelRfl
namespace Go.Proofs.Ythjkblekccpafaa
/- THE CELL 'sum', in the pinned program and in every row, IS THE sha256 OF THE DUMP (.gsa) THAT YthjkblekccpafaaProg.lean LOADS. Nothing in Lean hashes anything: it is a label: what it is worth is what the hold of that sum in a sandbox is worth. -/
noncomputable def Try.pinned : Pinned := { name := "ythjkblekccpafaa", sum := "842f64d7300db68a56f5d3021199d2de3e6e830cec5ba68c81b9a4af8d9528b9", checked := Try.checked }
namespace Rows
def none {H : Type} : Left H := { results := [], args := [] }

/-- 'laws.FnExactEvenRhythm': WHATEVER THE INPUT: true; the input reads as it did. -/
def fnExactEvenRhythmSpec : ChangeSpec := { name := "fnExactEvenRhythm", fn := fun _ => fun
  | [d1, d2] => { results := [.lit (.bool true)], args := [d1, d2] }
  | _ => none }
def fnExactEvenRhythmRow : OpenClaim := { program := "ythjkblekccpafaa", sum := "842f64d7300db68a56f5d3021199d2de3e6e830cec5ba68c81b9a4af8d9528b9", func := "loop.example/g03204/laws.FnExactEvenRhythm", spec := "fnExactEvenRhythm", apart := false }
def FnExactEvenRhythmSaid : Prop := fnExactEvenRhythmRow.holds Try.pinned (OpenSpec.ofChange fnExactEvenRhythmSpec)

/-- ITS FALSE NEIGHBOUR: 'it returns false'. Refute it at one input. -/
def fnExactEvenRhythmWrong : ChangeSpec := { name := "fnExactEvenRhythm", fn := fun _ => fun
  | [d1, d2] => { results := [.lit (.bool false)], args := [d1, d2] }
  | _ => none }
def FnExactEvenRhythmWrongFalsely : Prop := fnExactEvenRhythmRow.holds Try.pinned (OpenSpec.ofChange fnExactEvenRhythmWrong)

/-- 'laws.FnExactShiftedEven': WHATEVER THE INPUT: true; the input reads as it did. -/
def fnExactShiftedEvenSpec : ChangeSpec := { name := "fnExactShiftedEven", fn := fun _ => fun
  | [d1, d2, d3] => { results := [.lit (.bool true)], args := [d1, d2, d3] }
  | _ => none }
def fnExactShiftedEvenRow : OpenClaim := { program := "ythjkblekccpafaa", sum := "842f64d7300db68a56f5d3021199d2de3e6e830cec5ba68c81b9a4af8d9528b9", func := "loop.example/g03204/laws.FnExactShiftedEven", spec := "fnExactShiftedEven", apart := false }
def FnExactShiftedEvenSaid : Prop := fnExactShiftedEvenRow.holds Try.pinned (OpenSpec.ofChange fnExactShiftedEvenSpec)

/-- ITS FALSE NEIGHBOUR: 'it returns false'. Refute it at one input. -/
def fnExactShiftedEvenWrong : ChangeSpec := { name := "fnExactShiftedEven", fn := fun _ => fun
  | [d1, d2, d3] => { results := [.lit (.bool false)], args := [d1, d2, d3] }
  | _ => none }
def FnExactShiftedEvenWrongFalsely : Prop := fnExactShiftedEvenRow.holds Try.pinned (OpenSpec.ofChange fnExactShiftedEvenWrong)

/-- 'laws.FnExactGroupedEven': WHATEVER THE INPUT: true; the input reads as it did. -/
def fnExactGroupedEvenSpec : ChangeSpec := { name := "fnExactGroupedEven", fn := fun _ => fun
  | [d1, d2] => { results := [.lit (.bool true)], args := [d1, d2] }
  | _ => none }
def fnExactGroupedEvenRow : OpenClaim := { program := "ythjkblekccpafaa", sum := "842f64d7300db68a56f5d3021199d2de3e6e830cec5ba68c81b9a4af8d9528b9", func := "loop.example/g03204/laws.FnExactGroupedEven", spec := "fnExactGroupedEven", inPlace := ["internal/abi.NoEscape", "internal/bytealg.MakeNoZero"], apart := false }
def FnExactGroupedEvenSaid : Prop := fnExactGroupedEvenRow.holds Try.pinned (OpenSpec.ofChange fnExactGroupedEvenSpec)

/-- ITS FALSE NEIGHBOUR: 'it returns false'. Refute it at one input. -/
def fnExactGroupedEvenWrong : ChangeSpec := { name := "fnExactGroupedEven", fn := fun _ => fun
  | [d1, d2] => { results := [.lit (.bool false)], args := [d1, d2] }
  | _ => none }
def FnExactGroupedEvenWrongFalsely : Prop := fnExactGroupedEvenRow.holds Try.pinned (OpenSpec.ofChange fnExactGroupedEvenWrong)

/-- 'laws.FnExactIsEven': WHATEVER THE INPUT: true; the input reads as it did. -/
def fnExactIsEvenSpec : ChangeSpec := { name := "fnExactIsEven", fn := fun _ => fun
  | [d] => { results := [.lit (.bool true)], args := [d] }
  | _ => none }
def fnExactIsEvenRow : OpenClaim := { program := "ythjkblekccpafaa", sum := "842f64d7300db68a56f5d3021199d2de3e6e830cec5ba68c81b9a4af8d9528b9", func := "loop.example/g03204/laws.FnExactIsEven", spec := "fnExactIsEven", apart := false }
def FnExactIsEvenSaid : Prop := fnExactIsEvenRow.holds Try.pinned (OpenSpec.ofChange fnExactIsEvenSpec)

/-- ITS FALSE NEIGHBOUR: 'it returns false'. Refute it at one input. -/
def fnExactIsEvenWrong : ChangeSpec := { name := "fnExactIsEven", fn := fun _ => fun
  | [d] => { results := [.lit (.bool false)], args := [d] }
  | _ => none }
def FnExactIsEvenWrongFalsely : Prop := fnExactIsEvenRow.holds Try.pinned (OpenSpec.ofChange fnExactIsEvenWrong)

/-- 'laws.FnExactSpreadOf': WHATEVER THE INPUT: true; the input reads as it did. -/
def fnExactSpreadOfSpec : ChangeSpec := { name := "fnExactSpreadOf", fn := fun _ => fun
  | [d] => { results := [.lit (.bool true)], args := [d] }
  | _ => none }
def fnExactSpreadOfRow : OpenClaim := { program := "ythjkblekccpafaa", sum := "842f64d7300db68a56f5d3021199d2de3e6e830cec5ba68c81b9a4af8d9528b9", func := "loop.example/g03204/laws.FnExactSpreadOf", spec := "fnExactSpreadOf", unfollowed := true, recurses := true, apart := false }
def FnExactSpreadOfSaid : Prop := fnExactSpreadOfRow.holds Try.pinned (OpenSpec.ofChange fnExactSpreadOfSpec)

/-- ITS FALSE NEIGHBOUR: 'it returns false'. Refute it at one input. -/
def fnExactSpreadOfWrong : ChangeSpec := { name := "fnExactSpreadOf", fn := fun _ => fun
  | [d] => { results := [.lit (.bool false)], args := [d] }
  | _ => none }
def FnExactSpreadOfWrongFalsely : Prop := fnExactSpreadOfRow.holds Try.pinned (OpenSpec.ofChange fnExactSpreadOfWrong)

/-- 'laws.FnExactMostSpread': WHATEVER THE INPUT: true; the input reads as it did. -/
def fnExactMostSpreadSpec : ChangeSpec := { name := "fnExactMostSpread", fn := fun _ => fun
  | [d1, d2] => { results := [.lit (.bool true)], args := [d1, d2] }
  | _ => none }
def fnExactMostSpreadRow : OpenClaim := { program := "ythjkblekccpafaa", sum := "842f64d7300db68a56f5d3021199d2de3e6e830cec5ba68c81b9a4af8d9528b9", func := "loop.example/g03204/laws.FnExactMostSpread", spec := "fnExactMostSpread", unfollowed := true, recurses := true, apart := false }
def FnExactMostSpreadSaid : Prop := fnExactMostSpreadRow.holds Try.pinned (OpenSpec.ofChange fnExactMostSpreadSpec)

/-- ITS FALSE NEIGHBOUR: 'it returns false'. Refute it at one input. -/
def fnExactMostSpreadWrong : ChangeSpec := { name := "fnExactMostSpread", fn := fun _ => fun
  | [d1, d2] => { results := [.lit (.bool false)], args := [d1, d2] }
  | _ => none }
def FnExactMostSpreadWrongFalsely : Prop := fnExactMostSpreadRow.holds Try.pinned (OpenSpec.ofChange fnExactMostSpreadWrong)

/-- 'laws.FnExactCountEven': WHATEVER THE INPUT: true; the input reads as it did. -/
def fnExactCountEvenSpec : ChangeSpec := { name := "fnExactCountEven", fn := fun _ => fun
  | [d1, d2] => { results := [.lit (.bool true)], args := [d1, d2] }
  | _ => none }
def fnExactCountEvenRow : OpenClaim := { program := "ythjkblekccpafaa", sum := "842f64d7300db68a56f5d3021199d2de3e6e830cec5ba68c81b9a4af8d9528b9", func := "loop.example/g03204/laws.FnExactCountEven", spec := "fnExactCountEven", recurses := true, apart := false }
def FnExactCountEvenSaid : Prop := fnExactCountEvenRow.holds Try.pinned (OpenSpec.ofChange fnExactCountEvenSpec)

/-- ITS FALSE NEIGHBOUR: 'it returns false'. Refute it at one input. -/
def fnExactCountEvenWrong : ChangeSpec := { name := "fnExactCountEven", fn := fun _ => fun
  | [d1, d2] => { results := [.lit (.bool false)], args := [d1, d2] }
  | _ => none }
def FnExactCountEvenWrongFalsely : Prop := fnExactCountEvenRow.holds Try.pinned (OpenSpec.ofChange fnExactCountEvenWrong)

/-- 'laws.FnExactNearestEven': WHATEVER THE INPUT: true; the input reads as it did. -/
def fnExactNearestEvenSpec : ChangeSpec := { name := "fnExactNearestEven", fn := fun _ => fun
  | [d] => { results := [.lit (.bool true)], args := [d] }
  | _ => none }
def fnExactNearestEvenRow : OpenClaim := { program := "ythjkblekccpafaa", sum := "842f64d7300db68a56f5d3021199d2de3e6e830cec5ba68c81b9a4af8d9528b9", func := "loop.example/g03204/laws.FnExactNearestEven", spec := "fnExactNearestEven", recurses := true, apart := false }
def FnExactNearestEvenSaid : Prop := fnExactNearestEvenRow.holds Try.pinned (OpenSpec.ofChange fnExactNearestEvenSpec)

/-- ITS FALSE NEIGHBOUR: 'it returns false'. Refute it at one input. -/
def fnExactNearestEvenWrong : ChangeSpec := { name := "fnExactNearestEven", fn := fun _ => fun
  | [d] => { results := [.lit (.bool false)], args := [d] }
  | _ => none }
def FnExactNearestEvenWrongFalsely : Prop := fnExactNearestEvenRow.holds Try.pinned (OpenSpec.ofChange fnExactNearestEvenWrong)

/- THE SECOND FORM. 'bulk': how many values and letters a reading holds, each counted each time it is reached (what is shared counts as often as it is met; a slice's spare places count too). A statement '..UptoSaid' is the law's where the arguments, and the package variables that the reading takes, are together of bulk at most 1048576: NARROWER than '..Said'. Prove '..Said' where nothing that the law and all that it calls make is longer than what came in: it says more and counts as full. Else prove '..UptoSaid'. A law counts once. -/
mutual
def uptoBulk {H : Type} : DataW H → Nat
  | .lit (.string bytes) => bytes.length + 1
  | .lit _ => 1
  | .nil => 1
  | .ptr d => uptoBulk d + 1
  | .slice elems spare => uptoBulkAll elems + uptoBulkAll spare + 1
  | .agg parts => uptoBulkAll parts + 1
  | .iface _ d => uptoBulk d + 1
  | .map entries => uptoBulkEntries entries + 1
  | .held _ => 1
def uptoBulkAll {H : Type} : List (DataW H) → Nat
  | [] => 0
  | d :: r => uptoBulk d + uptoBulkAll r
def uptoBulkEntries {H : Type} : List (Lit × DataW H) → Nat
  | [] => 0
  | x :: r => uptoBulkEntry x + uptoBulkEntries r
def uptoBulkEntry {H : Type} : Lit × DataW H → Nat
  | (.string bytes, d) => bytes.length + uptoBulk d + 1
  | (_, d) => uptoBulk d + 1
 end
def uptoSmall : (H : Type) → List (DataW H) → Bool := fun _ ds => decide (uptoBulkAll ds ≤ 1048576)
def OpenSpec.upto (s : _root_.Go.ChangeSpec) : _root_.Go.OpenSpec := { _root_.Go.OpenSpec.ofChange s with cond := some uptoSmall }

/-- 'laws.FnExactEvenRhythm', WHERE WHAT IT READS IS OF BULK AT MOST 1048576: true; the input reads as it did. -/
def fnExactEvenRhythmUptoRow : OpenClaim := { program := "ythjkblekccpafaa", sum := "842f64d7300db68a56f5d3021199d2de3e6e830cec5ba68c81b9a4af8d9528b9", func := "loop.example/g03204/laws.FnExactEvenRhythm", spec := "fnExactEvenRhythm", apart := false, narrowed := true }
def FnExactEvenRhythmUptoSaid : Prop := fnExactEvenRhythmUptoRow.holds Try.pinned (OpenSpec.upto fnExactEvenRhythmSpec)

/-- 'laws.FnExactShiftedEven', WHERE WHAT IT READS IS OF BULK AT MOST 1048576: true; the input reads as it did. -/
def fnExactShiftedEvenUptoRow : OpenClaim := { program := "ythjkblekccpafaa", sum := "842f64d7300db68a56f5d3021199d2de3e6e830cec5ba68c81b9a4af8d9528b9", func := "loop.example/g03204/laws.FnExactShiftedEven", spec := "fnExactShiftedEven", apart := false, narrowed := true }
def FnExactShiftedEvenUptoSaid : Prop := fnExactShiftedEvenUptoRow.holds Try.pinned (OpenSpec.upto fnExactShiftedEvenSpec)

/-- 'laws.FnExactGroupedEven', WHERE WHAT IT READS IS OF BULK AT MOST 1048576: true; the input reads as it did. -/
def fnExactGroupedEvenUptoRow : OpenClaim := { program := "ythjkblekccpafaa", sum := "842f64d7300db68a56f5d3021199d2de3e6e830cec5ba68c81b9a4af8d9528b9", func := "loop.example/g03204/laws.FnExactGroupedEven", spec := "fnExactGroupedEven", inPlace := ["internal/abi.NoEscape", "internal/bytealg.MakeNoZero"], apart := false, narrowed := true }
def FnExactGroupedEvenUptoSaid : Prop := fnExactGroupedEvenUptoRow.holds Try.pinned (OpenSpec.upto fnExactGroupedEvenSpec)

/-- 'laws.FnExactIsEven', WHERE WHAT IT READS IS OF BULK AT MOST 1048576: true; the input reads as it did. -/
def fnExactIsEvenUptoRow : OpenClaim := { program := "ythjkblekccpafaa", sum := "842f64d7300db68a56f5d3021199d2de3e6e830cec5ba68c81b9a4af8d9528b9", func := "loop.example/g03204/laws.FnExactIsEven", spec := "fnExactIsEven", apart := false, narrowed := true }
def FnExactIsEvenUptoSaid : Prop := fnExactIsEvenUptoRow.holds Try.pinned (OpenSpec.upto fnExactIsEvenSpec)

/-- 'laws.FnExactSpreadOf', WHERE WHAT IT READS IS OF BULK AT MOST 1048576: true; the input reads as it did. -/
def fnExactSpreadOfUptoRow : OpenClaim := { program := "ythjkblekccpafaa", sum := "842f64d7300db68a56f5d3021199d2de3e6e830cec5ba68c81b9a4af8d9528b9", func := "loop.example/g03204/laws.FnExactSpreadOf", spec := "fnExactSpreadOf", unfollowed := true, recurses := true, apart := false, narrowed := true }
def FnExactSpreadOfUptoSaid : Prop := fnExactSpreadOfUptoRow.holds Try.pinned (OpenSpec.upto fnExactSpreadOfSpec)

/-- 'laws.FnExactMostSpread', WHERE WHAT IT READS IS OF BULK AT MOST 1048576: true; the input reads as it did. -/
def fnExactMostSpreadUptoRow : OpenClaim := { program := "ythjkblekccpafaa", sum := "842f64d7300db68a56f5d3021199d2de3e6e830cec5ba68c81b9a4af8d9528b9", func := "loop.example/g03204/laws.FnExactMostSpread", spec := "fnExactMostSpread", unfollowed := true, recurses := true, apart := false, narrowed := true }
def FnExactMostSpreadUptoSaid : Prop := fnExactMostSpreadUptoRow.holds Try.pinned (OpenSpec.upto fnExactMostSpreadSpec)

/-- 'laws.FnExactCountEven', WHERE WHAT IT READS IS OF BULK AT MOST 1048576: true; the input reads as it did. -/
def fnExactCountEvenUptoRow : OpenClaim := { program := "ythjkblekccpafaa", sum := "842f64d7300db68a56f5d3021199d2de3e6e830cec5ba68c81b9a4af8d9528b9", func := "loop.example/g03204/laws.FnExactCountEven", spec := "fnExactCountEven", recurses := true, apart := false, narrowed := true }
def FnExactCountEvenUptoSaid : Prop := fnExactCountEvenUptoRow.holds Try.pinned (OpenSpec.upto fnExactCountEvenSpec)

/-- 'laws.FnExactNearestEven', WHERE WHAT IT READS IS OF BULK AT MOST 1048576: true; the input reads as it did. -/
def fnExactNearestEvenUptoRow : OpenClaim := { program := "ythjkblekccpafaa", sum := "842f64d7300db68a56f5d3021199d2de3e6e830cec5ba68c81b9a4af8d9528b9", func := "loop.example/g03204/laws.FnExactNearestEven", spec := "fnExactNearestEven", recurses := true, apart := false, narrowed := true }
def FnExactNearestEvenUptoSaid : Prop := fnExactNearestEvenUptoRow.holds Try.pinned (OpenSpec.upto fnExactNearestEvenSpec)

end Rows
end Go.Proofs.Ythjkblekccpafaa
