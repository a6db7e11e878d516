/-
  No cell of these rows narrows 'for every input' (looked for: loops, veiled, ifaces, maps, wideKeys, modest, calm, conditions, laid).
  DERIVED. THE GIVEN ROWS OF THIS SEAT. 9 by the template 'for every input the law returns true; each argument reads behind the call as it read before'; 0 by the template 'total and deterministic' (their statements: YtldpikcgeijkpaaTotals.lean).
  GIVEN WITH THE SEED: the statements are not yours to turn. If you find one false, say at which input.
  Laid BY PROGRAM, IN A SANDBOX (cutbox-rows.mjs): the forced cells as the released guide's own fill.sh prints them over the translation 287e8772d524b194… (all of the seat's roots in one cut). By AI agents, Wed Nov 11 2026. No macro, syntax, notation, axiom, sorry.
-/
import Derived.Test.YtldpikcgeijkpaaChecked
import GoSem.Claim
import GoSem.ClaimJoined
import GoSem.ClaimMapViews
import Derived.JoinedTies
import Derived.KernelRfl
namespace Go.Proofs.Ytldpikcgeijkpaa
/- THE CELL 'sum', in the pinned program and in every row, IS THE sha256 OF THE DUMP (.gsa) THAT YtldpikcgeijkpaaProg.lean LOADS. Nothing in Lean hashes anything: it is a label: what it is worth is what the hold of that sum in a sandbox is worth. -/
noncomputable def Try.pinned : Pinned := { name := "ytldpikcgeijkpaa", sum := "287e8772d524b194ef33ed5b80d5d2c2190835ac2ffba4f5d51e8604077a0ae3", checked := Try.checked }
namespace Rows
def none {H : Type} : Left H := { results := [], args := [] }

/-- 'laws.FnCanons': WHATEVER THE INPUT: true; the input reads as it did. -/
def fnCanonsSpec : ChangeSpec := { name := "fnCanons", fn := fun _ => fun
  | [d] => { results := [.lit (.bool true)], args := [d] }
  | _ => none }
def fnCanonsRow : OpenClaim := { program := "ytldpikcgeijkpaa", sum := "287e8772d524b194ef33ed5b80d5d2c2190835ac2ffba4f5d51e8604077a0ae3", func := "loop.example/g03204/laws.FnCanons", spec := "fnCanons", inPlace := ["internal/abi.NoEscape"], unfollowed := true, recurses := true, apart := false }
def FnCanonsSaid : Prop := fnCanonsRow.holds Try.pinned (OpenSpec.ofChange fnCanonsSpec)

/-- ITS FALSE NEIGHBOUR: 'it returns false'. Refute it at one input. -/
def fnCanonsWrong : ChangeSpec := { name := "fnCanons", fn := fun _ => fun
  | [d] => { results := [.lit (.bool false)], args := [d] }
  | _ => none }
def FnCanonsWrongFalsely : Prop := fnCanonsRow.holds Try.pinned (OpenSpec.ofChange fnCanonsWrong)

/-- 'laws.FnExactPatternOk': WHATEVER THE INPUT: true; the input reads as it did. -/
def fnExactPatternOkSpec : ChangeSpec := { name := "fnExactPatternOk", fn := fun _ => fun
  | [d] => { results := [.lit (.bool true)], args := [d] }
  | _ => none }
def fnExactPatternOkRow : OpenClaim := { program := "ytldpikcgeijkpaa", sum := "287e8772d524b194ef33ed5b80d5d2c2190835ac2ffba4f5d51e8604077a0ae3", func := "loop.example/g03204/laws.FnExactPatternOk", spec := "fnExactPatternOk", apart := false }
def FnExactPatternOkSaid : Prop := fnExactPatternOkRow.holds Try.pinned (OpenSpec.ofChange fnExactPatternOkSpec)

/-- ITS FALSE NEIGHBOUR: 'it returns false'. Refute it at one input. -/
def fnExactPatternOkWrong : ChangeSpec := { name := "fnExactPatternOk", fn := fun _ => fun
  | [d] => { results := [.lit (.bool false)], args := [d] }
  | _ => none }
def FnExactPatternOkWrongFalsely : Prop := fnExactPatternOkRow.holds Try.pinned (OpenSpec.ofChange fnExactPatternOkWrong)

/-- 'laws.FnExactEntriesOf': WHATEVER THE INPUT: true; the input reads as it did. -/
def fnExactEntriesOfSpec : ChangeSpec := { name := "fnExactEntriesOf", fn := fun _ => fun
  | [d1, d2] => { results := [.lit (.bool true)], args := [d1, d2] }
  | _ => none }
def fnExactEntriesOfRow : OpenClaim := { program := "ytldpikcgeijkpaa", sum := "287e8772d524b194ef33ed5b80d5d2c2190835ac2ffba4f5d51e8604077a0ae3", func := "loop.example/g03204/laws.FnExactEntriesOf", spec := "fnExactEntriesOf", apart := false }
def FnExactEntriesOfSaid : Prop := fnExactEntriesOfRow.holds Try.pinned (OpenSpec.ofChange fnExactEntriesOfSpec)

/-- ITS FALSE NEIGHBOUR: 'it returns false'. Refute it at one input. -/
def fnExactEntriesOfWrong : ChangeSpec := { name := "fnExactEntriesOf", fn := fun _ => fun
  | [d1, d2] => { results := [.lit (.bool false)], args := [d1, d2] }
  | _ => none }
def FnExactEntriesOfWrongFalsely : Prop := fnExactEntriesOfRow.holds Try.pinned (OpenSpec.ofChange fnExactEntriesOfWrong)

/-- 'laws.FnExactCanGoOn': WHATEVER THE INPUT: true; the input reads as it did. -/
def fnExactCanGoOnSpec : ChangeSpec := { name := "fnExactCanGoOn", fn := fun _ => fun
  | [d] => { results := [.lit (.bool true)], args := [d] }
  | _ => none }
def fnExactCanGoOnRow : OpenClaim := { program := "ytldpikcgeijkpaa", sum := "287e8772d524b194ef33ed5b80d5d2c2190835ac2ffba4f5d51e8604077a0ae3", func := "loop.example/g03204/laws.FnExactCanGoOn", spec := "fnExactCanGoOn", apart := false }
def FnExactCanGoOnSaid : Prop := fnExactCanGoOnRow.holds Try.pinned (OpenSpec.ofChange fnExactCanGoOnSpec)

/-- ITS FALSE NEIGHBOUR: 'it returns false'. Refute it at one input. -/
def fnExactCanGoOnWrong : ChangeSpec := { name := "fnExactCanGoOn", fn := fun _ => fun
  | [d] => { results := [.lit (.bool false)], args := [d] }
  | _ => none }
def FnExactCanGoOnWrongFalsely : Prop := fnExactCanGoOnRow.holds Try.pinned (OpenSpec.ofChange fnExactCanGoOnWrong)

/-- 'laws.FnExactLinePeriod': WHATEVER THE INPUT: true; the input reads as it did. -/
def fnExactLinePeriodSpec : ChangeSpec := { name := "fnExactLinePeriod", fn := fun _ => fun
  | [d] => { results := [.lit (.bool true)], args := [d] }
  | _ => none }
def fnExactLinePeriodRow : OpenClaim := { program := "ytldpikcgeijkpaa", sum := "287e8772d524b194ef33ed5b80d5d2c2190835ac2ffba4f5d51e8604077a0ae3", func := "loop.example/g03204/laws.FnExactLinePeriod", spec := "fnExactLinePeriod", apart := false }
def FnExactLinePeriodSaid : Prop := fnExactLinePeriodRow.holds Try.pinned (OpenSpec.ofChange fnExactLinePeriodSpec)

/-- ITS FALSE NEIGHBOUR: 'it returns false'. Refute it at one input. -/
def fnExactLinePeriodWrong : ChangeSpec := { name := "fnExactLinePeriod", fn := fun _ => fun
  | [d] => { results := [.lit (.bool false)], args := [d] }
  | _ => none }
def FnExactLinePeriodWrongFalsely : Prop := fnExactLinePeriodRow.holds Try.pinned (OpenSpec.ofChange fnExactLinePeriodWrong)

/-- 'laws.FnExactPeriodEntries': WHATEVER THE INPUT: true; the input reads as it did. -/
def fnExactPeriodEntriesSpec : ChangeSpec := { name := "fnExactPeriodEntries", fn := fun _ => fun
  | [d] => { results := [.lit (.bool true)], args := [d] }
  | _ => none }
def fnExactPeriodEntriesRow : OpenClaim := { program := "ytldpikcgeijkpaa", sum := "287e8772d524b194ef33ed5b80d5d2c2190835ac2ffba4f5d51e8604077a0ae3", func := "loop.example/g03204/laws.FnExactPeriodEntries", spec := "fnExactPeriodEntries", apart := false }
def FnExactPeriodEntriesSaid : Prop := fnExactPeriodEntriesRow.holds Try.pinned (OpenSpec.ofChange fnExactPeriodEntriesSpec)

/-- ITS FALSE NEIGHBOUR: 'it returns false'. Refute it at one input. -/
def fnExactPeriodEntriesWrong : ChangeSpec := { name := "fnExactPeriodEntries", fn := fun _ => fun
  | [d] => { results := [.lit (.bool false)], args := [d] }
  | _ => none }
def FnExactPeriodEntriesWrongFalsely : Prop := fnExactPeriodEntriesRow.holds Try.pinned (OpenSpec.ofChange fnExactPeriodEntriesWrong)

/-- 'laws.FnExactLineTiling': WHATEVER THE INPUT: true; the input reads as it did. -/
def fnExactLineTilingSpec : ChangeSpec := { name := "fnExactLineTiling", fn := fun _ => fun
  | [d] => { results := [.lit (.bool true)], args := [d] }
  | _ => none }
def fnExactLineTilingRow : OpenClaim := { program := "ytldpikcgeijkpaa", sum := "287e8772d524b194ef33ed5b80d5d2c2190835ac2ffba4f5d51e8604077a0ae3", func := "loop.example/g03204/laws.FnExactLineTiling", spec := "fnExactLineTiling", apart := false }
def FnExactLineTilingSaid : Prop := fnExactLineTilingRow.holds Try.pinned (OpenSpec.ofChange fnExactLineTilingSpec)

/-- ITS FALSE NEIGHBOUR: 'it returns false'. Refute it at one input. -/
def fnExactLineTilingWrong : ChangeSpec := { name := "fnExactLineTiling", fn := fun _ => fun
  | [d] => { results := [.lit (.bool false)], args := [d] }
  | _ => none }
def FnExactLineTilingWrongFalsely : Prop := fnExactLineTilingRow.holds Try.pinned (OpenSpec.ofChange fnExactLineTilingWrong)

/-- 'laws.FnExactFailTime': WHATEVER THE INPUT: true; the input reads as it did. -/
def fnExactFailTimeSpec : ChangeSpec := { name := "fnExactFailTime", fn := fun _ => fun
  | [d] => { results := [.lit (.bool true)], args := [d] }
  | _ => none }
def fnExactFailTimeRow : OpenClaim := { program := "ytldpikcgeijkpaa", sum := "287e8772d524b194ef33ed5b80d5d2c2190835ac2ffba4f5d51e8604077a0ae3", func := "loop.example/g03204/laws.FnExactFailTime", spec := "fnExactFailTime", apart := false }
def FnExactFailTimeSaid : Prop := fnExactFailTimeRow.holds Try.pinned (OpenSpec.ofChange fnExactFailTimeSpec)

/-- ITS FALSE NEIGHBOUR: 'it returns false'. Refute it at one input. -/
def fnExactFailTimeWrong : ChangeSpec := { name := "fnExactFailTime", fn := fun _ => fun
  | [d] => { results := [.lit (.bool false)], args := [d] }
  | _ => none }
def FnExactFailTimeWrongFalsely : Prop := fnExactFailTimeRow.holds Try.pinned (OpenSpec.ofChange fnExactFailTimeWrong)

/-- 'laws.FnExactBlockLength': WHATEVER THE INPUT: true; the input reads as it did. -/
def fnExactBlockLengthSpec : ChangeSpec := { name := "fnExactBlockLength", fn := fun _ => fun
  | [d] => { results := [.lit (.bool true)], args := [d] }
  | _ => none }
def fnExactBlockLengthRow : OpenClaim := { program := "ytldpikcgeijkpaa", sum := "287e8772d524b194ef33ed5b80d5d2c2190835ac2ffba4f5d51e8604077a0ae3", func := "loop.example/g03204/laws.FnExactBlockLength", spec := "fnExactBlockLength", apart := false }
def FnExactBlockLengthSaid : Prop := fnExactBlockLengthRow.holds Try.pinned (OpenSpec.ofChange fnExactBlockLengthSpec)

/-- ITS FALSE NEIGHBOUR: 'it returns false'. Refute it at one input. -/
def fnExactBlockLengthWrong : ChangeSpec := { name := "fnExactBlockLength", fn := fun _ => fun
  | [d] => { results := [.lit (.bool false)], args := [d] }
  | _ => none }
def FnExactBlockLengthWrongFalsely : Prop := fnExactBlockLengthRow.holds Try.pinned (OpenSpec.ofChange fnExactBlockLengthWrong)

/- THE SECOND FORM. 'bulk': how many values and letters a reading holds, each counted each time it is reached (what is shared counts as often as it is met; a slice's spare places count too). A statement '..UptoSaid' is the law's where the arguments, and the package variables that the reading takes, are together of bulk at most 1048576: NARROWER than '..Said'. Prove '..Said' where nothing that the law and all that it calls make is longer than what came in: it says more and counts as full. Else prove '..UptoSaid'. A law counts once. -/
mutual
def uptoBulk {H : Type} : DataW H → Nat
  | .lit (.string bytes) => bytes.length + 1
  | .lit _ => 1
  | .nil => 1
  | .ptr d => uptoBulk d + 1
  | .slice elems spare => uptoBulkAll elems + uptoBulkAll spare + 1
  | .agg parts => uptoBulkAll parts + 1
  | .iface _ d => uptoBulk d + 1
  | .map entries => uptoBulkEntries entries + 1
  | .held _ => 1
def uptoBulkAll {H : Type} : List (DataW H) → Nat
  | [] => 0
  | d :: r => uptoBulk d + uptoBulkAll r
def uptoBulkEntries {H : Type} : List (Lit × DataW H) → Nat
  | [] => 0
  | x :: r => uptoBulkEntry x + uptoBulkEntries r
def uptoBulkEntry {H : Type} : Lit × DataW H → Nat
  | (.string bytes, d) => bytes.length + uptoBulk d + 1
  | (_, d) => uptoBulk d + 1
 end
def uptoSmall : (H : Type) → List (DataW H) → Bool := fun _ ds => decide (uptoBulkAll ds ≤ 1048576)
def OpenSpec.upto (s : _root_.Go.ChangeSpec) : _root_.Go.OpenSpec := { _root_.Go.OpenSpec.ofChange s with cond := some uptoSmall }

/-- 'laws.FnCanons', WHERE WHAT IT READS IS OF BULK AT MOST 1048576: true; the input reads as it did. -/
def fnCanonsUptoRow : OpenClaim := { program := "ytldpikcgeijkpaa", sum := "287e8772d524b194ef33ed5b80d5d2c2190835ac2ffba4f5d51e8604077a0ae3", func := "loop.example/g03204/laws.FnCanons", spec := "fnCanons", inPlace := ["internal/abi.NoEscape"], unfollowed := true, recurses := true, apart := false, narrowed := true }
def FnCanonsUptoSaid : Prop := fnCanonsUptoRow.holds Try.pinned (OpenSpec.upto fnCanonsSpec)

/-- 'laws.FnExactPatternOk', WHERE WHAT IT READS IS OF BULK AT MOST 1048576: true; the input reads as it did. -/
def fnExactPatternOkUptoRow : OpenClaim := { program := "ytldpikcgeijkpaa", sum := "287e8772d524b194ef33ed5b80d5d2c2190835ac2ffba4f5d51e8604077a0ae3", func := "loop.example/g03204/laws.FnExactPatternOk", spec := "fnExactPatternOk", apart := false, narrowed := true }
def FnExactPatternOkUptoSaid : Prop := fnExactPatternOkUptoRow.holds Try.pinned (OpenSpec.upto fnExactPatternOkSpec)

/-- 'laws.FnExactEntriesOf', WHERE WHAT IT READS IS OF BULK AT MOST 1048576: true; the input reads as it did. -/
def fnExactEntriesOfUptoRow : OpenClaim := { program := "ytldpikcgeijkpaa", sum := "287e8772d524b194ef33ed5b80d5d2c2190835ac2ffba4f5d51e8604077a0ae3", func := "loop.example/g03204/laws.FnExactEntriesOf", spec := "fnExactEntriesOf", apart := false, narrowed := true }
def FnExactEntriesOfUptoSaid : Prop := fnExactEntriesOfUptoRow.holds Try.pinned (OpenSpec.upto fnExactEntriesOfSpec)

/-- 'laws.FnExactCanGoOn', WHERE WHAT IT READS IS OF BULK AT MOST 1048576: true; the input reads as it did. -/
def fnExactCanGoOnUptoRow : OpenClaim := { program := "ytldpikcgeijkpaa", sum := "287e8772d524b194ef33ed5b80d5d2c2190835ac2ffba4f5d51e8604077a0ae3", func := "loop.example/g03204/laws.FnExactCanGoOn", spec := "fnExactCanGoOn", apart := false, narrowed := true }
def FnExactCanGoOnUptoSaid : Prop := fnExactCanGoOnUptoRow.holds Try.pinned (OpenSpec.upto fnExactCanGoOnSpec)

/-- 'laws.FnExactLinePeriod', WHERE WHAT IT READS IS OF BULK AT MOST 1048576: true; the input reads as it did. -/
def fnExactLinePeriodUptoRow : OpenClaim := { program := "ytldpikcgeijkpaa", sum := "287e8772d524b194ef33ed5b80d5d2c2190835ac2ffba4f5d51e8604077a0ae3", func := "loop.example/g03204/laws.FnExactLinePeriod", spec := "fnExactLinePeriod", apart := false, narrowed := true }
def FnExactLinePeriodUptoSaid : Prop := fnExactLinePeriodUptoRow.holds Try.pinned (OpenSpec.upto fnExactLinePeriodSpec)

/-- 'laws.FnExactPeriodEntries', WHERE WHAT IT READS IS OF BULK AT MOST 1048576: true; the input reads as it did. -/
def fnExactPeriodEntriesUptoRow : OpenClaim := { program := "ytldpikcgeijkpaa", sum := "287e8772d524b194ef33ed5b80d5d2c2190835ac2ffba4f5d51e8604077a0ae3", func := "loop.example/g03204/laws.FnExactPeriodEntries", spec := "fnExactPeriodEntries", apart := false, narrowed := true }
def FnExactPeriodEntriesUptoSaid : Prop := fnExactPeriodEntriesUptoRow.holds Try.pinned (OpenSpec.upto fnExactPeriodEntriesSpec)

/-- 'laws.FnExactLineTiling', WHERE WHAT IT READS IS OF BULK AT MOST 1048576: true; the input reads as it did. -/
def fnExactLineTilingUptoRow : OpenClaim := { program := "ytldpikcgeijkpaa", sum := "287e8772d524b194ef33ed5b80d5d2c2190835ac2ffba4f5d51e8604077a0ae3", func := "loop.example/g03204/laws.FnExactLineTiling", spec := "fnExactLineTiling", apart := false, narrowed := true }
def FnExactLineTilingUptoSaid : Prop := fnExactLineTilingUptoRow.holds Try.pinned (OpenSpec.upto fnExactLineTilingSpec)

/-- 'laws.FnExactFailTime', WHERE WHAT IT READS IS OF BULK AT MOST 1048576: true; the input reads as it did. -/
def fnExactFailTimeUptoRow : OpenClaim := { program := "ytldpikcgeijkpaa", sum := "287e8772d524b194ef33ed5b80d5d2c2190835ac2ffba4f5d51e8604077a0ae3", func := "loop.example/g03204/laws.FnExactFailTime", spec := "fnExactFailTime", apart := false, narrowed := true }
def FnExactFailTimeUptoSaid : Prop := fnExactFailTimeUptoRow.holds Try.pinned (OpenSpec.upto fnExactFailTimeSpec)

/-- 'laws.FnExactBlockLength', WHERE WHAT IT READS IS OF BULK AT MOST 1048576: true; the input reads as it did. -/
def fnExactBlockLengthUptoRow : OpenClaim := { program := "ytldpikcgeijkpaa", sum := "287e8772d524b194ef33ed5b80d5d2c2190835ac2ffba4f5d51e8604077a0ae3", func := "loop.example/g03204/laws.FnExactBlockLength", spec := "fnExactBlockLength", apart := false, narrowed := true }
def FnExactBlockLengthUptoSaid : Prop := fnExactBlockLengthUptoRow.holds Try.pinned (OpenSpec.upto fnExactBlockLengthSpec)

end Rows
end Go.Proofs.Ytldpikcgeijkpaa
