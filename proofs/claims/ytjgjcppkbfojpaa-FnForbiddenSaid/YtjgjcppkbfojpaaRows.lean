/-
  No cell of these rows narrows 'for every input' (looked for: loops, veiled, ifaces, maps, wideKeys, modest, calm, conditions, laid).
  DERIVED. THE GIVEN ROWS OF THIS SEAT. 7 by the template 'for every input the law returns true; each argument reads behind the call as it read before'; 0 by the template 'total and deterministic' (their statements: YtjgjcppkbfojpaaTotals.lean).
  GIVEN WITH THE SEED: the statements are not yours to turn. If you find one false, say at which input.
  Laid BY PROGRAM, IN A SANDBOX (cutbox-rows.mjs): the forced cells as the released guide's own fill.sh prints them over the translation a9ee8b3e7c26eb4b… (all of the seat's roots in one cut). By AI agents, Wed Nov 11 2026. No macro, syntax, notation, axiom, sorry.
-/
import Derived.Test.YtjgjcppkbfojpaaChecked
import GoSem.Claim
import GoSem.ClaimJoined
import GoSem.ClaimMapViews
import Derived.JoinedTies
import Derived.KernelRfl
namespace Go.Proofs.Ytjgjcppkbfojpaa
/- THE CELL 'sum', in the pinned program and in every row, IS THE sha256 OF THE DUMP (.gsa) THAT YtjgjcppkbfojpaaProg.lean LOADS. Nothing in Lean hashes anything: it is a label: what it is worth is what the hold of that sum in a sandbox is worth. -/
noncomputable def Try.pinned : Pinned := { name := "ytjgjcppkbfojpaa", sum := "a9ee8b3e7c26eb4bb5398d0fc6f3f4585ba77b3528b4d1aa2711c7d74523b78f", checked := Try.checked }
namespace Rows
def none {H : Type} : Left H := { results := [], args := [] }

/-- 'laws.FnRhythms': WHATEVER THE INPUT: true; the input reads as it did. -/
def fnRhythmsSpec : ChangeSpec := { name := "fnRhythms", fn := fun _ => fun
  | [d] => { results := [.lit (.bool true)], args := [d] }
  | _ => none }
def fnRhythmsRow : OpenClaim := { program := "ytjgjcppkbfojpaa", sum := "a9ee8b3e7c26eb4bb5398d0fc6f3f4585ba77b3528b4d1aa2711c7d74523b78f", func := "loop.example/g03204/laws.FnRhythms", spec := "fnRhythms", recurses := true, plainKeys := false, apart := false }
def FnRhythmsSaid : Prop := fnRhythmsRow.holds Try.pinned (OpenSpec.ofChange fnRhythmsSpec)

/-- ITS FALSE NEIGHBOUR: 'it returns false'. Refute it at one input. -/
def fnRhythmsWrong : ChangeSpec := { name := "fnRhythms", fn := fun _ => fun
  | [d] => { results := [.lit (.bool false)], args := [d] }
  | _ => none }
def FnRhythmsWrongFalsely : Prop := fnRhythmsRow.holds Try.pinned (OpenSpec.ofChange fnRhythmsWrong)

/-- 'laws.FnTwins': WHATEVER THE INPUT: true; the input reads as it did. -/
def fnTwinsSpec : ChangeSpec := { name := "fnTwins", fn := fun _ => fun
  | [d] => { results := [.lit (.bool true)], args := [d] }
  | _ => none }
def fnTwinsRow : OpenClaim := { program := "ytjgjcppkbfojpaa", sum := "a9ee8b3e7c26eb4bb5398d0fc6f3f4585ba77b3528b4d1aa2711c7d74523b78f", func := "loop.example/g03204/laws.FnTwins", spec := "fnTwins", inPlace := ["internal/abi.NoEscape"], unfollowed := true, recurses := true, plainKeys := false, apart := false }
def FnTwinsSaid : Prop := fnTwinsRow.holds Try.pinned (OpenSpec.ofChange fnTwinsSpec)

/-- ITS FALSE NEIGHBOUR: 'it returns false'. Refute it at one input. -/
def fnTwinsWrong : ChangeSpec := { name := "fnTwins", fn := fun _ => fun
  | [d] => { results := [.lit (.bool false)], args := [d] }
  | _ => none }
def FnTwinsWrongFalsely : Prop := fnTwinsRow.holds Try.pinned (OpenSpec.ofChange fnTwinsWrong)

/-- 'laws.FnForbidden': WHATEVER THE INPUT: true; the input reads as it did. -/
def fnForbiddenSpec : ChangeSpec := { name := "fnForbidden", fn := fun _ => fun
  | [d] => { results := [.lit (.bool true)], args := [d] }
  | _ => none }
def fnForbiddenRow : OpenClaim := { program := "ytjgjcppkbfojpaa", sum := "a9ee8b3e7c26eb4bb5398d0fc6f3f4585ba77b3528b4d1aa2711c7d74523b78f", func := "loop.example/g03204/laws.FnForbidden", spec := "fnForbidden", unfollowed := true, recurses := true, plainKeys := false, apart := false }
def FnForbiddenSaid : Prop := fnForbiddenRow.holds Try.pinned (OpenSpec.ofChange fnForbiddenSpec)

/-- ITS FALSE NEIGHBOUR: 'it returns false'. Refute it at one input. -/
def fnForbiddenWrong : ChangeSpec := { name := "fnForbidden", fn := fun _ => fun
  | [d] => { results := [.lit (.bool false)], args := [d] }
  | _ => none }
def FnForbiddenWrongFalsely : Prop := fnForbiddenRow.holds Try.pinned (OpenSpec.ofChange fnForbiddenWrong)

/-- 'laws.FnExactRepeatRhythm': WHATEVER THE INPUT: true; the input reads as it did. -/
def fnExactRepeatRhythmSpec : ChangeSpec := { name := "fnExactRepeatRhythm", fn := fun _ => fun
  | [d1, d2] => { results := [.lit (.bool true)], args := [d1, d2] }
  | _ => none }
def fnExactRepeatRhythmRow : OpenClaim := { program := "ytjgjcppkbfojpaa", sum := "a9ee8b3e7c26eb4bb5398d0fc6f3f4585ba77b3528b4d1aa2711c7d74523b78f", func := "loop.example/g03204/laws.FnExactRepeatRhythm", spec := "fnExactRepeatRhythm", plainKeys := false, apart := false }
def FnExactRepeatRhythmSaid : Prop := fnExactRepeatRhythmRow.holds Try.pinned (OpenSpec.ofChange fnExactRepeatRhythmSpec)

/-- ITS FALSE NEIGHBOUR: 'it returns false'. Refute it at one input. -/
def fnExactRepeatRhythmWrong : ChangeSpec := { name := "fnExactRepeatRhythm", fn := fun _ => fun
  | [d1, d2] => { results := [.lit (.bool false)], args := [d1, d2] }
  | _ => none }
def FnExactRepeatRhythmWrongFalsely : Prop := fnExactRepeatRhythmRow.holds Try.pinned (OpenSpec.ofChange fnExactRepeatRhythmWrong)

/-- 'laws.FnExactTwinsOf': WHATEVER THE INPUT: true; the input reads as it did. -/
def fnExactTwinsOfSpec : ChangeSpec := { name := "fnExactTwinsOf", fn := fun _ => fun
  | [d] => { results := [.lit (.bool true)], args := [d] }
  | _ => none }
def fnExactTwinsOfRow : OpenClaim := { program := "ytjgjcppkbfojpaa", sum := "a9ee8b3e7c26eb4bb5398d0fc6f3f4585ba77b3528b4d1aa2711c7d74523b78f", func := "loop.example/g03204/laws.FnExactTwinsOf", spec := "fnExactTwinsOf", inPlace := ["internal/abi.NoEscape"], unfollowed := true, recurses := true, plainKeys := false, apart := false }
def FnExactTwinsOfSaid : Prop := fnExactTwinsOfRow.holds Try.pinned (OpenSpec.ofChange fnExactTwinsOfSpec)

/-- ITS FALSE NEIGHBOUR: 'it returns false'. Refute it at one input. -/
def fnExactTwinsOfWrong : ChangeSpec := { name := "fnExactTwinsOf", fn := fun _ => fun
  | [d] => { results := [.lit (.bool false)], args := [d] }
  | _ => none }
def FnExactTwinsOfWrongFalsely : Prop := fnExactTwinsOfRow.holds Try.pinned (OpenSpec.ofChange fnExactTwinsOfWrong)

/-- 'laws.FnExactCountAvoiding': WHATEVER THE INPUT: true; the input reads as it did. -/
def fnExactCountAvoidingSpec : ChangeSpec := { name := "fnExactCountAvoiding", fn := fun _ => fun
  | [d1, d2, d3] => { results := [.lit (.bool true)], args := [d1, d2, d3] }
  | _ => none }
def fnExactCountAvoidingRow : OpenClaim := { program := "ytjgjcppkbfojpaa", sum := "a9ee8b3e7c26eb4bb5398d0fc6f3f4585ba77b3528b4d1aa2711c7d74523b78f", func := "loop.example/g03204/laws.FnExactCountAvoiding", spec := "fnExactCountAvoiding", unfollowed := true, recurses := true, plainKeys := false, apart := false }
def FnExactCountAvoidingSaid : Prop := fnExactCountAvoidingRow.holds Try.pinned (OpenSpec.ofChange fnExactCountAvoidingSpec)

/-- ITS FALSE NEIGHBOUR: 'it returns false'. Refute it at one input. -/
def fnExactCountAvoidingWrong : ChangeSpec := { name := "fnExactCountAvoiding", fn := fun _ => fun
  | [d1, d2, d3] => { results := [.lit (.bool false)], args := [d1, d2, d3] }
  | _ => none }
def FnExactCountAvoidingWrongFalsely : Prop := fnExactCountAvoidingRow.holds Try.pinned (OpenSpec.ofChange fnExactCountAvoidingWrong)

/-- 'laws.FnExactFirstAvoiding': WHATEVER THE INPUT: true; the input reads as it did. -/
def fnExactFirstAvoidingSpec : ChangeSpec := { name := "fnExactFirstAvoiding", fn := fun _ => fun
  | [d1, d2, d3] => { results := [.lit (.bool true)], args := [d1, d2, d3] }
  | _ => none }
def fnExactFirstAvoidingRow : OpenClaim := { program := "ytjgjcppkbfojpaa", sum := "a9ee8b3e7c26eb4bb5398d0fc6f3f4585ba77b3528b4d1aa2711c7d74523b78f", func := "loop.example/g03204/laws.FnExactFirstAvoiding", spec := "fnExactFirstAvoiding", unfollowed := true, recurses := true, plainKeys := false, apart := false }
def FnExactFirstAvoidingSaid : Prop := fnExactFirstAvoidingRow.holds Try.pinned (OpenSpec.ofChange fnExactFirstAvoidingSpec)

/-- ITS FALSE NEIGHBOUR: 'it returns false'. Refute it at one input. -/
def fnExactFirstAvoidingWrong : ChangeSpec := { name := "fnExactFirstAvoiding", fn := fun _ => fun
  | [d1, d2, d3] => { results := [.lit (.bool false)], args := [d1, d2, d3] }
  | _ => none }
def FnExactFirstAvoidingWrongFalsely : Prop := fnExactFirstAvoidingRow.holds Try.pinned (OpenSpec.ofChange fnExactFirstAvoidingWrong)

/- THE SECOND FORM. 'bulk': how many values and letters a reading holds, each counted each time it is reached (what is shared counts as often as it is met; a slice's spare places count too). A statement '..UptoSaid' is the law's where the arguments, and the package variables that the reading takes, are together of bulk at most 1048576: NARROWER than '..Said'. Prove '..Said' where nothing that the law and all that it calls make is longer than what came in: it says more and counts as full. Else prove '..UptoSaid'. A law counts once. -/
mutual
def uptoBulk {H : Type} : DataW H → Nat
  | .lit (.string bytes) => bytes.length + 1
  | .lit _ => 1
  | .nil => 1
  | .ptr d => uptoBulk d + 1
  | .slice elems spare => uptoBulkAll elems + uptoBulkAll spare + 1
  | .agg parts => uptoBulkAll parts + 1
  | .iface _ d => uptoBulk d + 1
  | .map entries => uptoBulkEntries entries + 1
  | .held _ => 1
def uptoBulkAll {H : Type} : List (DataW H) → Nat
  | [] => 0
  | d :: r => uptoBulk d + uptoBulkAll r
def uptoBulkEntries {H : Type} : List (Lit × DataW H) → Nat
  | [] => 0
  | x :: r => uptoBulkEntry x + uptoBulkEntries r
def uptoBulkEntry {H : Type} : Lit × DataW H → Nat
  | (.string bytes, d) => bytes.length + uptoBulk d + 1
  | (_, d) => uptoBulk d + 1
 end
def uptoSmall : (H : Type) → List (DataW H) → Bool := fun _ ds => decide (uptoBulkAll ds ≤ 1048576)
def OpenSpec.upto (s : _root_.Go.ChangeSpec) : _root_.Go.OpenSpec := { _root_.Go.OpenSpec.ofChange s with cond := some uptoSmall }

/-- 'laws.FnRhythms', WHERE WHAT IT READS IS OF BULK AT MOST 1048576: true; the input reads as it did. -/
def fnRhythmsUptoRow : OpenClaim := { program := "ytjgjcppkbfojpaa", sum := "a9ee8b3e7c26eb4bb5398d0fc6f3f4585ba77b3528b4d1aa2711c7d74523b78f", func := "loop.example/g03204/laws.FnRhythms", spec := "fnRhythms", recurses := true, plainKeys := false, apart := false, narrowed := true }
def FnRhythmsUptoSaid : Prop := fnRhythmsUptoRow.holds Try.pinned (OpenSpec.upto fnRhythmsSpec)

/-- 'laws.FnTwins', WHERE WHAT IT READS IS OF BULK AT MOST 1048576: true; the input reads as it did. -/
def fnTwinsUptoRow : OpenClaim := { program := "ytjgjcppkbfojpaa", sum := "a9ee8b3e7c26eb4bb5398d0fc6f3f4585ba77b3528b4d1aa2711c7d74523b78f", func := "loop.example/g03204/laws.FnTwins", spec := "fnTwins", inPlace := ["internal/abi.NoEscape"], unfollowed := true, recurses := true, plainKeys := false, apart := false, narrowed := true }
def FnTwinsUptoSaid : Prop := fnTwinsUptoRow.holds Try.pinned (OpenSpec.upto fnTwinsSpec)

/-- 'laws.FnForbidden', WHERE WHAT IT READS IS OF BULK AT MOST 1048576: true; the input reads as it did. -/
def fnForbiddenUptoRow : OpenClaim := { program := "ytjgjcppkbfojpaa", sum := "a9ee8b3e7c26eb4bb5398d0fc6f3f4585ba77b3528b4d1aa2711c7d74523b78f", func := "loop.example/g03204/laws.FnForbidden", spec := "fnForbidden", unfollowed := true, recurses := true, plainKeys := false, apart := false, narrowed := true }
def FnForbiddenUptoSaid : Prop := fnForbiddenUptoRow.holds Try.pinned (OpenSpec.upto fnForbiddenSpec)

/-- 'laws.FnExactRepeatRhythm', WHERE WHAT IT READS IS OF BULK AT MOST 1048576: true; the input reads as it did. -/
def fnExactRepeatRhythmUptoRow : OpenClaim := { program := "ytjgjcppkbfojpaa", sum := "a9ee8b3e7c26eb4bb5398d0fc6f3f4585ba77b3528b4d1aa2711c7d74523b78f", func := "loop.example/g03204/laws.FnExactRepeatRhythm", spec := "fnExactRepeatRhythm", plainKeys := false, apart := false, narrowed := true }
def FnExactRepeatRhythmUptoSaid : Prop := fnExactRepeatRhythmUptoRow.holds Try.pinned (OpenSpec.upto fnExactRepeatRhythmSpec)

/-- 'laws.FnExactTwinsOf', WHERE WHAT IT READS IS OF BULK AT MOST 1048576: true; the input reads as it did. -/
def fnExactTwinsOfUptoRow : OpenClaim := { program := "ytjgjcppkbfojpaa", sum := "a9ee8b3e7c26eb4bb5398d0fc6f3f4585ba77b3528b4d1aa2711c7d74523b78f", func := "loop.example/g03204/laws.FnExactTwinsOf", spec := "fnExactTwinsOf", inPlace := ["internal/abi.NoEscape"], unfollowed := true, recurses := true, plainKeys := false, apart := false, narrowed := true }
def FnExactTwinsOfUptoSaid : Prop := fnExactTwinsOfUptoRow.holds Try.pinned (OpenSpec.upto fnExactTwinsOfSpec)

/-- 'laws.FnExactCountAvoiding', WHERE WHAT IT READS IS OF BULK AT MOST 1048576: true; the input reads as it did. -/
def fnExactCountAvoidingUptoRow : OpenClaim := { program := "ytjgjcppkbfojpaa", sum := "a9ee8b3e7c26eb4bb5398d0fc6f3f4585ba77b3528b4d1aa2711c7d74523b78f", func := "loop.example/g03204/laws.FnExactCountAvoiding", spec := "fnExactCountAvoiding", unfollowed := true, recurses := true, plainKeys := false, apart := false, narrowed := true }
def FnExactCountAvoidingUptoSaid : Prop := fnExactCountAvoidingUptoRow.holds Try.pinned (OpenSpec.upto fnExactCountAvoidingSpec)

/-- 'laws.FnExactFirstAvoiding', WHERE WHAT IT READS IS OF BULK AT MOST 1048576: true; the input reads as it did. -/
def fnExactFirstAvoidingUptoRow : OpenClaim := { program := "ytjgjcppkbfojpaa", sum := "a9ee8b3e7c26eb4bb5398d0fc6f3f4585ba77b3528b4d1aa2711c7d74523b78f", func := "loop.example/g03204/laws.FnExactFirstAvoiding", spec := "fnExactFirstAvoiding", unfollowed := true, recurses := true, plainKeys := false, apart := false, narrowed := true }
def FnExactFirstAvoidingUptoSaid : Prop := fnExactFirstAvoidingUptoRow.holds Try.pinned (OpenSpec.upto fnExactFirstAvoidingSpec)

end Rows
end Go.Proofs.Ytjgjcppkbfojpaa
