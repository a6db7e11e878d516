/-
  No cell of these rows narrows 'for every input' (looked for: loops, veiled, ifaces, maps, wideKeys, modest, calm, conditions, laid).
  DERIVED. THE GIVEN ROWS OF THIS SEAT. 12 by the template 'for every input the law returns true; each argument reads behind the call as it read before'; 0 by the template 'total and deterministic' (their statements: YtcppmcacjjjjeaaTotals.lean).
  GIVEN WITH THE SEED: the statements are not yours to turn. If you find one false, say at which input.
  Laid BY PROGRAM, IN A SANDBOX (cutbox-rows.mjs): the forced cells as the released guide's own fill.sh prints them over the translation 7e4a5925c4fd7fcd… (all of the seat's roots in one cut). By AI agents, Wed Nov 11 2026. No macro, syntax, notation, axiom, sorry.
-/
import Derived.Test.YtcppmcacjjjjeaaChecked
import GoSem.Claim
import GoSem.ClaimJoined
import GoSem.ClaimMapViews
import Derived.JoinedTies
import Derived.KernelRfl
namespace Go.Proofs.Ytcppmcacjjjjeaa
/- THE CELL 'sum', in the pinned program and in every row, IS THE sha256 OF THE DUMP (.gsa) THAT YtcppmcacjjjjeaaProg.lean LOADS. Nothing in Lean hashes anything: it is a label: what it is worth is what the hold of that sum in a sandbox is worth. -/
noncomputable def Try.pinned : Pinned := { name := "ytcppmcacjjjjeaa", sum := "7e4a5925c4fd7fcd20b49101ee277538500768330a32de3adac9ff485086b1bc", checked := Try.checked }
namespace Rows
def none {H : Type} : Left H := { results := [], args := [] }

/-- 'laws.FnIntervals': WHATEVER THE INPUT: true; the input reads as it did. -/
def fnIntervalsSpec : ChangeSpec := { name := "fnIntervals", fn := fun _ => fun
  | [d] => { results := [.lit (.bool true)], args := [d] }
  | _ => none }
def fnIntervalsRow : OpenClaim := { program := "ytcppmcacjjjjeaa", sum := "7e4a5925c4fd7fcd20b49101ee277538500768330a32de3adac9ff485086b1bc", func := "loop.example/g03204/laws.FnIntervals", spec := "fnIntervals", recurses := true, plainKeys := false, apart := false }
def FnIntervalsSaid : Prop := fnIntervalsRow.holds Try.pinned (OpenSpec.ofChange fnIntervalsSpec)

/-- ITS FALSE NEIGHBOUR: 'it returns false'. Refute it at one input. -/
def fnIntervalsWrong : ChangeSpec := { name := "fnIntervals", fn := fun _ => fun
  | [d] => { results := [.lit (.bool false)], args := [d] }
  | _ => none }
def FnIntervalsWrongFalsely : Prop := fnIntervalsRow.holds Try.pinned (OpenSpec.ofChange fnIntervalsWrong)

/-- 'laws.FnTwins': WHATEVER THE INPUT: true; the input reads as it did. -/
def fnTwinsSpec : ChangeSpec := { name := "fnTwins", fn := fun _ => fun
  | [d] => { results := [.lit (.bool true)], args := [d] }
  | _ => none }
def fnTwinsRow : OpenClaim := { program := "ytcppmcacjjjjeaa", sum := "7e4a5925c4fd7fcd20b49101ee277538500768330a32de3adac9ff485086b1bc", func := "loop.example/g03204/laws.FnTwins", spec := "fnTwins", inPlace := ["internal/abi.NoEscape"], unfollowed := true, recurses := true, plainKeys := false, apart := false }
def FnTwinsSaid : Prop := fnTwinsRow.holds Try.pinned (OpenSpec.ofChange fnTwinsSpec)

/-- ITS FALSE NEIGHBOUR: 'it returns false'. Refute it at one input. -/
def fnTwinsWrong : ChangeSpec := { name := "fnTwins", fn := fun _ => fun
  | [d] => { results := [.lit (.bool false)], args := [d] }
  | _ => none }
def FnTwinsWrongFalsely : Prop := fnTwinsRow.holds Try.pinned (OpenSpec.ofChange fnTwinsWrong)

/-- 'laws.FnExactDifferencesOf': WHATEVER THE INPUT: true; the input reads as it did. -/
def fnExactDifferencesOfSpec : ChangeSpec := { name := "fnExactDifferencesOf", fn := fun _ => fun
  | [d] => { results := [.lit (.bool true)], args := [d] }
  | _ => none }
def fnExactDifferencesOfRow : OpenClaim := { program := "ytcppmcacjjjjeaa", sum := "7e4a5925c4fd7fcd20b49101ee277538500768330a32de3adac9ff485086b1bc", func := "loop.example/g03204/laws.FnExactDifferencesOf", spec := "fnExactDifferencesOf", plainKeys := false, apart := false }
def FnExactDifferencesOfSaid : Prop := fnExactDifferencesOfRow.holds Try.pinned (OpenSpec.ofChange fnExactDifferencesOfSpec)

/-- ITS FALSE NEIGHBOUR: 'it returns false'. Refute it at one input. -/
def fnExactDifferencesOfWrong : ChangeSpec := { name := "fnExactDifferencesOf", fn := fun _ => fun
  | [d] => { results := [.lit (.bool false)], args := [d] }
  | _ => none }
def FnExactDifferencesOfWrongFalsely : Prop := fnExactDifferencesOfRow.holds Try.pinned (OpenSpec.ofChange fnExactDifferencesOfWrong)

/-- 'laws.FnExactVectorOf': WHATEVER THE INPUT: true; the input reads as it did. -/
def fnExactVectorOfSpec : ChangeSpec := { name := "fnExactVectorOf", fn := fun _ => fun
  | [d] => { results := [.lit (.bool true)], args := [d] }
  | _ => none }
def fnExactVectorOfRow : OpenClaim := { program := "ytcppmcacjjjjeaa", sum := "7e4a5925c4fd7fcd20b49101ee277538500768330a32de3adac9ff485086b1bc", func := "loop.example/g03204/laws.FnExactVectorOf", spec := "fnExactVectorOf", plainKeys := false, apart := false }
def FnExactVectorOfSaid : Prop := fnExactVectorOfRow.holds Try.pinned (OpenSpec.ofChange fnExactVectorOfSpec)

/-- ITS FALSE NEIGHBOUR: 'it returns false'. Refute it at one input. -/
def fnExactVectorOfWrong : ChangeSpec := { name := "fnExactVectorOf", fn := fun _ => fun
  | [d] => { results := [.lit (.bool false)], args := [d] }
  | _ => none }
def FnExactVectorOfWrongFalsely : Prop := fnExactVectorOfRow.holds Try.pinned (OpenSpec.ofChange fnExactVectorOfWrong)

/-- 'laws.FnExactSameVector': WHATEVER THE INPUT: true; the input reads as it did. -/
def fnExactSameVectorSpec : ChangeSpec := { name := "fnExactSameVector", fn := fun _ => fun
  | [d1, d2] => { results := [.lit (.bool true)], args := [d1, d2] }
  | _ => none }
def fnExactSameVectorRow : OpenClaim := { program := "ytcppmcacjjjjeaa", sum := "7e4a5925c4fd7fcd20b49101ee277538500768330a32de3adac9ff485086b1bc", func := "loop.example/g03204/laws.FnExactSameVector", spec := "fnExactSameVector", plainKeys := false, apart := false }
def FnExactSameVectorSaid : Prop := fnExactSameVectorRow.holds Try.pinned (OpenSpec.ofChange fnExactSameVectorSpec)

/-- ITS FALSE NEIGHBOUR: 'it returns false'. Refute it at one input. -/
def fnExactSameVectorWrong : ChangeSpec := { name := "fnExactSameVector", fn := fun _ => fun
  | [d1, d2] => { results := [.lit (.bool false)], args := [d1, d2] }
  | _ => none }
def FnExactSameVectorWrongFalsely : Prop := fnExactSameVectorRow.holds Try.pinned (OpenSpec.ofChange fnExactSameVectorWrong)

/-- 'laws.FnExactAreTwins': WHATEVER THE INPUT: true; the input reads as it did. -/
def fnExactAreTwinsSpec : ChangeSpec := { name := "fnExactAreTwins", fn := fun _ => fun
  | [d1, d2] => { results := [.lit (.bool true)], args := [d1, d2] }
  | _ => none }
def fnExactAreTwinsRow : OpenClaim := { program := "ytcppmcacjjjjeaa", sum := "7e4a5925c4fd7fcd20b49101ee277538500768330a32de3adac9ff485086b1bc", func := "loop.example/g03204/laws.FnExactAreTwins", spec := "fnExactAreTwins", recurses := true, plainKeys := false, apart := false }
def FnExactAreTwinsSaid : Prop := fnExactAreTwinsRow.holds Try.pinned (OpenSpec.ofChange fnExactAreTwinsSpec)

/-- ITS FALSE NEIGHBOUR: 'it returns false'. Refute it at one input. -/
def fnExactAreTwinsWrong : ChangeSpec := { name := "fnExactAreTwins", fn := fun _ => fun
  | [d1, d2] => { results := [.lit (.bool false)], args := [d1, d2] }
  | _ => none }
def FnExactAreTwinsWrongFalsely : Prop := fnExactAreTwinsRow.holds Try.pinned (OpenSpec.ofChange fnExactAreTwinsWrong)

/-- 'laws.FnExactTwinsOf': WHATEVER THE INPUT: true; the input reads as it did. -/
def fnExactTwinsOfSpec : ChangeSpec := { name := "fnExactTwinsOf", fn := fun _ => fun
  | [d] => { results := [.lit (.bool true)], args := [d] }
  | _ => none }
def fnExactTwinsOfRow : OpenClaim := { program := "ytcppmcacjjjjeaa", sum := "7e4a5925c4fd7fcd20b49101ee277538500768330a32de3adac9ff485086b1bc", func := "loop.example/g03204/laws.FnExactTwinsOf", spec := "fnExactTwinsOf", inPlace := ["internal/abi.NoEscape"], unfollowed := true, recurses := true, plainKeys := false, apart := false }
def FnExactTwinsOfSaid : Prop := fnExactTwinsOfRow.holds Try.pinned (OpenSpec.ofChange fnExactTwinsOfSpec)

/-- ITS FALSE NEIGHBOUR: 'it returns false'. Refute it at one input. -/
def fnExactTwinsOfWrong : ChangeSpec := { name := "fnExactTwinsOf", fn := fun _ => fun
  | [d] => { results := [.lit (.bool false)], args := [d] }
  | _ => none }
def FnExactTwinsOfWrongFalsely : Prop := fnExactTwinsOfRow.holds Try.pinned (OpenSpec.ofChange fnExactTwinsOfWrong)

/-- 'laws.FnExactIsDeep': WHATEVER THE INPUT: true; the input reads as it did. -/
def fnExactIsDeepSpec : ChangeSpec := { name := "fnExactIsDeep", fn := fun _ => fun
  | [d] => { results := [.lit (.bool true)], args := [d] }
  | _ => none }
def fnExactIsDeepRow : OpenClaim := { program := "ytcppmcacjjjjeaa", sum := "7e4a5925c4fd7fcd20b49101ee277538500768330a32de3adac9ff485086b1bc", func := "loop.example/g03204/laws.FnExactIsDeep", spec := "fnExactIsDeep", plainKeys := false, apart := false }
def FnExactIsDeepSaid : Prop := fnExactIsDeepRow.holds Try.pinned (OpenSpec.ofChange fnExactIsDeepSpec)

/-- ITS FALSE NEIGHBOUR: 'it returns false'. Refute it at one input. -/
def fnExactIsDeepWrong : ChangeSpec := { name := "fnExactIsDeep", fn := fun _ => fun
  | [d] => { results := [.lit (.bool false)], args := [d] }
  | _ => none }
def FnExactIsDeepWrongFalsely : Prop := fnExactIsDeepRow.holds Try.pinned (OpenSpec.ofChange fnExactIsDeepWrong)

/-- 'laws.FnExactIsFlat': WHATEVER THE INPUT: true; the input reads as it did. -/
def fnExactIsFlatSpec : ChangeSpec := { name := "fnExactIsFlat", fn := fun _ => fun
  | [d] => { results := [.lit (.bool true)], args := [d] }
  | _ => none }
def fnExactIsFlatRow : OpenClaim := { program := "ytcppmcacjjjjeaa", sum := "7e4a5925c4fd7fcd20b49101ee277538500768330a32de3adac9ff485086b1bc", func := "loop.example/g03204/laws.FnExactIsFlat", spec := "fnExactIsFlat", plainKeys := false, apart := false }
def FnExactIsFlatSaid : Prop := fnExactIsFlatRow.holds Try.pinned (OpenSpec.ofChange fnExactIsFlatSpec)

/-- ITS FALSE NEIGHBOUR: 'it returns false'. Refute it at one input. -/
def fnExactIsFlatWrong : ChangeSpec := { name := "fnExactIsFlat", fn := fun _ => fun
  | [d] => { results := [.lit (.bool false)], args := [d] }
  | _ => none }
def FnExactIsFlatWrongFalsely : Prop := fnExactIsFlatRow.holds Try.pinned (OpenSpec.ofChange fnExactIsFlatWrong)

/-- 'laws.FnExactCommonBeats': WHATEVER THE INPUT: true; the input reads as it did. -/
def fnExactCommonBeatsSpec : ChangeSpec := { name := "fnExactCommonBeats", fn := fun _ => fun
  | [d1, d2] => { results := [.lit (.bool true)], args := [d1, d2] }
  | _ => none }
def fnExactCommonBeatsRow : OpenClaim := { program := "ytcppmcacjjjjeaa", sum := "7e4a5925c4fd7fcd20b49101ee277538500768330a32de3adac9ff485086b1bc", func := "loop.example/g03204/laws.FnExactCommonBeats", spec := "fnExactCommonBeats", plainKeys := false, apart := false }
def FnExactCommonBeatsSaid : Prop := fnExactCommonBeatsRow.holds Try.pinned (OpenSpec.ofChange fnExactCommonBeatsSpec)

/-- ITS FALSE NEIGHBOUR: 'it returns false'. Refute it at one input. -/
def fnExactCommonBeatsWrong : ChangeSpec := { name := "fnExactCommonBeats", fn := fun _ => fun
  | [d1, d2] => { results := [.lit (.bool false)], args := [d1, d2] }
  | _ => none }
def FnExactCommonBeatsWrongFalsely : Prop := fnExactCommonBeatsRow.holds Try.pinned (OpenSpec.ofChange fnExactCommonBeatsWrong)

/-- 'laws.FnExactOverlapsOf': WHATEVER THE INPUT: true; the input reads as it did. -/
def fnExactOverlapsOfSpec : ChangeSpec := { name := "fnExactOverlapsOf", fn := fun _ => fun
  | [d1, d2] => { results := [.lit (.bool true)], args := [d1, d2] }
  | _ => none }
def fnExactOverlapsOfRow : OpenClaim := { program := "ytcppmcacjjjjeaa", sum := "7e4a5925c4fd7fcd20b49101ee277538500768330a32de3adac9ff485086b1bc", func := "loop.example/g03204/laws.FnExactOverlapsOf", spec := "fnExactOverlapsOf", recurses := true, plainKeys := false, apart := false }
def FnExactOverlapsOfSaid : Prop := fnExactOverlapsOfRow.holds Try.pinned (OpenSpec.ofChange fnExactOverlapsOfSpec)

/-- ITS FALSE NEIGHBOUR: 'it returns false'. Refute it at one input. -/
def fnExactOverlapsOfWrong : ChangeSpec := { name := "fnExactOverlapsOf", fn := fun _ => fun
  | [d1, d2] => { results := [.lit (.bool false)], args := [d1, d2] }
  | _ => none }
def FnExactOverlapsOfWrongFalsely : Prop := fnExactOverlapsOfRow.holds Try.pinned (OpenSpec.ofChange fnExactOverlapsOfWrong)

/-- 'laws.FnExactIntervalBetween': WHATEVER THE INPUT: true; the input reads as it did. -/
def fnExactIntervalBetweenSpec : ChangeSpec := { name := "fnExactIntervalBetween", fn := fun _ => fun
  | [d1, d2, d3] => { results := [.lit (.bool true)], args := [d1, d2, d3] }
  | _ => none }
def fnExactIntervalBetweenRow : OpenClaim := { program := "ytcppmcacjjjjeaa", sum := "7e4a5925c4fd7fcd20b49101ee277538500768330a32de3adac9ff485086b1bc", func := "loop.example/g03204/laws.FnExactIntervalBetween", spec := "fnExactIntervalBetween", plainKeys := false, apart := false }
def FnExactIntervalBetweenSaid : Prop := fnExactIntervalBetweenRow.holds Try.pinned (OpenSpec.ofChange fnExactIntervalBetweenSpec)

/-- ITS FALSE NEIGHBOUR: 'it returns false'. Refute it at one input. -/
def fnExactIntervalBetweenWrong : ChangeSpec := { name := "fnExactIntervalBetween", fn := fun _ => fun
  | [d1, d2, d3] => { results := [.lit (.bool false)], args := [d1, d2, d3] }
  | _ => none }
def FnExactIntervalBetweenWrongFalsely : Prop := fnExactIntervalBetweenRow.holds Try.pinned (OpenSpec.ofChange fnExactIntervalBetweenWrong)

/- THE SECOND FORM. 'bulk': how many values and letters a reading holds, each counted each time it is reached (what is shared counts as often as it is met; a slice's spare places count too). A statement '..UptoSaid' is the law's where the arguments, and the package variables that the reading takes, are together of bulk at most 1048576: NARROWER than '..Said'. Prove '..Said' where nothing that the law and all that it calls make is longer than what came in: it says more and counts as full. Else prove '..UptoSaid'. A law counts once. -/
mutual
def uptoBulk {H : Type} : DataW H → Nat
  | .lit (.string bytes) => bytes.length + 1
  | .lit _ => 1
  | .nil => 1
  | .ptr d => uptoBulk d + 1
  | .slice elems spare => uptoBulkAll elems + uptoBulkAll spare + 1
  | .agg parts => uptoBulkAll parts + 1
  | .iface _ d => uptoBulk d + 1
  | .map entries => uptoBulkEntries entries + 1
  | .held _ => 1
def uptoBulkAll {H : Type} : List (DataW H) → Nat
  | [] => 0
  | d :: r => uptoBulk d + uptoBulkAll r
def uptoBulkEntries {H : Type} : List (Lit × DataW H) → Nat
  | [] => 0
  | x :: r => uptoBulkEntry x + uptoBulkEntries r
def uptoBulkEntry {H : Type} : Lit × DataW H → Nat
  | (.string bytes, d) => bytes.length + uptoBulk d + 1
  | (_, d) => uptoBulk d + 1
 end
def uptoSmall : (H : Type) → List (DataW H) → Bool := fun _ ds => decide (uptoBulkAll ds ≤ 1048576)
def OpenSpec.upto (s : _root_.Go.ChangeSpec) : _root_.Go.OpenSpec := { _root_.Go.OpenSpec.ofChange s with cond := some uptoSmall }

/-- 'laws.FnIntervals', WHERE WHAT IT READS IS OF BULK AT MOST 1048576: true; the input reads as it did. -/
def fnIntervalsUptoRow : OpenClaim := { program := "ytcppmcacjjjjeaa", sum := "7e4a5925c4fd7fcd20b49101ee277538500768330a32de3adac9ff485086b1bc", func := "loop.example/g03204/laws.FnIntervals", spec := "fnIntervals", recurses := true, plainKeys := false, apart := false, narrowed := true }
def FnIntervalsUptoSaid : Prop := fnIntervalsUptoRow.holds Try.pinned (OpenSpec.upto fnIntervalsSpec)

/-- 'laws.FnTwins', WHERE WHAT IT READS IS OF BULK AT MOST 1048576: true; the input reads as it did. -/
def fnTwinsUptoRow : OpenClaim := { program := "ytcppmcacjjjjeaa", sum := "7e4a5925c4fd7fcd20b49101ee277538500768330a32de3adac9ff485086b1bc", func := "loop.example/g03204/laws.FnTwins", spec := "fnTwins", inPlace := ["internal/abi.NoEscape"], unfollowed := true, recurses := true, plainKeys := false, apart := false, narrowed := true }
def FnTwinsUptoSaid : Prop := fnTwinsUptoRow.holds Try.pinned (OpenSpec.upto fnTwinsSpec)

/-- 'laws.FnExactDifferencesOf', WHERE WHAT IT READS IS OF BULK AT MOST 1048576: true; the input reads as it did. -/
def fnExactDifferencesOfUptoRow : OpenClaim := { program := "ytcppmcacjjjjeaa", sum := "7e4a5925c4fd7fcd20b49101ee277538500768330a32de3adac9ff485086b1bc", func := "loop.example/g03204/laws.FnExactDifferencesOf", spec := "fnExactDifferencesOf", plainKeys := false, apart := false, narrowed := true }
def FnExactDifferencesOfUptoSaid : Prop := fnExactDifferencesOfUptoRow.holds Try.pinned (OpenSpec.upto fnExactDifferencesOfSpec)

/-- 'laws.FnExactVectorOf', WHERE WHAT IT READS IS OF BULK AT MOST 1048576: true; the input reads as it did. -/
def fnExactVectorOfUptoRow : OpenClaim := { program := "ytcppmcacjjjjeaa", sum := "7e4a5925c4fd7fcd20b49101ee277538500768330a32de3adac9ff485086b1bc", func := "loop.example/g03204/laws.FnExactVectorOf", spec := "fnExactVectorOf", plainKeys := false, apart := false, narrowed := true }
def FnExactVectorOfUptoSaid : Prop := fnExactVectorOfUptoRow.holds Try.pinned (OpenSpec.upto fnExactVectorOfSpec)

/-- 'laws.FnExactSameVector', WHERE WHAT IT READS IS OF BULK AT MOST 1048576: true; the input reads as it did. -/
def fnExactSameVectorUptoRow : OpenClaim := { program := "ytcppmcacjjjjeaa", sum := "7e4a5925c4fd7fcd20b49101ee277538500768330a32de3adac9ff485086b1bc", func := "loop.example/g03204/laws.FnExactSameVector", spec := "fnExactSameVector", plainKeys := false, apart := false, narrowed := true }
def FnExactSameVectorUptoSaid : Prop := fnExactSameVectorUptoRow.holds Try.pinned (OpenSpec.upto fnExactSameVectorSpec)

/-- 'laws.FnExactAreTwins', WHERE WHAT IT READS IS OF BULK AT MOST 1048576: true; the input reads as it did. -/
def fnExactAreTwinsUptoRow : OpenClaim := { program := "ytcppmcacjjjjeaa", sum := "7e4a5925c4fd7fcd20b49101ee277538500768330a32de3adac9ff485086b1bc", func := "loop.example/g03204/laws.FnExactAreTwins", spec := "fnExactAreTwins", recurses := true, plainKeys := false, apart := false, narrowed := true }
def FnExactAreTwinsUptoSaid : Prop := fnExactAreTwinsUptoRow.holds Try.pinned (OpenSpec.upto fnExactAreTwinsSpec)

/-- 'laws.FnExactTwinsOf', WHERE WHAT IT READS IS OF BULK AT MOST 1048576: true; the input reads as it did. -/
def fnExactTwinsOfUptoRow : OpenClaim := { program := "ytcppmcacjjjjeaa", sum := "7e4a5925c4fd7fcd20b49101ee277538500768330a32de3adac9ff485086b1bc", func := "loop.example/g03204/laws.FnExactTwinsOf", spec := "fnExactTwinsOf", inPlace := ["internal/abi.NoEscape"], unfollowed := true, recurses := true, plainKeys := false, apart := false, narrowed := true }
def FnExactTwinsOfUptoSaid : Prop := fnExactTwinsOfUptoRow.holds Try.pinned (OpenSpec.upto fnExactTwinsOfSpec)

/-- 'laws.FnExactIsDeep', WHERE WHAT IT READS IS OF BULK AT MOST 1048576: true; the input reads as it did. -/
def fnExactIsDeepUptoRow : OpenClaim := { program := "ytcppmcacjjjjeaa", sum := "7e4a5925c4fd7fcd20b49101ee277538500768330a32de3adac9ff485086b1bc", func := "loop.example/g03204/laws.FnExactIsDeep", spec := "fnExactIsDeep", plainKeys := false, apart := false, narrowed := true }
def FnExactIsDeepUptoSaid : Prop := fnExactIsDeepUptoRow.holds Try.pinned (OpenSpec.upto fnExactIsDeepSpec)

/-- 'laws.FnExactIsFlat', WHERE WHAT IT READS IS OF BULK AT MOST 1048576: true; the input reads as it did. -/
def fnExactIsFlatUptoRow : OpenClaim := { program := "ytcppmcacjjjjeaa", sum := "7e4a5925c4fd7fcd20b49101ee277538500768330a32de3adac9ff485086b1bc", func := "loop.example/g03204/laws.FnExactIsFlat", spec := "fnExactIsFlat", plainKeys := false, apart := false, narrowed := true }
def FnExactIsFlatUptoSaid : Prop := fnExactIsFlatUptoRow.holds Try.pinned (OpenSpec.upto fnExactIsFlatSpec)

/-- 'laws.FnExactCommonBeats', WHERE WHAT IT READS IS OF BULK AT MOST 1048576: true; the input reads as it did. -/
def fnExactCommonBeatsUptoRow : OpenClaim := { program := "ytcppmcacjjjjeaa", sum := "7e4a5925c4fd7fcd20b49101ee277538500768330a32de3adac9ff485086b1bc", func := "loop.example/g03204/laws.FnExactCommonBeats", spec := "fnExactCommonBeats", plainKeys := false, apart := false, narrowed := true }
def FnExactCommonBeatsUptoSaid : Prop := fnExactCommonBeatsUptoRow.holds Try.pinned (OpenSpec.upto fnExactCommonBeatsSpec)

/-- 'laws.FnExactOverlapsOf', WHERE WHAT IT READS IS OF BULK AT MOST 1048576: true; the input reads as it did. -/
def fnExactOverlapsOfUptoRow : OpenClaim := { program := "ytcppmcacjjjjeaa", sum := "7e4a5925c4fd7fcd20b49101ee277538500768330a32de3adac9ff485086b1bc", func := "loop.example/g03204/laws.FnExactOverlapsOf", spec := "fnExactOverlapsOf", recurses := true, plainKeys := false, apart := false, narrowed := true }
def FnExactOverlapsOfUptoSaid : Prop := fnExactOverlapsOfUptoRow.holds Try.pinned (OpenSpec.upto fnExactOverlapsOfSpec)

/-- 'laws.FnExactIntervalBetween', WHERE WHAT IT READS IS OF BULK AT MOST 1048576: true; the input reads as it did. -/
def fnExactIntervalBetweenUptoRow : OpenClaim := { program := "ytcppmcacjjjjeaa", sum := "7e4a5925c4fd7fcd20b49101ee277538500768330a32de3adac9ff485086b1bc", func := "loop.example/g03204/laws.FnExactIntervalBetween", spec := "fnExactIntervalBetween", plainKeys := false, apart := false, narrowed := true }
def FnExactIntervalBetweenUptoSaid : Prop := fnExactIntervalBetweenUptoRow.holds Try.pinned (OpenSpec.upto fnExactIntervalBetweenSpec)

end Rows
end Go.Proofs.Ytcppmcacjjjjeaa
