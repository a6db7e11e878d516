/-
  No cell of these rows narrows 'for every input' (looked for: loops, veiled, ifaces, maps, wideKeys, modest, calm, conditions, laid).
  DERIVED. THE GIVEN ROWS OF THIS SEAT. 12 by the template 'for every input the law returns true; each argument reads behind the call as it read before'; 0 by the template 'total and deterministic' (their statements: YthnlakdfbalgdaaTotals.lean).
  GIVEN WITH THE SEED: the statements are not yours to turn. If you find one false, say at which input.
  Laid BY PROGRAM, IN A SANDBOX (cutbox-rows.mjs): the forced cells as the released guide's own fill.sh prints them over the translation 03ad9aa3908843b2… (all of the seat's roots in one cut). By AI agents, Wed Nov 11 2026. No macro, syntax, notation, axiom, sorry.
-/
import Derived.Test.YthnlakdfbalgdaaChecked
import GoSem.Claim
import GoSem.ClaimJoined
import GoSem.ClaimMapViews
import Derived.JoinedTies
import Derived.KernelRfl
namespace Go.Proofs.Ythnlakdfbalgdaa
/- THE CELL 'sum', in the pinned program and in every row, IS THE sha256 OF THE DUMP (.gsa) THAT YthnlakdfbalgdaaProg.lean LOADS. Nothing in Lean hashes anything: it is a label: what it is worth is what the hold of that sum in a sandbox is worth. -/
noncomputable def Try.pinned : Pinned := { name := "ythnlakdfbalgdaa", sum := "03ad9aa3908843b220e1cfa954a0b810cde6e28aeafb2ca92f323d71d49a8897", checked := Try.checked }
namespace Rows
def none {H : Type} : Left H := { results := [], args := [] }

/-- 'laws.FnCanons': WHATEVER THE INPUT: true; the input reads as it did. -/
def fnCanonsSpec : ChangeSpec := { name := "fnCanons", fn := fun _ => fun
  | [d] => { results := [.lit (.bool true)], args := [d] }
  | _ => none }
def fnCanonsRow : OpenClaim := { program := "ythnlakdfbalgdaa", sum := "03ad9aa3908843b220e1cfa954a0b810cde6e28aeafb2ca92f323d71d49a8897", func := "loop.example/g03204/laws.FnCanons", spec := "fnCanons", inPlace := ["internal/abi.NoEscape"], unfollowed := true, recurses := true, apart := false }
def FnCanonsSaid : Prop := fnCanonsRow.holds Try.pinned (OpenSpec.ofChange fnCanonsSpec)

/-- ITS FALSE NEIGHBOUR: 'it returns false'. Refute it at one input. -/
def fnCanonsWrong : ChangeSpec := { name := "fnCanons", fn := fun _ => fun
  | [d] => { results := [.lit (.bool false)], args := [d] }
  | _ => none }
def FnCanonsWrongFalsely : Prop := fnCanonsRow.holds Try.pinned (OpenSpec.ofChange fnCanonsWrong)

/-- 'laws.FnExactCanonOk': WHATEVER THE INPUT: true; the input reads as it did. -/
def fnExactCanonOkSpec : ChangeSpec := { name := "fnExactCanonOk", fn := fun _ => fun
  | [d] => { results := [.lit (.bool true)], args := [d] }
  | _ => none }
def fnExactCanonOkRow : OpenClaim := { program := "ythnlakdfbalgdaa", sum := "03ad9aa3908843b220e1cfa954a0b810cde6e28aeafb2ca92f323d71d49a8897", func := "loop.example/g03204/laws.FnExactCanonOk", spec := "fnExactCanonOk", apart := false }
def FnExactCanonOkSaid : Prop := fnExactCanonOkRow.holds Try.pinned (OpenSpec.ofChange fnExactCanonOkSpec)

/-- ITS FALSE NEIGHBOUR: 'it returns false'. Refute it at one input. -/
def fnExactCanonOkWrong : ChangeSpec := { name := "fnExactCanonOk", fn := fun _ => fun
  | [d] => { results := [.lit (.bool false)], args := [d] }
  | _ => none }
def FnExactCanonOkWrongFalsely : Prop := fnExactCanonOkRow.holds Try.pinned (OpenSpec.ofChange fnExactCanonOkWrong)

/-- 'laws.FnExactCountClashes': WHATEVER THE INPUT: true; the input reads as it did. -/
def fnExactCountClashesSpec : ChangeSpec := { name := "fnExactCountClashes", fn := fun _ => fun
  | [d] => { results := [.lit (.bool true)], args := [d] }
  | _ => none }
def fnExactCountClashesRow : OpenClaim := { program := "ythnlakdfbalgdaa", sum := "03ad9aa3908843b220e1cfa954a0b810cde6e28aeafb2ca92f323d71d49a8897", func := "loop.example/g03204/laws.FnExactCountClashes", spec := "fnExactCountClashes", unfollowed := true, recurses := true, apart := false }
def FnExactCountClashesSaid : Prop := fnExactCountClashesRow.holds Try.pinned (OpenSpec.ofChange fnExactCountClashesSpec)

/-- ITS FALSE NEIGHBOUR: 'it returns false'. Refute it at one input. -/
def fnExactCountClashesWrong : ChangeSpec := { name := "fnExactCountClashes", fn := fun _ => fun
  | [d] => { results := [.lit (.bool false)], args := [d] }
  | _ => none }
def FnExactCountClashesWrongFalsely : Prop := fnExactCountClashesRow.holds Try.pinned (OpenSpec.ofChange fnExactCountClashesWrong)

/-- 'laws.FnExactExchangeCanon': WHATEVER THE INPUT: true; the input reads as it did. -/
def fnExactExchangeCanonSpec : ChangeSpec := { name := "fnExactExchangeCanon", fn := fun _ => fun
  | [d] => { results := [.lit (.bool true)], args := [d] }
  | _ => none }
def fnExactExchangeCanonRow : OpenClaim := { program := "ythnlakdfbalgdaa", sum := "03ad9aa3908843b220e1cfa954a0b810cde6e28aeafb2ca92f323d71d49a8897", func := "loop.example/g03204/laws.FnExactExchangeCanon", spec := "fnExactExchangeCanon", apart := false }
def FnExactExchangeCanonSaid : Prop := fnExactExchangeCanonRow.holds Try.pinned (OpenSpec.ofChange fnExactExchangeCanonSpec)

/-- ITS FALSE NEIGHBOUR: 'it returns false'. Refute it at one input. -/
def fnExactExchangeCanonWrong : ChangeSpec := { name := "fnExactExchangeCanon", fn := fun _ => fun
  | [d] => { results := [.lit (.bool false)], args := [d] }
  | _ => none }
def FnExactExchangeCanonWrongFalsely : Prop := fnExactExchangeCanonRow.holds Try.pinned (OpenSpec.ofChange fnExactExchangeCanonWrong)

/-- 'laws.FnExactFormatCanon': WHATEVER THE INPUT: true; the input reads as it did. -/
def fnExactFormatCanonSpec : ChangeSpec := { name := "fnExactFormatCanon", fn := fun _ => fun
  | [d] => { results := [.lit (.bool true)], args := [d] }
  | _ => none }
def fnExactFormatCanonRow : OpenClaim := { program := "ythnlakdfbalgdaa", sum := "03ad9aa3908843b220e1cfa954a0b810cde6e28aeafb2ca92f323d71d49a8897", func := "loop.example/g03204/laws.FnExactFormatCanon", spec := "fnExactFormatCanon", inPlace := ["internal/abi.NoEscape"], recurses := true, apart := false }
def FnExactFormatCanonSaid : Prop := fnExactFormatCanonRow.holds Try.pinned (OpenSpec.ofChange fnExactFormatCanonSpec)

/-- ITS FALSE NEIGHBOUR: 'it returns false'. Refute it at one input. -/
def fnExactFormatCanonWrong : ChangeSpec := { name := "fnExactFormatCanon", fn := fun _ => fun
  | [d] => { results := [.lit (.bool false)], args := [d] }
  | _ => none }
def FnExactFormatCanonWrongFalsely : Prop := fnExactFormatCanonRow.holds Try.pinned (OpenSpec.ofChange fnExactFormatCanonWrong)

/-- 'laws.FnExactIsTight': WHATEVER THE INPUT: true; the input reads as it did. -/
def fnExactIsTightSpec : ChangeSpec := { name := "fnExactIsTight", fn := fun _ => fun
  | [d] => { results := [.lit (.bool true)], args := [d] }
  | _ => none }
def fnExactIsTightRow : OpenClaim := { program := "ythnlakdfbalgdaa", sum := "03ad9aa3908843b220e1cfa954a0b810cde6e28aeafb2ca92f323d71d49a8897", func := "loop.example/g03204/laws.FnExactIsTight", spec := "fnExactIsTight", apart := false }
def FnExactIsTightSaid : Prop := fnExactIsTightRow.holds Try.pinned (OpenSpec.ofChange fnExactIsTightSpec)

/-- ITS FALSE NEIGHBOUR: 'it returns false'. Refute it at one input. -/
def fnExactIsTightWrong : ChangeSpec := { name := "fnExactIsTight", fn := fun _ => fun
  | [d] => { results := [.lit (.bool false)], args := [d] }
  | _ => none }
def FnExactIsTightWrongFalsely : Prop := fnExactIsTightRow.holds Try.pinned (OpenSpec.ofChange fnExactIsTightWrong)

/-- 'laws.FnExactLineOf': WHATEVER THE INPUT: true; the input reads as it did. -/
def fnExactLineOfSpec : ChangeSpec := { name := "fnExactLineOf", fn := fun _ => fun
  | [d] => { results := [.lit (.bool true)], args := [d] }
  | _ => none }
def fnExactLineOfRow : OpenClaim := { program := "ythnlakdfbalgdaa", sum := "03ad9aa3908843b220e1cfa954a0b810cde6e28aeafb2ca92f323d71d49a8897", func := "loop.example/g03204/laws.FnExactLineOf", spec := "fnExactLineOf", unfollowed := true, recurses := true, apart := false }
def FnExactLineOfSaid : Prop := fnExactLineOfRow.holds Try.pinned (OpenSpec.ofChange fnExactLineOfSpec)

/-- ITS FALSE NEIGHBOUR: 'it returns false'. Refute it at one input. -/
def fnExactLineOfWrong : ChangeSpec := { name := "fnExactLineOf", fn := fun _ => fun
  | [d] => { results := [.lit (.bool false)], args := [d] }
  | _ => none }
def FnExactLineOfWrongFalsely : Prop := fnExactLineOfRow.holds Try.pinned (OpenSpec.ofChange fnExactLineOfWrong)

/-- 'laws.FnExactReadCanon': WHATEVER THE INPUT: true; the input reads as it did. -/
def fnExactReadCanonSpec : ChangeSpec := { name := "fnExactReadCanon", fn := fun _ => fun
  | [d] => { results := [.lit (.bool true)], args := [d] }
  | _ => none }
def fnExactReadCanonRow : OpenClaim := { program := "ythnlakdfbalgdaa", sum := "03ad9aa3908843b220e1cfa954a0b810cde6e28aeafb2ca92f323d71d49a8897", func := "loop.example/g03204/laws.FnExactReadCanon", spec := "fnExactReadCanon", inPlace := ["internal/abi.NoEscape"], recurses := true, apart := false }
def FnExactReadCanonSaid : Prop := fnExactReadCanonRow.holds Try.pinned (OpenSpec.ofChange fnExactReadCanonSpec)

/-- ITS FALSE NEIGHBOUR: 'it returns false'. Refute it at one input. -/
def fnExactReadCanonWrong : ChangeSpec := { name := "fnExactReadCanon", fn := fun _ => fun
  | [d] => { results := [.lit (.bool false)], args := [d] }
  | _ => none }
def FnExactReadCanonWrongFalsely : Prop := fnExactReadCanonRow.holds Try.pinned (OpenSpec.ofChange fnExactReadCanonWrong)

/-- 'laws.FnExactRotateCanon': WHATEVER THE INPUT: true; the input reads as it did. -/
def fnExactRotateCanonSpec : ChangeSpec := { name := "fnExactRotateCanon", fn := fun _ => fun
  | [d1, d2, d3] => { results := [.lit (.bool true)], args := [d1, d2, d3] }
  | _ => none }
def fnExactRotateCanonRow : OpenClaim := { program := "ythnlakdfbalgdaa", sum := "03ad9aa3908843b220e1cfa954a0b810cde6e28aeafb2ca92f323d71d49a8897", func := "loop.example/g03204/laws.FnExactRotateCanon", spec := "fnExactRotateCanon", recurses := true, apart := false }
def FnExactRotateCanonSaid : Prop := fnExactRotateCanonRow.holds Try.pinned (OpenSpec.ofChange fnExactRotateCanonSpec)

/-- ITS FALSE NEIGHBOUR: 'it returns false'. Refute it at one input. -/
def fnExactRotateCanonWrong : ChangeSpec := { name := "fnExactRotateCanon", fn := fun _ => fun
  | [d1, d2, d3] => { results := [.lit (.bool false)], args := [d1, d2, d3] }
  | _ => none }
def FnExactRotateCanonWrongFalsely : Prop := fnExactRotateCanonRow.holds Try.pinned (OpenSpec.ofChange fnExactRotateCanonWrong)

/-- 'laws.FnExactStretchCanon': WHATEVER THE INPUT: true; the input reads as it did. -/
def fnExactStretchCanonSpec : ChangeSpec := { name := "fnExactStretchCanon", fn := fun _ => fun
  | [d1, d2] => { results := [.lit (.bool true)], args := [d1, d2] }
  | _ => none }
def fnExactStretchCanonRow : OpenClaim := { program := "ythnlakdfbalgdaa", sum := "03ad9aa3908843b220e1cfa954a0b810cde6e28aeafb2ca92f323d71d49a8897", func := "loop.example/g03204/laws.FnExactStretchCanon", spec := "fnExactStretchCanon", recurses := true, apart := false }
def FnExactStretchCanonSaid : Prop := fnExactStretchCanonRow.holds Try.pinned (OpenSpec.ofChange fnExactStretchCanonSpec)

/-- ITS FALSE NEIGHBOUR: 'it returns false'. Refute it at one input. -/
def fnExactStretchCanonWrong : ChangeSpec := { name := "fnExactStretchCanon", fn := fun _ => fun
  | [d1, d2] => { results := [.lit (.bool false)], args := [d1, d2] }
  | _ => none }
def FnExactStretchCanonWrongFalsely : Prop := fnExactStretchCanonRow.holds Try.pinned (OpenSpec.ofChange fnExactStretchCanonWrong)

/-- 'laws.FnExactVoiceRhythm': WHATEVER THE INPUT: true; the input reads as it did. -/
def fnExactVoiceRhythmSpec : ChangeSpec := { name := "fnExactVoiceRhythm", fn := fun _ => fun
  | [d1, d2] => { results := [.lit (.bool true)], args := [d1, d2] }
  | _ => none }
def fnExactVoiceRhythmRow : OpenClaim := { program := "ythnlakdfbalgdaa", sum := "03ad9aa3908843b220e1cfa954a0b810cde6e28aeafb2ca92f323d71d49a8897", func := "loop.example/g03204/laws.FnExactVoiceRhythm", spec := "fnExactVoiceRhythm", recurses := true, apart := false }
def FnExactVoiceRhythmSaid : Prop := fnExactVoiceRhythmRow.holds Try.pinned (OpenSpec.ofChange fnExactVoiceRhythmSpec)

/-- ITS FALSE NEIGHBOUR: 'it returns false'. Refute it at one input. -/
def fnExactVoiceRhythmWrong : ChangeSpec := { name := "fnExactVoiceRhythm", fn := fun _ => fun
  | [d1, d2] => { results := [.lit (.bool false)], args := [d1, d2] }
  | _ => none }
def FnExactVoiceRhythmWrongFalsely : Prop := fnExactVoiceRhythmRow.holds Try.pinned (OpenSpec.ofChange fnExactVoiceRhythmWrong)

/-- 'laws.FnExactVoicesAt': WHATEVER THE INPUT: true; the input reads as it did. -/
def fnExactVoicesAtSpec : ChangeSpec := { name := "fnExactVoicesAt", fn := fun _ => fun
  | [d1, d2] => { results := [.lit (.bool true)], args := [d1, d2] }
  | _ => none }
def fnExactVoicesAtRow : OpenClaim := { program := "ythnlakdfbalgdaa", sum := "03ad9aa3908843b220e1cfa954a0b810cde6e28aeafb2ca92f323d71d49a8897", func := "loop.example/g03204/laws.FnExactVoicesAt", spec := "fnExactVoicesAt", unfollowed := true, recurses := true, apart := false }
def FnExactVoicesAtSaid : Prop := fnExactVoicesAtRow.holds Try.pinned (OpenSpec.ofChange fnExactVoicesAtSpec)

/-- ITS FALSE NEIGHBOUR: 'it returns false'. Refute it at one input. -/
def fnExactVoicesAtWrong : ChangeSpec := { name := "fnExactVoicesAt", fn := fun _ => fun
  | [d1, d2] => { results := [.lit (.bool false)], args := [d1, d2] }
  | _ => none }
def FnExactVoicesAtWrongFalsely : Prop := fnExactVoicesAtRow.holds Try.pinned (OpenSpec.ofChange fnExactVoicesAtWrong)

/- THE SECOND FORM. 'bulk': how many values and letters a reading holds, each counted each time it is reached (what is shared counts as often as it is met; a slice's spare places count too). A statement '..UptoSaid' is the law's where the arguments, and the package variables that the reading takes, are together of bulk at most 1048576: NARROWER than '..Said'. Prove '..Said' where nothing that the law and all that it calls make is longer than what came in: it says more and counts as full. Else prove '..UptoSaid'. A law counts once. -/
mutual
def uptoBulk {H : Type} : DataW H → Nat
  | .lit (.string bytes) => bytes.length + 1
  | .lit _ => 1
  | .nil => 1
  | .ptr d => uptoBulk d + 1
  | .slice elems spare => uptoBulkAll elems + uptoBulkAll spare + 1
  | .agg parts => uptoBulkAll parts + 1
  | .iface _ d => uptoBulk d + 1
  | .map entries => uptoBulkEntries entries + 1
  | .held _ => 1
def uptoBulkAll {H : Type} : List (DataW H) → Nat
  | [] => 0
  | d :: r => uptoBulk d + uptoBulkAll r
def uptoBulkEntries {H : Type} : List (Lit × DataW H) → Nat
  | [] => 0
  | x :: r => uptoBulkEntry x + uptoBulkEntries r
def uptoBulkEntry {H : Type} : Lit × DataW H → Nat
  | (.string bytes, d) => bytes.length + uptoBulk d + 1
  | (_, d) => uptoBulk d + 1
 end
def uptoSmall : (H : Type) → List (DataW H) → Bool := fun _ ds => decide (uptoBulkAll ds ≤ 1048576)
def OpenSpec.upto (s : _root_.Go.ChangeSpec) : _root_.Go.OpenSpec := { _root_.Go.OpenSpec.ofChange s with cond := some uptoSmall }

/-- 'laws.FnCanons', WHERE WHAT IT READS IS OF BULK AT MOST 1048576: true; the input reads as it did. -/
def fnCanonsUptoRow : OpenClaim := { program := "ythnlakdfbalgdaa", sum := "03ad9aa3908843b220e1cfa954a0b810cde6e28aeafb2ca92f323d71d49a8897", func := "loop.example/g03204/laws.FnCanons", spec := "fnCanons", inPlace := ["internal/abi.NoEscape"], unfollowed := true, recurses := true, apart := false, narrowed := true }
def FnCanonsUptoSaid : Prop := fnCanonsUptoRow.holds Try.pinned (OpenSpec.upto fnCanonsSpec)

/-- 'laws.FnExactCanonOk', WHERE WHAT IT READS IS OF BULK AT MOST 1048576: true; the input reads as it did. -/
def fnExactCanonOkUptoRow : OpenClaim := { program := "ythnlakdfbalgdaa", sum := "03ad9aa3908843b220e1cfa954a0b810cde6e28aeafb2ca92f323d71d49a8897", func := "loop.example/g03204/laws.FnExactCanonOk", spec := "fnExactCanonOk", apart := false, narrowed := true }
def FnExactCanonOkUptoSaid : Prop := fnExactCanonOkUptoRow.holds Try.pinned (OpenSpec.upto fnExactCanonOkSpec)

/-- 'laws.FnExactCountClashes', WHERE WHAT IT READS IS OF BULK AT MOST 1048576: true; the input reads as it did. -/
def fnExactCountClashesUptoRow : OpenClaim := { program := "ythnlakdfbalgdaa", sum := "03ad9aa3908843b220e1cfa954a0b810cde6e28aeafb2ca92f323d71d49a8897", func := "loop.example/g03204/laws.FnExactCountClashes", spec := "fnExactCountClashes", unfollowed := true, recurses := true, apart := false, narrowed := true }
def FnExactCountClashesUptoSaid : Prop := fnExactCountClashesUptoRow.holds Try.pinned (OpenSpec.upto fnExactCountClashesSpec)

/-- 'laws.FnExactExchangeCanon', WHERE WHAT IT READS IS OF BULK AT MOST 1048576: true; the input reads as it did. -/
def fnExactExchangeCanonUptoRow : OpenClaim := { program := "ythnlakdfbalgdaa", sum := "03ad9aa3908843b220e1cfa954a0b810cde6e28aeafb2ca92f323d71d49a8897", func := "loop.example/g03204/laws.FnExactExchangeCanon", spec := "fnExactExchangeCanon", apart := false, narrowed := true }
def FnExactExchangeCanonUptoSaid : Prop := fnExactExchangeCanonUptoRow.holds Try.pinned (OpenSpec.upto fnExactExchangeCanonSpec)

/-- 'laws.FnExactFormatCanon', WHERE WHAT IT READS IS OF BULK AT MOST 1048576: true; the input reads as it did. -/
def fnExactFormatCanonUptoRow : OpenClaim := { program := "ythnlakdfbalgdaa", sum := "03ad9aa3908843b220e1cfa954a0b810cde6e28aeafb2ca92f323d71d49a8897", func := "loop.example/g03204/laws.FnExactFormatCanon", spec := "fnExactFormatCanon", inPlace := ["internal/abi.NoEscape"], recurses := true, apart := false, narrowed := true }
def FnExactFormatCanonUptoSaid : Prop := fnExactFormatCanonUptoRow.holds Try.pinned (OpenSpec.upto fnExactFormatCanonSpec)

/-- 'laws.FnExactIsTight', WHERE WHAT IT READS IS OF BULK AT MOST 1048576: true; the input reads as it did. -/
def fnExactIsTightUptoRow : OpenClaim := { program := "ythnlakdfbalgdaa", sum := "03ad9aa3908843b220e1cfa954a0b810cde6e28aeafb2ca92f323d71d49a8897", func := "loop.example/g03204/laws.FnExactIsTight", spec := "fnExactIsTight", apart := false, narrowed := true }
def FnExactIsTightUptoSaid : Prop := fnExactIsTightUptoRow.holds Try.pinned (OpenSpec.upto fnExactIsTightSpec)

/-- 'laws.FnExactLineOf', WHERE WHAT IT READS IS OF BULK AT MOST 1048576: true; the input reads as it did. -/
def fnExactLineOfUptoRow : OpenClaim := { program := "ythnlakdfbalgdaa", sum := "03ad9aa3908843b220e1cfa954a0b810cde6e28aeafb2ca92f323d71d49a8897", func := "loop.example/g03204/laws.FnExactLineOf", spec := "fnExactLineOf", unfollowed := true, recurses := true, apart := false, narrowed := true }
def FnExactLineOfUptoSaid : Prop := fnExactLineOfUptoRow.holds Try.pinned (OpenSpec.upto fnExactLineOfSpec)

/-- 'laws.FnExactReadCanon', WHERE WHAT IT READS IS OF BULK AT MOST 1048576: true; the input reads as it did. -/
def fnExactReadCanonUptoRow : OpenClaim := { program := "ythnlakdfbalgdaa", sum := "03ad9aa3908843b220e1cfa954a0b810cde6e28aeafb2ca92f323d71d49a8897", func := "loop.example/g03204/laws.FnExactReadCanon", spec := "fnExactReadCanon", inPlace := ["internal/abi.NoEscape"], recurses := true, apart := false, narrowed := true }
def FnExactReadCanonUptoSaid : Prop := fnExactReadCanonUptoRow.holds Try.pinned (OpenSpec.upto fnExactReadCanonSpec)

/-- 'laws.FnExactRotateCanon', WHERE WHAT IT READS IS OF BULK AT MOST 1048576: true; the input reads as it did. -/
def fnExactRotateCanonUptoRow : OpenClaim := { program := "ythnlakdfbalgdaa", sum := "03ad9aa3908843b220e1cfa954a0b810cde6e28aeafb2ca92f323d71d49a8897", func := "loop.example/g03204/laws.FnExactRotateCanon", spec := "fnExactRotateCanon", recurses := true, apart := false, narrowed := true }
def FnExactRotateCanonUptoSaid : Prop := fnExactRotateCanonUptoRow.holds Try.pinned (OpenSpec.upto fnExactRotateCanonSpec)

/-- 'laws.FnExactStretchCanon', WHERE WHAT IT READS IS OF BULK AT MOST 1048576: true; the input reads as it did. -/
def fnExactStretchCanonUptoRow : OpenClaim := { program := "ythnlakdfbalgdaa", sum := "03ad9aa3908843b220e1cfa954a0b810cde6e28aeafb2ca92f323d71d49a8897", func := "loop.example/g03204/laws.FnExactStretchCanon", spec := "fnExactStretchCanon", recurses := true, apart := false, narrowed := true }
def FnExactStretchCanonUptoSaid : Prop := fnExactStretchCanonUptoRow.holds Try.pinned (OpenSpec.upto fnExactStretchCanonSpec)

/-- 'laws.FnExactVoiceRhythm', WHERE WHAT IT READS IS OF BULK AT MOST 1048576: true; the input reads as it did. -/
def fnExactVoiceRhythmUptoRow : OpenClaim := { program := "ythnlakdfbalgdaa", sum := "03ad9aa3908843b220e1cfa954a0b810cde6e28aeafb2ca92f323d71d49a8897", func := "loop.example/g03204/laws.FnExactVoiceRhythm", spec := "fnExactVoiceRhythm", recurses := true, apart := false, narrowed := true }
def FnExactVoiceRhythmUptoSaid : Prop := fnExactVoiceRhythmUptoRow.holds Try.pinned (OpenSpec.upto fnExactVoiceRhythmSpec)

/-- 'laws.FnExactVoicesAt', WHERE WHAT IT READS IS OF BULK AT MOST 1048576: true; the input reads as it did. -/
def fnExactVoicesAtUptoRow : OpenClaim := { program := "ythnlakdfbalgdaa", sum := "03ad9aa3908843b220e1cfa954a0b810cde6e28aeafb2ca92f323d71d49a8897", func := "loop.example/g03204/laws.FnExactVoicesAt", spec := "fnExactVoicesAt", unfollowed := true, recurses := true, apart := false, narrowed := true }
def FnExactVoicesAtUptoSaid : Prop := fnExactVoicesAtUptoRow.holds Try.pinned (OpenSpec.upto fnExactVoicesAtSpec)

end Rows
end Go.Proofs.Ythnlakdfbalgdaa
