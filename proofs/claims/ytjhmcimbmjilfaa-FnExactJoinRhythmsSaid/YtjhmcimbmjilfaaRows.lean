/-
  No cell of these rows narrows 'for every input' (looked for: loops, veiled, ifaces, maps, wideKeys, modest, calm, conditions, laid).
  DERIVED. THE GIVEN ROWS OF THIS SEAT. 12 by the template 'for every input the law returns true; each argument reads behind the call as it read before'; 0 by the template 'total and deterministic' (their statements: YtjhmcimbmjilfaaTotals.lean).
  GIVEN WITH THE SEED: the statements are not yours to turn. If you find one false, say at which input.
  Laid BY PROGRAM, IN A SANDBOX (cutbox-rows.mjs): the forced cells as the released guide's own fill.sh prints them over the translation 798c5066f6bbd8ca… (all of the seat's roots in one cut). By AI agents, Wed Nov 11 2026. No macro, syntax, notation, axiom, sorry.
-/
import Derived.Test.YtjhmcimbmjilfaaChecked
import GoSem.Claim
import GoSem.ClaimJoined
import GoSem.ClaimMapViews
import Derived.JoinedTies
import Derived.KernelRfl
namespace Go.Proofs.Ytjhmcimbmjilfaa
/- THE CELL 'sum', in the pinned program and in every row, IS THE sha256 OF THE DUMP (.gsa) THAT YtjhmcimbmjilfaaProg.lean LOADS. Nothing in Lean hashes anything: it is a label: what it is worth is what the hold of that sum in a sandbox is worth. -/
noncomputable def Try.pinned : Pinned := { name := "ytjhmcimbmjilfaa", sum := "798c5066f6bbd8ca0624fcb42a84164f520fe65f9f0924bb29a603b3041e873b", checked := Try.checked }
namespace Rows
def none {H : Type} : Left H := { results := [], args := [] }

/-- 'laws.FnExactRhythmOk': WHATEVER THE INPUT: true; the input reads as it did. -/
def fnExactRhythmOkSpec : ChangeSpec := { name := "fnExactRhythmOk", fn := fun _ => fun
  | [d] => { results := [.lit (.bool true)], args := [d] }
  | _ => none }
def fnExactRhythmOkRow : OpenClaim := { program := "ytjhmcimbmjilfaa", sum := "798c5066f6bbd8ca0624fcb42a84164f520fe65f9f0924bb29a603b3041e873b", func := "loop.example/g03204/laws.FnExactRhythmOk", spec := "fnExactRhythmOk", apart := false }
def FnExactRhythmOkSaid : Prop := fnExactRhythmOkRow.holds Try.pinned (OpenSpec.ofChange fnExactRhythmOkSpec)

/-- ITS FALSE NEIGHBOUR: 'it returns false'. Refute it at one input. -/
def fnExactRhythmOkWrong : ChangeSpec := { name := "fnExactRhythmOk", fn := fun _ => fun
  | [d] => { results := [.lit (.bool false)], args := [d] }
  | _ => none }
def FnExactRhythmOkWrongFalsely : Prop := fnExactRhythmOkRow.holds Try.pinned (OpenSpec.ofChange fnExactRhythmOkWrong)

/-- 'laws.FnExactHasBeat': WHATEVER THE INPUT: true; the input reads as it did. -/
def fnExactHasBeatSpec : ChangeSpec := { name := "fnExactHasBeat", fn := fun _ => fun
  | [d1, d2] => { results := [.lit (.bool true)], args := [d1, d2] }
  | _ => none }
def fnExactHasBeatRow : OpenClaim := { program := "ytjhmcimbmjilfaa", sum := "798c5066f6bbd8ca0624fcb42a84164f520fe65f9f0924bb29a603b3041e873b", func := "loop.example/g03204/laws.FnExactHasBeat", spec := "fnExactHasBeat", apart := false }
def FnExactHasBeatSaid : Prop := fnExactHasBeatRow.holds Try.pinned (OpenSpec.ofChange fnExactHasBeatSpec)

/-- ITS FALSE NEIGHBOUR: 'it returns false'. Refute it at one input. -/
def fnExactHasBeatWrong : ChangeSpec := { name := "fnExactHasBeat", fn := fun _ => fun
  | [d1, d2] => { results := [.lit (.bool false)], args := [d1, d2] }
  | _ => none }
def FnExactHasBeatWrongFalsely : Prop := fnExactHasBeatRow.holds Try.pinned (OpenSpec.ofChange fnExactHasBeatWrong)

/-- 'laws.FnExactCountBeats': WHATEVER THE INPUT: true; the input reads as it did. -/
def fnExactCountBeatsSpec : ChangeSpec := { name := "fnExactCountBeats", fn := fun _ => fun
  | [d] => { results := [.lit (.bool true)], args := [d] }
  | _ => none }
def fnExactCountBeatsRow : OpenClaim := { program := "ytjhmcimbmjilfaa", sum := "798c5066f6bbd8ca0624fcb42a84164f520fe65f9f0924bb29a603b3041e873b", func := "loop.example/g03204/laws.FnExactCountBeats", spec := "fnExactCountBeats", apart := false }
def FnExactCountBeatsSaid : Prop := fnExactCountBeatsRow.holds Try.pinned (OpenSpec.ofChange fnExactCountBeatsSpec)

/-- ITS FALSE NEIGHBOUR: 'it returns false'. Refute it at one input. -/
def fnExactCountBeatsWrong : ChangeSpec := { name := "fnExactCountBeats", fn := fun _ => fun
  | [d] => { results := [.lit (.bool false)], args := [d] }
  | _ => none }
def FnExactCountBeatsWrongFalsely : Prop := fnExactCountBeatsRow.holds Try.pinned (OpenSpec.ofChange fnExactCountBeatsWrong)

/-- 'laws.FnExactRotateRhythm': WHATEVER THE INPUT: true; the input reads as it did. -/
def fnExactRotateRhythmSpec : ChangeSpec := { name := "fnExactRotateRhythm", fn := fun _ => fun
  | [d1, d2] => { results := [.lit (.bool true)], args := [d1, d2] }
  | _ => none }
def fnExactRotateRhythmRow : OpenClaim := { program := "ytjhmcimbmjilfaa", sum := "798c5066f6bbd8ca0624fcb42a84164f520fe65f9f0924bb29a603b3041e873b", func := "loop.example/g03204/laws.FnExactRotateRhythm", spec := "fnExactRotateRhythm", recurses := true, apart := false }
def FnExactRotateRhythmSaid : Prop := fnExactRotateRhythmRow.holds Try.pinned (OpenSpec.ofChange fnExactRotateRhythmSpec)

/-- ITS FALSE NEIGHBOUR: 'it returns false'. Refute it at one input. -/
def fnExactRotateRhythmWrong : ChangeSpec := { name := "fnExactRotateRhythm", fn := fun _ => fun
  | [d1, d2] => { results := [.lit (.bool false)], args := [d1, d2] }
  | _ => none }
def FnExactRotateRhythmWrongFalsely : Prop := fnExactRotateRhythmRow.holds Try.pinned (OpenSpec.ofChange fnExactRotateRhythmWrong)

/-- 'laws.FnExactMirrorRhythm': WHATEVER THE INPUT: true; the input reads as it did. -/
def fnExactMirrorRhythmSpec : ChangeSpec := { name := "fnExactMirrorRhythm", fn := fun _ => fun
  | [d] => { results := [.lit (.bool true)], args := [d] }
  | _ => none }
def fnExactMirrorRhythmRow : OpenClaim := { program := "ytjhmcimbmjilfaa", sum := "798c5066f6bbd8ca0624fcb42a84164f520fe65f9f0924bb29a603b3041e873b", func := "loop.example/g03204/laws.FnExactMirrorRhythm", spec := "fnExactMirrorRhythm", recurses := true, apart := false }
def FnExactMirrorRhythmSaid : Prop := fnExactMirrorRhythmRow.holds Try.pinned (OpenSpec.ofChange fnExactMirrorRhythmSpec)

/-- ITS FALSE NEIGHBOUR: 'it returns false'. Refute it at one input. -/
def fnExactMirrorRhythmWrong : ChangeSpec := { name := "fnExactMirrorRhythm", fn := fun _ => fun
  | [d] => { results := [.lit (.bool false)], args := [d] }
  | _ => none }
def FnExactMirrorRhythmWrongFalsely : Prop := fnExactMirrorRhythmRow.holds Try.pinned (OpenSpec.ofChange fnExactMirrorRhythmWrong)

/-- 'laws.FnExactOtherRhythm': WHATEVER THE INPUT: true; the input reads as it did. -/
def fnExactOtherRhythmSpec : ChangeSpec := { name := "fnExactOtherRhythm", fn := fun _ => fun
  | [d] => { results := [.lit (.bool true)], args := [d] }
  | _ => none }
def fnExactOtherRhythmRow : OpenClaim := { program := "ytjhmcimbmjilfaa", sum := "798c5066f6bbd8ca0624fcb42a84164f520fe65f9f0924bb29a603b3041e873b", func := "loop.example/g03204/laws.FnExactOtherRhythm", spec := "fnExactOtherRhythm", apart := false }
def FnExactOtherRhythmSaid : Prop := fnExactOtherRhythmRow.holds Try.pinned (OpenSpec.ofChange fnExactOtherRhythmSpec)

/-- ITS FALSE NEIGHBOUR: 'it returns false'. Refute it at one input. -/
def fnExactOtherRhythmWrong : ChangeSpec := { name := "fnExactOtherRhythm", fn := fun _ => fun
  | [d] => { results := [.lit (.bool false)], args := [d] }
  | _ => none }
def FnExactOtherRhythmWrongFalsely : Prop := fnExactOtherRhythmRow.holds Try.pinned (OpenSpec.ofChange fnExactOtherRhythmWrong)

/-- 'laws.FnExactStretchRhythm': WHATEVER THE INPUT: true; the input reads as it did. -/
def fnExactStretchRhythmSpec : ChangeSpec := { name := "fnExactStretchRhythm", fn := fun _ => fun
  | [d1, d2] => { results := [.lit (.bool true)], args := [d1, d2] }
  | _ => none }
def fnExactStretchRhythmRow : OpenClaim := { program := "ytjhmcimbmjilfaa", sum := "798c5066f6bbd8ca0624fcb42a84164f520fe65f9f0924bb29a603b3041e873b", func := "loop.example/g03204/laws.FnExactStretchRhythm", spec := "fnExactStretchRhythm", recurses := true, apart := false }
def FnExactStretchRhythmSaid : Prop := fnExactStretchRhythmRow.holds Try.pinned (OpenSpec.ofChange fnExactStretchRhythmSpec)

/-- ITS FALSE NEIGHBOUR: 'it returns false'. Refute it at one input. -/
def fnExactStretchRhythmWrong : ChangeSpec := { name := "fnExactStretchRhythm", fn := fun _ => fun
  | [d1, d2] => { results := [.lit (.bool false)], args := [d1, d2] }
  | _ => none }
def FnExactStretchRhythmWrongFalsely : Prop := fnExactStretchRhythmRow.holds Try.pinned (OpenSpec.ofChange fnExactStretchRhythmWrong)

/-- 'laws.FnExactJoinRhythms': WHATEVER THE INPUT: true; the input reads as it did. -/
def fnExactJoinRhythmsSpec : ChangeSpec := { name := "fnExactJoinRhythms", fn := fun _ => fun
  | [d1, d2] => { results := [.lit (.bool true)], args := [d1, d2] }
  | _ => none }
def fnExactJoinRhythmsRow : OpenClaim := { program := "ytjhmcimbmjilfaa", sum := "798c5066f6bbd8ca0624fcb42a84164f520fe65f9f0924bb29a603b3041e873b", func := "loop.example/g03204/laws.FnExactJoinRhythms", spec := "fnExactJoinRhythms", recurses := true, apart := false }
def FnExactJoinRhythmsSaid : Prop := fnExactJoinRhythmsRow.holds Try.pinned (OpenSpec.ofChange fnExactJoinRhythmsSpec)

/-- ITS FALSE NEIGHBOUR: 'it returns false'. Refute it at one input. -/
def fnExactJoinRhythmsWrong : ChangeSpec := { name := "fnExactJoinRhythms", fn := fun _ => fun
  | [d1, d2] => { results := [.lit (.bool false)], args := [d1, d2] }
  | _ => none }
def FnExactJoinRhythmsWrongFalsely : Prop := fnExactJoinRhythmsRow.holds Try.pinned (OpenSpec.ofChange fnExactJoinRhythmsWrong)

/-- 'laws.FnExactRepeatRhythm': WHATEVER THE INPUT: true; the input reads as it did. -/
def fnExactRepeatRhythmSpec : ChangeSpec := { name := "fnExactRepeatRhythm", fn := fun _ => fun
  | [d1, d2] => { results := [.lit (.bool true)], args := [d1, d2] }
  | _ => none }
def fnExactRepeatRhythmRow : OpenClaim := { program := "ytjhmcimbmjilfaa", sum := "798c5066f6bbd8ca0624fcb42a84164f520fe65f9f0924bb29a603b3041e873b", func := "loop.example/g03204/laws.FnExactRepeatRhythm", spec := "fnExactRepeatRhythm", apart := false }
def FnExactRepeatRhythmSaid : Prop := fnExactRepeatRhythmRow.holds Try.pinned (OpenSpec.ofChange fnExactRepeatRhythmSpec)

/-- ITS FALSE NEIGHBOUR: 'it returns false'. Refute it at one input. -/
def fnExactRepeatRhythmWrong : ChangeSpec := { name := "fnExactRepeatRhythm", fn := fun _ => fun
  | [d1, d2] => { results := [.lit (.bool false)], args := [d1, d2] }
  | _ => none }
def FnExactRepeatRhythmWrongFalsely : Prop := fnExactRepeatRhythmRow.holds Try.pinned (OpenSpec.ofChange fnExactRepeatRhythmWrong)

/-- 'laws.FnExactSameRhythm': WHATEVER THE INPUT: true; the input reads as it did. -/
def fnExactSameRhythmSpec : ChangeSpec := { name := "fnExactSameRhythm", fn := fun _ => fun
  | [d1, d2] => { results := [.lit (.bool true)], args := [d1, d2] }
  | _ => none }
def fnExactSameRhythmRow : OpenClaim := { program := "ytjhmcimbmjilfaa", sum := "798c5066f6bbd8ca0624fcb42a84164f520fe65f9f0924bb29a603b3041e873b", func := "loop.example/g03204/laws.FnExactSameRhythm", spec := "fnExactSameRhythm", apart := false }
def FnExactSameRhythmSaid : Prop := fnExactSameRhythmRow.holds Try.pinned (OpenSpec.ofChange fnExactSameRhythmSpec)

/-- ITS FALSE NEIGHBOUR: 'it returns false'. Refute it at one input. -/
def fnExactSameRhythmWrong : ChangeSpec := { name := "fnExactSameRhythm", fn := fun _ => fun
  | [d1, d2] => { results := [.lit (.bool false)], args := [d1, d2] }
  | _ => none }
def FnExactSameRhythmWrongFalsely : Prop := fnExactSameRhythmRow.holds Try.pinned (OpenSpec.ofChange fnExactSameRhythmWrong)

/-- 'laws.FnExactFormatRhythm': WHATEVER THE INPUT: true; the input reads as it did. -/
def fnExactFormatRhythmSpec : ChangeSpec := { name := "fnExactFormatRhythm", fn := fun _ => fun
  | [d] => { results := [.lit (.bool true)], args := [d] }
  | _ => none }
def fnExactFormatRhythmRow : OpenClaim := { program := "ytjhmcimbmjilfaa", sum := "798c5066f6bbd8ca0624fcb42a84164f520fe65f9f0924bb29a603b3041e873b", func := "loop.example/g03204/laws.FnExactFormatRhythm", spec := "fnExactFormatRhythm", inPlace := ["internal/abi.NoEscape"], apart := false }
def FnExactFormatRhythmSaid : Prop := fnExactFormatRhythmRow.holds Try.pinned (OpenSpec.ofChange fnExactFormatRhythmSpec)

/-- ITS FALSE NEIGHBOUR: 'it returns false'. Refute it at one input. -/
def fnExactFormatRhythmWrong : ChangeSpec := { name := "fnExactFormatRhythm", fn := fun _ => fun
  | [d] => { results := [.lit (.bool false)], args := [d] }
  | _ => none }
def FnExactFormatRhythmWrongFalsely : Prop := fnExactFormatRhythmRow.holds Try.pinned (OpenSpec.ofChange fnExactFormatRhythmWrong)

/-- 'laws.FnExactParseRhythm': WHATEVER THE INPUT: true; the input reads as it did. -/
def fnExactParseRhythmSpec : ChangeSpec := { name := "fnExactParseRhythm", fn := fun _ => fun
  | [d] => { results := [.lit (.bool true)], args := [d] }
  | _ => none }
def fnExactParseRhythmRow : OpenClaim := { program := "ytjhmcimbmjilfaa", sum := "798c5066f6bbd8ca0624fcb42a84164f520fe65f9f0924bb29a603b3041e873b", func := "loop.example/g03204/laws.FnExactParseRhythm", spec := "fnExactParseRhythm", apart := false }
def FnExactParseRhythmSaid : Prop := fnExactParseRhythmRow.holds Try.pinned (OpenSpec.ofChange fnExactParseRhythmSpec)

/-- ITS FALSE NEIGHBOUR: 'it returns false'. Refute it at one input. -/
def fnExactParseRhythmWrong : ChangeSpec := { name := "fnExactParseRhythm", fn := fun _ => fun
  | [d] => { results := [.lit (.bool false)], args := [d] }
  | _ => none }
def FnExactParseRhythmWrongFalsely : Prop := fnExactParseRhythmRow.holds Try.pinned (OpenSpec.ofChange fnExactParseRhythmWrong)

/- THE SECOND FORM. 'bulk': how many values and letters a reading holds, each counted each time it is reached (what is shared counts as often as it is met; a slice's spare places count too). A statement '..UptoSaid' is the law's where the arguments, and the package variables that the reading takes, are together of bulk at most 1048576: NARROWER than '..Said'. Prove '..Said' where nothing that the law and all that it calls make is longer than what came in: it says more and counts as full. Else prove '..UptoSaid'. A law counts once. -/
mutual
def uptoBulk {H : Type} : DataW H → Nat
  | .lit (.string bytes) => bytes.length + 1
  | .lit _ => 1
  | .nil => 1
  | .ptr d => uptoBulk d + 1
  | .slice elems spare => uptoBulkAll elems + uptoBulkAll spare + 1
  | .agg parts => uptoBulkAll parts + 1
  | .iface _ d => uptoBulk d + 1
  | .map entries => uptoBulkEntries entries + 1
  | .held _ => 1
def uptoBulkAll {H : Type} : List (DataW H) → Nat
  | [] => 0
  | d :: r => uptoBulk d + uptoBulkAll r
def uptoBulkEntries {H : Type} : List (Lit × DataW H) → Nat
  | [] => 0
  | x :: r => uptoBulkEntry x + uptoBulkEntries r
def uptoBulkEntry {H : Type} : Lit × DataW H → Nat
  | (.string bytes, d) => bytes.length + uptoBulk d + 1
  | (_, d) => uptoBulk d + 1
 end
def uptoSmall : (H : Type) → List (DataW H) → Bool := fun _ ds => decide (uptoBulkAll ds ≤ 1048576)
def OpenSpec.upto (s : _root_.Go.ChangeSpec) : _root_.Go.OpenSpec := { _root_.Go.OpenSpec.ofChange s with cond := some uptoSmall }

/-- 'laws.FnExactRhythmOk', WHERE WHAT IT READS IS OF BULK AT MOST 1048576: true; the input reads as it did. -/
def fnExactRhythmOkUptoRow : OpenClaim := { program := "ytjhmcimbmjilfaa", sum := "798c5066f6bbd8ca0624fcb42a84164f520fe65f9f0924bb29a603b3041e873b", func := "loop.example/g03204/laws.FnExactRhythmOk", spec := "fnExactRhythmOk", apart := false, narrowed := true }
def FnExactRhythmOkUptoSaid : Prop := fnExactRhythmOkUptoRow.holds Try.pinned (OpenSpec.upto fnExactRhythmOkSpec)

/-- 'laws.FnExactHasBeat', WHERE WHAT IT READS IS OF BULK AT MOST 1048576: true; the input reads as it did. -/
def fnExactHasBeatUptoRow : OpenClaim := { program := "ytjhmcimbmjilfaa", sum := "798c5066f6bbd8ca0624fcb42a84164f520fe65f9f0924bb29a603b3041e873b", func := "loop.example/g03204/laws.FnExactHasBeat", spec := "fnExactHasBeat", apart := false, narrowed := true }
def FnExactHasBeatUptoSaid : Prop := fnExactHasBeatUptoRow.holds Try.pinned (OpenSpec.upto fnExactHasBeatSpec)

/-- 'laws.FnExactCountBeats', WHERE WHAT IT READS IS OF BULK AT MOST 1048576: true; the input reads as it did. -/
def fnExactCountBeatsUptoRow : OpenClaim := { program := "ytjhmcimbmjilfaa", sum := "798c5066f6bbd8ca0624fcb42a84164f520fe65f9f0924bb29a603b3041e873b", func := "loop.example/g03204/laws.FnExactCountBeats", spec := "fnExactCountBeats", apart := false, narrowed := true }
def FnExactCountBeatsUptoSaid : Prop := fnExactCountBeatsUptoRow.holds Try.pinned (OpenSpec.upto fnExactCountBeatsSpec)

/-- 'laws.FnExactRotateRhythm', WHERE WHAT IT READS IS OF BULK AT MOST 1048576: true; the input reads as it did. -/
def fnExactRotateRhythmUptoRow : OpenClaim := { program := "ytjhmcimbmjilfaa", sum := "798c5066f6bbd8ca0624fcb42a84164f520fe65f9f0924bb29a603b3041e873b", func := "loop.example/g03204/laws.FnExactRotateRhythm", spec := "fnExactRotateRhythm", recurses := true, apart := false, narrowed := true }
def FnExactRotateRhythmUptoSaid : Prop := fnExactRotateRhythmUptoRow.holds Try.pinned (OpenSpec.upto fnExactRotateRhythmSpec)

/-- 'laws.FnExactMirrorRhythm', WHERE WHAT IT READS IS OF BULK AT MOST 1048576: true; the input reads as it did. -/
def fnExactMirrorRhythmUptoRow : OpenClaim := { program := "ytjhmcimbmjilfaa", sum := "798c5066f6bbd8ca0624fcb42a84164f520fe65f9f0924bb29a603b3041e873b", func := "loop.example/g03204/laws.FnExactMirrorRhythm", spec := "fnExactMirrorRhythm", recurses := true, apart := false, narrowed := true }
def FnExactMirrorRhythmUptoSaid : Prop := fnExactMirrorRhythmUptoRow.holds Try.pinned (OpenSpec.upto fnExactMirrorRhythmSpec)

/-- 'laws.FnExactOtherRhythm', WHERE WHAT IT READS IS OF BULK AT MOST 1048576: true; the input reads as it did. -/
def fnExactOtherRhythmUptoRow : OpenClaim := { program := "ytjhmcimbmjilfaa", sum := "798c5066f6bbd8ca0624fcb42a84164f520fe65f9f0924bb29a603b3041e873b", func := "loop.example/g03204/laws.FnExactOtherRhythm", spec := "fnExactOtherRhythm", apart := false, narrowed := true }
def FnExactOtherRhythmUptoSaid : Prop := fnExactOtherRhythmUptoRow.holds Try.pinned (OpenSpec.upto fnExactOtherRhythmSpec)

/-- 'laws.FnExactStretchRhythm', WHERE WHAT IT READS IS OF BULK AT MOST 1048576: true; the input reads as it did. -/
def fnExactStretchRhythmUptoRow : OpenClaim := { program := "ytjhmcimbmjilfaa", sum := "798c5066f6bbd8ca0624fcb42a84164f520fe65f9f0924bb29a603b3041e873b", func := "loop.example/g03204/laws.FnExactStretchRhythm", spec := "fnExactStretchRhythm", recurses := true, apart := false, narrowed := true }
def FnExactStretchRhythmUptoSaid : Prop := fnExactStretchRhythmUptoRow.holds Try.pinned (OpenSpec.upto fnExactStretchRhythmSpec)

/-- 'laws.FnExactJoinRhythms', WHERE WHAT IT READS IS OF BULK AT MOST 1048576: true; the input reads as it did. -/
def fnExactJoinRhythmsUptoRow : OpenClaim := { program := "ytjhmcimbmjilfaa", sum := "798c5066f6bbd8ca0624fcb42a84164f520fe65f9f0924bb29a603b3041e873b", func := "loop.example/g03204/laws.FnExactJoinRhythms", spec := "fnExactJoinRhythms", recurses := true, apart := false, narrowed := true }
def FnExactJoinRhythmsUptoSaid : Prop := fnExactJoinRhythmsUptoRow.holds Try.pinned (OpenSpec.upto fnExactJoinRhythmsSpec)

/-- 'laws.FnExactRepeatRhythm', WHERE WHAT IT READS IS OF BULK AT MOST 1048576: true; the input reads as it did. -/
def fnExactRepeatRhythmUptoRow : OpenClaim := { program := "ytjhmcimbmjilfaa", sum := "798c5066f6bbd8ca0624fcb42a84164f520fe65f9f0924bb29a603b3041e873b", func := "loop.example/g03204/laws.FnExactRepeatRhythm", spec := "fnExactRepeatRhythm", apart := false, narrowed := true }
def FnExactRepeatRhythmUptoSaid : Prop := fnExactRepeatRhythmUptoRow.holds Try.pinned (OpenSpec.upto fnExactRepeatRhythmSpec)

/-- 'laws.FnExactSameRhythm', WHERE WHAT IT READS IS OF BULK AT MOST 1048576: true; the input reads as it did. -/
def fnExactSameRhythmUptoRow : OpenClaim := { program := "ytjhmcimbmjilfaa", sum := "798c5066f6bbd8ca0624fcb42a84164f520fe65f9f0924bb29a603b3041e873b", func := "loop.example/g03204/laws.FnExactSameRhythm", spec := "fnExactSameRhythm", apart := false, narrowed := true }
def FnExactSameRhythmUptoSaid : Prop := fnExactSameRhythmUptoRow.holds Try.pinned (OpenSpec.upto fnExactSameRhythmSpec)

/-- 'laws.FnExactFormatRhythm', WHERE WHAT IT READS IS OF BULK AT MOST 1048576: true; the input reads as it did. -/
def fnExactFormatRhythmUptoRow : OpenClaim := { program := "ytjhmcimbmjilfaa", sum := "798c5066f6bbd8ca0624fcb42a84164f520fe65f9f0924bb29a603b3041e873b", func := "loop.example/g03204/laws.FnExactFormatRhythm", spec := "fnExactFormatRhythm", inPlace := ["internal/abi.NoEscape"], apart := false, narrowed := true }
def FnExactFormatRhythmUptoSaid : Prop := fnExactFormatRhythmUptoRow.holds Try.pinned (OpenSpec.upto fnExactFormatRhythmSpec)

/-- 'laws.FnExactParseRhythm', WHERE WHAT IT READS IS OF BULK AT MOST 1048576: true; the input reads as it did. -/
def fnExactParseRhythmUptoRow : OpenClaim := { program := "ytjhmcimbmjilfaa", sum := "798c5066f6bbd8ca0624fcb42a84164f520fe65f9f0924bb29a603b3041e873b", func := "loop.example/g03204/laws.FnExactParseRhythm", spec := "fnExactParseRhythm", apart := false, narrowed := true }
def FnExactParseRhythmUptoSaid : Prop := fnExactParseRhythmUptoRow.holds Try.pinned (OpenSpec.upto fnExactParseRhythmSpec)

end Rows
end Go.Proofs.Ytjhmcimbmjilfaa
