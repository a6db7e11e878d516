/-
  No cell of these rows narrows 'for every input' (looked for: loops, veiled, ifaces, maps, wideKeys, modest, calm, conditions, laid).
  DERIVED. THE GIVEN ROWS OF THIS SEAT. 11 by the template 'for every input the law returns true; each argument reads behind the call as it read before'; 0 by the template 'total and deterministic' (their statements: YtmlhpllppgcgkaaTotals.lean).
  GIVEN WITH THE SEED: the statements are not yours to turn. If you find one false, say at which input.
  Laid BY PROGRAM, IN A SANDBOX (cutbox-rows.mjs): the forced cells as the released guide's own fill.sh prints them over the translation 060bfde0417c1147… (all of the seat's roots in one cut). By AI agents, Wed Nov 11 2026. No macro, syntax, notation, axiom, sorry.
-/
import Derived.Test.YtmlhpllppgcgkaaChecked
import GoSem.Claim
import GoSem.ClaimJoined
import GoSem.ClaimMapViews
import Derived.JoinedTies
import Derived.KernelRfl
namespace Go.Proofs.Ytmlhpllppgcgkaa
/- THE CELL 'sum', in the pinned program and in every row, IS THE sha256 OF THE DUMP (.gsa) THAT YtmlhpllppgcgkaaProg.lean LOADS. Nothing in Lean hashes anything: it is a label: what it is worth is what the hold of that sum in a sandbox is worth. -/
noncomputable def Try.pinned : Pinned := { name := "ytmlhpllppgcgkaa", sum := "060bfde0417c1147c9523e1723af74defbb4f1a84cd29744178202cac1336530", checked := Try.checked }
namespace Rows
def none {H : Type} : Left H := { results := [], args := [] }

/-- 'laws.FnRhythms': WHATEVER THE INPUT: true; the input reads as it did. -/
def fnRhythmsSpec : ChangeSpec := { name := "fnRhythms", fn := fun _ => fun
  | [d] => { results := [.lit (.bool true)], args := [d] }
  | _ => none }
def fnRhythmsRow : OpenClaim := { program := "ytmlhpllppgcgkaa", sum := "060bfde0417c1147c9523e1723af74defbb4f1a84cd29744178202cac1336530", func := "loop.example/g03204/laws.FnRhythms", spec := "fnRhythms", recurses := true, apart := false }
def FnRhythmsSaid : Prop := fnRhythmsRow.holds Try.pinned (OpenSpec.ofChange fnRhythmsSpec)

/-- ITS FALSE NEIGHBOUR: 'it returns false'. Refute it at one input. -/
def fnRhythmsWrong : ChangeSpec := { name := "fnRhythms", fn := fun _ => fun
  | [d] => { results := [.lit (.bool false)], args := [d] }
  | _ => none }
def FnRhythmsWrongFalsely : Prop := fnRhythmsRow.holds Try.pinned (OpenSpec.ofChange fnRhythmsWrong)

/-- 'laws.FnForms': WHATEVER THE INPUT: true; the input reads as it did. -/
def fnFormsSpec : ChangeSpec := { name := "fnForms", fn := fun _ => fun
  | [d] => { results := [.lit (.bool true)], args := [d] }
  | _ => none }
def fnFormsRow : OpenClaim := { program := "ytmlhpllppgcgkaa", sum := "060bfde0417c1147c9523e1723af74defbb4f1a84cd29744178202cac1336530", func := "loop.example/g03204/laws.FnForms", spec := "fnForms", inPlace := ["internal/abi.NoEscape"], recurses := true, apart := false }
def FnFormsSaid : Prop := fnFormsRow.holds Try.pinned (OpenSpec.ofChange fnFormsSpec)

/-- ITS FALSE NEIGHBOUR: 'it returns false'. Refute it at one input. -/
def fnFormsWrong : ChangeSpec := { name := "fnForms", fn := fun _ => fun
  | [d] => { results := [.lit (.bool false)], args := [d] }
  | _ => none }
def FnFormsWrongFalsely : Prop := fnFormsRow.holds Try.pinned (OpenSpec.ofChange fnFormsWrong)

/-- 'laws.FnExactLeastRotation': WHATEVER THE INPUT: true; the input reads as it did. -/
def fnExactLeastRotationSpec : ChangeSpec := { name := "fnExactLeastRotation", fn := fun _ => fun
  | [d] => { results := [.lit (.bool true)], args := [d] }
  | _ => none }
def fnExactLeastRotationRow : OpenClaim := { program := "ytmlhpllppgcgkaa", sum := "060bfde0417c1147c9523e1723af74defbb4f1a84cd29744178202cac1336530", func := "loop.example/g03204/laws.FnExactLeastRotation", spec := "fnExactLeastRotation", inPlace := ["internal/abi.NoEscape"], recurses := true, apart := false }
def FnExactLeastRotationSaid : Prop := fnExactLeastRotationRow.holds Try.pinned (OpenSpec.ofChange fnExactLeastRotationSpec)

/-- ITS FALSE NEIGHBOUR: 'it returns false'. Refute it at one input. -/
def fnExactLeastRotationWrong : ChangeSpec := { name := "fnExactLeastRotation", fn := fun _ => fun
  | [d] => { results := [.lit (.bool false)], args := [d] }
  | _ => none }
def FnExactLeastRotationWrongFalsely : Prop := fnExactLeastRotationRow.holds Try.pinned (OpenSpec.ofChange fnExactLeastRotationWrong)

/-- 'laws.FnExactLeastForm': WHATEVER THE INPUT: true; the input reads as it did. -/
def fnExactLeastFormSpec : ChangeSpec := { name := "fnExactLeastForm", fn := fun _ => fun
  | [d] => { results := [.lit (.bool true)], args := [d] }
  | _ => none }
def fnExactLeastFormRow : OpenClaim := { program := "ytmlhpllppgcgkaa", sum := "060bfde0417c1147c9523e1723af74defbb4f1a84cd29744178202cac1336530", func := "loop.example/g03204/laws.FnExactLeastForm", spec := "fnExactLeastForm", inPlace := ["internal/abi.NoEscape"], recurses := true, apart := false }
def FnExactLeastFormSaid : Prop := fnExactLeastFormRow.holds Try.pinned (OpenSpec.ofChange fnExactLeastFormSpec)

/-- ITS FALSE NEIGHBOUR: 'it returns false'. Refute it at one input. -/
def fnExactLeastFormWrong : ChangeSpec := { name := "fnExactLeastForm", fn := fun _ => fun
  | [d] => { results := [.lit (.bool false)], args := [d] }
  | _ => none }
def FnExactLeastFormWrongFalsely : Prop := fnExactLeastFormRow.holds Try.pinned (OpenSpec.ofChange fnExactLeastFormWrong)

/-- 'laws.FnExactPeriodOf': WHATEVER THE INPUT: true; the input reads as it did. -/
def fnExactPeriodOfSpec : ChangeSpec := { name := "fnExactPeriodOf", fn := fun _ => fun
  | [d] => { results := [.lit (.bool true)], args := [d] }
  | _ => none }
def fnExactPeriodOfRow : OpenClaim := { program := "ytmlhpllppgcgkaa", sum := "060bfde0417c1147c9523e1723af74defbb4f1a84cd29744178202cac1336530", func := "loop.example/g03204/laws.FnExactPeriodOf", spec := "fnExactPeriodOf", recurses := true, apart := false }
def FnExactPeriodOfSaid : Prop := fnExactPeriodOfRow.holds Try.pinned (OpenSpec.ofChange fnExactPeriodOfSpec)

/-- ITS FALSE NEIGHBOUR: 'it returns false'. Refute it at one input. -/
def fnExactPeriodOfWrong : ChangeSpec := { name := "fnExactPeriodOf", fn := fun _ => fun
  | [d] => { results := [.lit (.bool false)], args := [d] }
  | _ => none }
def FnExactPeriodOfWrongFalsely : Prop := fnExactPeriodOfRow.holds Try.pinned (OpenSpec.ofChange fnExactPeriodOfWrong)

/-- 'laws.FnExactIsPeriodic': WHATEVER THE INPUT: true; the input reads as it did. -/
def fnExactIsPeriodicSpec : ChangeSpec := { name := "fnExactIsPeriodic", fn := fun _ => fun
  | [d] => { results := [.lit (.bool true)], args := [d] }
  | _ => none }
def fnExactIsPeriodicRow : OpenClaim := { program := "ytmlhpllppgcgkaa", sum := "060bfde0417c1147c9523e1723af74defbb4f1a84cd29744178202cac1336530", func := "loop.example/g03204/laws.FnExactIsPeriodic", spec := "fnExactIsPeriodic", recurses := true, apart := false }
def FnExactIsPeriodicSaid : Prop := fnExactIsPeriodicRow.holds Try.pinned (OpenSpec.ofChange fnExactIsPeriodicSpec)

/-- ITS FALSE NEIGHBOUR: 'it returns false'. Refute it at one input. -/
def fnExactIsPeriodicWrong : ChangeSpec := { name := "fnExactIsPeriodic", fn := fun _ => fun
  | [d] => { results := [.lit (.bool false)], args := [d] }
  | _ => none }
def FnExactIsPeriodicWrongFalsely : Prop := fnExactIsPeriodicRow.holds Try.pinned (OpenSpec.ofChange fnExactIsPeriodicWrong)

/-- 'laws.FnExactRotationTo': WHATEVER THE INPUT: true; the input reads as it did. -/
def fnExactRotationToSpec : ChangeSpec := { name := "fnExactRotationTo", fn := fun _ => fun
  | [d1, d2] => { results := [.lit (.bool true)], args := [d1, d2] }
  | _ => none }
def fnExactRotationToRow : OpenClaim := { program := "ytmlhpllppgcgkaa", sum := "060bfde0417c1147c9523e1723af74defbb4f1a84cd29744178202cac1336530", func := "loop.example/g03204/laws.FnExactRotationTo", spec := "fnExactRotationTo", recurses := true, apart := false }
def FnExactRotationToSaid : Prop := fnExactRotationToRow.holds Try.pinned (OpenSpec.ofChange fnExactRotationToSpec)

/-- ITS FALSE NEIGHBOUR: 'it returns false'. Refute it at one input. -/
def fnExactRotationToWrong : ChangeSpec := { name := "fnExactRotationTo", fn := fun _ => fun
  | [d1, d2] => { results := [.lit (.bool false)], args := [d1, d2] }
  | _ => none }
def FnExactRotationToWrongFalsely : Prop := fnExactRotationToRow.holds Try.pinned (OpenSpec.ofChange fnExactRotationToWrong)

/-- 'laws.FnExactAreRotations': WHATEVER THE INPUT: true; the input reads as it did. -/
def fnExactAreRotationsSpec : ChangeSpec := { name := "fnExactAreRotations", fn := fun _ => fun
  | [d1, d2] => { results := [.lit (.bool true)], args := [d1, d2] }
  | _ => none }
def fnExactAreRotationsRow : OpenClaim := { program := "ytmlhpllppgcgkaa", sum := "060bfde0417c1147c9523e1723af74defbb4f1a84cd29744178202cac1336530", func := "loop.example/g03204/laws.FnExactAreRotations", spec := "fnExactAreRotations", recurses := true, apart := false }
def FnExactAreRotationsSaid : Prop := fnExactAreRotationsRow.holds Try.pinned (OpenSpec.ofChange fnExactAreRotationsSpec)

/-- ITS FALSE NEIGHBOUR: 'it returns false'. Refute it at one input. -/
def fnExactAreRotationsWrong : ChangeSpec := { name := "fnExactAreRotations", fn := fun _ => fun
  | [d1, d2] => { results := [.lit (.bool false)], args := [d1, d2] }
  | _ => none }
def FnExactAreRotationsWrongFalsely : Prop := fnExactAreRotationsRow.holds Try.pinned (OpenSpec.ofChange fnExactAreRotationsWrong)

/-- 'laws.FnExactAreForms': WHATEVER THE INPUT: true; the input reads as it did. -/
def fnExactAreFormsSpec : ChangeSpec := { name := "fnExactAreForms", fn := fun _ => fun
  | [d1, d2] => { results := [.lit (.bool true)], args := [d1, d2] }
  | _ => none }
def fnExactAreFormsRow : OpenClaim := { program := "ytmlhpllppgcgkaa", sum := "060bfde0417c1147c9523e1723af74defbb4f1a84cd29744178202cac1336530", func := "loop.example/g03204/laws.FnExactAreForms", spec := "fnExactAreForms", recurses := true, apart := false }
def FnExactAreFormsSaid : Prop := fnExactAreFormsRow.holds Try.pinned (OpenSpec.ofChange fnExactAreFormsSpec)

/-- ITS FALSE NEIGHBOUR: 'it returns false'. Refute it at one input. -/
def fnExactAreFormsWrong : ChangeSpec := { name := "fnExactAreForms", fn := fun _ => fun
  | [d1, d2] => { results := [.lit (.bool false)], args := [d1, d2] }
  | _ => none }
def FnExactAreFormsWrongFalsely : Prop := fnExactAreFormsRow.holds Try.pinned (OpenSpec.ofChange fnExactAreFormsWrong)

/-- 'laws.FnExactAxesOf': WHATEVER THE INPUT: true; the input reads as it did. -/
def fnExactAxesOfSpec : ChangeSpec := { name := "fnExactAxesOf", fn := fun _ => fun
  | [d] => { results := [.lit (.bool true)], args := [d] }
  | _ => none }
def fnExactAxesOfRow : OpenClaim := { program := "ytmlhpllppgcgkaa", sum := "060bfde0417c1147c9523e1723af74defbb4f1a84cd29744178202cac1336530", func := "loop.example/g03204/laws.FnExactAxesOf", spec := "fnExactAxesOf", recurses := true, apart := false }
def FnExactAxesOfSaid : Prop := fnExactAxesOfRow.holds Try.pinned (OpenSpec.ofChange fnExactAxesOfSpec)

/-- ITS FALSE NEIGHBOUR: 'it returns false'. Refute it at one input. -/
def fnExactAxesOfWrong : ChangeSpec := { name := "fnExactAxesOf", fn := fun _ => fun
  | [d] => { results := [.lit (.bool false)], args := [d] }
  | _ => none }
def FnExactAxesOfWrongFalsely : Prop := fnExactAxesOfRow.holds Try.pinned (OpenSpec.ofChange fnExactAxesOfWrong)

/-- 'laws.FnExactIsMirrored': WHATEVER THE INPUT: true; the input reads as it did. -/
def fnExactIsMirroredSpec : ChangeSpec := { name := "fnExactIsMirrored", fn := fun _ => fun
  | [d] => { results := [.lit (.bool true)], args := [d] }
  | _ => none }
def fnExactIsMirroredRow : OpenClaim := { program := "ytmlhpllppgcgkaa", sum := "060bfde0417c1147c9523e1723af74defbb4f1a84cd29744178202cac1336530", func := "loop.example/g03204/laws.FnExactIsMirrored", spec := "fnExactIsMirrored", recurses := true, apart := false }
def FnExactIsMirroredSaid : Prop := fnExactIsMirroredRow.holds Try.pinned (OpenSpec.ofChange fnExactIsMirroredSpec)

/-- ITS FALSE NEIGHBOUR: 'it returns false'. Refute it at one input. -/
def fnExactIsMirroredWrong : ChangeSpec := { name := "fnExactIsMirrored", fn := fun _ => fun
  | [d] => { results := [.lit (.bool false)], args := [d] }
  | _ => none }
def FnExactIsMirroredWrongFalsely : Prop := fnExactIsMirroredRow.holds Try.pinned (OpenSpec.ofChange fnExactIsMirroredWrong)

/- THE SECOND FORM. 'bulk': how many values and letters a reading holds, each counted each time it is reached (what is shared counts as often as it is met; a slice's spare places count too). A statement '..UptoSaid' is the law's where the arguments, and the package variables that the reading takes, are together of bulk at most 1048576: NARROWER than '..Said'. Prove '..Said' where nothing that the law and all that it calls make is longer than what came in: it says more and counts as full. Else prove '..UptoSaid'. A law counts once. -/
mutual
def uptoBulk {H : Type} : DataW H → Nat
  | .lit (.string bytes) => bytes.length + 1
  | .lit _ => 1
  | .nil => 1
  | .ptr d => uptoBulk d + 1
  | .slice elems spare => uptoBulkAll elems + uptoBulkAll spare + 1
  | .agg parts => uptoBulkAll parts + 1
  | .iface _ d => uptoBulk d + 1
  | .map entries => uptoBulkEntries entries + 1
  | .held _ => 1
def uptoBulkAll {H : Type} : List (DataW H) → Nat
  | [] => 0
  | d :: r => uptoBulk d + uptoBulkAll r
def uptoBulkEntries {H : Type} : List (Lit × DataW H) → Nat
  | [] => 0
  | x :: r => uptoBulkEntry x + uptoBulkEntries r
def uptoBulkEntry {H : Type} : Lit × DataW H → Nat
  | (.string bytes, d) => bytes.length + uptoBulk d + 1
  | (_, d) => uptoBulk d + 1
 end
def uptoSmall : (H : Type) → List (DataW H) → Bool := fun _ ds => decide (uptoBulkAll ds ≤ 1048576)
def OpenSpec.upto (s : _root_.Go.ChangeSpec) : _root_.Go.OpenSpec := { _root_.Go.OpenSpec.ofChange s with cond := some uptoSmall }

/-- 'laws.FnRhythms', WHERE WHAT IT READS IS OF BULK AT MOST 1048576: true; the input reads as it did. -/
def fnRhythmsUptoRow : OpenClaim := { program := "ytmlhpllppgcgkaa", sum := "060bfde0417c1147c9523e1723af74defbb4f1a84cd29744178202cac1336530", func := "loop.example/g03204/laws.FnRhythms", spec := "fnRhythms", recurses := true, apart := false, narrowed := true }
def FnRhythmsUptoSaid : Prop := fnRhythmsUptoRow.holds Try.pinned (OpenSpec.upto fnRhythmsSpec)

/-- 'laws.FnForms', WHERE WHAT IT READS IS OF BULK AT MOST 1048576: true; the input reads as it did. -/
def fnFormsUptoRow : OpenClaim := { program := "ytmlhpllppgcgkaa", sum := "060bfde0417c1147c9523e1723af74defbb4f1a84cd29744178202cac1336530", func := "loop.example/g03204/laws.FnForms", spec := "fnForms", inPlace := ["internal/abi.NoEscape"], recurses := true, apart := false, narrowed := true }
def FnFormsUptoSaid : Prop := fnFormsUptoRow.holds Try.pinned (OpenSpec.upto fnFormsSpec)

/-- 'laws.FnExactLeastRotation', WHERE WHAT IT READS IS OF BULK AT MOST 1048576: true; the input reads as it did. -/
def fnExactLeastRotationUptoRow : OpenClaim := { program := "ytmlhpllppgcgkaa", sum := "060bfde0417c1147c9523e1723af74defbb4f1a84cd29744178202cac1336530", func := "loop.example/g03204/laws.FnExactLeastRotation", spec := "fnExactLeastRotation", inPlace := ["internal/abi.NoEscape"], recurses := true, apart := false, narrowed := true }
def FnExactLeastRotationUptoSaid : Prop := fnExactLeastRotationUptoRow.holds Try.pinned (OpenSpec.upto fnExactLeastRotationSpec)

/-- 'laws.FnExactLeastForm', WHERE WHAT IT READS IS OF BULK AT MOST 1048576: true; the input reads as it did. -/
def fnExactLeastFormUptoRow : OpenClaim := { program := "ytmlhpllppgcgkaa", sum := "060bfde0417c1147c9523e1723af74defbb4f1a84cd29744178202cac1336530", func := "loop.example/g03204/laws.FnExactLeastForm", spec := "fnExactLeastForm", inPlace := ["internal/abi.NoEscape"], recurses := true, apart := false, narrowed := true }
def FnExactLeastFormUptoSaid : Prop := fnExactLeastFormUptoRow.holds Try.pinned (OpenSpec.upto fnExactLeastFormSpec)

/-- 'laws.FnExactPeriodOf', WHERE WHAT IT READS IS OF BULK AT MOST 1048576: true; the input reads as it did. -/
def fnExactPeriodOfUptoRow : OpenClaim := { program := "ytmlhpllppgcgkaa", sum := "060bfde0417c1147c9523e1723af74defbb4f1a84cd29744178202cac1336530", func := "loop.example/g03204/laws.FnExactPeriodOf", spec := "fnExactPeriodOf", recurses := true, apart := false, narrowed := true }
def FnExactPeriodOfUptoSaid : Prop := fnExactPeriodOfUptoRow.holds Try.pinned (OpenSpec.upto fnExactPeriodOfSpec)

/-- 'laws.FnExactIsPeriodic', WHERE WHAT IT READS IS OF BULK AT MOST 1048576: true; the input reads as it did. -/
def fnExactIsPeriodicUptoRow : OpenClaim := { program := "ytmlhpllppgcgkaa", sum := "060bfde0417c1147c9523e1723af74defbb4f1a84cd29744178202cac1336530", func := "loop.example/g03204/laws.FnExactIsPeriodic", spec := "fnExactIsPeriodic", recurses := true, apart := false, narrowed := true }
def FnExactIsPeriodicUptoSaid : Prop := fnExactIsPeriodicUptoRow.holds Try.pinned (OpenSpec.upto fnExactIsPeriodicSpec)

/-- 'laws.FnExactRotationTo', WHERE WHAT IT READS IS OF BULK AT MOST 1048576: true; the input reads as it did. -/
def fnExactRotationToUptoRow : OpenClaim := { program := "ytmlhpllppgcgkaa", sum := "060bfde0417c1147c9523e1723af74defbb4f1a84cd29744178202cac1336530", func := "loop.example/g03204/laws.FnExactRotationTo", spec := "fnExactRotationTo", recurses := true, apart := false, narrowed := true }
def FnExactRotationToUptoSaid : Prop := fnExactRotationToUptoRow.holds Try.pinned (OpenSpec.upto fnExactRotationToSpec)

/-- 'laws.FnExactAreRotations', WHERE WHAT IT READS IS OF BULK AT MOST 1048576: true; the input reads as it did. -/
def fnExactAreRotationsUptoRow : OpenClaim := { program := "ytmlhpllppgcgkaa", sum := "060bfde0417c1147c9523e1723af74defbb4f1a84cd29744178202cac1336530", func := "loop.example/g03204/laws.FnExactAreRotations", spec := "fnExactAreRotations", recurses := true, apart := false, narrowed := true }
def FnExactAreRotationsUptoSaid : Prop := fnExactAreRotationsUptoRow.holds Try.pinned (OpenSpec.upto fnExactAreRotationsSpec)

/-- 'laws.FnExactAreForms', WHERE WHAT IT READS IS OF BULK AT MOST 1048576: true; the input reads as it did. -/
def fnExactAreFormsUptoRow : OpenClaim := { program := "ytmlhpllppgcgkaa", sum := "060bfde0417c1147c9523e1723af74defbb4f1a84cd29744178202cac1336530", func := "loop.example/g03204/laws.FnExactAreForms", spec := "fnExactAreForms", recurses := true, apart := false, narrowed := true }
def FnExactAreFormsUptoSaid : Prop := fnExactAreFormsUptoRow.holds Try.pinned (OpenSpec.upto fnExactAreFormsSpec)

/-- 'laws.FnExactAxesOf', WHERE WHAT IT READS IS OF BULK AT MOST 1048576: true; the input reads as it did. -/
def fnExactAxesOfUptoRow : OpenClaim := { program := "ytmlhpllppgcgkaa", sum := "060bfde0417c1147c9523e1723af74defbb4f1a84cd29744178202cac1336530", func := "loop.example/g03204/laws.FnExactAxesOf", spec := "fnExactAxesOf", recurses := true, apart := false, narrowed := true }
def FnExactAxesOfUptoSaid : Prop := fnExactAxesOfUptoRow.holds Try.pinned (OpenSpec.upto fnExactAxesOfSpec)

/-- 'laws.FnExactIsMirrored', WHERE WHAT IT READS IS OF BULK AT MOST 1048576: true; the input reads as it did. -/
def fnExactIsMirroredUptoRow : OpenClaim := { program := "ytmlhpllppgcgkaa", sum := "060bfde0417c1147c9523e1723af74defbb4f1a84cd29744178202cac1336530", func := "loop.example/g03204/laws.FnExactIsMirrored", spec := "fnExactIsMirrored", recurses := true, apart := false, narrowed := true }
def FnExactIsMirroredUptoSaid : Prop := fnExactIsMirroredUptoRow.holds Try.pinned (OpenSpec.upto fnExactIsMirroredSpec)

end Rows
end Go.Proofs.Ytmlhpllppgcgkaa
