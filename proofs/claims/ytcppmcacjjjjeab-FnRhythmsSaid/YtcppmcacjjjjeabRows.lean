/-
  No cell of these rows narrows 'for every input' (looked for: loops, veiled, ifaces, maps, wideKeys, modest, calm, conditions, laid).
  DERIVED. THE GIVEN ROWS OF THIS SEAT. 3 by the template 'for every input the law returns true; each argument reads behind the call as it read before'; 0 by the template 'total and deterministic' (their statements: YtcppmcacjjjjeabTotals.lean).
  GIVEN WITH THE SEED: the statements are not yours to turn. If you find one false, say at which input.
  Laid BY PROGRAM, IN A SANDBOX (cutbox-rows.mjs): the forced cells as the released guide's own fill.sh prints them over the translation c1a704831a916050… (all of the seat's roots in one cut). By AI agents, Wed Nov 11 2026. No macro, syntax, notation, axiom, sorry.
-/
import Derived.Test.YtcppmcacjjjjeabChecked
import GoSem.Claim
import GoSem.ClaimJoined
import GoSem.ClaimMapViews
import Derived.JoinedTies
import Derived.KernelRfl
namespace Go.Proofs.Ytcppmcacjjjjeab
/- THE CELL 'sum', in the pinned program and in every row, IS THE sha256 OF THE DUMP (.gsa) THAT YtcppmcacjjjjeabProg.lean LOADS. Nothing in Lean hashes anything: it is a label: what it is worth is what the hold of that sum in a sandbox is worth. -/
noncomputable def Try.pinned : Pinned := { name := "ytcppmcacjjjjeab", sum := "c1a704831a916050f5cc7325636308fa5c243512425b4562e691b1fcef84dfe9", checked := Try.checked }
namespace Rows
def none {H : Type} : Left H := { results := [], args := [] }

/-- 'laws.FnRhythms': WHATEVER THE INPUT: true; the input reads as it did. -/
def fnRhythmsSpec : ChangeSpec := { name := "fnRhythms", fn := fun _ => fun
  | [d] => { results := [.lit (.bool true)], args := [d] }
  | _ => none }
def fnRhythmsRow : OpenClaim := { program := "ytcppmcacjjjjeab", sum := "c1a704831a916050f5cc7325636308fa5c243512425b4562e691b1fcef84dfe9", func := "loop.example/g03204/laws.FnRhythms", spec := "fnRhythms", recurses := true, apart := false }
def FnRhythmsSaid : Prop := fnRhythmsRow.holds Try.pinned (OpenSpec.ofChange fnRhythmsSpec)

/-- ITS FALSE NEIGHBOUR: 'it returns false'. Refute it at one input. -/
def fnRhythmsWrong : ChangeSpec := { name := "fnRhythms", fn := fun _ => fun
  | [d] => { results := [.lit (.bool false)], args := [d] }
  | _ => none }
def FnRhythmsWrongFalsely : Prop := fnRhythmsRow.holds Try.pinned (OpenSpec.ofChange fnRhythmsWrong)

/-- 'laws.FnExactJoinRhythms': WHATEVER THE INPUT: true; the input reads as it did. -/
def fnExactJoinRhythmsSpec : ChangeSpec := { name := "fnExactJoinRhythms", fn := fun _ => fun
  | [d1, d2] => { results := [.lit (.bool true)], args := [d1, d2] }
  | _ => none }
def fnExactJoinRhythmsRow : OpenClaim := { program := "ytcppmcacjjjjeab", sum := "c1a704831a916050f5cc7325636308fa5c243512425b4562e691b1fcef84dfe9", func := "loop.example/g03204/laws.FnExactJoinRhythms", spec := "fnExactJoinRhythms", recurses := true, apart := false }
def FnExactJoinRhythmsSaid : Prop := fnExactJoinRhythmsRow.holds Try.pinned (OpenSpec.ofChange fnExactJoinRhythmsSpec)

/-- ITS FALSE NEIGHBOUR: 'it returns false'. Refute it at one input. -/
def fnExactJoinRhythmsWrong : ChangeSpec := { name := "fnExactJoinRhythms", fn := fun _ => fun
  | [d1, d2] => { results := [.lit (.bool false)], args := [d1, d2] }
  | _ => none }
def FnExactJoinRhythmsWrongFalsely : Prop := fnExactJoinRhythmsRow.holds Try.pinned (OpenSpec.ofChange fnExactJoinRhythmsWrong)

/-- 'laws.FnExactSameRhythm': WHATEVER THE INPUT: true; the input reads as it did. -/
def fnExactSameRhythmSpec : ChangeSpec := { name := "fnExactSameRhythm", fn := fun _ => fun
  | [d1, d2] => { results := [.lit (.bool true)], args := [d1, d2] }
  | _ => none }
def fnExactSameRhythmRow : OpenClaim := { program := "ytcppmcacjjjjeab", sum := "c1a704831a916050f5cc7325636308fa5c243512425b4562e691b1fcef84dfe9", func := "loop.example/g03204/laws.FnExactSameRhythm", spec := "fnExactSameRhythm", apart := false }
def FnExactSameRhythmSaid : Prop := fnExactSameRhythmRow.holds Try.pinned (OpenSpec.ofChange fnExactSameRhythmSpec)

/-- ITS FALSE NEIGHBOUR: 'it returns false'. Refute it at one input. -/
def fnExactSameRhythmWrong : ChangeSpec := { name := "fnExactSameRhythm", fn := fun _ => fun
  | [d1, d2] => { results := [.lit (.bool false)], args := [d1, d2] }
  | _ => none }
def FnExactSameRhythmWrongFalsely : Prop := fnExactSameRhythmRow.holds Try.pinned (OpenSpec.ofChange fnExactSameRhythmWrong)

/- THE SECOND FORM. 'bulk': how many values and letters a reading holds, each counted each time it is reached (what is shared counts as often as it is met; a slice's spare places count too). A statement '..UptoSaid' is the law's where the arguments, and the package variables that the reading takes, are together of bulk at most 1048576: NARROWER than '..Said'. Prove '..Said' where nothing that the law and all that it calls make is longer than what came in: it says more and counts as full. Else prove '..UptoSaid'. A law counts once. -/
mutual
def uptoBulk {H : Type} : DataW H → Nat
  | .lit (.string bytes) => bytes.length + 1
  | .lit _ => 1
  | .nil => 1
  | .ptr d => uptoBulk d + 1
  | .slice elems spare => uptoBulkAll elems + uptoBulkAll spare + 1
  | .agg parts => uptoBulkAll parts + 1
  | .iface _ d => uptoBulk d + 1
  | .map entries => uptoBulkEntries entries + 1
  | .held _ => 1
def uptoBulkAll {H : Type} : List (DataW H) → Nat
  | [] => 0
  | d :: r => uptoBulk d + uptoBulkAll r
def uptoBulkEntries {H : Type} : List (Lit × DataW H) → Nat
  | [] => 0
  | x :: r => uptoBulkEntry x + uptoBulkEntries r
def uptoBulkEntry {H : Type} : Lit × DataW H → Nat
  | (.string bytes, d) => bytes.length + uptoBulk d + 1
  | (_, d) => uptoBulk d + 1
 end
def uptoSmall : (H : Type) → List (DataW H) → Bool := fun _ ds => decide (uptoBulkAll ds ≤ 1048576)
def OpenSpec.upto (s : _root_.Go.ChangeSpec) : _root_.Go.OpenSpec := { _root_.Go.OpenSpec.ofChange s with cond := some uptoSmall }

/-- 'laws.FnRhythms', WHERE WHAT IT READS IS OF BULK AT MOST 1048576: true; the input reads as it did. -/
def fnRhythmsUptoRow : OpenClaim := { program := "ytcppmcacjjjjeab", sum := "c1a704831a916050f5cc7325636308fa5c243512425b4562e691b1fcef84dfe9", func := "loop.example/g03204/laws.FnRhythms", spec := "fnRhythms", recurses := true, apart := false, narrowed := true }
def FnRhythmsUptoSaid : Prop := fnRhythmsUptoRow.holds Try.pinned (OpenSpec.upto fnRhythmsSpec)

/-- 'laws.FnExactJoinRhythms', WHERE WHAT IT READS IS OF BULK AT MOST 1048576: true; the input reads as it did. -/
def fnExactJoinRhythmsUptoRow : OpenClaim := { program := "ytcppmcacjjjjeab", sum := "c1a704831a916050f5cc7325636308fa5c243512425b4562e691b1fcef84dfe9", func := "loop.example/g03204/laws.FnExactJoinRhythms", spec := "fnExactJoinRhythms", recurses := true, apart := false, narrowed := true }
def FnExactJoinRhythmsUptoSaid : Prop := fnExactJoinRhythmsUptoRow.holds Try.pinned (OpenSpec.upto fnExactJoinRhythmsSpec)

/-- 'laws.FnExactSameRhythm', WHERE WHAT IT READS IS OF BULK AT MOST 1048576: true; the input reads as it did. -/
def fnExactSameRhythmUptoRow : OpenClaim := { program := "ytcppmcacjjjjeab", sum := "c1a704831a916050f5cc7325636308fa5c243512425b4562e691b1fcef84dfe9", func := "loop.example/g03204/laws.FnExactSameRhythm", spec := "fnExactSameRhythm", apart := false, narrowed := true }
def FnExactSameRhythmUptoSaid : Prop := fnExactSameRhythmUptoRow.holds Try.pinned (OpenSpec.upto fnExactSameRhythmSpec)

end Rows
end Go.Proofs.Ytcppmcacjjjjeab
