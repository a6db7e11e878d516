/-
  No cell of these rows narrows 'for every input' (looked for: loops, veiled, ifaces, maps, wideKeys, modest, calm, conditions, laid).
  DERIVED. THE GIVEN ROWS OF THIS SEAT. 9 by the template 'for every input the law returns true; each argument reads behind the call as it read before'; 0 by the template 'total and deterministic' (their statements: YtpbceckbmalabaaTotals.lean).
  GIVEN WITH THE SEED: the statements are not yours to turn. If you find one false, say at which input.
  Laid BY PROGRAM, IN A SANDBOX (cutbox-rows.mjs): the forced cells as the released guide's own fill.sh prints them over the translation 3da46721d01c78e3… (all of the seat's roots in one cut). By AI agents, Wed Nov 11 2026. No macro, syntax, notation, axiom, sorry.
-/
import Derived.Test.YtpbceckbmalabaaChecked
import GoSem.Claim
import GoSem.ClaimJoined
import GoSem.ClaimMapViews
import Derived.JoinedTies
import Derived.KernelRfl
namespace Go.Proofs.Ytpbceckbmalabaa
/- THE CELL 'sum', in the pinned program and in every row, IS THE sha256 OF THE DUMP (.gsa) THAT YtpbceckbmalabaaProg.lean LOADS. Nothing in Lean hashes anything: it is a label: what it is worth is what the hold of that sum in a sandbox is worth. -/
noncomputable def Try.pinned : Pinned := { name := "ytpbceckbmalabaa", sum := "3da46721d01c78e34dc632e478262cbdb8dac218b6ada75af4f8387170427312", checked := Try.checked }
namespace Rows
def none {H : Type} : Left H := { results := [], args := [] }

/-- 'laws.FnForbidden': WHATEVER THE INPUT: true; the input reads as it did. -/
def fnForbiddenSpec : ChangeSpec := { name := "fnForbidden", fn := fun _ => fun
  | [d] => { results := [.lit (.bool true)], args := [d] }
  | _ => none }
def fnForbiddenRow : OpenClaim := { program := "ytpbceckbmalabaa", sum := "3da46721d01c78e34dc632e478262cbdb8dac218b6ada75af4f8387170427312", func := "loop.example/g03204/laws.FnForbidden", spec := "fnForbidden", unfollowed := true, recurses := true, plainKeys := false, apart := false }
def FnForbiddenSaid : Prop := fnForbiddenRow.holds Try.pinned (OpenSpec.ofChange fnForbiddenSpec)

/-- ITS FALSE NEIGHBOUR: 'it returns false'. Refute it at one input. -/
def fnForbiddenWrong : ChangeSpec := { name := "fnForbidden", fn := fun _ => fun
  | [d] => { results := [.lit (.bool false)], args := [d] }
  | _ => none }
def FnForbiddenWrongFalsely : Prop := fnForbiddenRow.holds Try.pinned (OpenSpec.ofChange fnForbiddenWrong)

/-- 'laws.FnExactAvoidsInterval': WHATEVER THE INPUT: true; the input reads as it did. -/
def fnExactAvoidsIntervalSpec : ChangeSpec := { name := "fnExactAvoidsInterval", fn := fun _ => fun
  | [d1, d2] => { results := [.lit (.bool true)], args := [d1, d2] }
  | _ => none }
def fnExactAvoidsIntervalRow : OpenClaim := { program := "ytpbceckbmalabaa", sum := "3da46721d01c78e34dc632e478262cbdb8dac218b6ada75af4f8387170427312", func := "loop.example/g03204/laws.FnExactAvoidsInterval", spec := "fnExactAvoidsInterval", plainKeys := false, apart := false }
def FnExactAvoidsIntervalSaid : Prop := fnExactAvoidsIntervalRow.holds Try.pinned (OpenSpec.ofChange fnExactAvoidsIntervalSpec)

/-- ITS FALSE NEIGHBOUR: 'it returns false'. Refute it at one input. -/
def fnExactAvoidsIntervalWrong : ChangeSpec := { name := "fnExactAvoidsInterval", fn := fun _ => fun
  | [d1, d2] => { results := [.lit (.bool false)], args := [d1, d2] }
  | _ => none }
def FnExactAvoidsIntervalWrongFalsely : Prop := fnExactAvoidsIntervalRow.holds Try.pinned (OpenSpec.ofChange fnExactAvoidsIntervalWrong)

/-- 'laws.FnExactHasOddity': WHATEVER THE INPUT: true; the input reads as it did. -/
def fnExactHasOdditySpec : ChangeSpec := { name := "fnExactHasOddity", fn := fun _ => fun
  | [d] => { results := [.lit (.bool true)], args := [d] }
  | _ => none }
def fnExactHasOddityRow : OpenClaim := { program := "ytpbceckbmalabaa", sum := "3da46721d01c78e34dc632e478262cbdb8dac218b6ada75af4f8387170427312", func := "loop.example/g03204/laws.FnExactHasOddity", spec := "fnExactHasOddity", plainKeys := false, apart := false }
def FnExactHasOdditySaid : Prop := fnExactHasOddityRow.holds Try.pinned (OpenSpec.ofChange fnExactHasOdditySpec)

/-- ITS FALSE NEIGHBOUR: 'it returns false'. Refute it at one input. -/
def fnExactHasOddityWrong : ChangeSpec := { name := "fnExactHasOddity", fn := fun _ => fun
  | [d] => { results := [.lit (.bool false)], args := [d] }
  | _ => none }
def FnExactHasOddityWrongFalsely : Prop := fnExactHasOddityRow.holds Try.pinned (OpenSpec.ofChange fnExactHasOddityWrong)

/-- 'laws.FnExactOppositePairs': WHATEVER THE INPUT: true; the input reads as it did. -/
def fnExactOppositePairsSpec : ChangeSpec := { name := "fnExactOppositePairs", fn := fun _ => fun
  | [d] => { results := [.lit (.bool true)], args := [d] }
  | _ => none }
def fnExactOppositePairsRow : OpenClaim := { program := "ytpbceckbmalabaa", sum := "3da46721d01c78e34dc632e478262cbdb8dac218b6ada75af4f8387170427312", func := "loop.example/g03204/laws.FnExactOppositePairs", spec := "fnExactOppositePairs", plainKeys := false, apart := false }
def FnExactOppositePairsSaid : Prop := fnExactOppositePairsRow.holds Try.pinned (OpenSpec.ofChange fnExactOppositePairsSpec)

/-- ITS FALSE NEIGHBOUR: 'it returns false'. Refute it at one input. -/
def fnExactOppositePairsWrong : ChangeSpec := { name := "fnExactOppositePairs", fn := fun _ => fun
  | [d] => { results := [.lit (.bool false)], args := [d] }
  | _ => none }
def FnExactOppositePairsWrongFalsely : Prop := fnExactOppositePairsRow.holds Try.pinned (OpenSpec.ofChange fnExactOppositePairsWrong)

/-- 'laws.FnExactCirclesOf': WHATEVER THE INPUT: true; the input reads as it did. -/
def fnExactCirclesOfSpec : ChangeSpec := { name := "fnExactCirclesOf", fn := fun _ => fun
  | [d1, d2] => { results := [.lit (.bool true)], args := [d1, d2] }
  | _ => none }
def fnExactCirclesOfRow : OpenClaim := { program := "ytpbceckbmalabaa", sum := "3da46721d01c78e34dc632e478262cbdb8dac218b6ada75af4f8387170427312", func := "loop.example/g03204/laws.FnExactCirclesOf", spec := "fnExactCirclesOf", unfollowed := true, recurses := true, plainKeys := false, apart := false }
def FnExactCirclesOfSaid : Prop := fnExactCirclesOfRow.holds Try.pinned (OpenSpec.ofChange fnExactCirclesOfSpec)

/-- ITS FALSE NEIGHBOUR: 'it returns false'. Refute it at one input. -/
def fnExactCirclesOfWrong : ChangeSpec := { name := "fnExactCirclesOf", fn := fun _ => fun
  | [d1, d2] => { results := [.lit (.bool false)], args := [d1, d2] }
  | _ => none }
def FnExactCirclesOfWrongFalsely : Prop := fnExactCirclesOfRow.holds Try.pinned (OpenSpec.ofChange fnExactCirclesOfWrong)

/-- 'laws.FnExactCountAvoiding': WHATEVER THE INPUT: true; the input reads as it did. -/
def fnExactCountAvoidingSpec : ChangeSpec := { name := "fnExactCountAvoiding", fn := fun _ => fun
  | [d1, d2, d3] => { results := [.lit (.bool true)], args := [d1, d2, d3] }
  | _ => none }
def fnExactCountAvoidingRow : OpenClaim := { program := "ytpbceckbmalabaa", sum := "3da46721d01c78e34dc632e478262cbdb8dac218b6ada75af4f8387170427312", func := "loop.example/g03204/laws.FnExactCountAvoiding", spec := "fnExactCountAvoiding", unfollowed := true, recurses := true, plainKeys := false, apart := false }
def FnExactCountAvoidingSaid : Prop := fnExactCountAvoidingRow.holds Try.pinned (OpenSpec.ofChange fnExactCountAvoidingSpec)

/-- ITS FALSE NEIGHBOUR: 'it returns false'. Refute it at one input. -/
def fnExactCountAvoidingWrong : ChangeSpec := { name := "fnExactCountAvoiding", fn := fun _ => fun
  | [d1, d2, d3] => { results := [.lit (.bool false)], args := [d1, d2, d3] }
  | _ => none }
def FnExactCountAvoidingWrongFalsely : Prop := fnExactCountAvoidingRow.holds Try.pinned (OpenSpec.ofChange fnExactCountAvoidingWrong)

/-- 'laws.FnExactMostAvoiding': WHATEVER THE INPUT: true; the input reads as it did. -/
def fnExactMostAvoidingSpec : ChangeSpec := { name := "fnExactMostAvoiding", fn := fun _ => fun
  | [d1, d2] => { results := [.lit (.bool true)], args := [d1, d2] }
  | _ => none }
def fnExactMostAvoidingRow : OpenClaim := { program := "ytpbceckbmalabaa", sum := "3da46721d01c78e34dc632e478262cbdb8dac218b6ada75af4f8387170427312", func := "loop.example/g03204/laws.FnExactMostAvoiding", spec := "fnExactMostAvoiding", unfollowed := true, recurses := true, plainKeys := false, apart := false }
def FnExactMostAvoidingSaid : Prop := fnExactMostAvoidingRow.holds Try.pinned (OpenSpec.ofChange fnExactMostAvoidingSpec)

/-- ITS FALSE NEIGHBOUR: 'it returns false'. Refute it at one input. -/
def fnExactMostAvoidingWrong : ChangeSpec := { name := "fnExactMostAvoiding", fn := fun _ => fun
  | [d1, d2] => { results := [.lit (.bool false)], args := [d1, d2] }
  | _ => none }
def FnExactMostAvoidingWrongFalsely : Prop := fnExactMostAvoidingRow.holds Try.pinned (OpenSpec.ofChange fnExactMostAvoidingWrong)

/-- 'laws.FnExactFreePulses': WHATEVER THE INPUT: true; the input reads as it did. -/
def fnExactFreePulsesSpec : ChangeSpec := { name := "fnExactFreePulses", fn := fun _ => fun
  | [d1, d2] => { results := [.lit (.bool true)], args := [d1, d2] }
  | _ => none }
def fnExactFreePulsesRow : OpenClaim := { program := "ytpbceckbmalabaa", sum := "3da46721d01c78e34dc632e478262cbdb8dac218b6ada75af4f8387170427312", func := "loop.example/g03204/laws.FnExactFreePulses", spec := "fnExactFreePulses", recurses := true, plainKeys := false, apart := false }
def FnExactFreePulsesSaid : Prop := fnExactFreePulsesRow.holds Try.pinned (OpenSpec.ofChange fnExactFreePulsesSpec)

/-- ITS FALSE NEIGHBOUR: 'it returns false'. Refute it at one input. -/
def fnExactFreePulsesWrong : ChangeSpec := { name := "fnExactFreePulses", fn := fun _ => fun
  | [d1, d2] => { results := [.lit (.bool false)], args := [d1, d2] }
  | _ => none }
def FnExactFreePulsesWrongFalsely : Prop := fnExactFreePulsesRow.holds Try.pinned (OpenSpec.ofChange fnExactFreePulsesWrong)

/-- 'laws.FnExactFirstAvoiding': WHATEVER THE INPUT: true; the input reads as it did. -/
def fnExactFirstAvoidingSpec : ChangeSpec := { name := "fnExactFirstAvoiding", fn := fun _ => fun
  | [d1, d2, d3] => { results := [.lit (.bool true)], args := [d1, d2, d3] }
  | _ => none }
def fnExactFirstAvoidingRow : OpenClaim := { program := "ytpbceckbmalabaa", sum := "3da46721d01c78e34dc632e478262cbdb8dac218b6ada75af4f8387170427312", func := "loop.example/g03204/laws.FnExactFirstAvoiding", spec := "fnExactFirstAvoiding", unfollowed := true, recurses := true, plainKeys := false, apart := false }
def FnExactFirstAvoidingSaid : Prop := fnExactFirstAvoidingRow.holds Try.pinned (OpenSpec.ofChange fnExactFirstAvoidingSpec)

/-- ITS FALSE NEIGHBOUR: 'it returns false'. Refute it at one input. -/
def fnExactFirstAvoidingWrong : ChangeSpec := { name := "fnExactFirstAvoiding", fn := fun _ => fun
  | [d1, d2, d3] => { results := [.lit (.bool false)], args := [d1, d2, d3] }
  | _ => none }
def FnExactFirstAvoidingWrongFalsely : Prop := fnExactFirstAvoidingRow.holds Try.pinned (OpenSpec.ofChange fnExactFirstAvoidingWrong)

/- THE SECOND FORM. 'bulk': how many values and letters a reading holds, each counted each time it is reached (what is shared counts as often as it is met; a slice's spare places count too). A statement '..UptoSaid' is the law's where the arguments, and the package variables that the reading takes, are together of bulk at most 1048576: NARROWER than '..Said'. Prove '..Said' where nothing that the law and all that it calls make is longer than what came in: it says more and counts as full. Else prove '..UptoSaid'. A law counts once. -/
mutual
def uptoBulk {H : Type} : DataW H → Nat
  | .lit (.string bytes) => bytes.length + 1
  | .lit _ => 1
  | .nil => 1
  | .ptr d => uptoBulk d + 1
  | .slice elems spare => uptoBulkAll elems + uptoBulkAll spare + 1
  | .agg parts => uptoBulkAll parts + 1
  | .iface _ d => uptoBulk d + 1
  | .map entries => uptoBulkEntries entries + 1
  | .held _ => 1
def uptoBulkAll {H : Type} : List (DataW H) → Nat
  | [] => 0
  | d :: r => uptoBulk d + uptoBulkAll r
def uptoBulkEntries {H : Type} : List (Lit × DataW H) → Nat
  | [] => 0
  | x :: r => uptoBulkEntry x + uptoBulkEntries r
def uptoBulkEntry {H : Type} : Lit × DataW H → Nat
  | (.string bytes, d) => bytes.length + uptoBulk d + 1
  | (_, d) => uptoBulk d + 1
 end
def uptoSmall : (H : Type) → List (DataW H) → Bool := fun _ ds => decide (uptoBulkAll ds ≤ 1048576)
def OpenSpec.upto (s : _root_.Go.ChangeSpec) : _root_.Go.OpenSpec := { _root_.Go.OpenSpec.ofChange s with cond := some uptoSmall }

/-- 'laws.FnForbidden', WHERE WHAT IT READS IS OF BULK AT MOST 1048576: true; the input reads as it did. -/
def fnForbiddenUptoRow : OpenClaim := { program := "ytpbceckbmalabaa", sum := "3da46721d01c78e34dc632e478262cbdb8dac218b6ada75af4f8387170427312", func := "loop.example/g03204/laws.FnForbidden", spec := "fnForbidden", unfollowed := true, recurses := true, plainKeys := false, apart := false, narrowed := true }
def FnForbiddenUptoSaid : Prop := fnForbiddenUptoRow.holds Try.pinned (OpenSpec.upto fnForbiddenSpec)

/-- 'laws.FnExactAvoidsInterval', WHERE WHAT IT READS IS OF BULK AT MOST 1048576: true; the input reads as it did. -/
def fnExactAvoidsIntervalUptoRow : OpenClaim := { program := "ytpbceckbmalabaa", sum := "3da46721d01c78e34dc632e478262cbdb8dac218b6ada75af4f8387170427312", func := "loop.example/g03204/laws.FnExactAvoidsInterval", spec := "fnExactAvoidsInterval", plainKeys := false, apart := false, narrowed := true }
def FnExactAvoidsIntervalUptoSaid : Prop := fnExactAvoidsIntervalUptoRow.holds Try.pinned (OpenSpec.upto fnExactAvoidsIntervalSpec)

/-- 'laws.FnExactHasOddity', WHERE WHAT IT READS IS OF BULK AT MOST 1048576: true; the input reads as it did. -/
def fnExactHasOddityUptoRow : OpenClaim := { program := "ytpbceckbmalabaa", sum := "3da46721d01c78e34dc632e478262cbdb8dac218b6ada75af4f8387170427312", func := "loop.example/g03204/laws.FnExactHasOddity", spec := "fnExactHasOddity", plainKeys := false, apart := false, narrowed := true }
def FnExactHasOddityUptoSaid : Prop := fnExactHasOddityUptoRow.holds Try.pinned (OpenSpec.upto fnExactHasOdditySpec)

/-- 'laws.FnExactOppositePairs', WHERE WHAT IT READS IS OF BULK AT MOST 1048576: true; the input reads as it did. -/
def fnExactOppositePairsUptoRow : OpenClaim := { program := "ytpbceckbmalabaa", sum := "3da46721d01c78e34dc632e478262cbdb8dac218b6ada75af4f8387170427312", func := "loop.example/g03204/laws.FnExactOppositePairs", spec := "fnExactOppositePairs", plainKeys := false, apart := false, narrowed := true }
def FnExactOppositePairsUptoSaid : Prop := fnExactOppositePairsUptoRow.holds Try.pinned (OpenSpec.upto fnExactOppositePairsSpec)

/-- 'laws.FnExactCirclesOf', WHERE WHAT IT READS IS OF BULK AT MOST 1048576: true; the input reads as it did. -/
def fnExactCirclesOfUptoRow : OpenClaim := { program := "ytpbceckbmalabaa", sum := "3da46721d01c78e34dc632e478262cbdb8dac218b6ada75af4f8387170427312", func := "loop.example/g03204/laws.FnExactCirclesOf", spec := "fnExactCirclesOf", unfollowed := true, recurses := true, plainKeys := false, apart := false, narrowed := true }
def FnExactCirclesOfUptoSaid : Prop := fnExactCirclesOfUptoRow.holds Try.pinned (OpenSpec.upto fnExactCirclesOfSpec)

/-- 'laws.FnExactCountAvoiding', WHERE WHAT IT READS IS OF BULK AT MOST 1048576: true; the input reads as it did. -/
def fnExactCountAvoidingUptoRow : OpenClaim := { program := "ytpbceckbmalabaa", sum := "3da46721d01c78e34dc632e478262cbdb8dac218b6ada75af4f8387170427312", func := "loop.example/g03204/laws.FnExactCountAvoiding", spec := "fnExactCountAvoiding", unfollowed := true, recurses := true, plainKeys := false, apart := false, narrowed := true }
def FnExactCountAvoidingUptoSaid : Prop := fnExactCountAvoidingUptoRow.holds Try.pinned (OpenSpec.upto fnExactCountAvoidingSpec)

/-- 'laws.FnExactMostAvoiding', WHERE WHAT IT READS IS OF BULK AT MOST 1048576: true; the input reads as it did. -/
def fnExactMostAvoidingUptoRow : OpenClaim := { program := "ytpbceckbmalabaa", sum := "3da46721d01c78e34dc632e478262cbdb8dac218b6ada75af4f8387170427312", func := "loop.example/g03204/laws.FnExactMostAvoiding", spec := "fnExactMostAvoiding", unfollowed := true, recurses := true, plainKeys := false, apart := false, narrowed := true }
def FnExactMostAvoidingUptoSaid : Prop := fnExactMostAvoidingUptoRow.holds Try.pinned (OpenSpec.upto fnExactMostAvoidingSpec)

/-- 'laws.FnExactFreePulses', WHERE WHAT IT READS IS OF BULK AT MOST 1048576: true; the input reads as it did. -/
def fnExactFreePulsesUptoRow : OpenClaim := { program := "ytpbceckbmalabaa", sum := "3da46721d01c78e34dc632e478262cbdb8dac218b6ada75af4f8387170427312", func := "loop.example/g03204/laws.FnExactFreePulses", spec := "fnExactFreePulses", recurses := true, plainKeys := false, apart := false, narrowed := true }
def FnExactFreePulsesUptoSaid : Prop := fnExactFreePulsesUptoRow.holds Try.pinned (OpenSpec.upto fnExactFreePulsesSpec)

/-- 'laws.FnExactFirstAvoiding', WHERE WHAT IT READS IS OF BULK AT MOST 1048576: true; the input reads as it did. -/
def fnExactFirstAvoidingUptoRow : OpenClaim := { program := "ytpbceckbmalabaa", sum := "3da46721d01c78e34dc632e478262cbdb8dac218b6ada75af4f8387170427312", func := "loop.example/g03204/laws.FnExactFirstAvoiding", spec := "fnExactFirstAvoiding", unfollowed := true, recurses := true, plainKeys := false, apart := false, narrowed := true }
def FnExactFirstAvoidingUptoSaid : Prop := fnExactFirstAvoidingUptoRow.holds Try.pinned (OpenSpec.upto fnExactFirstAvoidingSpec)

end Rows
end Go.Proofs.Ytpbceckbmalabaa
