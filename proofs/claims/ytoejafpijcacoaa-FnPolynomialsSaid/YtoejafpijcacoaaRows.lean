/-
  No cell of these rows narrows 'for every input' (looked for: loops, veiled, ifaces, maps, wideKeys, modest, calm, conditions, laid).
  DERIVED. THE GIVEN ROWS OF THIS SEAT. 10 by the template 'for every input the law returns true; each argument reads behind the call as it read before'; 0 by the template 'total and deterministic' (their statements: YtoejafpijcacoaaTotals.lean).
  GIVEN WITH THE SEED: the statements are not yours to turn. If you find one false, say at which input.
  Laid BY PROGRAM, IN A SANDBOX (cutbox-rows.mjs): the forced cells as the released guide's own fill.sh prints them over the translation f891a400e770f95c… (all of the seat's roots in one cut). By AI agents, Wed Nov 11 2026. No macro, syntax, notation, axiom, sorry.
-/
import Derived.Test.YtoejafpijcacoaaChecked
import GoSem.Claim
import GoSem.ClaimJoined
import GoSem.ClaimMapViews
import Derived.JoinedTies
import Derived.KernelRfl
namespace Go.Proofs.Ytoejafpijcacoaa
/- THE CELL 'sum', in the pinned program and in every row, IS THE sha256 OF THE DUMP (.gsa) THAT YtoejafpijcacoaaProg.lean LOADS. Nothing in Lean hashes anything: it is a label: what it is worth is what the hold of that sum in a sandbox is worth. -/
noncomputable def Try.pinned : Pinned := { name := "ytoejafpijcacoaa", sum := "f891a400e770f95c8ecf6a0100b9410bd393c30597ea695d426fa5be15246262", checked := Try.checked }
namespace Rows
def none {H : Type} : Left H := { results := [], args := [] }

/-- 'laws.FnPolynomials': WHATEVER THE INPUT: true; the input reads as it did. -/
def fnPolynomialsSpec : ChangeSpec := { name := "fnPolynomials", fn := fun _ => fun
  | [d] => { results := [.lit (.bool true)], args := [d] }
  | _ => none }
def fnPolynomialsRow : OpenClaim := { program := "ytoejafpijcacoaa", sum := "f891a400e770f95c8ecf6a0100b9410bd393c30597ea695d426fa5be15246262", func := "loop.example/g03204/laws.FnPolynomials", spec := "fnPolynomials", recurses := true, apart := false }
def FnPolynomialsSaid : Prop := fnPolynomialsRow.holds Try.pinned (OpenSpec.ofChange fnPolynomialsSpec)

/-- ITS FALSE NEIGHBOUR: 'it returns false'. Refute it at one input. -/
def fnPolynomialsWrong : ChangeSpec := { name := "fnPolynomials", fn := fun _ => fun
  | [d] => { results := [.lit (.bool false)], args := [d] }
  | _ => none }
def FnPolynomialsWrongFalsely : Prop := fnPolynomialsRow.holds Try.pinned (OpenSpec.ofChange fnPolynomialsWrong)

/-- 'laws.FnExactDivisorsOf': WHATEVER THE INPUT: true; the input reads as it did. -/
def fnExactDivisorsOfSpec : ChangeSpec := { name := "fnExactDivisorsOf", fn := fun _ => fun
  | [d] => { results := [.lit (.bool true)], args := [d] }
  | _ => none }
def fnExactDivisorsOfRow : OpenClaim := { program := "ytoejafpijcacoaa", sum := "f891a400e770f95c8ecf6a0100b9410bd393c30597ea695d426fa5be15246262", func := "loop.example/g03204/laws.FnExactDivisorsOf", spec := "fnExactDivisorsOf", apart := false }
def FnExactDivisorsOfSaid : Prop := fnExactDivisorsOfRow.holds Try.pinned (OpenSpec.ofChange fnExactDivisorsOfSpec)

/-- ITS FALSE NEIGHBOUR: 'it returns false'. Refute it at one input. -/
def fnExactDivisorsOfWrong : ChangeSpec := { name := "fnExactDivisorsOf", fn := fun _ => fun
  | [d] => { results := [.lit (.bool false)], args := [d] }
  | _ => none }
def FnExactDivisorsOfWrongFalsely : Prop := fnExactDivisorsOfRow.holds Try.pinned (OpenSpec.ofChange fnExactDivisorsOfWrong)

/-- 'laws.FnExactTotient': WHATEVER THE INPUT: true; the input reads as it did. -/
def fnExactTotientSpec : ChangeSpec := { name := "fnExactTotient", fn := fun _ => fun
  | [d] => { results := [.lit (.bool true)], args := [d] }
  | _ => none }
def fnExactTotientRow : OpenClaim := { program := "ytoejafpijcacoaa", sum := "f891a400e770f95c8ecf6a0100b9410bd393c30597ea695d426fa5be15246262", func := "loop.example/g03204/laws.FnExactTotient", spec := "fnExactTotient", apart := false }
def FnExactTotientSaid : Prop := fnExactTotientRow.holds Try.pinned (OpenSpec.ofChange fnExactTotientSpec)

/-- ITS FALSE NEIGHBOUR: 'it returns false'. Refute it at one input. -/
def fnExactTotientWrong : ChangeSpec := { name := "fnExactTotient", fn := fun _ => fun
  | [d] => { results := [.lit (.bool false)], args := [d] }
  | _ => none }
def FnExactTotientWrongFalsely : Prop := fnExactTotientRow.holds Try.pinned (OpenSpec.ofChange fnExactTotientWrong)

/-- 'laws.FnExactPolynomialOf': WHATEVER THE INPUT: true; the input reads as it did. -/
def fnExactPolynomialOfSpec : ChangeSpec := { name := "fnExactPolynomialOf", fn := fun _ => fun
  | [d] => { results := [.lit (.bool true)], args := [d] }
  | _ => none }
def fnExactPolynomialOfRow : OpenClaim := { program := "ytoejafpijcacoaa", sum := "f891a400e770f95c8ecf6a0100b9410bd393c30597ea695d426fa5be15246262", func := "loop.example/g03204/laws.FnExactPolynomialOf", spec := "fnExactPolynomialOf", apart := false }
def FnExactPolynomialOfSaid : Prop := fnExactPolynomialOfRow.holds Try.pinned (OpenSpec.ofChange fnExactPolynomialOfSpec)

/-- ITS FALSE NEIGHBOUR: 'it returns false'. Refute it at one input. -/
def fnExactPolynomialOfWrong : ChangeSpec := { name := "fnExactPolynomialOf", fn := fun _ => fun
  | [d] => { results := [.lit (.bool false)], args := [d] }
  | _ => none }
def FnExactPolynomialOfWrongFalsely : Prop := fnExactPolynomialOfRow.holds Try.pinned (OpenSpec.ofChange fnExactPolynomialOfWrong)

/-- 'laws.FnExactTimesPolynomials': WHATEVER THE INPUT: true; the input reads as it did. -/
def fnExactTimesPolynomialsSpec : ChangeSpec := { name := "fnExactTimesPolynomials", fn := fun _ => fun
  | [d1, d2] => { results := [.lit (.bool true)], args := [d1, d2] }
  | _ => none }
def fnExactTimesPolynomialsRow : OpenClaim := { program := "ytoejafpijcacoaa", sum := "f891a400e770f95c8ecf6a0100b9410bd393c30597ea695d426fa5be15246262", func := "loop.example/g03204/laws.FnExactTimesPolynomials", spec := "fnExactTimesPolynomials", apart := false }
def FnExactTimesPolynomialsSaid : Prop := fnExactTimesPolynomialsRow.holds Try.pinned (OpenSpec.ofChange fnExactTimesPolynomialsSpec)

/-- ITS FALSE NEIGHBOUR: 'it returns false'. Refute it at one input. -/
def fnExactTimesPolynomialsWrong : ChangeSpec := { name := "fnExactTimesPolynomials", fn := fun _ => fun
  | [d1, d2] => { results := [.lit (.bool false)], args := [d1, d2] }
  | _ => none }
def FnExactTimesPolynomialsWrongFalsely : Prop := fnExactTimesPolynomialsRow.holds Try.pinned (OpenSpec.ofChange fnExactTimesPolynomialsWrong)

/-- 'laws.FnExactCyclotomic': WHATEVER THE INPUT: true; the input reads as it did. -/
def fnExactCyclotomicSpec : ChangeSpec := { name := "fnExactCyclotomic", fn := fun _ => fun
  | [d] => { results := [.lit (.bool true)], args := [d] }
  | _ => none }
def fnExactCyclotomicRow : OpenClaim := { program := "ytoejafpijcacoaa", sum := "f891a400e770f95c8ecf6a0100b9410bd393c30597ea695d426fa5be15246262", func := "loop.example/g03204/laws.FnExactCyclotomic", spec := "fnExactCyclotomic", recurses := true, apart := false }
def FnExactCyclotomicSaid : Prop := fnExactCyclotomicRow.holds Try.pinned (OpenSpec.ofChange fnExactCyclotomicSpec)

/-- ITS FALSE NEIGHBOUR: 'it returns false'. Refute it at one input. -/
def fnExactCyclotomicWrong : ChangeSpec := { name := "fnExactCyclotomic", fn := fun _ => fun
  | [d] => { results := [.lit (.bool false)], args := [d] }
  | _ => none }
def FnExactCyclotomicWrongFalsely : Prop := fnExactCyclotomicRow.holds Try.pinned (OpenSpec.ofChange fnExactCyclotomicWrong)

/-- 'laws.FnExactRestBy': WHATEVER THE INPUT: true; the input reads as it did. -/
def fnExactRestBySpec : ChangeSpec := { name := "fnExactRestBy", fn := fun _ => fun
  | [d1, d2] => { results := [.lit (.bool true)], args := [d1, d2] }
  | _ => none }
def fnExactRestByRow : OpenClaim := { program := "ytoejafpijcacoaa", sum := "f891a400e770f95c8ecf6a0100b9410bd393c30597ea695d426fa5be15246262", func := "loop.example/g03204/laws.FnExactRestBy", spec := "fnExactRestBy", recurses := true, apart := false }
def FnExactRestBySaid : Prop := fnExactRestByRow.holds Try.pinned (OpenSpec.ofChange fnExactRestBySpec)

/-- ITS FALSE NEIGHBOUR: 'it returns false'. Refute it at one input. -/
def fnExactRestByWrong : ChangeSpec := { name := "fnExactRestBy", fn := fun _ => fun
  | [d1, d2] => { results := [.lit (.bool false)], args := [d1, d2] }
  | _ => none }
def FnExactRestByWrongFalsely : Prop := fnExactRestByRow.holds Try.pinned (OpenSpec.ofChange fnExactRestByWrong)

/-- 'laws.FnExactVanishesAt': WHATEVER THE INPUT: true; the input reads as it did. -/
def fnExactVanishesAtSpec : ChangeSpec := { name := "fnExactVanishesAt", fn := fun _ => fun
  | [d1, d2] => { results := [.lit (.bool true)], args := [d1, d2] }
  | _ => none }
def fnExactVanishesAtRow : OpenClaim := { program := "ytoejafpijcacoaa", sum := "f891a400e770f95c8ecf6a0100b9410bd393c30597ea695d426fa5be15246262", func := "loop.example/g03204/laws.FnExactVanishesAt", spec := "fnExactVanishesAt", recurses := true, apart := false }
def FnExactVanishesAtSaid : Prop := fnExactVanishesAtRow.holds Try.pinned (OpenSpec.ofChange fnExactVanishesAtSpec)

/-- ITS FALSE NEIGHBOUR: 'it returns false'. Refute it at one input. -/
def fnExactVanishesAtWrong : ChangeSpec := { name := "fnExactVanishesAt", fn := fun _ => fun
  | [d1, d2] => { results := [.lit (.bool false)], args := [d1, d2] }
  | _ => none }
def FnExactVanishesAtWrongFalsely : Prop := fnExactVanishesAtRow.holds Try.pinned (OpenSpec.ofChange fnExactVanishesAtWrong)

/-- 'laws.FnExactVanishingOrders': WHATEVER THE INPUT: true; the input reads as it did. -/
def fnExactVanishingOrdersSpec : ChangeSpec := { name := "fnExactVanishingOrders", fn := fun _ => fun
  | [d] => { results := [.lit (.bool true)], args := [d] }
  | _ => none }
def fnExactVanishingOrdersRow : OpenClaim := { program := "ytoejafpijcacoaa", sum := "f891a400e770f95c8ecf6a0100b9410bd393c30597ea695d426fa5be15246262", func := "loop.example/g03204/laws.FnExactVanishingOrders", spec := "fnExactVanishingOrders", recurses := true, apart := false }
def FnExactVanishingOrdersSaid : Prop := fnExactVanishingOrdersRow.holds Try.pinned (OpenSpec.ofChange fnExactVanishingOrdersSpec)

/-- ITS FALSE NEIGHBOUR: 'it returns false'. Refute it at one input. -/
def fnExactVanishingOrdersWrong : ChangeSpec := { name := "fnExactVanishingOrders", fn := fun _ => fun
  | [d] => { results := [.lit (.bool false)], args := [d] }
  | _ => none }
def FnExactVanishingOrdersWrongFalsely : Prop := fnExactVanishingOrdersRow.holds Try.pinned (OpenSpec.ofChange fnExactVanishingOrdersWrong)

/-- 'laws.FnExactValueAt': WHATEVER THE INPUT: true; the input reads as it did. -/
def fnExactValueAtSpec : ChangeSpec := { name := "fnExactValueAt", fn := fun _ => fun
  | [d1, d2] => { results := [.lit (.bool true)], args := [d1, d2] }
  | _ => none }
def fnExactValueAtRow : OpenClaim := { program := "ytoejafpijcacoaa", sum := "f891a400e770f95c8ecf6a0100b9410bd393c30597ea695d426fa5be15246262", func := "loop.example/g03204/laws.FnExactValueAt", spec := "fnExactValueAt", apart := false }
def FnExactValueAtSaid : Prop := fnExactValueAtRow.holds Try.pinned (OpenSpec.ofChange fnExactValueAtSpec)

/-- ITS FALSE NEIGHBOUR: 'it returns false'. Refute it at one input. -/
def fnExactValueAtWrong : ChangeSpec := { name := "fnExactValueAt", fn := fun _ => fun
  | [d1, d2] => { results := [.lit (.bool false)], args := [d1, d2] }
  | _ => none }
def FnExactValueAtWrongFalsely : Prop := fnExactValueAtRow.holds Try.pinned (OpenSpec.ofChange fnExactValueAtWrong)

/- THE SECOND FORM. 'bulk': how many values and letters a reading holds, each counted each time it is reached (what is shared counts as often as it is met; a slice's spare places count too). A statement '..UptoSaid' is the law's where the arguments, and the package variables that the reading takes, are together of bulk at most 1048576: NARROWER than '..Said'. Prove '..Said' where nothing that the law and all that it calls make is longer than what came in: it says more and counts as full. Else prove '..UptoSaid'. A law counts once. -/
mutual
def uptoBulk {H : Type} : DataW H → Nat
  | .lit (.string bytes) => bytes.length + 1
  | .lit _ => 1
  | .nil => 1
  | .ptr d => uptoBulk d + 1
  | .slice elems spare => uptoBulkAll elems + uptoBulkAll spare + 1
  | .agg parts => uptoBulkAll parts + 1
  | .iface _ d => uptoBulk d + 1
  | .map entries => uptoBulkEntries entries + 1
  | .held _ => 1
def uptoBulkAll {H : Type} : List (DataW H) → Nat
  | [] => 0
  | d :: r => uptoBulk d + uptoBulkAll r
def uptoBulkEntries {H : Type} : List (Lit × DataW H) → Nat
  | [] => 0
  | x :: r => uptoBulkEntry x + uptoBulkEntries r
def uptoBulkEntry {H : Type} : Lit × DataW H → Nat
  | (.string bytes, d) => bytes.length + uptoBulk d + 1
  | (_, d) => uptoBulk d + 1
 end
def uptoSmall : (H : Type) → List (DataW H) → Bool := fun _ ds => decide (uptoBulkAll ds ≤ 1048576)
def OpenSpec.upto (s : _root_.Go.ChangeSpec) : _root_.Go.OpenSpec := { _root_.Go.OpenSpec.ofChange s with cond := some uptoSmall }

/-- 'laws.FnPolynomials', WHERE WHAT IT READS IS OF BULK AT MOST 1048576: true; the input reads as it did. -/
def fnPolynomialsUptoRow : OpenClaim := { program := "ytoejafpijcacoaa", sum := "f891a400e770f95c8ecf6a0100b9410bd393c30597ea695d426fa5be15246262", func := "loop.example/g03204/laws.FnPolynomials", spec := "fnPolynomials", recurses := true, apart := false, narrowed := true }
def FnPolynomialsUptoSaid : Prop := fnPolynomialsUptoRow.holds Try.pinned (OpenSpec.upto fnPolynomialsSpec)

/-- 'laws.FnExactDivisorsOf', WHERE WHAT IT READS IS OF BULK AT MOST 1048576: true; the input reads as it did. -/
def fnExactDivisorsOfUptoRow : OpenClaim := { program := "ytoejafpijcacoaa", sum := "f891a400e770f95c8ecf6a0100b9410bd393c30597ea695d426fa5be15246262", func := "loop.example/g03204/laws.FnExactDivisorsOf", spec := "fnExactDivisorsOf", apart := false, narrowed := true }
def FnExactDivisorsOfUptoSaid : Prop := fnExactDivisorsOfUptoRow.holds Try.pinned (OpenSpec.upto fnExactDivisorsOfSpec)

/-- 'laws.FnExactTotient', WHERE WHAT IT READS IS OF BULK AT MOST 1048576: true; the input reads as it did. -/
def fnExactTotientUptoRow : OpenClaim := { program := "ytoejafpijcacoaa", sum := "f891a400e770f95c8ecf6a0100b9410bd393c30597ea695d426fa5be15246262", func := "loop.example/g03204/laws.FnExactTotient", spec := "fnExactTotient", apart := false, narrowed := true }
def FnExactTotientUptoSaid : Prop := fnExactTotientUptoRow.holds Try.pinned (OpenSpec.upto fnExactTotientSpec)

/-- 'laws.FnExactPolynomialOf', WHERE WHAT IT READS IS OF BULK AT MOST 1048576: true; the input reads as it did. -/
def fnExactPolynomialOfUptoRow : OpenClaim := { program := "ytoejafpijcacoaa", sum := "f891a400e770f95c8ecf6a0100b9410bd393c30597ea695d426fa5be15246262", func := "loop.example/g03204/laws.FnExactPolynomialOf", spec := "fnExactPolynomialOf", apart := false, narrowed := true }
def FnExactPolynomialOfUptoSaid : Prop := fnExactPolynomialOfUptoRow.holds Try.pinned (OpenSpec.upto fnExactPolynomialOfSpec)

/-- 'laws.FnExactTimesPolynomials', WHERE WHAT IT READS IS OF BULK AT MOST 1048576: true; the input reads as it did. -/
def fnExactTimesPolynomialsUptoRow : OpenClaim := { program := "ytoejafpijcacoaa", sum := "f891a400e770f95c8ecf6a0100b9410bd393c30597ea695d426fa5be15246262", func := "loop.example/g03204/laws.FnExactTimesPolynomials", spec := "fnExactTimesPolynomials", apart := false, narrowed := true }
def FnExactTimesPolynomialsUptoSaid : Prop := fnExactTimesPolynomialsUptoRow.holds Try.pinned (OpenSpec.upto fnExactTimesPolynomialsSpec)

/-- 'laws.FnExactCyclotomic', WHERE WHAT IT READS IS OF BULK AT MOST 1048576: true; the input reads as it did. -/
def fnExactCyclotomicUptoRow : OpenClaim := { program := "ytoejafpijcacoaa", sum := "f891a400e770f95c8ecf6a0100b9410bd393c30597ea695d426fa5be15246262", func := "loop.example/g03204/laws.FnExactCyclotomic", spec := "fnExactCyclotomic", recurses := true, apart := false, narrowed := true }
def FnExactCyclotomicUptoSaid : Prop := fnExactCyclotomicUptoRow.holds Try.pinned (OpenSpec.upto fnExactCyclotomicSpec)

/-- 'laws.FnExactRestBy', WHERE WHAT IT READS IS OF BULK AT MOST 1048576: true; the input reads as it did. -/
def fnExactRestByUptoRow : OpenClaim := { program := "ytoejafpijcacoaa", sum := "f891a400e770f95c8ecf6a0100b9410bd393c30597ea695d426fa5be15246262", func := "loop.example/g03204/laws.FnExactRestBy", spec := "fnExactRestBy", recurses := true, apart := false, narrowed := true }
def FnExactRestByUptoSaid : Prop := fnExactRestByUptoRow.holds Try.pinned (OpenSpec.upto fnExactRestBySpec)

/-- 'laws.FnExactVanishesAt', WHERE WHAT IT READS IS OF BULK AT MOST 1048576: true; the input reads as it did. -/
def fnExactVanishesAtUptoRow : OpenClaim := { program := "ytoejafpijcacoaa", sum := "f891a400e770f95c8ecf6a0100b9410bd393c30597ea695d426fa5be15246262", func := "loop.example/g03204/laws.FnExactVanishesAt", spec := "fnExactVanishesAt", recurses := true, apart := false, narrowed := true }
def FnExactVanishesAtUptoSaid : Prop := fnExactVanishesAtUptoRow.holds Try.pinned (OpenSpec.upto fnExactVanishesAtSpec)

/-- 'laws.FnExactVanishingOrders', WHERE WHAT IT READS IS OF BULK AT MOST 1048576: true; the input reads as it did. -/
def fnExactVanishingOrdersUptoRow : OpenClaim := { program := "ytoejafpijcacoaa", sum := "f891a400e770f95c8ecf6a0100b9410bd393c30597ea695d426fa5be15246262", func := "loop.example/g03204/laws.FnExactVanishingOrders", spec := "fnExactVanishingOrders", recurses := true, apart := false, narrowed := true }
def FnExactVanishingOrdersUptoSaid : Prop := fnExactVanishingOrdersUptoRow.holds Try.pinned (OpenSpec.upto fnExactVanishingOrdersSpec)

/-- 'laws.FnExactValueAt', WHERE WHAT IT READS IS OF BULK AT MOST 1048576: true; the input reads as it did. -/
def fnExactValueAtUptoRow : OpenClaim := { program := "ytoejafpijcacoaa", sum := "f891a400e770f95c8ecf6a0100b9410bd393c30597ea695d426fa5be15246262", func := "loop.example/g03204/laws.FnExactValueAt", spec := "fnExactValueAt", apart := false, narrowed := true }
def FnExactValueAtUptoSaid : Prop := fnExactValueAtUptoRow.holds Try.pinned (OpenSpec.upto fnExactValueAtSpec)

end Rows
end Go.Proofs.Ytoejafpijcacoaa
