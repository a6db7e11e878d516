/-
  No cell of these rows narrows 'for every input' (looked for: loops, veiled, ifaces, maps, wideKeys, modest, calm, conditions, laid).
  DERIVED. THE GIVEN ROWS OF THIS SEAT. 10 by the template 'for every input the law returns true; each argument reads behind the call as it read before'; 0 by the template 'total and deterministic' (their statements: YthcmpkhfimapgaaTotals.lean).
  GIVEN WITH THE SEED: the statements are not yours to turn. If you find one false, say at which input.
  Laid BY PROGRAM, IN A SANDBOX (cutbox-rows.mjs): the forced cells as the released guide's own fill.sh prints them over the translation 49828027d168e1e4… (all of the seat's roots in one cut). By AI agents, Wed Nov 11 2026. No macro, syntax, notation, axiom, sorry.
-/
import Derived.Test.YthcmpkhfimapgaaChecked
import GoSem.Claim
import GoSem.ClaimJoined
import GoSem.ClaimMapViews
import Derived.JoinedTies
import Derived.KernelRfl
namespace Go.Proofs.Ythcmpkhfimapgaa
/- THE CELL 'sum', in the pinned program and in every row, IS THE sha256 OF THE DUMP (.gsa) THAT YthcmpkhfimapgaaProg.lean LOADS. Nothing in Lean hashes anything: it is a label: what it is worth is what the hold of that sum in a sandbox is worth. -/
noncomputable def Try.pinned : Pinned := { name := "ythcmpkhfimapgaa", sum := "49828027d168e1e436de15f76f7544cebf4ee75a4da0a0f0eb01cc561dd881f3", checked := Try.checked }
namespace Rows
def none {H : Type} : Left H := { results := [], args := [] }

/-- 'laws.FnGenerated': WHATEVER THE INPUT: true; the input reads as it did. -/
def fnGeneratedSpec : ChangeSpec := { name := "fnGenerated", fn := fun _ => fun
  | [d] => { results := [.lit (.bool true)], args := [d] }
  | _ => none }
def fnGeneratedRow : OpenClaim := { program := "ythcmpkhfimapgaa", sum := "49828027d168e1e436de15f76f7544cebf4ee75a4da0a0f0eb01cc561dd881f3", func := "loop.example/g03204/laws.FnGenerated", spec := "fnGenerated", unfollowed := true, recurses := true, apart := false }
def FnGeneratedSaid : Prop := fnGeneratedRow.holds Try.pinned (OpenSpec.ofChange fnGeneratedSpec)

/-- ITS FALSE NEIGHBOUR: 'it returns false'. Refute it at one input. -/
def fnGeneratedWrong : ChangeSpec := { name := "fnGenerated", fn := fun _ => fun
  | [d] => { results := [.lit (.bool false)], args := [d] }
  | _ => none }
def FnGeneratedWrongFalsely : Prop := fnGeneratedRow.holds Try.pinned (OpenSpec.ofChange fnGeneratedWrong)

/-- 'laws.FnExactGeneratedRhythm': WHATEVER THE INPUT: true; the input reads as it did. -/
def fnExactGeneratedRhythmSpec : ChangeSpec := { name := "fnExactGeneratedRhythm", fn := fun _ => fun
  | [d1, d2, d3] => { results := [.lit (.bool true)], args := [d1, d2, d3] }
  | _ => none }
def fnExactGeneratedRhythmRow : OpenClaim := { program := "ythcmpkhfimapgaa", sum := "49828027d168e1e436de15f76f7544cebf4ee75a4da0a0f0eb01cc561dd881f3", func := "loop.example/g03204/laws.FnExactGeneratedRhythm", spec := "fnExactGeneratedRhythm", recurses := true, apart := false }
def FnExactGeneratedRhythmSaid : Prop := fnExactGeneratedRhythmRow.holds Try.pinned (OpenSpec.ofChange fnExactGeneratedRhythmSpec)

/-- ITS FALSE NEIGHBOUR: 'it returns false'. Refute it at one input. -/
def fnExactGeneratedRhythmWrong : ChangeSpec := { name := "fnExactGeneratedRhythm", fn := fun _ => fun
  | [d1, d2, d3] => { results := [.lit (.bool false)], args := [d1, d2, d3] }
  | _ => none }
def FnExactGeneratedRhythmWrongFalsely : Prop := fnExactGeneratedRhythmRow.holds Try.pinned (OpenSpec.ofChange fnExactGeneratedRhythmWrong)

/-- 'laws.FnExactGeneratorsOf': WHATEVER THE INPUT: true; the input reads as it did. -/
def fnExactGeneratorsOfSpec : ChangeSpec := { name := "fnExactGeneratorsOf", fn := fun _ => fun
  | [d] => { results := [.lit (.bool true)], args := [d] }
  | _ => none }
def fnExactGeneratorsOfRow : OpenClaim := { program := "ythcmpkhfimapgaa", sum := "49828027d168e1e436de15f76f7544cebf4ee75a4da0a0f0eb01cc561dd881f3", func := "loop.example/g03204/laws.FnExactGeneratorsOf", spec := "fnExactGeneratorsOf", apart := false }
def FnExactGeneratorsOfSaid : Prop := fnExactGeneratorsOfRow.holds Try.pinned (OpenSpec.ofChange fnExactGeneratorsOfSpec)

/-- ITS FALSE NEIGHBOUR: 'it returns false'. Refute it at one input. -/
def fnExactGeneratorsOfWrong : ChangeSpec := { name := "fnExactGeneratorsOf", fn := fun _ => fun
  | [d] => { results := [.lit (.bool false)], args := [d] }
  | _ => none }
def FnExactGeneratorsOfWrongFalsely : Prop := fnExactGeneratorsOfRow.holds Try.pinned (OpenSpec.ofChange fnExactGeneratorsOfWrong)

/-- 'laws.FnExactIsGenerated': WHATEVER THE INPUT: true; the input reads as it did. -/
def fnExactIsGeneratedSpec : ChangeSpec := { name := "fnExactIsGenerated", fn := fun _ => fun
  | [d] => { results := [.lit (.bool true)], args := [d] }
  | _ => none }
def fnExactIsGeneratedRow : OpenClaim := { program := "ythcmpkhfimapgaa", sum := "49828027d168e1e436de15f76f7544cebf4ee75a4da0a0f0eb01cc561dd881f3", func := "loop.example/g03204/laws.FnExactIsGenerated", spec := "fnExactIsGenerated", apart := false }
def FnExactIsGeneratedSaid : Prop := fnExactIsGeneratedRow.holds Try.pinned (OpenSpec.ofChange fnExactIsGeneratedSpec)

/-- ITS FALSE NEIGHBOUR: 'it returns false'. Refute it at one input. -/
def fnExactIsGeneratedWrong : ChangeSpec := { name := "fnExactIsGenerated", fn := fun _ => fun
  | [d] => { results := [.lit (.bool false)], args := [d] }
  | _ => none }
def FnExactIsGeneratedWrongFalsely : Prop := fnExactIsGeneratedRow.holds Try.pinned (OpenSpec.ofChange fnExactIsGeneratedWrong)

/-- 'laws.FnExactChainOf': WHATEVER THE INPUT: true; the input reads as it did. -/
def fnExactChainOfSpec : ChangeSpec := { name := "fnExactChainOf", fn := fun _ => fun
  | [d1, d2] => { results := [.lit (.bool true)], args := [d1, d2] }
  | _ => none }
def fnExactChainOfRow : OpenClaim := { program := "ythcmpkhfimapgaa", sum := "49828027d168e1e436de15f76f7544cebf4ee75a4da0a0f0eb01cc561dd881f3", func := "loop.example/g03204/laws.FnExactChainOf", spec := "fnExactChainOf", apart := false }
def FnExactChainOfSaid : Prop := fnExactChainOfRow.holds Try.pinned (OpenSpec.ofChange fnExactChainOfSpec)

/-- ITS FALSE NEIGHBOUR: 'it returns false'. Refute it at one input. -/
def fnExactChainOfWrong : ChangeSpec := { name := "fnExactChainOf", fn := fun _ => fun
  | [d1, d2] => { results := [.lit (.bool false)], args := [d1, d2] }
  | _ => none }
def FnExactChainOfWrongFalsely : Prop := fnExactChainOfRow.holds Try.pinned (OpenSpec.ofChange fnExactChainOfWrong)

/-- 'laws.FnExactExtendChain': WHATEVER THE INPUT: true; the input reads as it did. -/
def fnExactExtendChainSpec : ChangeSpec := { name := "fnExactExtendChain", fn := fun _ => fun
  | [d1, d2] => { results := [.lit (.bool true)], args := [d1, d2] }
  | _ => none }
def fnExactExtendChainRow : OpenClaim := { program := "ythcmpkhfimapgaa", sum := "49828027d168e1e436de15f76f7544cebf4ee75a4da0a0f0eb01cc561dd881f3", func := "loop.example/g03204/laws.FnExactExtendChain", spec := "fnExactExtendChain", recurses := true, apart := false }
def FnExactExtendChainSaid : Prop := fnExactExtendChainRow.holds Try.pinned (OpenSpec.ofChange fnExactExtendChainSpec)

/-- ITS FALSE NEIGHBOUR: 'it returns false'. Refute it at one input. -/
def fnExactExtendChainWrong : ChangeSpec := { name := "fnExactExtendChain", fn := fun _ => fun
  | [d1, d2] => { results := [.lit (.bool false)], args := [d1, d2] }
  | _ => none }
def FnExactExtendChainWrongFalsely : Prop := fnExactExtendChainRow.holds Try.pinned (OpenSpec.ofChange fnExactExtendChainWrong)

/-- 'laws.FnExactHasTwoSizes': WHATEVER THE INPUT: true; the input reads as it did. -/
def fnExactHasTwoSizesSpec : ChangeSpec := { name := "fnExactHasTwoSizes", fn := fun _ => fun
  | [d] => { results := [.lit (.bool true)], args := [d] }
  | _ => none }
def fnExactHasTwoSizesRow : OpenClaim := { program := "ythcmpkhfimapgaa", sum := "49828027d168e1e436de15f76f7544cebf4ee75a4da0a0f0eb01cc561dd881f3", func := "loop.example/g03204/laws.FnExactHasTwoSizes", spec := "fnExactHasTwoSizes", unfollowed := true, recurses := true, apart := false }
def FnExactHasTwoSizesSaid : Prop := fnExactHasTwoSizesRow.holds Try.pinned (OpenSpec.ofChange fnExactHasTwoSizesSpec)

/-- ITS FALSE NEIGHBOUR: 'it returns false'. Refute it at one input. -/
def fnExactHasTwoSizesWrong : ChangeSpec := { name := "fnExactHasTwoSizes", fn := fun _ => fun
  | [d] => { results := [.lit (.bool false)], args := [d] }
  | _ => none }
def FnExactHasTwoSizesWrongFalsely : Prop := fnExactHasTwoSizesRow.holds Try.pinned (OpenSpec.ofChange fnExactHasTwoSizesWrong)

/-- 'laws.FnExactCountSizes': WHATEVER THE INPUT: true; the input reads as it did. -/
def fnExactCountSizesSpec : ChangeSpec := { name := "fnExactCountSizes", fn := fun _ => fun
  | [d] => { results := [.lit (.bool true)], args := [d] }
  | _ => none }
def fnExactCountSizesRow : OpenClaim := { program := "ythcmpkhfimapgaa", sum := "49828027d168e1e436de15f76f7544cebf4ee75a4da0a0f0eb01cc561dd881f3", func := "loop.example/g03204/laws.FnExactCountSizes", spec := "fnExactCountSizes", unfollowed := true, recurses := true, apart := false }
def FnExactCountSizesSaid : Prop := fnExactCountSizesRow.holds Try.pinned (OpenSpec.ofChange fnExactCountSizesSpec)

/-- ITS FALSE NEIGHBOUR: 'it returns false'. Refute it at one input. -/
def fnExactCountSizesWrong : ChangeSpec := { name := "fnExactCountSizes", fn := fun _ => fun
  | [d] => { results := [.lit (.bool false)], args := [d] }
  | _ => none }
def FnExactCountSizesWrongFalsely : Prop := fnExactCountSizesRow.holds Try.pinned (OpenSpec.ofChange fnExactCountSizesWrong)

/-- 'laws.FnExactIsSumOfSizes': WHATEVER THE INPUT: true; the input reads as it did. -/
def fnExactIsSumOfSizesSpec : ChangeSpec := { name := "fnExactIsSumOfSizes", fn := fun _ => fun
  | [d] => { results := [.lit (.bool true)], args := [d] }
  | _ => none }
def fnExactIsSumOfSizesRow : OpenClaim := { program := "ythcmpkhfimapgaa", sum := "49828027d168e1e436de15f76f7544cebf4ee75a4da0a0f0eb01cc561dd881f3", func := "loop.example/g03204/laws.FnExactIsSumOfSizes", spec := "fnExactIsSumOfSizes", unfollowed := true, recurses := true, apart := false }
def FnExactIsSumOfSizesSaid : Prop := fnExactIsSumOfSizesRow.holds Try.pinned (OpenSpec.ofChange fnExactIsSumOfSizesSpec)

/-- ITS FALSE NEIGHBOUR: 'it returns false'. Refute it at one input. -/
def fnExactIsSumOfSizesWrong : ChangeSpec := { name := "fnExactIsSumOfSizes", fn := fun _ => fun
  | [d] => { results := [.lit (.bool false)], args := [d] }
  | _ => none }
def FnExactIsSumOfSizesWrongFalsely : Prop := fnExactIsSumOfSizesRow.holds Try.pinned (OpenSpec.ofChange fnExactIsSumOfSizesWrong)

/-- 'laws.FnExactTwoSizeCounts': WHATEVER THE INPUT: true; the input reads as it did. -/
def fnExactTwoSizeCountsSpec : ChangeSpec := { name := "fnExactTwoSizeCounts", fn := fun _ => fun
  | [d1, d2] => { results := [.lit (.bool true)], args := [d1, d2] }
  | _ => none }
def fnExactTwoSizeCountsRow : OpenClaim := { program := "ythcmpkhfimapgaa", sum := "49828027d168e1e436de15f76f7544cebf4ee75a4da0a0f0eb01cc561dd881f3", func := "loop.example/g03204/laws.FnExactTwoSizeCounts", spec := "fnExactTwoSizeCounts", unfollowed := true, recurses := true, apart := false }
def FnExactTwoSizeCountsSaid : Prop := fnExactTwoSizeCountsRow.holds Try.pinned (OpenSpec.ofChange fnExactTwoSizeCountsSpec)

/-- ITS FALSE NEIGHBOUR: 'it returns false'. Refute it at one input. -/
def fnExactTwoSizeCountsWrong : ChangeSpec := { name := "fnExactTwoSizeCounts", fn := fun _ => fun
  | [d1, d2] => { results := [.lit (.bool false)], args := [d1, d2] }
  | _ => none }
def FnExactTwoSizeCountsWrongFalsely : Prop := fnExactTwoSizeCountsRow.holds Try.pinned (OpenSpec.ofChange fnExactTwoSizeCountsWrong)

/- THE SECOND FORM. 'bulk': how many values and letters a reading holds, each counted each time it is reached (what is shared counts as often as it is met; a slice's spare places count too). A statement '..UptoSaid' is the law's where the arguments, and the package variables that the reading takes, are together of bulk at most 1048576: NARROWER than '..Said'. Prove '..Said' where nothing that the law and all that it calls make is longer than what came in: it says more and counts as full. Else prove '..UptoSaid'. A law counts once. -/
mutual
def uptoBulk {H : Type} : DataW H → Nat
  | .lit (.string bytes) => bytes.length + 1
  | .lit _ => 1
  | .nil => 1
  | .ptr d => uptoBulk d + 1
  | .slice elems spare => uptoBulkAll elems + uptoBulkAll spare + 1
  | .agg parts => uptoBulkAll parts + 1
  | .iface _ d => uptoBulk d + 1
  | .map entries => uptoBulkEntries entries + 1
  | .held _ => 1
def uptoBulkAll {H : Type} : List (DataW H) → Nat
  | [] => 0
  | d :: r => uptoBulk d + uptoBulkAll r
def uptoBulkEntries {H : Type} : List (Lit × DataW H) → Nat
  | [] => 0
  | x :: r => uptoBulkEntry x + uptoBulkEntries r
def uptoBulkEntry {H : Type} : Lit × DataW H → Nat
  | (.string bytes, d) => bytes.length + uptoBulk d + 1
  | (_, d) => uptoBulk d + 1
 end
def uptoSmall : (H : Type) → List (DataW H) → Bool := fun _ ds => decide (uptoBulkAll ds ≤ 1048576)
def OpenSpec.upto (s : _root_.Go.ChangeSpec) : _root_.Go.OpenSpec := { _root_.Go.OpenSpec.ofChange s with cond := some uptoSmall }

/-- 'laws.FnGenerated', WHERE WHAT IT READS IS OF BULK AT MOST 1048576: true; the input reads as it did. -/
def fnGeneratedUptoRow : OpenClaim := { program := "ythcmpkhfimapgaa", sum := "49828027d168e1e436de15f76f7544cebf4ee75a4da0a0f0eb01cc561dd881f3", func := "loop.example/g03204/laws.FnGenerated", spec := "fnGenerated", unfollowed := true, recurses := true, apart := false, narrowed := true }
def FnGeneratedUptoSaid : Prop := fnGeneratedUptoRow.holds Try.pinned (OpenSpec.upto fnGeneratedSpec)

/-- 'laws.FnExactGeneratedRhythm', WHERE WHAT IT READS IS OF BULK AT MOST 1048576: true; the input reads as it did. -/
def fnExactGeneratedRhythmUptoRow : OpenClaim := { program := "ythcmpkhfimapgaa", sum := "49828027d168e1e436de15f76f7544cebf4ee75a4da0a0f0eb01cc561dd881f3", func := "loop.example/g03204/laws.FnExactGeneratedRhythm", spec := "fnExactGeneratedRhythm", recurses := true, apart := false, narrowed := true }
def FnExactGeneratedRhythmUptoSaid : Prop := fnExactGeneratedRhythmUptoRow.holds Try.pinned (OpenSpec.upto fnExactGeneratedRhythmSpec)

/-- 'laws.FnExactGeneratorsOf', WHERE WHAT IT READS IS OF BULK AT MOST 1048576: true; the input reads as it did. -/
def fnExactGeneratorsOfUptoRow : OpenClaim := { program := "ythcmpkhfimapgaa", sum := "49828027d168e1e436de15f76f7544cebf4ee75a4da0a0f0eb01cc561dd881f3", func := "loop.example/g03204/laws.FnExactGeneratorsOf", spec := "fnExactGeneratorsOf", apart := false, narrowed := true }
def FnExactGeneratorsOfUptoSaid : Prop := fnExactGeneratorsOfUptoRow.holds Try.pinned (OpenSpec.upto fnExactGeneratorsOfSpec)

/-- 'laws.FnExactIsGenerated', WHERE WHAT IT READS IS OF BULK AT MOST 1048576: true; the input reads as it did. -/
def fnExactIsGeneratedUptoRow : OpenClaim := { program := "ythcmpkhfimapgaa", sum := "49828027d168e1e436de15f76f7544cebf4ee75a4da0a0f0eb01cc561dd881f3", func := "loop.example/g03204/laws.FnExactIsGenerated", spec := "fnExactIsGenerated", apart := false, narrowed := true }
def FnExactIsGeneratedUptoSaid : Prop := fnExactIsGeneratedUptoRow.holds Try.pinned (OpenSpec.upto fnExactIsGeneratedSpec)

/-- 'laws.FnExactChainOf', WHERE WHAT IT READS IS OF BULK AT MOST 1048576: true; the input reads as it did. -/
def fnExactChainOfUptoRow : OpenClaim := { program := "ythcmpkhfimapgaa", sum := "49828027d168e1e436de15f76f7544cebf4ee75a4da0a0f0eb01cc561dd881f3", func := "loop.example/g03204/laws.FnExactChainOf", spec := "fnExactChainOf", apart := false, narrowed := true }
def FnExactChainOfUptoSaid : Prop := fnExactChainOfUptoRow.holds Try.pinned (OpenSpec.upto fnExactChainOfSpec)

/-- 'laws.FnExactExtendChain', WHERE WHAT IT READS IS OF BULK AT MOST 1048576: true; the input reads as it did. -/
def fnExactExtendChainUptoRow : OpenClaim := { program := "ythcmpkhfimapgaa", sum := "49828027d168e1e436de15f76f7544cebf4ee75a4da0a0f0eb01cc561dd881f3", func := "loop.example/g03204/laws.FnExactExtendChain", spec := "fnExactExtendChain", recurses := true, apart := false, narrowed := true }
def FnExactExtendChainUptoSaid : Prop := fnExactExtendChainUptoRow.holds Try.pinned (OpenSpec.upto fnExactExtendChainSpec)

/-- 'laws.FnExactHasTwoSizes', WHERE WHAT IT READS IS OF BULK AT MOST 1048576: true; the input reads as it did. -/
def fnExactHasTwoSizesUptoRow : OpenClaim := { program := "ythcmpkhfimapgaa", sum := "49828027d168e1e436de15f76f7544cebf4ee75a4da0a0f0eb01cc561dd881f3", func := "loop.example/g03204/laws.FnExactHasTwoSizes", spec := "fnExactHasTwoSizes", unfollowed := true, recurses := true, apart := false, narrowed := true }
def FnExactHasTwoSizesUptoSaid : Prop := fnExactHasTwoSizesUptoRow.holds Try.pinned (OpenSpec.upto fnExactHasTwoSizesSpec)

/-- 'laws.FnExactCountSizes', WHERE WHAT IT READS IS OF BULK AT MOST 1048576: true; the input reads as it did. -/
def fnExactCountSizesUptoRow : OpenClaim := { program := "ythcmpkhfimapgaa", sum := "49828027d168e1e436de15f76f7544cebf4ee75a4da0a0f0eb01cc561dd881f3", func := "loop.example/g03204/laws.FnExactCountSizes", spec := "fnExactCountSizes", unfollowed := true, recurses := true, apart := false, narrowed := true }
def FnExactCountSizesUptoSaid : Prop := fnExactCountSizesUptoRow.holds Try.pinned (OpenSpec.upto fnExactCountSizesSpec)

/-- 'laws.FnExactIsSumOfSizes', WHERE WHAT IT READS IS OF BULK AT MOST 1048576: true; the input reads as it did. -/
def fnExactIsSumOfSizesUptoRow : OpenClaim := { program := "ythcmpkhfimapgaa", sum := "49828027d168e1e436de15f76f7544cebf4ee75a4da0a0f0eb01cc561dd881f3", func := "loop.example/g03204/laws.FnExactIsSumOfSizes", spec := "fnExactIsSumOfSizes", unfollowed := true, recurses := true, apart := false, narrowed := true }
def FnExactIsSumOfSizesUptoSaid : Prop := fnExactIsSumOfSizesUptoRow.holds Try.pinned (OpenSpec.upto fnExactIsSumOfSizesSpec)

/-- 'laws.FnExactTwoSizeCounts', WHERE WHAT IT READS IS OF BULK AT MOST 1048576: true; the input reads as it did. -/
def fnExactTwoSizeCountsUptoRow : OpenClaim := { program := "ythcmpkhfimapgaa", sum := "49828027d168e1e436de15f76f7544cebf4ee75a4da0a0f0eb01cc561dd881f3", func := "loop.example/g03204/laws.FnExactTwoSizeCounts", spec := "fnExactTwoSizeCounts", unfollowed := true, recurses := true, apart := false, narrowed := true }
def FnExactTwoSizeCountsUptoSaid : Prop := fnExactTwoSizeCountsUptoRow.holds Try.pinned (OpenSpec.upto fnExactTwoSizeCountsSpec)

end Rows
end Go.Proofs.Ythcmpkhfimapgaa
