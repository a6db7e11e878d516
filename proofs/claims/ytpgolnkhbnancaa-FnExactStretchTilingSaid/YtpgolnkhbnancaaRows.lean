/-
  No cell of these rows narrows 'for every input' (looked for: loops, veiled, ifaces, maps, wideKeys, modest, calm, conditions, laid).
  DERIVED. THE GIVEN ROWS OF THIS SEAT. 11 by the template 'for every input the law returns true; each argument reads behind the call as it read before'; 0 by the template 'total and deterministic' (their statements: YtpgolnkhbnancaaTotals.lean).
  GIVEN WITH THE SEED: the statements are not yours to turn. If you find one false, say at which input.
  Laid BY PROGRAM, IN A SANDBOX (cutbox-rows.mjs): the forced cells as the released guide's own fill.sh prints them over the translation 383653a3efcb9eb3… (all of the seat's roots in one cut). By AI agents, Wed Nov 11 2026. No macro, syntax, notation, axiom, sorry.
-/
import Derived.Test.YtpgolnkhbnancaaChecked
import GoSem.Claim
import GoSem.ClaimJoined
import GoSem.ClaimMapViews
import Derived.JoinedTies
import Derived.KernelRfl
namespace Go.Proofs.Ytpgolnkhbnancaa
/- THE CELL 'sum', in the pinned program and in every row, IS THE sha256 OF THE DUMP (.gsa) THAT YtpgolnkhbnancaaProg.lean LOADS. Nothing in Lean hashes anything: it is a label: what it is worth is what the hold of that sum in a sandbox is worth. -/
noncomputable def Try.pinned : Pinned := { name := "ytpgolnkhbnancaa", sum := "383653a3efcb9eb30add1beaa24e160499b54a9aa30bd78732b5e7b96e9d40a7", checked := Try.checked }
namespace Rows
def none {H : Type} : Left H := { results := [], args := [] }

/-- 'laws.FnSums': WHATEVER THE INPUT: true; the input reads as it did. -/
def fnSumsSpec : ChangeSpec := { name := "fnSums", fn := fun _ => fun
  | [d] => { results := [.lit (.bool true)], args := [d] }
  | _ => none }
def fnSumsRow : OpenClaim := { program := "ytpgolnkhbnancaa", sum := "383653a3efcb9eb30add1beaa24e160499b54a9aa30bd78732b5e7b96e9d40a7", func := "loop.example/g03204/laws.FnSums", spec := "fnSums", recurses := true, plainKeys := false, apart := false }
def FnSumsSaid : Prop := fnSumsRow.holds Try.pinned (OpenSpec.ofChange fnSumsSpec)

/-- ITS FALSE NEIGHBOUR: 'it returns false'. Refute it at one input. -/
def fnSumsWrong : ChangeSpec := { name := "fnSums", fn := fun _ => fun
  | [d] => { results := [.lit (.bool false)], args := [d] }
  | _ => none }
def FnSumsWrongFalsely : Prop := fnSumsRow.holds Try.pinned (OpenSpec.ofChange fnSumsWrong)

/-- 'laws.FnExactSumCounts': WHATEVER THE INPUT: true; the input reads as it did. -/
def fnExactSumCountsSpec : ChangeSpec := { name := "fnExactSumCounts", fn := fun _ => fun
  | [d1, d2] => { results := [.lit (.bool true)], args := [d1, d2] }
  | _ => none }
def fnExactSumCountsRow : OpenClaim := { program := "ytpgolnkhbnancaa", sum := "383653a3efcb9eb30add1beaa24e160499b54a9aa30bd78732b5e7b96e9d40a7", func := "loop.example/g03204/laws.FnExactSumCounts", spec := "fnExactSumCounts", plainKeys := false, apart := false }
def FnExactSumCountsSaid : Prop := fnExactSumCountsRow.holds Try.pinned (OpenSpec.ofChange fnExactSumCountsSpec)

/-- ITS FALSE NEIGHBOUR: 'it returns false'. Refute it at one input. -/
def fnExactSumCountsWrong : ChangeSpec := { name := "fnExactSumCounts", fn := fun _ => fun
  | [d1, d2] => { results := [.lit (.bool false)], args := [d1, d2] }
  | _ => none }
def FnExactSumCountsWrongFalsely : Prop := fnExactSumCountsRow.holds Try.pinned (OpenSpec.ofChange fnExactSumCountsWrong)

/-- 'laws.FnExactSumRhythm': WHATEVER THE INPUT: true; the input reads as it did. -/
def fnExactSumRhythmSpec : ChangeSpec := { name := "fnExactSumRhythm", fn := fun _ => fun
  | [d1, d2] => { results := [.lit (.bool true)], args := [d1, d2] }
  | _ => none }
def fnExactSumRhythmRow : OpenClaim := { program := "ytpgolnkhbnancaa", sum := "383653a3efcb9eb30add1beaa24e160499b54a9aa30bd78732b5e7b96e9d40a7", func := "loop.example/g03204/laws.FnExactSumRhythm", spec := "fnExactSumRhythm", plainKeys := false, apart := false }
def FnExactSumRhythmSaid : Prop := fnExactSumRhythmRow.holds Try.pinned (OpenSpec.ofChange fnExactSumRhythmSpec)

/-- ITS FALSE NEIGHBOUR: 'it returns false'. Refute it at one input. -/
def fnExactSumRhythmWrong : ChangeSpec := { name := "fnExactSumRhythm", fn := fun _ => fun
  | [d1, d2] => { results := [.lit (.bool false)], args := [d1, d2] }
  | _ => none }
def FnExactSumRhythmWrongFalsely : Prop := fnExactSumRhythmRow.holds Try.pinned (OpenSpec.ofChange fnExactSumRhythmWrong)

/-- 'laws.FnExactIsDirect': WHATEVER THE INPUT: true; the input reads as it did. -/
def fnExactIsDirectSpec : ChangeSpec := { name := "fnExactIsDirect", fn := fun _ => fun
  | [d1, d2] => { results := [.lit (.bool true)], args := [d1, d2] }
  | _ => none }
def fnExactIsDirectRow : OpenClaim := { program := "ytpgolnkhbnancaa", sum := "383653a3efcb9eb30add1beaa24e160499b54a9aa30bd78732b5e7b96e9d40a7", func := "loop.example/g03204/laws.FnExactIsDirect", spec := "fnExactIsDirect", plainKeys := false, apart := false }
def FnExactIsDirectSaid : Prop := fnExactIsDirectRow.holds Try.pinned (OpenSpec.ofChange fnExactIsDirectSpec)

/-- ITS FALSE NEIGHBOUR: 'it returns false'. Refute it at one input. -/
def fnExactIsDirectWrong : ChangeSpec := { name := "fnExactIsDirect", fn := fun _ => fun
  | [d1, d2] => { results := [.lit (.bool false)], args := [d1, d2] }
  | _ => none }
def FnExactIsDirectWrongFalsely : Prop := fnExactIsDirectRow.holds Try.pinned (OpenSpec.ofChange fnExactIsDirectWrong)

/-- 'laws.FnExactIsTiling': WHATEVER THE INPUT: true; the input reads as it did. -/
def fnExactIsTilingSpec : ChangeSpec := { name := "fnExactIsTiling", fn := fun _ => fun
  | [d1, d2] => { results := [.lit (.bool true)], args := [d1, d2] }
  | _ => none }
def fnExactIsTilingRow : OpenClaim := { program := "ytpgolnkhbnancaa", sum := "383653a3efcb9eb30add1beaa24e160499b54a9aa30bd78732b5e7b96e9d40a7", func := "loop.example/g03204/laws.FnExactIsTiling", spec := "fnExactIsTiling", plainKeys := false, apart := false }
def FnExactIsTilingSaid : Prop := fnExactIsTilingRow.holds Try.pinned (OpenSpec.ofChange fnExactIsTilingSpec)

/-- ITS FALSE NEIGHBOUR: 'it returns false'. Refute it at one input. -/
def fnExactIsTilingWrong : ChangeSpec := { name := "fnExactIsTiling", fn := fun _ => fun
  | [d1, d2] => { results := [.lit (.bool false)], args := [d1, d2] }
  | _ => none }
def FnExactIsTilingWrongFalsely : Prop := fnExactIsTilingRow.holds Try.pinned (OpenSpec.ofChange fnExactIsTilingWrong)

/-- 'laws.FnExactGapsIn': WHATEVER THE INPUT: true; the input reads as it did. -/
def fnExactGapsInSpec : ChangeSpec := { name := "fnExactGapsIn", fn := fun _ => fun
  | [d1, d2] => { results := [.lit (.bool true)], args := [d1, d2] }
  | _ => none }
def fnExactGapsInRow : OpenClaim := { program := "ytpgolnkhbnancaa", sum := "383653a3efcb9eb30add1beaa24e160499b54a9aa30bd78732b5e7b96e9d40a7", func := "loop.example/g03204/laws.FnExactGapsIn", spec := "fnExactGapsIn", plainKeys := false, apart := false }
def FnExactGapsInSaid : Prop := fnExactGapsInRow.holds Try.pinned (OpenSpec.ofChange fnExactGapsInSpec)

/-- ITS FALSE NEIGHBOUR: 'it returns false'. Refute it at one input. -/
def fnExactGapsInWrong : ChangeSpec := { name := "fnExactGapsIn", fn := fun _ => fun
  | [d1, d2] => { results := [.lit (.bool false)], args := [d1, d2] }
  | _ => none }
def FnExactGapsInWrongFalsely : Prop := fnExactGapsInRow.holds Try.pinned (OpenSpec.ofChange fnExactGapsInWrong)

/-- 'laws.FnExactPartnersOf': WHATEVER THE INPUT: true; the input reads as it did. -/
def fnExactPartnersOfSpec : ChangeSpec := { name := "fnExactPartnersOf", fn := fun _ => fun
  | [d] => { results := [.lit (.bool true)], args := [d] }
  | _ => none }
def fnExactPartnersOfRow : OpenClaim := { program := "ytpgolnkhbnancaa", sum := "383653a3efcb9eb30add1beaa24e160499b54a9aa30bd78732b5e7b96e9d40a7", func := "loop.example/g03204/laws.FnExactPartnersOf", spec := "fnExactPartnersOf", recurses := true, plainKeys := false, leaving := true, apart := false }
def FnExactPartnersOfSaid : Prop := fnExactPartnersOfRow.holds Try.pinned (OpenSpec.ofChange fnExactPartnersOfSpec)

/-- ITS FALSE NEIGHBOUR: 'it returns false'. Refute it at one input. -/
def fnExactPartnersOfWrong : ChangeSpec := { name := "fnExactPartnersOf", fn := fun _ => fun
  | [d] => { results := [.lit (.bool false)], args := [d] }
  | _ => none }
def FnExactPartnersOfWrongFalsely : Prop := fnExactPartnersOfRow.holds Try.pinned (OpenSpec.ofChange fnExactPartnersOfWrong)

/-- 'laws.FnExactCountPartners': WHATEVER THE INPUT: true; the input reads as it did. -/
def fnExactCountPartnersSpec : ChangeSpec := { name := "fnExactCountPartners", fn := fun _ => fun
  | [d] => { results := [.lit (.bool true)], args := [d] }
  | _ => none }
def fnExactCountPartnersRow : OpenClaim := { program := "ytpgolnkhbnancaa", sum := "383653a3efcb9eb30add1beaa24e160499b54a9aa30bd78732b5e7b96e9d40a7", func := "loop.example/g03204/laws.FnExactCountPartners", spec := "fnExactCountPartners", recurses := true, plainKeys := false, leaving := true, apart := false }
def FnExactCountPartnersSaid : Prop := fnExactCountPartnersRow.holds Try.pinned (OpenSpec.ofChange fnExactCountPartnersSpec)

/-- ITS FALSE NEIGHBOUR: 'it returns false'. Refute it at one input. -/
def fnExactCountPartnersWrong : ChangeSpec := { name := "fnExactCountPartners", fn := fun _ => fun
  | [d] => { results := [.lit (.bool false)], args := [d] }
  | _ => none }
def FnExactCountPartnersWrongFalsely : Prop := fnExactCountPartnersRow.holds Try.pinned (OpenSpec.ofChange fnExactCountPartnersWrong)

/-- 'laws.FnExactFirstPartner': WHATEVER THE INPUT: true; the input reads as it did. -/
def fnExactFirstPartnerSpec : ChangeSpec := { name := "fnExactFirstPartner", fn := fun _ => fun
  | [d] => { results := [.lit (.bool true)], args := [d] }
  | _ => none }
def fnExactFirstPartnerRow : OpenClaim := { program := "ytpgolnkhbnancaa", sum := "383653a3efcb9eb30add1beaa24e160499b54a9aa30bd78732b5e7b96e9d40a7", func := "loop.example/g03204/laws.FnExactFirstPartner", spec := "fnExactFirstPartner", recurses := true, plainKeys := false, leaving := true, apart := false }
def FnExactFirstPartnerSaid : Prop := fnExactFirstPartnerRow.holds Try.pinned (OpenSpec.ofChange fnExactFirstPartnerSpec)

/-- ITS FALSE NEIGHBOUR: 'it returns false'. Refute it at one input. -/
def fnExactFirstPartnerWrong : ChangeSpec := { name := "fnExactFirstPartner", fn := fun _ => fun
  | [d] => { results := [.lit (.bool false)], args := [d] }
  | _ => none }
def FnExactFirstPartnerWrongFalsely : Prop := fnExactFirstPartnerRow.holds Try.pinned (OpenSpec.ofChange fnExactFirstPartnerWrong)

/-- 'laws.FnExactIsPeriodicTiling': WHATEVER THE INPUT: true; the input reads as it did. -/
def fnExactIsPeriodicTilingSpec : ChangeSpec := { name := "fnExactIsPeriodicTiling", fn := fun _ => fun
  | [d1, d2] => { results := [.lit (.bool true)], args := [d1, d2] }
  | _ => none }
def fnExactIsPeriodicTilingRow : OpenClaim := { program := "ytpgolnkhbnancaa", sum := "383653a3efcb9eb30add1beaa24e160499b54a9aa30bd78732b5e7b96e9d40a7", func := "loop.example/g03204/laws.FnExactIsPeriodicTiling", spec := "fnExactIsPeriodicTiling", recurses := true, plainKeys := false, apart := false }
def FnExactIsPeriodicTilingSaid : Prop := fnExactIsPeriodicTilingRow.holds Try.pinned (OpenSpec.ofChange fnExactIsPeriodicTilingSpec)

/-- ITS FALSE NEIGHBOUR: 'it returns false'. Refute it at one input. -/
def fnExactIsPeriodicTilingWrong : ChangeSpec := { name := "fnExactIsPeriodicTiling", fn := fun _ => fun
  | [d1, d2] => { results := [.lit (.bool false)], args := [d1, d2] }
  | _ => none }
def FnExactIsPeriodicTilingWrongFalsely : Prop := fnExactIsPeriodicTilingRow.holds Try.pinned (OpenSpec.ofChange fnExactIsPeriodicTilingWrong)

/-- 'laws.FnExactStretchTiling': WHATEVER THE INPUT: true; the input reads as it did. -/
def fnExactStretchTilingSpec : ChangeSpec := { name := "fnExactStretchTiling", fn := fun _ => fun
  | [d1, d2, d3] => { results := [.lit (.bool true)], args := [d1, d2, d3] }
  | _ => none }
def fnExactStretchTilingRow : OpenClaim := { program := "ytpgolnkhbnancaa", sum := "383653a3efcb9eb30add1beaa24e160499b54a9aa30bd78732b5e7b96e9d40a7", func := "loop.example/g03204/laws.FnExactStretchTiling", spec := "fnExactStretchTiling", plainKeys := false, apart := false }
def FnExactStretchTilingSaid : Prop := fnExactStretchTilingRow.holds Try.pinned (OpenSpec.ofChange fnExactStretchTilingSpec)

/-- ITS FALSE NEIGHBOUR: 'it returns false'. Refute it at one input. -/
def fnExactStretchTilingWrong : ChangeSpec := { name := "fnExactStretchTiling", fn := fun _ => fun
  | [d1, d2, d3] => { results := [.lit (.bool false)], args := [d1, d2, d3] }
  | _ => none }
def FnExactStretchTilingWrongFalsely : Prop := fnExactStretchTilingRow.holds Try.pinned (OpenSpec.ofChange fnExactStretchTilingWrong)

/- THE SECOND FORM. 'bulk': how many values and letters a reading holds, each counted each time it is reached (what is shared counts as often as it is met; a slice's spare places count too). A statement '..UptoSaid' is the law's where the arguments, and the package variables that the reading takes, are together of bulk at most 1048576: NARROWER than '..Said'. Prove '..Said' where nothing that the law and all that it calls make is longer than what came in: it says more and counts as full. Else prove '..UptoSaid'. A law counts once. -/
mutual
def uptoBulk {H : Type} : DataW H → Nat
  | .lit (.string bytes) => bytes.length + 1
  | .lit _ => 1
  | .nil => 1
  | .ptr d => uptoBulk d + 1
  | .slice elems spare => uptoBulkAll elems + uptoBulkAll spare + 1
  | .agg parts => uptoBulkAll parts + 1
  | .iface _ d => uptoBulk d + 1
  | .map entries => uptoBulkEntries entries + 1
  | .held _ => 1
def uptoBulkAll {H : Type} : List (DataW H) → Nat
  | [] => 0
  | d :: r => uptoBulk d + uptoBulkAll r
def uptoBulkEntries {H : Type} : List (Lit × DataW H) → Nat
  | [] => 0
  | x :: r => uptoBulkEntry x + uptoBulkEntries r
def uptoBulkEntry {H : Type} : Lit × DataW H → Nat
  | (.string bytes, d) => bytes.length + uptoBulk d + 1
  | (_, d) => uptoBulk d + 1
 end
def uptoSmall : (H : Type) → List (DataW H) → Bool := fun _ ds => decide (uptoBulkAll ds ≤ 1048576)
def OpenSpec.upto (s : _root_.Go.ChangeSpec) : _root_.Go.OpenSpec := { _root_.Go.OpenSpec.ofChange s with cond := some uptoSmall }

/-- 'laws.FnSums', WHERE WHAT IT READS IS OF BULK AT MOST 1048576: true; the input reads as it did. -/
def fnSumsUptoRow : OpenClaim := { program := "ytpgolnkhbnancaa", sum := "383653a3efcb9eb30add1beaa24e160499b54a9aa30bd78732b5e7b96e9d40a7", func := "loop.example/g03204/laws.FnSums", spec := "fnSums", recurses := true, plainKeys := false, apart := false, narrowed := true }
def FnSumsUptoSaid : Prop := fnSumsUptoRow.holds Try.pinned (OpenSpec.upto fnSumsSpec)

/-- 'laws.FnExactSumCounts', WHERE WHAT IT READS IS OF BULK AT MOST 1048576: true; the input reads as it did. -/
def fnExactSumCountsUptoRow : OpenClaim := { program := "ytpgolnkhbnancaa", sum := "383653a3efcb9eb30add1beaa24e160499b54a9aa30bd78732b5e7b96e9d40a7", func := "loop.example/g03204/laws.FnExactSumCounts", spec := "fnExactSumCounts", plainKeys := false, apart := false, narrowed := true }
def FnExactSumCountsUptoSaid : Prop := fnExactSumCountsUptoRow.holds Try.pinned (OpenSpec.upto fnExactSumCountsSpec)

/-- 'laws.FnExactSumRhythm', WHERE WHAT IT READS IS OF BULK AT MOST 1048576: true; the input reads as it did. -/
def fnExactSumRhythmUptoRow : OpenClaim := { program := "ytpgolnkhbnancaa", sum := "383653a3efcb9eb30add1beaa24e160499b54a9aa30bd78732b5e7b96e9d40a7", func := "loop.example/g03204/laws.FnExactSumRhythm", spec := "fnExactSumRhythm", plainKeys := false, apart := false, narrowed := true }
def FnExactSumRhythmUptoSaid : Prop := fnExactSumRhythmUptoRow.holds Try.pinned (OpenSpec.upto fnExactSumRhythmSpec)

/-- 'laws.FnExactIsDirect', WHERE WHAT IT READS IS OF BULK AT MOST 1048576: true; the input reads as it did. -/
def fnExactIsDirectUptoRow : OpenClaim := { program := "ytpgolnkhbnancaa", sum := "383653a3efcb9eb30add1beaa24e160499b54a9aa30bd78732b5e7b96e9d40a7", func := "loop.example/g03204/laws.FnExactIsDirect", spec := "fnExactIsDirect", plainKeys := false, apart := false, narrowed := true }
def FnExactIsDirectUptoSaid : Prop := fnExactIsDirectUptoRow.holds Try.pinned (OpenSpec.upto fnExactIsDirectSpec)

/-- 'laws.FnExactIsTiling', WHERE WHAT IT READS IS OF BULK AT MOST 1048576: true; the input reads as it did. -/
def fnExactIsTilingUptoRow : OpenClaim := { program := "ytpgolnkhbnancaa", sum := "383653a3efcb9eb30add1beaa24e160499b54a9aa30bd78732b5e7b96e9d40a7", func := "loop.example/g03204/laws.FnExactIsTiling", spec := "fnExactIsTiling", plainKeys := false, apart := false, narrowed := true }
def FnExactIsTilingUptoSaid : Prop := fnExactIsTilingUptoRow.holds Try.pinned (OpenSpec.upto fnExactIsTilingSpec)

/-- 'laws.FnExactGapsIn', WHERE WHAT IT READS IS OF BULK AT MOST 1048576: true; the input reads as it did. -/
def fnExactGapsInUptoRow : OpenClaim := { program := "ytpgolnkhbnancaa", sum := "383653a3efcb9eb30add1beaa24e160499b54a9aa30bd78732b5e7b96e9d40a7", func := "loop.example/g03204/laws.FnExactGapsIn", spec := "fnExactGapsIn", plainKeys := false, apart := false, narrowed := true }
def FnExactGapsInUptoSaid : Prop := fnExactGapsInUptoRow.holds Try.pinned (OpenSpec.upto fnExactGapsInSpec)

/-- 'laws.FnExactPartnersOf', WHERE WHAT IT READS IS OF BULK AT MOST 1048576: true; the input reads as it did. -/
def fnExactPartnersOfUptoRow : OpenClaim := { program := "ytpgolnkhbnancaa", sum := "383653a3efcb9eb30add1beaa24e160499b54a9aa30bd78732b5e7b96e9d40a7", func := "loop.example/g03204/laws.FnExactPartnersOf", spec := "fnExactPartnersOf", recurses := true, plainKeys := false, leaving := true, apart := false, narrowed := true }
def FnExactPartnersOfUptoSaid : Prop := fnExactPartnersOfUptoRow.holds Try.pinned (OpenSpec.upto fnExactPartnersOfSpec)

/-- 'laws.FnExactCountPartners', WHERE WHAT IT READS IS OF BULK AT MOST 1048576: true; the input reads as it did. -/
def fnExactCountPartnersUptoRow : OpenClaim := { program := "ytpgolnkhbnancaa", sum := "383653a3efcb9eb30add1beaa24e160499b54a9aa30bd78732b5e7b96e9d40a7", func := "loop.example/g03204/laws.FnExactCountPartners", spec := "fnExactCountPartners", recurses := true, plainKeys := false, leaving := true, apart := false, narrowed := true }
def FnExactCountPartnersUptoSaid : Prop := fnExactCountPartnersUptoRow.holds Try.pinned (OpenSpec.upto fnExactCountPartnersSpec)

/-- 'laws.FnExactFirstPartner', WHERE WHAT IT READS IS OF BULK AT MOST 1048576: true; the input reads as it did. -/
def fnExactFirstPartnerUptoRow : OpenClaim := { program := "ytpgolnkhbnancaa", sum := "383653a3efcb9eb30add1beaa24e160499b54a9aa30bd78732b5e7b96e9d40a7", func := "loop.example/g03204/laws.FnExactFirstPartner", spec := "fnExactFirstPartner", recurses := true, plainKeys := false, leaving := true, apart := false, narrowed := true }
def FnExactFirstPartnerUptoSaid : Prop := fnExactFirstPartnerUptoRow.holds Try.pinned (OpenSpec.upto fnExactFirstPartnerSpec)

/-- 'laws.FnExactIsPeriodicTiling', WHERE WHAT IT READS IS OF BULK AT MOST 1048576: true; the input reads as it did. -/
def fnExactIsPeriodicTilingUptoRow : OpenClaim := { program := "ytpgolnkhbnancaa", sum := "383653a3efcb9eb30add1beaa24e160499b54a9aa30bd78732b5e7b96e9d40a7", func := "loop.example/g03204/laws.FnExactIsPeriodicTiling", spec := "fnExactIsPeriodicTiling", recurses := true, plainKeys := false, apart := false, narrowed := true }
def FnExactIsPeriodicTilingUptoSaid : Prop := fnExactIsPeriodicTilingUptoRow.holds Try.pinned (OpenSpec.upto fnExactIsPeriodicTilingSpec)

/-- 'laws.FnExactStretchTiling', WHERE WHAT IT READS IS OF BULK AT MOST 1048576: true; the input reads as it did. -/
def fnExactStretchTilingUptoRow : OpenClaim := { program := "ytpgolnkhbnancaa", sum := "383653a3efcb9eb30add1beaa24e160499b54a9aa30bd78732b5e7b96e9d40a7", func := "loop.example/g03204/laws.FnExactStretchTiling", spec := "fnExactStretchTiling", plainKeys := false, apart := false, narrowed := true }
def FnExactStretchTilingUptoSaid : Prop := fnExactStretchTilingUptoRow.holds Try.pinned (OpenSpec.upto fnExactStretchTilingSpec)

end Rows
end Go.Proofs.Ytpgolnkhbnancaa
