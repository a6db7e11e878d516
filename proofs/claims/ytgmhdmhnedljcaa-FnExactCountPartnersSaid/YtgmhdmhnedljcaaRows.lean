/-
  No cell of these rows narrows 'for every input' (looked for: loops, veiled, ifaces, maps, wideKeys, modest, calm, conditions, laid).
  DERIVED. THE GIVEN ROWS OF THIS SEAT. 3 by the template 'for every input the law returns true; each argument reads behind the call as it read before'; 0 by the template 'total and deterministic' (their statements: YtgmhdmhnedljcaaTotals.lean).
  GIVEN WITH THE SEED: the statements are not yours to turn. If you find one false, say at which input.
  Laid BY PROGRAM, IN A SANDBOX (cutbox-rows.mjs): the forced cells as the released guide's own fill.sh prints them over the translation ecb0263107855487… (all of the seat's roots in one cut). By AI agents, Wed Nov 11 2026. No macro, syntax, notation, axiom, sorry.
-/
import Derived.Test.YtgmhdmhnedljcaaChecked
import GoSem.Claim
import GoSem.ClaimJoined
import GoSem.ClaimMapViews
import Derived.JoinedTies
import Derived.KernelRfl
namespace Go.Proofs.Ytgmhdmhnedljcaa
/- THE CELL 'sum', in the pinned program and in every row, IS THE sha256 OF THE DUMP (.gsa) THAT YtgmhdmhnedljcaaProg.lean LOADS. Nothing in Lean hashes anything: it is a label: what it is worth is what the hold of that sum in a sandbox is worth. -/
noncomputable def Try.pinned : Pinned := { name := "ytgmhdmhnedljcaa", sum := "ecb0263107855487140324f487a12d86c4032b06b1a64c18ab1fd1ef39eba4a4", checked := Try.checked }
namespace Rows
def none {H : Type} : Left H := { results := [], args := [] }

/-- 'laws.FnExactPartnersOf': WHATEVER THE INPUT: true; the input reads as it did. -/
def fnExactPartnersOfSpec : ChangeSpec := { name := "fnExactPartnersOf", fn := fun _ => fun
  | [d] => { results := [.lit (.bool true)], args := [d] }
  | _ => none }
def fnExactPartnersOfRow : OpenClaim := { program := "ytgmhdmhnedljcaa", sum := "ecb0263107855487140324f487a12d86c4032b06b1a64c18ab1fd1ef39eba4a4", func := "loop.example/g03204/laws.FnExactPartnersOf", spec := "fnExactPartnersOf", recurses := true, leaving := true, apart := false }
def FnExactPartnersOfSaid : Prop := fnExactPartnersOfRow.holds Try.pinned (OpenSpec.ofChange fnExactPartnersOfSpec)

/-- ITS FALSE NEIGHBOUR: 'it returns false'. Refute it at one input. -/
def fnExactPartnersOfWrong : ChangeSpec := { name := "fnExactPartnersOf", fn := fun _ => fun
  | [d] => { results := [.lit (.bool false)], args := [d] }
  | _ => none }
def FnExactPartnersOfWrongFalsely : Prop := fnExactPartnersOfRow.holds Try.pinned (OpenSpec.ofChange fnExactPartnersOfWrong)

/-- 'laws.FnExactCountPartners': WHATEVER THE INPUT: true; the input reads as it did. -/
def fnExactCountPartnersSpec : ChangeSpec := { name := "fnExactCountPartners", fn := fun _ => fun
  | [d] => { results := [.lit (.bool true)], args := [d] }
  | _ => none }
def fnExactCountPartnersRow : OpenClaim := { program := "ytgmhdmhnedljcaa", sum := "ecb0263107855487140324f487a12d86c4032b06b1a64c18ab1fd1ef39eba4a4", func := "loop.example/g03204/laws.FnExactCountPartners", spec := "fnExactCountPartners", recurses := true, leaving := true, apart := false }
def FnExactCountPartnersSaid : Prop := fnExactCountPartnersRow.holds Try.pinned (OpenSpec.ofChange fnExactCountPartnersSpec)

/-- ITS FALSE NEIGHBOUR: 'it returns false'. Refute it at one input. -/
def fnExactCountPartnersWrong : ChangeSpec := { name := "fnExactCountPartners", fn := fun _ => fun
  | [d] => { results := [.lit (.bool false)], args := [d] }
  | _ => none }
def FnExactCountPartnersWrongFalsely : Prop := fnExactCountPartnersRow.holds Try.pinned (OpenSpec.ofChange fnExactCountPartnersWrong)

/-- 'laws.FnExactFirstPartner': WHATEVER THE INPUT: true; the input reads as it did. -/
def fnExactFirstPartnerSpec : ChangeSpec := { name := "fnExactFirstPartner", fn := fun _ => fun
  | [d] => { results := [.lit (.bool true)], args := [d] }
  | _ => none }
def fnExactFirstPartnerRow : OpenClaim := { program := "ytgmhdmhnedljcaa", sum := "ecb0263107855487140324f487a12d86c4032b06b1a64c18ab1fd1ef39eba4a4", func := "loop.example/g03204/laws.FnExactFirstPartner", spec := "fnExactFirstPartner", recurses := true, leaving := true, apart := false }
def FnExactFirstPartnerSaid : Prop := fnExactFirstPartnerRow.holds Try.pinned (OpenSpec.ofChange fnExactFirstPartnerSpec)

/-- ITS FALSE NEIGHBOUR: 'it returns false'. Refute it at one input. -/
def fnExactFirstPartnerWrong : ChangeSpec := { name := "fnExactFirstPartner", fn := fun _ => fun
  | [d] => { results := [.lit (.bool false)], args := [d] }
  | _ => none }
def FnExactFirstPartnerWrongFalsely : Prop := fnExactFirstPartnerRow.holds Try.pinned (OpenSpec.ofChange fnExactFirstPartnerWrong)

/- THE SECOND FORM. 'bulk': how many values and letters a reading holds, each counted each time it is reached (what is shared counts as often as it is met; a slice's spare places count too). A statement '..UptoSaid' is the law's where the arguments, and the package variables that the reading takes, are together of bulk at most 1048576: NARROWER than '..Said'. Prove '..Said' where nothing that the law and all that it calls make is longer than what came in: it says more and counts as full. Else prove '..UptoSaid'. A law counts once. -/
mutual
def uptoBulk {H : Type} : DataW H → Nat
  | .lit (.string bytes) => bytes.length + 1
  | .lit _ => 1
  | .nil => 1
  | .ptr d => uptoBulk d + 1
  | .slice elems spare => uptoBulkAll elems + uptoBulkAll spare + 1
  | .agg parts => uptoBulkAll parts + 1
  | .iface _ d => uptoBulk d + 1
  | .map entries => uptoBulkEntries entries + 1
  | .held _ => 1
def uptoBulkAll {H : Type} : List (DataW H) → Nat
  | [] => 0
  | d :: r => uptoBulk d + uptoBulkAll r
def uptoBulkEntries {H : Type} : List (Lit × DataW H) → Nat
  | [] => 0
  | x :: r => uptoBulkEntry x + uptoBulkEntries r
def uptoBulkEntry {H : Type} : Lit × DataW H → Nat
  | (.string bytes, d) => bytes.length + uptoBulk d + 1
  | (_, d) => uptoBulk d + 1
 end
def uptoSmall : (H : Type) → List (DataW H) → Bool := fun _ ds => decide (uptoBulkAll ds ≤ 1048576)
def OpenSpec.upto (s : _root_.Go.ChangeSpec) : _root_.Go.OpenSpec := { _root_.Go.OpenSpec.ofChange s with cond := some uptoSmall }

/-- 'laws.FnExactPartnersOf', WHERE WHAT IT READS IS OF BULK AT MOST 1048576: true; the input reads as it did. -/
def fnExactPartnersOfUptoRow : OpenClaim := { program := "ytgmhdmhnedljcaa", sum := "ecb0263107855487140324f487a12d86c4032b06b1a64c18ab1fd1ef39eba4a4", func := "loop.example/g03204/laws.FnExactPartnersOf", spec := "fnExactPartnersOf", recurses := true, leaving := true, apart := false, narrowed := true }
def FnExactPartnersOfUptoSaid : Prop := fnExactPartnersOfUptoRow.holds Try.pinned (OpenSpec.upto fnExactPartnersOfSpec)

/-- 'laws.FnExactCountPartners', WHERE WHAT IT READS IS OF BULK AT MOST 1048576: true; the input reads as it did. -/
def fnExactCountPartnersUptoRow : OpenClaim := { program := "ytgmhdmhnedljcaa", sum := "ecb0263107855487140324f487a12d86c4032b06b1a64c18ab1fd1ef39eba4a4", func := "loop.example/g03204/laws.FnExactCountPartners", spec := "fnExactCountPartners", recurses := true, leaving := true, apart := false, narrowed := true }
def FnExactCountPartnersUptoSaid : Prop := fnExactCountPartnersUptoRow.holds Try.pinned (OpenSpec.upto fnExactCountPartnersSpec)

/-- 'laws.FnExactFirstPartner', WHERE WHAT IT READS IS OF BULK AT MOST 1048576: true; the input reads as it did. -/
def fnExactFirstPartnerUptoRow : OpenClaim := { program := "ytgmhdmhnedljcaa", sum := "ecb0263107855487140324f487a12d86c4032b06b1a64c18ab1fd1ef39eba4a4", func := "loop.example/g03204/laws.FnExactFirstPartner", spec := "fnExactFirstPartner", recurses := true, leaving := true, apart := false, narrowed := true }
def FnExactFirstPartnerUptoSaid : Prop := fnExactFirstPartnerUptoRow.holds Try.pinned (OpenSpec.upto fnExactFirstPartnerSpec)

end Rows
end Go.Proofs.Ytgmhdmhnedljcaa
