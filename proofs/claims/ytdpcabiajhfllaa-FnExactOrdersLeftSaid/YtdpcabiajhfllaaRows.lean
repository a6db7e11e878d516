/-
  No cell of these rows narrows 'for every input' (looked for: loops, veiled, ifaces, maps, wideKeys, modest, calm, conditions, laid).
  DERIVED. THE GIVEN ROWS OF THIS SEAT. 8 by the template 'for every input the law returns true; each argument reads behind the call as it read before'; 0 by the template 'total and deterministic' (their statements: YtdpcabiajhfllaaTotals.lean).
  GIVEN WITH THE SEED: the statements are not yours to turn. If you find one false, say at which input.
  Laid BY PROGRAM, IN A SANDBOX (cutbox-rows.mjs): the forced cells as the released guide's own fill.sh prints them over the translation edc44f741560093e… (all of the seat's roots in one cut). By AI agents, Wed Nov 11 2026. No macro, syntax, notation, axiom, sorry.
-/
import Derived.Test.YtdpcabiajhfllaaChecked
import GoSem.Claim
import GoSem.ClaimJoined
import GoSem.ClaimMapViews
import Derived.JoinedTies
import Derived.KernelRfl
namespace Go.Proofs.Ytdpcabiajhfllaa
/- THE CELL 'sum', in the pinned program and in every row, IS THE sha256 OF THE DUMP (.gsa) THAT YtdpcabiajhfllaaProg.lean LOADS. Nothing in Lean hashes anything: it is a label: what it is worth is what the hold of that sum in a sandbox is worth. -/
noncomputable def Try.pinned : Pinned := { name := "ytdpcabiajhfllaa", sum := "edc44f741560093e014468ee1cef49a7173e4655584191edf6334a890e6c19e7", checked := Try.checked }
namespace Rows
def none {H : Type} : Left H := { results := [], args := [] }

/-- 'laws.FnExactPrimeOf': WHATEVER THE INPUT: true; the input reads as it did. -/
def fnExactPrimeOfSpec : ChangeSpec := { name := "fnExactPrimeOf", fn := fun _ => fun
  | [d] => { results := [.lit (.bool true)], args := [d] }
  | _ => none }
def fnExactPrimeOfRow : OpenClaim := { program := "ytdpcabiajhfllaa", sum := "edc44f741560093e014468ee1cef49a7173e4655584191edf6334a890e6c19e7", func := "loop.example/g03204/laws.FnExactPrimeOf", spec := "fnExactPrimeOf", apart := false }
def FnExactPrimeOfSaid : Prop := fnExactPrimeOfRow.holds Try.pinned (OpenSpec.ofChange fnExactPrimeOfSpec)

/-- ITS FALSE NEIGHBOUR: 'it returns false'. Refute it at one input. -/
def fnExactPrimeOfWrong : ChangeSpec := { name := "fnExactPrimeOf", fn := fun _ => fun
  | [d] => { results := [.lit (.bool false)], args := [d] }
  | _ => none }
def FnExactPrimeOfWrongFalsely : Prop := fnExactPrimeOfRow.holds Try.pinned (OpenSpec.ofChange fnExactPrimeOfWrong)

/-- 'laws.FnExactPrimePowersOf': WHATEVER THE INPUT: true; the input reads as it did. -/
def fnExactPrimePowersOfSpec : ChangeSpec := { name := "fnExactPrimePowersOf", fn := fun _ => fun
  | [d] => { results := [.lit (.bool true)], args := [d] }
  | _ => none }
def fnExactPrimePowersOfRow : OpenClaim := { program := "ytdpcabiajhfllaa", sum := "edc44f741560093e014468ee1cef49a7173e4655584191edf6334a890e6c19e7", func := "loop.example/g03204/laws.FnExactPrimePowersOf", spec := "fnExactPrimePowersOf", inPlace := ["(*sync.WaitGroup).Add", "internal/race.ReleaseMerge", "internal/race.Disable", "internal/race.Enable", "internal/synctest.IsInBubble", "internal/synctest.Associate[sync.WaitGroup]", "sync.fatal", "sync/atomic.OrUint64", "sync/atomic.AddUint64", "internal/race.Read", "sync/atomic.LoadUint64", "sync/atomic.StoreUint64", "internal/synctest.Disassociate[sync.WaitGroup]", "sync.runtime_Semrelease", "(*sync.WaitGroup).Done", "(*sync.WaitGroup).Wait", "internal/race.Acquire", "internal/synctest.IsAssociated[sync.WaitGroup]", "sync/atomic.CompareAndSwapUint64", "internal/race.Write", "sync.runtime_SemacquireWaitGroup"], unfollowed := true, recurses := true, leaving := true, apart := false }
def FnExactPrimePowersOfSaid : Prop := fnExactPrimePowersOfRow.holds Try.pinned (OpenSpec.ofChange fnExactPrimePowersOfSpec)

/-- ITS FALSE NEIGHBOUR: 'it returns false'. Refute it at one input. -/
def fnExactPrimePowersOfWrong : ChangeSpec := { name := "fnExactPrimePowersOf", fn := fun _ => fun
  | [d] => { results := [.lit (.bool false)], args := [d] }
  | _ => none }
def FnExactPrimePowersOfWrongFalsely : Prop := fnExactPrimePowersOfRow.holds Try.pinned (OpenSpec.ofChange fnExactPrimePowersOfWrong)

/-- 'laws.FnExactMeetsFirst': WHATEVER THE INPUT: true; the input reads as it did. -/
def fnExactMeetsFirstSpec : ChangeSpec := { name := "fnExactMeetsFirst", fn := fun _ => fun
  | [d] => { results := [.lit (.bool true)], args := [d] }
  | _ => none }
def fnExactMeetsFirstRow : OpenClaim := { program := "ytdpcabiajhfllaa", sum := "edc44f741560093e014468ee1cef49a7173e4655584191edf6334a890e6c19e7", func := "loop.example/g03204/laws.FnExactMeetsFirst", spec := "fnExactMeetsFirst", inPlace := ["(*sync.WaitGroup).Add", "internal/race.ReleaseMerge", "internal/race.Disable", "internal/race.Enable", "internal/synctest.IsInBubble", "internal/synctest.Associate[sync.WaitGroup]", "sync.fatal", "sync/atomic.OrUint64", "sync/atomic.AddUint64", "internal/race.Read", "sync/atomic.LoadUint64", "sync/atomic.StoreUint64", "internal/synctest.Disassociate[sync.WaitGroup]", "sync.runtime_Semrelease", "(*sync.WaitGroup).Done", "(*sync.WaitGroup).Wait", "internal/race.Acquire", "internal/synctest.IsAssociated[sync.WaitGroup]", "sync/atomic.CompareAndSwapUint64", "internal/race.Write", "sync.runtime_SemacquireWaitGroup"], unfollowed := true, recurses := true, leaving := true, apart := false }
def FnExactMeetsFirstSaid : Prop := fnExactMeetsFirstRow.holds Try.pinned (OpenSpec.ofChange fnExactMeetsFirstSpec)

/-- ITS FALSE NEIGHBOUR: 'it returns false'. Refute it at one input. -/
def fnExactMeetsFirstWrong : ChangeSpec := { name := "fnExactMeetsFirst", fn := fun _ => fun
  | [d] => { results := [.lit (.bool false)], args := [d] }
  | _ => none }
def FnExactMeetsFirstWrongFalsely : Prop := fnExactMeetsFirstRow.holds Try.pinned (OpenSpec.ofChange fnExactMeetsFirstWrong)

/-- 'laws.FnExactMeetsSecond': WHATEVER THE INPUT: true; the input reads as it did. -/
def fnExactMeetsSecondSpec : ChangeSpec := { name := "fnExactMeetsSecond", fn := fun _ => fun
  | [d] => { results := [.lit (.bool true)], args := [d] }
  | _ => none }
def fnExactMeetsSecondRow : OpenClaim := { program := "ytdpcabiajhfllaa", sum := "edc44f741560093e014468ee1cef49a7173e4655584191edf6334a890e6c19e7", func := "loop.example/g03204/laws.FnExactMeetsSecond", spec := "fnExactMeetsSecond", inPlace := ["(*sync.WaitGroup).Add", "internal/race.ReleaseMerge", "internal/race.Disable", "internal/race.Enable", "internal/synctest.IsInBubble", "internal/synctest.Associate[sync.WaitGroup]", "sync.fatal", "sync/atomic.OrUint64", "sync/atomic.AddUint64", "internal/race.Read", "sync/atomic.LoadUint64", "sync/atomic.StoreUint64", "internal/synctest.Disassociate[sync.WaitGroup]", "sync.runtime_Semrelease", "(*sync.WaitGroup).Done", "(*sync.WaitGroup).Wait", "internal/race.Acquire", "internal/synctest.IsAssociated[sync.WaitGroup]", "sync/atomic.CompareAndSwapUint64", "internal/race.Write", "sync.runtime_SemacquireWaitGroup"], unfollowed := true, recurses := true, leaving := true, apart := false }
def FnExactMeetsSecondSaid : Prop := fnExactMeetsSecondRow.holds Try.pinned (OpenSpec.ofChange fnExactMeetsSecondSpec)

/-- ITS FALSE NEIGHBOUR: 'it returns false'. Refute it at one input. -/
def fnExactMeetsSecondWrong : ChangeSpec := { name := "fnExactMeetsSecond", fn := fun _ => fun
  | [d] => { results := [.lit (.bool false)], args := [d] }
  | _ => none }
def FnExactMeetsSecondWrongFalsely : Prop := fnExactMeetsSecondRow.holds Try.pinned (OpenSpec.ofChange fnExactMeetsSecondWrong)

/-- 'laws.FnExactMeetsBoth': WHATEVER THE INPUT: true; the input reads as it did. -/
def fnExactMeetsBothSpec : ChangeSpec := { name := "fnExactMeetsBoth", fn := fun _ => fun
  | [d] => { results := [.lit (.bool true)], args := [d] }
  | _ => none }
def fnExactMeetsBothRow : OpenClaim := { program := "ytdpcabiajhfllaa", sum := "edc44f741560093e014468ee1cef49a7173e4655584191edf6334a890e6c19e7", func := "loop.example/g03204/laws.FnExactMeetsBoth", spec := "fnExactMeetsBoth", inPlace := ["(*sync.WaitGroup).Add", "internal/race.ReleaseMerge", "internal/race.Disable", "internal/race.Enable", "internal/synctest.IsInBubble", "internal/synctest.Associate[sync.WaitGroup]", "sync.fatal", "sync/atomic.OrUint64", "sync/atomic.AddUint64", "internal/race.Read", "sync/atomic.LoadUint64", "sync/atomic.StoreUint64", "internal/synctest.Disassociate[sync.WaitGroup]", "sync.runtime_Semrelease", "(*sync.WaitGroup).Done", "(*sync.WaitGroup).Wait", "internal/race.Acquire", "internal/synctest.IsAssociated[sync.WaitGroup]", "sync/atomic.CompareAndSwapUint64", "internal/race.Write", "sync.runtime_SemacquireWaitGroup"], unfollowed := true, recurses := true, leaving := true, apart := false }
def FnExactMeetsBothSaid : Prop := fnExactMeetsBothRow.holds Try.pinned (OpenSpec.ofChange fnExactMeetsBothSpec)

/-- ITS FALSE NEIGHBOUR: 'it returns false'. Refute it at one input. -/
def fnExactMeetsBothWrong : ChangeSpec := { name := "fnExactMeetsBoth", fn := fun _ => fun
  | [d] => { results := [.lit (.bool false)], args := [d] }
  | _ => none }
def FnExactMeetsBothWrongFalsely : Prop := fnExactMeetsBothRow.holds Try.pinned (OpenSpec.ofChange fnExactMeetsBothWrong)

/-- 'laws.FnExactStandardPartner': WHATEVER THE INPUT: true; the input reads as it did. -/
def fnExactStandardPartnerSpec : ChangeSpec := { name := "fnExactStandardPartner", fn := fun _ => fun
  | [d] => { results := [.lit (.bool true)], args := [d] }
  | _ => none }
def fnExactStandardPartnerRow : OpenClaim := { program := "ytdpcabiajhfllaa", sum := "edc44f741560093e014468ee1cef49a7173e4655584191edf6334a890e6c19e7", func := "loop.example/g03204/laws.FnExactStandardPartner", spec := "fnExactStandardPartner", inPlace := ["(*sync.WaitGroup).Add", "internal/race.ReleaseMerge", "internal/race.Disable", "internal/race.Enable", "internal/synctest.IsInBubble", "internal/synctest.Associate[sync.WaitGroup]", "sync.fatal", "sync/atomic.OrUint64", "sync/atomic.AddUint64", "internal/race.Read", "sync/atomic.LoadUint64", "sync/atomic.StoreUint64", "internal/synctest.Disassociate[sync.WaitGroup]", "sync.runtime_Semrelease", "(*sync.WaitGroup).Done", "(*sync.WaitGroup).Wait", "internal/race.Acquire", "internal/synctest.IsAssociated[sync.WaitGroup]", "sync/atomic.CompareAndSwapUint64", "internal/race.Write", "sync.runtime_SemacquireWaitGroup"], unfollowed := true, recurses := true, leaving := true, apart := false }
def FnExactStandardPartnerSaid : Prop := fnExactStandardPartnerRow.holds Try.pinned (OpenSpec.ofChange fnExactStandardPartnerSpec)

/-- ITS FALSE NEIGHBOUR: 'it returns false'. Refute it at one input. -/
def fnExactStandardPartnerWrong : ChangeSpec := { name := "fnExactStandardPartner", fn := fun _ => fun
  | [d] => { results := [.lit (.bool false)], args := [d] }
  | _ => none }
def FnExactStandardPartnerWrongFalsely : Prop := fnExactStandardPartnerRow.holds Try.pinned (OpenSpec.ofChange fnExactStandardPartnerWrong)

/-- 'laws.FnExactCountMeeting': WHATEVER THE INPUT: true; the input reads as it did. -/
def fnExactCountMeetingSpec : ChangeSpec := { name := "fnExactCountMeeting", fn := fun _ => fun
  | [d1, d2] => { results := [.lit (.bool true)], args := [d1, d2] }
  | _ => none }
def fnExactCountMeetingRow : OpenClaim := { program := "ytdpcabiajhfllaa", sum := "edc44f741560093e014468ee1cef49a7173e4655584191edf6334a890e6c19e7", func := "loop.example/g03204/laws.FnExactCountMeeting", spec := "fnExactCountMeeting", inPlace := ["(*sync.WaitGroup).Add", "internal/race.ReleaseMerge", "internal/race.Disable", "internal/race.Enable", "internal/synctest.IsInBubble", "internal/synctest.Associate[sync.WaitGroup]", "sync.fatal", "sync/atomic.OrUint64", "sync/atomic.AddUint64", "internal/race.Read", "sync/atomic.LoadUint64", "sync/atomic.StoreUint64", "internal/synctest.Disassociate[sync.WaitGroup]", "sync.runtime_Semrelease", "(*sync.WaitGroup).Done", "(*sync.WaitGroup).Wait", "internal/race.Acquire", "internal/synctest.IsAssociated[sync.WaitGroup]", "sync/atomic.CompareAndSwapUint64", "internal/race.Write", "sync.runtime_SemacquireWaitGroup"], unfollowed := true, recurses := true, leaving := true, apart := false }
def FnExactCountMeetingSaid : Prop := fnExactCountMeetingRow.holds Try.pinned (OpenSpec.ofChange fnExactCountMeetingSpec)

/-- ITS FALSE NEIGHBOUR: 'it returns false'. Refute it at one input. -/
def fnExactCountMeetingWrong : ChangeSpec := { name := "fnExactCountMeeting", fn := fun _ => fun
  | [d1, d2] => { results := [.lit (.bool false)], args := [d1, d2] }
  | _ => none }
def FnExactCountMeetingWrongFalsely : Prop := fnExactCountMeetingRow.holds Try.pinned (OpenSpec.ofChange fnExactCountMeetingWrong)

/-- 'laws.FnExactOrdersLeft': WHATEVER THE INPUT: true; the input reads as it did. -/
def fnExactOrdersLeftSpec : ChangeSpec := { name := "fnExactOrdersLeft", fn := fun _ => fun
  | [d1, d2] => { results := [.lit (.bool true)], args := [d1, d2] }
  | _ => none }
def fnExactOrdersLeftRow : OpenClaim := { program := "ytdpcabiajhfllaa", sum := "edc44f741560093e014468ee1cef49a7173e4655584191edf6334a890e6c19e7", func := "loop.example/g03204/laws.FnExactOrdersLeft", spec := "fnExactOrdersLeft", recurses := true, apart := false }
def FnExactOrdersLeftSaid : Prop := fnExactOrdersLeftRow.holds Try.pinned (OpenSpec.ofChange fnExactOrdersLeftSpec)

/-- ITS FALSE NEIGHBOUR: 'it returns false'. Refute it at one input. -/
def fnExactOrdersLeftWrong : ChangeSpec := { name := "fnExactOrdersLeft", fn := fun _ => fun
  | [d1, d2] => { results := [.lit (.bool false)], args := [d1, d2] }
  | _ => none }
def FnExactOrdersLeftWrongFalsely : Prop := fnExactOrdersLeftRow.holds Try.pinned (OpenSpec.ofChange fnExactOrdersLeftWrong)

/- THE SECOND FORM. 'bulk': how many values and letters a reading holds, each counted each time it is reached (what is shared counts as often as it is met; a slice's spare places count too). A statement '..UptoSaid' is the law's where the arguments, and the package variables that the reading takes, are together of bulk at most 1048576: NARROWER than '..Said'. Prove '..Said' where nothing that the law and all that it calls make is longer than what came in: it says more and counts as full. Else prove '..UptoSaid'. A law counts once. -/
mutual
def uptoBulk {H : Type} : DataW H → Nat
  | .lit (.string bytes) => bytes.length + 1
  | .lit _ => 1
  | .nil => 1
  | .ptr d => uptoBulk d + 1
  | .slice elems spare => uptoBulkAll elems + uptoBulkAll spare + 1
  | .agg parts => uptoBulkAll parts + 1
  | .iface _ d => uptoBulk d + 1
  | .map entries => uptoBulkEntries entries + 1
  | .held _ => 1
def uptoBulkAll {H : Type} : List (DataW H) → Nat
  | [] => 0
  | d :: r => uptoBulk d + uptoBulkAll r
def uptoBulkEntries {H : Type} : List (Lit × DataW H) → Nat
  | [] => 0
  | x :: r => uptoBulkEntry x + uptoBulkEntries r
def uptoBulkEntry {H : Type} : Lit × DataW H → Nat
  | (.string bytes, d) => bytes.length + uptoBulk d + 1
  | (_, d) => uptoBulk d + 1
 end
def uptoSmall : (H : Type) → List (DataW H) → Bool := fun _ ds => decide (uptoBulkAll ds ≤ 1048576)
def OpenSpec.upto (s : _root_.Go.ChangeSpec) : _root_.Go.OpenSpec := { _root_.Go.OpenSpec.ofChange s with cond := some uptoSmall }

/-- 'laws.FnExactPrimeOf', WHERE WHAT IT READS IS OF BULK AT MOST 1048576: true; the input reads as it did. -/
def fnExactPrimeOfUptoRow : OpenClaim := { program := "ytdpcabiajhfllaa", sum := "edc44f741560093e014468ee1cef49a7173e4655584191edf6334a890e6c19e7", func := "loop.example/g03204/laws.FnExactPrimeOf", spec := "fnExactPrimeOf", apart := false, narrowed := true }
def FnExactPrimeOfUptoSaid : Prop := fnExactPrimeOfUptoRow.holds Try.pinned (OpenSpec.upto fnExactPrimeOfSpec)

/-- 'laws.FnExactPrimePowersOf', WHERE WHAT IT READS IS OF BULK AT MOST 1048576: true; the input reads as it did. -/
def fnExactPrimePowersOfUptoRow : OpenClaim := { program := "ytdpcabiajhfllaa", sum := "edc44f741560093e014468ee1cef49a7173e4655584191edf6334a890e6c19e7", func := "loop.example/g03204/laws.FnExactPrimePowersOf", spec := "fnExactPrimePowersOf", inPlace := ["(*sync.WaitGroup).Add", "internal/race.ReleaseMerge", "internal/race.Disable", "internal/race.Enable", "internal/synctest.IsInBubble", "internal/synctest.Associate[sync.WaitGroup]", "sync.fatal", "sync/atomic.OrUint64", "sync/atomic.AddUint64", "internal/race.Read", "sync/atomic.LoadUint64", "sync/atomic.StoreUint64", "internal/synctest.Disassociate[sync.WaitGroup]", "sync.runtime_Semrelease", "(*sync.WaitGroup).Done", "(*sync.WaitGroup).Wait", "internal/race.Acquire", "internal/synctest.IsAssociated[sync.WaitGroup]", "sync/atomic.CompareAndSwapUint64", "internal/race.Write", "sync.runtime_SemacquireWaitGroup"], unfollowed := true, recurses := true, leaving := true, apart := false, narrowed := true }
def FnExactPrimePowersOfUptoSaid : Prop := fnExactPrimePowersOfUptoRow.holds Try.pinned (OpenSpec.upto fnExactPrimePowersOfSpec)

/-- 'laws.FnExactMeetsFirst', WHERE WHAT IT READS IS OF BULK AT MOST 1048576: true; the input reads as it did. -/
def fnExactMeetsFirstUptoRow : OpenClaim := { program := "ytdpcabiajhfllaa", sum := "edc44f741560093e014468ee1cef49a7173e4655584191edf6334a890e6c19e7", func := "loop.example/g03204/laws.FnExactMeetsFirst", spec := "fnExactMeetsFirst", inPlace := ["(*sync.WaitGroup).Add", "internal/race.ReleaseMerge", "internal/race.Disable", "internal/race.Enable", "internal/synctest.IsInBubble", "internal/synctest.Associate[sync.WaitGroup]", "sync.fatal", "sync/atomic.OrUint64", "sync/atomic.AddUint64", "internal/race.Read", "sync/atomic.LoadUint64", "sync/atomic.StoreUint64", "internal/synctest.Disassociate[sync.WaitGroup]", "sync.runtime_Semrelease", "(*sync.WaitGroup).Done", "(*sync.WaitGroup).Wait", "internal/race.Acquire", "internal/synctest.IsAssociated[sync.WaitGroup]", "sync/atomic.CompareAndSwapUint64", "internal/race.Write", "sync.runtime_SemacquireWaitGroup"], unfollowed := true, recurses := true, leaving := true, apart := false, narrowed := true }
def FnExactMeetsFirstUptoSaid : Prop := fnExactMeetsFirstUptoRow.holds Try.pinned (OpenSpec.upto fnExactMeetsFirstSpec)

/-- 'laws.FnExactMeetsSecond', WHERE WHAT IT READS IS OF BULK AT MOST 1048576: true; the input reads as it did. -/
def fnExactMeetsSecondUptoRow : OpenClaim := { program := "ytdpcabiajhfllaa", sum := "edc44f741560093e014468ee1cef49a7173e4655584191edf6334a890e6c19e7", func := "loop.example/g03204/laws.FnExactMeetsSecond", spec := "fnExactMeetsSecond", inPlace := ["(*sync.WaitGroup).Add", "internal/race.ReleaseMerge", "internal/race.Disable", "internal/race.Enable", "internal/synctest.IsInBubble", "internal/synctest.Associate[sync.WaitGroup]", "sync.fatal", "sync/atomic.OrUint64", "sync/atomic.AddUint64", "internal/race.Read", "sync/atomic.LoadUint64", "sync/atomic.StoreUint64", "internal/synctest.Disassociate[sync.WaitGroup]", "sync.runtime_Semrelease", "(*sync.WaitGroup).Done", "(*sync.WaitGroup).Wait", "internal/race.Acquire", "internal/synctest.IsAssociated[sync.WaitGroup]", "sync/atomic.CompareAndSwapUint64", "internal/race.Write", "sync.runtime_SemacquireWaitGroup"], unfollowed := true, recurses := true, leaving := true, apart := false, narrowed := true }
def FnExactMeetsSecondUptoSaid : Prop := fnExactMeetsSecondUptoRow.holds Try.pinned (OpenSpec.upto fnExactMeetsSecondSpec)

/-- 'laws.FnExactMeetsBoth', WHERE WHAT IT READS IS OF BULK AT MOST 1048576: true; the input reads as it did. -/
def fnExactMeetsBothUptoRow : OpenClaim := { program := "ytdpcabiajhfllaa", sum := "edc44f741560093e014468ee1cef49a7173e4655584191edf6334a890e6c19e7", func := "loop.example/g03204/laws.FnExactMeetsBoth", spec := "fnExactMeetsBoth", inPlace := ["(*sync.WaitGroup).Add", "internal/race.ReleaseMerge", "internal/race.Disable", "internal/race.Enable", "internal/synctest.IsInBubble", "internal/synctest.Associate[sync.WaitGroup]", "sync.fatal", "sync/atomic.OrUint64", "sync/atomic.AddUint64", "internal/race.Read", "sync/atomic.LoadUint64", "sync/atomic.StoreUint64", "internal/synctest.Disassociate[sync.WaitGroup]", "sync.runtime_Semrelease", "(*sync.WaitGroup).Done", "(*sync.WaitGroup).Wait", "internal/race.Acquire", "internal/synctest.IsAssociated[sync.WaitGroup]", "sync/atomic.CompareAndSwapUint64", "internal/race.Write", "sync.runtime_SemacquireWaitGroup"], unfollowed := true, recurses := true, leaving := true, apart := false, narrowed := true }
def FnExactMeetsBothUptoSaid : Prop := fnExactMeetsBothUptoRow.holds Try.pinned (OpenSpec.upto fnExactMeetsBothSpec)

/-- 'laws.FnExactStandardPartner', WHERE WHAT IT READS IS OF BULK AT MOST 1048576: true; the input reads as it did. -/
def fnExactStandardPartnerUptoRow : OpenClaim := { program := "ytdpcabiajhfllaa", sum := "edc44f741560093e014468ee1cef49a7173e4655584191edf6334a890e6c19e7", func := "loop.example/g03204/laws.FnExactStandardPartner", spec := "fnExactStandardPartner", inPlace := ["(*sync.WaitGroup).Add", "internal/race.ReleaseMerge", "internal/race.Disable", "internal/race.Enable", "internal/synctest.IsInBubble", "internal/synctest.Associate[sync.WaitGroup]", "sync.fatal", "sync/atomic.OrUint64", "sync/atomic.AddUint64", "internal/race.Read", "sync/atomic.LoadUint64", "sync/atomic.StoreUint64", "internal/synctest.Disassociate[sync.WaitGroup]", "sync.runtime_Semrelease", "(*sync.WaitGroup).Done", "(*sync.WaitGroup).Wait", "internal/race.Acquire", "internal/synctest.IsAssociated[sync.WaitGroup]", "sync/atomic.CompareAndSwapUint64", "internal/race.Write", "sync.runtime_SemacquireWaitGroup"], unfollowed := true, recurses := true, leaving := true, apart := false, narrowed := true }
def FnExactStandardPartnerUptoSaid : Prop := fnExactStandardPartnerUptoRow.holds Try.pinned (OpenSpec.upto fnExactStandardPartnerSpec)

/-- 'laws.FnExactCountMeeting', WHERE WHAT IT READS IS OF BULK AT MOST 1048576: true; the input reads as it did. -/
def fnExactCountMeetingUptoRow : OpenClaim := { program := "ytdpcabiajhfllaa", sum := "edc44f741560093e014468ee1cef49a7173e4655584191edf6334a890e6c19e7", func := "loop.example/g03204/laws.FnExactCountMeeting", spec := "fnExactCountMeeting", inPlace := ["(*sync.WaitGroup).Add", "internal/race.ReleaseMerge", "internal/race.Disable", "internal/race.Enable", "internal/synctest.IsInBubble", "internal/synctest.Associate[sync.WaitGroup]", "sync.fatal", "sync/atomic.OrUint64", "sync/atomic.AddUint64", "internal/race.Read", "sync/atomic.LoadUint64", "sync/atomic.StoreUint64", "internal/synctest.Disassociate[sync.WaitGroup]", "sync.runtime_Semrelease", "(*sync.WaitGroup).Done", "(*sync.WaitGroup).Wait", "internal/race.Acquire", "internal/synctest.IsAssociated[sync.WaitGroup]", "sync/atomic.CompareAndSwapUint64", "internal/race.Write", "sync.runtime_SemacquireWaitGroup"], unfollowed := true, recurses := true, leaving := true, apart := false, narrowed := true }
def FnExactCountMeetingUptoSaid : Prop := fnExactCountMeetingUptoRow.holds Try.pinned (OpenSpec.upto fnExactCountMeetingSpec)

/-- 'laws.FnExactOrdersLeft', WHERE WHAT IT READS IS OF BULK AT MOST 1048576: true; the input reads as it did. -/
def fnExactOrdersLeftUptoRow : OpenClaim := { program := "ytdpcabiajhfllaa", sum := "edc44f741560093e014468ee1cef49a7173e4655584191edf6334a890e6c19e7", func := "loop.example/g03204/laws.FnExactOrdersLeft", spec := "fnExactOrdersLeft", recurses := true, apart := false, narrowed := true }
def FnExactOrdersLeftUptoSaid : Prop := fnExactOrdersLeftUptoRow.holds Try.pinned (OpenSpec.upto fnExactOrdersLeftSpec)

end Rows
end Go.Proofs.Ytdpcabiajhfllaa
