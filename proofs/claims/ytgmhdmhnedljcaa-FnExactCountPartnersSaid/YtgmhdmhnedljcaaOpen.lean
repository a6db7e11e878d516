/-
  Helpers of the claims beside this text: a rhythm by value that comes in, opened.
-/
import Derived.Test.YtgmhdmhnedljcaaRhythm
import Derived.ProofKit
import Derived.Lib.SmallJoins
import Derived.ChangeSlices
namespace Go.Proofs.Ytgmhdmhnedljcaa.Rhy
open Go.ChangeShapes Go.WideShapes Go.RowKit Go.Joins
set_option linter.unusedVariables false

theorem own : ownKnob Try.prog.godebug = none := by kernel_rfl
theorem laidOut : laidOutB Try.prog = true := by kernel_rfl
theorem cellsR : Try.prog.cellsOf 24 = 2 := by kernel_rfl
theorem cellsI : Try.prog.cellsOf 3 = 1 := by kernel_rfl

/-- What is known of a rhythm that comes in. -/
def Opened (W : World) (s : Int) (a : Option Addr) (len : Nat) (zs : List Int) : Prop :=
  IntsAt W a len zs ∧ len ≤ 9223372036854775807 ∧ -9223372036854775808 ≤ s ∧ s ≤ 9223372036854775807

theorem ints_at {W : World} {x : Addr} {len cap : Nat} {zs : List Int} (hl : len ≤ cap) (hz : zs.length = cap) (hi : ∀ n ∈ zs, (Lit.int .i64 n).wf = true) (hcell : ∀ i, i < zs.length → W.cell? (x.add i) = some (.int .i64 (zs.getD i 0))) :
    IntsAt W (some x) len (zs.take len) := by
  refine ⟨by rw [List.length_take]; omega, fun z hz' => bounds_i64 (hi z (List.mem_of_mem_take hz')), fun hp => ?_⟩
  obtain ⟨b, off, spot⟩ := x
  have h0 := hcell 0 (by omega)
  have hspot : spot = none := by simpa [Addr.add] using World.cell?_spot h0
  subst hspot
  refine ⟨b, off, rfl, ?_, fun j z hj => ?_⟩
  · have := World.block_lt_of_cell? W _ h0
    simpa [Addr.add] using this
  · have hj1 : j < len ∧ zs[j]? = some z := by
      rw [List.getElem?_take] at hj
      split at hj
      · exact ⟨by assumption, hj⟩
      · cases hj
    rw [← Go.WideShapes.add_plain, hcell j (by omega), List.getD, hj1.2]
    rfl

theorem opened_ints {W : World} {H : Type} {enc : TypeId × Value → H} {v : Value} {fuel : Nat} {x : DataW H × List MemPlace}
    (hf : DataW.trod enc Try.prog W 0 (fun _ => true) true fuel 22 [v] = some x) :
    ∃ a len cap zs, v = .slice a len cap ∧ IntsAt W a len zs ∧ len ≤ 9223372036854775807 := by
  rcases open_ints Try.underlying22 Try.underlying3 cellsI hf with ⟨hcs, _⟩ | ⟨x, l, c, zs, hcs, _, hl, hm, hz, _, hcell, hw⟩
  · simp at hcs
    subst hcs
    exact ⟨none, 0, 0, [], rfl, ⟨rfl, (fun z h => by cases h), fun h => absurd h (by omega)⟩, by omega⟩
  · simp at hcs
    subst hcs
    have hz' : zs.length = c := by simpa using hz
    unfold maxLen at hm
    exact ⟨some x, l, c, zs.take l, rfl, ints_at hl hz' hw hcell, by omega⟩

set_option maxRecDepth 100000 in
theorem opened {W : World} {H : Type} {enc : TypeId × Value → H} {v : Value} {d : DataW H} {p : List MemPlace} {b0 : Nat} (hv : Value.okWide Try.prog W .any b0 24 v)
    (h : DataW.Trod enc Try.prog W 0 (fun _ => true) true 24 v d p) :
    ∃ s a len cap zs, v = rhy s a len cap ∧ Opened W s a len zs := by
  obtain ⟨c0, c1, y0, y1, m, rfl, rfl, rfl, hy0, hy1⟩ := open_agg2 Try.underlying24 (by kernel_rfl) cellsR hv h
  obtain ⟨s, e0, _, ws⟩ := DataW.trod_int Try.underlying3 hy0
  obtain ⟨a, len, cap, zs, e1, hi, hm⟩ := opened_ints hy1
  simp at e0
  subst e0 e1
  have := bounds_i64 ws
  exact ⟨s, a, len, cap, zs, rfl, hi, hm, this.1, this.2⟩

/-- What is known of a slice of integers that comes in. -/
def OpenedI (W : World) (a : Option Addr) (len : Nat) (zs : List Int) : Prop := IntsAt W a len zs ∧ len ≤ 9223372036854775807
set_option maxRecDepth 100000 in
theorem openedI {W : World} {H : Type} {enc : TypeId × Value → H} {v : Value} {d : DataW H} {p : List MemPlace} {b0 : Nat} (hv : Value.okWide Try.prog W .any b0 22 v)
    (h : DataW.Trod enc Try.prog W 0 (fun _ => true) true 22 v d p) :
    ∃ a len cap zs, v = .slice a len cap ∧ OpenedI W a len zs := by
  obtain ⟨a, len, cap, rfl⟩ := okWide_slice Try.underlying22 hv
  obtain ⟨fuel, hf⟩ := h
  have hf2 : DataW.trod enc Try.prog W 0 (fun _ => true) true fuel 22 [.slice a len cap] = some (d, p) := by simpa [Value.cells] using hf
  obtain ⟨a', len', cap', zs, e, hi, hm⟩ := opened_ints hf2
  simp at e
  obtain ⟨rfl, rfl, rfl⟩ := e
  exact ⟨a, len, cap, zs, rfl, hi, hm⟩
end Go.Proofs.Ytgmhdmhnedljcaa.Rhy
