/-
  Helpers of the claims beside this text: the program's rotations, the last of some rhythms in the order of texts, the least rotation.
-/
import Derived.Test.YtgmhdmhnedljcaaItm
import Derived.Test.YtgmhdmhnedljcaaFma
import Derived.Test.YtgmhdmhnedljcaaFmt
import Derived.Test.YtgmhdmhnedljcaaLst
namespace Go.Proofs.Ytgmhdmhnedljcaa.Rhy
open Go.RowKit
set_option linter.unusedVariables false

/-- The turns by 0 up to k, in a list of the call's own. -/
def RotsAt (n : Nat) (zs : List Int) (k : Nat) (w1 wr : World) (v : Value) : Prop :=
  ∃ av cv L, v = .slice av k cv ∧ Items wr w1.heap.size (.slice av k cv) L ∧ vals L = (rotsP n zs k).map (fun z => ((n : Int), z)) ∧ Below w1.heap.size w1 wr ∧ w1.heap.size ≤ wr.heap.size
theorem rots_snoc {n : Nat} {zs : List Int} {k : Nat} {L : List Item} {r : Item} (h : vals L = (rotsP n zs k).map (fun z => ((n : Int), z))) (hs : r.s = n) (hz : r.zs = rotZ n zs 1 k) : vals (L ++ [r]) = (rotsP n zs (k + 1)).map (fun z => ((n : Int), z)) := by
  rw [rotsP_succ, List.map_append, ← h]
  simp [vals, hs, hz]



theorem exec_gtr {a : Act} {o : Oper} {x y : Operand} {t r : TypeId} (ho : o.op = .binOp .gtr t x y r) {n : Nat} {xs ys : List Int} (hx : a.eval x = .string (fmtT n xs)) (hy : a.eval y = .string (fmtT n ys)) (w : World) :
    (execOp a.eval o).run Try.prog w = .ok (.value (.bool (afterB n xs ys))) w := by
  have h := text_after n xs ys
  unfold execOp
  simp only [ho, hx, hy, binOp_string_gtr, h]
  simp [eqGuard]

/-- What lastByText leaves: one of the list, as it lies there. -/
def LastPost (n : Nat) (L : List Item) (w : World) (e : Ending) (w' : World) : Prop :=
  ∃ (j : Nat) (r : Item), L[j]? = some r ∧ e = .returned (rhy r.s r.a r.zs.length r.cap) ∧ r.zs = lastL n (L.map (·.zs)) ∧ Below w.heap.size w w'
def LastAt (n : Nat) (L : List Item) (k : Nat) (w wr : World) : Prop :=
  ∃ (j : Nat) (r : Item), L[j]? = some r ∧ r.zs = lastF n ((L.map (·.zs)).headD []) ((L.map (·.zs)).tail.take k) ∧ Box wr w.heap.size (.int .i64 0) (.slice none 0 0) 28 ∧ Box wr (w.heap.size + 1) (.int .i64 n) (.slice r.a r.zs.length r.cap) 28 ∧ Below w.heap.size w wr ∧ w.heap.size + 2 ≤ wr.heap.size
theorem last_start {n : Nat} {L : List Item} {x : Item} (hx : L[0]? = some x) (w : World) : LastAt n L 0 w ((w.alloc (.cells #[.int .i64 0, .slice none 0 0] 28)).alloc (.cells #[.int .i64 n, .slice x.a x.zs.length x.cap] 28)) := by
  refine ⟨0, x, hx, ?_, ?_, ?_, bel2 w _ _, by simp⟩
  · match L, hx with
    | y :: L, hx =>
      obtain rfl : y = x := by simpa using hx
      simp [lastF]
  · exact (box_new w _ _ _).keep (B := w.heap.size + 1) ((Below.refl _ _).alloc (by simp) _) (by omega)
  · have := box_new (w.alloc (.cells #[.int .i64 0, .slice none 0 0] 28)) (.int .i64 n) (.slice x.a x.zs.length x.cap) 28
    simpa using this



end Go.Proofs.Ytgmhdmhnedljcaa.Rhy

/-
  Helpers of the claims beside this text: least rotations of both sides, LeastRotation.
-/
namespace Go.Proofs.Ytgmhdmhnedljcaa.Rhy
open Go.RowKit
set_option linter.unusedVariables false

theorem vals_zs {L : List Item} {P : List (List Int)} {s : Int} (h : vals L = P.map (fun zs => (s, zs))) : L.map (·.zs) = P := by
  have := congrArg (List.map (·.2)) h
  simp only [vals, List.map_map] at this
  have e : (fun x : Item => x.zs) = ((fun x : Int × List Int => x.2) ∘ fun r : Item => (r.s, r.zs)) := rfl
  rw [e, this]
  have e2 : ((fun x : Int × List Int => x.2) ∘ fun zs => (s, zs)) = id := rfl
  rw [e2, List.map_id]
theorem vals_item {L : List Item} {P : List (List Int)} {s : Int} (h : vals L = P.map (fun zs => (s, zs))) {i : Nat} {r : Item} (hi : L[i]? = some r) : r.s = s ∧ r.zs ∈ P := by
  have := vals_at h hi
  rw [List.getElem?_map, Option.map_eq_some_iff] at this
  obtain ⟨z, hz, he⟩ := this
  simp only [Prod.mk.injEq] at he
  exact ⟨he.1.symm, he.2 ▸ List.mem_of_getElem? hz⟩
theorem rots_ok {n : Int} {zs : List Int} (ho : Ok n zs) {x : List Int} (h : x ∈ rotsZ n zs) : Ok n x := by
  unfold rotsZ rotsP at h
  rw [List.mem_map] at h
  obtain ⟨k, _, rfl⟩ := h
  exact rot_ok ho.1 _ _
theorem ok_int {n : Int} {zs : List Int} (h : Ok n zs) : AllInt zs := fun z hz => by have := ok_range h z hz; have := h.1; omega



theorem best_yes {n : Nat} {zs : List Int} {k : Nat} (h : 1 ≤ k) (ha : afterB n (rotZ n zs 1 k) (bestP n zs (k - 1)) = true) : bestP n zs k = rotZ n zs 1 k := by
  obtain ⟨j, rfl⟩ : ∃ j, k = j + 1 := ⟨k - 1, by omega⟩
  simp only [bestP, Int.toNat_natCast]
  rw [Nat.add_sub_cancel] at ha
  rw [if_pos ha]
theorem best_no {n : Nat} {zs : List Int} {k : Nat} (h : 1 ≤ k) (ha : afterB n (rotZ n zs 1 k) (bestP n zs (k - 1)) = false) : bestP n zs k = bestP n zs (k - 1) := by
  obtain ⟨j, rfl⟩ : ∃ j, k = j + 1 := ⟨k - 1, by omega⟩
  simp only [bestP, Int.toNat_natCast]
  rw [Nat.add_sub_cancel] at ha ⊢
  rw [if_neg (by rw [ha]; simp)]
theorem best_ok {n : Nat} {zs : List Int} (ho : Ok n zs) (k : Nat) : Ok n (bestP n zs k) := by
  obtain ⟨⟨j, _, e⟩, _⟩ := best_spec ho k
  rw [e]; exact rot_ok ho.1 _ _
/-- The best one so far, in a box; its row lies elsewhere. -/
def BestAt (n : Nat) (a : Option Addr) (len cap : Nat) (best : List Int) (gb : Nat) (w W0 wr : World) : Prop :=
  ∃ av cv, Two wr w.heap.size (.int .i64 n) (.slice a len cap) ∧ Box wr (w.heap.size + 1) (.int .i64 0) (.slice none 0 0) 28 ∧ Box wr gb (.int .i64 n) (.slice av best.length cv) 28 ∧
    wr.ownsRow W0.heap.size 3 1 (.slice av best.length cv) best.length (ints best) ∧ Outside gb (gb + 1) (.slice av best.length cv) ∧ Below w.heap.size w wr ∧ W0.heap.size ≤ wr.heap.size
theorem own_setCell_outside {w : World} {B : Nat} {v : Value} {n : Nat} {l : List Int} {g j : Nat} (h : w.ownsRow B 3 1 v n (ints l)) (ho : Outside g (g + 1) v) (u : Value) : (w.setCell ⟨g, j, none⟩ u).ownsRow B 3 1 v n (ints l) := by
  refine own_grown (row := some g) h ⟨rfl, rfl, rfl, by simp [World.setCell], fun k hk hne => Below.heap_setCell _ _ _ _ (by show k ≠ g; exact fun e => hne (by rw [e]))⟩ fun k hk e => ?_
  have := ho k hk
  have := Option.some.inj e
  omega
theorem two_setCell {w : World} {b : Nat} {v0 v1 : Value} (h : Two w b v0 v1) {g : Nat} (hg : b ≠ g) (j : Nat) (u : Value) : Two (w.setCell ⟨g, j, none⟩ u) b v0 v1 :=
  ⟨by simpa using h.1, by rw [World.cell?_setCell_far _ _ _ _ (by show g ≠ b; omega)]; exact h.2.1, by rw [World.cell?_setCell_far _ _ _ _ (by show g ≠ b; omega)]; exact h.2.2⟩


end Go.Proofs.Ytgmhdmhnedljcaa.Rhy
