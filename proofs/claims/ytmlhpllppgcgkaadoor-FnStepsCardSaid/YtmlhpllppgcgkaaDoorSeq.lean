/-
  Helpers of the claims beside this text: iterators: what one gives, and what a loop over one keeps.
-/
import Derived.RangeFuncNested
import Derived.RangeFuncBound
import Derived.RangeFuncCalls
import Derived.RangeFuncLeaves
import Derived.Shelf.Abstract
import Derived.Shelf.RegionOpen
import Derived.OwnWalkIn
import Derived.TacticsInMore
import Derived.LoopNIn
import Derived.LoopIn
import Derived.Maps.AppendAt
import Derived.Test.YtmlhpllppgcgkaaDoorOut
namespace Go.Proofs.YtmlhpllppgcgkaaDoor.Rhy
open Go.RowKit
set_option linter.unusedVariables false

theorem wide_fn (f : FuncId) : Fence.wide.fn f = True := rfl
theorem wide_depth : Fence.wide.depth = none := rfl

/-- What a round that goes on keeps: whatever lay below n, and the blocks between lo and hi (the iterator's own variables). -/
def Kp (n lo hi : Nat) (W W' : World) : Prop := Below n W W' ∧ Same lo hi W W'
theorem Kp.refl (n lo hi : Nat) (W : World) : Kp n lo hi W W := ⟨Below.refl _ _, Same.refl _ _ _⟩
theorem Kp.t {n lo hi : Nat} {A B C : World} (h : Kp n lo hi A B) (k : Kp n lo hi B C) : Kp n lo hi A C := ⟨h.1.trans k.1, h.2.trans k.2⟩
theorem Kp.of_below {n lo hi : Nat} {A B : World} (h : Below A.heap.size A B) (hn : n ≤ A.heap.size) (hh : hi ≤ A.heap.size) : Kp n lo hi A B := ⟨h.mono hn, Same.of_below h hh⟩
theorem Kp.b {n lo hi : Nat} {w : World} (hn : n ≤ w.heap.size) (hh : hi ≤ w.heap.size) (W : World) (l : Nat) (o o' : Obj) (hl : w.heap.size ≤ l) (h : W.heap[l]? = some o) (_ : o.isCells = false) (_ : o.isWalk = false) : Kp n lo hi W (W.putObj l o') :=
  ⟨(Below.refl n W).grown (grownBy_putObj' W l o') (by have := (Array.getElem?_eq_some_iff.1 h).1; omega) (fun k e => by cases e; omega), fun k h1 h2 => World.putObj_heap_other (by omega)⟩
theorem Kp.cell {n lo hi : Nat} {A B : World} (h : Kp n lo hi A B) {p : Addr} (h1 : lo ≤ p.block) (h2 : p.block < hi) : B.cell? p = A.cell? p := World.cell?_of_block (h.2 p.block h1 h2)
theorem Kp.set {n lo hi : Nat} (W : World) (g : Nat) (hg : n ≤ g) (hg2 : g < lo ∨ hi ≤ g) (j : Nat) (v : Value) : Kp n lo hi W (W.setCell ⟨g, j, none⟩ v) :=
  ⟨(Below.refl n W).setCell (p := ⟨g, j, none⟩) hg v, (Same.refl lo hi W).setCell g hg2 j v⟩
theorem Kp.drew (n lo hi : Nat) (W : World) : Kp n lo hi W W.drew := ⟨(Below.refl n W).drew, fun _ _ _ => rfl⟩

/-- What is no cells lies as it lay behind a call that turns nothing that was there. -/
theorem others_below {W W' : World} (h : Below W.heap.size W W') : KeepsOthers W W' := ⟨h.size, fun k o hk _ => (h.block k (Array.getElem?_eq_some_iff.1 hk).1).trans hk⟩
theorem others_drew (W : World) : KeepsOthers W W.drew := ⟨Nat.le_refl _, fun _ _ h _ => h⟩

/-- The iterator (g, lb) gives the numbers l, one after another. (A round is handed the place of a number, and so knows that it is one of l.) -/
def Gives (n lo hi : Nat) (w : World) (g : Nat) (lb : Array Value) (l : List Int) : Prop :=
  ∀ m, SeqStopsK Fence.wide m Tryd.prog g lb (fun i : Nat => #[Value.int .i64 (l[i]?.getD 0)]) (Kp n lo hi) (fun ys => ys = List.range l.length) (fun pre => pre <+: List.range l.length) l.length w
theorem Gives.later {n lo hi : Nat} {w w' : World} {g : Nat} {lb : Array Value} {l : List Int} (h : Gives n lo hi w g lb l) (hb : Below w.heap.size w w') : Gives n lo hi w' g lb l :=
  fun m k J Jx W hW => h m k J Jx W (hb.trans (hW.mono hb.size))
/-- A function of the program is entered. -/
def Enters (g : Nat) : Prop := ∀ args w, (callFunc g args).run Tryd.prog w = .ok (.enter g args) w

def valsOf (l : List Int) (is : List Nat) : List Int := is.map fun i => l[i]?.getD 0
theorem valsOf_snoc (l : List Int) (is : List Nat) (i : Nat) : valsOf l (is ++ [i]) = valsOf l is ++ [l[i]?.getD 0] := by simp [valsOf]
theorem valsOf_len (l : List Int) (is : List Nat) : (valsOf l is).length = is.length := by simp [valsOf]
theorem valsOf_all (l : List Int) : valsOf l (List.range l.length) = l := by
  apply List.ext_getElem
  · simp [valsOf]
  · intro i h1 h2
    simp [valsOf, h2]
theorem valsOf_pre {l : List Int} {is : List Nat} (h : is <+: List.range l.length) : valsOf l is <+: l := by
  have := List.IsPrefix.map (fun i => l[i]?.getD 0) h
  rw [show (List.range l.length).map (fun i => l[i]?.getD 0) = l from valsOf_all l] at this
  exact this
theorem val_mem (l : List Int) (i : Nat) : l[i]?.getD 0 ∈ l ∨ l[i]?.getD 0 = 0 := by
  cases h : l[i]? with
  | none => exact .inr rfl
  | some x => exact .inl (List.mem_of_getElem? h)

theorem range_pre {k n : Nat} (h : k ≤ n) : List.range k <+: List.range n := by
  have := List.take_prefix k (List.range n)
  rw [List.take_range, Nat.min_eq_left h] at this
  exact this

/-- A loop over an iterator. -/
theorem wp_range {g : Operand} {p : Tmp} {assign body : Code} {Q : Exit → Act → World → Prop} {a : Act} {w : World} {m n lo hi gf : Nat} {lb : Array Value} {l : List Int}
    (h1 : 1 ≤ m) (hg : a.eval g = .func (.func gf) #[] lb) (hE : Enters gf) (hG : Gives n lo hi w gf lb l) (hn : n ≤ w.heap.size) (hh : hi ≤ w.heap.size)
    (I : List Int → World → Prop) (Ix : Code → List Int → World → Prop) (hI : OwnFrom w.heap.size I) (hIx : ∀ c, OwnFrom w.heap.size (Ix c)) (h0 : I [] w) (a₁ : Int → Act)
    (hassign : ∀ (q : Nat) (x : Int) (W : World) (K : Act → World → Prop), K (a₁ x) W →
      assign.wpIn (Fence.wide.inRound q) (m - 1 - 1) Tryd.prog (Exit.then K (fun _ _ _ => False)) { tmps := a.tmps.setIfInBounds p (.int .i64 x), defers := [] } W)
    (hbody : ∀ (q : Nat) (pre : List Int) (x : Int) (W : World), I pre W → pre.length < l.length → (x ∈ l ∨ x = 0) → body.wpIn (Fence.wide.inRound q) (m - 1 - 1) Tryd.prog (ownPostG w.heap.size (Kp n lo hi) I Ix (pre ++ [x]) W) (a₁ x) W)
    (hdone : ∀ (D : Nat) (W : World), w.heap.size ≤ D → I l W → W.heap[D]? = some (.deferred (some [])) → Q .normal { a with defers := { target := .collected D, args := #[] } :: a.defers } W)
    (hstop : ∀ (D : Nat) (c : Code) (pre : List Int) (W : World), w.heap.size ≤ D → pre <+: l → Ix c pre W → W.heap[D]? = some (.deferred (some [])) → c.wpIn Fence.wide m Tryd.prog Q { a with defers := { target := .collected D, args := #[] } :: a.defers } W) :
    (Code.rangeFunc g #[p] assign body).wpIn Fence.wide m Tryd.prog Q a w := by
  refine wpIn_rangeFunc_ownG rfl h1 hg trivial hE (hG (m - 1)) (fun h k => h.t k) (Kp.b hn hh) (Below.refl _ _) (fun _ => rfl)
    (fun is W => I (valsOf l is) W) (fun c is W => Ix c (valsOf l is) W) (fun s => hI (valsOf l s)) (fun c s => hIx c (valsOf l s)) h0 (fun i => a₁ (l[i]?.getD 0)) ?_ ?_ ?_ ?_
  · intro q i W K hK
    have e : ((#[p] : Array Tmp).zip #[Value.int .i64 (l[i]?.getD 0)]).foldl (fun t (x : Tmp × Value) => t.setIfInBounds x.1 x.2) a.tmps = a.tmps.setIfInBounds p (.int .i64 (l[i]?.getD 0)) := by simp
    have h := hassign q _ W K hK
    rw [← e] at h
    exact h
  · intro q pre i W hi hlen
    have h := hbody q (valsOf l pre) (l[i]?.getD 0) W hi (by rw [valsOf_len]; exact hlen) (val_mem l i)
    rw [← valsOf_snoc] at h
    exact Go.wpIn_mono h fun e a W' hp => by cases e <;> exact hp
  · intro D xs W hD hS hi hK
    subst hS
    rw [valsOf_all] at hi
    exact hdone D W hD hi hK
  · intro D c pre W hD hS hi hK
    exact hstop D c _ W hD (valsOf_pre hS) hi hK

/-- On the way out of a function that holds one loop over an iterator. -/
theorem leave_mark {fn : Func} {tmps : Array Value} {R : Ending → World → Prop} {m D : Nat} {W : World} (v : Value) (hK : W.heap[D]? = some (.deferred (some [])))
    (hres : (results fn tmps).run Tryd.prog (W.putObj D (.deferred none)) = .ok v (W.putObj D (.deferred none))) (hR : R (.returned v) (W.putObj D (.deferred none))) :
    LeavesInM Fence.wide m Tryd.prog fn tmps R [{ target := .collected D, args := #[] }] .returning W :=
  ⟨by simp, .inl ⟨_, _, rfl, run_takeDeferred hK, ⟨v, hres, hR⟩⟩⟩
end Go.Proofs.YtmlhpllppgcgkaaDoor.Rhy
