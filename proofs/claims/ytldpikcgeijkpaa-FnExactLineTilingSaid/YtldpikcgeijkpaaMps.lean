/-
  Helpers of the claims beside this text: the program's maps: differences counted, numbers seen.
-/
import Derived.Test.YtldpikcgeijkpaaRhy
import Derived.Maps.OwnOps
import Derived.Maps.OwnSet
import Derived.Maps.RangeWalk
import Derived.DeepKeys4
import Derived.WideKeyEntry
namespace Go.Proofs.Ytldpikcgeijkpaa.Rhy
open Go.RowKit Go.Maps
set_option linter.unusedVariables false
set_option linter.unusedSimpArgs false
set_option maxRecDepth 100000

/-! ### a struct of two ints as a key -/
/-- A difference as a value. -/
def difV (n : Int) (p : Nat) : Value := .agg #[.int .i64 n, .int .i64 p]
theorem laidOutM : laidOutB Try.prog = true := by kernel_rfl

theorem sizeD : 1 ≤ Try.prog.types.size := of_decide_eq_true (by kernel_rfl)



theorem lawN : Keyed Try.prog 3 := int_keyed Try.underlying3
theorem zeroN (w : World) : (zeroValue 3).run Try.prog w = .ok (.int .i64 0) w := by kernel_rfl
theorem zeroB (w : World) : (zeroValue 4).run Try.prog w = .ok (.bool false) w := by kernel_rfl
theorem wfi {a : Int} (h : -9223372036854775808 ≤ a ∧ a ≤ 9223372036854775807) : (Lit.int .i64 a).wf = true := WalkArith.wf_i64 h

theorem lits_int {P : Program} {d : Nat} {e : TypeId} (he : P.underlying e = some (.int .i64)) {x : Int} (wx : (Lit.int .i64 x).wf = true) : P.keyLits (d + 1) e [.int .i64 x] = some [.int .i64 x] := by
  unfold Program.keyLits
  rw [he]
  simp only [wx, and_self, if_true]
theorem lits_pair {P : Program} {d : Nat} {k e : TypeId} {f g : Field} (hk : P.underlying k = some (.struct #[f, g])) (he : P.underlying e = some (.int .i64)) (ck : P.cellsOf k = 2) (ce : P.cellsOf e = 1)
    (hf : f.type = e ∧ f.offset = 0 ∧ (f.name != "_") = true) (hg : g.type = e ∧ g.offset = 1 ∧ (g.name != "_") = true) {x y : Int} (wx : (Lit.int .i64 x).wf = true) (wy : (Lit.int .i64 y).wf = true) :
    P.keyLits (d + 1 + 1) k [.int .i64 x, .int .i64 y] = some [.int .i64 x, .int .i64 y] := by
  obtain ⟨f1, f2, f3⟩ := hf
  obtain ⟨g1, g2, g3⟩ := hg
  have e1 : P.keyLits (d + 1) e [.int .i64 x] = some [.int .i64 x] := lits_int he wx
  have e2 : P.keyLits (d + 1) e [.int .i64 y] = some [.int .i64 y] := lits_int he wy
  unfold Program.keyLits
  rw [hk]
  simp [ck, ce, f1, f2, f3, g1, g2, g3, e1, e2]













/-- One more. -/
def upd (f : Nat → Nat) (p c : Nat) (q : Nat) : Nat := if q = p then c else f q



theorem setBlock_inj {w : World} {b : Nat} {o o' : Obj} (hb : b < w.heap.size) (h : ChangeMaps.setBlock w b o = ChangeMaps.setBlock w b o') : o = o' := by
  have h1 : (ChangeMaps.setBlock w b o).heap[b]? = (ChangeMaps.setBlock w b o').heap[b]? := by rw [h]
  simpa [ChangeMaps.setBlock, hb] using h1
theorem ownsMap_same {H : Type} {P : Program} {k : TypeId} {R : Value → Option (DataW H × List MemPlace)} {w w' : World} {b n : Nat} {D : DataW H} (h : w.ownsMap P k R b n D) (e : w'.heap[b]? = w.heap[b]?) : w'.ownsMap P k R b n D := by
  obtain ⟨es, clock, hb, r⟩ := h
  exact ⟨es, clock, e.trans hb, r⟩
theorem upd_self {f : Nat → Nat} {p : Nat} (h : f p = 0) : upd f p 0 = f := by
  funext q
  unfold upd
  split
  · rename_i e; rw [e, h]
  · rfl











/-! ### numbers seen: map[int]bool -/
/-- The map in block b holds true at the numbers of L, nothing else. -/
def Seen (w : World) (b m : Nat) (L : List Int) : Prop :=
  ∃ D : DataW Unit, w.ownsMap Try.prog 3 (plainElem Try.prog 4) b m D ∧ ∀ z : Int, D.atKey (.int .i64 z) (.lit (.bool false)) = .lit (.bool (decide (z ∈ L)))
theorem Seen.made (w : World) : Seen (w.alloc (.map #[] 0)) w.heap.size 0 [] := ⟨.map [], World.ownsMap_made _ _ _ _, fun z => by rw [atKey_of_not_has (by rfl)]; simp⟩
theorem Seen.lt {w : World} {b m : Nat} {L : List Int} (h : Seen w b m L) : b < w.heap.size := by obtain ⟨D, h, _⟩ := h; exact h.lt
theorem Seen.kept {w w' : World} {b m : Nat} {L : List Int} (h : Seen w b m L) {row : Option Nat} (hg : w.grownBy w' row) (hne : some b ≠ row) : Seen w' b m L := by
  obtain ⟨D, h, h2⟩ := h
  exact ⟨D, h.kept hg hne, h2⟩
theorem Seen.below {w w' : World} {b m : Nat} {L : List Int} (h : Seen w b m L) (hb : Below w.heap.size w w') : Seen w' b m L := h.kept (grown_of_below hb none) (by simp)
theorem plainElem_bool_inv {H : Type} {P : Program} {e : TypeId} (he : P.underlying e = some .bool) {v : Value} {z : DataW H × List MemPlace} (h : plainElem P e v = some z) : ∃ x, v = .bool x ∧ z = (.lit (.bool x), []) := by
  unfold plainElem at h
  rw [he] at h
  cases v <;> simp at h
  exact ⟨_, rfl, h.symm⟩
section
variable (w : World) {ops : Array Oper} {rest : List Oper} {o : Oper} {a : Act} {Q : Exit → Act → World → Prop}
theorem wpList_lookup_seen (hg : o.guard = none) (x y : Operand) (t : TypeId) (hop : o.op = Op.lookup t x y false) (ht : Try.prog.underlying t = some (.map 3 4)) (b m : Nat) (L : List Int) (z : Int) (hz : -9223372036854775808 ≤ z ∧ z ≤ 9223372036854775807)
    (hm : a.eval x = .map (some b)) (hc : Seen w b m L) (hx : a.eval y = .int .i64 z) (hK : wpList Try.prog ops Q rest (a.put o.dst (.bool (decide (z ∈ L)))) w) : wpList Try.prog ops Q (o :: rest) a w := by
  obtain ⟨D, hown, h1⟩ := hc
  refine wpList_plain hg fun K' hK' => ?_
  obtain ⟨v, ps, hrun, hv⟩ := hown.lookup lawN ht (zeroB w) (plainElem_bool Try.underlying4 false) (keyOf_int_mk Try.underlying3 (wfi hz))
  rw [h1 z] at hv
  obtain ⟨x', rfl, hx'⟩ := plainElem_bool_inv Try.underlying4 hv
  obtain rfl : decide (z ∈ L) = x' := by
    injection hx' with e1 _; injection e1 with e2; injection e2
  unfold Oper.wp
  simp [execOp, hop, hm, hx, hrun, Result.andThen]
  exact hK' _ _ hK
theorem wpList_store_seen (hg : o.guard = none) (x y v : Operand) (t : TypeId) (hop : o.op = Op.mapUpdate t x y v) (ht : Try.prog.underlying t = some (.map 3 4)) (b m : Nat) (hmm : m ≤ 1000000) (L : List Int) (z : Int) (hz : -9223372036854775808 ≤ z ∧ z ≤ 9223372036854775807)
    (hm : a.eval x = .map (some b)) (hc : Seen w b m L) (hx : a.eval y = .int .i64 z) (hv : a.eval v = .bool true) (hK : ∀ w', Seen w' b (m + 1) (L ++ [z]) → w.grownBy w' (some b) → wpList Try.prog ops Q rest (a.put o.dst undef) w') : wpList Try.prog ops Q (o :: rest) a w := by
  obtain ⟨D, hown, h1⟩ := hc
  have hkey := keyOf_int_mk Try.underlying3 (wfi hz)
  refine wpList_mapUpdate_own w hg x y v t hop _ _ lawN ht _ b m D hm hown (by unfold maxLen; omega) _ _ _ hx hv hkey _ [] (plainElem_bool Try.underlying4 true) fun w' hown' hgr => ?_
  refine hK w' ⟨_, hown', fun q => ?_⟩ hgr
  by_cases e : q = z
  · subst e
    rw [atKey_put_same (hown.tidy lawN).isMap (lawN.key hkey)]
    simp
  · rw [atKey_put_other (fun e2 => e (by injection e2)), h1 q]
    simp [e]
end
end Go.Proofs.Ytldpikcgeijkpaa.Rhy
