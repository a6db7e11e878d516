/-
  Helpers of the claims beside this text: canons by value: what the laws' szCanon, toCanon, eqCanon, markCanon and heldCanon do; a canon that comes in.
-/
import Derived.Test.YtldpikcgeijkpaaRhythm
import Derived.Test.YtldpikcgeijkpaaApp
import Derived.Test.YtldpikcgeijkpaaOpen
namespace Go.Proofs.Ytldpikcgeijkpaa.Rhy
open Go.ChangeShapes Go.WideShapes Go.RowKit Go.Joins
set_option linter.unusedVariables false

/-- A canon by value. -/
abbrev can (s0 : Int) (a0 : Option Addr) (n0 c0 : Nat) (s1 : Int) (a1 : Option Addr) (n1 c1 : Nat) : Value := .agg #[.int .i64 s0, .slice a0 n0 c0, .int .i64 s1, .slice a1 n1 c1]
abbrev canCells (s0 : Int) (a0 : Option Addr) (n0 c0 : Nat) (s1 : Int) (a1 : Option Addr) (n1 c1 : Nat) (t : TypeId) : Obj := .cells #[.int .i64 s0, .slice a0 n0 c0, .int .i64 s1, .slice a1 n1 c1] t

/-- A box of four cells. -/
def Four (w : World) (b : Nat) (v0 v1 v2 v3 : Value) : Prop :=
  b < w.heap.size ∧ w.cell? ⟨b, 0, none⟩ = some v0 ∧ w.cell? ⟨b, 1, none⟩ = some v1 ∧ w.cell? ⟨b, 2, none⟩ = some v2 ∧ w.cell? ⟨b, 3, none⟩ = some v3
theorem Four.keep {w w' : World} {b : Nat} {v0 v1 v2 v3 : Value} (h : Four w b v0 v1 v2 v3) (hb : Below w.heap.size w w') : Four w' b v0 v1 v2 v3 := by
  obtain ⟨h0, h1, h2, h3, h4⟩ := h
  refine ⟨Nat.lt_of_lt_of_le h0 hb.size, ?_, ?_, ?_, ?_⟩
  · rw [hb.cell (p := ⟨b, 0, none⟩) h0]; exact h1
  · rw [hb.cell (p := ⟨b, 1, none⟩) h0]; exact h2
  · rw [hb.cell (p := ⟨b, 2, none⟩) h0]; exact h3
  · rw [hb.cell (p := ⟨b, 3, none⟩) h0]; exact h4
theorem Four.within {w w' : World} {b lo hi : Nat} {v0 v1 v2 v3 : Value} (h : Four w b v0 v1 v2 v3) (hb : Within lo hi w w') (hd : b < lo ∨ hi ≤ b) : Four w' b v0 v1 v2 v3 := by
  obtain ⟨h0, h1, h2, h3, h4⟩ := h
  refine ⟨Nat.lt_of_lt_of_le h0 hb.size, ?_, ?_, ?_, ?_⟩
  · rw [hb.cell h0 hd]; exact h1
  · rw [hb.cell h0 hd]; exact h2
  · rw [hb.cell h0 hd]; exact h3
  · rw [hb.cell h0 hd]; exact h4
theorem four_new (w : World) (v0 v1 v2 v3 : Value) (t : TypeId) : Four (w.alloc (.cells #[v0, v1, v2, v3] t)) w.heap.size v0 v1 v2 v3 := ⟨by simp, by simp, by simp, by simp, by simp⟩

/-- A box of four cells, whole. -/
def Bux (w : World) (b : Nat) (v0 v1 v2 v3 : Value) (t : TypeId) : Prop := w.heap[b]? = some (.cells #[v0, v1, v2, v3] t (0, 0))
theorem Bux.lt {w : World} {b : Nat} {v0 v1 v2 v3 : Value} {t : TypeId} (h : Bux w b v0 v1 v2 v3 t) : b < w.heap.size := by
  rcases Nat.lt_or_ge b w.heap.size with h' | h'
  · exact h'
  · unfold Bux at h
    rw [Array.getElem?_eq_none h'] at h
    cases h
theorem Bux.facts {w : World} {b : Nat} {v0 v1 v2 v3 : Value} {t : TypeId} (h : Bux w b v0 v1 v2 v3 t) :
    w.cell? ⟨b, 0, none⟩ = some v0 ∧ w.cell? ⟨b, 1, none⟩ = some v1 ∧ w.cell? ⟨b, 2, none⟩ = some v2 ∧ w.cell? ⟨b, 3, none⟩ = some v3 ∧
    w.frozen? ⟨b, 0, none⟩ = false ∧ w.frozen? ⟨b, 1, none⟩ = false ∧ w.frozen? ⟨b, 2, none⟩ = false ∧ w.frozen? ⟨b, 3, none⟩ = false := by
  unfold Bux at h
  refine ⟨?_, ?_, ?_, ?_, ?_, ?_, ?_, ?_⟩ <;> simp [World.cell?, World.frozen?, h]
theorem bux_new (w : World) (v0 v1 v2 v3 : Value) (t : TypeId) : Bux (w.alloc (.cells #[v0, v1, v2, v3] t)) w.heap.size v0 v1 v2 v3 t := heap_alloc_new w _
theorem Bux.keep {w w' : World} {b B : Nat} {v0 v1 v2 v3 : Value} {t : TypeId} (h : Bux w b v0 v1 v2 v3 t) (hb : Below B w w') (hB : b < B) : Bux w' b v0 v1 v2 v3 t := by
  unfold Bux
  rw [hb.block b hB]
  exact h
theorem Bux.four {w : World} {b : Nat} {v0 v1 v2 v3 : Value} {t : TypeId} (h : Bux w b v0 v1 v2 v3 t) : Four w b v0 v1 v2 v3 :=
  ⟨h.lt, h.facts.1, h.facts.2.1, h.facts.2.2.1, h.facts.2.2.2.1⟩
theorem Bux.set0 {w : World} {b : Nat} {v0 v1 v2 v3 : Value} {t : TypeId} (h : Bux w b v0 v1 v2 v3 t) (v : Value) : Bux (w.setCell ⟨b, 0, none⟩ v) b v v1 v2 v3 t := heap_setCell_same w b 0 _ _ _ h
theorem Bux.set1 {w : World} {b : Nat} {v0 v1 v2 v3 : Value} {t : TypeId} (h : Bux w b v0 v1 v2 v3 t) (v : Value) : Bux (w.setCell ⟨b, 1, none⟩ v) b v0 v v2 v3 t := heap_setCell_same w b 1 _ _ _ h
theorem Bux.set2 {w : World} {b : Nat} {v0 v1 v2 v3 : Value} {t : TypeId} (h : Bux w b v0 v1 v2 v3 t) (v : Value) : Bux (w.setCell ⟨b, 2, none⟩ v) b v0 v1 v v3 t := heap_setCell_same w b 2 _ _ _ h
theorem Bux.set3 {w : World} {b : Nat} {v0 v1 v2 v3 : Value} {t : TypeId} (h : Bux w b v0 v1 v2 v3 t) (v : Value) : Bux (w.setCell ⟨b, 3, none⟩ v) b v0 v1 v2 v t := heap_setCell_same w b 3 _ _ _ h
theorem Bux.other {w : World} {b c o : Nat} {v0 v1 v2 v3 : Value} {t : TypeId} (h : Bux w b v0 v1 v2 v3 t) (v : Value) (hc : c ≠ b) : Bux (w.setCell ⟨c, o, none⟩ v) b v0 v1 v2 v3 t := by
  unfold Bux
  rw [Below.heap_setCell _ _ _ _ (by show b ≠ c; omega)]
  exact h

/-- Two rows of the call's own, apart. -/
def RowC (w : World) (lo hi : Nat) (a0 : Option Addr) (c0 : Nat) (z0 : List Int) (a1 : Option Addr) (c1 : Nat) (z1 : List Int) : Prop :=
  ∃ l0 h0 l1 h1, lo ≤ l0 ∧ l0 ≤ h0 ∧ h0 ≤ hi ∧ lo ≤ l1 ∧ l1 ≤ h1 ∧ h1 ≤ hi ∧ (h0 ≤ l1 ∨ h1 ≤ l0) ∧ Row w l0 h0 a0 z0.length c0 z0 ∧ Row w l1 h1 a1 z1.length c1 z1
theorem RowC.of {w : World} {lo m hi : Nat} {a0 : Option Addr} {c0 : Nat} {z0 : List Int} {a1 : Option Addr} {c1 : Nat} {z1 : List Int} (h1 : lo ≤ m) (h2 : m ≤ hi) (r0 : Row w lo m a0 z0.length c0 z0) (r1 : Row w m hi a1 z1.length c1 z1) : RowC w lo hi a0 c0 z0 a1 c1 z1 :=
  ⟨lo, m, m, hi, Nat.le_refl _, h1, h2, h1, h2, Nat.le_refl _, .inl (Nat.le_refl _), r0, r1⟩
theorem RowC.of' {w : World} {lo m hi : Nat} {a0 : Option Addr} {c0 : Nat} {z0 : List Int} {a1 : Option Addr} {c1 : Nat} {z1 : List Int} (h1 : lo ≤ m) (h2 : m ≤ hi) (r1 : Row w lo m a1 z1.length c1 z1) (r0 : Row w m hi a0 z0.length c0 z0) : RowC w lo hi a0 c0 z0 a1 c1 z1 :=
  ⟨m, hi, lo, m, h1, h2, Nat.le_refl _, Nat.le_refl _, h1, h2, .inr (Nat.le_refl _), r0, r1⟩
theorem RowC.keep {w w' : World} {lo hi : Nat} {a0 : Option Addr} {c0 : Nat} {z0 : List Int} {a1 : Option Addr} {c1 : Nat} {z1 : List Int} (h : RowC w lo hi a0 c0 z0 a1 c1 z1) (hb : Below w.heap.size w w') : RowC w' lo hi a0 c0 z0 a1 c1 z1 := by
  obtain ⟨l0, h0, l1, h1, q1, q2, q3, q4, q5, q6, q7, r0, r1⟩ := h
  exact ⟨l0, h0, l1, h1, q1, q2, q3, q4, q5, q6, q7, r0.keep hb, r1.keep hb⟩
theorem RowC.within {w w' : World} {lo hi lo' hi' : Nat} {a0 : Option Addr} {c0 : Nat} {z0 : List Int} {a1 : Option Addr} {c1 : Nat} {z1 : List Int} (h : RowC w lo hi a0 c0 z0 a1 c1 z1) (hb : Within lo' hi' w w') (hd : hi ≤ lo' ∨ hi' ≤ lo) : RowC w' lo hi a0 c0 z0 a1 c1 z1 := by
  obtain ⟨l0, h0, l1, h1, q1, q2, q3, q4, q5, q6, q7, r0, r1⟩ := h
  exact ⟨l0, h0, l1, h1, q1, q2, q3, q4, q5, q6, q7, r0.within hb (by omega), r1.within hb (by omega)⟩
theorem RowC.at0 {w : World} {lo hi : Nat} {a0 : Option Addr} {c0 : Nat} {z0 : List Int} {a1 : Option Addr} {c1 : Nat} {z1 : List Int} (h : RowC w lo hi a0 c0 z0 a1 c1 z1) (hi : AllInt z0) : IntsAt w a0 z0.length z0 := by
  obtain ⟨l0, h0, l1, h1, q1, q2, q3, q4, q5, q6, q7, r0, r1⟩ := h
  exact r0.at hi
theorem RowC.at1 {w : World} {lo hi : Nat} {a0 : Option Addr} {c0 : Nat} {z0 : List Int} {a1 : Option Addr} {c1 : Nat} {z1 : List Int} (h : RowC w lo hi a0 c0 z0 a1 c1 z1) (hi : AllInt z1) : IntsAt w a1 z1.length z1 := by
  obtain ⟨l0, h0, l1, h1, q1, q2, q3, q4, q5, q6, q7, r0, r1⟩ := h
  exact r1.at hi
theorem RowC.lo {w : World} {lo lo' hi : Nat} {a0 : Option Addr} {c0 : Nat} {z0 : List Int} {a1 : Option Addr} {c1 : Nat} {z1 : List Int} (h : RowC w lo hi a0 c0 z0 a1 c1 z1) (hl : lo' ≤ lo) : RowC w lo' hi a0 c0 z0 a1 c1 z1 := by
  obtain ⟨l0, h0, l1, h1, q1, q2, q3, q4, q5, q6, q7, r0, r1⟩ := h
  exact ⟨l0, h0, l1, h1, by omega, q2, q3, by omega, q5, q6, q7, r0, r1⟩
theorem rowC_nil (w : World) (lo hi : Nat) (h : lo ≤ hi) (hw : hi ≤ w.heap.size) : RowC w lo hi none 0 [] none 0 [] :=
  RowC.of (m := lo) (Nat.le_refl _) h ⟨World.ownsRow_nil _ _ _ _, (fun k hk => by simp [Value.ownBlock] at hk), by omega⟩ ⟨World.ownsRow_nil _ _ _ _, (fun k hk => by simp [Value.ownBlock] at hk), hw⟩


/-- A canon of the call's own. -/
def CanPost (s0 : Int) (z0 : List Int) (s1 : Int) (z1 : List Int) (w : World) (e : Ending) (w' : World) : Prop :=
  ∃ a0 c0 a1 c1, e = .returned (can s0 a0 z0.length c0 s1 a1 z1.length c1) ∧ RowC w' w.heap.size w'.heap.size a0 c0 z0 a1 c1 z1 ∧ Below w.heap.size w w'
/-- A canon of the call's own, and a bool. -/
def CanBPost (s0 : Int) (z0 : List Int) (s1 : Int) (z1 : List Int) (ok : Bool) (w : World) (e : Ending) (w' : World) : Prop :=
  ∃ a0 c0 a1 c1, e = .returned (.tuple #[can s0 a0 z0.length c0 s1 a1 z1.length c1, .bool ok]) ∧ RowC w' w.heap.size w'.heap.size a0 c0 z0 a1 c1 z1 ∧ Below w.heap.size w w'


theorem within_wide {lo hi lo' hi' : Nat} {a b : World} (h : Within lo hi a b) (h1 : lo' ≤ lo) (h2 : hi ≤ hi') : Within lo' hi' a b :=
  ⟨h.os, h.tape, h.output, h.size, fun k hk ho => h.block k hk (by omega)⟩





theorem array4' {α : Type} {cs : Array α} (h : cs.size = 4) : ∃ c0 c1 c2 c3, cs = #[c0, c1, c2, c3] := by
  obtain ⟨l⟩ := cs
  match l, h with
  | [c0, c1, c2, c3], _ => exact ⟨c0, c1, c2, c3, rfl⟩
def OpenedC (W : World) (s0 : Int) (a0 : Option Addr) (n0 : Nat) (z0 : List Int) (s1 : Int) (a1 : Option Addr) (n1 : Nat) (z1 : List Int) : Prop :=
  Opened W s0 a0 n0 z0 ∧ Opened W s1 a1 n1 z1


end Go.Proofs.Ytldpikcgeijkpaa.Rhy
