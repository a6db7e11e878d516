/-
  Helpers of the claims beside this text: what an operation asks of the world, read off its meaning: no word of the library's to a race detector, no call of the outside world.
-/
import Derived.Conc.Neutral
import Derived.Conc.Machine
import Derived.Conc.Own
import Derived.Conc.Listed
namespace Go.Proofs.Ytgmhdmhnedljcaa.Co
open Go Go.Conc
set_option linter.unusedSimpArgs false
set_option linter.unusedVariables false

/-- An end that neither blocks nor waits nor ends the goroutine or the program. -/
def okHalt (P : Program) : Halt → Prop
  | .panic _ | .unsupported (.unsafePointer _) | .stuck _ => True
  | .unsupported (.initOrder g) => P.stepOf g = none
  | .unsupported _ => True
  | _ => False

/-- No variable that waits to be initialized. -/
def isCells : Obj → Prop
  | .pending .. => False
  | _ => True

/-- It speaks no word but 'noRoom', calls nothing outside; what it ends with is in L. -/
def Calm (P : Program) {α : Type} (L : α → Prop) : Sem α → Prop
  | .pure a => L a
  | .load _ _ k => ∀ v, Calm P L (k v)
  | .store _ _ _ k => Calm P L k
  | .new o k => isCells o ∧ ∀ r, Calm P L (k r)
  | .shape _ k => ∀ s, Calm P L (k s)
  | .freeze _ _ k => Calm P L k
  | .frozen _ k => ∀ b, Calm P L (k b)
  | .getObj _ k => ∀ o, Calm P L (k o)
  | .setObj _ _ _ => False
  | .choose _ k => ∀ n, Calm P L (k n)
  | .sys _ _ => False
  | .program k => Calm P L (k P)
  | .mark m k => Neutral m ∧ Calm P L k
  | .halt h => okHalt P h

section
variable {P : Program} {α β : Type} {L : α → Prop} {M : β → Prop}
theorem calm_pure {a : α} (h : L a) : Calm P L (pure a) := h
theorem calm_ok (a : α) : Calm P (fun _ => True) (pure a : Sem α) := trivial
theorem calm_halt {h : Halt} (k : okHalt P h) : Calm P L (.halt h) := k
theorem calm_bindS {x : Sem β} {f : β → Sem α} (h : Calm P M x) (k : ∀ b, M b → Calm P L (f b)) : Calm P L (x.bind f) := by
  induction x with
  | pure a => exact k a h
  | load m a c ih => exact fun v => ih v (h v)
  | store m a v c ih => exact ih h
  | new o c ih => exact ⟨h.1, fun r => ih r (h.2 r)⟩
  | shape r c ih => exact fun s => ih s (h s)
  | freeze a n c ih => exact ih h
  | frozen a c ih => exact fun b => ih b (h b)
  | getObj r c ih => exact fun o => ih o (h o)
  | setObj r o c ih => exact h.elim
  | choose q c ih => exact fun n => ih n (h n)
  | sys c k => exact h.elim
  | program c ih => exact ih P h
  | mark m c ih => exact ⟨h.1, ih h.2⟩
  | halt h' => exact h
theorem calm_bind {x : Sem β} {f : β → Sem α} (h : Calm P (fun _ => True) x) (k : ∀ b, Calm P L (f b)) : Calm P L (x >>= f) := calm_bindS h fun b _ => k b
theorem calm_bindL {x : Sem β} {f : β → Sem α} (h : Calm P M x) (k : ∀ b, M b → Calm P L (f b)) : Calm P L (x >>= f) := calm_bindS h k
theorem calm_map {x : Sem β} {f : β → α} (h : Calm P (fun _ => True) x) (k : ∀ b, L (f b)) : Calm P L (f <$> x) := calm_bindS h fun b _ => k b
theorem calm_mono {L' : α → Prop} {x : Sem α} (h : Calm P L x) (k : ∀ a, L a → L' a) : Calm P L' x := by
  induction x with
  | pure a => exact k a h
  | load m a c ih => exact fun v => ih v (h v)
  | store m a v c ih => exact ih h
  | new o c ih => exact ⟨h.1, fun r => ih r (h.2 r)⟩
  | shape r c ih => exact fun s => ih s (h s)
  | freeze a n c ih => exact ih h
  | frozen a c ih => exact fun b => ih b (h b)
  | getObj r c ih => exact fun o => ih o (h o)
  | setObj r o c ih => exact h.elim
  | choose q c ih => exact fun n => ih n (h n)
  | sys c k => exact h.elim
  | program c ih => exact ih P h
  | mark m c ih => exact ⟨h.1, ih h.2⟩
  | halt h' => exact h
end


section
variable {P : Program} {α : Type} {L : α → Prop}
theorem calm_newObj (o : Obj) (h : isCells o) : Calm P (fun _ => True) (newObj o) := ⟨h, fun _ => trivial⟩
theorem calm_stuck (s : String) : Calm P L (stuck s) := trivial
theorem calm_unsupported (u : Unsupported) (h : okHalt P (.unsupported u)) : Calm P L (unsupported u) := h
theorem calm_load (a : Addr) (m : Mode) : Calm P (fun _ => True) (load a m) := fun _ => trivial
theorem calm_store (a : Addr) (v : Value) (m : Mode) : Calm P (fun _ => True) (store a v m) := trivial
theorem calm_typeInfo (t : TypeId) : Calm P (fun _ => True) (typeInfo t) := by unfold typeInfo program; (repeat' (first | assumption | exact trivial | exact calm_pure trivial | (refine calm_pure ?_; first | exact trivial | assumption) | exact calm_halt trivial | refine calm_map ?_ (fun _ => ?_) | refine calm_bind ?_ (fun _ => ?_) | intro _ | split))
theorem calm_underlying (t : TypeId) : Calm P (fun _ => True) (underlying t) := by unfold underlying; (repeat' (first | assumption | exact trivial | exact calm_pure trivial | (refine calm_pure ?_; first | exact trivial | assumption) | exact calm_halt trivial | refine calm_map ?_ (fun _ => ?_) | refine calm_bind ?_ (fun _ => ?_) | intro _ | split))
end
end Go.Proofs.Ytgmhdmhnedljcaa.Co

/-
  Helpers of the claims beside this text: an operation reads the tape from its place on; on another tape that says the same there it does the same.
-/
namespace Go.Proofs.Ytgmhdmhnedljcaa.Co
open Go Go.Conc
set_option linter.unusedSimpArgs false
set_option linter.unusedVariables false

/-- The same world before another tape. -/
def tp (w : World) (T : Nat → Question → Nat) (d : Nat) : World := { w with tape := T, drawn := d }
@[simp] theorem tp_heap (w : World) (T : Nat → Question → Nat) (d : Nat) : (tp w T d).heap = w.heap := rfl
@[simp] theorem tp_cell (w : World) (T : Nat → Question → Nat) (d : Nat) (a : Addr) : (tp w T d).cell? a = w.cell? a := rfl
@[simp] theorem tp_frozen (w : World) (T : Nat → Question → Nat) (d : Nat) (a : Addr) : (tp w T d).frozen? a = w.frozen? a := rfl
@[simp] theorem tp_shape (w : World) (T : Nat → Question → Nat) (d : Nat) (r : Nat) : (tp w T d).shape? r = w.shape? r := rfl
@[simp] theorem tp_farLoad (P : Program) (w : World) (T : Nat → Question → Nat) (d : Nat) (a : Addr) (m : Bool) : (tp w T d).farLoad P a m = w.farLoad P a m := rfl
theorem tp_set (w : World) (T : Nat → Question → Nat) (d : Nat) (a : Addr) (v : Value) : (tp w T d).setCell a v = tp (w.setCell a v) T d := rfl
theorem tp_freeze (w : World) (T : Nat → Question → Nat) (d : Nat) (a : Addr) (n : Nat) : (tp w T d).freeze a n = tp (w.freeze a n) T d := by
  unfold World.freeze
  split <;> rfl
theorem tp_viewStore (P : Program) (w : World) (T : Nat → Question → Nat) (d : Nat) (at_ : Addr) (u : TypeId) (a : Addr) (v : Value) (m : Bool) :
    (tp w T d).viewStore P at_ u a v m = (w.viewStore P at_ u a v m).map fun x => (tp x.1 T d, x.2) := by
  have hs : (tp w T d).seen P at_ u a m = w.seen P at_ u a m := rfl
  unfold World.viewStore
  rw [hs]
  by_cases ht : tight P P.depth u
  · simp only [ht, Bool.not_true, if_false, Bool.false_eq_true, bind, Except.bind, pure, Except.pure]
    cases w.seen P at_ u a m with
    | error e => rfl
    | ok x =>
      obtain ⟨c, e, fz, first, like, cells⟩ := x
      dsimp only
      cases v.bytes? with
      | none => rfl
      | some bs =>
        dsimp only
        split
        · rfl
        · split <;> rfl
  · have ht' : tight P P.depth u = false := by simpa using ht
    simp only [ht', Bool.not_false, if_true]
    rfl
theorem tp_farStore (P : Program) (w : World) (T : Nat → Question → Nat) (d : Nat) (a : Addr) (v : Value) (m : Bool) :
    (tp w T d).farStore P a v m = (w.farStore P a v m).map fun x => (tp x.1 T d, x.2) := by
  unfold World.farStore
  rw [tp_heap]
  cases w.heap[a.block]? with
  | none => rfl
  | some o =>
    cases o <;> first | rfl | skip
    dsimp only
    rw [tp_viewStore]
    cases w.viewStore P _ _ a v m <;> rfl
/-- The world that a result leaves. -/
def wOf {α : Type} : Result α → World
  | .ok _ w => w
  | .halt _ w => w
def tpR {α : Type} (T : Nat → Question → Nat) (d : Nat) : Result α → Result α
  | .ok a w => .ok a (tp w T d)
  | .halt h w => .halt h (tp w T d)
/-- It draws k times; on a tape that says the same at these places it does the same. -/
def Same1 {α : Type} (P : Program) (s : Sem α) (w : World) (es : Array Event) : Prop :=
  ∃ k, (wOf (s.runT P w es).1).drawn = w.drawn + k ∧ (wOf (s.runT P w es).1).tape = w.tape ∧
    ∀ T d, (∀ i q, i < k → T (d + i) q = w.tape (w.drawn + i) q) → s.runT P (tp w T d) es = (tpR T (d + k) (s.runT P w es).1, (s.runT P w es).2)
section
variable {P : Program} {α : Type} {L : α → Prop}
theorem far_tape {w w' : World} {a : Addr} {v : Value} {m : Bool} {l : List Addr} (h : w.farStore P a v m = .ok (w', l)) : w'.tape = w.tape ∧ w'.drawn = w.drawn := by
  have e := tp_farStore P w w.tape w.drawn a v m
  rw [show tp w w.tape w.drawn = w from rfl, h] at e
  have e2 : (w', l) = (tp w' w.tape w.drawn, l) := by simpa [Except.map] using e
  have e3 : w' = tp w' w.tape w.drawn := (Prod.mk.inj e2).1
  rw [e3]
  exact ⟨rfl, rfl⟩
theorem far_same {k : Sem α} (hc : Calm P L k) (ih : Calm P L k → ∀ (w : World) (es : Array Event), Same1 P k w es) (w : World) (a : Addr) (v : Value) (m : Bool) (es : Array Event) :
    ∃ q, (wOf (match w.farStore P a v m with
        | .ok (w', touched) => k.runT P w' (es ++ touched.toArray.map (fun c => (⟨.cell c, true, m⟩ : Event)))
        | .error h => (.halt h w, es)).1).drawn = w.drawn + q ∧
      (wOf (match w.farStore P a v m with
        | .ok (w', touched) => k.runT P w' (es ++ touched.toArray.map (fun c => (⟨.cell c, true, m⟩ : Event)))
        | .error h => (.halt h w, es)).1).tape = w.tape ∧
      ∀ T d, (∀ i q', i < q → T (d + i) q' = w.tape (w.drawn + i) q') →
        (match (w.farStore P a v m).map fun x => (tp x.1 T d, x.2) with
        | .ok (w', touched) => k.runT P w' (es ++ touched.toArray.map (fun c => (⟨.cell c, true, m⟩ : Event)))
        | .error h => (.halt h (tp w T d), es)) =
        (tpR T (d + q) (match w.farStore P a v m with
          | .ok (w', touched) => k.runT P w' (es ++ touched.toArray.map (fun c => (⟨.cell c, true, m⟩ : Event)))
          | .error h => (.halt h w, es)).1, (match w.farStore P a v m with
          | .ok (w', touched) => k.runT P w' (es ++ touched.toArray.map (fun c => (⟨.cell c, true, m⟩ : Event)))
          | .error h => (.halt h w, es)).2) := by
  cases hf : w.farStore P a v m with
  | error h => exact ⟨0, rfl, rfl, fun T d _ => rfl⟩
  | ok x =>
    obtain ⟨w', l⟩ := x
    obtain ⟨e1, e2⟩ := far_tape hf
    obtain ⟨q, h1, h2, h3⟩ := ih hc w' (es ++ l.toArray.map (fun c => (⟨.cell c, true, m⟩ : Event)))
    refine ⟨q, by rw [← e2]; exact h1, by rw [← e1]; exact h2, fun T d h => ?_⟩
    exact h3 T d (by rw [e1, e2]; exact h)
theorem same_run (s : Sem α) (hc : Calm P L s) : ∀ (w : World) (es : Array Event), Same1 P s w es := by
  induction s with
  | pure a => exact fun w es => ⟨0, rfl, rfl, fun T d _ => rfl⟩
  | load m a k ih =>
    intro w es
    unfold Same1
    simp only [Sem.runT, tp_cell, tp_farLoad]
    cases w.cell? a with
    | some v => exact ih v (hc v) w _
    | none =>
      dsimp only
      cases w.farLoad P a (m == .atomic) with
      | ok x => exact ih x.1 (hc x.1) w _
      | error h => exact ⟨0, rfl, rfl, fun T d _ => rfl⟩
  | store m a v k ih =>
    intro w es
    have key : Same1 P (.store m a v k) w es := by
      unfold Same1
      cases v <;> first | exact ⟨0, rfl, rfl, fun T d _ => rfl⟩ | skip
      all_goals
        simp only [Sem.runT, tp_cell, tp_frozen, tp_farStore]
        cases w.cell? a with
        | some _ =>
          dsimp only
          by_cases hz : w.frozen? a = true
          · simp only [hz, if_true]
            exact ⟨0, rfl, rfl, fun T d _ => rfl⟩
          · simp only [hz, if_false, Bool.false_eq_true]
            exact ih hc _ _
        | none =>
          dsimp only
          exact far_same (k := k) (L := L) hc ih w a _ (m == .atomic) es
    exact key
  | new o k ih => exact fun w es => ih _ (hc.2 _) _ es
  | shape r k ih => exact fun w es => ih _ (hc _) _ es
  | freeze a n k ih =>
    intro w es
    obtain ⟨q, h1, h2, h3⟩ := ih hc (w.freeze a n) es
    have e1 : (w.freeze a n).drawn = w.drawn := by unfold World.freeze; split <;> rfl
    have e2 : (w.freeze a n).tape = w.tape := by unfold World.freeze; split <;> rfl
    refine ⟨q, by simpa [Sem.runT, e1] using h1, by simpa [Sem.runT, e2] using h2, fun T d h => ?_⟩
    simp only [Sem.runT, tp_freeze]
    exact h3 T d (by rw [e1, e2]; exact h)
  | frozen a k ih => exact fun w es => ih _ (hc _) _ es
  | getObj r k ih =>
    intro w es
    unfold Same1
    simp only [Sem.runT, tp_heap]
    cases w.heap[r]? with
    | none => exact ⟨0, rfl, rfl, fun T d _ => rfl⟩
    | some o => cases o <;> first | exact ⟨0, rfl, rfl, fun T d _ => rfl⟩ | exact ih _ (hc _) w _
  | setObj r o k ih => exact hc.elim
  | choose q k ih =>
    intro w es
    by_cases hf : q.forced
    · obtain ⟨n, h1, h2, h3⟩ := ih 0 (hc 0) w es
      refine ⟨n, by simpa [Sem.runT, hf] using h1, by simpa [Sem.runT, hf] using h2, fun T d h => by simpa [Sem.runT, hf] using h3 T d h⟩
    · obtain ⟨n, h1, h2, h3⟩ := ih _ (hc (q.cut (w.tape w.drawn q))) { w with drawn := w.drawn + 1 } es
      refine ⟨n + 1, ?_, by simpa [Sem.runT, hf] using h2, fun T d h => ?_⟩
      · simp only [Sem.runT, hf, Bool.false_eq_true, if_false]
        rw [h1]
        show w.drawn + 1 + n = _
        omega
      · have e0 := h 0 q (by omega)
        have := h3 T (d + 1) (fun i q' hi => by
          have := h (i + 1) q' (by omega)
          rw [show d + 1 + i = d + (i + 1) by omega, show w.drawn + 1 + i = w.drawn + (i + 1) by omega]
          exact this)
        simp only [Sem.runT, hf, Bool.false_eq_true, if_false]
        rw [show (tp w T d).tape (tp w T d).drawn q = w.tape w.drawn q from e0]
        rw [show d + (n + 1) = d + 1 + n by omega]
        exact this
  | sys c k => exact hc.elim
  | program k ih => exact fun w es => ih _ hc w es
  | mark m k ih => exact fun w es => ih hc.2 w _
  | halt h => exact fun w es => ⟨0, rfl, rfl, fun T d _ => rfl⟩
/-- An event that turns nobody's hearing and shows nothing outside, in a block below B. -/
def LowL (B : Nat) : Loc → Prop
  | .cell a => a.block < B
  | .obj r => r < B
  | .mark m => Neutral m
  | _ => False
theorem LowL.mono {B C : Nat} (h : B ≤ C) : ∀ {l : Loc}, LowL B l → LowL C l
  | .cell _, x | .obj _, x => Nat.lt_of_lt_of_le x h
  | .mark _, x => x
  | .output, x | .goroutines, x => x.elim
/-- No variable that a step of the initialization makes ready waits for it. -/
def NoPend (P : Program) (w : World) : Prop := ∀ (r : Nat) (c : Array Value) (e : TypeId), P.stepOf r ≠ none → w.heap[r]? ≠ some (Obj.pending c e)
/-- What is left of a calm meaning. -/
structure Left (P : Program) (L : α → Prop) (w : World) (es : Array Event) (r : Result α × Array Event) : Prop where
  leaf : ∀ a w', r.1 = .ok a w' → L a
  halt : NoPend P w → ∀ h w', r.1 = .halt h w' → okHalt P h
  pend : NoPend P w → NoPend P (wOf r.1)
  grow : w.heap.size ≤ (wOf r.1).heap.size
  evs : ∀ e ∈ r.2, e ∈ es ∨ LowL (wOf r.1).heap.size e.loc
theorem Left.halted {w : World} {es : Array Event} {h : Halt} (k : NoPend P w → okHalt P h) : Left P L w es (.halt h w, es) :=
  ⟨fun a w' e => (by cases e), fun hp h' w' e => (by cases e; exact k hp), fun x => x, Nat.le_refl _, fun e he => .inl he⟩
theorem Left.from {w w1 : World} {es es1 : Array Event} {r : Result α × Array Event} (h : Left P L w1 es1 r) (hp : NoPend P w → NoPend P w1) (hg : w.heap.size ≤ w1.heap.size)
    (he : ∀ e ∈ es1, e ∈ es ∨ LowL w1.heap.size e.loc) : Left P L w es r :=
  ⟨h.leaf, fun x => h.halt (hp x), fun x => h.pend (hp x), Nat.le_trans hg h.grow, fun e hm => by
    rcases h.evs e hm with x | x
    · exact (he e x).imp id (LowL.mono h.grow)
    · exact .inr x⟩
theorem noCell_ok {w : World} (h : NoPend P w) (a : Addr) (s : String) : okHalt P (w.noCell a s) := by
  unfold World.noCell
  split
  · next c e hc => exact Classical.byContradiction fun hx => h _ _ _ hx hc
  · trivial
  · trivial
theorem noPend_set {w : World} (h : NoPend P w) (r : Nat) (f : Obj → Obj) (hf : ∀ o c e, f o = Obj.pending c e → ∃ c e, o = Obj.pending c e) : ∀ (i : Nat) (c : Array Value) (e : TypeId), P.stepOf i ≠ none → (w.heap.modify r f)[i]? ≠ some (Obj.pending c e) := by
  intro i c e hst hi
  rw [Array.getElem?_modify] at hi
  split at hi
  · obtain ⟨o, ho, hx⟩ := Option.map_eq_some_iff.1 hi
    obtain ⟨c', e', rfl⟩ := hf o c e hx
    exact h _ _ _ hst ho
  · exact h _ _ _ hst hi
theorem noPend_setCell {w : World} (h : NoPend P w) (a : Addr) (v : Value) : NoPend P (w.setCell a v) :=
  noPend_set h _ _ fun o c e ho => by cases o <;> simp_all
theorem noPend_freeze {w : World} (h : NoPend P w) (a : Addr) (n : Nat) : NoPend P (w.freeze a n) := by
  unfold World.freeze
  split
  · exact h
  · exact noPend_set h _ _ fun o c e ho => by cases o <;> simp_all
theorem size_freeze (w : World) (a : Addr) (n : Nat) : (w.freeze a n).heap.size = w.heap.size := by
  unfold World.freeze
  split <;> simp
theorem size_setCell (w : World) (a : Addr) (v : Value) : (w.setCell a v).heap.size = w.heap.size := by simp [World.setCell]
theorem noPend_push {w : World} (h : NoPend P w) {o : Obj} (ho : isCells o) : NoPend P { w with heap := w.heap.push o } := by
  intro r c e hst hr
  rw [Array.getElem?_push] at hr
  split at hr
  · cases hr; exact ho
  · exact h _ _ _ hst hr
theorem lt_of_some {w : World} {r : Nat} {o : Obj} (h : w.heap[r]? = some o) : r < w.heap.size := (Array.getElem?_eq_some_iff.1 h).1
theorem cell_low {w : World} {a : Addr} {v : Value} (h : w.cell? a = some v) : a.block < w.heap.size := by
  unfold World.cell? at h
  split at h
  · next c e f hc => exact lt_of_some hc
  · cases h
theorem seen_low {w : World} {at_ k : Addr} {u : TypeId} {m : Bool} {x : Array Value × TypeId × (Nat × Nat) × Nat × Value × List (Nat × Nat × List UInt8)} (h : w.seen P at_ u k m = .ok x) :
    ∃ f, w.heap[at_.block]? = some (.cells x.1 x.2.1 f) := by
  unfold World.seen at h
  simp only [bind, Except.bind, pure, Except.pure, throw, throwThe, MonadExceptOf.throw] at h
  repeat' split at h
  all_goals first | (cases h; done) | skip
  all_goals (cases h; exact ⟨_, ‹_›⟩)
theorem far_low {w : World} {a : Addr} {m : Bool} {x : Value × List Addr} (h : w.farLoad P a m = .ok x) : ∀ c ∈ x.2, c.block < w.heap.size := by
  unfold World.farLoad at h
  split at h
  · next at_ u _ =>
    cases hv : w.viewLoad P at_ u a m with
    | error e => rw [hv] at h; cases h
    | ok y =>
      rw [hv] at h
      cases h
      unfold World.viewLoad at hv
      simp only [bind, Except.bind] at hv
      cases hs : w.seen P at_ u a m with
      | error e => rw [hs] at hv; cases hv
      | ok z =>
        rw [hs] at hv
        obtain ⟨f, hf⟩ := seen_low hs
        dsimp only at hv
        split at hv
        · cases hv
          intro c hc
          obtain ⟨q, _, rfl⟩ := List.mem_map.1 hc
          exact lt_of_some hf
        · cases hv
  · cases h
theorem far_err {w : World} {a : Addr} {m : Bool} {e : Halt} (hp : NoPend P w) (h : w.farLoad P a m = .error e) : okHalt P e := by
  unfold World.farLoad at h
  split at h
  · split at h
    · cases h
    · cases h; trivial
  · cases h; exact noCell_ok hp _ _
theorem farS_err {w : World} {a : Addr} {v : Value} {m : Bool} {e : Halt} (hp : NoPend P w) (h : w.farStore P a v m = .error e) : okHalt P e := by
  unfold World.farStore at h
  split at h
  · split at h
    · cases h
    · cases h; trivial
  · cases h; exact noCell_ok hp _ _
theorem farS_low {w : World} {a : Addr} {v : Value} {m : Bool} {x : World × List Addr} (h : w.farStore P a v m = .ok x) : x.1.heap.size = w.heap.size ∧ (NoPend P w → NoPend P x.1) ∧ ∀ c ∈ x.2, c.block < w.heap.size := by
  unfold World.farStore at h
  split at h
  · next at_ u _ =>
    cases hv : w.viewStore P at_ u a v m with
    | error e => rw [hv] at h; cases h
    | ok y =>
      rw [hv] at h
      cases h
      unfold World.viewStore at hv
      simp only [bind, Except.bind, pure, Except.pure] at hv
      split at hv
      · cases hv
      cases hs : w.seen P at_ u a m with
      | error e => rw [hs] at hv; cases hv
      | ok z =>
        rw [hs] at hv
        obtain ⟨f, hf⟩ := seen_low hs
        dsimp only at hv
        repeat' split at hv
        all_goals first | (cases hv; done) | skip
        all_goals
          cases hv
          refine ⟨by simp, fun hp r c e hst hr => ?_, fun c hc => ?_⟩
          · rw [Array.getElem?_setIfInBounds] at hr
            split at hr
            · split at hr <;> cases hr
            · exact hp _ _ _ hst hr
          · obtain ⟨q, _, rfl⟩ := List.mem_map.1 hc
            exact lt_of_some hf
  · cases h
theorem left_run (s : Sem α) (hc : Calm P L s) : ∀ (w : World) (es : Array Event), Left P L w es (s.runT P w es) := by
  induction s with
  | pure a => exact fun w es => ⟨fun b w' h => (by cases h; exact hc), fun _ h' w' e => (by cases e), fun x => x, Nat.le_refl _, fun e he => .inl he⟩
  | load m a k ih =>
    intro w es
    simp only [Sem.runT]
    cases hv : w.cell? a with
    | some v =>
      refine (ih v (hc v) w _).from id (Nat.le_refl _) fun e he => ?_
      rcases Array.mem_push.1 he with h | h
      · exact .inl h
      · subst h; exact .inr (cell_low hv)
    | none =>
      dsimp only
      cases hf : w.farLoad P a (m == .atomic) with
      | error h => exact Left.halted fun hp => far_err hp hf
      | ok x =>
        refine (ih x.1 (hc x.1) w _).from id (Nat.le_refl _) fun e he => ?_
        rcases Array.mem_append.1 he with h | h
        · exact .inl h
        · obtain ⟨c, hm, rfl⟩ := Array.mem_map.1 h
          exact .inr (far_low hf c (by simpa using hm))
  | store m a v k ih =>
    intro w es
    cases v <;> first | exact Left.halted fun _ => trivial | skip
    all_goals
      simp only [Sem.runT]
      cases hv : w.cell? a with
      | some _ =>
        dsimp only
        by_cases hz : w.frozen? a = true
        · simp only [hz, if_true]
          exact Left.halted fun _ => trivial
        · simp only [hz, if_false, Bool.false_eq_true]
          refine (ih hc _ _).from (fun h => noPend_setCell h _ _) (Nat.le_of_eq (size_setCell _ _ _).symm) fun e he => ?_
          rcases Array.mem_push.1 he with h | h
          · exact .inl h
          · subst h; exact .inr (by show a.block < _; rw [size_setCell]; exact cell_low hv)
      | none =>
        dsimp only
        cases hf : w.farStore P a _ (m == .atomic) with
        | error h => exact Left.halted fun hp => farS_err hp hf
        | ok x =>
          obtain ⟨h1, h2, h3⟩ := farS_low hf
          refine (ih hc _ _).from h2 (Nat.le_of_eq h1.symm) fun e he => ?_
          rcases Array.mem_append.1 he with h | h
          · exact .inl h
          · obtain ⟨c, hm, rfl⟩ := Array.mem_map.1 h
            exact .inr (by show c.block < _; rw [h1]; exact h3 c (by simpa using hm))
  | new o k ih => exact fun w es => (ih _ (hc.2 _) _ es).from (fun h => noPend_push h hc.1) (by simp) fun e he => .inl he
  | shape r k ih => exact fun w es => ih _ (hc _) _ es
  | freeze a n k ih => exact fun w es => (ih hc _ es).from (fun h => noPend_freeze h _ _) (Nat.le_of_eq (size_freeze _ _ _).symm) fun e he => .inl he
  | frozen a k ih => exact fun w es => ih _ (hc _) _ es
  | getObj r k ih =>
    intro w es
    simp only [Sem.runT]
    cases ho : w.heap[r]? with
    | none => exact Left.halted fun _ => trivial
    | some o =>
      cases o <;> first | exact Left.halted fun _ => trivial | skip
      all_goals
        refine (ih _ (hc _) w _).from id (Nat.le_refl _) fun e he => ?_
        rcases Array.mem_push.1 he with h | h
        · exact .inl h
        · subst h; exact .inr (lt_of_some ho)
  | setObj r o k ih => exact hc.elim
  | choose q k ih =>
    intro w es
    simp only [Sem.runT]
    split
    · exact ih _ (hc _) _ _
    · exact (ih _ (hc _) { w with drawn := w.drawn + 1 } _).from id (Nat.le_refl _) fun e he => .inl he
  | sys c k => exact hc.elim
  | program k ih => exact fun w es => ih _ hc w es
  | mark m k ih =>
    intro w es
    refine (ih hc.2 w _).from id (Nat.le_refl _) fun e he => ?_
    rcases Array.mem_push.1 he with h | h
    · exact .inl h
    · subst h; exact .inr hc.1
  | halt h => exact fun w es => Left.halted fun _ => hc
end
end Go.Proofs.Ytgmhdmhnedljcaa.Co

/-
  Helpers of the claims beside this text: the operations of plain code are calm.
-/
namespace Go.Proofs.Ytgmhdmhnedljcaa.Co
open Go Go.Conc
set_option linter.unusedSimpArgs false
set_option linter.unusedVariables false

section
variable {P : Program} {α β : Type} {L : α → Prop}
theorem bindS_pure (x : Sem α) : x.bind .pure = x := by
  induction x with
  | frozen a k ih => simp only [Sem.bind]; congr 1; funext b; exact ih b
  | _ => simp_all [Sem.bind]
theorem bindS_assoc {γ : Type} (x : Sem α) (f : α → Sem β) (g : β → Sem γ) : (x.bind f).bind g = x.bind fun a => (f a).bind g := by
  induction x with
  | frozen a k ih => simp only [Sem.bind]; congr 1; funext b; exact ih b
  | _ => simp_all [Sem.bind]
instance : LawfulMonad Sem := LawfulMonad.mk' Sem (id_map := fun x => bindS_pure x) (pure_bind := fun _ _ => rfl) (bind_assoc := fun x f g => bindS_assoc x f g)
theorem calm_ite {c : Prop} [Decidable c] {x y : Sem α} (hx : Calm P L x) (hy : Calm P L y) : Calm P L (if c then x else y) := by split <;> assumption
theorem calm_listMapM {f : β → Sem α} (h : ∀ b, Calm P (fun _ => True) (f b)) (xs : List β) : Calm P (fun _ => True) (xs.mapM f) := by
  induction xs with
  | nil => rw [List.mapM_nil]; exact trivial
  | cons x xs ih => rw [List.mapM_cons]; exact calm_bind (h x) fun _ => calm_bind ih fun _ => trivial
theorem calm_mapM {f : β → Sem α} (h : ∀ b, Calm P (fun _ => True) (f b)) (xs : Array β) : Calm P (fun _ => True) (xs.mapM f) := by
  rw [Array.mapM_eq_mapM_toList]
  exact calm_map (calm_listMapM h _) fun _ => trivial
theorem calm_listForIn {f : β → α → Sem (ForInStep α)} (h : ∀ b a, Calm P (fun _ => True) (f b a)) (xs : List β) (a : α) : Calm P (fun _ => True) (forIn xs a f) := by
  induction xs generalizing a with
  | nil => exact trivial
  | cons x xs ih =>
    rw [List.forIn_cons]
    refine calm_bind (h x a) fun r => ?_
    cases r with
    | done b => exact trivial
    | yield b => exact ih b
theorem calm_forIn {f : β → α → Sem (ForInStep α)} (h : ∀ b a, Calm P (fun _ => True) (f b a)) (xs : Array β) (a : α) : Calm P (fun _ => True) (forIn xs a f) := by
  rw [← Array.forIn_toList]
  exact calm_listForIn h _ _
theorem calm_rangeForIn {f : Nat → α → Sem (ForInStep α)} (h : ∀ b a, Calm P (fun _ => True) (f b a)) (r : Std.Legacy.Range) (a : α) : Calm P (fun _ => True) (forIn r a f) := by
  rw [Std.Legacy.Range.forIn_eq_forIn_range']
  exact calm_listForIn h _ _
theorem calm_loadCellsFrom (a : Addr) (i n : Nat) (acc : Array Value) : Calm P (fun _ => True) (loadCellsFrom a i n acc) := by
  induction n generalizing i acc with
  | zero => exact trivial
  | succ n ih => exact fun v => ih _ _
theorem calm_storeCells (a : Addr) (vs : List Value) (i : Nat) : Calm P (fun _ => True) (storeCells a vs i) := by
  induction vs generalizing i with
  | nil => exact trivial
  | cons v vs ih => exact ih _
theorem calm_loadCells (a : Addr) (n : Nat) : Calm P (fun _ => True) (loadCells a n) := calm_loadCellsFrom a 0 n #[]
theorem calm_noRoom : Calm P (fun _ => True) (mark .noRoom) := ⟨rfl, trivial⟩

end


section
variable {P : Program}

set_option maxHeartbeats 2000000 in
theorem calm_sureAddr (v : Value) : Calm P (fun _ => True) (Instr.sureAddr v) := by
  unfold Instr.sureAddr
  (repeat' first | with_reducible refine calm_bind ?_ (fun _ => ?_) | (first | assumption | exact trivial | exact calm_pure trivial | (refine calm_pure ?_; first | exact trivial | assumption) | exact calm_halt trivial | refine calm_map ?_ (fun _ => ?_) | refine calm_bind ?_ (fun _ => ?_) | intro _ | split) | dsimp only)

set_option maxHeartbeats 2000000 in
theorem calm_asIntOf (v : Value) : Calm P (fun _ => True) (asIntOf v) := by
  unfold asIntOf
  (repeat' first | with_reducible refine calm_bind ?_ (fun _ => ?_) | (first | assumption | exact trivial | exact calm_pure trivial | (refine calm_pure ?_; first | exact trivial | assumption) | exact calm_halt trivial | refine calm_map ?_ (fun _ => ?_) | refine calm_bind ?_ (fun _ => ?_) | intro _ | split) | dsimp only)

set_option maxHeartbeats 2000000 in
theorem calm_asBool (v : Value) : Calm P (fun _ => True) (asBool v) := by
  unfold asBool
  (repeat' first | with_reducible refine calm_bind ?_ (fun _ => ?_) | (first | assumption | exact trivial | exact calm_pure trivial | (refine calm_pure ?_; first | exact trivial | assumption) | exact calm_halt trivial | refine calm_map ?_ (fun _ => ?_) | refine calm_bind ?_ (fun _ => ?_) | intro _ | split) | dsimp only)

set_option maxHeartbeats 2000000 in
theorem calm_asString (v : Value) : Calm P (fun _ => True) (asString v) := by
  unfold asString
  (repeat' first | with_reducible refine calm_bind ?_ (fun _ => ?_) | (first | assumption | exact trivial | exact calm_pure trivial | (refine calm_pure ?_; first | exact trivial | assumption) | exact calm_halt trivial | refine calm_map ?_ (fun _ => ?_) | refine calm_bind ?_ (fun _ => ?_) | intro _ | split) | dsimp only)

set_option maxHeartbeats 2000000 in
theorem calm_asAgg (v : Value) : Calm P (fun _ => True) (asAgg v) := by
  unfold asAgg
  (repeat' first | with_reducible refine calm_bind ?_ (fun _ => ?_) | (first | assumption | exact trivial | exact calm_pure trivial | (refine calm_pure ?_; first | exact trivial | assumption) | exact calm_halt trivial | refine calm_map ?_ (fun _ => ?_) | refine calm_bind ?_ (fun _ => ?_) | intro _ | split) | dsimp only)

set_option maxHeartbeats 2000000 in
theorem calm_askRoom (n : Nat) : Calm P (fun _ => True) (askRoom n) := by
  unfold askRoom
  split
  · exact ⟨rfl, trivial⟩
  · exact trivial

set_option maxHeartbeats 2000000 in
theorem calm_sizeOf (t : TypeId) : Calm P (fun _ => True) (sizeOf t) := by
  unfold sizeOf
  (repeat' first | with_reducible refine calm_bind ?_ (fun _ => ?_) | (first | assumption | exact trivial | exact calm_pure trivial | (refine calm_pure ?_; first | exact trivial | assumption) | exact calm_halt trivial | refine calm_map ?_ (fun _ => ?_) | refine calm_bind ?_ (fun _ => ?_) | intro _ | split) | dsimp only)

set_option maxHeartbeats 2000000 in
theorem calm_zeroValue (t : TypeId) : Calm P (fun _ => True) (zeroValue t) := by
  unfold zeroValue
  (repeat' first | with_reducible refine calm_bind ?_ (fun _ => ?_) | (first | assumption | exact trivial | exact calm_pure trivial | (refine calm_pure ?_; first | exact trivial | assumption) | exact calm_halt trivial | refine calm_map ?_ (fun _ => ?_) | refine calm_bind ?_ (fun _ => ?_) | intro _ | split) | dsimp only)

set_option maxHeartbeats 2000000 in
theorem calm_isAgg (t : TypeId) : Calm P (fun _ => True) (isAgg t) := by
  unfold isAgg
  (repeat' first | with_reducible refine calm_bind ?_ (fun _ => ?_) | (first | assumption | exact trivial | exact calm_pure trivial | (refine calm_pure ?_; first | exact trivial | assumption) | exact calm_halt trivial | refine calm_map ?_ (fun _ => ?_) | refine calm_bind ?_ (fun _ => ?_) | intro _ | split) | dsimp only)

end
section
variable {P : Program}

set_option maxHeartbeats 2000000 in
theorem calm_loadVar (t : TypeId) (a : Addr) : Calm P (fun _ => True) (loadVar t a) := by
  unfold loadVar
  (repeat' first | (with_reducible exact calm_isAgg _) | (with_reducible exact calm_sizeOf _) | (with_reducible refine calm_ite ?_ ?_) | (with_reducible exact calm_loadCells _ _) | with_reducible refine calm_bind ?_ (fun _ => ?_) | (first | assumption | exact trivial | exact calm_pure trivial | (refine calm_pure ?_; first | exact trivial | assumption) | exact calm_halt trivial | refine calm_map ?_ (fun _ => ?_) | refine calm_bind ?_ (fun _ => ?_) | intro _ | split) | dsimp only)

set_option maxHeartbeats 2000000 in
theorem calm_storeVar (t : TypeId) (a : Addr) (v : Value) : Calm P (fun _ => True) (storeVar t a v) := by
  unfold storeVar
  (repeat' first | (with_reducible exact calm_sizeOf _) | (with_reducible refine calm_ite ?_ ?_) | (with_reducible exact calm_storeCells _ _ _) | with_reducible refine calm_bind ?_ (fun _ => ?_) | (first | assumption | exact trivial | exact calm_pure trivial | (refine calm_pure ?_; first | exact trivial | assumption) | exact calm_halt trivial | refine calm_map ?_ (fun _ => ?_) | refine calm_bind ?_ (fun _ => ?_) | intro _ | split) | dsimp only)

set_option maxHeartbeats 2000000 in
theorem calm_newRow (t : TypeId) (c : Array Value) : Calm P (fun _ => True) (newRow t c) := by
  unfold newRow
  exact calm_bind ⟨trivial, fun _ => trivial⟩ fun _ => trivial

end
section
variable {P : Program}

set_option maxHeartbeats 2000000 in
theorem calm_newVar (t : TypeId) (v : Value) : Calm P (fun _ => True) (newVar t v) := by
  unfold newVar
  (repeat' first | (with_reducible exact calm_newRow _ _) | with_reducible refine calm_bind ?_ (fun _ => ?_) | (first | assumption | exact trivial | exact calm_pure trivial | (refine calm_pure ?_; first | exact trivial | assumption) | exact calm_halt trivial | refine calm_map ?_ (fun _ => ?_) | refine calm_bind ?_ (fun _ => ?_) | intro _ | split) | dsimp only)

set_option maxHeartbeats 2000000 in
theorem calm_elemOf (t : TypeId) : Calm P (fun _ => True) (elemOf t) := by
  unfold elemOf
  (repeat' first | with_reducible refine calm_bind ?_ (fun _ => ?_) | (first | assumption | exact trivial | exact calm_pure trivial | (refine calm_pure ?_; first | exact trivial | assumption) | exact calm_halt trivial | refine calm_map ?_ (fun _ => ?_) | refine calm_bind ?_ (fun _ => ?_) | intro _ | split) | dsimp only)

end
section
variable {P : Program}

theorem calm_panicR {α : Type} {L : α → Prop} (e : RuntimeError) : Calm P L (runtimePanic e : Sem α) := by
  unfold runtimePanic program goPanic
  (repeat' first | (with_reducible exact calm_elemOf _) | (with_reducible exact calm_newVar _ _) | with_reducible refine calm_bind ?_ (fun _ => ?_) | (first | assumption | exact trivial | exact calm_pure trivial | (refine calm_pure ?_; first | exact trivial | assumption) | exact calm_halt trivial | refine calm_map ?_ (fun _ => ?_) | refine calm_bind ?_ (fun _ => ?_) | intro _ | split) | dsimp only)

end
section
variable {P : Program}

theorem calm_boundsPanic {α : Type} {L : α → Prop} (k : IntKind) (x y : Int) (c : BoundsCode) : Calm P L (boundsPanic k x y c : Sem α) := by
  unfold boundsPanic choose
  (repeat' first | (with_reducible exact calm_panicR _) | (with_reducible refine calm_ite ?_ ?_) | with_reducible refine calm_bind ?_ (fun _ => ?_) | (first | assumption | exact trivial | exact calm_pure trivial | (refine calm_pure ?_; first | exact trivial | assumption) | exact calm_halt trivial | refine calm_map ?_ (fun _ => ?_) | refine calm_bind ?_ (fun _ => ?_) | intro _ | split) | dsimp only)

set_option maxHeartbeats 2000000 in
theorem calm_asAddr (v : Value) : Calm P (fun _ => True) (asAddr v) := by
  unfold asAddr
  (repeat' first | (with_reducible exact calm_panicR _) | with_reducible refine calm_bind ?_ (fun _ => ?_) | (first | assumption | exact trivial | exact calm_pure trivial | (refine calm_pure ?_; first | exact trivial | assumption) | exact calm_halt trivial | refine calm_map ?_ (fun _ => ?_) | refine calm_bind ?_ (fun _ => ?_) | intro _ | split) | dsimp only)

set_option maxHeartbeats 2000000 in
theorem calm_viewAt (r : Nat) : Calm P (fun _ => True) (viewAt r) := by
  unfold viewAt shape getObj
  (repeat' first | (with_reducible refine calm_ite ?_ ?_) | with_reducible refine calm_bind ?_ (fun _ => ?_) | (first | assumption | exact trivial | exact calm_pure trivial | (refine calm_pure ?_; first | exact trivial | assumption) | exact calm_halt trivial | refine calm_map ?_ (fun _ => ?_) | refine calm_bind ?_ (fun _ => ?_) | intro _ | split) | dsimp only)

end
section
variable {P : Program}

set_option maxHeartbeats 2000000 in
theorem calm_noView (a : Addr) : Calm P (fun _ => True) (noView a) := by
  unfold noView
  (repeat' first | (with_reducible exact calm_viewAt _) | (with_reducible refine calm_ite ?_ ?_) | with_reducible refine calm_bind ?_ (fun _ => ?_) | (first | assumption | exact trivial | exact calm_pure trivial | (refine calm_pure ?_; first | exact trivial | assumption) | exact calm_halt trivial | refine calm_map ?_ (fun _ => ?_) | refine calm_bind ?_ (fun _ => ?_) | intro _ | split) | dsimp only)

end
section
variable {P : Program}

set_option maxHeartbeats 2000000 in
theorem calm_byteOf (a : Addr) : Calm P (fun _ => True) (byteOf a) := by
  unfold byteOf program shape
  (repeat' first | (with_reducible exact calm_noView _) | (with_reducible refine calm_ite ?_ ?_) | with_reducible refine calm_bind ?_ (fun _ => ?_) | (first | assumption | exact trivial | exact calm_pure trivial | (refine calm_pure ?_; first | exact trivial | assumption) | exact calm_halt trivial | refine calm_map ?_ (fun _ => ?_) | refine calm_bind ?_ (fun _ => ?_) | intro _ | split) | dsimp only)

set_option maxHeartbeats 2000000 in
theorem calm_sliceBound (v : Value) (n : Nat) (c : BoundsCode) : Calm P (fun _ => True) (Instr.sliceBound v n c) := by
  unfold Instr.sliceBound
  (repeat' first | (with_reducible exact calm_boundsPanic _ _ _ _) | (with_reducible exact calm_asIntOf _) | (with_reducible refine calm_ite ?_ ?_) | with_reducible refine calm_bind ?_ (fun _ => ?_) | (first | assumption | exact trivial | exact calm_pure trivial | (refine calm_pure ?_; first | exact trivial | assumption) | exact calm_halt trivial | refine calm_map ?_ (fun _ => ?_) | refine calm_bind ?_ (fun _ => ?_) | intro _ | split) | dsimp only)

set_option maxHeartbeats 2000000 in
theorem calm_part (t : TypeId) (cs : Array Value) (o : Nat) : Calm P (fun _ => True) (part t cs o) := by
  unfold part
  (repeat' first | (with_reducible exact calm_isAgg _) | (with_reducible exact calm_sizeOf _) | (with_reducible refine calm_ite ?_ ?_) | with_reducible refine calm_bind ?_ (fun _ => ?_) | (first | assumption | exact trivial | exact calm_pure trivial | (refine calm_pure ?_; first | exact trivial | assumption) | exact calm_halt trivial | refine calm_map ?_ (fun _ => ?_) | refine calm_bind ?_ (fun _ => ?_) | intro _ | split) | dsimp only)

end
section
variable {P : Program}

set_option maxHeartbeats 2000000 in
theorem calm_sliceBounds (b : Bool) (l c : Nat) (x y z : Option Value) : Calm P (fun _ => True) (Instr.sliceBounds b l c x y z) := by
  unfold Instr.sliceBounds
  (repeat' first | (with_reducible exact calm_sliceBound _ _ _) | with_reducible refine calm_bind ?_ (fun _ => ?_) | (first | assumption | exact trivial | exact calm_pure trivial | (refine calm_pure ?_; first | exact trivial | assumption) | exact calm_halt trivial | refine calm_map ?_ (fun _ => ?_) | refine calm_bind ?_ (fun _ => ?_) | intro _ | split) | dsimp only)

set_option maxHeartbeats 2000000 in
theorem calm_partAt (a : Addr) (c b : Nat) : Calm P (fun _ => True) (partAt a c b) := by
  unfold partAt
  (repeat' first | (with_reducible exact calm_byteOf _) | with_reducible refine calm_bind ?_ (fun _ => ?_) | (first | assumption | exact trivial | exact calm_pure trivial | (refine calm_pure ?_; first | exact trivial | assumption) | exact calm_halt trivial | refine calm_map ?_ (fun _ => ?_) | refine calm_bind ?_ (fun _ => ?_) | intro _ | split) | dsimp only)

end
section
variable {P : Program}

set_option maxHeartbeats 2000000 in
theorem calm_fieldPlace (a : Addr) (f : Field) : Calm P (fun _ => True) (fieldPlace a f) := by
  unfold fieldPlace
  (repeat' first | (with_reducible exact calm_partAt _ _ _) | (with_reducible exact calm_sizeOf _) | (with_reducible refine calm_ite ?_ ?_) | with_reducible refine calm_bind ?_ (fun _ => ?_) | (first | assumption | exact trivial | exact calm_pure trivial | (refine calm_pure ?_; first | exact trivial | assumption) | exact calm_halt trivial | refine calm_map ?_ (fun _ => ?_) | refine calm_bind ?_ (fun _ => ?_) | intro _ | split) | dsimp only)

set_option maxHeartbeats 2000000 in
theorem calm_slice (t : TypeId) (v : Value) (a b c : Option Value) : Calm P (fun _ => True) (Instr.slice t v a b c) := by
  unfold Instr.slice
  (repeat' first | (with_reducible exact calm_sliceBounds _ _ _ _ _ _) | (with_reducible exact calm_asAddr _) | (with_reducible exact calm_sizeOf _) | (with_reducible refine calm_ite ?_ ?_) | with_reducible refine calm_bind ?_ (fun _ => ?_) | (first | assumption | exact trivial | exact calm_pure trivial | (refine calm_pure ?_; first | exact trivial | assumption) | exact calm_halt trivial | refine calm_map ?_ (fun _ => ?_) | refine calm_bind ?_ (fun _ => ?_) | intro _ | split) | dsimp only)

end
section
variable {P : Program}

set_option maxHeartbeats 2000000 in
theorem calm_loadAt (t : TypeId) (v : Value) : Calm P (fun _ => True) (Instr.loadAt t v) := by
  unfold Instr.loadAt
  (repeat' first | (with_reducible exact calm_loadVar _ _) | (with_reducible exact calm_sureAddr _) | with_reducible refine calm_bind ?_ (fun _ => ?_) | (first | assumption | exact trivial | exact calm_pure trivial | (refine calm_pure ?_; first | exact trivial | assumption) | exact calm_halt trivial | refine calm_map ?_ (fun _ => ?_) | refine calm_bind ?_ (fun _ => ?_) | intro _ | split) | dsimp only)

set_option maxHeartbeats 2000000 in
theorem calm_storeAt (t : TypeId) (v x : Value) : Calm P (fun _ => True) (Instr.storeAt t v x) := by
  unfold Instr.storeAt
  (repeat' first | (with_reducible exact calm_storeVar _ _ _) | (with_reducible exact calm_sureAddr _) | with_reducible refine calm_bind ?_ (fun _ => ?_) | (first | assumption | exact trivial | exact calm_pure trivial | (refine calm_pure ?_; first | exact trivial | assumption) | exact calm_halt trivial | refine calm_map ?_ (fun _ => ?_) | refine calm_bind ?_ (fun _ => ?_) | intro _ | split) | dsimp only)

set_option maxHeartbeats 2000000 in
theorem calm_fieldAt (t : TypeId) (v : Value) (f : Nat) : Calm P (fun _ => True) (Instr.fieldAt t v f) := by
  unfold Instr.fieldAt
  (repeat' first | (with_reducible exact calm_fieldPlace _ _) | (with_reducible exact calm_sureAddr _) | with_reducible refine calm_bind ?_ (fun _ => ?_) | (first | assumption | exact trivial | exact calm_pure trivial | (refine calm_pure ?_; first | exact trivial | assumption) | exact calm_halt trivial | refine calm_map ?_ (fun _ => ?_) | refine calm_bind ?_ (fun _ => ?_) | intro _ | split) | dsimp only)

set_option maxHeartbeats 2000000 in
theorem calm_indexAt (t : TypeId) (v x : Value) : Calm P (fun _ => True) (Instr.indexAt t v x) := by
  unfold Instr.indexAt
  (repeat' first | (with_reducible exact calm_boundsPanic _ _ _ _) | (with_reducible exact calm_sizeOf _) | (with_reducible exact calm_asIntOf _) | (with_reducible exact calm_sureAddr _) | (with_reducible refine calm_ite ?_ ?_) | with_reducible refine calm_bind ?_ (fun _ => ?_) | (first | assumption | exact trivial | exact calm_pure trivial | (refine calm_pure ?_; first | exact trivial | assumption) | exact calm_halt trivial | refine calm_map ?_ (fun _ => ?_) | refine calm_bind ?_ (fun _ => ?_) | intro _ | split) | dsimp only)

set_option maxHeartbeats 2000000 in
theorem calm_sliceAt (t : TypeId) (v : Value) (a b c : Option Value) : Calm P (fun _ => True) (Instr.sliceAt t v a b c) := by
  unfold Instr.sliceAt
  (repeat' first | (with_reducible exact calm_slice _ _ _ _ _) | (with_reducible exact calm_sliceBounds _ _ _ _ _ _) | (with_reducible exact calm_sizeOf _) | (with_reducible exact calm_sureAddr _) | with_reducible refine calm_bind ?_ (fun _ => ?_) | (first | assumption | exact trivial | exact calm_pure trivial | (refine calm_pure ?_; first | exact trivial | assumption) | exact calm_halt trivial | refine calm_map ?_ (fun _ => ?_) | refine calm_bind ?_ (fun _ => ?_) | intro _ | split) | dsimp only)

set_option maxHeartbeats 2000000 in
theorem calm_alloc (t : TypeId) (b : Bool) (v : Value) : Calm P (fun _ => True) (Instr.alloc t b v) := by
  unfold Instr.alloc
  (repeat' first | (with_reducible exact calm_newVar _ _) | (with_reducible exact calm_storeVar _ _ _) | (with_reducible exact calm_zeroValue _) | with_reducible refine calm_bind ?_ (fun _ => ?_) | (first | assumption | exact trivial | exact calm_pure trivial | (refine calm_pure ?_; first | exact trivial | assumption) | exact calm_halt trivial | refine calm_map ?_ (fun _ => ?_) | refine calm_bind ?_ (fun _ => ?_) | intro _ | split) | dsimp only)

set_option maxHeartbeats 2000000 in
theorem calm_box (t : TypeId) (v : Value) : Calm P (fun _ => True) (Instr.box t v) := by
  unfold Instr.box
  (repeat' first | (with_reducible exact calm_newVar _ _) | with_reducible refine calm_bind ?_ (fun _ => ?_) | (first | assumption | exact trivial | exact calm_pure trivial | (refine calm_pure ?_; first | exact trivial | assumption) | exact calm_halt trivial | refine calm_map ?_ (fun _ => ?_) | refine calm_bind ?_ (fun _ => ?_) | intro _ | split) | dsimp only)

set_option maxHeartbeats 2000000 in
theorem calm_build (t : TypeId) (ps : Array (Nat × Value)) : Calm P (fun _ => True) (Instr.build t ps) := by
  unfold Instr.build
  (repeat' first | (with_reducible exact calm_zeroValue _) | (with_reducible exact calm_sizeOf _) | (with_reducible refine calm_mapM (fun _ => ?_) _) | with_reducible refine calm_bind ?_ (fun _ => ?_) | (first | assumption | exact trivial | exact calm_pure trivial | (refine calm_pure ?_; first | exact trivial | assumption) | exact calm_halt trivial | refine calm_map ?_ (fun _ => ?_) | refine calm_bind ?_ (fun _ => ?_) | intro _ | split) | dsimp only)

set_option maxHeartbeats 2000000 in
theorem calm_buildSlice (t : TypeId) (n : Nat) (ps : Array (Nat × Value)) : Calm P (fun _ => True) (Instr.buildSlice t n ps) := by
  unfold Instr.buildSlice
  (repeat' first | (with_reducible exact calm_newRow _ _) | (with_reducible exact calm_zeroValue _) | (with_reducible exact calm_sizeOf _) | (with_reducible refine calm_ite ?_ ?_) | with_reducible refine calm_bind ?_ (fun _ => ?_) | (first | assumption | exact trivial | exact calm_pure trivial | (refine calm_pure ?_; first | exact trivial | assumption) | exact calm_halt trivial | refine calm_map ?_ (fun _ => ?_) | refine calm_bind ?_ (fun _ => ?_) | intro _ | split) | dsimp only)

set_option maxHeartbeats 2000000 in
theorem calm_makeSlice (t : TypeId) (l c : Value) : Calm P (fun _ => True) (Instr.makeSlice t l c) := by
  unfold Instr.makeSlice
  (repeat' first | (with_reducible exact calm_panicR _) | (with_reducible exact calm_newRow _ _) | (with_reducible exact calm_zeroValue _) | (with_reducible exact calm_sizeOf _) | (with_reducible exact calm_askRoom _) | (with_reducible exact calm_asIntOf _) | (with_reducible refine calm_ite ?_ ?_) | with_reducible refine calm_bind ?_ (fun _ => ?_) | (first | assumption | exact trivial | exact calm_pure trivial | (refine calm_pure ?_; first | exact trivial | assumption) | exact calm_halt trivial | refine calm_map ?_ (fun _ => ?_) | refine calm_bind ?_ (fun _ => ?_) | intro _ | split) | dsimp only)

set_option maxHeartbeats 2000000 in
theorem calm_field (t : TypeId) (x : Value) (f : Nat) : Calm P (fun _ => True) (Instr.field t x f) := by
  unfold Instr.field
  (repeat' first | (with_reducible exact calm_part _ _ _) | (with_reducible exact calm_asAgg _) | with_reducible refine calm_bind ?_ (fun _ => ?_) | (first | assumption | exact trivial | exact calm_pure trivial | (refine calm_pure ?_; first | exact trivial | assumption) | exact calm_halt trivial | refine calm_map ?_ (fun _ => ?_) | refine calm_bind ?_ (fun _ => ?_) | intro _ | split) | dsimp only)

set_option maxHeartbeats 2000000 in
theorem calm_index (t : TypeId) (x i : Value) : Calm P (fun _ => True) (Instr.index t x i) := by
  unfold Instr.index
  (repeat' first | (with_reducible exact calm_part _ _ _) | (with_reducible exact calm_boundsPanic _ _ _ _) | (with_reducible exact calm_sizeOf _) | (with_reducible exact calm_asIntOf _) | (with_reducible refine calm_ite ?_ ?_) | with_reducible refine calm_bind ?_ (fun _ => ?_) | (first | assumption | exact trivial | exact calm_pure trivial | (refine calm_pure ?_; first | exact trivial | assumption) | exact calm_halt trivial | refine calm_map ?_ (fun _ => ?_) | refine calm_bind ?_ (fun _ => ?_) | intro _ | split) | dsimp only)

set_option maxHeartbeats 2000000 in
theorem calm_extract (t : Value) (i : Nat) : Calm P (fun _ => True) (Instr.extract t i) := by
  unfold Instr.extract
  (repeat' first | with_reducible refine calm_bind ?_ (fun _ => ?_) | (first | assumption | exact trivial | exact calm_pure trivial | (refine calm_pure ?_; first | exact trivial | assumption) | exact calm_halt trivial | refine calm_map ?_ (fun _ => ?_) | refine calm_bind ?_ (fun _ => ?_) | intro _ | split) | dsimp only)

set_option maxHeartbeats 2000000 in
theorem calm_firstCells (s n : Nat) (v : Value) : Calm P (fun _ => True) (Builtin.firstCells s n v) := by
  unfold Builtin.firstCells
  (repeat' first | (with_reducible exact calm_loadCells _ _) | with_reducible refine calm_bind ?_ (fun _ => ?_) | (first | assumption | exact trivial | exact calm_pure trivial | (refine calm_pure ?_; first | exact trivial | assumption) | exact calm_halt trivial | refine calm_map ?_ (fun _ => ?_) | refine calm_bind ?_ (fun _ => ?_) | intro _ | split) | dsimp only)

set_option maxHeartbeats 2000000 in
theorem calm_lenOf (v : Value) : Calm P (fun _ => True) (Builtin.lenOf v) := by
  unfold Builtin.lenOf
  (repeat' first | with_reducible refine calm_bind ?_ (fun _ => ?_) | (first | assumption | exact trivial | exact calm_pure trivial | (refine calm_pure ?_; first | exact trivial | assumption) | exact calm_halt trivial | refine calm_map ?_ (fun _ => ?_) | refine calm_bind ?_ (fun _ => ?_) | intro _ | split) | dsimp only)

set_option maxHeartbeats 2000000 in
theorem calm_len (ts : Array TypeId) (t : TypeId) (as : Array Value) : Calm P (fun _ => True) (Builtin.len_ ts t as) := by
  unfold Builtin.len_
  (repeat' first | with_reducible refine calm_bind ?_ (fun _ => ?_) | (first | assumption | exact trivial | exact calm_pure trivial | (refine calm_pure ?_; first | exact trivial | assumption) | exact calm_halt trivial | refine calm_map ?_ (fun _ => ?_) | refine calm_bind ?_ (fun _ => ?_) | intro _ | split) | dsimp only)

set_option maxHeartbeats 2000000 in
theorem calm_cap (ts : Array TypeId) (t : TypeId) (as : Array Value) : Calm P (fun _ => True) (Builtin.cap_ ts t as) := by
  unfold Builtin.cap_
  (repeat' first | with_reducible refine calm_bind ?_ (fun _ => ?_) | (first | assumption | exact trivial | exact calm_pure trivial | (refine calm_pure ?_; first | exact trivial | assumption) | exact calm_halt trivial | refine calm_map ?_ (fun _ => ?_) | refine calm_bind ?_ (fun _ => ?_) | intro _ | split) | dsimp only)

end
section
variable {P : Program}

set_option maxHeartbeats 2000000 in
theorem calm_holdsCells (a : Addr) (n : Nat) : Calm P (fun _ => True) (Builtin.holdsCells a n) := by
  unfold Builtin.holdsCells shape
  (repeat' first | with_reducible refine calm_bind ?_ (fun _ => ?_) | (first | assumption | exact trivial | exact calm_pure trivial | (refine calm_pure ?_; first | exact trivial | assumption) | exact calm_halt trivial | refine calm_map ?_ (fun _ => ?_) | refine calm_bind ?_ (fun _ => ?_) | intro _ | split) | dsimp only)

end
section
variable {P : Program}

set_option maxHeartbeats 2000000 in
theorem calm_mayShare (a b c : Nat) (o : Option Addr) (v : Value) : Calm P (fun _ => True) (Builtin.mayShare a b c o v) := by
  unfold Builtin.mayShare frozen
  (repeat' first | (with_reducible exact calm_holdsCells _ _) | (with_reducible refine calm_ite ?_ ?_) | with_reducible refine calm_bind ?_ (fun _ => ?_) | (first | assumption | exact trivial | exact calm_pure trivial | (refine calm_pure ?_; first | exact trivial | assumption) | exact calm_halt trivial | refine calm_map ?_ (fun _ => ?_) | refine calm_bind ?_ (fun _ => ?_) | intro _ | split) | dsimp only)

end
section
variable {P : Program}

set_option maxHeartbeats 2000000 in
theorem calm_append (ts : Array TypeId) (t : TypeId) (as : Array Value) : Calm P (fun _ => True) (Builtin.append_ ts t as) := by
  unfold Builtin.append_
  (repeat' first | (with_reducible exact calm_mayShare _ _ _ _ _) | (with_reducible exact calm_lenOf _) | (with_reducible exact calm_firstCells _ _ _) | (with_reducible exact calm_panicR _) | (with_reducible exact calm_newRow _ _) | (with_reducible exact calm_zeroValue _) | (with_reducible exact calm_sizeOf _) | (with_reducible exact calm_askRoom _) | (with_reducible exact calm_asIntOf _) | (with_reducible refine calm_ite ?_ ?_) | (with_reducible exact calm_noRoom) | (with_reducible exact calm_storeCells _ _ _) | with_reducible refine calm_bind ?_ (fun _ => ?_) | (first | assumption | exact trivial | exact calm_pure trivial | (refine calm_pure ?_; first | exact trivial | assumption) | exact calm_halt trivial | refine calm_map ?_ (fun _ => ?_) | refine calm_bind ?_ (fun _ => ?_) | intro _ | split) | dsimp only)

set_option maxHeartbeats 2000000 in
theorem calm_copy (ts : Array TypeId) (t : TypeId) (as : Array Value) : Calm P (fun _ => True) (Builtin.copy_ ts t as) := by
  unfold Builtin.copy_
  (repeat' first | (with_reducible exact calm_lenOf _) | (with_reducible exact calm_firstCells _ _ _) | (with_reducible exact calm_sizeOf _) | (with_reducible exact calm_storeCells _ _ _) | with_reducible refine calm_bind ?_ (fun _ => ?_) | (first | assumption | exact trivial | exact calm_pure trivial | (refine calm_pure ?_; first | exact trivial | assumption) | exact calm_halt trivial | refine calm_map ?_ (fun _ => ?_) | refine calm_bind ?_ (fun _ => ?_) | intro _ | split) | dsimp only)

end
end Go.Proofs.Ytgmhdmhnedljcaa.Co

/-
  Helpers of the claims beside this text: comparisons, sums and calls of plain code are calm.
-/
namespace Go.Proofs.Ytgmhdmhnedljcaa.Co
open Go Go.Conc
set_option linter.unusedSimpArgs false
set_option linter.unusedVariables false


section
variable {P : Program}

set_option maxHeartbeats 2000000 in
theorem calm_numberAt (r : Nat) : Calm P (fun _ => True) (numberAt r) := by
  unfold numberAt shape getObj
  (repeat' first | (with_reducible refine calm_ite ?_ ?_) | with_reducible refine calm_bind ?_ (fun _ => ?_) | (first | assumption | exact trivial | exact calm_pure trivial | (refine calm_pure ?_; first | exact trivial | assumption) | exact calm_halt trivial | refine calm_map ?_ (fun _ => ?_) | refine calm_bind ?_ (fun _ => ?_) | intro _ | split) | dsimp only)

set_option maxHeartbeats 2000000 in
theorem calm_typeStr (t : TypeId) : Calm P (fun _ => True) (typeStr t) := by
  unfold typeStr
  (repeat' first | (with_reducible refine calm_ite ?_ ?_) | with_reducible refine calm_bind ?_ (fun _ => ?_) | (first | assumption | exact trivial | exact calm_pure trivial | (refine calm_pure ?_; first | exact trivial | assumption) | exact calm_halt trivial | refine calm_map ?_ (fun _ => ?_) | refine calm_bind ?_ (fun _ => ?_) | intro _ | split) | dsimp only)

set_option maxHeartbeats 2000000 in
theorem calm_frozen (a : Addr) : Calm P (fun _ => True) (frozen a) := by
  unfold frozen
  exact fun _ => trivial

set_option maxHeartbeats 2000000 in
theorem calm_shape (r : Nat) : Calm P (fun _ => True) (shape r) := by
  unfold shape
  exact fun _ => trivial

set_option maxHeartbeats 2000000 in
theorem calm_choose (q : Question) : Calm P (fun _ => True) (choose q) := by
  unfold choose
  exact fun _ => trivial

set_option maxHeartbeats 2000000 in
theorem calm_program  : Calm P (fun _ => True) ((program : Sem Program)) := by
  unfold program
  exact trivial

set_option maxHeartbeats 2000000 in
theorem calm_getObj (r : Nat) : Calm P (fun _ => True) (getObj r) := by
  unfold getObj
  exact fun _ => trivial

end
section
variable {P : Program}

set_option maxHeartbeats 2000000 in
theorem calm_mayBeOne (a b : Addr) : Calm P (fun _ => True) (mayBeOne a b) := by
  unfold mayBeOne
  (repeat' first | (with_reducible exact calm_shape _) | (with_reducible exact calm_frozen _) | (with_reducible refine calm_ite ?_ ?_) | with_reducible refine calm_bind ?_ (fun _ => ?_) | (first | assumption | exact trivial | exact calm_pure trivial | (refine calm_pure ?_; first | exact trivial | assumption) | exact calm_halt trivial | refine calm_map ?_ (fun _ => ?_) | refine calm_bind ?_ (fun _ => ?_) | intro _ | split) | dsimp only)

set_option maxHeartbeats 2000000 in
theorem calm_behindNumber (a : Addr) : Calm P (fun _ => True) (behindNumber a) := by
  unfold behindNumber
  (repeat' first | (with_reducible exact calm_numberAt _) | with_reducible refine calm_bind ?_ (fun _ => ?_) | (first | assumption | exact trivial | exact calm_pure trivial | (refine calm_pure ?_; first | exact trivial | assumption) | exact calm_halt trivial | refine calm_map ?_ (fun _ => ?_) | refine calm_bind ?_ (fun _ => ?_) | intro _ | split) | dsimp only)

end
section
variable {P : Program}

set_option maxHeartbeats 2000000 in
theorem calm_sameAddr (a b : Addr) : Calm P (fun _ => True) (sameAddr a b) := by
  unfold sameAddr
  (repeat' first | (with_reducible exact calm_mayBeOne _ _) | (with_reducible exact calm_choose _) | (with_reducible exact calm_frozen _) | (with_reducible exact calm_noView _) | (with_reducible refine calm_ite ?_ ?_) | with_reducible refine calm_bind ?_ (fun _ => ?_) | (first | assumption | exact trivial | exact calm_pure trivial | (refine calm_pure ?_; first | exact trivial | assumption) | exact calm_halt trivial | refine calm_map ?_ (fun _ => ?_) | refine calm_bind ?_ (fun _ => ?_) | intro _ | split) | dsimp only)

set_option maxHeartbeats 2000000 in
theorem calm_asNumber (a : Addr) (b : Bool) : Calm P (fun _ => True) (asNumber a b) := by
  unfold asNumber
  (repeat' first | with_reducible refine calm_bind ?_ (fun _ => ?_) | (first | assumption | exact trivial | exact calm_pure trivial | (refine calm_pure ?_; first | exact trivial | assumption) | exact calm_halt trivial | refine calm_map ?_ (fun _ => ?_) | refine calm_bind ?_ (fun _ => ?_) | intro _ | split) | dsimp only)
  all_goals exact calm_newObj _ trivial

end
section
variable {P : Program}

set_option maxHeartbeats 2000000 in
theorem calm_samePointer (a b : Option Addr) : Calm P (fun _ => True) (samePointer a b) := by
  unfold samePointer
  (repeat' first | (with_reducible exact calm_sameAddr _ _) | with_reducible refine calm_bind ?_ (fun _ => ?_) | (first | assumption | exact trivial | exact calm_pure trivial | (refine calm_pure ?_; first | exact trivial | assumption) | exact calm_halt trivial | refine calm_map ?_ (fun _ => ?_) | refine calm_bind ?_ (fun _ => ?_) | intro _ | split) | dsimp only)

set_option maxHeartbeats 2000000 in
theorem calm_shift (o : BinOp) (k : IntKind) (x : Int) (j : IntKind) (y : Int) : Calm P (fun _ => True) (Op.shift o k x j y) := by
  unfold Op.shift
  (repeat' first | (with_reducible exact calm_panicR _) | (with_reducible refine calm_ite ?_ ?_) | with_reducible refine calm_bind ?_ (fun _ => ?_) | (first | assumption | exact trivial | exact calm_pure trivial | (refine calm_pure ?_; first | exact trivial | assumption) | exact calm_halt trivial | refine calm_map ?_ (fun _ => ?_) | refine calm_bind ?_ (fun _ => ?_) | intro _ | split) | dsimp only)

set_option maxHeartbeats 2000000 in
theorem calm_intArith (o : BinOp) (k : IntKind) (x y : Int) : Calm P (fun _ => True) (Op.intArith o k x y) := by
  unfold Op.intArith
  (repeat' first | with_reducible refine calm_bind ?_ (fun _ => ?_) | (first | assumption | exact trivial | exact calm_pure trivial | (refine calm_pure ?_; first | exact trivial | assumption) | exact calm_halt trivial | refine calm_map ?_ (fun _ => ?_) | refine calm_bind ?_ (fun _ => ?_) | intro _ | split) | dsimp only)

set_option maxHeartbeats 2000000 in
theorem calm_intDiv (o : BinOp) (k : IntKind) (x y : Int) : Calm P (fun _ => True) (Op.intDiv o k x y) := by
  unfold Op.intDiv
  (repeat' first | (with_reducible exact calm_panicR _) | (with_reducible refine calm_ite ?_ ?_) | with_reducible refine calm_bind ?_ (fun _ => ?_) | (first | assumption | exact trivial | exact calm_pure trivial | (refine calm_pure ?_; first | exact trivial | assumption) | exact calm_halt trivial | refine calm_map ?_ (fun _ => ?_) | refine calm_bind ?_ (fun _ => ?_) | intro _ | split) | dsimp only)

set_option maxHeartbeats 2000000 in
theorem calm_intBits (o : BinOp) (k : IntKind) (x y : Int) : Calm P (fun _ => True) (Op.intBits o k x y) := by
  unfold Op.intBits
  (repeat' first | with_reducible refine calm_bind ?_ (fun _ => ?_) | (first | assumption | exact trivial | exact calm_pure trivial | (refine calm_pure ?_; first | exact trivial | assumption) | exact calm_halt trivial | refine calm_map ?_ (fun _ => ?_) | refine calm_bind ?_ (fun _ => ?_) | intro _ | split) | dsimp only)

set_option maxHeartbeats 2000000 in
theorem calm_intCmp (o : BinOp) (x y : Int) : Calm P (fun _ => True) (Op.intCmp o x y) := by
  unfold Op.intCmp
  (repeat' first | with_reducible refine calm_bind ?_ (fun _ => ?_) | (first | assumption | exact trivial | exact calm_pure trivial | (refine calm_pure ?_; first | exact trivial | assumption) | exact calm_halt trivial | refine calm_map ?_ (fun _ => ?_) | refine calm_bind ?_ (fun _ => ?_) | intro _ | split) | dsimp only)

set_option maxHeartbeats 2000000 in
theorem calm_stringOp (o : BinOp) (x y : ByteArray) : Calm P (fun _ => True) (Op.stringOp o x y) := by
  unfold Op.stringOp
  (repeat' first | (with_reducible refine calm_ite ?_ ?_) | with_reducible refine calm_bind ?_ (fun _ => ?_) | (first | assumption | exact trivial | exact calm_pure trivial | (refine calm_pure ?_; first | exact trivial | assumption) | exact calm_halt trivial | refine calm_map ?_ (fun _ => ?_) | refine calm_bind ?_ (fun _ => ?_) | intro _ | split) | dsimp only)

set_option maxHeartbeats 2000000 in
theorem calm_floatArith (o : BinOp) (k : FloatKind) (x y : Nat) : Calm P (fun _ => True) (Op.floatArith o k x y) := by
  unfold Op.floatArith
  (repeat' first | (with_reducible exact calm_choose _) | with_reducible refine calm_bind ?_ (fun _ => ?_) | (first | assumption | exact trivial | exact calm_pure trivial | (refine calm_pure ?_; first | exact trivial | assumption) | exact calm_halt trivial | refine calm_map ?_ (fun _ => ?_) | refine calm_bind ?_ (fun _ => ?_) | intro _ | split) | dsimp only)

set_option maxHeartbeats 2000000 in
theorem calm_floatCmp (o : BinOp) (k : FloatKind) (x y : Nat) : Calm P (fun _ => True) (Op.floatCmp o k x y) := by
  unfold Op.floatCmp
  (repeat' first | with_reducible refine calm_bind ?_ (fun _ => ?_) | (first | assumption | exact trivial | exact calm_pure trivial | (refine calm_pure ?_; first | exact trivial | assumption) | exact calm_halt trivial | refine calm_map ?_ (fun _ => ?_) | refine calm_bind ?_ (fun _ => ?_) | intro _ | split) | dsimp only)

set_option maxHeartbeats 2000000 in
theorem calm_floatToFloat (k : FloatKind) (x : Nat) (j : FloatKind) : Calm P (fun _ => True) (Conv.floatToFloat k x j) := by
  unfold Conv.floatToFloat
  (repeat' first | (with_reducible exact calm_choose _) | (with_reducible refine calm_ite ?_ ?_) | with_reducible refine calm_bind ?_ (fun _ => ?_) | (first | assumption | exact trivial | exact calm_pure trivial | (refine calm_pure ?_; first | exact trivial | assumption) | exact calm_halt trivial | refine calm_map ?_ (fun _ => ?_) | refine calm_bind ?_ (fun _ => ?_) | intro _ | split) | dsimp only)

set_option maxHeartbeats 2000000 in
theorem calm_twoPlaces (a b : Addr) : Calm P (fun _ => True) (Op.twoPlaces a b) := by
  unfold Op.twoPlaces
  (repeat' first | (with_reducible exact calm_program) | (with_reducible exact calm_byteOf _) | (with_reducible refine calm_ite ?_ ?_) | with_reducible refine calm_bind ?_ (fun _ => ?_) | (first | assumption | exact trivial | exact calm_pure trivial | (refine calm_pure ?_; first | exact trivial | assumption) | exact calm_halt trivial | refine calm_map ?_ (fun _ => ?_) | refine calm_bind ?_ (fun _ => ?_) | intro _ | split) | dsimp only)

set_option maxHeartbeats 2000000 in
theorem calm_unsafeAdd (ts : Array TypeId) (t : TypeId) (as : Array Value) : Calm P (fun _ => True) (Builtin.unsafeAdd_ ts t as) := by
  unfold Builtin.unsafeAdd_
  obtain ⟨l⟩ := as
  rcases l with _ | ⟨x, _ | ⟨y, _ | ⟨z, l⟩⟩⟩
  · exact trivial
  · cases x <;> exact trivial
  · cases x <;> first | exact trivial | (repeat' first | (with_reducible exact calm_program) | (with_reducible exact calm_shape _) | (with_reducible exact calm_viewAt _) | (with_reducible exact calm_asIntOf _) | (with_reducible refine calm_ite ?_ ?_) | with_reducible refine calm_bind ?_ (fun _ => ?_) | (first | assumption | exact trivial | exact calm_pure trivial | (refine calm_pure ?_; first | exact trivial | assumption) | exact calm_halt trivial | refine calm_map ?_ (fun _ => ?_) | refine calm_bind ?_ (fun _ => ?_) | intro _ | split) | dsimp only)
  · cases x <;> exact trivial

end
section
variable {P : Program}

set_option maxHeartbeats 2000000 in
theorem calm_cxArith (o : BinOp) (k : FloatKind) (x y : Nat) : Calm P (fun _ => True) (Op.Complex.arith o k x y) := by
  unfold Op.Complex.arith
  (repeat' first | (with_reducible exact calm_floatArith _ _ _ _) | with_reducible refine calm_bind ?_ (fun _ => ?_) | (first | assumption | exact trivial | exact calm_pure trivial | (refine calm_pure ?_; first | exact trivial | assumption) | exact calm_halt trivial | refine calm_map ?_ (fun _ => ?_) | refine calm_bind ?_ (fun _ => ?_) | intro _ | split) | dsimp only)

set_option maxHeartbeats 2000000 in
theorem calm_cxCmp (o : BinOp) (k : FloatKind) (x y : Nat) : Calm P (fun _ => True) (Op.Complex.cmp o k x y) := by
  unfold Op.Complex.cmp
  (repeat' first | (with_reducible exact calm_floatCmp _ _ _ _) | (with_reducible exact calm_asBool _) | with_reducible refine calm_bind ?_ (fun _ => ?_) | (first | assumption | exact trivial | exact calm_pure trivial | (refine calm_pure ?_; first | exact trivial | assumption) | exact calm_halt trivial | refine calm_map ?_ (fun _ => ?_) | refine calm_bind ?_ (fun _ => ?_) | intro _ | split) | dsimp only)

set_option maxHeartbeats 2000000 in
theorem calm_cxConv (k : FloatKind) (x : Nat) (j : FloatKind) : Calm P (fun _ => True) (Op.Complex.conv k x j) := by
  unfold Op.Complex.conv
  (repeat' first | (with_reducible exact calm_floatToFloat _ _ _) | (with_reducible refine calm_ite ?_ ?_) | with_reducible refine calm_bind ?_ (fun _ => ?_) | (first | assumption | exact trivial | exact calm_pure trivial | (refine calm_pure ?_; first | exact trivial | assumption) | exact calm_halt trivial | refine calm_map ?_ (fun _ => ?_) | refine calm_bind ?_ (fun _ => ?_) | intro _ | split) | dsimp only)

end
section
variable {P : Program}

set_option maxHeartbeats 2000000 in
theorem calm_cxadd (x y : Nat) : Calm P (fun _ => True) (Op.Complex.add x y) := by
  unfold Op.Complex.add
  (repeat' first | (with_reducible exact calm_cxArith _ _ _ _) | with_reducible refine calm_bind ?_ (fun _ => ?_) | (first | assumption | exact trivial | exact calm_pure trivial | (refine calm_pure ?_; first | exact trivial | assumption) | exact calm_halt trivial | refine calm_map ?_ (fun _ => ?_) | refine calm_bind ?_ (fun _ => ?_) | intro _ | split) | dsimp only)

set_option maxHeartbeats 2000000 in
theorem calm_cxsub (x y : Nat) : Calm P (fun _ => True) (Op.Complex.sub x y) := by
  unfold Op.Complex.sub
  (repeat' first | (with_reducible exact calm_cxArith _ _ _ _) | with_reducible refine calm_bind ?_ (fun _ => ?_) | (first | assumption | exact trivial | exact calm_pure trivial | (refine calm_pure ?_; first | exact trivial | assumption) | exact calm_halt trivial | refine calm_map ?_ (fun _ => ?_) | refine calm_bind ?_ (fun _ => ?_) | intro _ | split) | dsimp only)

set_option maxHeartbeats 2000000 in
theorem calm_cxmul (x y : Nat) : Calm P (fun _ => True) (Op.Complex.mul x y) := by
  unfold Op.Complex.mul
  (repeat' first | (with_reducible exact calm_cxArith _ _ _ _) | with_reducible refine calm_bind ?_ (fun _ => ?_) | (first | assumption | exact trivial | exact calm_pure trivial | (refine calm_pure ?_; first | exact trivial | assumption) | exact calm_halt trivial | refine calm_map ?_ (fun _ => ?_) | refine calm_bind ?_ (fun _ => ?_) | intro _ | split) | dsimp only)

set_option maxHeartbeats 2000000 in
theorem calm_cxquo (x y : Nat) : Calm P (fun _ => True) (Op.Complex.quo x y) := by
  unfold Op.Complex.quo
  (repeat' first | (with_reducible exact calm_cxArith _ _ _ _) | with_reducible refine calm_bind ?_ (fun _ => ?_) | (first | assumption | exact trivial | exact calm_pure trivial | (refine calm_pure ?_; first | exact trivial | assumption) | exact calm_halt trivial | refine calm_map ?_ (fun _ => ?_) | refine calm_bind ?_ (fun _ => ?_) | intro _ | split) | dsimp only)

end
section
variable {P : Program}

set_option maxHeartbeats 2000000 in
theorem calm_cxProduct (a b c d : Nat) : Calm P (fun _ => True) (Op.Complex.product a b c d) := by
  unfold Op.Complex.product
  (repeat' first | (with_reducible exact calm_cxmul _ _) | (with_reducible exact calm_cxsub _ _) | (with_reducible exact calm_cxadd _ _) | with_reducible refine calm_bind ?_ (fun _ => ?_) | (first | assumption | exact trivial | exact calm_pure trivial | (refine calm_pure ?_; first | exact trivial | assumption) | exact calm_halt trivial | refine calm_map ?_ (fun _ => ?_) | refine calm_bind ?_ (fun _ => ?_) | intro _ | split) | dsimp only)

set_option maxHeartbeats 2000000 in
theorem calm_cxCorrected (s a b c d : Nat) : Calm P (fun _ => True) (Op.Complex.corrected s a b c d) := by
  unfold Op.Complex.corrected
  (repeat' first | (with_reducible exact calm_cxmul _ _) | (with_reducible exact calm_cxsub _ _) | (with_reducible exact calm_cxadd _ _) | with_reducible refine calm_bind ?_ (fun _ => ?_) | (first | assumption | exact trivial | exact calm_pure trivial | (refine calm_pure ?_; first | exact trivial | assumption) | exact calm_halt trivial | refine calm_map ?_ (fun _ => ?_) | refine calm_bind ?_ (fun _ => ?_) | intro _ | split) | dsimp only)

end
section
variable {P : Program}

set_option maxHeartbeats 2000000 in
theorem calm_cxQuotient (a b c d : Nat) : Calm P (fun _ => True) (Op.Complex.quotient a b c d) := by
  unfold Op.Complex.quotient
  (repeat' first | (with_reducible exact calm_cxCorrected _ _ _ _ _) | (with_reducible exact calm_cxquo _ _) | (with_reducible exact calm_cxmul _ _) | (with_reducible exact calm_cxsub _ _) | (with_reducible exact calm_cxadd _ _) | (with_reducible exact calm_cxCmp _ _ _ _) | (with_reducible refine calm_ite ?_ ?_) | with_reducible refine calm_bind ?_ (fun _ => ?_) | (first | assumption | exact trivial | exact calm_pure trivial | (refine calm_pure ?_; first | exact trivial | assumption) | exact calm_halt trivial | refine calm_map ?_ (fun _ => ?_) | refine calm_bind ?_ (fun _ => ?_) | intro _ | split) | dsimp only)

end
section
variable {P : Program}

set_option maxHeartbeats 2000000 in
theorem calm_complexOp (o : BinOp) (k : FloatKind) (x y z u : Nat) : Calm P (fun _ => True) (Op.complexOp o k x y z u) := by
  unfold Op.complexOp
  (repeat' first | (with_reducible exact calm_cxQuotient _ _ _ _) | (with_reducible exact calm_cxProduct _ _ _ _) | (with_reducible exact calm_cxConv _ _ _) | (with_reducible exact calm_cxCmp _ _ _ _) | (with_reducible exact calm_cxArith _ _ _ _) | (with_reducible refine calm_ite ?_ ?_) | with_reducible refine calm_bind ?_ (fun _ => ?_) | (first | assumption | exact trivial | exact calm_pure trivial | (refine calm_pure ?_; first | exact trivial | assumption) | exact calm_halt trivial | refine calm_map ?_ (fun _ => ?_) | refine calm_bind ?_ (fun _ => ?_) | intro _ | split) | dsimp only)

end
section
variable {P : Program}

set_option maxHeartbeats 2000000 in
theorem calm_addrSub (k : IntKind) (a b : Addr) : Calm P (fun _ => True) (Op.addrSub k a b) := by
  unfold Op.addrSub
  (repeat' first | (with_reducible exact calm_twoPlaces _ _) | with_reducible refine calm_bind ?_ (fun _ => ?_) | (first | assumption | exact trivial | exact calm_pure trivial | (refine calm_pure ?_; first | exact trivial | assumption) | exact calm_halt trivial | refine calm_map ?_ (fun _ => ?_) | refine calm_bind ?_ (fun _ => ?_) | intro _ | split) | dsimp only)

set_option maxHeartbeats 2000000 in
theorem calm_addrCmp (o : BinOp) (a b : Addr) : Calm P (fun _ => True) (Op.addrCmp o a b) := by
  unfold Op.addrCmp
  (repeat' first | (with_reducible exact calm_twoPlaces _ _) | with_reducible refine calm_bind ?_ (fun _ => ?_) | (first | assumption | exact trivial | exact calm_pure trivial | (refine calm_pure ?_; first | exact trivial | assumption) | exact calm_halt trivial | refine calm_map ?_ (fun _ => ?_) | refine calm_bind ?_ (fun _ => ?_) | intro _ | split) | dsimp only)

set_option maxHeartbeats 2000000 in
theorem calm_addrMod (k : IntKind) (a : Addr) (n : Int) : Calm P (fun _ => True) (Op.addrMod k a n) := by
  unfold Op.addrMod
  (repeat' first | (with_reducible exact calm_program) | (with_reducible exact calm_shape _) | (with_reducible exact calm_byteOf _) | (with_reducible refine calm_ite ?_ ?_) | with_reducible refine calm_bind ?_ (fun _ => ?_) | (first | assumption | exact trivial | exact calm_pure trivial | (refine calm_pure ?_; first | exact trivial | assumption) | exact calm_halt trivial | refine calm_map ?_ (fun _ => ?_) | refine calm_bind ?_ (fun _ => ?_) | intro _ | split) | dsimp only)

set_option maxHeartbeats 2000000 in
theorem calm_movedNumber (t : TypeId) (x y : Value) : Calm P (fun _ => True) (movedNumber t x y) := by
  unfold movedNumber
  (repeat' first | (with_reducible exact calm_unsafeAdd _ _ _) | (with_reducible exact calm_asNumber _ _) | (with_reducible exact calm_behindNumber _) | (with_reducible exact calm_program) | (with_reducible refine calm_ite ?_ ?_) | with_reducible refine calm_bind ?_ (fun _ => ?_) | (first | assumption | exact trivial | exact calm_pure trivial | (refine calm_pure ?_; first | exact trivial | assumption) | exact calm_halt trivial | refine calm_map ?_ (fun _ => ?_) | refine calm_bind ?_ (fun _ => ?_) | intro _ | split) | dsimp only)

set_option maxHeartbeats 2000000 in
theorem calm_movedPointer (t : TypeId) (x y : Value) : Calm P (fun _ => True) (movedPointer t x y) := by
  unfold movedPointer
  (repeat' first | (with_reducible exact calm_unsafeAdd _ _ _) | (with_reducible exact calm_numberAt _) | (with_reducible refine calm_ite ?_ ?_) | with_reducible refine calm_bind ?_ (fun _ => ?_) | (first | assumption | exact trivial | exact calm_pure trivial | (refine calm_pure ?_; first | exact trivial | assumption) | exact calm_halt trivial | refine calm_map ?_ (fun _ => ?_) | refine calm_bind ?_ (fun _ => ?_) | intro _ | split) | dsimp only)

set_option maxHeartbeats 2000000 in
theorem calm_unary (o : UnOp) (x : Value) : Calm P (fun _ => True) (Op.unary o x) := by
  unfold Op.unary
  (repeat' first | (with_reducible exact calm_intBits _ _ _ _) | (with_reducible exact calm_intArith _ _ _ _) | with_reducible refine calm_bind ?_ (fun _ => ?_) | (first | assumption | exact trivial | exact calm_pure trivial | (refine calm_pure ?_; first | exact trivial | assumption) | exact calm_halt trivial | refine calm_map ?_ (fun _ => ?_) | refine calm_bind ?_ (fun _ => ?_) | intro _ | split) | dsimp only)

set_option maxHeartbeats 2000000 in
theorem calm_min2 (x y : Value) : Calm P (fun _ => True) (Builtin.min2 x y) := by
  unfold Builtin.min2
  (repeat' first | (with_reducible exact calm_stringOp _ _ _) | (with_reducible exact calm_choose _) | (with_reducible exact calm_asBool _) | with_reducible refine calm_bind ?_ (fun _ => ?_) | (first | assumption | exact trivial | exact calm_pure trivial | (refine calm_pure ?_; first | exact trivial | assumption) | exact calm_halt trivial | refine calm_map ?_ (fun _ => ?_) | refine calm_bind ?_ (fun _ => ?_) | intro _ | split) | dsimp only)

set_option maxHeartbeats 2000000 in
theorem calm_equalIn (d : Nat) (t : TypeId) (x y : Value) : Calm P (fun _ => True) (Op.equalIn d t x y) := by
  induction d generalizing t x y with
  | zero => unfold Op.equalIn; exact trivial
  | succ d ih =>
    unfold Op.equalIn
    repeat' first | exact ih _ _ _ | (repeat' first | (with_reducible exact calm_samePointer _ _) | (with_reducible exact calm_sameAddr _ _) | (with_reducible exact calm_behindNumber _) | (with_reducible exact calm_program) | (with_reducible exact calm_choose _) | (with_reducible exact calm_typeStr _) | (with_reducible exact calm_part _ _ _) | (with_reducible exact calm_byteOf _) | (with_reducible exact calm_panicR _) | (with_reducible exact calm_sizeOf _) | (with_reducible refine calm_ite ?_ ?_) | (with_reducible refine calm_forIn (fun _ _ => ?_) _ _) | (with_reducible refine calm_rangeForIn (fun _ _ => ?_) _ _) | with_reducible refine calm_bind ?_ (fun _ => ?_) | (first | assumption | exact trivial | exact calm_pure trivial | (refine calm_pure ?_; first | exact trivial | assumption) | exact calm_halt trivial | refine calm_map ?_ (fun _ => ?_) | refine calm_bind ?_ (fun _ => ?_) | intro _ | split) | dsimp only)

set_option maxHeartbeats 2000000 in
theorem calm_eqGuardIn (d : Nat) (t : TypeId) (x y : Value) : Calm P (fun _ => True) (Op.eqGuardIn d t x y) := by
  induction d generalizing t x y with
  | zero => unfold Op.eqGuardIn; exact trivial
  | succ d ih =>
    unfold Op.eqGuardIn
    repeat' first | exact ih _ _ _ | (repeat' first | (with_reducible exact calm_program) | (with_reducible exact calm_part _ _ _) | (with_reducible exact calm_sizeOf _) | (with_reducible refine calm_ite ?_ ?_) | (with_reducible refine calm_forIn (fun _ _ => ?_) _ _) | (with_reducible refine calm_rangeForIn (fun _ _ => ?_) _ _) | with_reducible refine calm_bind ?_ (fun _ => ?_) | (first | assumption | exact trivial | exact calm_pure trivial | (refine calm_pure ?_; first | exact trivial | assumption) | exact calm_halt trivial | refine calm_map ?_ (fun _ => ?_) | refine calm_bind ?_ (fun _ => ?_) | intro _ | split) | dsimp only)

end
section
variable {P : Program}

set_option maxHeartbeats 2000000 in
theorem calm_equal (t : TypeId) (x y : Value) : Calm P (fun _ => True) (Op.equal t x y) := by
  unfold Op.equal
  (repeat' first | (with_reducible exact calm_equalIn _ _ _ _) | with_reducible refine calm_bind ?_ (fun _ => ?_) | (first | assumption | exact trivial | exact calm_pure trivial | (refine calm_pure ?_; first | exact trivial | assumption) | exact calm_halt trivial | refine calm_map ?_ (fun _ => ?_) | refine calm_bind ?_ (fun _ => ?_) | intro _ | split) | dsimp only)

end
section
variable {P : Program}

set_option maxHeartbeats 2000000 in
theorem calm_binOp (o : BinOp) (t : TypeId) (x y : Value) : Calm P (fun _ => True) (binOp o t x y) := by
  unfold binOp
  (repeat' first | (with_reducible exact calm_equal _ _ _) | (with_reducible exact calm_movedPointer _ _ _) | (with_reducible exact calm_movedNumber _ _ _) | (with_reducible exact calm_addrMod _ _ _) | (with_reducible exact calm_addrCmp _ _ _) | (with_reducible exact calm_addrSub _ _ _) | (with_reducible exact calm_complexOp _ _ _ _ _ _) | (with_reducible exact calm_floatCmp _ _ _ _) | (with_reducible exact calm_floatArith _ _ _ _) | (with_reducible exact calm_stringOp _ _ _) | (with_reducible exact calm_intCmp _ _ _) | (with_reducible exact calm_intBits _ _ _ _) | (with_reducible exact calm_intDiv _ _ _ _) | (with_reducible exact calm_intArith _ _ _ _) | (with_reducible exact calm_shift _ _ _ _ _) | (with_reducible exact calm_behindNumber _) | (with_reducible exact calm_program) | (with_reducible refine calm_ite ?_ ?_) | with_reducible refine calm_bind ?_ (fun _ => ?_) | (first | assumption | exact trivial | exact calm_pure trivial | (refine calm_pure ?_; first | exact trivial | assumption) | exact calm_halt trivial | refine calm_map ?_ (fun _ => ?_) | refine calm_bind ?_ (fun _ => ?_) | intro _ | split) | dsimp only)

set_option maxHeartbeats 2000000 in
theorem calm_eqGuard (o : BinOp) (t : TypeId) (x y : Operand) (a b : Value) : Calm P (fun _ => True) (eqGuard o t x y a b) := by
  unfold eqGuard
  (repeat' first | (with_reducible exact calm_eqGuardIn _ _ _ _) | (with_reducible exact calm_program) | (with_reducible refine calm_ite ?_ ?_) | with_reducible refine calm_bind ?_ (fun _ => ?_) | (first | assumption | exact trivial | exact calm_pure trivial | (refine calm_pure ?_; first | exact trivial | assumption) | exact calm_halt trivial | refine calm_map ?_ (fun _ => ?_) | refine calm_bind ?_ (fun _ => ?_) | intro _ | split) | dsimp only)

end
end Go.Proofs.Ytgmhdmhnedljcaa.Co

/-
  Helpers of the claims beside this text: min, max, checks for nil and conversions between integers are calm.
-/
namespace Go.Proofs.Ytgmhdmhnedljcaa.Co
open Go Go.Conc
set_option linter.unusedSimpArgs false
set_option linter.unusedVariables false

section
variable {P : Program}
theorem calm_listFoldlM {α β : Type} {f : β → α → Sem β} (h : ∀ b a, Calm P (fun _ => True) (f b a)) (xs : List α) (b : β) : Calm P (fun _ => True) (xs.foldlM f b) := by
  induction xs generalizing b with
  | nil => exact trivial
  | cons x xs ih => rw [List.foldlM_cons]; exact calm_bind (h b x) fun c => ih c
theorem calm_bmin2 (x y : Value) : Calm P (fun _ => True) (Builtin.min2 x y) := by
  unfold Builtin.min2
  (repeat' first | (with_reducible exact calm_stringOp _ _ _) | (with_reducible exact calm_choose _) | (with_reducible exact calm_asBool _) | with_reducible refine calm_bind ?_ (fun _ => ?_) | (first | assumption | exact trivial | exact calm_pure trivial | (refine calm_pure ?_; first | exact trivial | assumption) | exact calm_halt trivial | refine calm_map ?_ (fun _ => ?_) | refine calm_bind ?_ (fun _ => ?_) | intro _ | split) | dsimp only)
theorem calm_bmax2 (x y : Value) : Calm P (fun _ => True) (Builtin.max2 x y) := by
  unfold Builtin.max2
  (repeat' first | (with_reducible exact calm_stringOp _ _ _) | (with_reducible exact calm_choose _) | (with_reducible exact calm_asBool _) | with_reducible refine calm_bind ?_ (fun _ => ?_) | (first | assumption | exact trivial | exact calm_pure trivial | (refine calm_pure ?_; first | exact trivial | assumption) | exact calm_halt trivial | refine calm_map ?_ (fun _ => ?_) | refine calm_bind ?_ (fun _ => ?_) | intro _ | split) | dsimp only)
theorem calm_bmin (ts : Array TypeId) (t : TypeId) (as : Array Value) : Calm P (fun _ => True) (Builtin.min_ ts t as) := by
  unfold Builtin.min_
  split
  · exact trivial
  · exact calm_listFoldlM (fun b a => calm_bmin2 b a) _ _
theorem calm_bmax (ts : Array TypeId) (t : TypeId) (as : Array Value) : Calm P (fun _ => True) (Builtin.max_ ts t as) := by
  unfold Builtin.max_
  split
  · exact trivial
  · exact calm_listFoldlM (fun b a => calm_bmax2 b a) _ _
theorem calm_floatToInt' (k : FloatKind) (n : Nat) (j : IntKind) : Calm P (fun _ => True) (Conv.floatToInt k n j) := by
  unfold Conv.floatToInt
  (repeat' first | (with_reducible exact calm_choose _) | (with_reducible refine calm_ite ?_ ?_) | with_reducible refine calm_bind ?_ (fun _ => ?_) | (first | assumption | exact trivial | exact calm_pure trivial | (refine calm_pure ?_; first | exact trivial | assumption) | exact calm_halt trivial | refine calm_map ?_ (fun _ => ?_) | refine calm_bind ?_ (fun _ => ?_) | intro _ | split) | dsimp only)
/-- Both are kinds of integers. -/
def intsB (P : Program) (src dst : TypeId) : Bool :=
  match P.underlying src, P.underlying dst with
  | some (.int _), some (.int _) => true
  | _, _ => false
theorem calm_under {α : Type} {L : α → Prop} {t : TypeId} {u : TypeDesc} {f : TypeDesc → Sem α} (h : P.underlying t = some u) (k : Calm P L (f u)) : Calm P L (underlying t >>= f) := by
  have : Calm P L (Sem.bind (match P.underlying t with | some d => (pure d : Sem TypeDesc) | none => stuck "no such type") f) := by rw [h]; exact k
  exact this
theorem calm_convert {src dst : TypeId} (h : intsB P src dst = true) (x : Value) : Calm P (fun _ => True) (convert src dst x) := by
  unfold intsB at h
  split at h
  · next k j h1 h2 =>
    unfold convert
    refine calm_under h1 (calm_under h2 ?_)
    cases x with
    | int q n => exact trivial
    | float s b => exact calm_floatToInt' _ _ _
    | pointer a => cases a <;> exact trivial
    | _ => exact trivial
  · cases h
theorem calm_followBlind (l : List FieldStep) (t : TypeId) (x : Option Value) : Calm P (fun _ => True) (followBlind l t x) := by
  induction l generalizing t x with
  | nil => unfold followBlind; exact trivial
  | cons s l ih =>
    unfold followBlind
    repeat' first | exact ih _ _ | (repeat' first | (with_reducible exact calm_program) | (with_reducible exact calm_part _ _ _) | with_reducible refine calm_bind ?_ (fun _ => ?_) | (first | assumption | exact trivial | exact calm_pure trivial | (refine calm_pure ?_; first | exact trivial | assumption) | exact calm_halt trivial | refine calm_map ?_ (fun _ => ?_) | refine calm_bind ?_ (fun _ => ?_) | intro _ | split) | dsimp only)
theorem calm_nilAhead (n : Nat) (t : TypeId) (v : Value) (name : String) : Calm P (fun _ => True) (nilAhead n t v name) := by
  induction n generalizing t v with
  | zero => unfold nilAhead; exact trivial
  | succ n ih =>
    unfold nilAhead
    repeat' first | exact ih _ _ | exact calm_followBlind _ _ _ | exact calm_typeInfo _ | (repeat' first | (with_reducible exact calm_program) | with_reducible refine calm_bind ?_ (fun _ => ?_) | (first | assumption | exact trivial | exact calm_pure trivial | (refine calm_pure ?_; first | exact trivial | assumption) | exact calm_halt trivial | refine calm_map ?_ (fun _ => ?_) | refine calm_bind ?_ (fun _ => ?_) | intro _ | split) | dsimp only)
end
end Go.Proofs.Ytgmhdmhnedljcaa.Co

/-
  Helpers of the claims beside this text: an operation of plain code is calm, and ends with a value, with nothing, or with a call of a function of the same kind.
-/
namespace Go.Proofs.Ytgmhdmhnedljcaa.Co
open Go Go.Conc
set_option linter.unusedSimpArgs false
set_option linter.unusedVariables false

/-- What an operation of plain code may end with. -/
def LNext (F : FuncId → Bool) : Next → Prop
  | .value _ => True
  | .skip => True
  | .enter f _ => F f = true
  | _ => False
/-- Operations of plain code: no goroutine, no channel, no map, no interface, no closure. -/
def plainB : Builtin → Bool
  | .len | .cap | .append | .copy | .min | .max => true
  | _ => false
def plainOp (P : Program) (F : FuncId → Bool) : Op → Bool
  | .move _ | .assign _ | .pick .. | .alloc _ | .box .. | .build .. | .buildSlice .. | .load .. | .store .. | .binOp .. | .unOp .. => true
  | .makeSlice .. | .slice .. | .fieldAddr .. | .field .. | .indexAddr .. | .index .. | .extract .. => true
  | .nilCheck _ => true
  | .convert src dst _ => intsB P src dst
  | .call { callee := .value (.func f), .. } => F f
  | .call { callee := .builtin b, .. } => plainB b
  | _ => false
/-- The functions of F have bodies. -/
def Bodied (P : Program) (F : FuncId → Bool) : Prop := ∀ f, F f = true → ∃ fn x, P.funcs[f]? = some fn ∧ fn.body = some x ∧ (fn.name == "runtime.NumGoroutine") = false

section
variable {P : Program} {F : FuncId → Bool}
theorem calm_v {s : Sem Value} (h : Calm P (fun _ => True) s) : Calm P (LNext F) (do pure (.value (← s))) := calm_bind h fun _ => trivial
theorem calm_u {s : Sem Unit} (h : Calm P (fun _ => True) s) : Calm P (LNext F) (do s; pure .skip) := calm_bind h fun _ => trivial
theorem calm_callFunc (hB : Bodied P F) {f : FuncId} (hf : F f = true) (args : Array Value) : Calm P (LNext F) (callFunc f args) := by
  obtain ⟨fn, x, h1, h2, h3⟩ := hB f hf
  unfold callFunc program
  show Calm P (LNext F) (Sem.bind (.program .pure) _)
  simp only [Sem.bind]
  show Calm P (LNext F) _
  unfold Calm
  simp only [h1, h2, h3, Option.isNone_some, Bool.false_eq_true, if_false]
  exact hf
theorem calm_exec (hB : Bodied P F) (fr : Frame) (o : Oper) (h : plainOp P F o.op = true) : Calm P (LNext F) (execOp fr.eval o) := by
  unfold execOp
  cases ho : o.op with
  | move x => exact trivial
  | assign x => exact trivial
  | pick c a b => exact calm_bind (calm_asBool _) fun t => by cases t <;> exact trivial
  | alloc e => exact calm_v (calm_alloc _ _ _)
  | box e x => exact calm_v (calm_box _ _)
  | build t ps => exact calm_v (calm_build _ _)
  | buildSlice t n ps => exact calm_v (calm_buildSlice _ _ _)
  | load t a => exact calm_v (calm_loadAt _ _)
  | store t a x => exact calm_u (calm_storeAt _ _ _)
  | binOp op t x y q => exact calm_v (calm_bind (calm_eqGuard _ _ _ _ _ _) fun _ => calm_binOp _ _ _ _)
  | unOp op t x => exact calm_v (calm_unary _ _)
  | makeSlice t l c => exact calm_v (calm_makeSlice _ _ _)
  | slice t x lo hi mx => exact calm_v (calm_sliceAt _ _ _ _ _)
  | fieldAddr s x f => exact calm_v (calm_fieldAt _ _ _)
  | field t x f => exact calm_v (calm_field _ _ _)
  | indexAddr t x i => exact calm_v (calm_indexAt _ _ _)
  | index t x i => exact calm_v (calm_index _ _ _)
  | extract t i => exact calm_v (calm_extract _ _)
  | nilCheck x =>
    dsimp only
    split
    · exact calm_panicR _
    · exact calm_panicR _
    · exact calm_panicR _
    · split
      · exact calm_panicR _
      · refine calm_bind calm_program fun p => calm_bind (calm_nilAhead _ _ _ _) fun r => ?_
        repeat' first | exact trivial | (first | assumption | exact trivial | exact calm_pure trivial | (refine calm_pure ?_; first | exact trivial | assumption) | exact calm_halt trivial | refine calm_map ?_ (fun _ => ?_) | refine calm_bind ?_ (fun _ => ?_) | intro _ | split)
      · exact trivial
    · exact trivial
  | convert src dst x => rw [ho] at h; exact calm_v (calm_convert h _)
  | call c =>
    rw [ho] at h
    obtain ⟨callee, args, ats⟩ := c
    cases callee with
    | builtin b =>
      cases b with
      | append => exact calm_v (calm_append _ _ _)
      | cap => exact calm_v (calm_cap _ _ _)
      | copy => exact calm_v (calm_copy _ _ _)
      | len => exact calm_v (calm_len _ _ _)
      | min => exact calm_v (calm_bmin _ _ _)
      | max => exact calm_v (calm_bmax _ _ _)
      | _ => exact Bool.noConfusion h
    | invoke r n => exact absurd h (by simp [plainOp])
    | value x =>
      cases x with
      | func f => exact calm_callFunc hB h _
      | tmp t => exact absurd h (by simp [plainOp])
      | const v => exact absurd h (by simp [plainOp])
      | global g => exact absurd h (by simp [plainOp])
  | _ => rw [ho] at h; exact absurd h (by simp [plainOp])
end
end Go.Proofs.Ytgmhdmhnedljcaa.Co

/-
  Helpers of the claims beside this text: one step of a goroutine whose frames are of plain code: it goes on (low events, the tape read from its place on), or it ends the run.
-/
namespace Go.Proofs.Ytgmhdmhnedljcaa.Co
open Go Go.Conc
set_option linter.unusedSimpArgs false
set_option linter.unusedVariables false

def plainCode (P : Program) (F : FuncId → Bool) : Code → Bool
  | .skip | .exit _ | .label _ | .ret => true
  | .region _ ops _ => ops.all fun o => plainOp P F o.op
  | .seq a b => plainCode P F a && plainCode P F b
  | .cond _ a b => plainCode P F a && plainCode P F b
  | .block _ b | .loop b => plainCode P F b
  | _ => false
def plainItem (P : Program) (F : FuncId → Bool) : Item → Bool
  | .code c => plainCode P F c
  | .inBlock _ => true
  | .inLoop b => plainCode P F b
  | .inRegion ops _ => ops.all fun o => plainOp P F o.op
  | _ => false
/-- The functions of F are plain, and call none but those of F. -/
def PlainFns (P : Program) (F : FuncId → Bool) : Prop := P.follows .staticDataAhead = true ∧ ∀ f, F f = true → ∃ fn x, P.funcs[f]? = some fn ∧ fn.body = some x ∧ plainCode P F x = true ∧ (fn.name == "runtime.NumGoroutine") = false
structure Fine (P : Program) (F : FuncId → Bool) (fr : Frame) : Prop where
  fn : F fr.fn = true
  todo : ∀ i ∈ fr.todo, plainItem P F i = true
  defers : fr.defers = []
  round : fr.roundOf = none
  kind : fr.kind = .normal

section
variable {P : Program} {F : FuncId → Bool} {main : Bool}
theorem PlainFns.bodied (h : PlainFns P F) : Bodied P F := fun f hf => let ⟨fn, x, h1, h2, _, h3⟩ := h.2 f hf; ⟨fn, x, h1, h2, h3⟩
theorem Fine.enter (h : PlainFns P F) {f : FuncId} (hf : F f = true) (args : Array Value) : Fine P F (Frame.enter P f args .normal) := by
  obtain ⟨fn, x, h1, h2, h3, _⟩ := h.2 f hf
  refine ⟨hf, fun i hi => ?_, rfl, rfl, rfl⟩
  simp [Frame.enter, h1, h2] at hi
  subst hi
  exact h3
theorem Fine.with {fr : Frame} (h : Fine P F fr) {todo : List Item} (ht : ∀ i ∈ todo, plainItem P F i = true) : Fine P F { fr with todo } := ⟨h.fn, ht, h.defers, h.round, h.kind⟩
theorem Fine.mode {fr : Frame} (h : Fine P F fr) (m : FrameMode) : Fine P F { fr with mode := m } := ⟨h.fn, h.todo, h.defers, h.round, h.kind⟩
theorem Fine.raise {fr : Frame} (h : Fine P F fr) (c : List PanicEntry) : Fine P F (fr.raise c) := by
  unfold Frame.raise
  split <;> exact h.mode _
theorem Fine.finish {fr : Frame} (h : Fine P F fr) (v : Value) : Fine P F (fr.finish v) := by
  have ht := h.todo
  unfold Frame.finish
  split
  · next ops i rest k e =>
    rw [e] at ht
    exact ⟨h.fn, fun j hj => by
      rcases List.mem_cons.1 hj with rfl | hj
      · exact ht (.inRegion ops (i :: rest)) (by simp)
      · exact ht j (by simp [hj]), h.defers, h.round, h.kind⟩
  · next l k e => rw [e] at ht; exact absurd (ht _ (List.mem_cons_self ..)) (by simp [plainItem])
  · next k e => rw [e] at ht; exact absurd (ht _ (List.mem_cons_self ..)) (by simp [plainItem])
  · next k e => rw [e] at ht; exact absurd (ht _ (List.mem_cons_self ..)) (by simp [plainItem])
  · next k e => rw [e] at ht; exact absurd (ht _ (List.mem_cons_self ..)) (by simp [plainItem])
  · exact h
theorem exitTo_sub {id : Nat} : ∀ {k k' : List Item}, exitTo id k = some k' → ∀ i ∈ k', i ∈ k
  | [], _, h => (by cases h)
  | it :: k, k', h => fun i hi => by
    cases it <;> first | (simp only [exitTo] at h; exact List.mem_cons_of_mem _ (exitTo_sub h i hi)) | skip
    simp only [exitTo] at h
    split at h
    · cases h; exact List.mem_cons_of_mem _ hi
    · exact List.mem_cons_of_mem _ (exitTo_sub h i hi)

/-- The tape says the same at the k places drawn. -/
def Agree (w : World) (k : Nat) (T : Nat → Question → Nat) (d : Nat) : Prop := ∀ i q, i < k → T (d + i) q = w.tape (w.drawn + i) q
/-- One step of a goroutine whose frames, down to the callers cs, are plain. -/
def Step1 (P : Program) (F : FuncId → Bool) (main : Bool) (fr : Frame) (fs : List Frame) (w : World) : Prop :=
  ∃ k, (∃ fr' fs' w' es, Fine P F fr' ∧ (∀ f ∈ fs', Fine P F f) ∧ w'.drawn = w.drawn + k ∧ w'.tape = w.tape ∧ (∀ e ∈ es, LowL w'.heap.size e.loc) ∧ w.heap.size ≤ w'.heap.size ∧ NoPend P w' ∧
      ∀ cs T d, Agree w k T d → stepG P main (G fr (fs ++ cs)) (tp w T d) = .go (G fr' (fs' ++ cs)) (tp w' T (d + k)) es) ∨
    ∀ cs T d, Agree w k T d → ∃ o w' es, stepG P main (G fr (fs ++ cs)) (tp w T d) = .ended o w' es
variable {fr : Frame} {fs : List Frame} {w : World}
theorem step1_go {fr' : Frame} {fs' : List Frame} (hp : NoPend P w) (h1 : Fine P F fr') (h2 : ∀ f ∈ fs', Fine P F f) (h : ∀ cs w, stepG P main (G fr (fs ++ cs)) w = .go (G fr' (fs' ++ cs)) w #[]) : Step1 P F main fr fs w :=
  ⟨0, .inl ⟨fr', fs', w, #[], h1, h2, rfl, rfl, by simp, Nat.le_refl _, hp, fun cs T d _ => h cs _⟩⟩
theorem step1_end (h : ∀ cs w, ∃ o w' es, stepG P main (G fr (fs ++ cs)) w = .ended o w' es) : Step1 P F main fr fs w :=
  ⟨0, .inr fun cs T d _ => h cs _⟩
/-- A step that is read off a calm meaning. -/
theorem step1_sem {α : Type} {L : α → Prop} {s : Sem α} (hc : Calm P L s) (hp : NoPend P w)
    (hok : ∀ a, L a → ∃ (fr' : Frame) (fs' : List Frame) (ev : Array Event → Array Event), Fine P F fr' ∧ (∀ f ∈ fs', Fine P F f) ∧ (∀ es, ∀ e ∈ ev es, e ∈ es) ∧
      ∀ cs w w' es, s.run P w = .ok a w' → s.events P w #[] = es → stepG P main (G fr (fs ++ cs)) w = .go (G fr' (fs' ++ cs)) w' (ev es))
    (hhalt : ∀ h, okHalt P h → (∃ (fr' : Frame) (fs' : List Frame) (ev : Array Event → Array Event), Fine P F fr' ∧ (∀ f ∈ fs', Fine P F f) ∧ (∀ es, ∀ e ∈ ev es, e ∈ es) ∧
      ∀ cs w w' es, s.run P w = .halt h w' → s.events P w #[] = es → stepG P main (G fr (fs ++ cs)) w = .go (G fr' (fs' ++ cs)) w' (ev es)) ∨
      ∀ cs w w' es, s.run P w = .halt h w' → s.events P w #[] = es → ∃ o w'' es', stepG P main (G fr (fs ++ cs)) w = .ended o w'' es') : Step1 P F main fr fs w := by
  obtain ⟨k, h1, h2, h3⟩ := same_run s hc w #[]
  have hl := left_run s hc w #[]
  generalize hr : s.runT P w #[] = r at h1 h2 h3 hl
  obtain ⟨r, es⟩ := r
  have hp' := hl.pend hp
  have hg := hl.grow
  have he : ∀ e ∈ es, LowL (wOf r).heap.size e.loc := fun e he => (hl.evs e he).resolve_left (by simp)
  cases r with
  | ok a w' =>
    obtain ⟨fr', fs', ev, f1, f2, f3, f4⟩ := hok a (hl.leaf a w' rfl)
    exact ⟨k, .inl ⟨fr', fs', w', ev es, f1, f2, h1, h2, fun e hm => he e (f3 es e hm), hg, hp', fun cs T d hT => f4 _ _ _ _ (by rw [← Sem.runT_fst (es := #[]), h3 T d hT]; rfl) (by show ((s.runT P (tp w T d) #[]).2) = _; rw [h3 T d hT])⟩⟩
  | halt h w' =>
    rcases hhalt h (hl.halt hp h w' rfl) with ⟨fr', fs', ev, f1, f2, f3, f4⟩ | f4
    · exact ⟨k, .inl ⟨fr', fs', w', ev es, f1, f2, h1, h2, fun e hm => he e (f3 es e hm), hg, hp', fun cs T d hT => f4 _ _ _ _ (by rw [← Sem.runT_fst (es := #[]), h3 T d hT]; rfl) (by show ((s.runT P (tp w T d) #[]).2) = _; rw [h3 T d hT])⟩⟩
    · exact ⟨k, .inr fun cs T d hT => f4 _ _ _ _ (by rw [← Sem.runT_fst (es := #[]), h3 T d hT]; rfl) (by show ((s.runT P (tp w T d) #[]).2) = _; rw [h3 T d hT])⟩
end

section
variable {P : Program} {F : FuncId → Bool} {main : Bool} {fr : Frame} {fs : List Frame} {w : World}
theorem seen_sub {fn : FuncId} (es : Array Event) : ∀ e ∈ seen P fn es, e ∈ es := fun e h => mem_seen h
/-- One operation. -/
theorem step1_op (hP : PlainFns P F) (hfr : Fine P F fr) (hfs : ∀ f ∈ fs, Fine P F f) (hp : NoPend P w) (hm : fr.mode = .run) {ops : Array Oper} {i : Nat} {rest : List Nat} {k : List Item} (ht : fr.todo = .inRegion ops (i :: rest) :: k) :
    Step1 P F main fr fs w := by
  have hops : ∀ o, ops[i]? = some o → plainOp P F o.op = true := fun o ho => by
    have := hfr.todo (.inRegion ops (i :: rest)) (by rw [ht]; simp)
    obtain ⟨hi, rfl⟩ := Array.getElem?_eq_some_iff.1 ho
    exact (Array.all_eq_true.1 this) i hi
  have hk : (fr.kind == CallKind.early) = false := by rw [hfr.kind]; rfl
  by_cases hw : ((ops[i]?).map (Region.wanted · (yielded ops fr.tmps))).getD false = true
  · cases ho : ops[i]? with
    | none => rw [ho] at hw; cases hw
    | some o =>
      have hw' := hw
      rw [ho] at hw'
      have e : ∀ cs w, stepG P main (G fr (fs ++ cs)) w = stepG.apply P true fr (fs ++ cs) none (execOp fr.eval o) w := fun cs w => by
        simp only [Option.map_some, Option.getD_some] at hw'
        simp [G, stepG, stepG.exec, stepG.oper, Frame.oper?, hm, ht, ho, hfr.round, hw']
      refine step1_sem (calm_exec hP.bodied fr o (hops o ho)) hp ?_ ?_
      · intro a ha
        cases a with
        | value v => exact ⟨_, _, seen P fr.fn, hfr.finish v, hfs, seen_sub, fun cs w w' es hr hev => by rw [e]; simp [stepG.apply, hr, hev, hk, GStep.after, G]⟩
        | skip => exact ⟨_, _, seen P fr.fn, hfr.finish undef, hfs, seen_sub, fun cs w w' es hr hev => by rw [e]; simp [stepG.apply, hr, hev, hk, GStep.after, G]⟩
        | enter f args => exact ⟨_, fr :: fs, seen P fr.fn, Fine.enter hP ha args, fun f hf => by
            rcases List.mem_cons.1 hf with rfl | hf
            · exact hfr
            · exact hfs f hf, seen_sub, fun cs w w' es hr hev => by rw [e]; simp [stepG.apply, hr, hev, hk, GStep.after, G, ht]⟩
        | _ => exact ha.elim
      · intro h hh
        cases h with
        | panic v => exact .inl ⟨_, _, seen P fr.fn, hfr.raise [{ v, recovered := false }], hfs, seen_sub, fun cs w w' es hr hev => by rw [e]; simp [stepG.apply, hr, hev, hk, GStep.after, G]⟩
        | stuck s => exact .inr fun cs w w' es hr hev => ⟨_, _, _, by rw [e]; simp [stepG.apply, hr, GStep.after]; exact ⟨rfl, rfl, rfl⟩⟩
        | unsupported u =>
          refine .inr fun cs w w' es hr hev => ?_
          cases u with
          | initOrder g =>
            have hg : P.stepOf g = none := hh
            exact ⟨_, _, _, by rw [e]; simp [stepG.apply, hr, early, hP.1, hg, GStep.after]; exact ⟨rfl, rfl, rfl⟩⟩
          | _ => exact ⟨_, _, _, by rw [e]; simp [stepG.apply, hr, GStep.after]; exact ⟨rfl, rfl, rfl⟩⟩
        | _ => exact hh.elim
  · exact step1_go hp (hfr.finish undef) hfs fun cs w => by
      simp [G, stepG, stepG.exec, hm, ht] at hw ⊢
      simp [hw]
theorem calm_results (fn : Func) (tmps : Array Value) : Calm P (fun _ => True) (results fn tmps) := by
  unfold results
  refine calm_bind (calm_mapM (fun b => ?_) _) fun _ => trivial
  cases b with
  | tmp t => exact trivial
  | cell a t => exact calm_bind (calm_asAddr _) fun _ => calm_loadVar _ _
theorem step1_run (hP : PlainFns P F) (hfr : Fine P F fr) (hfs : ∀ f ∈ fs, Fine P F f) (hp : NoPend P w) (hm : fr.mode = .run) : Step1 P F main fr fs w := by
  have ht := hfr.todo
  cases h : fr.todo with
  | nil => exact step1_go hp (hfr.mode .returning) hfs fun cs w => by simp [G, stepG, stepG.exec, hm, h, hfr.round]
  | cons it k =>
    rw [h] at ht
    have hk : ∀ i ∈ k, plainItem P F i = true := fun i hi => ht i (List.mem_cons_of_mem _ hi)
    have h0 := ht it (List.mem_cons_self ..)
    have sub : ∀ l : List Item, (∀ i ∈ l, plainItem P F i = true) → ∀ i ∈ l ++ k, plainItem P F i = true := fun l hl i hi => (List.mem_append.1 hi).elim (hl i) (hk i)
    cases it with
    | inBlock id => exact step1_go hp (hfr.with hk) hfs fun cs w => by simp [G, stepG, stepG.exec, hm, h]
    | inLoop b => exact step1_go hp (hfr.with (sub [.code b, .inLoop b] (by simp [plainItem] at h0 ⊢; exact h0))) hfs fun cs w => by simp [G, stepG, stepG.exec, hm, h]
    | inRegion ops l =>
      cases l with
      | nil => exact step1_go hp (hfr.with hk) hfs fun cs w => by simp [G, stepG, stepG.exec, hm, h]
      | cons i rest => exact step1_op hP hfr hfs hp hm h
    | code c =>
      cases c with
      | skip => exact step1_go hp (hfr.with hk) hfs fun cs w => by simp [G, stepG, stepG.exec, hm, h]
      | label l => exact step1_go hp (hfr.with hk) hfs fun cs w => by simp [G, stepG, stepG.exec, hm, h]
      | ret => exact step1_go hp (hfr.mode .returning) hfs fun cs w => by simp [G, stepG, stepG.exec, hm, h, hfr.round]
      | seq a b => exact step1_go hp (hfr.with (sub [.code a, .code b] (by simp [plainItem, plainCode] at h0 ⊢; exact h0))) hfs fun cs w => by simp [G, stepG, stepG.exec, hm, h]
      | block id b => exact step1_go hp (hfr.with (sub [.code b, .inBlock id] (by simp [plainItem, plainCode] at h0 ⊢; exact h0))) hfs fun cs w => by simp [G, stepG, stepG.exec, hm, h]
      | loop b => exact step1_go hp (hfr.with (sub [.code b, .inLoop b] (by simp [plainItem, plainCode] at h0 ⊢; exact h0))) hfs fun cs w => by simp [G, stepG, stepG.exec, hm, h]
      | cond c a b =>
        simp only [plainItem, plainCode, Bool.and_eq_true] at h0
        cases hc : fr.eval c with
        | bool t => exact step1_go hp (hfr.with (todo := .code (if t then a else b) :: k) (sub [.code (if t then a else b)] (by cases t <;> simp [plainItem, h0]))) hfs fun cs w => by simp [G, stepG, stepG.exec, hm, h, hc]
        | _ => exact step1_end fun cs w => ⟨_, _, _, by simp only [G, stepG, stepG.exec, hm, h, hc]; rfl⟩
      | exit id =>
        cases hx : exitTo id k with
        | none => exact step1_end fun cs w => ⟨_, _, _, by simp only [G, stepG, stepG.exec, hm, h, hx, Option.elim, hfr.round]; rfl⟩
        | some k' => exact step1_go hp (hfr.with fun i hi => hk i (exitTo_sub hx i hi)) hfs fun cs w => by simp [G, stepG, stepG.exec, hm, h, hx]
      | region id ops draw =>
        have hr : ∀ l, plainItem P F (.inRegion ops l) = true := fun l => h0
        cases draw with
        | false => exact step1_go hp (hfr.with (todo := .inRegion ops (List.range ops.size) :: k) (sub [.inRegion ops (List.range ops.size)] (by simp [hr]))) hfs fun cs w => by simp [G, stepG, stepG.exec, hm, h]
        | true =>
          refine step1_sem (s := choose (.order fr.fn id)) (L := fun _ => True) (fun _ => trivial) hp ?_ ?_
          · exact fun t _ => ⟨_, _, fun _ => #[], hfr.with (todo := .inRegion ops (Region.schedule (P.follows .mixedOrders) ops t) :: k) (sub [.inRegion ops _] (by simp [hr])), hfs, fun es e he => (by simp at he), fun cs w w' es this _ => by
              simp [G, stepG, stepG.exec, hm, h, this]⟩
          · refine fun h' _ => .inr fun cs w w' es this _ => ?_
            exact ⟨_, _, _, by simp [G, stepG, stepG.exec, hm, h, this]; exact ⟨rfl, rfl, rfl⟩⟩
      | _ => cases h0
    | _ => cases h0
/-- It goes on, or ends the run, ahead of its stop. -/
theorem step1 (hP : PlainFns P F) (hfr : Fine P F fr) (hfs : ∀ f ∈ fs, Fine P F f) (hp : NoPend P w) (h : fr.mode = .run ∨ fs ≠ []) : Step1 P F main fr fs w := by
  obtain ⟨fn, x, hfn, -⟩ := hP.2 _ hfr.fn
  cases hm : fr.mode with
  | run => exact step1_run hP hfr hfs hp hm
  | panicking chain =>
    cases fs with
    | nil => rw [hm] at h; simp at h
    | cons f fs => exact step1_go (fs' := fs) hp ((hfs f (by simp)).raise chain) (fun g hg => hfs g (by simp [hg])) fun cs w => by simp [G, stepG, unwind, hm, hfr.defers, Frame.catches, hfn]
  | returning =>
    cases fs with
    | nil => rw [hm] at h; simp at h
    | cons f fs =>
      refine step1_sem (calm_results fn fr.tmps) hp ?_ ?_
      · exact fun v _ => ⟨_, fs, seen P fr.fn, (hfs f (by simp)).finish v, fun g hg => hfs g (by simp [hg]), seen_sub, fun cs w w' es hr hev => by
          simp [G, stepG, unwind, doReturn, hm, hfr.defers, hfn, hr, hev, hfr.kind, GStep.after]⟩
      · refine fun h' _ => .inr fun cs w w' es hr hev => ?_
        cases h' <;> exact ⟨_, _, _, by simp [G, stepG, unwind, hm, hfr.defers, hfn, hr, GStep.after]; exact ⟨rfl, rfl, rfl⟩⟩
end
end Go.Proofs.Ytgmhdmhnedljcaa.Co
