/-
  Helpers of the claims beside this text: one goroutine's walk in company, with a ghost: what it owns and what it has still to send is part of the state; a step's promise is asked only where the block numbers that it makes fall as they do in the run ('F').
-/
import Derived.Conc.Company
import Derived.Conc.CompanyCalls
import Derived.Conc.Script
import Derived.Conc.CompanyWords
import Derived.RowKit
import Derived.IntWalk
import Derived.WalkArith
import Derived.Test.YtgmhdmhnedljcaaProg
import Derived.Conc.CompanyDraw
namespace Go.Proofs.Ytgmhdmhnedljcaa.Co
open Go Go.Conc
set_option linter.unusedSimpArgs false
set_option linter.unusedVariables false

/-- The terms on which a goroutine walks. s: its ghost. R: what the others may do between two of its steps. F: what is taken for granted of its own step. D: what it promises of a step, and how its ghost turns. Snd: what it promises of a value that it sends. Rcv, End: what it may lean on where it has received a value (from the world in which it asked to the one in which it goes on), or found the channel closed. -/
structure Deal (S : Type) where
  R : S → World → World → Prop
  F : S → World → World → Prop
  D : S → World → World → Array Event → S → Prop
  Snd : S → Value → World → S → Prop
  Rcv : S → Value → World → World → S → Prop
  End : S → World → World → S → Prop
  Asks : S → Prop
  Fin : S → Goroutine → World → Prop
  rely : ∀ s a b c, R s a b → R s b c → R s a c
  idle : ∀ s w, D s w w #[] s

section
variable {S : Type} (P : Program) (main : Bool) (c : Nat) (T : Deal S) (Stop : S → Goroutine → World → Prop)

/-- It comes to the stop, whatever the others do. -/
inductive GoI : S → Goroutine → World → Prop
  | stop {s g w} : (∀ w₁, T.R s w w₁ → Stop s g w₁) → GoI s g w
  | step {s g w} (g' : World → Goroutine) (w' : World → World) (es : World → Array Event) (s' : World → S) : g.status = .running →
      (∀ w₁, T.R s w w₁ → stepG P main g w₁ = .go (g' w₁) (w' w₁) (es w₁)) →
      (∀ w₁, T.R s w w₁ → T.F s w₁ (w' w₁) → T.D s w₁ (w' w₁) (es w₁) (s' w₁)) →
      (∀ w₁, T.R s w w₁ → T.F s w₁ (w' w₁) → GoI (s' w₁) (g' w₁) (w' w₁)) → GoI s g w
  | send {s g w} (v z : Value) (es : World → Array Event) (s' : S) : g.status = .running →
      (∀ w₁, T.R s w w₁ → stepG P main g w₁ = .comm g #[scase c v z] true .send w₁ (es w₁)) →
      (∀ w₁, T.R s w w₁ → T.D s w₁ w₁ (es w₁) s ∧ T.Snd s v w₁ s') →
      (∀ w₁, T.R s w w₁ → GoI s' (Conc.served g undef) w₁) → GoI s g w
  | recv {s g w} (z : Value) (es : World → Array Event) : g.status = .running → T.Asks s →
      (∀ w₁, T.R s w w₁ → stepG P main g w₁ = .comm g #[rcase c z] true (.recv true) w₁ (es w₁)) →
      (∀ w₁, T.R s w w₁ → T.D s w₁ w₁ (es w₁) s) →
      (∀ w₁ v w₂ s', T.R s w w₁ → T.Rcv s v w₁ w₂ s' → GoI s' (Conc.served g (.tuple #[v, .bool true])) w₂) →
      (∀ w₁ w₂ s', T.R s w w₁ → T.End s w₁ w₂ s' → T.Fin s' (Conc.served g (.tuple #[z, .bool false])) w₂) → GoI s g w
end

section
variable {S : Type} {P : Program} {main : Bool} {c : Nat} {T : Deal S} {Stop : S → Goroutine → World → Prop}

theorem GoI.rely {s : S} {g : Goroutine} {w w₁ : World} (h : GoI P main c T Stop s g w) (hr : T.R s w w₁) : GoI P main c T Stop s g w₁ := by
  cases h with
  | stop h => exact .stop fun w₂ h₂ => h w₂ (T.rely _ _ _ _ hr h₂)
  | step g' w' es s' hs h1 h2 h3 => exact .step g' w' es s' hs (fun w₂ h₂ => h1 w₂ (T.rely _ _ _ _ hr h₂)) (fun w₂ h₂ => h2 w₂ (T.rely _ _ _ _ hr h₂)) (fun w₂ h₂ => h3 w₂ (T.rely _ _ _ _ hr h₂))
  | send v z es s' hs h1 h2 h3 => exact .send v z es s' hs (fun w₂ h₂ => h1 w₂ (T.rely _ _ _ _ hr h₂)) (fun w₂ h₂ => h2 w₂ (T.rely _ _ _ _ hr h₂)) (fun w₂ h₂ => h3 w₂ (T.rely _ _ _ _ hr h₂))
  | recv z es hs ha h1 h2 h3 h4 => exact .recv z es hs ha (fun w₂ h₂ => h1 w₂ (T.rely _ _ _ _ hr h₂)) (fun w₂ h₂ => h2 w₂ (T.rely _ _ _ _ hr h₂)) (fun w₂ v w₃ s' h₂ k => h3 w₂ v w₃ s' (T.rely _ _ _ _ hr h₂) k) (fun w₂ w₃ s' h₂ k => h4 w₂ w₃ s' (T.rely _ _ _ _ hr h₂) k)

/-- A step, in the manner of 'goes'. -/
theorem GoI.of_goes {s : S} {g : Goroutine} {w : World} (hs : g.status = .running)
    (h : ∀ w₁, T.R s w w₁ → (stepG P main g w₁).goes fun g' w' es => T.F s w₁ w' → ∃ s', T.D s w₁ w' es s' ∧ GoI P main c T Stop s' g' w') : GoI P main c T Stop s g w := by
  have key : ∀ w₁, ∃ g' w' es s', T.R s w w₁ → (stepG P main g w₁ = .go g' w' es ∧ (T.F s w₁ w' → T.D s w₁ w' es s' ∧ GoI P main c T Stop s' g' w')) := by
    intro w₁
    by_cases hr : T.R s w w₁
    · obtain ⟨g', w', es, e, k⟩ := goes_elim (h w₁ hr)
      by_cases hf : T.F s w₁ w'
      · obtain ⟨s', h1, h2⟩ := k hf
        exact ⟨g', w', es, s', fun _ => ⟨e, fun _ => ⟨h1, h2⟩⟩⟩
      · exact ⟨g', w', es, s, fun _ => ⟨e, fun x => absurd x hf⟩⟩
    · exact ⟨g, w, #[], s, fun x => absurd x hr⟩
  have hk := fun w₁ => (key w₁).choose_spec.choose_spec.choose_spec.choose_spec
  exact .step (fun w₁ => (key w₁).choose) (fun w₁ => (key w₁).choose_spec.choose) (fun w₁ => (key w₁).choose_spec.choose_spec.choose) (fun w₁ => (key w₁).choose_spec.choose_spec.choose_spec.choose) hs
    (fun w₁ hr => (hk w₁ hr).1) (fun w₁ hr hf => ((hk w₁ hr).2 hf).1) (fun w₁ hr hf => ((hk w₁ hr).2 hf).2)

/-- A step that looks at no world. -/
theorem GoI.still {s : S} {g g' : Goroutine} {w : World} (hs : g.status = .running) (h : ∀ w₁, stepG P main g w₁ = .go g' w₁ #[]) (k : GoI P main c T Stop s g' w) : GoI P main c T Stop s g w :=
  .of_goes hs fun w₁ hr => by rw [h w₁]; exact fun _ => ⟨s, T.idle s w₁, k.rely hr⟩

/-- Where the walk goes on behind a piece of code that is left by this way out. -/
def AfterI (P : Program) (main : Bool) (c : Nat) (T : Deal S) (Stop : S → Goroutine → World → Prop) (b : Frame) (k : List Item) (cs : List Frame) : Exit → S → Act → World → Prop
  | .normal, s, a, w => GoI P main c T Stop s (G (b.at a k) cs) w
  | .exit id, s, a, w => ∃ k', exitTo id k = some k' ∧ GoI P main c T Stop s (G (b.at a k') cs) w
  | .ret, s, a, w => ∀ todo, GoI P main c T Stop s (G { b.at a todo with mode := .returning } cs) w
  | _, _, _, _ => False

theorem AfterI.push {b : Frame} {x : Item} {k : List Item} {cs : List Frame} {e : Exit} {s : S} {a : Act} {w : World} (hx : x.plain = true) (he : e ≠ .normal) (h : AfterI P main c T Stop b k cs e s a w) : AfterI P main c T Stop b (x :: k) cs e s a w := by
  cases e with
  | normal => exact absurd rfl he
  | exit id => obtain ⟨k', hk, hg⟩ := h; exact ⟨k', by cases x <;> simp_all [exitTo, Item.plain], hg⟩
  | ret => exact h
  | goto l => exact h
  | panic ch => exact h
  | outgrown => exact h

/-- The walk of a piece of code. -/
def wpI (P : Program) (main : Bool) (c : Nat) (T : Deal S) (fn : FuncId) (x : Code) (Q : Exit → S → Act → World → Prop) (s : S) (a : Act) (w : World) : Prop :=
  ∀ (b : Frame) (k : List Item) (cs : List Frame) (Stop : S → Goroutine → World → Prop), b.fn = fn → b.kind ≠ .early →
    (∀ e s' a' w', Q e s' a' w' → AfterI P main c T Stop b k cs e s' a' w') → GoI P main c T Stop s (G (b.at a (.code x :: k)) cs) w
/-- .. and of the operations of a region that are still to come. -/
def opsI (P : Program) (main : Bool) (c : Nat) (T : Deal S) (fn : FuncId) (ops : Array Oper) (todo : List Nat) (Q : Exit → S → Act → World → Prop) (s : S) (a : Act) (w : World) : Prop :=
  ∀ (b : Frame) (k : List Item) (cs : List Frame) (Stop : S → Goroutine → World → Prop), b.fn = fn → b.kind ≠ .early →
    (∀ e s' a' w', Q e s' a' w' → AfterI P main c T Stop b k cs e s' a' w') → GoI P main c T Stop s (G (b.at a (.inRegion ops todo :: k)) cs) w

/-- What stands behind a piece of code: M behind its normal way out, Q behind the others. -/
def thenI (M : S → Act → World → Prop) (Q : Exit → S → Act → World → Prop) : Exit → S → Act → World → Prop
  | .normal, s, a, w => M s a w
  | e, s, a, w => Q e s a w
/-- .. inside a block. -/
def inBlockI (id : Nat) (Q : Exit → S → Act → World → Prop) : Exit → S → Act → World → Prop
  | .exit i, s, a, w => if i = id then Q .normal s a w else Q (.exit i) s a w
  | e, s, a, w => Q e s a w

variable {fn : FuncId} {Q : Exit → S → Act → World → Prop} {s : S} {a : Act} {w : World}

theorem wpI_mono {x : Code} {Q' : Exit → S → Act → World → Prop} (h : wpI P main c T fn x Q s a w) (hq : ∀ e s a w, Q e s a w → Q' e s a w) : wpI P main c T fn x Q' s a w :=
  fun b k cs St hb hk hc => h b k cs St hb hk fun e s' a' w' q => hc e s' a' w' (hq e s' a' w' q)
theorem wpI_rely {x : Code} {w₁ : World} (h : wpI P main c T fn x Q s a w) (hr : T.R s w w₁) : wpI P main c T fn x Q s a w₁ :=
  fun b k cs St hb hk hc => (h b k cs St hb hk hc).rely hr
theorem wpI_skip (h : Q .normal s a w) : wpI P main c T fn .skip Q s a w := fun b k cs St _ _ hc => GoI.still rfl (fun _ => stepG_skip) (hc _ _ _ _ h)
theorem wpI_label {l : Nat} (h : Q .normal s a w) : wpI P main c T fn (.label l) Q s a w := fun b k cs St _ _ hc => GoI.still rfl (fun _ => stepG_label) (hc _ _ _ _ h)
theorem wpI_ret (h : Q .ret s a w) : wpI P main c T fn .ret Q s a w := fun b k cs St _ _ hc => GoI.still rfl (fun _ => stepG_ret') (hc _ _ _ _ h _)
theorem wpI_exit {id : Nat} (h : Q (.exit id) s a w) : wpI P main c T fn (.exit id) Q s a w := fun b k cs St _ _ hc => by
  obtain ⟨k', hk', hg⟩ := hc _ _ _ _ h
  exact GoI.still rfl (fun _ => stepG_exit hk') hg
theorem wpI_seq {x y : Code} (h : wpI P main c T fn x (thenI (fun s' a' w' => wpI P main c T fn y Q s' a' w') Q) s a w) : wpI P main c T fn (.seq x y) Q s a w := by
  intro b k cs St hb hk hc
  refine GoI.still rfl (fun _ => stepG_seq) (h b (.code y :: k) cs St hb hk fun e s' a' w' q => ?_)
  cases e with
  | normal => exact q b k cs St hb hk hc
  | exit id => exact (hc _ _ _ _ q).push rfl (by simp)
  | ret => exact (hc _ _ _ _ q).push (x := .code y) rfl (by simp)
  | goto l => exact hc _ _ _ _ q
  | panic ch => exact hc _ _ _ _ q
  | outgrown => exact hc _ _ _ _ q
theorem wpI_cond {o : Operand} {x y : Code} {t : Bool} (ht : a.eval o = .bool t) (h : wpI P main c T fn (if t then x else y) Q s a w) : wpI P main c T fn (.cond o x y) Q s a w :=
  fun b k cs St hb hk hc => GoI.still rfl (fun _ => stepG_cond ht) (h b k cs St hb hk hc)
theorem wpI_block {id : Nat} {x : Code} (h : wpI P main c T fn x (inBlockI id Q) s a w) : wpI P main c T fn (.block id x) Q s a w := by
  intro b k cs St hb hk hc
  refine GoI.still rfl (fun _ => stepG_block) (h b (.inBlock id :: k) cs St hb hk fun e s' a' w' q => ?_)
  cases e with
  | normal => exact GoI.still rfl (fun _ => stepG_inBlock) (hc _ _ _ _ q)
  | exit i =>
    by_cases hid : i = id
    · simp only [inBlockI, hid, if_true] at q
      exact ⟨k, by simp [exitTo, hid], hc _ _ _ _ q⟩
    · simp only [inBlockI, hid, if_false] at q
      obtain ⟨k', hk', hg⟩ := hc _ _ _ _ q
      have : (id == i) = false := by simp; exact fun h => hid h.symm
      exact ⟨k', by simp [exitTo, this, hk'], hg⟩
  | ret => exact hc _ _ _ _ q
  | goto l => exact hc _ _ _ _ q
  | panic ch => exact hc _ _ _ _ q
  | outgrown => exact hc _ _ _ _ q
/-- A loop: an invariant, and a measure that every round lowers. -/
theorem wpI_loop {x : Code} (I : S → Act → World → Prop) (m : S → Act → World → Nat) (h₀ : I s a w)
    (round : ∀ s a w, I s a w → wpI P main c T fn x (thenI (fun s' a' w' => I s' a' w' ∧ m s' a' w' < m s a w) Q) s a w) : wpI P main c T fn (.loop x) Q s a w := by
  intro b k cs St hb hk hc
  have key : ∀ n s a w, m s a w ≤ n → I s a w → GoI P main c T St s (G (b.at a (.code x :: .inLoop x :: k)) cs) w := by
    intro n
    induction n with
    | zero =>
      intro s a w hm hI
      refine round s a w hI b (.inLoop x :: k) cs St hb hk fun e s' a' w' q => ?_
      cases e with
      | normal => exact absurd q.2 (by omega)
      | exit id => exact (hc _ _ _ _ q).push rfl (by simp)
      | ret => exact (hc _ _ _ _ q).push (x := .inLoop x) rfl (by simp)
      | goto l => exact hc _ _ _ _ q
      | panic ch => exact hc _ _ _ _ q
      | outgrown => exact hc _ _ _ _ q
    | succ n ih =>
      intro s a w hm hI
      refine round s a w hI b (.inLoop x :: k) cs St hb hk fun e s' a' w' q => ?_
      cases e with
      | normal => exact GoI.still rfl (fun _ => stepG_inLoop) (ih s' a' w' (by have := q.2; omega) q.1)
      | exit id => exact (hc _ _ _ _ q).push rfl (by simp)
      | ret => exact (hc _ _ _ _ q).push (x := .inLoop x) rfl (by simp)
      | goto l => exact hc _ _ _ _ q
      | panic ch => exact hc _ _ _ _ q
      | outgrown => exact hc _ _ _ _ q
  exact GoI.still rfl (fun _ => stepG_loop) (key _ s a w (Nat.le_refl _) h₀)
theorem wpI_region {id : Nat} {ops : Array Oper} (h : opsI P main c T fn ops (List.range ops.size) Q s a w) : wpI P main c T fn (.region id ops false) Q s a w :=
  fun b k cs St hb hk hc => GoI.still rfl (fun _ => stepG_region) (h b k cs St hb hk hc)
theorem opsI_nil {ops : Array Oper} (h : Q .normal s a w) : opsI P main c T fn ops [] Q s a w := fun b k cs St _ _ hc => GoI.still rfl (fun _ => stepG_region_end) (hc _ _ _ _ h)
theorem opsI_unwanted {ops : Array Oper} {i : Nat} {rest : List Nat} {o : Oper} (ho : ops[i]? = some o) (hw : Region.wanted o (yielded ops a.tmps) = false) (h : opsI P main c T fn ops rest Q s (a.put o.dst undef) w) :
    opsI P main c T fn ops (i :: rest) Q s a w := fun b k cs St hb hk hc => GoI.still rfl (fun _ => stepG_unwanted ho hw) (h b k cs St hb hk hc)
/-- One operation: here the company is met. -/
theorem opsI_cons {ops : Array Oper} {i : Nat} {rest : List Nat} {o : Oper} (ho : ops[i]? = some o) (hw : Region.wanted o (yielded ops a.tmps) = true)
    (h : ∀ w₁, T.R s w w₁ → uponK o a (fun a' w' => T.F s w₁ w' → ∃ s', T.D s w₁ w' (listed P fn a o w₁) s' ∧ opsI P main c T fn ops rest Q s' a' w') ((execOp a.eval o).run P w₁)) : opsI P main c T fn ops (i :: rest) Q s a w := by
  intro b k cs St hb hk hc
  refine GoI.of_goes rfl fun w₁ h₁ => goes_oper ho hw hk ?_
  have := h w₁ h₁
  revert this
  cases (execOp a.eval o).run P w₁ with
  | ok x w' => cases x <;> first | exact fun d f => (let ⟨s', d1, g⟩ := d f; ⟨s', hb ▸ d1, g b k cs St hb hk hc⟩) | exact id
  | halt _ _ => exact id
/-- .. that sends. -/
theorem opsI_send {ops : Array Oper} {i : Nat} {rest : List Nat} {o : Oper} {v z : Value} {s' : S} (ho : ops[i]? = some o) (hw : Region.wanted o (yielded ops a.tmps) = true)
    (h : ∀ w₁, T.R s w w₁ → (execOp a.eval o).run P w₁ = .ok (.comm #[scase c v z] true .send) w₁ ∧ T.D s w₁ w₁ (listed P fn a o w₁) s ∧ T.Snd s v w₁ s')
    (hn : ∀ w₁, T.R s w w₁ → opsI P main c T fn ops rest Q s' (a.put o.dst undef) w₁) : opsI P main c T fn ops (i :: rest) Q s a w := by
  intro b k cs St hb hk hc
  have hfin : (b.at a (.inRegion ops (i :: rest) :: k)).finish undef = b.at (a.put o.dst undef) (.inRegion ops rest :: k) := by rw [Frame.finish_at, ho]; rfl
  refine GoI.send v z (fun w₁ => listed P b.fn a o w₁) s' rfl (fun w₁ h₁ => stepG_comm ho hw hk (h w₁ h₁).1) (fun w₁ h₁ => by rw [hb]; exact (h w₁ h₁).2) (fun w₁ h₁ => ?_)
  have e : Conc.served (G (b.at a (.inRegion ops (i :: rest) :: k)) cs) undef = G (b.at (a.put o.dst undef) (.inRegion ops rest :: k)) cs := by
    rw [← hfin]
    rfl
  rw [e]
  exact hn w₁ h₁ b k cs St hb hk hc
/-- .. that receives, with comma-ok (a range over a channel does). -/
theorem opsI_recv {ops : Array Oper} {i : Nat} {rest : List Nat} {o : Oper} {z : Value} (ho : ops[i]? = some o) (hw : Region.wanted o (yielded ops a.tmps) = true) (ha : T.Asks s)
    (h : ∀ w₁, T.R s w w₁ → (execOp a.eval o).run P w₁ = .ok (.comm #[rcase c z] true (.recv true)) w₁ ∧ T.D s w₁ w₁ (listed P fn a o w₁) s)
    (hv : ∀ w₁ v w₂ s', T.R s w w₁ → T.Rcv s v w₁ w₂ s' → opsI P main c T fn ops rest Q s' (a.put o.dst (.tuple #[v, .bool true])) w₂)
    (he : ∀ (b : Frame) (k : List Item) (cs : List Frame) w₁ w₂ s', b.fn = fn → T.R s w w₁ → T.End s w₁ w₂ s' → T.Fin s' (G (b.at (a.put o.dst (.tuple #[z, .bool false])) (.inRegion ops rest :: k)) cs) w₂) : opsI P main c T fn ops (i :: rest) Q s a w := by
  intro b k cs St hb hk hc
  have hfin : ∀ v, Conc.served (G (b.at a (.inRegion ops (i :: rest) :: k)) cs) v = G (b.at (a.put o.dst v) (.inRegion ops rest :: k)) cs := fun v => by
    have : (b.at a (.inRegion ops (i :: rest) :: k)).finish v = b.at (a.put o.dst v) (.inRegion ops rest :: k) := by rw [Frame.finish_at, ho]; rfl
    rw [← this]
    rfl
  refine GoI.recv z (fun w₁ => listed P b.fn a o w₁) rfl ha (fun w₁ h₁ => stepG_comm ho hw hk (h w₁ h₁).1) (fun w₁ h₁ => by rw [hb]; exact (h w₁ h₁).2) (fun w₁ v w₂ s' h₁ k₁ => ?_) (fun w₁ w₂ s' h₁ k₁ => ?_)
  · rw [hfin]; exact hv w₁ v w₂ s' h₁ k₁ b k cs St hb hk hc
  · rw [hfin]; exact he b k cs w₁ w₂ s' hb h₁ k₁
/-! ### Calls -/
/-- The function's results read v, whatever the others do, and reading them is one's right. -/
def ResI (P : Program) (T : Deal S) (f : FuncId) (fd : Func) (tmps : Array Value) (v : Value) (s : S) (w : World) : Prop :=
  ∀ w₁, T.R s w w₁ → (results fd tmps).run P w₁ = .ok v w₁ ∧ T.D s w₁ w₁ (seen P f ((results fd tmps).events P w₁ #[])) s
theorem ResI.of {f : FuncId} {fd : Func} {tmps : Array Value} {v : Value} (h : ResultsC P fd tmps v) : ResI P T f fd tmps v s w := fun w₁ _ => ⟨(h w₁).1, by rw [(h w₁).2, seen_none]; exact T.idle s w₁⟩
def bodyI (P : Program) (T : Deal S) (f : FuncId) (fd : Func) (Post : Value → S → World → Prop) : Exit → S → Act → World → Prop
  | .normal, s, a, w | .ret, s, a, w => a.defers = [] ∧ ∃ v, ResI P T f fd a.tmps v s w ∧ Post v s w
  | _, _, _, _ => False
theorem stepG_leave_es {b : Frame} {cs : List Frame} {fd : Func} {todo : List Item} {cf : Frame} {v : Value} (hn : b.kind = .normal) (hd : a.defers = []) (hf : P.funcs[b.fn]? = some fd) (hr : (results fd a.tmps).run P w = .ok v w) :
    stepG P main (G { b.at a todo with mode := .returning } (cf :: cs)) w = .go (G (cf.finish v) cs) w (seen P b.fn ((results fd a.tmps).events P w #[])) := by
  simp [G, stepG, unwind, doReturn, Frame.at, hn, hd, hf, hr, GStep.after]
/-- A contract in company. -/
def CallsI (P : Program) (main : Bool) (c : Nat) (T : Deal S) (f : FuncId) (args : Array Value) (s : S) (w : World) (Post : Value → S → World → Prop) : Prop :=
  ∃ fn x, P.funcs[f]? = some fn ∧ (fn.name == "runtime.NumGoroutine") = false ∧ fn.body = some x ∧
    wpI P main c T f x (bodyI P T f fn Post) s { tmps := args ++ Array.replicate (fn.ntmps - args.size) undef, defers := [] } w
theorem CallsI.mono {f : FuncId} {args : Array Value} {Post Post' : Value → S → World → Prop} (h : CallsI P main c T f args s w Post) (hp : ∀ v s w, Post v s w → Post' v s w) : CallsI P main c T f args s w Post' := by
  obtain ⟨fn, x, h1, h2, h3, h4⟩ := h
  refine ⟨fn, x, h1, h2, h3, wpI_mono h4 fun e s a w q => ?_⟩
  cases e <;> first | exact ⟨q.1, q.2.choose, q.2.choose_spec.1, hp _ _ _ q.2.choose_spec.2⟩ | exact q
theorem opsI_call {ops : Array Oper} {i : Nat} {rest : List Nat} {o : Oper} {f : FuncId} {args : Array Operand} {ats : Array TypeId} {Post : Value → S → World → Prop}
    (ho : ops[i]? = some o) (hw : Region.wanted o (yielded ops a.tmps) = true) (hop : o.op = .call { callee := .value (.func f), args, argTypes := ats })
    (hcall : CallsI P main c T f (args.map a.eval) s w Post) (hnext : ∀ v s' w', Post v s' w' → opsI P main c T fn ops rest Q s' (a.put o.dst v) w') : opsI P main c T fn ops (i :: rest) Q s a w := by
  intro b k cs St hb hk hc
  obtain ⟨fd, x, hf, hname, hbody, hwp⟩ := hcall
  have hfin : ∀ v, (b.at a (.inRegion ops (i :: rest) :: k)).finish v = b.at (a.put o.dst v) (.inRegion ops rest :: k) := fun v => by rw [Frame.finish_at, ho]; rfl
  have hleave : ∀ (s' : S) (a' : Act) (w' : World) (todo : List Item), (a'.defers = [] ∧ ∃ v, ResI P T f fd a'.tmps v s' w' ∧ Post v s' w') →
      GoI P main c T St s' (G { (base f).at a' todo with mode := .returning } (b.at a (.inRegion ops (i :: rest) :: k) :: cs)) w' := by
    rintro s' a' w' todo ⟨hd, v, hr, hp⟩
    refine GoI.of_goes rfl fun w₁ h₁ => ?_
    rw [stepG_leave_es (b := base f) rfl hd hf (hr w₁ h₁).1, hfin]
    exact fun _ => ⟨s', (hr w₁ h₁).2, (hnext v s' w' hp b k cs St hb hk hc).rely h₁⟩
  refine GoI.of_goes rfl fun w₁ h₁ => goes_call ho hw hk hop hf hname hbody fun _ => ⟨s, T.idle s w₁, GoI.rely ?_ h₁⟩
  refine hwp (base f) [] _ St rfl (by simp [base]) fun e s' a' w' q => ?_
  cases e with
  | normal => exact GoI.still rfl (fun _ => stepG_end) (hleave s' a' w' [] q)
  | ret => exact fun todo => hleave s' a' w' todo q
  | exit id => exact q.elim
  | goto l => exact q.elim
  | panic ch => exact q.elim
  | outgrown => exact q.elim
end
end Go.Proofs.Ytgmhdmhnedljcaa.Co

/-
  Helpers of the claims beside this text: the words of a walk in company.
-/
namespace Go.Proofs.Ytgmhdmhnedljcaa.Co
open Go Go.Conc Go.RowKit
set_option linter.unusedSimpArgs false
set_option linter.unusedVariables false

section
variable {S : Type} {P : Program} {main : Bool} {c : Nat} {T : Deal S} {fn : FuncId} {Q : Exit → S → Act → World → Prop} {s : S} {a : Act} {w : World}
/-- One operation, what follows behind a variable. -/
theorem opsI_cons_k {ops : Array Oper} {i : Nat} {rest : List Nat} {o : Oper} (ho : ops[i]? = some o) (hw : Region.wanted o (yielded ops a.tmps) = true)
    (h : ∀ w₁, T.R s w w₁ → ∀ K : Act → World → Prop, (∀ a' w', (∃ s', T.D s w₁ w' (listed P fn a o w₁) s' ∧ opsI P main c T fn ops rest Q s' a' w') → K a' w') → uponK o a K ((execOp a.eval o).run P w₁)) : opsI P main c T fn ops (i :: rest) Q s a w :=
  opsI_cons ho hw fun w₁ h₁ => by
    have := h w₁ h₁ (fun a' w' => T.F s w₁ w' → ∃ s', T.D s w₁ w' (listed P fn a o w₁) s' ∧ opsI P main c T fn ops rest Q s' a' w') fun _ _ x _ => x
    exact this
/-- How a contract is entered. -/
theorem callsI_of {f : FuncId} {fd : Func} {x : Code} {args : Array Value} {Post : Value → S → World → Prop} (hf : P.funcs[f]? = some fd) (hname : (fd.name == "runtime.NumGoroutine") = false) (hb : fd.body = some x)
    (h : wpI P main c T f x (bodyI P T f fd Post) s { tmps := args ++ Array.replicate (fd.ntmps - args.size) undef, defers := [] } w) : CallsI P main c T f args s w Post := ⟨fd, x, hf, hname, hb, h⟩
/-- A test with both roads open. -/
theorem wpI_split {o : Operand} {x y : Code} {t : Bool} (hc : a.eval o = .bool t) (ht : t = true → wpI P main c T fn x Q s a w) (hf : t = false → wpI P main c T fn y Q s a w) : wpI P main c T fn (.cond o x y) Q s a w := by
  refine wpI_cond hc ?_
  cases t with
  | true => exact ht rfl
  | false => exact hf rfl
/-- A cut. -/
theorem wpI_seq_mid {x y : Code} (M : S → Act → World → Prop) (hx : wpI P main c T fn x (thenI M Q) s a w) (hy : ∀ s' a' w', M s' a' w' → wpI P main c T fn y Q s' a' w') : wpI P main c T fn (.seq x y) Q s a w :=
  wpI_seq (wpI_mono hx fun e s' a' w' q => by cases e <;> first | exact hy _ _ _ q | exact q)
/-- What a goroutine that turns nothing itself knows of the world. -/
def SinceI (T : Deal S) (s : S) (w₀ w : World) : Prop := w = w₀ ∨ T.R s w₀ w
theorem SinceI.refl {w₀ : World} : SinceI T s w₀ w₀ := .inl rfl
theorem SinceI.rely {w₀ w w₁ : World} (h : SinceI T s w₀ w) (r : T.R s w w₁) : SinceI T s w₀ w₁ := .inr (h.elim (fun e => e ▸ r) fun x => T.rely _ _ _ _ x r)
end

end Go.Proofs.Ytgmhdmhnedljcaa.Co

/-
  Helpers of the claims beside this text: the search for partners in company.
-/
namespace Go.Proofs.Ytgmhdmhnedljcaa.Co
open Go Go.Conc Go.RowKit
set_option linter.unusedSimpArgs false
set_option linter.unusedVariables false
variable {S : Type} {main : Bool} {c : Nat} {T : Deal S}

set_option maxRecDepth 100000 in
theorem pbit_c (n p : Nat) (hn : n ≤ 24) (hp : p < n) (s : S) (w : World) : CallsI Try.prog main c T 39 #[.int .i64 n, .int .i64 p] s w fun v s' w' => v = .int .i64 ((2 ^ (n - 1 - p) : Nat) : Int) ∧ s' = s ∧ SinceI T s w w' := by
  refine callsI_of Try.func39 (by rfl) rfl ?_
  have hF : SinceI T s w w := .refl
  simp only [Try.ntmps39, List.size_toArray, List.length_cons, List.length_nil, Nat.reduceAdd, Nat.reduceSub, Array.replicate_succ, Array.replicate_zero, List.push_toArray, List.append_toArray, List.nil_append, List.cons_append]
  have hv : IntKind.i64.wrap ((2 : Int) ^ (n - 1 - p)) = ((2 ^ (n - 1 - p) : Nat) : Int) := by
    have h1 : 2 ^ (n - 1 - p) ≤ 2 ^ 23 := Nat.pow_le_pow_right (by omega) (by omega)
    have h2 : (2 : Int) ^ (n - 1 - p) = ((2 ^ (n - 1 - p) : Nat) : Int) := by simp
    rw [h2]
    generalize 2 ^ (n - 1 - p) = q at h1
    exact IntWalk.i64_in _ ⟨by omega, by omega⟩
  have hk0 : ¬ ((n : Int) - 1 - (p : Int) < 0) := by omega
  have hk1 : (0 : Int) ≤ (n : Int) - 1 - (p : Int) := by omega
  have ht : ((n : Int) - 1 - (p : Int)).toNat = n - 1 - p := by omega
  (repeat (first | (refine wpI_region ?_; simp only [List.size_toArray, List.length_cons, List.length_nil, Nat.reduceAdd, Nat.zero_add, List.range, List.range.loop]) | (refine opsI_cons_k rfl (by rfl) ?_
                                                                                                                                                                         intro _ hRq Kq hKq
                                                                                                                                                                         replace hF := (SinceI.rely) hF hRq
                                                                                                                                                                         clear hRq
                                                                                                                                                                         (skip)
                                                                                                                                                                         go_simp
                                                                                                                                                                         refine hKq _ _ ⟨s, ?_, ?_⟩
                                                                                                                                                                         · ((rw [listed_nil (by simp [go_sem])]; exact Deal.idle _ _ _))
                                                                                                                                                                         clear hKq Kq
                                                                                                                                                                         try walk_nrm
                                                                                                                                                                         repeat (rw [IntWalk.i64_in _ ⟨by omega, by omega⟩])) | ((first | refine wpI_seq ?_ | refine wpI_block ?_ | refine wpI_skip ?_ | refine wpI_label ?_ | refine wpI_ret ?_ | refine wpI_exit ?_ | refine opsI_nil ?_); try (simp only [thenI, inBlockI, if_true, if_false, reduceIte, Nat.reduceEqDiff])) | (refine wpI_cond (by exact rfl) ?_; simp only [if_true, if_false, reduceIte, Bool.false_eq_true])))
  exact ⟨rfl, _, ResI.of (resultsC_tmp (by rfl) _), by simp, rfl, hF⟩
end Go.Proofs.Ytgmhdmhnedljcaa.Co

/-
  Helpers of the claims beside this text: in company: a region that asks the tape for its order, calls and a send among its operations.
-/
namespace Go.Proofs.Ytgmhdmhnedljcaa.Co
open Go Go.Conc Go.RowKit
set_option linter.unusedSimpArgs false
set_option linter.unusedVariables false

section
variable {S : Type} (P : Program) (main : Bool) (c : Nat) (T : Deal S) (fn : FuncId) (ops : Array Oper)
/-- Operation o, in this state: it is not wanted; or it yields something; or it is a call, by a contract; or it sends. -/
inductive OpI (o : Oper) (K : S → Act → World → Prop) (s : S) (a : Act) (w : World) : Prop
  | pass (hw : Region.wanted o (yielded ops a.tmps) = false) (h : K s (a.put o.dst undef) w)
  | plain (hw : Region.wanted o (yielded ops a.tmps) = true)
      (h : ∀ w₁, T.R s w w₁ → uponK o a (fun a' w' => ∃ s', T.D s w₁ w' (listed P fn a o w₁) s' ∧ K s' a' w') ((execOp a.eval o).run P w₁))
  | call (hw : Region.wanted o (yielded ops a.tmps) = true) (f : FuncId) (args : Array Operand) (ats : Array TypeId) (Post : Value → S → World → Prop) (hop : o.op = .call { callee := .value (.func f), args, argTypes := ats })
      (hcall : CallsI P main c T f (args.map a.eval) s w Post) (h : ∀ v s' w', Post v s' w' → K s' (a.put o.dst v) w')
  | send (hw : Region.wanted o (yielded ops a.tmps) = true) (v z : Value) (s' : S)
      (hr : ∀ w₁, T.R s w w₁ → (execOp a.eval o).run P w₁ = .ok (.comm #[scase c v z] true .send) w₁ ∧ T.D s w₁ w₁ (listed P fn a o w₁) s ∧ T.Snd s v w₁ s')
      (h : ∀ w₁, T.R s w w₁ → K s' (a.put o.dst undef) w₁)
/-- Whatever order is picked from here on, and St holds behind every operation. -/
def AnyI (md : Region.Mode) (Q : Exit → S → Act → World → Prop) (St : S → World → Prop) : Nat → Array Bool → S → Act → World → Prop
  | 0, l, s, a, w => Region.ready md ops l = [] ∧ Q .normal s a w
  | n + 1, l, s, a, w => (Region.ready md ops l = [] → Q .normal s a w) ∧
      ∀ i ∈ Region.ready md ops l, ∃ o, ops[i]? = some o ∧ OpI P main c T fn ops o (fun s' a' w' => St s' w' ∧ AnyI md Q St n (l.setIfInBounds i true) s' a' w') s a w
end

section
variable {S : Type} {P : Program} {main : Bool} {c : Nat} {T : Deal S} {fn : FuncId} {ops : Array Oper} {Q : Exit → S → Act → World → Prop} {St : S → World → Prop} {md : Region.Mode} {s : S} {a : Act} {w : World}

theorem CallsI.rely {f : FuncId} {args : Array Value} {Post : Value → S → World → Prop} {w₁ : World} (h : CallsI P main c T f args s w Post) (hr : T.R s w w₁) : CallsI P main c T f args s w₁ Post := by
  obtain ⟨fd, x, h1, h2, h3, h4⟩ := h
  exact ⟨fd, x, h1, h2, h3, wpI_rely h4 hr⟩
theorem uponK_imp {o : Oper} {K K' : Act → World → Prop} (h : ∀ a w, K a w → K' a w) {r : Result Next} (hh : uponK o a K r) : uponK o a K' r := by
  cases r with
  | ok n w' => cases n <;> first | exact h _ _ hh | exact hh
  | halt x w' => exact hh
theorem OpI.imp {o : Oper} {K K' : S → Act → World → Prop} (h : OpI P main c T fn ops o K s a w) (hk : ∀ s a w, K s a w → K' s a w) : OpI P main c T fn ops o K' s a w := by
  cases h with
  | pass hw h => exact .pass hw (hk _ _ _ h)
  | plain hw h => exact .plain hw fun w₁ h₁ => uponK_imp (fun a' w' ⟨s', d, k⟩ => ⟨s', d, hk _ _ _ k⟩) (h w₁ h₁)
  | call hw f args ats Post hop hc h => exact .call hw f args ats Post hop hc fun v s' w' q => hk _ _ _ (h v s' w' q)
  | send hw v z s' hr h => exact .send hw v z s' hr fun w₁ h₁ => hk _ _ _ (h w₁ h₁)
theorem OpI.rely {o : Oper} {K : S → Act → World → Prop} (hK : ∀ s a x y, K s a x → T.R s x y → K s a y) {w₁ : World} (h : OpI P main c T fn ops o K s a w) (hr : T.R s w w₁) : OpI P main c T fn ops o K s a w₁ := by
  cases h with
  | pass hw h => exact .pass hw (hK _ _ _ _ h hr)
  | plain hw h => exact .plain hw fun w₂ h₂ => h w₂ (T.rely _ _ _ _ hr h₂)
  | call hw f args ats Post hop hc h => exact .call hw f args ats Post hop (hc.rely hr) h
  | send hw v z s' hq h => exact .send hw v z s' (fun w₂ h₂ => hq w₂ (T.rely _ _ _ _ hr h₂)) fun w₂ h₂ => h w₂ (T.rely _ _ _ _ hr h₂)
/-- The operation, then the rest. -/
theorem opsI_of_opI {i : Nat} {rest : List Nat} {o : Oper} (ho : ops[i]? = some o) (h : OpI P main c T fn ops o (fun s' a' w' => opsI P main c T fn ops rest Q s' a' w') s a w) : opsI P main c T fn ops (i :: rest) Q s a w := by
  cases h with
  | pass hw h => exact opsI_unwanted ho hw h
  | plain hw h => exact opsI_cons ho hw fun w₁ h₁ => uponK_imp (fun a' w' x (_ : T.F s w₁ w') => x) (h w₁ h₁)
  | call hw f args ats Post hop hc h => exact opsI_call ho hw hop hc h
  | send hw v z s' hr h => exact opsI_send ho hw hr h

/-- What the rely keeps. -/
structure Bears (T : Deal S) (Q : Exit → S → Act → World → Prop) (St : S → World → Prop) : Prop where
  st : ∀ s x y, St s x → T.R s x y → St s y
  q : ∀ s a x y, Q .normal s a x → T.R s x y → Q .normal s a y
theorem AnyI.rely (B : Bears T Q St) : ∀ (n : Nat) (l : Array Bool) (s : S) (a : Act) (w w₁ : World), AnyI P main c T fn ops md Q St n l s a w → T.R s w w₁ → AnyI P main c T fn ops md Q St n l s a w₁
  | 0, _, _, _, _, _, h, r => ⟨h.1, B.q _ _ _ _ h.2 r⟩
  | n + 1, _, _, _, _, _, h, r => ⟨fun e => B.q _ _ _ _ (h.1 e) r, fun i hi => by
      obtain ⟨o, ho, h2⟩ := h.2 i hi
      exact ⟨o, ho, OpI.rely (fun s a x y h r => ⟨B.st _ _ _ h.1 r, AnyI.rely B n _ _ _ _ _ h.2 r⟩) h2 r⟩⟩
/-- It serves every order that the tape can pick. -/
theorem anyI_sound : ∀ (n t : Nat) (l : Array Bool) (s : S) (a : Act) (w : World), AnyI P main c T fn ops md Q St n l s a w → opsI P main c T fn ops (Region.linearise.go md ops n t l []) Q s a w := by
  intro n
  induction n with
  | zero => intro t l s a w h; simpa [Region.linearise.go] using opsI_nil h.2
  | succ n ih =>
    intro t l s a w h
    simp only [Region.linearise.go]
    change opsI P main c T fn ops (match (Region.ready md ops l)[t % (Region.ready md ops l).length]? with
      | some i => Region.linearise.go md ops n (t / (Region.ready md ops l).length) (l.setIfInBounds i true) [i]
      | none => [].reverse) Q s a w
    cases hi : (Region.ready md ops l)[t % (Region.ready md ops l).length]? with
    | none =>
      have hnil : Region.ready md ops l = [] := by
        by_cases hr : Region.ready md ops l = []
        · exact hr
        · exfalso
          have hlt := Nat.mod_lt t (List.length_pos_iff.2 hr)
          rw [List.getElem?_eq_getElem hlt] at hi
          cases hi
      exact opsI_nil (h.1 hnil)
    | some i =>
      simp only []
      rw [linearise_go_acc, List.reverse_singleton, List.singleton_append]
      obtain ⟨o, ho, h2⟩ := h.2 i (List.mem_of_getElem? hi)
      exact opsI_of_opI ho (h2.imp fun s' a' w' x => ih _ _ s' a' w' x.2)

variable (P T fn ops St) in
/-- Wherever St holds operation o leaves v in its temporary, and does nothing else. -/
def YieldsI (o : Oper) (v : Value) (a : Act) : Prop :=
  (Region.wanted o (yielded ops a.tmps) = true ∧ ∀ s w, St s w → (execOp a.eval o).run P w = .ok (.value v) w ∧ T.D s w w (listed P fn a o w) s) ∨
  (Region.wanted o (yielded ops a.tmps) = false ∧ v = undef)
theorem YieldsI.same {o : Oper} {v : Value} {a' : Act} (h : YieldsI P T fn ops St o v a) (he : execOp a'.eval o = execOp a.eval o) (hw : Region.wanted o (yielded ops a'.tmps) = Region.wanted o (yielded ops a.tmps)) : YieldsI P T fn ops St o v a' := by
  unfold YieldsI listed at *
  rw [he, hw]
  exact h
theorem YieldsI.opI (B : Bears T Q St) {o : Oper} {v : Value} (h : YieldsI P T fn ops St o v a) {K : S → Act → World → Prop} (hK : ∀ s a x y, K s a x → T.R s x y → K s a y) (hS : St s w) (k : K s (a.put o.dst v) w) : OpI P main c T fn ops o K s a w := by
  rcases h with ⟨hw, hv⟩ | ⟨hw, rfl⟩
  · refine .plain hw fun w₁ h₁ => ?_
    have h2 := hv s w₁ (B.st _ _ _ hS h₁)
    rw [h2.1]
    exact ⟨s, h2.2, hK _ _ _ _ k h₁⟩
  · exact .pass hw k
theorem eval_map_put {args : Array Operand} {o : Oper} {f : FuncId} {ats : Array TypeId} (hop : o.op = .call { callee := .value (.func f), args, argTypes := ats }) (a : Act) (dst : Option Tmp) (v : Value) (h : ∀ d, dst = some d → d ∉ o.looksAt ops) :
    args.map (a.put dst v).eval = args.map a.eval := by
  refine Array.map_congr_left fun x hx => Act.eval_put fun d hd hxd => h d hd ?_
  subst hxd
  refine List.mem_append_left _ (List.mem_filterMap.2 ⟨.tmp d, ?_, rfl⟩)
  rw [hop]
  simp only [Op.operands, Call.operands]
  simpa using hx
/-- An operation apart from oi does not look at oi's value, nor turn it. -/
theorem OpI.putIf {oi oj : Oper} {v : Value} (hap : oi.apart ops oj = true) (hsi : ∀ cs b, oi.op ≠ .select cs b) (hsj : ∀ cs b, oj.op ≠ .select cs b) {K : S → Act → World → Prop}
    (hy : YieldsI P T fn ops St oi v a) (h : OpI P main c T fn ops oj K s (a.put oi.dst v) w) : OpI P main c T fn ops oj (fun s' a' w' => YieldsI P T fn ops St oi v a' ∧ K s' (a'.put oi.dst v) w') s a w := by
  obtain ⟨h1, h2, h3⟩ := Oper.apart_spec hap
  have keep : ∀ u, YieldsI P T fn ops St oi v (a.put oj.dst u) := fun u => hy.same (execOp_put oi hsi a oj.dst u h3) (wanted_put oi a oj.dst u h3)
  have hwe := wanted_put oj a oi.dst v h1
  have hex := execOp_put oj hsj a oi.dst v h1
  have hco : ∀ u, (a.put oi.dst v).put oj.dst u = (a.put oj.dst u).put oi.dst v := fun u => Act.put_comm a v u h2
  cases h with
  | pass hw h => rw [hwe] at hw; rw [hco] at h; exact .pass hw ⟨keep _, h⟩
  | plain hw h =>
    rw [hwe] at hw
    refine .plain hw fun w₁ h₁ => ?_
    have h := h w₁ h₁
    unfold listed at *
    rw [hex] at h
    generalize (execOp a.eval oj).run P w₁ = r at *
    cases r with
    | ok n w' =>
      cases n <;> simp only [uponK] at h ⊢
      case value u => obtain ⟨s', d, k⟩ := h; rw [hco] at k; exact ⟨s', d, keep u, k⟩
      case skip => obtain ⟨s', d, k⟩ := h; rw [hco] at k; exact ⟨s', d, keep _, k⟩
    | halt x w' => simp only [uponK] at h
  | call hw f args ats Post hop hc h =>
    rw [hwe] at hw
    rw [eval_map_put hop a oi.dst v h1] at hc
    exact .call hw f args ats Post hop hc fun u s' w' q => ⟨keep u, by rw [← hco]; exact h u s' w' q⟩
  | send hw u z s' hr h =>
    rw [hwe] at hw
    refine .send hw u z s' (fun w₁ h₁ => ?_) fun w₁ h₁ => ⟨keep _, by rw [← hco]; exact h w₁ h₁⟩
    have h4 := hr w₁ h₁
    unfold listed at *
    rwa [hex] at h4
/-- An operation that may come up now may be taken first. -/
theorem anyI_first (B : Bears T Q St) {i : Nat} {oi : Oper} {v : Value} (hi : ops[i]? = some oi) (hsel : ∀ (j : Nat) (o : Oper) cs b, ops[j]? = some o → o.op ≠ .select cs b) :
    ∀ (n : Nat) (l : Array Bool) (s : S) (a : Act) (w : World),
      (∀ j oj, ops[j]? = some oj → j ≠ i → l.getD j true = false → (∀ e ∈ oj.after, Region.binds md e = true → e.on ≠ i) → oi.apart ops oj = true) →
      i ∈ Region.ready md ops l → YieldsI P T fn ops St oi v a → St s w →
      AnyI P main c T fn ops md Q St n (l.setIfInBounds i true) s (a.put oi.dst v) w → AnyI P main c T fn ops md Q St (n + 1) l s a w := by
  have hK : ∀ n l, ∀ s a x y, (St s x ∧ AnyI P main c T fn ops md Q St n l s a x) → T.R s x y → (St s y ∧ AnyI P main c T fn ops md Q St n l s a y) :=
    fun n l s a x y h r => ⟨B.st _ _ _ h.1 r, AnyI.rely B n l s a x y h.2 r⟩
  intro n
  induction n with
  | zero =>
    intro l s a w _ hr hy hS H
    refine ⟨fun h => (by rw [h] at hr; cases hr), fun j hj => ?_⟩
    by_cases hji : j = i
    · subst hji; exact ⟨oi, hi, hy.opI B (hK _ _) hS ⟨hS, H⟩⟩
    · have := ready_mono hj hji
      rw [H.1] at this
      cases this
  | succ n ih =>
    intro l s a w hfree hr hy hS H
    refine ⟨fun h => (by rw [h] at hr; cases hr), fun j hj => ?_⟩
    by_cases hji : j = i
    · subst hji; exact ⟨oi, hi, hy.opI B (hK _ _) hS ⟨hS, H⟩⟩
    · obtain ⟨oj', hoj', h1⟩ := H.2 j (ready_mono hj hji)
      obtain ⟨hjun, oj, hoj, hall⟩ := mem_ready.1 hj
      obtain rfl : oj' = oj := Option.some.inj (hoj'.symm.trans hoj)
      have hnot : ∀ e ∈ oj'.after, Region.binds md e = true → e.on ≠ i := fun e he hb heq => by
        have h1 := hall e he hb
        have h0 := (mem_ready.1 hr).1
        rw [heq] at h1
        rcases Nat.lt_or_ge i l.size with h' | h'
        · simp [h'] at h0 h1; rw [h0] at h1; cases h1
        · simp [Array.getElem?_eq_none h'] at h1
      have h2 := OpI.putIf (hfree j oj' hoj hji hjun hnot) (fun cs b => hsel i oi cs b hi) (fun cs b => hsel j oj' cs b hoj) hy h1
      have hfree' : ∀ k ok, ops[k]? = some ok → k ≠ i → (l.setIfInBounds j true).getD k true = false →
          (∀ e ∈ ok.after, Region.binds md e = true → e.on ≠ i) → oi.apart ops ok = true := fun k ok hk hki hun hno => by
        refine hfree k ok hk hki ?_ hno
        by_cases hjk : j = k
        · subst hjk; exact hjun
        · rw [getD_set_ne true hjk] at hun; exact hun
      refine ⟨oj', hoj, h2.imp fun s' a' w' h3 => ⟨h3.2.1, ih (l.setIfInBounds j true) s' a' w' hfree' (ready_mono hr (Ne.symm hji)) h3.1 h3.2.1 ?_⟩⟩
      rw [Array.setIfInBounds_comm _ _ hji]
      exact h3.2.2
theorem anyI_take (B : Bears T Q St) {i : Nat} {oi : Oper} {v : Value} {n : Nat} {l : Array Bool} (hi : ops[i]? = some oi) (hs : Region.noSelect ops = true) (hf : Region.free md ops l i = true) (hr : (Region.ready md ops l).contains i = true)
    (hy : YieldsI P T fn ops St oi v a) (hS : St s w) (h : AnyI P main c T fn ops md Q St n (l.setIfInBounds i true) s (a.put oi.dst v) w) : AnyI P main c T fn ops md Q St (n + 1) l s a w :=
  anyI_first B hi (Region.noSelect_spec hs) n l s a w (Region.free_spec hi hf) (by simpa using hr) hy hS h
/-- The only one that may come up. -/
theorem anyI_one {i : Nat} {o : Oper} {n : Nat} {l : Array Bool} (ho : ops[i]? = some o) (hr : Region.ready md ops l = [i]) (h : OpI P main c T fn ops o (fun s' a' w' => St s' w' ∧ AnyI P main c T fn ops md Q St n (l.setIfInBounds i true) s' a' w') s a w) : AnyI P main c T fn ops md Q St (n + 1) l s a w :=
  ⟨fun h0 => (by rw [hr] at h0; cases h0), fun j hj => by rw [hr, List.mem_singleton] at hj; subst hj; exact ⟨o, ho, h⟩⟩
theorem anyI_done {l : Array Bool} (hr : Region.ready md ops l = []) (h : Q .normal s a w) : ∀ n, AnyI P main c T fn ops md Q St n l s a w
  | 0 => ⟨hr, h⟩
  | _ + 1 => ⟨fun _ => h, fun i hi => by rw [hr] at hi; cases hi⟩
/-- The beginning. -/
theorem wpI_region_held {id : Nat} (hd : ∀ w : World, T.D s w { w with drawn := w.drawn + 1 } #[] s) (hm : P.follows .mixedOrders = true)
    (h : ∀ w₁, T.R s w w₁ → AnyI P main c T fn ops .any Q St ops.size (Array.replicate ops.size false) s a { w₁ with drawn := w₁.drawn + 1 }) : wpI P main c T fn (.region id ops true) Q s a w :=
  fun b k cs Sp hb hk hc => GoI.of_goes rfl fun w₁ h₁ => by
    rw [stepG_region_draw]
    intro _
    refine ⟨s, hd w₁, ?_⟩
    have e : Region.schedule (P.follows .mixedOrders) ops (w₁.tape w₁.drawn (.order b.fn id)) = Region.linearise.go .any ops ops.size (w₁.tape w₁.drawn (.order b.fn id)) (Array.replicate ops.size false) [] := by
      simp only [Region.schedule, hm, Bool.true_or, if_true]
      rfl
    rw [e]
    exact anyI_sound ops.size _ _ s a _ (h w₁ h₁) b k cs Sp hb hk hc
end
end Go.Proofs.Ytgmhdmhnedljcaa.Co
