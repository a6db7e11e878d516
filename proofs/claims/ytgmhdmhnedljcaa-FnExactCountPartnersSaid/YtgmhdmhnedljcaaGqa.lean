/-
  Helpers of the claims beside this text: the trace of two goroutines that work side by side, one of which owns its memory, beside others that only leave.
-/
import Derived.Conc.Beside
import Derived.Conc.CrowdTrace
import Derived.Test.YtgmhdmhnedljcaaGow
import Derived.Conc.CrowdComm
import Derived.Test.YtgmhdmhnedljcaaGcs
namespace Go.Proofs.Ytgmhdmhnedljcaa.Co
open Go Go.Conc
set_option linter.unusedSimpArgs false
set_option linter.unusedVariables false

def locIn (own : Nat → Prop) : Loc → Prop
  | .cell a => own a.block
  | .obj r => own r
  | _ => False
/-- A touch of these blocks, or a word that says nothing. -/
def EvP (own : Nat → Prop) (e : Event) : Prop := (∃ a, e.loc = .cell a ∧ own a.block) ∨ (∃ r, e.loc = .obj r ∧ e.write = false ∧ own r) ∨ ∃ m, e.loc = .mark m ∧ Neutral m
theorem EvP.mono {own own' : Nat → Prop} {e : Event} (h : EvP own e) (k : ∀ b, own b → own' b) : EvP own' e := by
  rcases h with ⟨a, h1, h2⟩ | ⟨r, h1, h2, h3⟩ | h
  · exact .inl ⟨a, h1, k _ h2⟩
  · exact .inr (.inl ⟨r, h1, h2, k _ h3⟩)
  · exact .inr (.inr h)
theorem EvP.mark {own : Nat → Prop} {e : Event} (h : EvP own e) : ∀ m, e.loc = .mark m → Neutral m := by
  intro m hm
  rcases h with ⟨a, h1, h2⟩ | ⟨r, h1, h2, h3⟩ | ⟨m', h1, h2⟩
  · rw [h1] at hm; cases hm
  · rw [h1] at hm; cases hm
  · rw [h1] at hm; cases hm; exact h2
theorem EvP.touch {own : Nat → Prop} {e : Event} (h : EvP own e) {x : Touch} (hx : (MemAct.ofEvent e).touch? = some x) : locIn own x.loc := by
  obtain ⟨h1, -⟩ := ofEvent_touch h.mark hx
  rw [h1]
  rcases h with ⟨a, e1, h2⟩ | ⟨r, e1, h2, h3⟩ | ⟨m, e1, h2⟩
  · rw [e1]; exact h2
  · rw [e1]; exact h3
  · obtain ⟨loc, wr, sy⟩ := e
    simp only at e1
    subst e1
    have e2 : MemAct.ofEvent ⟨.mark m, wr, sy⟩ = .mark m := by cases wr <;> cases sy <;> rfl
    rw [e2, h2.touch] at hx
    cases hx
theorem EvP.low {own : Nat → Prop} {B : Nat} {e : Event} (h : EvP own e) (k : ∀ b, own b → b < B) : (MemAct.ofEvent e).low B := by
  obtain ⟨loc, wr, sy⟩ := e
  rcases h with ⟨a, e1, h2⟩ | ⟨r, e1, h2, h3⟩ | ⟨m, e1, h2⟩
  · simp only at e1; subst e1
    cases wr <;> cases sy <;> exact k _ h2
  · simp only at e1 h2; subst e1 h2
    cases sy <;> exact k _ h3
  · simp only at e1; subst e1
    have e2 : MemAct.ofEvent ⟨.mark m, wr, sy⟩ = .mark m := by cases wr <;> cases sy <;> rfl
    rw [e2]
    unfold Neutral at h2
    subst h2
    exact trivial
theorem EvP.still {own : Nat → Prop} {e : Event} (h : EvP own e) : e.loc ≠ .mark .disable ∧ e.loc ≠ .mark .enable :=
  ⟨fun hm => (h.mark _ hm).ne_disable rfl, fun hm => (h.mark _ hm).ne_enable rfl⟩
theorem low_touch {B : Nat} {a : MemAct} {x : Touch} (h : a.low B) (hx : a.touch? = some x) (own : Nat → Prop) (ho : locIn own x.loc) : ∃ b, own b ∧ b < B := by
  cases a with
  | access e =>
    simp only [MemAct.touch?, Option.some.injEq] at hx
    subst hx
    obtain ⟨loc, wr, sy⟩ := e
    cases loc with
    | cell a => exact ⟨_, ho, h⟩
    | obj r => exact ⟨_, ho, h⟩
    | _ => exact ho.elim
  | mark m =>
    cases m with
    | read a => simp only [MemAct.touch?, Option.some.injEq] at hx; subst hx; exact ⟨_, ho, h⟩
    | write a => simp only [MemAct.touch?, Option.some.injEq] at hx; subst hx; exact ⟨_, ho, h⟩
    | _ => cases hx
  | _ => cases hx
theorem locIn_or {p q : Nat → Prop} {l : Loc} (h : locIn (fun b => p b ∨ q b) l) : locIn p l ∨ locIn q l := by
  cases l with
  | cell a => exact h
  | obj r => exact h
  | _ => exact h.elim
theorem locIn.mono {p q : Nat → Prop} {l : Loc} (h : locIn p l) (k : ∀ b, p b → q b) : locIn q l := by
  cases l with
  | cell a => exact k _ h
  | obj r => exact k _ h
  | _ => exact h.elim
/-- What is held of the trace while goroutine k works beside goroutine 0: k owns the blocks 'own'. -/
structure Two (Shun : Loc → Prop) (n0 k B : Nat) (own : Nat → Prop) (t : Trace) : Prop where
  clean : ∀ said, ¬ Race said t
  rest : ∀ i x, touchAt t i = some x → x.loc.isMemory = true → ¬ locIn own x.loc → Knows t 0 i ∨ (Shun x.loc ∧ x.kind = .atomic)
  mine : ∀ i x, touchAt t i = some x → locIn own x.loc → Knows t k i
  only : ∀ i x, touchAt t i = some x → n0 ≤ i → t.g? i = some k → locIn own x.loc
  len : n0 ≤ t.size
  over : ∀ i g, t.g? i = some g → g ≠ 0 → (g = k → i < n0) → t.counts i → ∃ j, t.g? j = some 0 ∧ HappensBefore t i j
  hears : Deaf t 0 = 0
  hearsK : Deaf t k = 0
  seen : ∀ op ∈ t, op.act.low B
section
variable {Shun : Loc → Prop} {n0 k B B' : Nat} {own : Nat → Prop} {t u : Trace}
theorem over_app {g0 g1 : Nat} (hn : n0 ≤ t.size) (h : ∀ i g, t.g? i = some g → g ≠ 0 → (g = k → i < n0) → t.counts i → ∃ j, t.g? j = some 0 ∧ HappensBefore t i j) (hu : ∀ op ∈ u, op.g = 0 ∨ op.g = k ∨ op.act.touch? = none) :
    ∀ i g, (t ++ u).g? i = some g → g ≠ 0 → (g = k → i < n0) → (t ++ u).counts i → ∃ j, (t ++ u).g? j = some 0 ∧ HappensBefore (t ++ u) i j := by
  intro i g hg hne hnk hc
  have hc' := hc
  obtain ⟨x, hx, _⟩ := hc
  obtain ⟨op, hop, hox⟩ := touch_of hx
  rcases getElem?_append_cases hop with ⟨hi, hop'⟩ | ⟨_, hopu⟩
  · obtain ⟨j, hj, hb⟩ := h i g (by rw [← g?_old hi]; exact hg) hne hnk ((counts_old hi).1 hc')
    have hjl : j < t.size := by
      unfold Trace.g? at hj
      obtain ⟨z, hz, _⟩ := Option.map_eq_some_iff.1 hj
      exact lt_size_of_getElem? hz
    exact ⟨j, by rw [g?_old hjl]; exact hj, hb_app u hb⟩
  · rcases hu op hopu with h0 | h0 | h0
    · exact absurd (by simpa [Trace.g?, hop, h0] using hg.symm) hne
    · have := hnk (by simpa [Trace.g?, hop, h0] using hg.symm)
      rw [getElem?_append_old (by omega)] at hop
      obtain ⟨j, hj, hb⟩ := h i g (by rw [← g?_old (u := u) (by omega)]; exact hg) hne hnk ((counts_old (by omega)).1 hc')
      have hjl : j < t.size := by
        unfold Trace.g? at hj
        obtain ⟨z, hz, _⟩ := Option.map_eq_some_iff.1 hj
        exact lt_size_of_getElem? hz
      exact ⟨j, by rw [g?_old hjl]; exact hj, hb_app u hb⟩
    · rw [h0] at hox; cases hox
theorem touch_cases {i : Nat} {x : Touch} (h : touchAt (t ++ u) i = some x) : (i < t.size ∧ touchAt t i = some x) ∨ ∃ op ∈ u, (t ++ u)[i]? = some op ∧ op.act.touch? = some x := by
  obtain ⟨op, hop, hox⟩ := touch_of h
  rcases getElem?_append_cases hop with ⟨hi, hop'⟩ | ⟨_, hopu⟩
  · exact .inl ⟨hi, by rw [touchAt_of hop']; exact hox⟩
  · exact .inr ⟨op, hopu, hop, hox⟩
/-- Goroutine 0's operations: off what k owns. -/
theorem Two.app0 (h : Two Shun n0 k B own t) (hk : k ≠ 0) (hu : ∀ op ∈ u, op.g = 0) (ht : ∀ op ∈ u, ∀ x, op.act.touch? = some x → ¬ locIn own x.loc ∧ ¬ Shun x.loc) (hd : Deaf (t ++ u) 0 = Deaf t 0) (hB : B ≤ B') (hl : ∀ op ∈ u, op.act.low B') :
    Two Shun n0 k B' own (t ++ u) := by
  refine ⟨fun said => noRace_append (h.clean said) hu fun i a ha op hop b hb hc => ?_, fun i x hx hm hn => ?_, fun i x hx ho => ?_, fun i x hx hni hg => ?_, (by have := h.len; simp; omega), over_app (g0 := 0) (g1 := 0) h.len h.over fun op hop => .inl (hu op hop), hd.trans h.hears, ?_, seen_app (fun op hop => MemAct.low_mono hB (h.seen op hop)) hl⟩
  · obtain ⟨n1, n2⟩ := ht op hop b hb
    have e := hc.1
    rcases h.rest i a ha hc.2.1 (by rw [e]; exact n1) with q | ⟨q, _⟩
    · exact q
    · exact absurd (e ▸ q) n2
  · rcases touch_cases hx with ⟨_, hx'⟩ | ⟨op, hop, hi, hox⟩
    · exact (h.rest i x hx' hm hn).imp (·.app u) id
    · have := knows_own hi; rw [hu op hop] at this; exact .inl this
  · rcases touch_cases hx with ⟨_, hx'⟩ | ⟨op, hop, hi, hox⟩
    · exact (h.mine i x hx' ho).app u
    · exact absurd ho (ht op hop x hox).1
  · rcases touch_cases hx with ⟨hi, hx'⟩ | ⟨op, hop, hi, hox⟩
    · exact h.only i x hx' hni (by rw [← g?_old hi]; exact hg)
    · simp only [Trace.g?, hi, Option.map_some, Option.some.injEq, hu op hop] at hg
      exact absurd hg.symm hk
  · rw [Deaf_other t (g' := 0) (Ne.symm hk) u hu]; exact h.hearsK
/-- Goroutine k's operations: on what it owns. -/
theorem Two.appK (h : Two Shun n0 k B own t) (hk : k ≠ 0) (hu : ∀ op ∈ u, op.g = k) {own' : Nat → Prop} (ho : ∀ b, own b → own' b) (hf : ∀ b, own' b → own b ∨ B ≤ b) (ht : ∀ op ∈ u, ∀ x, op.act.touch? = some x → locIn own' x.loc) (hd : Deaf (t ++ u) k = Deaf t k)
    (hB : B ≤ B') (hl : ∀ op ∈ u, op.act.low B') : Two Shun n0 k B' own' (t ++ u) := by
  have old : ∀ i x, touchAt t i = some x → locIn own' x.loc → locIn own x.loc := fun i x hx hi => by
    obtain ⟨op, hop, hox⟩ := touch_of hx
    have hlow := h.seen op (Array.mem_of_getElem? hop)
    have h2 : locIn (fun b => own b ∨ B ≤ b) x.loc := hi.mono hf
    rcases locIn_or h2 with q | q
    · exact q
    · obtain ⟨b, hb1, hb2⟩ := low_touch hlow hox _ q; omega
  refine ⟨fun said => noRace_append (h.clean said) hu fun i a ha op hop b hb hc => ?_, fun i x hx hm hn => ?_, fun i x hx hx2 => ?_, fun i x hx hni hg => ?_, (by have := h.len; simp; omega), over_app (g0 := 0) (g1 := 0) h.len h.over fun op hop => .inr (.inl (hu op hop)), ?_, hd.trans h.hearsK, seen_app (fun op hop => MemAct.low_mono hB (h.seen op hop)) hl⟩
  · exact h.mine i a ha (old i a ha (by rw [hc.1]; exact ht op hop b hb))
  · rcases touch_cases hx with ⟨_, hx'⟩ | ⟨op, hop, hi, hox⟩
    · exact (h.rest i x hx' hm fun q => hn (q.mono ho)).imp (·.app u) id
    · exact absurd (ht op hop x hox) hn
  · rcases touch_cases hx with ⟨_, hx'⟩ | ⟨op, hop, hi, hox⟩
    · exact (h.mine i x hx' (old i x hx' hx2)).app u
    · have := knows_own hi; rw [hu op hop] at this; exact this
  · rcases touch_cases hx with ⟨hi, hx'⟩ | ⟨op, hop, hi, hox⟩
    · exact (h.only i x hx' hni (by rw [← g?_old hi]; exact hg)).mono ho
    · exact ht op hop x hox
  · rw [Deaf_other t (g' := k) hk u hu]; exact h.hears
/-- Operations of one goroutine that touch nothing. -/
theorem Two.mute {g : Nat} (h : Two Shun n0 k B own t) (hu : ∀ op ∈ u, op.g = g) (ht : ∀ op ∈ u, op.act.touch? = none) (hd : ∀ j, j = 0 ∨ j = k → Deaf (t ++ u) j = Deaf t j) (hB : B ≤ B') (hl : ∀ op ∈ u, op.act.low B') : Two Shun n0 k B' own (t ++ u) := by
  refine ⟨fun said => noRace_append (h.clean said) hu fun i a ha op hop b hb hc => (by rw [ht op hop] at hb; cases hb), fun i x hx hm hn => ?_, fun i x hx hx2 => ?_, fun i x hx hni hg => ?_, (by have := h.len; simp; omega), over_app (g0 := 0) (g1 := 0) h.len h.over fun op hop => .inr (.inr (ht op hop)), (hd 0 (.inl rfl)).trans h.hears, (hd k (.inr rfl)).trans h.hearsK, seen_app (fun op hop => MemAct.low_mono hB (h.seen op hop)) hl⟩
  · rcases touch_cases hx with ⟨_, hx'⟩ | ⟨op, hop, hi, hox⟩
    · exact (h.rest i x hx' hm hn).imp (·.app u) id
    · rw [ht op hop] at hox; cases hox
  · rcases touch_cases hx with ⟨_, hx'⟩ | ⟨op, hop, hi, hox⟩
    · exact (h.mine i x hx' hx2).app u
    · rw [ht op hop] at hox; cases hox
  · rcases touch_cases hx with ⟨hi, hx'⟩ | ⟨op, hop, hi, hox⟩
    · exact h.only i x hx' hni (by rw [← g?_old hi]; exact hg)
    · rw [ht op hop] at hox; cases hox
end
end Go.Proofs.Ytgmhdmhnedljcaa.Co

/-
  Helpers of the claims beside this text: the trace behind the closing of the channel, and behind the receive that finds it closed.
-/
namespace Go.Proofs.Ytgmhdmhnedljcaa.Co
open Go Go.Conc
set_option linter.unusedSimpArgs false
set_option linter.unusedVariables false

/-- Goroutine k has closed the channel ch at place p, and touches nothing since. -/
structure Shut (Shun : Loc → Prop) (n0 k B : Nat) (own : Nat → Prop) (ch p : Nat) (t : Trace) : Prop where
  clean : ∀ said, ¬ Race said t
  rest : ∀ i x, touchAt t i = some x → x.loc.isMemory = true → ¬ locIn own x.loc → Knows t 0 i ∨ (Shun x.loc ∧ x.kind = .atomic)
  mine : ∀ i x, touchAt t i = some x → locIn own x.loc → Before t i p
  only : ∀ i x, touchAt t i = some x → n0 ≤ i → t.g? i = some k → locIn own x.loc
  len : n0 ≤ t.size
  over : ∀ i g, t.g? i = some g → g ≠ 0 → (g = k → i < n0) → t.counts i → ∃ j, t.g? j = some 0 ∧ HappensBefore t i j
  hears : Deaf t 0 = 0
  seen : ∀ op ∈ t, op.act.low B
  close : ∃ op, t[p]? = some op ∧ op.g = k ∧ op.act = .close ch
  heard : t.heard p
section
variable {Shun : Loc → Prop} {n0 k B B' ch p : Nat} {own : Nat → Prop} {t u : Trace}
theorem last_get (t : Trace) (y : MemOp) : (t ++ #[y])[t.size]? = some y := by rw [Array.getElem?_append_right (Nat.le_refl _)]; simp
theorem Two.shut (h : Two Shun n0 k B own t) (hk : k ≠ 0) {y : MemOp} (hg : y.g = k) (ha : y.act = .close ch) (hc : ch < B) : Shut Shun n0 k B own ch t.size (t ++ #[y]) := by
  have hnt : ∀ op ∈ #[y], op.act.touch? = none := fun op hop => by
    have : op = y := by simpa using hop
    rw [this, ha]; rfl
  have hgg : ∀ op ∈ #[y], op.g = k := fun op hop => by
    have : op = y := by simpa using hop
    rw [this, hg]
  have hd : ∀ j, j = 0 ∨ j = k → Deaf (t ++ #[y]) j = Deaf t j := fun j _ => by rw [Deaf_push]; simp [deafStep, ha]
  have h2 := h.mute (B' := B) hgg hnt hd (Nat.le_refl _) (fun op hop => by
    have : op = y := by simpa using hop
    rw [this, ha]; exact hc)
  refine ⟨h2.clean, h2.rest, fun i x hx ho => ?_, h2.only, h2.len, h2.over, h2.hears, h2.seen, ⟨y, last_get t y, hg, ha⟩, ⟨k, by simp [Trace.g?, hg], by rw [deaf_old (Nat.le_refl _)]; exact h.hearsK⟩⟩
  rcases touch_cases hx with ⟨_, hx'⟩ | ⟨op, hop, hi, hox⟩
  · exact .inr ((h.mine i x hx' ho).hb_new (Nat.le_refl _) (last_get t y) hg)
  · rw [hnt op hop] at hox; cases hox
theorem Shut.close_app (h : Shut Shun n0 k B own ch p t) : (∃ op, (t ++ u)[p]? = some op ∧ op.g = k ∧ op.act = .close ch) ∧ (t ++ u).heard p := by
  obtain ⟨op, h1, h2, h3⟩ := h.close
  have hp := lt_size_of_getElem? h1
  exact ⟨⟨op, by rw [getElem?_append_old hp]; exact h1, h2, h3⟩, (heard_old hp).2 h.heard⟩
theorem Shut.app0 (h : Shut Shun n0 k B own ch p t) (hk : k ≠ 0) (hu : ∀ op ∈ u, op.g = 0) (ht : ∀ op ∈ u, ∀ x, op.act.touch? = some x → ¬ locIn own x.loc ∧ ¬ Shun x.loc) (hd : Deaf (t ++ u) 0 = Deaf t 0) (hB : B ≤ B') (hl : ∀ op ∈ u, op.act.low B') :
    Shut Shun n0 k B' own ch p (t ++ u) := by
  refine ⟨fun said => noRace_append (h.clean said) hu fun i a ha op hop b hb hc => ?_, fun i x hx hm hn => ?_, fun i x hx ho => ?_, fun i x hx hni hg => ?_, (by have := h.len; simp; omega), over_app (g0 := 0) (g1 := 0) h.len h.over fun op hop => .inl (hu op hop), hd.trans h.hears, seen_app (fun op hop => MemAct.low_mono hB (h.seen op hop)) hl, h.close_app.1, h.close_app.2⟩
  · obtain ⟨n1, n2⟩ := ht op hop b hb
    have e := hc.1
    rcases h.rest i a ha hc.2.1 (by rw [e]; exact n1) with q | ⟨q, _⟩
    · exact q
    · exact absurd (e ▸ q) n2
  · rcases touch_cases hx with ⟨_, hx'⟩ | ⟨op, hop, hi, hox⟩
    · exact (h.rest i x hx' hm hn).imp (·.app u) id
    · have := knows_own hi; rw [hu op hop] at this; exact .inl this
  · rcases touch_cases hx with ⟨_, hx'⟩ | ⟨op, hop, hi, hox⟩
    · exact (h.mine i x hx' ho).app u
    · exact absurd ho (ht op hop x hox).1
  · rcases touch_cases hx with ⟨hi, hx'⟩ | ⟨op, hop, hi, hox⟩
    · exact h.only i x hx' hni (by rw [← g?_old hi]; exact hg)
    · simp only [Trace.g?, hi, Option.map_some, Option.some.injEq, hu op hop] at hg
      exact absurd hg.symm hk
theorem Shut.mute {g : Nat} (h : Shut Shun n0 k B own ch p t) (hu : ∀ op ∈ u, op.g = g) (ht : ∀ op ∈ u, op.act.touch? = none) (hd : Deaf (t ++ u) 0 = Deaf t 0) (hB : B ≤ B') (hl : ∀ op ∈ u, op.act.low B') : Shut Shun n0 k B' own ch p (t ++ u) := by
  refine ⟨fun said => noRace_append (h.clean said) hu fun i a ha op hop b hb hc => (by rw [ht op hop] at hb; cases hb), fun i x hx hm hn => ?_, fun i x hx hx2 => ?_, fun i x hx hni hg => ?_, (by have := h.len; simp; omega), over_app (g0 := 0) (g1 := 0) h.len h.over fun op hop => .inr (.inr (ht op hop)), hd.trans h.hears, seen_app (fun op hop => MemAct.low_mono hB (h.seen op hop)) hl, h.close_app.1, h.close_app.2⟩
  · rcases touch_cases hx with ⟨_, hx'⟩ | ⟨op, hop, hi, hox⟩
    · exact (h.rest i x hx' hm hn).imp (·.app u) id
    · rw [ht op hop] at hox; cases hox
  · rcases touch_cases hx with ⟨_, hx'⟩ | ⟨op, hop, hi, hox⟩
    · exact (h.mine i x hx' hx2).app u
    · rw [ht op hop] at hox; cases hox
  · rcases touch_cases hx with ⟨hi, hx'⟩ | ⟨op, hop, hi, hox⟩
    · exact h.only i x hx' hni (by rw [← g?_old hi]; exact hg)
    · rw [ht op hop] at hox; cases hox
/-- GOROUTINE 0 FINDS IT CLOSED: it knows all that k has done. -/
theorem Shut.fin (h : Shut Shun n0 k B own ch p t) (hk : k ≠ 0) {y : MemOp} (hg : y.g = 0) (ha : y.act = .recvClosed ch) (hc : ch < B) : Past Shun B (t ++ #[y]) := by
  have hnt : ∀ op ∈ #[y], op.act.touch? = none := fun op hop => by
    have : op = y := by simpa using hop
    rw [this, ha]; rfl
  have hgg : ∀ op ∈ #[y], op.g = 0 := fun op hop => by
    have : op = y := by simpa using hop
    rw [this, hg]
  have hd : Deaf (t ++ #[y]) 0 = Deaf t 0 := by rw [Deaf_push]; simp [deafStep, ha]
  have h2 := h.mute (B' := B) hgg hnt hd (Nat.le_refl _) (fun op hop => by
    have : op = y := by simpa using hop
    rw [this, ha]; exact hc)
  have hl := last_get t y
  obtain ⟨op, c1, c2, c3⟩ := h2.close
  have hedge : HappensBefore (t ++ #[y]) p t.size := .single (.inr ⟨.closed (c := ch) (by rw [act?_of c1, c3]) (by rw [act?_of hl, ha]), h2.heard, ⟨0, by simp [Trace.g?, hg], by rw [deaf_old (Nat.le_refl _)]; exact h.hears⟩⟩)
  refine ⟨h2.clean, fun i x hx hm => ?_, fun i g hi hne hcnt => ?_, h2.hears, h2.seen⟩
  · by_cases ho : locIn own x.loc
    · exact .inl ⟨t.size, y, hl, hg, .inr ((h2.mine i x hx ho).hb hedge)⟩
    · exact h2.rest i x hx hm ho
  · by_cases hgk : g = k ∧ n0 ≤ i
    · obtain ⟨rfl, hni⟩ := hgk
      obtain ⟨x, hx, _⟩ := hcnt
      have ho := h2.only i x hx hni hi
      exact ⟨t.size, by simp [Trace.g?, hg], (h2.mine i x hx ho).hb hedge⟩
    · exact h2.over i g hi hne (fun e => by
        rcases Nat.lt_or_ge i n0 with q | q
        · exact q
        · exact absurd ⟨e, q⟩ hgk) hcnt
end
end Go.Proofs.Ytgmhdmhnedljcaa.Co

/-
  Helpers of the claims beside this text: two goroutines side by side over a channel without a buffer: what is held at every moment.
-/
namespace Go.Proofs.Ytgmhdmhnedljcaa.Co
open Go Go.Conc
set_option linter.unusedSimpArgs false
set_option linter.unusedVariables false

/-- Nothing but memory is turned, and no block of these. -/
structure Stays (own : Nat → Prop) (w w' : World) : Prop where
  os : w'.os = w.os
  tape : w'.tape = w.tape
  output : w'.output = w.output
  size : w.heap.size ≤ w'.heap.size
  block : ∀ b, own b → w'.heap[b]? = w.heap[b]?
theorem Stays.refl (own : Nat → Prop) (w : World) : Stays own w w := ⟨rfl, rfl, rfl, Nat.le_refl _, fun _ _ => rfl⟩
theorem Stays.trans {own : Nat → Prop} {a b c : World} (h : Stays own a b) (k : Stays own b c) : Stays own a c :=
  ⟨k.os.trans h.os, k.tape.trans h.tape, k.output.trans h.output, Nat.le_trans h.size k.size, fun i hi => (k.block i hi).trans (h.block i hi)⟩
theorem Stays.at (own : Nat → Prop) (w : World) (d : Nat) : Stays own w (w.at d) := ⟨rfl, rfl, rfl, Nat.le_refl _, fun _ _ => rfl⟩
/-- One side's ghost: the blocks that it alone may touch; those among them that are turned no more; what is still to pass; what has passed, with the values that stood for it. -/
structure Side (ι : Type) where
  own : Nat → Prop
  fix : Nat → Prop
  rem : List ι
  got : List (ι × Value)
/-- A side's own step. -/
structure Does {ι : Type} (s : Side ι) (w w' : World) (es : Array Event) (s' : Side ι) : Prop where
  own : s'.own = fun b => s.own b ∨ (w.heap.size ≤ b ∧ b < w'.heap.size)
  fix : s'.fix = s.fix
  rem : s'.rem = s.rem
  got : s'.got = s.got
  os : w'.os = w.os
  tape : w'.tape = w.tape
  output : w'.output = w.output
  size : w.heap.size ≤ w'.heap.size
  block : ∀ j, j < w.heap.size → (¬ s.own j ∨ s.fix j) → w'.heap[j]? = w.heap[j]?
  evs : ∀ e ∈ es, EvP s'.own e
theorem Does.idle {ι : Type} (s : Side ι) (w : World) : Does s w w #[] s :=
  ⟨by funext b; rw [eq_iff_iff]; exact ⟨.inl, fun h => h.elim id fun h => by omega⟩, rfl, rfl, rfl, rfl, rfl, rfl, Nat.le_refl _, fun _ _ _ => rfl, by simp⟩
/-- The sender's terms. -/
def dealB {ι : Type} (Rep : ι → Value → (Nat → Prop) → World → Prop) : Deal (Side ι) where
  R s w w' := Stays s.own w w'
  F _ _ _ := True
  D := Does
  Snd s v w s' := ∃ l, s.rem = l :: s'.rem ∧ s'.got = s.got ++ [(l, v)] ∧ s'.own = s.own ∧ (∀ b, s.fix b → s'.fix b) ∧ (∀ b, s'.fix b → s.own b) ∧ Rep l v s'.fix w
  Rcv _ _ _ _ _ := False
  End _ _ _ _ := False
  Asks _ := False
  Fin _ _ _ := False
  rely _ _ _ _ h k := h.trans k
  idle := Does.idle
/-- The receiver's terms. -/
def dealA {ι : Type} (Rep : ι → Value → (Nat → Prop) → World → Prop) (Val : ι → Value → Prop) (Fin : Side ι → Goroutine → World → Prop) : Deal (Side ι) where
  R s w w' := Stays s.own w w'
  F _ _ _ := True
  D := Does
  Snd _ _ _ _ := False
  Rcv s v w₁ w₂ s' := ∃ l, s.rem = l :: s'.rem ∧ s'.got = s.got ++ [(l, v)] ∧ s'.own = s.own ∧ s'.fix = s.fix ∧ Val l v ∧ Stays s.own w₁ w₂
  End s w₁ w₂ s' := s.rem = [] ∧ s' = s ∧ Stays s.own w₁ w₂ ∧ ∃ f : Nat → Prop, (∀ b, f b → ¬ s.own b ∧ b < w₂.heap.size) ∧ ∀ p ∈ s.got, Rep p.1 p.2 f w₂
  Asks _ := True
  Fin := Fin
  rely _ _ _ _ h k := h.trans k
  idle := Does.idle
/-- How a value stands for what passes: it is kept while those blocks are. -/
structure Reps {ι : Type} (Rep : ι → Value → (Nat → Prop) → World → Prop) (Val : ι → Value → Prop) : Prop where
  val : ∀ {l v f w}, Rep l v f w → Val l v
  keep : ∀ {l v f f' w w'}, Rep l v f w → (∀ b, f b → f' b) → (∀ b, f b → w'.heap[b]? = w.heap[b]?) → Rep l v f' w'
/-- What is held at every moment. -/
structure Duo {ι : Type} (P : Program) (Rep : ι → Value → (Nat → Prop) → World → Prop) (Shun : Loc → Prop) (ShB : Nat → Prop) (n0 k ch : Nat) (gs : Array Goroutine) (w : World) (t : Trace) (q : Nat → Nat) (sA sB : Side ι) (wA wB : World) : Prop where
  neq : k ≠ 0
  old : ∀ i g, i ≠ 0 → i ≠ k → gs[i]? = some g → QuitsD P (q i) (Deaf t i) g
  above : ∀ j, gs.size ≤ j → Deaf t j = 0
  chan : ∃ s r tm, w.heap[ch]? = some (.chan 0 #[] false s r tm)
  kA : Stays sA.own wA w
  kB : Stays sB.own wB w
  apart : ∀ b, sA.own b → sB.own b → False
  nA : ¬ sA.own ch
  nB : ¬ sB.own ch
  lowA : ∀ b, sA.own b → b < w.heap.size
  lowB : ∀ b, sB.own b → b < w.heap.size
  fixB : ∀ b, sB.fix b → sB.own b
  rem : sA.rem = sB.rem
  got : sA.got = sB.got
  rep : ∀ p ∈ sB.got, Rep p.1 p.2 sB.fix w
  two : Two Shun n0 k w.heap.size (fun b => sB.own b ∨ b = ch) t
  shun : ∀ l, Shun l → locIn ShB l
  shunA : ∀ b, sA.own b → ¬ ShB b
  shunLow : ∀ b, ShB b → b < w.heap.size
section
variable {ι : Type} {P : Program} {Rep : ι → Value → (Nat → Prop) → World → Prop} {Val : ι → Value → Prop} {Shun : Loc → Prop} {ShB : Nat → Prop} {n0 k ch : Nat} {gs : Array Goroutine} {w w' : World} {t : Trace} {q : Nat → Nat} {sA sB sA' sB' : Side ι} {wA wB : World} {es : Array Event}
theorem loc_apart {p p' : Nat → Prop} {l : Loc} (h : locIn p l) (k : ∀ b, p b → ¬ p' b) : ¬ locIn p' l := by
  cases l with
  | cell a => exact k _ h
  | obj r => exact k _ h
  | _ => exact h.elim
theorem Duo.chLow (h : Duo P Rep Shun ShB n0 k ch gs w t q sA sB wA wB) : ch < w.heap.size := by
  obtain ⟨s, r, tm, hc⟩ := h.chan
  exact (Array.getElem?_eq_some_iff.1 hc).1
theorem Duo.draw (hR : Reps Rep Val) (h : Duo P Rep Shun ShB n0 k ch gs w t q sA sB wA wB) (d : Nat) : Duo P Rep Shun ShB n0 k ch gs (w.at d) t q sA sB wA wB :=
  ⟨h.neq, h.old, h.above, h.chan, h.kA.trans (.at _ w d), h.kB.trans (.at _ w d), h.apart, h.nA, h.nB, h.lowA, h.lowB, h.fixB, h.rem, h.got, fun p hp => hR.keep (h.rep p hp) (fun _ h => h) (fun _ _ => rfl), h.two, h.shun, h.shunA, h.shunLow⟩
theorem evs_g {g : Nat} {fn : FuncId} {pos : String} {es : Array Event} : ∀ op ∈ MemOp.ofEvents g fn pos es, op.g = g := fun op hop => by
  obtain ⟨e, _, rfl⟩ := Go.Conc.mem_ofEvents hop; rfl
/-- The others are as they were. -/
def Others (P : Program) (k : Nat) (gs gs' : Array Goroutine) : Prop := gs'.size = gs.size ∧ ∀ i g, i ≠ 0 → i ≠ k → gs'[i]? = some g → ∃ y, gs[i]? = some y ∧ ∀ n d, QuitsD P n d y → g = y
theorem others_refl (k : Nat) (gs : Array Goroutine) : Others P k gs gs := ⟨rfl, fun i g _ _ h => ⟨g, h, fun _ _ _ => rfl⟩⟩
theorem Others.set (h : Others P k gs gs) (j : Nat) (hj : j = 0 ∨ j = k) (x : Goroutine) {gs1 : Array Goroutine} (h1 : Others P k gs gs1) : Others P k gs (gs1.setIfInBounds j x) :=
  ⟨by simp [h1.1], fun i g hi hk hg => h1.2 i g hi hk (by rw [Array.getElem?_setIfInBounds_ne (by rcases hj with rfl | rfl; exact fun e => hi e.symm; exact fun e => hk e.symm)] at hg; exact hg)⟩
theorem others_woken (k j : Nat) (hj : j = 0 ∨ j = k) (gs : Array Goroutine) (a a' x : Goroutine) (w : World) : Others P k gs ((gs.map (woken P a a' w)).setIfInBounds j x) :=
  ⟨by simp, fun i g hi hk hg => by
    rw [Array.getElem?_setIfInBounds_ne (by rcases hj with rfl | rfl; exact fun e => hi e.symm; exact fun e => hk e.symm), Array.getElem?_map] at hg
    obtain ⟨y, hy, rfl⟩ := Option.map_eq_some_iff.1 hg
    exact ⟨y, hy, fun n d hq => woken_quitsD hq⟩⟩
/-- The receiver's own step. -/
theorem Duo.stepA (hR : Reps Rep Val) (h : Duo P Rep Shun ShB n0 k ch gs w t q sA sB wA wB) (hD : Does sA w w' es sA') {gs' : Array Goroutine} (hgs : Others P k gs gs') {fn : FuncId} {pos : String} :
    Duo P Rep Shun ShB n0 k ch gs' w' (t ++ MemOp.ofEvents 0 fn pos es) q sA' sB w' wB := by
  have hnew : ∀ b, sA'.own b → sA.own b ∨ (w.heap.size ≤ b ∧ b < w'.heap.size) := fun b hb => by rw [hD.own] at hb; exact hb
  have hB : ∀ b, sB.own b → w'.heap[b]? = w.heap[b]? := fun b hb => hD.block b (h.lowB b hb) (.inl fun ha => h.apart b ha hb)
  have hch : w'.heap[ch]? = w.heap[ch]? := hD.block ch h.chLow (.inl h.nA)
  have hoff : ∀ b, sA'.own b → ¬ (sB.own b ∨ b = ch) := fun b hb hc => by
    rcases hnew b hb with h1 | h1
    · rcases hc with h2 | rfl
      · exact h.apart b h1 h2
      · exact h.nA h1
    · rcases hc with h2 | rfl
      · have := h.lowB b h2; omega
      · have := h.chLow; omega
  have hsh : ∀ b, sA'.own b → ¬ ShB b := fun b hb hc => by
    rcases hnew b hb with h1 | h1
    · exact h.shunA b h1 hc
    · have := h.shunLow b hc; omega
  have hst : ∀ e ∈ es, e.loc ≠ .mark .disable ∧ e.loc ≠ .mark .enable := fun e he => (hD.evs e he).still
  have hlow : ∀ b, sA'.own b → b < w'.heap.size := fun b hb => by
    rcases hnew b hb with h1 | h1
    · exact Nat.lt_of_lt_of_le (h.lowA b h1) hD.size
    · exact h1.2
  refine ⟨h.neq, fun i g hi hk hg => ?_, fun j hj => ?_, by rw [hch]; exact h.chan, .refl _ _, h.kB.trans ⟨hD.os, hD.tape, hD.output, hD.size, hB⟩, fun b ha hb => hoff b ha (.inl hb), fun ha => hoff ch ha (.inr rfl), h.nB, hlow, fun b hb => Nat.lt_of_lt_of_le (h.lowB b hb) hD.size, h.fixB, by rw [hD.rem]; exact h.rem, by rw [hD.got]; exact h.got,
    fun p hp => hR.keep (h.rep p hp) (fun _ h => h) (fun b hb => hB b (h.fixB b hb)), ?_, h.shun, hsh, fun b hb => Nat.lt_of_lt_of_le (h.shunLow b hb) hD.size⟩
  · obtain ⟨y, hy, hz⟩ := hgs.2 i g hi hk hg
    have hq := h.old i y hi hk hy
    rw [hz _ _ hq, Deaf_other t (g' := 0) (fun e => hi e.symm) _ evs_g]
    exact hq
  · rw [hgs.1] at hj
    by_cases h0 : j = 0
    · subst h0; rw [Deaf_own, h.two.hears]; exact deafBehind_still hst _
    · rw [Deaf_other t (g' := 0) (fun e => h0 e.symm) _ evs_g]
      exact h.above j hj
  · refine h.two.app0 h.neq evs_g (fun op hop x hx => ?_) ?_ hD.size (fun op hop => ?_)
    · obtain ⟨e, he, rfl⟩ := Go.Conc.mem_ofEvents hop
      have ht := (hD.evs e he).touch hx
      exact ⟨loc_apart ht hoff, fun hs => loc_apart ht hsh (h.shun _ hs)⟩
    · rw [Deaf_own]; exact deafBehind_still hst _
    · obtain ⟨e, he, rfl⟩ := Go.Conc.mem_ofEvents hop
      exact (hD.evs e he).low hlow
/-- The sender's own step. -/
theorem Duo.stepB (hR : Reps Rep Val) (h : Duo P Rep Shun ShB n0 k ch gs w t q sA sB wA wB) (hD : Does sB w w' es sB') {gs' : Array Goroutine} (hgs : Others P k gs gs') {fn : FuncId} {pos : String} :
    Duo P Rep Shun ShB n0 k ch gs' w' (t ++ MemOp.ofEvents k fn pos es) q sA sB' wA w' := by
  have hnew : ∀ b, sB'.own b → sB.own b ∨ (w.heap.size ≤ b ∧ b < w'.heap.size) := fun b hb => by rw [hD.own] at hb; exact hb
  have hA : ∀ b, sA.own b → w'.heap[b]? = w.heap[b]? := fun b hb => hD.block b (h.lowA b hb) (.inl fun ha => h.apart b hb ha)
  have hch : w'.heap[ch]? = w.heap[ch]? := hD.block ch h.chLow (.inl h.nB)
  have hst : ∀ e ∈ es, e.loc ≠ .mark .disable ∧ e.loc ≠ .mark .enable := fun e he => (hD.evs e he).still
  have hlow : ∀ b, sB'.own b → b < w'.heap.size := fun b hb => by
    rcases hnew b hb with h1 | h1
    · exact Nat.lt_of_lt_of_le (h.lowB b h1) hD.size
    · exact h1.2
  refine ⟨h.neq, fun i g hi hk hg => ?_, fun j hj => ?_, by rw [hch]; exact h.chan, h.kA.trans ⟨hD.os, hD.tape, hD.output, hD.size, hA⟩, .refl _ _, fun b ha hb => ?_, h.nA, fun hb => ?_, fun b hb => Nat.lt_of_lt_of_le (h.lowA b hb) hD.size, hlow, fun b hb => ?_, by rw [hD.rem]; exact h.rem, by rw [hD.got]; exact h.got,
    fun p hp => ?_, ?_, h.shun, h.shunA, fun b hb => Nat.lt_of_lt_of_le (h.shunLow b hb) hD.size⟩
  · obtain ⟨y, hy, hz⟩ := hgs.2 i g hi hk hg
    have hq := h.old i y hi hk hy
    rw [hz _ _ hq, Deaf_other t (g' := k) (fun e => hk e.symm) _ evs_g]
    exact hq
  · rw [hgs.1] at hj
    by_cases h0 : j = k
    · subst h0; rw [Deaf_own, h.two.hearsK]; exact deafBehind_still hst _
    · rw [Deaf_other t (g' := k) (fun e => h0 e.symm) _ evs_g]
      exact h.above j hj
  · rcases hnew b hb with h1 | h1
    · exact h.apart b ha h1
    · have := h.lowA b ha; omega
  · rcases hnew ch hb with h1 | h1
    · exact h.nB h1
    · have := h.chLow; omega
  · rw [hD.fix] at hb
    rw [hD.own]
    exact .inl (h.fixB b hb)
  · rw [hD.got] at hp
    rw [hD.fix]
    exact hR.keep (h.rep p hp) (fun _ h => h) (fun b hb => hD.block b (h.lowB b (h.fixB b hb)) (.inr hb))
  · refine h.two.appK h.neq evs_g (own' := fun b => sB'.own b ∨ b = ch) (fun b hb => ?_) (fun b hb => ?_) (fun op hop x hx => ?_) ?_ hD.size (fun op hop => ?_)
    · rw [hD.own]; exact hb.imp .inl id
    · rcases hb with hb | hb
      · rcases hnew b hb with h1 | h1
        · exact .inl (.inl h1)
        · exact .inr h1.1
      · exact .inl (.inr hb)
    · obtain ⟨e, he, rfl⟩ := Go.Conc.mem_ofEvents hop
      exact ((hD.evs e he).touch hx).mono fun b hb => .inl hb
    · rw [Deaf_own]; exact deafBehind_still hst _
    · obtain ⟨e, he, rfl⟩ := Go.Conc.mem_ofEvents hop
      exact (hD.evs e he).low hlow
/-- A leaver slips. -/
theorem Duo.slip (h : Duo P Rep Shun ShB n0 k ch gs w t q sA sB wA wB) {i n : Nat} (h0 : i ≠ 0) (hk : i ≠ k) {g g' : Goroutine} (hi : gs[i]? = some g) (hm : ∀ e ∈ es, Event.mute e = true) (hq : QuitsD P n (deafBehind (Deaf t i) es) g') {fn : FuncId} {pos : String} :
    Duo P Rep Shun ShB n0 k ch ((gs.map (woken P g g' w)).setIfInBounds i g') w (t ++ MemOp.ofEvents i fn pos es) (Go.ConcN.upd q i n) sA sB wA wB := by
  have hlt := (Array.getElem?_eq_some_iff.1 hi).1
  refine ⟨h.neq, fun j x hj hjk hx => ?_, fun j hj => ?_, h.chan, h.kA, h.kB, h.apart, h.nA, h.nB, h.lowA, h.lowB, h.fixB, h.rem, h.got, h.rep, ?_, h.shun, h.shunA, h.shunLow⟩
  · by_cases hji : i = j
    · subst hji
      rw [Array.getElem?_setIfInBounds_self_of_lt (by simpa using hlt)] at hx
      obtain rfl := Option.some.inj hx
      rw [Go.ConcN.upd_same, Deaf_own]
      exact hq
    · rw [Array.getElem?_setIfInBounds_ne hji, Array.getElem?_map] at hx
      obtain ⟨y, hy, rfl⟩ := Option.map_eq_some_iff.1 hx
      have hqj := h.old j y hj hjk hy
      rw [woken_quitsD hqj, Go.ConcN.upd_ne q n (Ne.symm hji), Deaf_other t hji _ evs_g]
      exact hqj
  · have hji : i ≠ j := by simp at hj; omega
    rw [Deaf_other t hji _ evs_g]
    exact h.above j (by simpa using hj)
  · refine h.two.mute evs_g (fun op hop => ?_) (fun j hj => ?_) (Nat.le_refl _) (fun op hop => ?_)
    · obtain ⟨e, he, rfl⟩ := Go.Conc.mem_ofEvents hop; exact touch_mute (hm e he)
    · rw [Deaf_other t (by rcases hj with rfl | rfl; exact h0; exact hk) _ evs_g]
    · obtain ⟨e, he, rfl⟩ := Go.Conc.mem_ofEvents hop; exact low_mute (hm e he) _
theorem two_word {B : Nat} {own : Nat → Prop} (h : Two Shun n0 k B own t) (y : MemOp) (ht : y.act.touch? = none) (hd : ∀ g d, deafStep g d y = d) (hl : y.act.low B) : Two Shun n0 k B own (t ++ #[y]) := by
  refine h.mute (g := y.g) (fun op hop => ?_) (fun op hop => ?_) (fun j _ => by rw [Deaf_push, hd]) (Nat.le_refl _) (fun op hop => ?_) <;> (have : op = y := by simpa using hop) <;> subst this
  · rfl
  · exact ht
  · exact hl
theorem setChan_block (w : World) (c cap : Nat) (buf : Array Value) (cl : Bool) (s r : Nat) (tm : Bool) {b : Nat} (h : b ≠ c) : (w.setChan c cap buf cl s r tm).heap[b]? = w.heap[b]? := by
  unfold World.setChan
  exact Array.getElem?_setIfInBounds_ne (Ne.symm h)
theorem setChan_stays (own : Nat → Prop) (w : World) (c cap : Nat) (buf : Array Value) (cl : Bool) (s r : Nat) (tm : Bool) (h : ¬ own c) : Stays own w (w.setChan c cap buf cl s r tm) :=
  ⟨rfl, rfl, rfl, by simp [World.setChan], fun b hb => setChan_block w c cap buf cl s r tm (fun e => h (e ▸ hb))⟩
/-- A VALUE PASSES. -/
theorem Duo.pass (hR : Reps Rep Val) (h : Duo P Rep Shun ShB n0 k ch gs w t q sA sB wA wB) {l : ι} {v : Value} (b1 : sB.rem = l :: sB'.rem) (b2 : sB'.got = sB.got ++ [(l, v)]) (b3 : sB'.own = sB.own) (b4 : ∀ b, sB.fix b → sB'.fix b) (b5 : ∀ b, sB'.fix b → sB.own b) (b6 : Rep l v sB'.fix w)
    (a1 : sA.rem = l :: sA'.rem) (a2 : sA'.got = sA.got ++ [(l, v)]) (a3 : sA'.own = sA.own) {s r : Nat} {tm : Bool} (hc : w.heap[ch]? = some (.chan 0 #[] false s r tm)) {gs' : Array Goroutine} (hgs : Others P k gs gs') {f1 f2 f3 f4 : FuncId} {p1 p2 p3 p4 : String} :
    Duo P Rep Shun ShB n0 k ch gs' (w.setChan ch 0 #[] false (s + 1) (r + 1) tm) (t ++ #[{ g := k, fn := f1, pos := p1, act := .send ch s }, { g := 0, fn := f2, pos := p2, act := .recv ch r 0 }, { g := k, fn := f3, pos := p3, act := .sendDone ch s }, { g := 0, fn := f4, pos := p4, act := .recvDone ch r }]) q sA' sB'
      (w.setChan ch 0 #[] false (s + 1) (r + 1) tm) (w.setChan ch 0 #[] false (s + 1) (r + 1) tm) := by
  have hsz : (w.setChan ch 0 #[] false (s + 1) (r + 1) tm).heap.size = w.heap.size := by simp [World.setChan]
  have hlt := h.chLow
  have ht : t ++ #[{ g := k, fn := f1, pos := p1, act := .send ch s }, { g := 0, fn := f2, pos := p2, act := .recv ch r 0 }, { g := k, fn := f3, pos := p3, act := .sendDone ch s }, { g := 0, fn := f4, pos := p4, act := .recvDone ch r }] =
      (((t ++ #[{ g := k, fn := f1, pos := p1, act := .send ch s }]) ++ #[{ g := 0, fn := f2, pos := p2, act := .recv ch r 0 }]) ++ #[{ g := k, fn := f3, pos := p3, act := .sendDone ch s }]) ++ #[{ g := 0, fn := f4, pos := p4, act := .recvDone ch r }] := by
    simp only [Array.append_assoc]
    congr 1
  have h4 := two_word (two_word (two_word (two_word h.two { g := k, fn := f1, pos := p1, act := .send ch s } rfl (fun _ _ => rfl) hlt) { g := 0, fn := f2, pos := p2, act := .recv ch r 0 } rfl (fun _ _ => rfl) hlt) { g := k, fn := f3, pos := p3, act := .sendDone ch s } rfl (fun _ _ => rfl) hlt) { g := 0, fn := f4, pos := p4, act := .recvDone ch r } rfl (fun _ _ => rfl) hlt
  have hdf : ∀ j, Deaf (t ++ #[{ g := k, fn := f1, pos := p1, act := .send ch s }, { g := 0, fn := f2, pos := p2, act := .recv ch r 0 }, { g := k, fn := f3, pos := p3, act := .sendDone ch s }, { g := 0, fn := f4, pos := p4, act := .recvDone ch r }]) j = Deaf t j := fun j => by
    rw [ht, Deaf_push, Deaf_push, Deaf_push, Deaf_push]; rfl
  refine ⟨h.neq, fun i g hi hk hg => ?_, fun j hj => ?_, ⟨s + 1, r + 1, tm, ?_⟩, .refl _ _, .refl _ _, by rw [a3, b3]; exact h.apart, by rw [a3]; exact h.nA, by rw [b3]; exact h.nB, by rw [a3, hsz]; exact h.lowA, by rw [b3, hsz]; exact h.lowB, by rw [b3]; exact b5, ?_, by rw [a2, b2, h.got], fun p hp => ?_, ?_, h.shun, by rw [a3]; exact h.shunA, by rw [hsz]; exact h.shunLow⟩
  · obtain ⟨y, hy, hz⟩ := hgs.2 i g hi hk hg
    have hq := h.old i y hi hk hy
    rw [hz _ _ hq, hdf]
    exact hq
  · rw [hdf]; rw [hgs.1] at hj; exact h.above j hj
  · unfold World.setChan
    exact Array.getElem?_setIfInBounds_self_of_lt hlt
  · have := h.rem
    rw [a1, b1] at this
    exact (List.cons.inj this).2
  · have hkp : ∀ b, sB'.fix b → (w.setChan ch 0 #[] false (s + 1) (r + 1) tm).heap[b]? = w.heap[b]? := fun b hb => setChan_block w ch 0 #[] false (s + 1) (r + 1) tm (fun e => h.nB (e ▸ b5 b hb))
    rw [b2] at hp
    rcases List.mem_append.1 hp with hp | hp
    · exact hR.keep (h.rep p hp) b4 (fun b hb => hkp b (b4 b hb))
    · rw [List.mem_singleton] at hp
      subst hp
      exact hR.keep b6 (fun _ h => h) hkp
  · rw [ht, hsz, b3]; exact h4
end
end Go.Proofs.Ytgmhdmhnedljcaa.Co

/-
  Helpers of the claims beside this text: the channel is closed: the receiver goes on beside others that only leave, till it finds that out.
-/
namespace Go.Proofs.Ytgmhdmhnedljcaa.Co
open Go Go.Conc
set_option linter.unusedSimpArgs false
set_option linter.unusedVariables false

structure DuoS {ι : Type} (P : Program) (Rep : ι → Value → (Nat → Prop) → World → Prop) (Shun : Loc → Prop) (ShB own fx : Nat → Prop) (n0 k ch p : Nat) (gs : Array Goroutine) (w : World) (t : Trace) (q : Nat → Nat) (sA : Side ι) (wA : World) : Prop where
  neq : k ≠ 0
  old : ∀ i g, i ≠ 0 → gs[i]? = some g → QuitsD P (q i) (Deaf t i) g
  above : ∀ j, gs.size ≤ j → Deaf t j = 0
  chan : ∃ s r tm, w.heap[ch]? = some (.chan 0 #[] true s r tm)
  kA : Stays sA.own wA w
  apart : ∀ b, sA.own b → own b → False
  nA : ¬ sA.own ch
  lowA : ∀ b, sA.own b → b < w.heap.size
  lowO : ∀ b, own b → b < w.heap.size
  fxO : ∀ b, fx b → own b
  rem : sA.rem = []
  rep : ∀ p ∈ sA.got, Rep p.1 p.2 fx w
  shut : Shut Shun n0 k w.heap.size (fun b => own b ∨ b = ch) ch p t
  shun : ∀ l, Shun l → locIn ShB l
  shunA : ∀ b, sA.own b → ¬ ShB b
  shunLow : ∀ b, ShB b → b < w.heap.size
/-- The same goroutine, let try again. -/
structure Like (a g : Goroutine) : Prop where
  frame : a.frame = g.frame
  callers : a.callers = g.callers
  dying : a.dying = g.dying
  run : a.status = .running
theorem Like.step {P : Program} {main : Bool} {a g : Goroutine} (h : Like a g) (w : World) : stepG P main a w = stepG P main g w := stepG_same h.frame h.callers h.dying w
/-- Where the run comes to: goroutine 0 behind the loop, beside others that only leave. -/
def Comes {ι : Type} (P : Program) (Shun : Loc → Prop) (Fin : Side ι → Goroutine → World → Prop) (gs : Array Goroutine) (w : World) (sl : Option (Nat × Nat)) (t : Trace) : Prop :=
  ∃ N gs' a' w' sl' t' q' s', runNT P N (crowd gs w sl) t = (.next (crowd gs' w' sl'), t') ∧ gs'.size = gs.size ∧ gs'[0]? = some a' ∧ Fin s' a' w' ∧ Leavers P t' gs' q' ∧ Past Shun w'.heap.size t'
section
variable {ι : Type} {P : Program} {Rep : ι → Value → (Nat → Prop) → World → Prop} {Val : ι → Value → Prop} {Fin : Side ι → Goroutine → World → Prop} {Shun : Loc → Prop} {ShB own fx : Nat → Prop} {n0 k ch p : Nat} {gs : Array Goroutine} {w w' : World} {sl : Option (Nat × Nat)} {t : Trace} {q : Nat → Nat} {sA sA' : Side ι} {wA : World} {es : Array Event}
theorem Comes.of_step {gs' : Array Goroutine} {sl' : Option (Nat × Nat)} {u : Trace} (h : stepT P (crowd gs w sl) = (.next (crowd gs' w' sl'), u)) (hs : gs'.size = gs.size) (k : Comes P Shun Fin gs' w' sl' (t ++ u)) : Comes P Shun Fin gs w sl t := by
  obtain ⟨N, gs2, a', w2, sl2, t2, q', s', h1, h2, h3⟩ := k
  exact ⟨N + 1, gs2, a', w2, sl2, t2, q', s', by simp only [runNT, h]; exact h1, h2.trans hs, h3⟩
theorem DuoS.chLow (h : DuoS P Rep Shun ShB own fx n0 k ch p gs w t q sA wA) : ch < w.heap.size := by
  obtain ⟨s, r, tm, hc⟩ := h.chan
  exact (Array.getElem?_eq_some_iff.1 hc).1
theorem DuoS.draw (hR : Reps Rep Val) (h : DuoS P Rep Shun ShB own fx n0 k ch p gs w t q sA wA) (d : Nat) : DuoS P Rep Shun ShB own fx n0 k ch p gs (w.at d) t q sA wA :=
  ⟨h.neq, h.old, h.above, h.chan, h.kA.trans (.at _ w d), h.apart, h.nA, h.lowA, h.lowO, h.fxO, h.rem, fun p hp => hR.keep (h.rep p hp) (fun _ h => h) (fun _ _ => rfl), h.shut, h.shun, h.shunA, h.shunLow⟩
theorem DuoS.stepA (hR : Reps Rep Val) (h : DuoS P Rep Shun ShB own fx n0 k ch p gs w t q sA wA) (hD : Does sA w w' es sA') {a a' : Goroutine} {fn : FuncId} {pos : String} :
    DuoS P Rep Shun ShB own fx n0 k ch p ((gs.map (woken P a a' w')).setIfInBounds 0 a') w' (t ++ MemOp.ofEvents 0 fn pos es) q sA' w' := by
  have hnew : ∀ b, sA'.own b → sA.own b ∨ (w.heap.size ≤ b ∧ b < w'.heap.size) := fun b hb => by rw [hD.own] at hb; exact hb
  have hB : ∀ b, own b → w'.heap[b]? = w.heap[b]? := fun b hb => hD.block b (h.lowO b hb) (.inl fun ha => h.apart b ha hb)
  have hch : w'.heap[ch]? = w.heap[ch]? := hD.block ch h.chLow (.inl h.nA)
  have hoff : ∀ b, sA'.own b → ¬ (own b ∨ b = ch) := fun b hb hc => by
    rcases hnew b hb with h1 | h1
    · rcases hc with h2 | rfl
      · exact h.apart b h1 h2
      · exact h.nA h1
    · rcases hc with h2 | rfl
      · have := h.lowO b h2; omega
      · have := h.chLow; omega
  have hsh : ∀ b, sA'.own b → ¬ ShB b := fun b hb hc => by
    rcases hnew b hb with h1 | h1
    · exact h.shunA b h1 hc
    · have := h.shunLow b hc; omega
  have hst : ∀ e ∈ es, e.loc ≠ .mark .disable ∧ e.loc ≠ .mark .enable := fun e he => (hD.evs e he).still
  have hlow : ∀ b, sA'.own b → b < w'.heap.size := fun b hb => by
    rcases hnew b hb with h1 | h1
    · exact Nat.lt_of_lt_of_le (h.lowA b h1) hD.size
    · exact h1.2
  refine ⟨h.neq, fun i g hi hg => ?_, fun j hj => ?_, by rw [hch]; exact h.chan, .refl _ _, fun b ha hb => hoff b ha (.inl hb), fun ha => hoff ch ha (.inr rfl), hlow, fun b hb => Nat.lt_of_lt_of_le (h.lowO b hb) hD.size, h.fxO, by rw [hD.rem]; exact h.rem,
    fun p hp => hR.keep (h.rep p (by rw [hD.got] at hp; exact hp)) (fun _ h => h) (fun b hb => hB b (h.fxO b hb)), ?_, h.shun, hsh, fun b hb => Nat.lt_of_lt_of_le (h.shunLow b hb) hD.size⟩
  · rw [Array.getElem?_setIfInBounds_ne (fun e => hi e.symm), Array.getElem?_map] at hg
    obtain ⟨y, hy, rfl⟩ := Option.map_eq_some_iff.1 hg
    have hq := h.old i y hi hy
    rw [woken_quitsD hq, Deaf_other t (g' := 0) (fun e => hi e.symm) _ evs_g]
    exact hq
  · simp at hj
    by_cases h0 : j = 0
    · subst h0; rw [Deaf_own, h.shut.hears]; exact deafBehind_still hst _
    · rw [Deaf_other t (g' := 0) (fun e => h0 e.symm) _ evs_g]
      exact h.above j hj
  · refine h.shut.app0 h.neq evs_g (fun op hop x hx => ?_) ?_ hD.size (fun op hop => ?_)
    · obtain ⟨e, he, rfl⟩ := Go.Conc.mem_ofEvents hop
      have ht := (hD.evs e he).touch hx
      exact ⟨loc_apart ht hoff, fun hs => loc_apart ht hsh (h.shun _ hs)⟩
    · rw [Deaf_own]; exact deafBehind_still hst _
    · obtain ⟨e, he, rfl⟩ := Go.Conc.mem_ofEvents hop
      exact (hD.evs e he).low hlow
theorem DuoS.slip (h : DuoS P Rep Shun ShB own fx n0 k ch p gs w t q sA wA) {i n : Nat} (h0 : i ≠ 0) {g g' : Goroutine} (hi : gs[i]? = some g) (hm : ∀ e ∈ es, Event.mute e = true) (hq : QuitsD P n (deafBehind (Deaf t i) es) g') {fn : FuncId} {pos : String} :
    DuoS P Rep Shun ShB own fx n0 k ch p ((gs.map (woken P g g' w)).setIfInBounds i g') w (t ++ MemOp.ofEvents i fn pos es) (Go.ConcN.upd q i n) sA wA := by
  have hlt := (Array.getElem?_eq_some_iff.1 hi).1
  refine ⟨h.neq, fun j x hj hx => ?_, fun j hj => ?_, h.chan, h.kA, h.apart, h.nA, h.lowA, h.lowO, h.fxO, h.rem, h.rep, ?_, h.shun, h.shunA, h.shunLow⟩
  · by_cases hji : i = j
    · subst hji
      rw [Array.getElem?_setIfInBounds_self_of_lt (by simpa using hlt)] at hx
      obtain rfl := Option.some.inj hx
      rw [Go.ConcN.upd_same, Deaf_own]
      exact hq
    · rw [Array.getElem?_setIfInBounds_ne hji, Array.getElem?_map] at hx
      obtain ⟨y, hy, rfl⟩ := Option.map_eq_some_iff.1 hx
      have hqj := h.old j y hj hy
      rw [woken_quitsD hqj, Go.ConcN.upd_ne q n (Ne.symm hji), Deaf_other t hji _ evs_g]
      exact hqj
  · have hji : i ≠ j := by simp at hj; omega
    rw [Deaf_other t hji _ evs_g]
    exact h.above j (by simpa using hj)
  · refine h.shut.mute evs_g (fun op hop => ?_) ?_ (Nat.le_refl _) (fun op hop => ?_)
    · obtain ⟨e, he, rfl⟩ := Go.Conc.mem_ofEvents hop; exact touch_mute (hm e he)
    · rw [Deaf_other t h0 _ evs_g]
    · obtain ⟨e, he, rfl⟩ := Go.Conc.mem_ofEvents hop; exact low_mute (hm e he) _
/-- The number of steps that the leavers have still to take. -/
theorem slip_sum {n i : Nat} {q : Nat → Nat} {m : Nat} (hlt : i < n) (hq : q i = m + 1) : Go.ConcN.sumTo n (Go.ConcN.upd q i m) + 1 = Go.ConcN.sumTo n q := by
  have := Go.ConcN.sumTo_upd q m id hlt
  simp only [id, hq] at this
  have e1 : Go.ConcN.sumTo n (fun a => Go.ConcN.upd q i m a) = Go.ConcN.sumTo n (Go.ConcN.upd q i m) := rfl
  have e2 : Go.ConcN.sumTo n (fun a => q a) = Go.ConcN.sumTo n q := rfl
  omega
theorem goI_running {S : Type} {main : Bool} {T : Deal S} {s : S} {g : Goroutine} {w : World} (hr : ∀ s w, T.R s w w) (h : GoI P main ch T (fun _ _ _ => False) s g w) : g.status = .running := by
  cases h with
  | stop h => exact (h w (hr _ _)).elim
  | step g' w' es s' hs _ _ _ => exact hs
  | send v z es s' hs _ _ _ => exact hs
  | recv z es hs _ _ _ _ _ => exact hs
theorem awake_all {gs : Array Goroutine} (h : ∀ (i : Nat) (g : Goroutine), gs[i]? = some g → g.status = .running ∨ g.status = .blocked ∨ g.status = .finished) : ∀ g ∈ gs, awake g := by
  intro g hg
  obtain ⟨i, hi, rfl⟩ := Array.mem_iff_getElem.1 hg
  exact awake_of (h i _ (Array.getElem?_eq_getElem hi))
/-- Others slip, till goroutine 0 takes its step. -/
theorem shut_inner (hR : Reps Rep Val) {g : Goroutine}
    (hpick : ∀ (gs : Array Goroutine) (w : World) (sl : Option (Nat × Nat)) (t : Trace) (q : Nat → Nat) (a : Goroutine) (d : Nat) (sl' : Option (Nat × Nat)), gs[0]? = some a → Like a g → DuoS P Rep Shun ShB own fx n0 k ch p gs (w.at d) t q sA wA → stepT P (crowd gs w sl) = runT P (crowd gs (w.at d) sl') 0 → Comes P Shun Fin gs w sl t) :
    ∀ (M : Nat) (gs : Array Goroutine) (w : World) (sl : Option (Nat × Nat)) (t : Trace) (q : Nat → Nat) (a : Goroutine), Go.ConcN.sumTo gs.size q ≤ M → gs[0]? = some a → Like a g → DuoS P Rep Shun ShB own fx n0 k ch p gs w t q sA wA → Comes P Shun Fin gs w sl t := by
  intro M
  induction M with
  | zero =>
    intro gs w sl t q a hM h0 hL hS
    obtain ⟨i, x, d, sl', hi, hx, hst⟩ := crowd_pick (P := P) (w := w) (sl := sl) (awake_all fun i g hg => by
      by_cases hi : i = 0
      · subst hi; rw [h0] at hg; cases hg; exact .inl hL.run
      · exact (hS.old i g hi hg).status.elim .inl fun x => .inr (.inr x)) ⟨0, a, h0, hL.run⟩
    by_cases hi0 : i = 0
    · subst hi0
      exact hpick gs w sl t q a d sl' h0 hL (hS.draw hR d) hst
    · have hq := hS.old i x hi0 hi
      have hlt := (Array.getElem?_eq_some_iff.1 hi).1
      cases hqi : q i with
      | zero => rw [hqi] at hq; rw [hq.1] at hx; cases hx
      | succ m => have := slip_sum hlt hqi; omega
  | succ M ih =>
    intro gs w sl t q a hM h0 hL hS
    obtain ⟨i, x, d, sl', hi, hx, hst⟩ := crowd_pick (P := P) (w := w) (sl := sl) (awake_all fun i g hg => by
      by_cases hi : i = 0
      · subst hi; rw [h0] at hg; cases hg; exact .inl hL.run
      · exact (hS.old i g hi hg).status.elim .inl fun x => .inr (.inr x)) ⟨0, a, h0, hL.run⟩
    by_cases hi0 : i = 0
    · subst hi0
      exact hpick gs w sl t q a d sl' h0 hL (hS.draw hR d) hst
    · have hq := hS.old i x hi0 hi
      have hlt := (Array.getElem?_eq_some_iff.1 hi).1
      have hi1 : (i == 0) = false := by simp [hi0]
      cases hqi : q i with
      | zero => rw [hqi] at hq; rw [hq.1] at hx; cases hx
      | succ m =>
        rw [hqi] at hq
        rcases hq with ⟨hf, _⟩ | ⟨_, g', es, hm, hstp, hq'⟩
        · rw [hf] at hx; cases hx
        have hrunT := runT_crowd_go (P := P) (sl := sl') (i := i) hi (by rw [hi1]; exact hstp (w.at d))
        refine Comes.of_step (hst.trans hrunT) (by simp) (ih _ _ _ _ _ a ?_ ?_ hL ((hS.draw hR d).slip hi0 hi hm hq'))
        · have := slip_sum hlt hqi
          simp only [Array.size_setIfInBounds, Array.size_map]
          omega
        · rw [Array.getElem?_setIfInBounds_ne hi0, Array.getElem?_map, h0]
          simp [woken_run hL.run]
/-- THE CHANNEL IS CLOSED. -/
theorem shut_runs (hR : Reps Rep Val) {g : Goroutine} (hA : GoI P true ch (dealA Rep Val Fin) (fun _ _ _ => False) sA g wA) : ∀ (M : Nat) (gs : Array Goroutine) (w : World) (sl : Option (Nat × Nat)) (t : Trace) (q : Nat → Nat) (a : Goroutine),
    Go.ConcN.sumTo gs.size q ≤ M → gs[0]? = some a → Like a g → DuoS P Rep Shun ShB own fx n0 k ch p gs w t q sA wA → Comes P Shun Fin gs w sl t := by
  induction hA with
  | stop h => exact (h _ (Stays.refl _ _)).elim
  | @step s g w0 g' w1 es s' hs h1 h2 h3 ih =>
    refine shut_inner hR fun gs w sl t q a d sl' h0 hL hS hst => ?_
    have hr : (dealA Rep Val Fin).R s w0 (w.at d) := hS.kA
    have hgo : stepG P (0 == 0) a (w.at d) = .go (g' (w.at d)) (w1 (w.at d)) (es (w.at d)) := (hL.step _).trans (h1 _ hr)
    have hrunT := runT_crowd_go (P := P) (sl := sl') (i := 0) h0 hgo
    have hrun' := goI_running (fun _ _ => Stays.refl _ _) (h3 _ hr trivial)
    refine Comes.of_step (hst.trans hrunT) (by simp) (ih _ hr trivial _ _ _ _ _ q (g' (w.at d)) (Nat.le_refl _) ?_ ⟨rfl, rfl, rfl, hrun'⟩ (hS.stepA hR (h2 _ hr trivial)))
    have := (Array.getElem?_eq_some_iff.1 h0).1
    simp [this]
  | @send s g w0 v z es s' hs h1 h2 h3 => exact ((h2 w0 (Stays.refl _ _)).2).elim
  | @recv s g w0 z es hs ha h1 h2 h3 h4 ih =>
    refine shut_inner hR fun gs w sl t q a d sl' h0 hL hS hst => ?_
    have hr : (dealA Rep Val Fin).R s w0 (w.at d) := hS.kA
    have hcm : stepG P (0 == 0) a (w.at d) = .comm g #[rcase ch z] true (.recv true) (w.at d) (es (w.at d)) := (hL.step _).trans (h1 _ hr)
    obtain ⟨sn, rn, tm, hc⟩ := hS.chan
    have hpar : partners (gs.setIfInBounds 0 ph) ch true = [] := partners_nil fun j x hx => by
      rcases getElem?_stand gs 0 j x hx with ⟨_, rfl⟩ | ⟨hj, hx'⟩
      · exact offersAt_ph _ _
      · refine offersAt_of_not_blocked ?_ _ _
        rcases (hS.old j x hj hx').status with e | e <;> rw [e] <;> simp
    have hrunT := crowd_recv_closed (P := P) (sl := sl') h0 hcm hc hpar
    rw [finishComm_recv] at hrunT
    have hlt := (Array.getElem?_eq_some_iff.1 h0).1
    have hSa := (hS.stepA hR (h2 _ hr) (a := a) (a' := a) (fn := a.frame.fn) (pos := a.frame.place)).shut
    have hfin := h4 _ (w.at d) s hr ⟨hS.rem, rfl, Stays.refl _ _, fx, fun b hb => ⟨fun h => hS.apart b h (hS.fxO b hb), hS.lowO b (hS.fxO b hb)⟩, hS.rep⟩
    have hdf : ∀ j, j ≠ 0 → Deaf (t ++ (MemOp.ofEvents 0 a.frame.fn a.frame.place (es (w.at d)) ++ #[{ g := 0, fn := g.frame.fn, pos := g.frame.place, act := .recvClosed ch }])) j = Deaf t j := fun j hj => by
      rw [Deaf_other t (g' := 0) (fun e => hj e.symm)]
      intro op hop
      rcases Array.mem_append.1 hop with h | h
      · exact evs_g op h
      · simp only [List.mem_toArray, List.mem_cons, List.not_mem_nil, or_false] at h
        rw [h]
    refine Comes.of_step (hst.trans hrunT) (by simp) ⟨0, _, _, _, _, _, q, s, rfl, rfl, ?_, hfin, ⟨fun i x hi hx => ?_, fun j hj => ?_⟩, ?_⟩
    · simp [hlt, recvd]
    · rw [Array.getElem?_setIfInBounds_ne (by omega)] at hx
      rw [hdf i (by omega)]
      exact hS.old i x (by omega) hx
    · simp at hj
      rw [hdf j (by omega)]
      exact hS.above j hj
    · rw [← Array.append_assoc]
      exact hSa.fin hS.neq rfl rfl hS.chLow
end
end Go.Proofs.Ytgmhdmhnedljcaa.Co

/-
  Helpers of the claims beside this text: two goroutines side by side over a channel without a buffer, on whatever tape.
-/
namespace Go.Proofs.Ytgmhdmhnedljcaa.Co
open Go Go.Conc
set_option linter.unusedSimpArgs false
set_option linter.unusedVariables false

/-- The sender stands at the closing of the channel, and only leaves behind it. -/
def AtClose {ι : Type} (P : Program) (ch : Nat) (s : Side ι) (g : Goroutine) (w : World) : Prop :=
  g.status = .running ∧ mayWake P g = true ∧ s.rem = [] ∧ ∃ (g₂ : Goroutine) (n : Nat) (es : Array Event), (∀ x r tm, w.heap[ch]? = some (.chan 0 #[] false x r tm) → stepG P false g w = .go g₂ (w.setChan ch 0 #[] true x r tm) (es.push ⟨.obj ch, true, true⟩)) ∧
    (∀ e ∈ es, EvP (fun b => s.own b ∨ b = ch) e) ∧ QuitsD P n 0 g₂
section
variable {ι : Type} {P : Program} {Rep : ι → Value → (Nat → Prop) → World → Prop} {Val : ι → Value → Prop} {Fin : Side ι → Goroutine → World → Prop} {Shun : Loc → Prop} {ShB : Nat → Prop} {n0 k ch : Nat} {gs : Array Goroutine} {w w' : World} {sl : Option (Nat × Nat)} {t : Trace} {q : Nat → Nat} {sA sB sA' sB' : Side ι} {wA wB : World} {es : Array Event}
/-- The sender's situation. -/
inductive SitS (P : Program) (Rep : ι → Value → (Nat → Prop) → World → Prop) (ch : Nat) (s : Side ι) (w : World) (b : Goroutine) : Prop
  | run : GoI P false ch (dealB Rep) (AtClose P ch) s b w → SitS P Rep ch s w b
  | wait (g : Goroutine) (v z : Value) (s' : Side ι) : b = parked g #[scase ch v z] .send → (∀ w₁, Stays s.own w w₁ → (dealB Rep).Snd s v w₁ s') → (∀ w₁, Stays s.own w w₁ → GoI P false ch (dealB Rep) (AtClose P ch) s' (Conc.served g undef) w₁) → SitS P Rep ch s w b
/-- It closes the channel. -/
theorem Duo.close (hR : Reps Rep Val) (h : Duo P Rep Shun ShB n0 k ch gs w t q sA sB wA wB) (hk : k < gs.size) {x r : Nat} {tm : Bool} {g₂ : Goroutine} {n : Nat} (hes : ∀ e ∈ es, EvP (fun b => sB.own b ∨ b = ch) e) (hrem : sB.rem = []) (hq : QuitsD P n 0 g₂) {gs' : Array Goroutine} (hgs : Others P k gs gs') (hgk : gs'[k]? = some g₂) {fn : FuncId} {pos : String} :
    DuoS P Rep Shun ShB sB.own sB.fix n0 k ch (t ++ MemOp.ofEvents k fn pos es).size gs' (w.setChan ch 0 #[] true x r tm) (t ++ MemOp.ofEvents k fn pos (es.push ⟨.obj ch, true, true⟩)) (Go.ConcN.upd q k n) sA wA := by
  have hsz : (w.setChan ch 0 #[] true x r tm).heap.size = w.heap.size := by simp [World.setChan]
  have hlt := h.chLow
  have hst : ∀ e ∈ es, e.loc ≠ .mark .disable ∧ e.loc ≠ .mark .enable := fun e he => (hes e he).still
  have htr : t ++ MemOp.ofEvents k fn pos (es.push ⟨.obj ch, true, true⟩) = (t ++ MemOp.ofEvents k fn pos es) ++ #[{ g := k, fn, pos, act := .close ch }] := by
    rw [ofEvents_push]
    simp [MemAct.ofEvent]
  have h1 : Two Shun n0 k w.heap.size (fun b => sB.own b ∨ b = ch) (t ++ MemOp.ofEvents k fn pos es) := by
    refine h.two.appK h.neq evs_g (fun b hb => hb) (fun b hb => .inl hb) (fun op hop x hx => ?_) ?_ (Nat.le_refl _) (fun op hop => ?_)
    · obtain ⟨e, he, rfl⟩ := Go.Conc.mem_ofEvents hop
      exact (hes e he).touch hx
    · rw [Deaf_own]; exact deafBehind_still hst _
    · obtain ⟨e, he, rfl⟩ := Go.Conc.mem_ofEvents hop
      exact (hes e he).low fun b hb => by
        rcases hb with hb | rfl
        · exact h.lowB b hb
        · exact hlt
  have hdf : ∀ j, j ≠ k → Deaf (t ++ MemOp.ofEvents k fn pos (es.push ⟨.obj ch, true, true⟩)) j = Deaf t j := fun j hj => Deaf_other t (g' := k) (fun e => hj e.symm) _ evs_g
  have hdk : Deaf (t ++ MemOp.ofEvents k fn pos (es.push ⟨.obj ch, true, true⟩)) k = 0 := by
    rw [htr, Deaf_push]
    show Deaf (t ++ MemOp.ofEvents k fn pos es) k = 0
    exact h1.hearsK
  refine ⟨h.neq, fun i g hi hg => ?_, fun j hj => ?_, ⟨x, r, tm, by unfold World.setChan; exact Array.getElem?_setIfInBounds_self_of_lt hlt⟩, h.kA.trans (setChan_stays _ w ch 0 #[] true x r tm h.nA), h.apart, h.nA, by rw [hsz]; exact h.lowA, by rw [hsz]; exact h.lowB, h.fixB, h.rem.trans hrem,
    fun p hp => ?_, ?_, h.shun, h.shunA, by rw [hsz]; exact h.shunLow⟩
  · by_cases hik : i = k
    · subst hik
      rw [hgk] at hg
      cases hg
      rw [Go.ConcN.upd_same, hdk]
      exact hq
    · obtain ⟨y, hy, hz⟩ := hgs.2 i g hi hik hg
      have hq := h.old i y hi hik hy
      rw [hz _ _ hq, Go.ConcN.upd_ne q n hik, hdf i hik]
      exact hq
  · rw [hgs.1] at hj
    rw [hdf j (by omega)]
    exact h.above j hj
  · rw [h.got] at hp
    exact hR.keep (h.rep p hp) (fun _ h => h) (fun b hb => setChan_block w ch 0 #[] true x r tm fun e => h.nB (e ▸ h.fixB b hb))
  · rw [htr, hsz]
    exact h1.shut h.neq rfl rfl hlt
/-- Others slip, till one of the two takes its step. -/
theorem open_inner (hR : Reps Rep Val) {a b : Goroutine} (run : a.status = .running ∨ b.status = .running) (sa : a.status = .running ∨ a.status = .blocked) (sb : b.status = .running ∨ b.status = .blocked)
    (wa : ∀ (g g' : Goroutine) (w : World) (s r : Nat) (tm : Bool), w.heap[ch]? = some (.chan 0 #[] false s r tm) → woken P g g' w a = a) (wb : ∀ (g g' : Goroutine) (w : World) (s r : Nat) (tm : Bool), w.heap[ch]? = some (.chan 0 #[] false s r tm) → woken P g g' w b = b)
    (hA : a.status = .running → ∀ (gs : Array Goroutine) (w : World) (sl : Option (Nat × Nat)) (t : Trace) (q : Nat → Nat) (d : Nat) (sl' : Option (Nat × Nat)), gs[0]? = some a → gs[k]? = some b → Duo P Rep Shun ShB n0 k ch gs (w.at d) t q sA sB wA wB → stepT P (crowd gs w sl) = runT P (crowd gs (w.at d) sl') 0 → Comes P Shun Fin gs w sl t)
    (hB : b.status = .running → ∀ (gs : Array Goroutine) (w : World) (sl : Option (Nat × Nat)) (t : Trace) (q : Nat → Nat) (d : Nat) (sl' : Option (Nat × Nat)), gs[0]? = some a → gs[k]? = some b → Duo P Rep Shun ShB n0 k ch gs (w.at d) t q sA sB wA wB → stepT P (crowd gs w sl) = runT P (crowd gs (w.at d) sl') k → Comes P Shun Fin gs w sl t) :
    ∀ (M : Nat) (gs : Array Goroutine) (w : World) (sl : Option (Nat × Nat)) (t : Trace) (q : Nat → Nat), Go.ConcN.sumTo gs.size q ≤ M → gs[0]? = some a → gs[k]? = some b → Duo P Rep Shun ShB n0 k ch gs w t q sA sB wA wB → Comes P Shun Fin gs w sl t := by
  have one : ∀ (M : Nat) (gs : Array Goroutine) (w : World) (sl : Option (Nat × Nat)) (t : Trace) (q : Nat → Nat), Go.ConcN.sumTo gs.size q ≤ M → gs[0]? = some a → gs[k]? = some b → Duo P Rep Shun ShB n0 k ch gs w t q sA sB wA wB →
      (∀ (gs : Array Goroutine) (w : World) (sl : Option (Nat × Nat)) (t : Trace) (q : Nat → Nat), Go.ConcN.sumTo gs.size q < M → gs[0]? = some a → gs[k]? = some b → Duo P Rep Shun ShB n0 k ch gs w t q sA sB wA wB → Comes P Shun Fin gs w sl t) → Comes P Shun Fin gs w sl t := by
    intro M gs w sl t q hM h0 hk hD ih
    obtain ⟨i, x, d, sl', hi, hx, hst⟩ := crowd_pick (P := P) (w := w) (sl := sl) (awake_all fun i g hg => by
      by_cases hi : i = 0
      · subst hi; rw [h0] at hg; cases hg; exact sa.elim .inl fun e => .inr (.inl e)
      · by_cases hik : i = k
        · subst hik; rw [hk] at hg; cases hg; exact sb.elim .inl fun e => .inr (.inl e)
        · exact (hD.old i g hi hik hg).status.elim .inl fun x => .inr (.inr x)) (by
      rcases run with h | h
      · exact ⟨0, a, h0, h⟩
      · exact ⟨k, b, hk, h⟩)
    by_cases hi0 : i = 0
    · subst hi0
      rw [h0] at hi; cases hi
      exact hA hx gs w sl t q d sl' h0 hk (hD.draw hR d) hst
    · by_cases hik : i = k
      · subst hik
        rw [hk] at hi; cases hi
        exact hB hx gs w sl t q d sl' h0 hk (hD.draw hR d) hst
      · have hq := hD.old i x hi0 hik hi
        have hlt := (Array.getElem?_eq_some_iff.1 hi).1
        have hi1 : (i == 0) = false := by simp [hi0]
        cases hqi : q i with
        | zero => rw [hqi] at hq; rw [hq.1] at hx; cases hx
        | succ m =>
          rw [hqi] at hq
          rcases hq with ⟨hf, _⟩ | ⟨_, g', es, hm, hstp, hq'⟩
          · rw [hf] at hx; cases hx
          have hrunT := runT_crowd_go (P := P) (sl := sl') (i := i) hi (by rw [hi1]; exact hstp (w.at d))
          have hD' := (hD.draw hR d).slip hi0 hik hi hm hq' (fn := x.frame.fn) (pos := x.frame.place)
          obtain ⟨cs, cr, ctm, hc⟩ := hD'.chan
          refine Comes.of_step (hst.trans hrunT) (by simp) (ih _ _ _ _ _ ?_ ?_ ?_ hD')
          · have := slip_sum hlt hqi
            simp only [Array.size_setIfInBounds, Array.size_map]
            omega
          · rw [Array.getElem?_setIfInBounds_ne hi0, Array.getElem?_map, h0]
            simp [wa _ _ _ _ _ _ hc]
          · rw [Array.getElem?_setIfInBounds_ne hik, Array.getElem?_map, hk]
            simp [wb _ _ _ _ _ _ hc]
  intro M
  induction M with
  | zero => exact fun gs w sl t q hM h0 hk hD => one 0 gs w sl t q hM h0 hk hD fun _ _ _ _ _ h => absurd h (by omega)
  | succ M ih => exact fun gs w sl t q hM h0 hk hD => one (M + 1) gs w sl t q hM h0 hk hD fun gs w sl t q h => ih gs w sl t q (by omega)
end
end Go.Proofs.Ytgmhdmhnedljcaa.Co

/-
  Helpers of the claims beside this text: a receiver and a sender over a channel without a buffer, beside others that only leave: on whatever tape the receiver finds the channel closed.
-/
namespace Go.Proofs.Ytgmhdmhnedljcaa.Co
open Go Go.Conc
set_option linter.unusedSimpArgs false
set_option linter.unusedVariables false

section
variable {ι : Type} {P : Program} {Rep : ι → Value → (Nat → Prop) → World → Prop} {Val : ι → Value → Prop} {Fin : Side ι → Goroutine → World → Prop} {Shun : Loc → Prop} {ShB : Nat → Prop} {n0 k ch : Nat} {sA sB : Side ι} {wA wB : World}
theorem woken_close {b g₂ g : Goroutine} {w : World} {n : Nat} {z : Value} {x r : Nat} {tm : Bool} (hm : mayWake P b = true) (hq : QuitsD P n 0 g₂) (hc : w.heap[ch]? = some (.chan 0 #[] true x r tm)) :
    woken P b g₂ w (parked g #[rcase ch z] (.recv true)) = { parked g #[rcase ch z] (.recv true) with status := .running } := by
  unfold woken
  have : (mayWake P b && g₂.status != .blocked && g₂.status != .waiting) = true := by
    rcases hq.status with e | e <;> rw [hm, e] <;> rfl
  rw [if_pos this]
  exact again_recv_closed hc
/-- The sender closes the channel. -/
theorem close_pick (hR : Reps Rep Val) {g a b : Goroutine} (hA : GoI P true ch (dealA Rep Val Fin) (fun _ _ _ => False) sA g wA) (ha : a = g ∨ ∃ z, a = parked g #[rcase ch z] (.recv true)) {gs : Array Goroutine} {w : World} {sl : Option (Nat × Nat)} {t : Trace} {q : Nat → Nat} {d : Nat} {sl' : Option (Nat × Nat)}
    (hAt : AtClose P ch sB b (w.at d)) (h0 : gs[0]? = some a) (hk : gs[k]? = some b) (hD : Duo P Rep Shun ShB n0 k ch gs (w.at d) t q sA sB wA wB) (hst : stepT P (crowd gs w sl) = runT P (crowd gs (w.at d) sl') k) : Comes P Shun Fin gs w sl t := by
  obtain ⟨hs, hmw, hrem, g₂, n, es, hgo, hes, hq⟩ := hAt
  obtain ⟨x, r, tm, hc⟩ := hD.chan
  have hk0 : (k == 0) = false := by simp [hD.neq]
  have hrunT := runT_crowd_go (P := P) (sl := sl') (i := k) hk (by rw [hk0]; exact hgo x r tm hc)
  have hlt := (Array.getElem?_eq_some_iff.1 hk).1
  have hgk : ((gs.map (woken P b g₂ ((w.at d).setChan ch 0 #[] true x r tm))).setIfInBounds k g₂)[k]? = some g₂ := by simp [hlt]
  have hS := hD.close hR hlt hes hrem hq (others_woken k k (.inr rfl) gs b g₂ g₂ ((w.at d).setChan ch 0 #[] true x r tm)) hgk (x := x) (r := r) (tm := tm) (fn := b.frame.fn) (pos := b.frame.place)
  have hgr := goI_running (fun _ _ => Stays.refl _ _) hA
  have hcc : ((w.at d).setChan ch 0 #[] true x r tm).heap[ch]? = some (.chan 0 #[] true x r tm) := by
    unfold World.setChan
    exact Array.getElem?_setIfInBounds_self_of_lt hD.chLow
  have h0' : ((gs.map (woken P b g₂ ((w.at d).setChan ch 0 #[] true x r tm))).setIfInBounds k g₂)[0]? = some (woken P b g₂ ((w.at d).setChan ch 0 #[] true x r tm) a) := by
    rw [Array.getElem?_setIfInBounds_ne hD.neq, Array.getElem?_map, h0]; rfl
  refine Comes.of_step (hst.trans hrunT) (by simp) (shut_runs hR hA _ _ _ _ _ _ _ (Nat.le_refl _) h0' ?_ hS)
  rcases ha with rfl | ⟨z, rfl⟩
  · rw [woken_run hgr]; exact ⟨rfl, rfl, rfl, hgr⟩
  · rw [woken_close hmw hq hcc]; exact ⟨rfl, rfl, rfl, rfl⟩
/-- The sender is on its way. -/
theorem run_B (hR : Reps Rep Val) {g a : Goroutine} (hA : GoI P true ch (dealA Rep Val Fin) (fun _ _ _ => False) sA g wA) (ha : a = g ∨ ∃ z, a = parked g #[rcase ch z] (.recv true)) (sa : a.status = .running ∨ a.status = .blocked)
    (wa : ∀ (x x' : Goroutine) (w : World) (s r : Nat) (tm : Bool), w.heap[ch]? = some (.chan 0 #[] false s r tm) → woken P x x' w a = a)
    (hpick : ∀ (sB : Side ι) (b : Goroutine) (wB : World), GoI P false ch (dealB Rep) (AtClose P ch) sB b wB → a.status = .running → ∀ (gs : Array Goroutine) (w : World) (sl : Option (Nat × Nat)) (t : Trace) (q : Nat → Nat) (d : Nat) (sl' : Option (Nat × Nat)), gs[0]? = some a → gs[k]? = some b → Duo P Rep Shun ShB n0 k ch gs (w.at d) t q sA sB wA wB → stepT P (crowd gs w sl) = runT P (crowd gs (w.at d) sl') 0 → Comes P Shun Fin gs w sl t)
    (hsend : ∀ (sB : Side ι) (b : Goroutine) (wB : World) (v z : Value) (es : World → Array Event) (s' : Side ι), b.status = .running → (∀ w₁, Stays sB.own wB w₁ → stepG P false b w₁ = .comm b #[scase ch v z] true .send w₁ (es w₁)) → (∀ w₁, Stays sB.own wB w₁ → Does sB w₁ w₁ (es w₁) sB ∧ (dealB Rep).Snd sB v w₁ s') →
      (∀ w₁, Stays sB.own wB w₁ → GoI P false ch (dealB Rep) (AtClose P ch) s' (Conc.served b undef) w₁) → ∀ (gs : Array Goroutine) (w : World) (sl : Option (Nat × Nat)) (t : Trace) (q : Nat → Nat) (d : Nat) (sl' : Option (Nat × Nat)), gs[0]? = some a → gs[k]? = some b → Duo P Rep Shun ShB n0 k ch gs (w.at d) t q sA sB wA wB → stepT P (crowd gs w sl) = runT P (crowd gs (w.at d) sl') k → Comes P Shun Fin gs w sl t)
    {b : Goroutine} (hB : GoI P false ch (dealB Rep) (AtClose P ch) sB b wB) : ∀ (M : Nat) (gs : Array Goroutine) (w : World) (sl : Option (Nat × Nat)) (t : Trace) (q : Nat → Nat), Go.ConcN.sumTo gs.size q ≤ M → gs[0]? = some a → gs[k]? = some b → Duo P Rep Shun ShB n0 k ch gs w t q sA sB wA wB → Comes P Shun Fin gs w sl t := by
  induction hB with
  | @stop s b w0 h =>
    have hs : b.status = .running := (h w0 (Stays.refl _ _)).1
    exact open_inner hR (.inr hs) sa (.inl hs) wa (fun x x' w _ _ _ _ => woken_run hs) (hpick s b w0 (.stop h)) (fun _ gs w sl t q d sl' h0 hk hD hst => close_pick hR hA ha (h _ hD.kB) h0 hk hD hst)
  | @step s b w0 b' w1 es s' hs h1 h2 h3 ih =>
    refine open_inner hR (.inr hs) sa (.inl hs) wa (fun x x' w _ _ _ _ => woken_run hs) (hpick s b w0 (.step b' w1 es s' hs h1 h2 h3)) (fun _ gs w sl t q d sl' h0 hk hD hst => ?_)
    have hr : (dealB Rep).R s w0 (w.at d) := hD.kB
    have hk0 : (k == 0) = false := by simp [hD.neq]
    have hrunT := runT_crowd_go (P := P) (sl := sl') (i := k) hk (by rw [hk0]; exact h1 _ hr)
    have hD' := hD.stepB hR (h2 _ hr trivial) (others_woken k k (.inr rfl) gs b (b' (w.at d)) (b' (w.at d)) (w1 (w.at d))) (fn := b.frame.fn) (pos := b.frame.place)
    obtain ⟨cs, cr, ctm, hc⟩ := hD'.chan
    have hlt := (Array.getElem?_eq_some_iff.1 hk).1
    refine Comes.of_step (hst.trans hrunT) (by simp) (ih _ hr trivial _ _ _ _ _ _ (Nat.le_refl _) ?_ (by simp [hlt]) hD')
    rw [Array.getElem?_setIfInBounds_ne hD.neq, Array.getElem?_map, h0]
    simp [wa _ _ _ _ _ _ hc]
  | @send s b w0 v z es s' hs h1 h2 h3 =>
    exact open_inner hR (.inr hs) sa (.inl hs) wa (fun x x' w _ _ _ _ => woken_run hs) (hpick s b w0 (.send v z es s' hs h1 h2 h3)) (fun _ => hsend s b w0 v z es s' hs h1 h2 h3)
  | recv z es hs hask _ _ _ _ => exact hask.elim
/-- The sender finds nobody at the channel: it waits. -/
theorem send_waits (hR : Reps Rep Val) {a b : Goroutine} (ha : a.status = .running) {v z : Value} {es : World → Array Event} {s' : Side ι} (hs : b.status = .running) (h1 : ∀ w₁, Stays sB.own wB w₁ → stepG P false b w₁ = .comm b #[scase ch v z] true .send w₁ (es w₁)) (h2 : ∀ w₁, Stays sB.own wB w₁ → Does sB w₁ w₁ (es w₁) sB ∧ (dealB Rep).Snd sB v w₁ s')
    (h3 : ∀ w₁, Stays sB.own wB w₁ → GoI P false ch (dealB Rep) (AtClose P ch) s' (Conc.served b undef) w₁) {gs : Array Goroutine} {w : World} {sl : Option (Nat × Nat)} {t : Trace} {q : Nat → Nat} {d : Nat} {sl' : Option (Nat × Nat)} (h0 : gs[0]? = some a) (hk : gs[k]? = some b) (hD : Duo P Rep Shun ShB n0 k ch gs (w.at d) t q sA sB wA wB) (hst : stepT P (crowd gs w sl) = runT P (crowd gs (w.at d) sl') k)
    (K : ∀ (sB : Side ι) (wB : World) (b : Goroutine), SitS P Rep ch sB wB b → b.status = .blocked → ∀ (gs : Array Goroutine) (w : World) (sl : Option (Nat × Nat)) (t : Trace) (q : Nat → Nat), gs[0]? = some a → gs[k]? = some b → Duo P Rep Shun ShB n0 k ch gs w t q sA sB wA wB → Comes P Shun Fin gs w sl t) : Comes P Shun Fin gs w sl t := by
  have hr : Stays sB.own wB (w.at d) := hD.kB
  have hk0 : (k == 0) = false := by simp [hD.neq]
  obtain ⟨x, r, tm, hc⟩ := hD.chan
  have hpar : partners (gs.setIfInBounds k ph) ch false = [] := partners_nil fun j y hy => by
    rcases getElem?_stand gs k j y hy with ⟨_, rfl⟩ | ⟨hj, hy'⟩
    · exact offersAt_ph _ _
    · refine offersAt_of_not_blocked ?_ _ _
      by_cases hj0 : j = 0
      · subst hj0; rw [h0] at hy'; cases hy'; rw [ha]; simp
      · rcases (hD.old j y hj0 hj hy').status with e | e <;> rw [e] <;> simp
  have hrunT := crowd_waits (P := P) (sl := sl') hk (by rw [hk0]; exact h1 _ hr) (fun cc hcc => by
    have : cc = scase ch v z := by simpa using hcc
    rw [this]
    exact ways_send_none hc (by simp) hpar)
  have hlt := (Array.getElem?_eq_some_iff.1 hk).1
  have hD' := hD.stepB hR (h2 _ hr).1 (Others.set (others_refl k gs) k (.inr rfl) (parked b #[scase ch v z] .send) (others_refl k gs)) (fn := b.frame.fn) (pos := b.frame.place)
  refine Comes.of_step (hst.trans hrunT) (by simp) (K sB (w.at d) (parked b #[scase ch v z] .send) (.wait b v z s' rfl (fun w₁ h => (h2 w₁ (hr.trans h)).2) (fun w₁ h => h3 w₁ (hr.trans h))) rfl _ _ _ _ _ ?_ (by simp [hlt]) hD')
  rw [Array.getElem?_setIfInBounds_ne hD.neq]; exact h0
end
end Go.Proofs.Ytgmhdmhnedljcaa.Co

/-
  Helpers of the claims beside this text: THE PAIR: a receiver and a sender over a channel without a buffer, on whatever tape.
-/
namespace Go.Proofs.Ytgmhdmhnedljcaa.Co
open Go Go.Conc
set_option linter.unusedSimpArgs false
set_option linter.unusedVariables false

section
variable {ι : Type} {P : Program} {Rep : ι → Value → (Nat → Prop) → World → Prop} {Val : ι → Value → Prop} {Fin : Side ι → Goroutine → World → Prop} {Shun : Loc → Prop} {ShB : Nat → Prop} {n0 k ch : Nat} {sA sB : Side ι} {wA wB : World}
theorem SitS.status {b : Goroutine} (h : SitS P Rep ch sB wB b) : b.status = .running ∨ b.status = .blocked := by
  cases h with
  | run h =>
    cases h with
    | stop h => exact .inl (h _ (Stays.refl _ _)).1
    | step _ _ _ _ hs _ _ _ => exact .inl hs
    | send _ _ _ _ hs _ _ _ => exact .inl hs
    | recv _ _ hs _ _ _ _ _ => exact .inl hs
  | wait g v z s' e _ _ => subst e; exact .inr rfl
theorem SitS.woken {b x x' : Goroutine} {w : World} {s r : Nat} {tm : Bool} (h : SitS P Rep ch sB wB b) (hc : w.heap[ch]? = some (.chan 0 #[] false s r tm)) : Go.Conc.woken P x x' w b = b := by
  cases h with
  | run h =>
    refine woken_run ?_
    rcases (SitS.run h : SitS P Rep ch sB wB b).status with e | e
    · exact e
    · cases h with
      | stop h => exact (h _ (Stays.refl _ _)).1
      | step _ _ _ _ hs _ _ _ => exact hs
      | send _ _ _ _ hs _ _ _ => exact hs
      | recv _ _ hs _ _ _ _ _ => exact hs
  | wait g v z s' e _ _ => subst e; exact woken_send_open x x' hc
/-- The receiver meets the sender that waits; or the other way round: the value passes. -/
theorem meets (hR : Reps Rep Val) {g gB : Goroutine} {v : Value} {sB' : Side ι} {wA wB : World} {sA : Side ι}
    (hv : ∀ w₁ v w₂ s', Stays sA.own wA w₁ → (dealA Rep Val Fin).Rcv sA v w₁ w₂ s' → ∀ (sB : Side ι) (wB : World) (b : Goroutine), SitS P Rep ch sB wB b → ∀ (gs : Array Goroutine) (w : World) (sl : Option (Nat × Nat)) (t : Trace) (q : Nat → Nat), gs[0]? = some (Conc.served g (.tuple #[v, .bool true])) → gs[k]? = some b → Duo P Rep Shun ShB n0 k ch gs w t q s' sB w₂ wB → Comes P Shun Fin gs w sl t)
    {gs gs' : Array Goroutine} {w : World} {sl sl' : Option (Nat × Nat)} {t u : Trace} {q : Nat → Nat} (hD : Duo P Rep Shun ShB n0 k ch gs w (t ++ u) q sA sB wA wB) (hS : (dealB Rep).Snd sB v w sB') (hn : GoI P false ch (dealB Rep) (AtClose P ch) sB' (Conc.served gB undef) w)
    {s r : Nat} {tm : Bool} (hc : w.heap[ch]? = some (.chan 0 #[] false s r tm)) (hgs : Others P k gs gs') (h0 : gs'[0]? = some (Conc.served g (.tuple #[v, .bool true]))) (hk : gs'[k]? = some (Conc.served gB undef)) {f1 f2 f3 f4 : FuncId} {p1 p2 p3 p4 : String} {w0 : World}
    (hst : stepT P (crowd gs w0 sl) = (.next (crowd gs' (w.setChan ch 0 #[] false (s + 1) (r + 1) tm) sl'), u ++ #[{ g := k, fn := f1, pos := p1, act := .send ch s }, { g := 0, fn := f2, pos := p2, act := .recv ch r 0 }, { g := k, fn := f3, pos := p3, act := .sendDone ch s }, { g := 0, fn := f4, pos := p4, act := .recvDone ch r }])) : Comes P Shun Fin gs w0 sl t := by
  obtain ⟨l, b1, b2, b3, b4, b5, b6⟩ := hS
  have hD' := hD.pass hR (sA' := ⟨sA.own, sA.fix, sB'.rem, sA.got ++ [(l, v)]⟩) b1 b2 b3 b4 b5 b6 (hD.rem.trans b1) rfl rfl hc hgs (f1 := f1) (f2 := f2) (f3 := f3) (f4 := f4) (p1 := p1) (p2 := p2) (p3 := p3) (p4 := p4)
  refine Comes.of_step hst hgs.1 ?_
  rw [← Array.append_assoc]
  exact hv w v _ ⟨sA.own, sA.fix, sB'.rem, sA.got ++ [(l, v)]⟩ hD.kA ⟨l, hD.rem.trans b1, rfl, rfl, rfl, hR.val b6, setChan_stays _ w ch 0 #[] false (s + 1) (r + 1) tm hD.nA⟩ sB' _ _ (.run (hn.rely (setChan_stays _ w ch 0 #[] false (s + 1) (r + 1) tm (by rw [b3]; exact hD.nB)))) _ _ _ _ _ h0 hk hD'
theorem others_two {gs : Array Goroutine} (i j : Nat) (hi : i = 0 ∨ i = k) (hj : j = 0 ∨ j = k) (x y : Goroutine) : Others P k gs ((gs.setIfInBounds i x).setIfInBounds j y) :=
  Others.set (others_refl k gs) j hj y (Others.set (others_refl k gs) i hi x (others_refl k gs))
/-- THE PAIR. -/
theorem open_runs (hR : Reps Rep Val) {g : Goroutine} (hA : GoI P true ch (dealA Rep Val Fin) (fun _ _ _ => False) sA g wA) : ∀ (sB : Side ι) (wB : World) (b : Goroutine), SitS P Rep ch sB wB b → ∀ (gs : Array Goroutine) (w : World) (sl : Option (Nat × Nat)) (t : Trace) (q : Nat → Nat), gs[0]? = some g → gs[k]? = some b →
    Duo P Rep Shun ShB n0 k ch gs w t q sA sB wA wB → Comes P Shun Fin gs w sl t := by
  induction hA with
  | stop h => exact (h _ (Stays.refl _ _)).elim
  | @send s g w0 v z es s' hs h1 h2 h3 => exact ((h2 w0 (Stays.refl _ _)).2).elim
  | @step s g w0 g' w1 es s' hs h1 h2 h3 ih =>
    have pickA : ∀ (sB : Side ι) (wB : World) (b : Goroutine), SitS P Rep ch sB wB b → ∀ (gs : Array Goroutine) (w : World) (sl : Option (Nat × Nat)) (t : Trace) (q : Nat → Nat) (d : Nat) (sl' : Option (Nat × Nat)), gs[0]? = some g → gs[k]? = some b → Duo P Rep Shun ShB n0 k ch gs (w.at d) t q s sB w0 wB → stepT P (crowd gs w sl) = runT P (crowd gs (w.at d) sl') 0 → Comes P Shun Fin gs w sl t := by
      intro sB wB b hSit gs w sl t q d sl' h0 hk hD hst
      have hr : (dealA Rep Val Fin).R s w0 (w.at d) := hD.kA
      have hrunT := runT_crowd_go (P := P) (sl := sl') (i := 0) h0 (h1 _ hr)
      have hD' := hD.stepA hR (h2 _ hr trivial) (others_woken k 0 (.inl rfl) gs g (g' (w.at d)) (g' (w.at d)) (w1 (w.at d))) (fn := g.frame.fn) (pos := g.frame.place)
      obtain ⟨cs, cr, ctm, hc⟩ := hD'.chan
      have hlt := (Array.getElem?_eq_some_iff.1 h0).1
      refine Comes.of_step (hst.trans hrunT) (by simp) (ih _ hr trivial sB wB b hSit _ _ _ _ _ (by simp [hlt]) ?_ hD')
      rw [Array.getElem?_setIfInBounds_ne (Ne.symm hD.neq), Array.getElem?_map, hk]
      simp [hSit.woken hc]
    have claimWait : ∀ (sB : Side ι) (wB : World) (b : Goroutine), SitS P Rep ch sB wB b → b.status = .blocked → ∀ (gs : Array Goroutine) (w : World) (sl : Option (Nat × Nat)) (t : Trace) (q : Nat → Nat), gs[0]? = some g → gs[k]? = some b → Duo P Rep Shun ShB n0 k ch gs w t q s sB w0 wB → Comes P Shun Fin gs w sl t := by
      intro sB wB b hSit hb gs w sl t q h0 hk hD
      exact open_inner hR (.inl hs) (.inl hs) hSit.status (fun x x' w _ _ _ _ => woken_run hs) (fun x x' w _ _ _ hc => hSit.woken hc) (fun _ => pickA sB wB b hSit) (fun e => by rw [hb] at e; cases e) _ gs w sl t q (Nat.le_refl _) h0 hk hD
    intro sB wB b hSit
    by_cases hb : b.status = .blocked
    · exact claimWait sB wB b hSit hb
    · cases hSit with
      | wait g v z s' e _ _ => subst e; exact absurd rfl hb
      | run hB =>
        intro gs w sl t q h0 hk hD
        exact run_B hR (.step g' w1 es s' hs h1 h2 h3) (.inl rfl) (.inl hs) (fun x x' w _ _ _ _ => woken_run hs) (fun sB b wB hB _ => pickA sB wB b (.run hB))
          (fun sB b wB v z es s' hsb k1 k2 k3 gs w sl t q d sl' h0 hk hD hst => send_waits hR hs hsb k1 k2 k3 h0 hk hD hst claimWait) hB _ gs w sl t q (Nat.le_refl _) h0 hk hD
  | @recv s g w0 z es hs hask h1 h2 h3 h4 ih =>
    have hA : GoI P true ch (dealA Rep Val Fin) (fun _ _ _ => False) s g w0 := .recv z es hs hask h1 h2 h3 h4
    -- the receiver waits
    have claimParked : ∀ (sB : Side ι) (b : Goroutine) (wB : World), GoI P false ch (dealB Rep) (AtClose P ch) sB b wB → ∀ (w₁ : World), Stays s.own w0 w₁ → ∀ (gs : Array Goroutine) (w : World) (sl : Option (Nat × Nat)) (t : Trace) (q : Nat → Nat), gs[0]? = some (parked g #[rcase ch z] (.recv true)) → gs[k]? = some b → Duo P Rep Shun ShB n0 k ch gs w t q s sB w₁ wB → Comes P Shun Fin gs w sl t := by
      intro sB b wB hB w₁ hw1 gs w sl t q h0 hk hD
      refine run_B hR (hA.rely hw1) (.inr ⟨z, rfl⟩) (.inr rfl) (fun x x' w _ _ _ hc => woken_recv_open x x' hc) (fun sB b wB hB e => by cases e) ?_ hB _ gs w sl t q (Nat.le_refl _) h0 hk hD
      intro sB b wB v zb esb s' hsb k1 k2 k3 gs w sl t q d sl' h0 hk hD hst
      have hr : Stays sB.own wB (w.at d) := hD.kB
      have hk0 : (k == 0) = false := by simp [hD.neq]
      obtain ⟨x, r, tm, hc⟩ := hD.chan
      have hpar : partners (gs.setIfInBounds k ph) ch false = [(0, 0)] := by
        have h0' : (gs.setIfInBounds k ph)[0]? = some (parked g #[rcase ch z] (.recv true)) := by rw [Array.getElem?_setIfInBounds_ne hD.neq]; exact h0
        rw [partners_one h0' fun j y hj hy => ?_, offersAt_parked_recv, if_pos rfl]
        · rfl
        · rcases getElem?_stand gs k j y hy with ⟨_, rfl⟩ | ⟨hjk, hy'⟩
          · exact offersAt_ph _ _
          · refine offersAt_of_not_blocked ?_ _ _
            rcases (hD.old j y hj hjk hy').status with e | e <;> rw [e] <;> simp
      have hrunT := crowd_send_meets (P := P) (sl := sl') hk (by rw [hk0]; exact k1 _ hr) hc (Ne.symm hD.neq) h0 hpar
      rw [finishComm_send, finishComm_recv] at hrunT
      have hlt0 := (Array.getElem?_eq_some_iff.1 h0).1
      have hltk := (Array.getElem?_eq_some_iff.1 hk).1
      have hD' := hD.stepB hR (k2 _ hr).1 (others_refl k gs) (fn := b.frame.fn) (pos := b.frame.place)
      refine meets (gB := b) (g := g) (Fin := Fin) hR (fun w₂ v w₃ s' q1 q2 => ih w₂ v w₃ s' (hw1.trans q1) q2) (hD') ((k2 _ hr).2) (k3 _ hr) hc (others_two 0 k (.inl rfl) (.inr rfl) _ _) ?_ ?_ (hst.trans hrunT)
      · rw [Array.getElem?_setIfInBounds_ne hD.neq]
        simp [hlt0, recvd]
      · simp [hltk]
    have pickA : ∀ (sB : Side ι) (wB : World) (b : Goroutine), SitS P Rep ch sB wB b → ∀ (gs : Array Goroutine) (w : World) (sl : Option (Nat × Nat)) (t : Trace) (q : Nat → Nat) (d : Nat) (sl' : Option (Nat × Nat)), gs[0]? = some g → gs[k]? = some b → Duo P Rep Shun ShB n0 k ch gs (w.at d) t q s sB w0 wB → stepT P (crowd gs w sl) = runT P (crowd gs (w.at d) sl') 0 → Comes P Shun Fin gs w sl t := by
      intro sB wB b hSit gs w sl t q d sl' h0 hk hD hst
      have hr : Stays s.own w0 (w.at d) := hD.kA
      obtain ⟨x, r, tm, hc⟩ := hD.chan
      have hlt0 := (Array.getElem?_eq_some_iff.1 h0).1
      have hltk := (Array.getElem?_eq_some_iff.1 hk).1
      cases hSit with
      | run hB =>
        have hb : b.status = .running := by
          rcases (SitS.run hB : SitS P Rep ch sB wB b).status with e | e
          · exact e
          · cases hB with
            | stop h => exact (h _ (Stays.refl _ _)).1
            | step _ _ _ _ hs _ _ _ => exact hs
            | send _ _ _ _ hs _ _ _ => exact hs
            | recv _ _ hs _ _ _ _ _ => exact hs
        have hpar : partners (gs.setIfInBounds 0 ph) ch true = [] := partners_nil fun j y hy => by
          rcases getElem?_stand gs 0 j y hy with ⟨_, rfl⟩ | ⟨hj, hy'⟩
          · exact offersAt_ph _ _
          · refine offersAt_of_not_blocked ?_ _ _
            by_cases hjk : j = k
            · subst hjk; rw [hk] at hy'; cases hy'; rw [hb]; simp
            · rcases (hD.old j y hj hjk hy').status with e | e <;> rw [e] <;> simp
        have hrunT := crowd_waits (P := P) (sl := sl') h0 (h1 _ hr) (fun cc hcc => by
          have : cc = rcase ch z := by simpa using hcc
          rw [this]
          exact ways_recv_none hc hpar)
        have hD' := hD.stepA hR (h2 _ hr) (Others.set (others_refl k gs) 0 (.inl rfl) (parked g #[rcase ch z] (.recv true)) (others_refl k gs)) (fn := g.frame.fn) (pos := g.frame.place)
        refine Comes.of_step (hst.trans hrunT) (by simp) (claimParked sB b wB hB (w.at d) hr _ _ _ _ _ (by simp [hlt0]) ?_ hD')
        rw [Array.getElem?_setIfInBounds_ne (Ne.symm hD.neq)]; exact hk
      | wait gj v zj s' e hS hn =>
        subst e
        have hrB : Stays sB.own wB (w.at d) := hD.kB
        have hpar : partners (gs.setIfInBounds 0 ph) ch true = [(k, 0)] := by
          have hk' : (gs.setIfInBounds 0 ph)[k]? = some (parked gj #[scase ch v zj] .send) := by rw [Array.getElem?_setIfInBounds_ne (Ne.symm hD.neq)]; exact hk
          rw [partners_one hk' fun j y hj hy => ?_, offersAt_parked_send, if_pos rfl]
          · rfl
          · rcases getElem?_stand gs 0 j y hy with ⟨_, rfl⟩ | ⟨hj0, hy'⟩
            · exact offersAt_ph _ _
            · refine offersAt_of_not_blocked ?_ _ _
              rcases (hD.old j y hj0 hj hy').status with e | e <;> rw [e] <;> simp
        have hrunT := crowd_recv_meets (P := P) (sl := sl') h0 (h1 _ hr) hc hD.neq hk hpar
        rw [finishComm_send, finishComm_recv] at hrunT
        have hD' := hD.stepA hR (h2 _ hr) (others_refl k gs) (fn := g.frame.fn) (pos := g.frame.place)
        refine meets (gB := gj) (g := g) (Fin := Fin) hR (fun w₂ v w₃ s' q1 q2 => ih w₂ v w₃ s' (hr.trans q1) q2) (hD') (hS _ hrB) (hn _ hrB) hc (others_two k 0 (.inr rfl) (.inl rfl) _ _) ?_ ?_ (hst.trans hrunT)
        · simp [hlt0, recvd]
        · rw [Array.getElem?_setIfInBounds_ne (Ne.symm hD.neq)]
          simp [hltk]
    have claimWait : ∀ (sB : Side ι) (wB : World) (b : Goroutine), SitS P Rep ch sB wB b → b.status = .blocked → ∀ (gs : Array Goroutine) (w : World) (sl : Option (Nat × Nat)) (t : Trace) (q : Nat → Nat), gs[0]? = some g → gs[k]? = some b → Duo P Rep Shun ShB n0 k ch gs w t q s sB w0 wB → Comes P Shun Fin gs w sl t := by
      intro sB wB b hSit hb gs w sl t q h0 hk hD
      exact open_inner hR (.inl hs) (.inl hs) hSit.status (fun x x' w _ _ _ _ => woken_run hs) (fun x x' w _ _ _ hc => hSit.woken hc) (fun _ => pickA sB wB b hSit) (fun e => by rw [hb] at e; cases e) _ gs w sl t q (Nat.le_refl _) h0 hk hD
    intro sB wB b hSit
    by_cases hb : b.status = .blocked
    · exact claimWait sB wB b hSit hb
    · cases hSit with
      | wait g v z s' e _ _ => subst e; exact absurd rfl hb
      | run hB =>
        intro gs w sl t q h0 hk hD
        exact run_B hR hA (.inl rfl) (.inl hs) (fun x x' w _ _ _ _ => woken_run hs) (fun sB b wB hB _ => pickA sB wB b (.run hB))
          (fun sB b wB v z es s' hsb k1 k2 k3 gs w sl t q d sl' h0 hk hD hst => send_waits hR hs hsb k1 k2 k3 h0 hk hD hst claimWait) hB _ gs w sl t q (Nat.le_refl _) h0 hk hD
end
end Go.Proofs.Ytgmhdmhnedljcaa.Co

/-
  Helpers of the claims beside this text: a go statement of goroutine 0's, beside others that only leave: the pair works till the channel is closed, and goroutine 0 goes on.
-/
namespace Go.Proofs.Ytgmhdmhnedljcaa.Co
open Go Go.Conc
open Go.ConcN (sumTo upd sumTo_upd upd_ne upd_same)
set_option linter.unusedSimpArgs false
set_option linter.unusedVariables false

section
variable {ι : Type} {P : Program} {Rep : ι → Value → (Nat → Prop) → World → Prop} {Val : ι → Value → Prop} {Fin : Side ι → Goroutine → World → Prop} {Post : Value → World → Prop}
/-- Others slip, till goroutine 0 takes its step. -/
theorem Run.inner {a : Goroutine} {w : World} (hs : a.status = .running)
    (hpick : ∀ (gs : Array Goroutine) (sl : Option (Nat × Nat)) (t : Trace) (q : Nat → Nat) (d0 d : Nat) (sl' : Option (Nat × Nat)), gs[0]? = some a → Leavers P t gs q → Past (fun _ => False) w.heap.size t → stepT P (crowd gs (w.at d0) sl) = runT P (crowd gs (w.at d) sl') 0 → EndsWell P Post (crowd gs (w.at d0) sl) t) : Run P Post a w := by
  have key : ∀ (M d : Nat) (gs : Array Goroutine) (sl : Option (Nat × Nat)) (t : Trace) (q : Nat → Nat), sumTo gs.size q ≤ M → gs[0]? = some a → Leavers P t gs q → Past (fun _ => False) w.heap.size t → EndsWell P Post (crowd gs (w.at d) sl) t := by
    intro M
    induction M using Nat.strongRecOn with
    | ind M ihM =>
      intro d gs sl t q hM h0 hL hP
      obtain ⟨i, g, d', sl', hi, hgr, hpk⟩ := crowd_pick (P := P) (w := w.at d) (sl := sl) (awake_all fun i g hg => by
        by_cases hi : i = 0
        · subst hi; rw [h0] at hg; cases hg; exact .inl hs
        · exact (hL.old i g (by omega) hg).status.elim .inl fun x => .inr (.inr x)) ⟨0, _, h0, hs⟩
      have hlt : i < gs.size := (Array.getElem?_eq_some_iff.1 hi).1
      rcases Nat.eq_zero_or_pos i with rfl | hpos
      · exact hpick gs sl t q d d' sl' h0 hL hP hpk
      · have hq := hL.old i g hpos hi
        have hi0 : (i == 0) = false := by simp; omega
        cases hqi : q i with
        | zero => rw [hqi] at hq; rw [hq.1] at hgr; cases hgr
        | succ n =>
          rw [hqi] at hq
          rcases hq with ⟨hf, _⟩ | ⟨_, g', es, hm, hstp, hq'⟩
          · rw [hf] at hgr; cases hgr
          have hrunT := runT_crowd_go (P := P) (sl := sl') (i := i) hi (by rw [hi0]; exact hstp ((w.at d).at d'))
          have hother : ∀ j, j ≠ i → Deaf (t ++ MemOp.ofEvents i g.frame.fn g.frame.place es) j = Deaf t j := fun j hj => Deaf_other t hj.symm _ evs_g
          refine EndsWell.behind (N := 1) (m' := crowd ((gs.map (woken P g g' ((w.at d).at d'))).setIfInBounds i g') ((w.at d).at d') sl') (t' := t ++ MemOp.ofEvents i g.frame.fn g.frame.place es) (by simp only [runNT, hpk]; rw [hrunT]) ?_
          refine ihM (sumTo gs.size (upd q i n)) (by have := slip_sum hlt hqi; omega) d' _ sl' _ (upd q i n) (by simp) ?_ ⟨fun j x hj hx => ?_, fun j hj => ?_⟩ (hP.mute (by omega) hm)
          · have hne : i ≠ 0 := by omega
            rw [Array.getElem?_setIfInBounds_ne hne, Array.getElem?_map, h0]
            simp [woken_run hs]
          · by_cases hji : i = j
            · subst hji
              rw [Array.getElem?_setIfInBounds_self_of_lt (by simpa using hlt)] at hx
              obtain rfl := Option.some.inj hx
              rw [upd_same, Deaf_own]
              exact hq'
            · rw [Array.getElem?_setIfInBounds_ne hji, Array.getElem?_map] at hx
              obtain ⟨y, hy, rfl⟩ := Option.map_eq_some_iff.1 hx
              have hqj := hL.old j y hj hy
              rw [woken_quitsD hqj, upd_ne q n (Ne.symm hji), hother j (Ne.symm hji)]
              exact hqj
          · rw [hother j (by simp at hj; omega)]
            exact hL.above j (by simpa using hj)
  exact fun d gs sl t q h0 hL hP => key _ d gs sl t q (Nat.le_refl _) h0 hL hP
theorem mem_of_loc {own : Nat → Prop} {l : Loc} (h : locIn own l) : l.isMemory = true := by
  cases l <;> first | rfl | exact h.elim
/-- The trace behind a go statement. -/
theorem two_start {t : Trace} {B k : Nat} (hk : k ≠ 0) {own : Nat → Prop} (hP : Past (fun _ => False) B t) (hd : Deaf t k = 0) {x y : MemOp} (hx : x.g = 0 ∧ x.act = .go k) (hy : y.g = k ∧ y.act = .start) : Two (fun _ => False) t.size k B own (t ++ #[x, y]) := by
  have e : t ++ #[x, y] = (t ++ #[x]) ++ #[y] := by simp only [Array.append_assoc]; congr 1
  have hnt : ∀ op ∈ #[x, y], op.act.touch? = none := fun op hop => by
    simp only [List.mem_toArray, List.mem_cons, List.not_mem_nil, or_false] at hop
    rcases hop with rfl | rfl
    · rw [hx.2]; rfl
    · rw [hy.2]; rfl
  have hdf : ∀ j, Deaf (t ++ #[x, y]) j = Deaf t j := fun j => by
    rw [e, Deaf_push, Deaf_push]; simp [deafStep, hx.2, hy.2]
  refine ⟨fun said => ?_, fun i z hz hm hn => ?_, fun i z hz ho => ?_, fun i z hz hni hg => ?_, by simp, fun i g hg hne hnk hc => ?_, by rw [hdf]; exact hP.hears, by rw [hdf]; exact hd, seen_app hP.seen fun op hop => ?_⟩
  · rw [e]
    have h1 : ¬ Race said (t ++ #[x]) := noRace_append (g := 0) (hP.clean said) (fun op hop => by
      have : op = x := by simpa using hop
      rw [this]; exact hx.1) fun i a ha op hop b hb hc => (by
      have : op = x := by simpa using hop
      rw [this, hx.2] at hb; cases hb)
    exact noRace_append (g := k) h1 (fun op hop => by
      have : op = y := by simpa using hop
      rw [this]; exact hy.1) fun i a ha op hop b hb hc => (by
      have : op = y := by simpa using hop
      rw [this, hy.2] at hb; cases hb)
  · rcases touch_cases hz with ⟨_, hz'⟩ | ⟨op, hop, hi, hox⟩
    · rcases hP.known i z hz' hm with h | h
      · exact .inl (h.app _)
      · exact h.1.elim
    · rw [hnt op hop] at hox; cases hox
  · rcases touch_cases hz with ⟨_, hz'⟩ | ⟨op, hop, hi, hox⟩
    · rcases hP.known i z hz' (mem_of_loc ho) with h | h
      · exact Go.ConcN.fork_knows hx hy hP.hears hd h
      · exact h.1.elim
    · rw [hnt op hop] at hox; cases hox
  · rcases touch_cases hz with ⟨hi, _⟩ | ⟨op, hop, hi, hox⟩
    · omega
    · rw [hnt op hop] at hox; cases hox
  · have hc' := hc
    obtain ⟨z, hz, _⟩ := hc
    obtain ⟨op, hop, hox⟩ := touch_of hz
    rcases getElem?_append_cases hop with ⟨hi, hop'⟩ | ⟨_, hopu⟩
    · obtain ⟨j, hj, hb⟩ := hP.over i g (by rw [← g?_old hi]; exact hg) hne ((counts_old hi).1 hc')
      have hjl : j < t.size := by
        unfold Trace.g? at hj
        obtain ⟨z, hz, _⟩ := Option.map_eq_some_iff.1 hj
        exact lt_size_of_getElem? hz
      exact ⟨j, by rw [g?_old hjl]; exact hj, hb_app _ hb⟩
    · rw [hnt op hopu] at hox; cases hox
  · simp only [List.mem_toArray, List.mem_cons, List.not_mem_nil, or_false] at hop
    rcases hop with rfl | rfl
    · rw [hx.2]; exact trivial
    · rw [hy.2]; exact trivial
/-- A GOROUTINE IS STARTED, AND ITS CHANNEL RANGED OVER. -/
theorem Run.pair (hR : Reps Rep Val) {a a' child : Goroutine} {w : World} {sA sB : Side ι} {ch : Nat} (hs : a.status = .running) (hsp : ∀ d, stepG P true a (w.at d) = .spawn a' child (w.at d) #[])
    (hA : GoI P true ch (dealA Rep Val Fin) (fun _ _ _ => False) sA a' w) (hB : GoI P false ch (dealB Rep) (AtClose P ch) sB child w) (hc : ∃ s r tm, w.heap[ch]? = some (.chan 0 #[] false s r tm))
    (apart : ∀ b, sA.own b → sB.own b → False) (nA : ¬ sA.own ch) (nB : ¬ sB.own ch) (lowA : ∀ b, sA.own b → b < w.heap.size) (lowB : ∀ b, sB.own b → b < w.heap.size) (hfix : ∀ b, ¬ sB.fix b) (hrem : sA.rem = sB.rem) (gA : sA.got = []) (gB : sB.got = [])
    (K : ∀ s g w', Fin s g w' → Run P Post g w') : Run P Post a w := by
  refine Run.inner hs fun gs sl t q d0 d sl' h0 hL hP hst => ?_
  have hlt := (Array.getElem?_eq_some_iff.1 h0).1
  have hk : gs.size ≠ 0 := by omega
  have hrunT := runT_crowd_spawn (P := P) (sl := sl') (i := 0) h0 (show stepG P (0 == 0) a (w.at d) = _ from hsp d)
  rw [ofEvents_none] at hrunT
  have htr : ∀ x y : MemOp, t ++ ((#[] : Array MemOp).push x).push y = t ++ #[x, y] := fun x y => rfl
  have hdf : ∀ (x y : MemOp), x.act = .go gs.size → y.act = .start → ∀ j, Deaf (t ++ #[x, y]) j = Deaf t j := fun x y hx hy j => by
    rw [show t ++ #[x, y] = (t ++ #[x]) ++ #[y] by simp only [Array.append_assoc]; congr 1, Deaf_push, Deaf_push]; simp [deafStep, hx, hy]
  have hD : Duo P Rep (fun _ => False) (fun _ => False) t.size gs.size ch ((gs.setIfInBounds 0 a').push child) (w.at d) (t ++ #[{ g := 0, fn := a.frame.fn, pos := a.frame.place, act := .go gs.size }, { g := gs.size, fn := child.frame.fn, pos := a.frame.place, act := .start }]) q sA sB w w := by
    refine ⟨hk, fun i g hi hik hg => ?_, fun j hj => ?_, hc, .at _ w d, .at _ w d, apart, nA, nB, lowA, lowB, fun b hb => absurd hb (hfix b), hrem, by rw [gA, gB], by rw [gB]; simp, two_start hk hP (hL.above _ (Nat.le_refl _)) ⟨rfl, rfl⟩ ⟨rfl, rfl⟩, fun l hl => hl.elim, fun b _ h => h, fun b hb => hb.elim⟩
    · rw [hdf _ _ rfl rfl]
      rw [Array.getElem?_push, Array.size_setIfInBounds, if_neg hik, Array.getElem?_setIfInBounds_ne (Ne.symm hi)] at hg
      exact hL.old i g (by omega) hg
    · rw [hdf _ _ rfl rfl]
      simp at hj
      exact hL.above j (by omega)
  obtain ⟨N, gs2, a2, w2, sl2, t2, q2, s2, r1, r2, r3, r4, r5, r6⟩ := open_runs hR hA sB w child (.run hB) ((gs.setIfInBounds 0 a').push child) (w.at d) sl' _ q (by rw [Array.getElem?_push, Array.size_setIfInBounds, if_neg (by omega)]; simp [hlt]) (by rw [Array.getElem?_push]; simp) hD
  refine EndsWell.behind (N := 1) (m' := crowd ((gs.setIfInBounds 0 a').push child) (w.at d) sl') (t' := t ++ #[{ g := 0, fn := a.frame.fn, pos := a.frame.place, act := .go gs.size }, { g := gs.size, fn := child.frame.fn, pos := a.frame.place, act := .start }]) (by simp only [runNT, hst]; rw [hrunT]; rfl) ?_
  exact EndsWell.behind r1 (K s2 a2 w2 r4 w2.drawn gs2 sl2 t2 q2 r3 r5 r6)
end
end Go.Proofs.Ytgmhdmhnedljcaa.Co
