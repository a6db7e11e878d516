/-
  Helpers of the claims beside this text: a lone contract that holds on every tape is a run beside goroutines that turn nothing but the count of draws: no path is endless.
-/
import Derived.Test.YtgmhdmhnedljcaaGcm
import Derived.Conc.Machine
import Derived.Conc.Beside
namespace Go.Proofs.Ytgmhdmhnedljcaa.Co
open Go Go.Conc
set_option linter.unusedSimpArgs false
set_option linter.unusedVariables false

/-- A goroutine's frames, down to the callers. -/
structure St where
  fr : Frame
  fs : List Frame
  w : World
/-- It has not come to its stop: the frame that was entered last is not left. -/
def St.on (s : St) : Prop := s.fr.mode = .run ∨ s.fs ≠ []
structure St.good (P : Program) (F : FuncId → Bool) (s : St) : Prop where
  fr : Fine P F s.fr
  fs : ∀ f ∈ s.fs, Fine P F f
  pend : NoPend P s.w
/-- The tape begins with these answers. -/
def Begins (T : Nat → Question → Nat) (c : List (Question → Nat)) : Prop := ∀ i (h : i < c.length) q, T i q = c[i] q
theorem Begins.left {T : Nat → Question → Nat} {c c' : List (Question → Nat)} (h : Begins T (c ++ c')) : Begins T c := fun i hi q => by
  rw [h i (by simp; omega) q, List.getElem_append_left hi]
def St.lone (s : St) (cs : List Frame) (T : Nat → Question → Nat) (d : Nat) : Machine := Go.lone s.fr (s.fs ++ cs) (tp s.w T d)
/-- The answers that are drawn. -/
def drawnOf (w : World) (d k : Nat) : List (Question → Nat) := (List.range k).map fun i q => w.tape (d + i) q
inductive Path (P : Program) (s0 : St) : St → List (Question → Nat) → Nat → Prop
  | nil : Path P s0 s0 [] 0
  | snoc {s s' : St} {c : List (Question → Nat)} {n d k : Nat} {es : Array Event} : Path P s0 s c n → s.on →
      (∀ cs T e, Agree (s.w.at d) k T e → stepG P true (G s.fr (s.fs ++ cs)) (tp s.w T e) = .go (G s'.fr (s'.fs ++ cs)) (tp s'.w T (e + k)) es) → Path P s0 s' (c ++ drawnOf s.w d k) (n + 1)

section
variable {P : Program} {F : FuncId → Bool} {s0 s s' : St} {c : List (Question → Nat)} {n : Nat}
theorem agree_of {w : World} {d k : Nat} {T : Nat → Question → Nat} (h : Begins T (c ++ drawnOf w d k)) : Agree (w.at d) k T c.length := fun i q hi => by
  have e : (c ++ drawnOf w d k)[c.length + i]? = some (fun q => w.tape (d + i) q) := by
    rw [List.getElem?_append_right (by omega), show c.length + i - c.length = i by omega]
    simp [drawnOf, hi]
  rw [h (c.length + i) (by simp [drawnOf]; omega) q, Option.some.inj ((List.getElem?_eq_getElem _).symm.trans e)]
  rfl
theorem step_lone (cs : List Frame) (T : Nat → Question → Nat) (d : Nat) {s s' : St} {d' : Nat} {es : Array Event} (h : stepG P true (G s.fr (s.fs ++ cs)) (tp s.w T d) = .go (G s'.fr (s'.fs ++ cs)) (tp s'.w T d') es) :
    step P (s.lone cs T d) = .next (s'.lone cs T d') := step_lone_go (by
  show (stepG P true (G s.fr (s.fs ++ cs)) (tp s.w T d)).bare = _
  rw [h]; rfl)
theorem runN_one {m m' : Machine} (h : step P m = .next m') : runN P 1 m = .next m' := by simp [runN, h]
theorem path_run (h : Path P s0 s c n) : ∀ cs T, Begins T c → runN P n (s0.lone cs T 0) = .next (s.lone cs T c.length) := by
  induction h with
  | nil => intro cs T _; rfl
  | snoc hp hon hs ih =>
    intro cs T hT
    rw [runN_add, ih cs T hT.left]
    exact runN_one (by rw [step_lone cs T _ (hs cs T _ (agree_of hT))]; simp [drawnOf])
theorem path_on (h : Path P s0 s c n) : ∀ N < n, ∀ cs T, Begins T c → ∃ s' d, St.on s' ∧ runN P N (s0.lone cs T 0) = .next (s'.lone cs T d) := by
  induction h with
  | nil => intro N hN; omega
  | @snoc s s' c n d k es hp hon hs ih =>
    intro N hN cs T hT
    rcases Nat.lt_or_ge N n with h1 | h1
    · exact ih N h1 cs T hT.left
    · obtain rfl : N = n := by omega
      exact ⟨s, _, hon, path_run hp cs T hT.left⟩
theorem lone_inj {fr fr' : Frame} {cs cs' : List Frame} {w w' : World} (h : Go.lone fr cs w = Go.lone fr' cs' w') : fr = fr' ∧ cs = cs' ∧ w = w' := by
  simp only [Go.lone, Machine.mk.injEq, Array.mk.injEq, List.cons.injEq, Goroutine.mk.injEq, and_true] at h
  exact ⟨h.2.1, h.2.2, h.1⟩
/-- No state that is on its way is one that leaves. -/
theorem on_not (hs : s.on) {cs : List Frame} {T : Nat → Question → Nat} {d : Nat} {fr : Frame} {w : World} (hm : fr.mode = .returning) (h : s.lone cs T d = Go.lone fr cs w) : False := by
  obtain ⟨h1, h2, _⟩ := lone_inj h
  have : s.fs = [] := by simpa using h2
  rcases hs with hr | hr
  · rw [h1, hm] at hr; cases hr
  · exact hr this
end

/-- What a contract says of a call on every tape, beneath whatever callers. -/
def Contract (P : Program) (fr0 : Frame) (w0 : World) (f : FuncId) (R : Value → World → Prop) : Prop :=
  ∀ T cs, ∃ v w' fr, R v w' ∧ Steps P (Go.lone fr0 cs (tp w0 T 0)) (Go.lone fr cs w') ∧ fr.fn = f ∧ fr.leaving P w' (.returned v)
/-- Where it stops. -/
def StopAt (P : Program) (f : FuncId) (R : Value → World → Prop) (fr : Frame) (w : World) : Prop := fr.fn = f ∧ ∃ v, R v w ∧ fr.leaving P w (.returned v)
/-- A run of plain code beside goroutines that turn nothing but the count of draws. -/
inductive Win (P : Program) (F : FuncId → Bool) (Stop : Frame → World → Prop) : St → Prop
  | stop {s : St} : s.fs = [] → NoPend P s.w → (∀ d, Stop s.fr (s.w.at d)) → Win P F Stop s
  | step {s : St} (nx : Nat → St) (ev : Nat → Array Event) : s.on → (∀ d cs, stepG P true (G s.fr (s.fs ++ cs)) (s.w.at d) = .go (G (nx d).fr ((nx d).fs ++ cs)) (nx d).w (ev d)) →
      (∀ d, ∀ e ∈ ev d, LowL (nx d).w.heap.size e.loc) → (∀ d, s.w.heap.size ≤ (nx d).w.heap.size ∧ (nx d).w.tape = s.w.tape) → (∀ d, Win P F Stop (nx d)) → Win P F Stop s
theorem Win.some {P : Program} {F : FuncId → Bool} {Stop : Frame → World → Prop} {s : St} (h : s.on)
    (k : ∀ d, ∃ (s' : St) (es : Array Event), (∀ cs, stepG P true (G s.fr (s.fs ++ cs)) (s.w.at d) = .go (G s'.fr (s'.fs ++ cs)) s'.w es) ∧ (∀ e ∈ es, LowL s'.w.heap.size e.loc) ∧ (s.w.heap.size ≤ s'.w.heap.size ∧ s'.w.tape = s.w.tape) ∧ Win P F Stop s') : Win P F Stop s :=
  .step (fun d => (k d).choose) (fun d => (k d).choose_spec.choose) h (fun d => (k d).choose_spec.choose_spec.1) (fun d => (k d).choose_spec.choose_spec.2.1) (fun d => (k d).choose_spec.choose_spec.2.2.1) (fun d => (k d).choose_spec.choose_spec.2.2.2)

section
variable {P : Program} {F : FuncId → Bool} {f : FuncId} {R : Value → World → Prop} {s0 s : St} {c : List (Question → Nat)} {n : Nat}
/-- A tape that begins with these answers. -/
def tapeOf (c : List (Question → Nat)) : Nat → Question → Nat := fun i q => if h : i < c.length then c[i] q else 0
theorem tapeOf_begins (c : List (Question → Nat)) : Begins (tapeOf c) c := fun i h q => by simp [tapeOf, h]
/-- A caller that ends the run, whichever way it is come back to. -/
def deadEnd : Frame := { fn := 0, tmps := #[], todo := [.code (.refuse "")], defers := [{ target := .nil, args := #[] }], mode := .run, kind := .normal }
theorem dead_run (w : World) : ∃ o w', step P (Go.lone deadEnd [] w) = .ended o w' := ⟨_, _, step_lone_ended (by simp [stepG, stepG.exec, deadEnd]; exact ⟨rfl, rfl⟩)⟩
theorem dead_panic (w : World) (ch : List PanicEntry) : ∃ o w', step P (Go.lone (deadEnd.raise ch) [] w) = .ended o w' := ⟨_, _, step_lone_ended (by simp [stepG, unwind, callDeferred, deadEnd, Frame.raise]; exact ⟨rfl, rfl⟩)⟩
theorem runN_ended {m : Machine} {o : Outcome} {w : World} (h : step P m = .ended o w) (k : Nat) : runN P (k + 1) m = .ended o w := by simp [runN, h]
/-- Behind its stop a goroutine beneath 'deadEnd' never stands beneath it again. -/
theorem behind_stop (hP : PlainFns P F) {fr : Frame} (hf : Fine P F fr) (hm : fr.mode ≠ .run) (w : World) (k : Nat) (fr' : Frame) (w' : World) : runN P (k + 1) (Go.lone fr [deadEnd] w) ≠ .next (Go.lone fr' [deadEnd] w') := by
  obtain ⟨fn, x, hfn, -⟩ := hP.2 _ hf.fn
  have key : (∃ o w1, step P (Go.lone fr [deadEnd] w) = .ended o w1) ∨ ∃ fr1 w1, step P (Go.lone fr [deadEnd] w) = .next (Go.lone fr1 [] w1) ∧ ∃ o w2, step P (Go.lone fr1 [] w1) = .ended o w2 := by
    cases h : fr.mode with
    | run => exact absurd h hm
    | panicking ch => exact .inr ⟨_, _, step_lone_go (by simp [stepG, unwind, h, hf.defers, Frame.catches, hfn]; exact ⟨rfl, rfl⟩), dead_panic _ _⟩
    | returning =>
      cases hr : (results fn fr.tmps).run P w with
      | ok v w1 => exact .inr ⟨deadEnd, w1, step_lone_go (by simp [stepG, unwind, doReturn, h, hf.defers, hfn, hr, hf.kind, GStep.after, deadEnd, Frame.finish]), dead_run _⟩
      | halt h' w1 => cases h' <;> exact .inl ⟨_, _, step_lone_ended (by simp [stepG, unwind, h, hf.defers, hfn, hr, GStep.after]; first | exact ⟨rfl, rfl⟩ | rfl)⟩
  rcases key with ⟨o, w1, h⟩ | ⟨fr1, w1, h, o, w2, h2⟩
  · rw [runN_ended h]; simp
  · intro he
    cases k with
    | zero =>
      rw [runN_one h] at he
      have := (lone_inj (by injection he)).2.1
      cases this
    | succ k =>
      simp only [runN, h, h2] at he
      cases he
/-- At its stop the contract is kept. -/
theorem at_stop (hP : PlainFns P F) (hC : Contract P s0.fr s0.w f R) (h0 : s0.fs = []) (hRT : ∀ v w T d, R v w → R v (tp w T d)) (hp : Path P s0 s c n) (hg : s.good P F) (h : ¬ s.on) (d : Nat) : StopAt P f R s.fr (s.w.at d) := by
  have hT := tapeOf_begins c
  obtain ⟨v, w', fr, hR, ⟨N, hN⟩, hf, hl⟩ := hC (tapeOf c) [deadEnd]
  have hm : fr.mode = .returning := hl.1
  have hN' : runN P N (s0.lone [deadEnd] (tapeOf c) 0) = .next (Go.lone fr [deadEnd] w') := by
    unfold St.lone; rw [h0]; exact hN
  have hsm : s.fr.mode ≠ .run := fun x => h (.inl x)
  have hsf : s.fs = [] := by
    cases hx : s.fs with
    | nil => rfl
    | cons a b => exact absurd (.inr (by rw [hx]; simp)) h
  have hrun := path_run hp [deadEnd] _ hT
  rcases Nat.lt_trichotomy N n with hlt | rfl | hgt
  · obtain ⟨s', d', hon, hr⟩ := path_on hp N hlt [deadEnd] _ hT
    rw [hN'] at hr
    exact (on_not hon hm (by injection hr with x; exact x.symm)).elim
  · rw [hrun] at hN'
    have := lone_inj (by injection hN')
    obtain ⟨e1, _, e2⟩ := this
    subst e1
    refine ⟨hf, v, by have := hRT v w' s.w.tape d hR; rw [← e2] at this; exact this, hl.1, hl.2.1, hl.2.2.1, ?_⟩
    obtain ⟨fn, h1, h2⟩ := hl.2.2.2
    refine ⟨fn, h1, ?_⟩
    rw [← e2] at h2
    have hc : Calm P (fun _ => True) (results fn s.fr.tmps) := calm_results fn s.fr.tmps
    obtain ⟨k, k1, k2, k3⟩ := same_run _ hc (tp s.w (tapeOf c) c.length) #[]
    have h2' : ((results fn s.fr.tmps).runT P (tp s.w (tapeOf c) c.length) #[]).1 = .ok v (tp s.w (tapeOf c) c.length) := by rw [Sem.runT_fst]; exact h2
    rw [h2'] at k1
    have hk : k = 0 := by simp only [wOf] at k1; omega
    subst hk
    have := k3 s.w.tape d (fun i q hi => by omega)
    have e3 := congrArg Prod.fst this
    rw [Sem.runT_fst, h2'] at e3
    exact e3
  · obtain ⟨k, rfl⟩ : ∃ k, N = n + (k + 1) := ⟨N - n - 1, by omega⟩
    rw [runN_add, hrun] at hN'
    refine (behind_stop hP hg.fr hsm (tp s.w (tapeOf c) c.length) k fr w' ?_).elim
    have e : s.lone [deadEnd] (tapeOf c) c.length = Go.lone s.fr [deadEnd] (tp s.w (tapeOf c) c.length) := by unfold St.lone; rw [hsf]; rfl
    rw [e] at hN'
    exact hN'
/-- A contract that is proved for the lone machine, on every tape. -/
theorem contract_of_calls {args : Array Value} {w0 : World} {R0 : World → Value → World → Prop} (h : ∀ T, Calls P f args (tp w0 T 0) fun e w' => ∃ v, e = .returned v ∧ R0 (tp w0 T 0) v w') (hR : ∀ T v w', R0 (tp w0 T 0) v w' → R v w') :
    Contract P (Frame.enter P f args .normal) w0 f R := fun T cs => by
  obtain ⟨e, w', fr, ⟨v, rfl, hr⟩, hc, hf, hl⟩ := h T cs
  exact ⟨v, w', fr, hR _ _ _ hr, hc, hf, hl⟩
end
end Go.Proofs.Ytgmhdmhnedljcaa.Co

/-
  Helpers of the claims beside this text: no path is endless (the answers along an endless one make a tape, on which the contract would not be kept).
-/
namespace Go.Proofs.Ytgmhdmhnedljcaa.Co
open Go Go.Conc
set_option linter.unusedSimpArgs false
set_option linter.unusedVariables false

section
variable {P : Program} {F : FuncId → Bool} {f : FuncId} {R : Value → World → Prop} {s0 s : St} {c : List (Question → Nat)} {n : Nat}
/-- A state that is not won has one behind it. -/
theorem next_bad (hP : PlainFns P F) (hC : Contract P s0.fr s0.w f R) (h0 : s0.fs = []) (hRT : ∀ v w T d, R v w → R v (tp w T d)) (hp : Path P s0 s c n) (hg : s.good P F) (hn : ¬ Win P F (StopAt P f R) s) :
    ∃ s' c', Path P s0 s' (c ++ c') (n + 1) ∧ s'.good P F ∧ ¬ Win P F (StopAt P f R) s' := by
  by_cases hon : s.on
  · refine Classical.byContradiction fun hno => hn (.some hon fun d => ?_)
    obtain ⟨k, h⟩ := step1 (main := true) hP hg.fr hg.fs (w := s.w.at d) hg.pend hon
    rcases h with ⟨fr', fs', w', es, h1, h2, h3, h4, h5, h6, h7, h8⟩ | h
    · have hg' : St.good P F ⟨fr', fs', w'⟩ := ⟨h1, h2, h7⟩
      have hp' : Path P s0 ⟨fr', fs', w'⟩ (c ++ drawnOf s.w d k) (n + 1) := .snoc (s' := ⟨fr', fs', w'⟩) (es := es) hp hon fun cs T e hT => h8 cs T e hT
      refine ⟨⟨fr', fs', w'⟩, es, fun cs => ?_, h5, ⟨h6, h4⟩, Classical.byContradiction fun hw => hno ⟨_, _, hp', hg', hw⟩⟩
      have := h8 cs s.w.tape d (fun i q hi => rfl)
      have e : tp w' s.w.tape (d + k) = w' := by
        have h3' : w'.drawn = d + k := h3
        have h4' : w'.tape = s.w.tape := h4
        rw [← h3', ← h4']; rfl
      rw [e] at this
      exact this
    · -- the run would end
      have hT := tapeOf_begins (c ++ drawnOf s.w d k)
      obtain ⟨o, w1, es, he⟩ := h [] (tapeOf (c ++ drawnOf s.w d k)) c.length (agree_of hT)
      obtain ⟨v, w', fr, hR, ⟨N, hN⟩, hf, hl⟩ := hC (tapeOf (c ++ drawnOf s.w d k)) []
      have hm : fr.mode = .returning := hl.1
      have hN' : runN P N (s0.lone [] (tapeOf (c ++ drawnOf s.w d k)) 0) = .next (Go.lone fr [] w') := by
        unfold St.lone; rw [h0]; exact hN
      have hrun := path_run hp [] _ hT.left
      rcases Nat.lt_trichotomy N n with hlt | rfl | hgt
      · obtain ⟨s', d', hon', hr⟩ := path_on hp N hlt [] _ hT.left
        rw [hN'] at hr
        exact (on_not hon' hm (by injection hr with x; exact x.symm)).elim
      · rw [hrun] at hN'
        exact (on_not hon hm (by injection hN')).elim
      · obtain ⟨k', rfl⟩ : ∃ k, N = n + (k + 1) := ⟨N - n - 1, by omega⟩
        rw [runN_add, hrun] at hN'
        have hst : step P (s.lone [] (tapeOf (c ++ drawnOf s.w d k)) c.length) = .ended o w1 := step_lone_ended (by
          show (stepG P true (G s.fr (s.fs ++ [])) (tp s.w _ _)).bare = _
          have he' : stepG P true (G s.fr (s.fs ++ [])) (tp s.w (tapeOf (c ++ drawnOf s.w d k)) c.length) = .ended o w1 es := he
          rw [he']; rfl)
        simp only [runN_ended hst] at hN'
        cases hN'
  · refine absurd (.stop ?_ hg.pend fun d => at_stop hP hC h0 hRT hp hg hon d) hn
    cases hx : s.fs with
    | nil => rfl
    | cons a b => exact absurd (.inr (by rw [hx]; simp)) hon

/-- The states of an endless path. -/
structure Bad (P : Program) (F : FuncId → Bool) (Stop : Frame → World → Prop) (s0 : St) (n : Nat) where
  s : St
  c : List (Question → Nat)
  path : Path P s0 s c n
  good : s.good P F
  bad : ¬ Win P F Stop s
theorem Path.on_before (hp : Path P s0 s c n) : ∀ N < n, ∃ s' c', Path P s0 s' c' N ∧ s'.on := by
  induction hp with
  | nil => intro N h; omega
  | @snoc s s' c n d k es hp hon hs ih =>
    intro N hN
    rcases Nat.lt_or_ge N n with h | h
    · exact ih N h
    · obtain rfl : N = n := by omega
      exact ⟨s, c, hp, hon⟩
/-- A lone contract on every tape is a run in such company. -/
theorem win_of_contract (hP : PlainFns P F) (hg : s0.good P F) (hC : Contract P s0.fr s0.w f R) (h0 : s0.fs = []) (hRT : ∀ v w T d, R v w → R v (tp w T d)) : Win P F (StopAt P f R) s0 := by
  classical
  refine Classical.byContradiction fun hn => ?_
  have nx : ∀ n (b : Bad P F (StopAt P f R) s0 n), ∃ b' : Bad P F (StopAt P f R) s0 (n + 1), ∃ c', b'.c = b.c ++ c' := fun n b => by
    obtain ⟨s', c', h1, h2, h3⟩ := next_bad hP hC h0 hRT b.path b.good b.bad
    exact ⟨⟨s', _, h1, h2, h3⟩, c', rfl⟩
  let b : ∀ n, Bad P F (StopAt P f R) s0 n := fun n => Nat.rec ⟨s0, [], .nil, hg, hn⟩ (fun n b => (nx n b).choose) n
  have hb : ∀ n, ∃ c', (b (n + 1)).c = (b n).c ++ c' := fun n => (nx n (b n)).choose_spec
  have hpre : ∀ m k, ∃ c', (b (m + k)).c = (b m).c ++ c' := fun m k => by
    induction k with
    | zero => exact ⟨[], by simp⟩
    | succ k ih =>
      obtain ⟨c1, h1⟩ := ih
      obtain ⟨c2, h2⟩ := hb (m + k)
      exact ⟨c1 ++ c2, by rw [← Nat.add_assoc, h2, h1, List.append_assoc]⟩
  have hget : ∀ m k i (h1 : i < (b m).c.length) (h2 : i < (b k).c.length), (b m).c[i] = (b k).c[i] := by
    have one : ∀ m k i (h1 : i < (b m).c.length) (h2 : i < (b (m + k)).c.length), (b m).c[i] = (b (m + k)).c[i] := fun m k i h1 h2 => by
      obtain ⟨c', hc⟩ := hpre m k
      have : (b (m + k)).c[i]? = (b m).c[i]? := by rw [hc, List.getElem?_append_left h1]
      rw [List.getElem?_eq_getElem h1, List.getElem?_eq_getElem h2] at this
      exact (Option.some.inj this).symm
    intro m k i h1 h2
    rcases Nat.le_total m k with h | h
    · obtain ⟨j, rfl⟩ := Nat.exists_eq_add_of_le h
      exact one m j i h1 h2
    · obtain ⟨j, rfl⟩ := Nat.exists_eq_add_of_le h
      exact (one k j i h2 h1).symm
  let T : Nat → Question → Nat := fun i q => if h : ∃ m, i < (b m).c.length then ((b h.choose).c[i]'(h.choose_spec)) q else 0
  have hT : ∀ m, Begins T (b m).c := fun m i hi q => by
    have h : ∃ m, i < (b m).c.length := ⟨m, hi⟩
    show (if h : ∃ m, i < (b m).c.length then ((b h.choose).c[i]'(h.choose_spec)) q else 0) = _
    rw [dif_pos h]
    exact congrFun (hget _ _ _ h.choose_spec hi) q
  obtain ⟨v, w', fr, hR, ⟨N, hN⟩, hf, hl⟩ := hC T []
  have hN' : runN P N (s0.lone [] T 0) = .next (Go.lone fr [] w') := by
    unfold St.lone; rw [h0]; exact hN
  obtain ⟨s', d', hon, hr⟩ := path_on (b (N + 1)).path N (by omega) [] T (hT (N + 1))
  rw [hN'] at hr
  exact on_not hon hl.1 (by injection hr with x; exact x.symm)
end
end Go.Proofs.Ytgmhdmhnedljcaa.Co

/-
  Helpers of the claims beside this text: a run of plain code (Gcs), carried out by a machine of many in which all others are only leaving: on whatever tape it comes to its stop.
-/
namespace Go.Proofs.Ytgmhdmhnedljcaa.Co
open Go Go.Conc
open Go.ConcN (sumTo upd sumTo_upd upd_ne upd_same)
set_option linter.unusedSimpArgs false
set_option linter.unusedVariables false

theorem evL_of_low {B : Nat} {e : Event} (h : LowL B e.loc) : EvL (fun _ => False) B e := by
  obtain ⟨loc, wr, sy⟩ := e
  cases loc with
  | cell a => exact ⟨fun x hx hs => hs.elim, by simp, by simp, by cases wr <;> cases sy <;> exact h⟩
  | obj r => exact ⟨fun x hx hs => hs.elim, by simp, by simp, by cases wr <;> cases sy <;> exact h⟩
  | mark m =>
    have hm : m = .noRoom := h
    subst hm
    exact ⟨fun x hx hs => hs.elim, by simp, by simp, by cases wr <;> cases sy <;> trivial⟩
  | output => exact h.elim
  | goroutines => exact h.elim

section
variable {P : Program} {F : FuncId → Bool} {Stop : Frame → World → Prop}
/-- What is behind such a run. -/
def Came (P : Program) (Stop : Frame → World → Prop) (cs : List Frame) (gs : Array Goroutine) (w : World) (sl : Option (Nat × Nat)) (t : Trace) : Prop :=
  ∃ (N : Nat) (gs' : Array Goroutine) (fr : Frame) (w' : World) (sl' : Option (Nat × Nat)) (t' : Trace) (q' : Nat → Nat),
    runNT P N (crowd gs w sl) t = (.next (crowd gs' w' sl'), t') ∧ gs'.size = gs.size ∧ gs'[0]? = some (G fr cs) ∧ (Stop fr w' ∧ w'.tape = w.tape ∧ NoPend P w') ∧ Leavers P t' gs' q' ∧ Past (fun _ => False) w'.heap.size t'
theorem win_beside {s : St} (h : Win P F Stop s) : ∀ (M d : Nat) (cs : List Frame) (gs : Array Goroutine) (sl : Option (Nat × Nat)) (t : Trace) (q : Nat → Nat), sumTo gs.size q ≤ M → gs[0]? = some (G s.fr (s.fs ++ cs)) → Leavers P t gs q →
    Past (fun _ => False) s.w.heap.size t → Came P Stop cs gs (s.w.at d) sl t := by
  induction h with
  | @stop s hf hnp hs =>
    intro M d cs gs sl t q hM h0 hL hP
    rw [hf] at h0
    exact ⟨0, gs, s.fr, s.w.at d, sl, t, q, rfl, rfl, h0, ⟨hs d, rfl, hnp⟩, hL, hP⟩
  | @step s nx ev hon hst hev hgrow hw ih =>
    intro M
    induction M using Nat.strongRecOn with
    | ind M ihM =>
      intro d cs gs sl t q hM h0 hL hP
      have hrun : (G s.fr (s.fs ++ cs)).status = .running := rfl
      have haw : ∀ g ∈ gs, awake g := by
        intro g hg
        obtain ⟨i, hi, rfl⟩ := Array.mem_iff_getElem.1 hg
        rcases Nat.eq_zero_or_pos i with rfl | hpos
        · have : gs[0] = G s.fr (s.fs ++ cs) := by simpa [Array.getElem?_eq_getElem hi] using h0
          rw [this]; exact awake_of (.inl hrun)
        · exact awake_of ((hL.old i _ hpos (Array.getElem?_eq_getElem hi)).status.elim .inl fun x => .inr (.inr x))
      obtain ⟨i, g, d', sl', hi, hg, hpick⟩ := crowd_pick (P := P) (w := s.w.at d) (sl := sl) haw ⟨0, _, h0, hrun⟩
      have hlt : i < gs.size := (Array.getElem?_eq_some_iff.1 hi).1
      rcases Nat.eq_zero_or_pos i with rfl | hpos
      · obtain rfl : g = G s.fr (s.fs ++ cs) := by rw [h0] at hi; exact (Option.some.inj hi).symm
        have hgo := hst d' cs
        have hrunT := runT_crowd_go (P := P) (sl := sl') (i := 0) hi (show stepG P (0 == 0) (G s.fr (s.fs ++ cs)) ((s.w.at d).at d') = _ from hgo)
        have hother : ∀ j, j ≠ 0 → Deaf (t ++ MemOp.ofEvents 0 (G s.fr (s.fs ++ cs)).frame.fn (G s.fr (s.fs ++ cs)).frame.place (ev d')) j = Deaf t j := fun j hj =>
          Deaf_other t hj.symm _ fun op hop => by obtain ⟨e, _, rfl⟩ := Go.Conc.mem_ofEvents hop; rfl
        obtain ⟨N, gs', fr, w', sl'', t', q', hr, hs', h0', hS, hL', hP'⟩ := ih d' _ (nx d').w.drawn cs ((gs.map (woken P (G s.fr (s.fs ++ cs)) (G (nx d').fr ((nx d').fs ++ cs)) (nx d').w)).setIfInBounds 0 (G (nx d').fr ((nx d').fs ++ cs))) sl'
          (t ++ MemOp.ofEvents 0 (G s.fr (s.fs ++ cs)).frame.fn (G s.fr (s.fs ++ cs)).frame.place (ev d')) q (Nat.le_refl _) (by simp [hlt])
          ⟨fun j x hj hx => by
            have hne : 0 ≠ j := by omega
            rw [Array.getElem?_setIfInBounds_ne hne, Array.getElem?_map] at hx
            obtain ⟨y, hy, rfl⟩ := Option.map_eq_some_iff.1 hx
            have hq := hL.old j y hj hy
            rw [woken_quitsD hq, hother j (by omega)]
            exact hq, fun j hj => by
            rw [hother j (by simp at hj; omega)]
            exact hL.above j (by simpa using hj)⟩
          ((hP.mono (hgrow d').1).own fun e he => evL_of_low (hev d' e he))
        exact ⟨N + 1, gs', fr, w', sl'', t', q', by simp only [runNT, hpick, hrunT]; exact hr, hs'.trans (by simp), h0', ⟨hS.1, hS.2.1.trans (hgrow d').2, hS.2.2⟩, hL', hP'⟩
      · have hq := hL.old i g hpos hi
        have hi0 : (i == 0) = false := by simp; omega
        cases hqi : q i with
        | zero => rw [hqi] at hq; rw [hq.1] at hg; cases hg
        | succ k =>
          rw [hqi] at hq
          rcases hq with ⟨hf, _⟩ | ⟨_, g', es, hm, hstp, hq'⟩
          · rw [hf] at hg; cases hg
          have hrunT := runT_crowd_go (P := P) (sl := sl') (i := i) hi (by rw [hi0]; exact hstp ((s.w.at d).at d'))
          have hsum : sumTo gs.size (upd q i k) + (k + 1) = sumTo gs.size q + k := by
            have := sumTo_upd q k id hlt
            simpa [hqi] using this
          have hother : ∀ j, j ≠ i → Deaf (t ++ MemOp.ofEvents i g.frame.fn g.frame.place es) j = Deaf t j := fun j hj =>
            Deaf_other t hj.symm _ fun op hop => by obtain ⟨e, _, rfl⟩ := Go.Conc.mem_ofEvents hop; rfl
          obtain ⟨N, gs', fr, w', sl'', t', q2, hr, hs', h0', hS, hL', hP'⟩ := ihM (sumTo gs.size (upd q i k)) (by omega) d' cs ((gs.map (woken P g g' ((s.w.at d).at d'))).setIfInBounds i g') sl' (t ++ MemOp.ofEvents i g.frame.fn g.frame.place es) (upd q i k) (by simp)
            (by
              have hne : i ≠ 0 := by omega
              rw [Array.getElem?_setIfInBounds_ne hne, Array.getElem?_map, h0]
              simp [woken_run hrun])
            ⟨fun j x hj hx => by
              by_cases hji : i = j
              · subst hji
                rw [Array.getElem?_setIfInBounds_self_of_lt (by simpa using hlt)] at hx
                obtain rfl := Option.some.inj hx
                rw [upd_same, Deaf_own]
                exact hq'
              · rw [Array.getElem?_setIfInBounds_ne hji, Array.getElem?_map] at hx
                obtain ⟨y, hy, rfl⟩ := Option.map_eq_some_iff.1 hx
                have hqj := hL.old j y hj hy
                rw [woken_quitsD hqj, upd_ne q k (Ne.symm hji), hother j (Ne.symm hji)]
                exact hqj, fun j hj => by
              rw [hother j (by simp at hj; omega)]
              exact hL.above j (by simpa using hj)⟩
            (hP.mute (by omega) hm)
          exact ⟨N + 1, gs', fr, w', sl'', t', q2, by simp only [runNT, hpick, hrunT]; exact hr, hs'.trans (by simp), h0', hS, hL', hP'⟩
/-- A call of a plain function, by its lone contract, beside leavers. -/
theorem call_beside (hP : PlainFns P F) {f : FuncId} (hf : F f = true) {args : Array Value} {w0 : World} {R : Value → World → Prop} (hp : NoPend P w0) (hC : Contract P (Frame.enter P f args .normal) w0 f R)
    (hRT : ∀ v w T d, R v w → R v (tp w T d)) (d : Nat) (cs : List Frame) (gs : Array Goroutine) (sl : Option (Nat × Nat)) (t : Trace) (q : Nat → Nat) (h0 : gs[0]? = some (G (Frame.enter P f args .normal) cs)) (hL : Leavers P t gs q)
    (hPa : Past (fun _ => False) w0.heap.size t) : Came P (StopAt P f R) cs gs (w0.at d) sl t :=
  win_beside (win_of_contract (s0 := ⟨Frame.enter P f args .normal, [], w0⟩) hP ⟨Fine.enter hP hf args, by simp, hp⟩ hC rfl hRT) _ d cs gs sl t q (Nat.le_refl _) h0 hL hPa
end
end Go.Proofs.Ytgmhdmhnedljcaa.Co

/-
  Helpers of the claims beside this text: a judgement for goroutine 0 beside leavers: from here the machine comes to a good end. Its rules: one step, a call of a plain function by its lone contract, a call by a contract of the machine, the end.
-/
namespace Go.Proofs.Ytgmhdmhnedljcaa.Co
open Go Go.Conc
open Go.ConcN (sumTo upd sumTo_upd upd_ne upd_same)
set_option linter.unusedSimpArgs false
set_option linter.unusedVariables false

/-- The machine comes to a good end. -/
def EndsWell (P : Program) (Post : Value → World → Prop) (m : Machine) (t : Trace) : Prop :=
  ∃ N last o w' t', runNT P (N + 1) m t = (.ended o w', t') ∧ runN P N m = .next last ∧ step P last = .ended o w' ∧ Good P Post last o w' t'
/-- Goroutine 0, beside leavers, comes to a good end. -/
def Run (P : Program) (Post : Value → World → Prop) (a : Goroutine) (w : World) : Prop :=
  ∀ (d : Nat) (gs : Array Goroutine) (sl : Option (Nat × Nat)) (t : Trace) (q : Nat → Nat), gs[0]? = some a → Leavers P t gs q → Past (fun _ => False) w.heap.size t → EndsWell P Post (crowd gs (w.at d) sl) t
/-- What a call says of the machine, whoever is leaving beside it. -/
def MCalls (P : Program) (f : FuncId) (args : Array Value) (w : World) (R : Value → World → Prop) : Prop :=
  ∀ (d : Nat) (cs : List Frame) (gs : Array Goroutine) (sl : Option (Nat × Nat)) (t : Trace) (q : Nat → Nat), gs[0]? = some (G (Frame.enter P f args .normal) cs) → Leavers P t gs q → Past (fun _ => False) w.heap.size t →
    ∃ (N : Nat) (gs' : Array Goroutine) (fr : Frame) (w' : World) (sl' : Option (Nat × Nat)) (t' : Trace) (q' : Nat → Nat),
      runNT P N (crowd gs (w.at d) sl) t = (.next (crowd gs' w' sl'), t') ∧ gs'[0]? = some (G fr cs) ∧ (StopAt P f R fr w' ∧ w'.tape = w.tape ∧ NoPend P w') ∧ Leavers P t' gs' q' ∧ Past (fun _ => False) w'.heap.size t'

section
variable {P : Program} {F : FuncId → Bool} {Post : Value → World → Prop} {a : Goroutine} {w : World}
theorem EndsWell.behind {m m' : Machine} {t t' : Trace} {N : Nat} (h : runNT P N m t = (.next m', t')) (k : EndsWell P Post m' t') : EndsWell P Post m t := by
  obtain ⟨M, last, o, w', t2, h1, h2, h3, h4⟩ := k
  refine ⟨N + M, last, o, w', t2, ?_, ?_, h3, h4⟩
  · rw [Nat.add_assoc, runNT_add, h]; exact h1
  · rw [runN_add, ← runNT_fst P N m t, h]; exact h2
theorem at_self (w : World) : w.at w.drawn = w := rfl
/-- One step of goroutine 0's, whichever draws the scheduler makes ahead of it. -/
theorem Run.step (hs : a.status = .running) (ga : Nat → Goroutine) (gw : Nat → World) (ge : Nat → Array Event) (h : ∀ d, stepG P true a (w.at d) = .go (ga d) (gw d) (ge d)) (hl : ∀ d, ∀ e ∈ ge d, LowL (gw d).heap.size e.loc)
    (hg : ∀ d, w.heap.size ≤ (gw d).heap.size) (k : ∀ d, Run P Post (ga d) (gw d)) : Run P Post a w := by
  have key : ∀ (M d : Nat) (gs : Array Goroutine) (sl : Option (Nat × Nat)) (t : Trace) (q : Nat → Nat), sumTo gs.size q ≤ M → gs[0]? = some a → Leavers P t gs q → Past (fun _ => False) w.heap.size t → EndsWell P Post (crowd gs (w.at d) sl) t := by
    intro M
    induction M using Nat.strongRecOn with
    | ind M ihM =>
      intro d gs sl t q hM h0 hL hP
      have haw : ∀ g ∈ gs, awake g := by
        intro g hg
        obtain ⟨i, hi, rfl⟩ := Array.mem_iff_getElem.1 hg
        rcases Nat.eq_zero_or_pos i with rfl | hpos
        · have : gs[0] = a := by simpa [Array.getElem?_eq_getElem hi] using h0
          rw [this]; exact awake_of (.inl hs)
        · exact awake_of ((hL.old i _ hpos (Array.getElem?_eq_getElem hi)).status.elim .inl fun x => .inr (.inr x))
      obtain ⟨i, g, d', sl', hi, hgr, hpick⟩ := crowd_pick (P := P) (w := w.at d) (sl := sl) haw ⟨0, _, h0, hs⟩
      have hlt : i < gs.size := (Array.getElem?_eq_some_iff.1 hi).1
      rcases Nat.eq_zero_or_pos i with rfl | hpos
      · obtain rfl : g = a := by rw [h0] at hi; exact (Option.some.inj hi).symm
        have hrunT := runT_crowd_go (P := P) (sl := sl') (i := 0) hi (show stepG P (0 == 0) g ((w.at d).at d') = _ from h d')
        have hother : ∀ j, j ≠ 0 → Deaf (t ++ MemOp.ofEvents 0 g.frame.fn g.frame.place (ge d')) j = Deaf t j := fun j hj =>
          Deaf_other t hj.symm _ fun op hop => by obtain ⟨e, _, rfl⟩ := Go.Conc.mem_ofEvents hop; rfl
        refine EndsWell.behind (N := 1) (m' := crowd ((gs.map (woken P g (ga d') (gw d'))).setIfInBounds 0 (ga d')) (gw d') sl') (t' := t ++ MemOp.ofEvents 0 g.frame.fn g.frame.place (ge d')) (by simp only [runNT, hpick, hrunT]) ?_
        refine k d' (gw d').drawn _ sl' _ q (by simp [hlt]) ⟨fun j x hj hx => ?_, fun j hj => ?_⟩ ((hP.mono (hg d')).own fun e he => evL_of_low (hl d' e he))
        · have hne : 0 ≠ j := by omega
          rw [Array.getElem?_setIfInBounds_ne hne, Array.getElem?_map] at hx
          obtain ⟨y, hy, rfl⟩ := Option.map_eq_some_iff.1 hx
          have hq := hL.old j y hj hy
          rw [woken_quitsD hq, hother j (by omega)]
          exact hq
        · rw [hother j (by simp at hj; omega)]
          exact hL.above j (by simpa using hj)
      · have hq := hL.old i g hpos hi
        have hi0 : (i == 0) = false := by simp; omega
        cases hqi : q i with
        | zero => rw [hqi] at hq; rw [hq.1] at hgr; cases hgr
        | succ n =>
          rw [hqi] at hq
          rcases hq with ⟨hf, _⟩ | ⟨_, g', es, hm, hstp, hq'⟩
          · rw [hf] at hgr; cases hgr
          have hrunT := runT_crowd_go (P := P) (sl := sl') (i := i) hi (by rw [hi0]; exact hstp ((w.at d).at d'))
          have hsum : sumTo gs.size (upd q i n) + (n + 1) = sumTo gs.size q + n := by
            have := sumTo_upd q n id hlt
            simpa [hqi] using this
          have hother : ∀ j, j ≠ i → Deaf (t ++ MemOp.ofEvents i g.frame.fn g.frame.place es) j = Deaf t j := fun j hj =>
            Deaf_other t hj.symm _ fun op hop => by obtain ⟨e, _, rfl⟩ := Go.Conc.mem_ofEvents hop; rfl
          refine EndsWell.behind (N := 1) (m' := crowd ((gs.map (woken P g g' ((w.at d).at d'))).setIfInBounds i g') ((w.at d).at d') sl') (t' := t ++ MemOp.ofEvents i g.frame.fn g.frame.place es) (by simp only [runNT, hpick, hrunT]) ?_
          refine ihM (sumTo gs.size (upd q i n)) (by omega) d' _ sl' _ (upd q i n) (by simp) ?_ ⟨fun j x hj hx => ?_, fun j hj => ?_⟩ (hP.mute (by omega) hm)
          · have hne : i ≠ 0 := by omega
            rw [Array.getElem?_setIfInBounds_ne hne, Array.getElem?_map, h0]
            simp [woken_run hs]
          · by_cases hji : i = j
            · subst hji
              rw [Array.getElem?_setIfInBounds_self_of_lt (by simpa using hlt)] at hx
              obtain rfl := Option.some.inj hx
              rw [upd_same, Deaf_own]
              exact hq'
            · rw [Array.getElem?_setIfInBounds_ne hji, Array.getElem?_map] at hx
              obtain ⟨y, hy, rfl⟩ := Option.map_eq_some_iff.1 hx
              have hqj := hL.old j y hj hy
              rw [woken_quitsD hqj, upd_ne q n (Ne.symm hji), hother j (Ne.symm hji)]
              exact hqj
          · rw [hother j (by simp at hj; omega)]
            exact hL.above j (by simpa using hj)
  exact fun d gs sl t q h0 hL hP => key _ d gs sl t q (Nat.le_refl _) h0 hL hP
/-- A step of control: it turns nothing and lists nothing. -/
theorem Run.ctl {a' : Goroutine} (hs : a.status = .running) (h : ∀ w, stepG P true a w = .go a' w) (k : Run P Post a' w) : Run P Post a w :=
  Run.step hs (fun _ => a') (fun d => w.at d) (fun _ => #[]) (fun d => h _) (fun _ => by simp) (fun _ => Nat.le_refl _) fun d d' gs sl t q h0 hL hP => k d' gs sl t q h0 hL hP
/-- A call, by a contract of the machine. -/
theorem Run.mcall {f : FuncId} {args : Array Value} {R : Value → World → Prop} {cs : List Frame} (h : MCalls P f args w R) (k : ∀ fr w', StopAt P f R fr w' → w'.tape = w.tape → NoPend P w' → Run P Post (G fr cs) w') :
    Run P Post (G (Frame.enter P f args .normal) cs) w := fun d gs sl t q h0 hL hP => by
  obtain ⟨N, gs', fr, w', sl', t', q', hr, h0', ⟨hS, hT, hNp⟩, hL', hP'⟩ := h d cs gs sl t q h0 hL hP
  exact EndsWell.behind hr (k fr w' hS hT hNp w'.drawn gs' sl' t' q' h0' hL' hP')
/-- A plain function's lone contract is one of the machine. -/
theorem mcalls_of_plain (hP : PlainFns P F) {f : FuncId} (hf : F f = true) {args : Array Value} {R : Value → World → Prop} (hp : NoPend P w) (hC : Contract P (Frame.enter P f args .normal) w f R) (hRT : ∀ v w T d, R v w → R v (tp w T d)) :
    MCalls P f args w R := fun d cs gs sl t q h0 hL hPa => by
  obtain ⟨N, gs', fr, w', sl', t', q', hr, _, h0', hS, hL', hP'⟩ := call_beside hP hf hp hC hRT d cs gs sl t q h0 hL hPa
  exact ⟨N, gs', fr, w', sl', t', q', hr, h0', hS, hL', hP'⟩
/-- The return into the caller. -/
theorem Run.back {f : FuncId} {R : Value → World → Prop} {fr c : Frame} {cs : List Frame} (hR : ∀ v w T d, R v w → R v (tp w T d)) (hS : StopAt P f R fr w)
    (k : ∀ v, R v w → Run P Post (G (c.finish v) cs) w) : Run P Post (G fr (c :: cs)) w := by
  obtain ⟨hf, v, hv, hm, hd, hk, fn, hfn, hr⟩ := hS
  have hc : Calm P (fun _ => True) (results fn fr.tmps) := calm_results fn fr.tmps
  have hrun : ∀ d, ∃ es, (results fn fr.tmps).runT P (w.at d) #[] = (.ok v (w.at d), es) ∧ ∀ e ∈ es, LowL w.heap.size e.loc := fun d => by
    obtain ⟨n, k1, k2, k3⟩ := same_run _ hc w #[]
    have hl := left_run _ hc w #[]
    have h2 : ((results fn fr.tmps).runT P w #[]).1 = .ok v w := by rw [Sem.runT_fst]; exact hr
    generalize hx : (results fn fr.tmps).runT P w #[] = x at *
    obtain ⟨x, es⟩ := x
    obtain rfl : x = .ok v w := h2
    have hn : n = 0 := by simp only [wOf] at k1; omega
    subst hn
    exact ⟨es, k3 w.tape d (fun i q hi => by omega), fun e he => (hl.evs e he).resolve_left (by simp)⟩
  obtain ⟨es, hes⟩ : ∃ es : Nat → Array Event, ∀ d, (results fn fr.tmps).runT P (w.at d) #[] = (.ok v (w.at d), es d) ∧ ∀ e ∈ es d, LowL w.heap.size e.loc := ⟨fun d => (hrun d).choose, fun d => (hrun d).choose_spec⟩
  refine Run.step rfl (fun _ => G (c.finish v) cs) (fun d => w.at d) (fun d => seen P fr.fn (es d)) (fun d => ?_) (fun d e he => (hes d).2 e (mem_seen he)) (fun _ => Nat.le_refl _) fun d d' gs sl t q h0 hL hP => k v hv d' gs sl t q h0 hL hP
  have h1 := (hes d).1
  have h2 : (results fn fr.tmps).run P (w.at d) = .ok v (w.at d) := by rw [← Sem.runT_fst (es := #[]), h1]
  have h3 : (results fn fr.tmps).events P (w.at d) #[] = es d := congrArg Prod.snd h1
  simp [G, stepG, unwind, doReturn, hm, hd, hk, hfn, h2, h3, GStep.after]
/-- The end of the run. -/
theorem Run.done (h : ∀ d, AtEnd P (fun _ => False) w.heap.size Post a (w.at d)) : Run P Post a w := fun d gs sl t q h0 hL hP => by
  obtain ⟨N, last, o, w', t', h1, h2, h3, h4⟩ := beside_ends (P := P) (Shun := fun _ => False) (B := w.heap.size) (D := fun _ _ _ => False) (Post := Post) (n := 0) (fun _ _ _ x => x.elim) h0 hL hP
    (Goes.stop fun w₁ hw => by obtain ⟨d', rfl⟩ := hw; exact h d') (w := w.at d) (sl := sl)
  exact ⟨N, last, o, w', t', h1, h2, h3, h4⟩
end
end Go.Proofs.Ytgmhdmhnedljcaa.Co

/-
  Helpers of the claims beside this text: the rules of 'Run' (Gcv) for code: control, regions, operations, calls.
-/
namespace Go.Proofs.Ytgmhdmhnedljcaa.Co
open Go Go.Conc
set_option linter.unusedSimpArgs false
set_option linter.unusedVariables false

section
variable {P : Program} {F : FuncId → Bool} {Post : Value → World → Prop} {b : Frame} {a : Act} {k : List Item} {cs : List Frame} {w : World}
theorem Run.skip (h : Run P Post (G (b.at a k) cs) w) : Run P Post (G (b.at a (.code .skip :: k)) cs) w := Run.ctl rfl (fun _ => stepG_skip) h
theorem Run.label {l : Nat} (h : Run P Post (G (b.at a k) cs) w) : Run P Post (G (b.at a (.code (.label l) :: k)) cs) w := Run.ctl rfl (fun _ => stepG_label) h
theorem Run.inBlock {id : Nat} (h : Run P Post (G (b.at a k) cs) w) : Run P Post (G (b.at a (.inBlock id :: k)) cs) w := Run.ctl rfl (fun _ => stepG_inBlock) h
theorem Run.seq {x y : Code} (h : Run P Post (G (b.at a (.code x :: .code y :: k)) cs) w) : Run P Post (G (b.at a (.code (.seq x y) :: k)) cs) w := Run.ctl rfl (fun _ => stepG_seq) h
theorem Run.cond {c : Operand} {x y : Code} {t : Bool} (e : a.eval c = .bool t) (h : Run P Post (G (b.at a (.code (if t then x else y) :: k)) cs) w) : Run P Post (G (b.at a (.code (.cond c x y) :: k)) cs) w := Run.ctl rfl (fun _ => stepG_cond e) h
theorem Run.block {id : Nat} {c : Code} (h : Run P Post (G (b.at a (.code c :: .inBlock id :: k)) cs) w) : Run P Post (G (b.at a (.code (.block id c) :: k)) cs) w := Run.ctl rfl (fun _ => stepG_block) h
theorem Run.loop {c : Code} (h : Run P Post (G (b.at a (.code c :: .inLoop c :: k)) cs) w) : Run P Post (G (b.at a (.code (.loop c) :: k)) cs) w := Run.ctl rfl (fun _ => stepG_loop) h
theorem Run.inLoop {c : Code} (h : Run P Post (G (b.at a (.code c :: .inLoop c :: k)) cs) w) : Run P Post (G (b.at a (.inLoop c :: k)) cs) w := Run.ctl rfl (fun _ => stepG_inLoop) h
theorem Run.exit {id : Nat} {k' : List Item} (e : exitTo id k = some k') (h : Run P Post (G (b.at a k') cs) w) : Run P Post (G (b.at a (.code (.exit id) :: k)) cs) w := Run.ctl rfl (fun _ => stepG_exit e) h
theorem Run.region {id : Nat} {ops : Array Oper} (h : Run P Post (G (b.at a (.inRegion ops (List.range ops.size) :: k)) cs) w) : Run P Post (G (b.at a (.code (.region id ops false) :: k)) cs) w := Run.ctl rfl (fun _ => stepG_region) h
theorem Run.regionEnd {ops : Array Oper} (h : Run P Post (G (b.at a k) cs) w) : Run P Post (G (b.at a (.inRegion ops [] :: k)) cs) w := Run.ctl rfl (fun _ => stepG_region_end) h
theorem Run.ends (h : Run P Post (G { b.at a [] with mode := .returning } cs) w) : Run P Post (G (b.at a []) cs) w := Run.ctl rfl (fun _ => stepG_end) h
theorem Run.ret (h : Run P Post (G { b.at a (.code .ret :: k) with mode := .returning } cs) w) : Run P Post (G (b.at a (.code .ret :: k)) cs) w :=
  Run.ctl rfl (fun _ => by simp [G, stepG, stepG.exec, Frame.at]) h
/-- A loop, by a measure: J is held at each round's head. -/
theorem Run.loopBy {c : Code} (J : Nat → Act → World → Prop) (h : ∀ m a w, J m a w → (∀ m' a' w', m' < m → J m' a' w' → Run P Post (G (b.at a' (.inLoop c :: k)) cs) w') → Run P Post (G (b.at a (.code c :: .inLoop c :: k)) cs) w)
    (m : Nat) (h0 : J m a w) : Run P Post (G (b.at a (.code (.loop c) :: k)) cs) w := by
  have key : ∀ m a w, J m a w → Run P Post (G (b.at a (.code c :: .inLoop c :: k)) cs) w := by
    intro m
    induction m using Nat.strongRecOn with
    | ind m ih => exact fun a w hJ => h m a w hJ fun m' a' w' hm hJ' => Run.inLoop (ih m' hm a' w' hJ')
  exact Run.loop (key m a w h0)
/-- A region that draws: in whichever order. -/
theorem Run.draw {id : Nat} {ops : Array Oper} (h : ∀ t n, Run P Post (G (b.at a (.inRegion ops (Region.schedule (P.follows .mixedOrders) ops t) :: k)) cs) (w.at n)) : Run P Post (G (b.at a (.code (.region id ops true) :: k)) cs) w := by
  have e : ∀ w1 : World, ∃ t n, (choose (.order b.fn id)).run P w1 = .ok t (w1.at n) := fun w1 => by
    by_cases hf : (Question.order b.fn id).forced
    · exact ⟨0, w1.drawn, by simp only [choose, Sem.run, hf, if_true]; rfl⟩
    · exact ⟨_, w1.drawn + 1, by simp only [choose, Sem.run, hf, Bool.false_eq_true, if_false]; rfl⟩
  obtain ⟨t, ht⟩ : ∃ t : Nat → Nat, ∀ d, ∃ n, (choose (.order b.fn id)).run P (w.at d) = .ok (t d) ((w.at d).at n) := ⟨fun d => (e (w.at d)).choose, fun d => (e (w.at d)).choose_spec⟩
  obtain ⟨n, hn⟩ : ∃ n : Nat → Nat, ∀ d, (choose (.order b.fn id)).run P (w.at d) = .ok (t d) (w.at (n d)) := ⟨fun d => (ht d).choose, fun d => (ht d).choose_spec⟩
  exact Run.step rfl (fun d => G (b.at a (.inRegion ops (Region.schedule (P.follows .mixedOrders) ops (t d)) :: k)) cs) (fun d => w.at (n d)) (fun _ => #[]) (fun d => by simp [G, stepG, stepG.exec, Frame.at, hn d]) (fun _ => by simp) (fun _ => Nat.le_refl _)
    fun d => h (t d) (n d)
/-- An operation that is not wanted. -/
theorem Run.unwanted {ops : Array Oper} {i : Nat} {rest : List Nat} {o : Oper} (ho : ops[i]? = some o) (hw : Region.wanted o (yielded ops a.tmps) = false) (h : Run P Post (G (b.at (a.put o.dst undef) (.inRegion ops rest :: k)) cs) w) :
    Run P Post (G (b.at a (.inRegion ops (i :: rest) :: k)) cs) w := by
  have hfin : (b.at a (.inRegion ops (i :: rest) :: k)).finish undef = b.at (a.put o.dst undef) (.inRegion ops rest :: k) := by rw [Frame.finish_at, ho]; rfl
  refine Run.ctl rfl (fun w => ?_) h
  rw [← hfin]
  simp [G, stepG, stepG.exec, Frame.at, ho, hw]
/-- What is asked once an operation has yielded this. -/
def uponRun (P : Program) (Post : Value → World → Prop) (b : Frame) (a : Act) (o : Oper) (ops : Array Oper) (i : Nat) (rest : List Nat) (k : List Item) (cs : List Frame) : Result Next → Prop
  | .ok (.value v) w' => NoPend P w' → Run P Post (G (b.at (a.put o.dst v) (.inRegion ops rest :: k)) cs) w'
  | .ok .skip w' => NoPend P w' → Run P Post (G (b.at (a.put o.dst undef) (.inRegion ops rest :: k)) cs) w'
  | .ok (.enter f args) w' => NoPend P w' → Run P Post (G (Frame.enter P f args .normal) (b.at a (.inRegion ops (i :: rest) :: k) :: cs)) w'
  | _ => False
/-- An operation of plain code. -/
theorem Run.op (hB : Bodied P F) {ops : Array Oper} {i : Nat} {rest : List Nat} {o : Oper} (ho : ops[i]? = some o) (hw : Region.wanted o (yielded ops a.tmps) = true) (hk : b.kind ≠ .early) (hpl : plainOp P F o.op = true) (hp : NoPend P w)
    (h : ∀ d, uponRun P Post b a o ops i rest k cs ((execOp a.eval o).run P (w.at d))) : Run P Post (G (b.at a (.inRegion ops (i :: rest) :: k)) cs) w := by
  have hk' : (b.kind == CallKind.early) = false := by simpa using hk
  have one : ∀ d, ∃ ga gw ge, stepG P true (G (b.at a (.inRegion ops (i :: rest) :: k)) cs) (w.at d) = .go ga gw ge ∧ (∀ e ∈ ge, LowL gw.heap.size e.loc) ∧ w.heap.size ≤ gw.heap.size ∧ Run P Post ga gw := fun d => by
    have hd := h d
    have hfr : ({ tmps := a.tmps, defers := a.defers } : Act) = a := rfl
    have hc : Calm P (LNext F) (execOp a.eval o) := by
      have := calm_exec hB (b.at a []) o hpl
      rwa [show (b.at a []).eval = a.eval from funext (Frame.eval_at b a [])] at this
    have hl := left_run (execOp a.eval o) hc (w.at d) #[]
    have hf := Sem.runT_fst P (execOp a.eval o) (w.at d) #[]
    have hev : ((execOp a.eval o).runT P (w.at d) #[]).2 = (execOp a.eval o).events P (w.at d) #[] := rfl
    have hpe := hl.pend hp
    have hgr := hl.grow
    have hes : ∀ e ∈ listed P b.fn a o (w.at d), LowL (wOf ((execOp a.eval o).run P (w.at d))).heap.size e.loc := fun e he => by
      have := (hl.evs e (by rw [hev]; exact mem_listed he)).resolve_left (by simp)
      rwa [hf] at this
    rw [hf] at hpe hgr
    cases hr : (execOp a.eval o).run P (w.at d) with
    | halt x w' => rw [hr] at hd; cases x <;> exact hd.elim
    | ok x w' =>
      rw [hr] at hd hes hpe hgr
      cases x with
      | value v => exact ⟨_, _, _, stepG_value ho hw hk hr, hes, hgr, hd hpe⟩
      | skip => exact ⟨_, _, _, stepG_none ho hw hk hr, hes, hgr, hd hpe⟩
      | enter f args => exact ⟨_, _, listed P b.fn a o (w.at d), by
          rw [stepG_oper ho hw]
          simp [stepG.apply, hr, G, Frame.at, hk', GStep.after, listed]
          rfl, hes, hgr, hd hpe⟩
      | _ => exact hd.elim
  exact Run.step rfl (fun d => (one d).choose) (fun d => (one d).choose_spec.choose) (fun d => (one d).choose_spec.choose_spec.choose) (fun d => (one d).choose_spec.choose_spec.choose_spec.1)
    (fun d => (one d).choose_spec.choose_spec.choose_spec.2.1) (fun d => (one d).choose_spec.choose_spec.choose_spec.2.2.1) (fun d => (one d).choose_spec.choose_spec.choose_spec.2.2.2)
/-- A call, by a contract of the machine, and the return from it. -/
theorem Run.call {ops : Array Oper} {i : Nat} {rest : List Nat} {o : Oper} (ho : ops[i]? = some o) {f : FuncId} {args : Array Value} {R : Value → World → Prop} (h : MCalls P f args w R) (hR : ∀ v w T d, R v w → R v (tp w T d))
    (k' : ∀ v w', R v w' → w'.tape = w.tape → NoPend P w' → Run P Post (G (b.at (a.put o.dst v) (.inRegion ops rest :: k)) cs) w') : Run P Post (G (Frame.enter P f args .normal) (b.at a (.inRegion ops (i :: rest) :: k) :: cs)) w :=
  Run.mcall h fun fr w' hS hT hN => Run.back hR hS fun v hv => by
    have hfin : (b.at a (.inRegion ops (i :: rest) :: k)).finish v = b.at (a.put o.dst v) (.inRegion ops rest :: k) := by rw [Frame.finish_at, ho]; rfl
    rw [hfin]
    exact k' v w' hv hT hN
end
end Go.Proofs.Ytgmhdmhnedljcaa.Co

/-
  Helpers of the claims beside this text: which functions are plain, by a check.
-/
namespace Go.Proofs.Ytgmhdmhnedljcaa.Co
open Go Go.Conc
set_option linter.unusedSimpArgs false
set_option linter.unusedVariables false

/-- One function of a list is plain, and calls none but those of the list. -/
def plainFn (P : Program) (F : FuncId → Bool) (f : FuncId) : Bool :=
  match P.funcs[f]? with
  | some fn => (match fn.body with
    | some x => plainCode P F x
    | none => false) && !(fn.name == "runtime.NumGoroutine")
  | none => false
theorem plainFns_of {P : Program} {F : FuncId → Bool} (h0 : P.follows .staticDataAhead = true) (h : ∀ f, F f = true → plainFn P F f = true) : PlainFns P F := by
  refine ⟨h0, fun f hf => ?_⟩
  have := h f hf
  unfold plainFn at this
  split at this
  · next fn hfn =>
    simp only [Bool.and_eq_true] at this
    obtain ⟨h1, h2⟩ := this
    split at h1
    · next x hx => exact ⟨fn, x, hfn, hx, h1, by simpa using h2⟩
    · cases h1
  · cases this
/-- .. of a list of numbers. -/
theorem plainFns_list {P : Program} (l : List FuncId) (h0 : P.follows .staticDataAhead = true) (h : (l.all fun f => plainFn P (l.contains ·) f) = true) : PlainFns P (l.contains ·) :=
  plainFns_of h0 fun f hf => List.all_eq_true.1 h f (by simpa using hf)
end Go.Proofs.Ytgmhdmhnedljcaa.Co
