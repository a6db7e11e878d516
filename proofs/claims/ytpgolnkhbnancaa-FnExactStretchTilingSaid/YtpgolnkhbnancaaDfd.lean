/-
  Helpers of the claims beside this text: the program's maps: differences counted, numbers seen.
-/
import Derived.Test.YtpgolnkhbnancaaRhy
import Derived.Maps.OwnOps
import Derived.Maps.OwnSet
import Derived.Maps.RangeWalk
import Derived.DeepKeys4
import Derived.WideKeyEntry
import Derived.Test.YtpgolnkhbnancaaIvl
import Derived.Test.YtpgolnkhbnancaaItm
namespace Go.Proofs.Ytpgolnkhbnancaa.Rhy
open Go.RowKit Go.Maps
set_option linter.unusedVariables false
set_option linter.unusedSimpArgs false
set_option maxRecDepth 100000

/-! ### a struct of two ints as a key -/
/-- A difference as a value. -/
def difV (n : Int) (p : Nat) : Value := .agg #[.int .i64 n, .int .i64 p]
theorem laidOutM : laidOutB Try.prog = true := by kernel_rfl
theorem rowD : (81 : TypeId) < Try.prog.types.size := of_decide_eq_true (by kernel_rfl)
theorem sizeD : 1 ≤ Try.prog.types.size := of_decide_eq_true (by kernel_rfl)
theorem wideD : (match Try.prog.underlying 81 with | some (.array _ _) | some (.struct _) => true | _ => false) = true := by kernel_rfl
theorem lawK : WideMaps.KeyLaw Try.prog 81 := deep_law_laid laidOutM (m := 2) (by omega) rowD (by kernel_rfl) wideD
theorem lawD : Keyed Try.prog 81 := Keyed.of_law lawK
theorem lawN : Keyed Try.prog 3 := int_keyed Try.underlying3
theorem zeroN (w : World) : (zeroValue 3).run Try.prog w = .ok (.int .i64 0) w := by kernel_rfl
theorem zeroB (w : World) : (zeroValue 4).run Try.prog w = .ok (.bool false) w := by kernel_rfl
theorem wfi {a : Int} (h : -9223372036854775808 ≤ a ∧ a ≤ 9223372036854775807) : (Lit.int .i64 a).wf = true := WalkArith.wf_i64 h

theorem lits_int {P : Program} {d : Nat} {e : TypeId} (he : P.underlying e = some (.int .i64)) {x : Int} (wx : (Lit.int .i64 x).wf = true) : P.keyLits (d + 1) e [.int .i64 x] = some [.int .i64 x] := by
  unfold Program.keyLits
  rw [he]
  simp only [wx, and_self, if_true]
theorem lits_pair {P : Program} {d : Nat} {k e : TypeId} {f g : Field} (hk : P.underlying k = some (.struct #[f, g])) (he : P.underlying e = some (.int .i64)) (ck : P.cellsOf k = 2) (ce : P.cellsOf e = 1)
    (hf : f.type = e ∧ f.offset = 0 ∧ (f.name != "_") = true) (hg : g.type = e ∧ g.offset = 1 ∧ (g.name != "_") = true) {x y : Int} (wx : (Lit.int .i64 x).wf = true) (wy : (Lit.int .i64 y).wf = true) :
    P.keyLits (d + 1 + 1) k [.int .i64 x, .int .i64 y] = some [.int .i64 x, .int .i64 y] := by
  obtain ⟨f1, f2, f3⟩ := hf
  obtain ⟨g1, g2, g3⟩ := hg
  have e1 : P.keyLits (d + 1) e [.int .i64 x] = some [.int .i64 x] := lits_int he wx
  have e2 : P.keyLits (d + 1) e [.int .i64 y] = some [.int .i64 y] := lits_int he wy
  unfold Program.keyLits
  rw [hk]
  simp [ck, ce, f1, f2, f3, g1, g2, g3, e1, e2]
theorem keyD_ex (n : Int) (p : Nat) (hn : 0 ≤ n ∧ n ≤ 1000) (hp : p ≤ 1000) : ∃ l, keyOf Try.prog 81 (difV n p) = some l := by
  have h1 : (Lit.int .i64 n).wf = true := wfi ⟨by omega, by omega⟩
  have h2 : (Lit.int .i64 (p : Int)).wf = true := wfi ⟨by omega, by omega⟩
  have hk : Try.prog.keyType 81 = true := by kernel_rfl
  have hc : Try.prog.cellsOf 81 = 2 := by kernel_rfl
  have hc3 : Try.prog.cellsOf 3 = 1 := by kernel_rfl
  have hu := Try.underlying81
  have hu3 := Try.underlying3
  have hf : (difV n p).formed Try.prog 81 = true := by simp [difV, Value.formed, hu, hc]
  obtain ⟨m, hs⟩ : ∃ m, Try.prog.types.size + 1 = m + 1 + 1 := ⟨Try.prog.types.size - 1, by have := sizeD; omega⟩
  have hl := lits_pair (d := m) hu hu3 hc hc3 ⟨rfl, rfl, by decide⟩ ⟨rfl, rfl, by decide⟩ h1 h2
  unfold keyOf
  rw [hu]
  simp only [hk, hf, Bool.and_self, if_true]
  rw [hs, show (difV n p).cells.toList = [.int .i64 n, .int .i64 p] from rfl, hl]
  exact ⟨_, rfl⟩
/-- What the difference p reads as. -/
noncomputable def kyD (n : Int) (p : Nat) : Lit := (keyOf Try.prog 81 (difV n p)).getD (.bool false)
theorem kyD_is {n : Int} {p : Nat} (hn : 0 ≤ n ∧ n ≤ 1000) (hp : p ≤ 1000) : keyOf Try.prog 81 (difV n p) = some (kyD n p) := by
  obtain ⟨l, h⟩ := keyD_ex n p hn hp
  unfold kyD
  rw [h]
  rfl
theorem kyD_key {n : Int} {p : Nat} (hn : 0 ≤ n ∧ n ≤ 1000) (hp : p ≤ 1000) : WideAt.IsKeyLit (kyD n p) := lawD.key (kyD_is hn hp)
theorem kyD_inj {n : Int} {p q : Nat} (hn : 0 ≤ n ∧ n ≤ 1000) (hp : p ≤ 1000) (hq : q ≤ 1000) (h : kyD n p = kyD n q) : p = q := by
  have h1 := kyD_is hn hp
  have h2 := kyD_is hn hq
  rw [← h] at h2
  have h3 := lawD.inj h1 h2
  simp [difV] at h3
  omega
theorem kyD_same {n : Int} {p q : Nat} (hn : 0 ≤ n ∧ n ≤ 1000) (hp : p ≤ 1000) (hq : q ≤ 1000) : (kyD n p).sameKey (kyD n q) = decide (p = q) := by
  by_cases h : p = q
  · subst h
    rw [WideAt.sameKey_self (kyD_key hn hp)]
    simp
  · rw [sameKey_ne (fun e => h (kyD_inj hn hp hq e))]
    simp [h]

/-- The map in block b counts the differences below N: f of each. -/
def Cnt (n : Int) (w : World) (b m z N : Nat) (f : Nat → Nat) : Prop :=
  ∃ D : DataW Unit, w.ownsMap Try.prog 81 (plainElem Try.prog 3) b m D ∧
    (∀ p, p < N → D.atKey (kyD n p) (.lit (.int .i64 0)) = .lit (.int .i64 (f p))) ∧ (∀ kl, Maps.has D kl = true → ∃ p, (z ≤ p ∧ p < N) ∧ kl = kyD n p)
theorem Cnt.lt {n : Int} {w : World} {b m z N : Nat} {f : Nat → Nat} (h : Cnt n w b m z N f) : b < w.heap.size := by obtain ⟨D, h, _⟩ := h; exact h.lt
theorem Cnt.kept {n : Int} {w w' : World} {b m z N : Nat} {f : Nat → Nat} (h : Cnt n w b m z N f) (hg : ∃ row, w.grownBy w' row ∧ some b ≠ row) : Cnt n w' b m z N f := by
  obtain ⟨D, h, h2⟩ := h
  obtain ⟨row, hg, hne⟩ := hg
  exact ⟨D, h.kept hg hne, h2⟩
theorem Cnt.below {n : Int} {w w' : World} {b m z N : Nat} {f : Nat → Nat} (h : Cnt n w b m z N f) (hb : Below w.heap.size w w') : Cnt n w' b m z N f := h.kept ⟨none, grown_of_below hb none, by simp⟩
theorem Cnt.set {n : Int} {w : World} {b m z N : Nat} {f : Nat → Nat} (h : Cnt n w b m z N f) {g : Nat} (hg : g ≠ b) (j : Nat) (v : Value) : Cnt n (w.setCell ⟨g, j, none⟩ v) b m z N f := by
  obtain ⟨D, h, h2⟩ := h
  exact ⟨D, h.setCell (a := ⟨g, j, none⟩) (fun e => hg e.symm) _, h2⟩
theorem Cnt.made (n : Int) (w : World) (N : Nat) : Cnt n (w.alloc (.map #[] 0)) w.heap.size 0 0 N (fun _ => 0) :=
  ⟨.map [], World.ownsMap_made _ _ _ _, fun p _ => atKey_of_not_has (by rfl) _, fun kl h => by cases h⟩
theorem Cnt.mono {n : Int} {w : World} {b m m' z N : Nat} {f : Nat → Nat} (h : Cnt n w b m z N f) (hm : m ≤ m') : Cnt n w b m' z N f := by
  obtain ⟨D, h, h2⟩ := h
  exact ⟨D, h.mono hm, h2⟩
/-- One more. -/
def upd (f : Nat → Nat) (p c : Nat) (q : Nat) : Nat := if q = p then c else f q
theorem put_cnt {n : Int} {z N p c : Nat} {f : Nat → Nat} {D : DataW Unit} (hn : 0 ≤ n ∧ n ≤ 1000) (hN : N ≤ 1000) (hzp : z ≤ p) (hp : p < N) (hm : IsMap D)
    (h1 : ∀ p, p < N → D.atKey (kyD n p) (.lit (.int .i64 0)) = .lit (.int .i64 (f p))) (h2 : ∀ kl, Maps.has D kl = true → ∃ p, (z ≤ p ∧ p < N) ∧ kl = kyD n p) :
    (∀ q, q < N → (D.put (kyD n p) (.lit (.int .i64 (c : Int)))).atKey (kyD n q) (.lit (.int .i64 0)) = .lit (.int .i64 (upd f p c q))) ∧ (∀ kl, Maps.has (D.put (kyD n p) (.lit (.int .i64 (c : Int)))) kl = true → ∃ p, (z ≤ p ∧ p < N) ∧ kl = kyD n p) := by
  constructor
  · intro q hq
    by_cases e : q = p
    · subst e
      rw [atKey_put_same hm (kyD_key hn (by omega))]
      simp [upd]
    · rw [atKey_put_other (fun e2 => e (kyD_inj hn (by omega) (by omega) e2)), h1 q hq]
      simp [upd, e]
  · intro kl h
    by_cases e : kl = kyD n p
    · exact ⟨p, ⟨hzp, hp⟩, e⟩
    · rw [has_put_other e] at h
      exact h2 kl h
theorem del_cnt {n : Int} {N : Nat} {f : Nat → Nat} {D : DataW Unit} (hn : 0 ≤ n ∧ n ≤ 1000) (hN : N ≤ 1000) (hp : 0 < N)
    (h1 : ∀ p, p < N → D.atKey (kyD n p) (.lit (.int .i64 0)) = .lit (.int .i64 (f p))) (h2 : ∀ kl, Maps.has D kl = true → ∃ p, (0 ≤ p ∧ p < N) ∧ kl = kyD n p) :
    (∀ q, q < N → (D.del (kyD n 0)).atKey (kyD n q) (.lit (.int .i64 0)) = .lit (.int .i64 (upd f 0 0 q))) ∧ (∀ kl, Maps.has (D.del (kyD n 0)) kl = true → ∃ p, (1 ≤ p ∧ p < N) ∧ kl = kyD n p) := by
  constructor
  · intro q hq
    by_cases e : q = 0
    · subst e
      rw [atKey_del_same]
      simp [upd]
    · rw [atKey_del_other (fun e2 => e (kyD_inj hn (by omega) (by omega) e2)), h1 q hq]
      simp [upd, e]
  · intro kl h
    by_cases e : kl = kyD n 0
    · rw [e, has_del_same] at h
      cases h
    · rw [has_del_other e] at h
      obtain ⟨p, q, r⟩ := h2 kl h
      refine ⟨p, ⟨?_, q.2⟩, r⟩
      have : p ≠ 0 := fun e2 => e (by rw [r, e2])
      omega

/-! ### m[k]++ -/
theorem lookup_cnt {n : Int} {w : World} {b m z N p : Nat} {f : Nat → Nat} {t : TypeId} (ht : Try.prog.underlying t = some (.map 81 3)) (hn : 0 ≤ n ∧ n ≤ 1000) (hN : N ≤ 1000) (hp : p < N) (h : Cnt n w b m z N f) :
    (Instr.lookup t (.map (some b)) (difV n p) false).run Try.prog w = .ok (.int .i64 (f p)) w := by
  obtain ⟨D, hown, h1, h2⟩ := h
  obtain ⟨c, hrun, hat, _⟩ := hown.lookup_int lawD ht Try.underlying3 (zeroN w) (kyD_is hn (show p ≤ 1000 by omega))
  rw [h1 p hp] at hat
  have hat : (f p : Int) = c := by injection hat with e1; injection e1
  rw [hat]
  exact hrun
theorem setBlock_inj {w : World} {b : Nat} {o o' : Obj} (hb : b < w.heap.size) (h : ChangeMaps.setBlock w b o = ChangeMaps.setBlock w b o') : o = o' := by
  have h1 : (ChangeMaps.setBlock w b o).heap[b]? = (ChangeMaps.setBlock w b o').heap[b]? := by rw [h]
  simpa [ChangeMaps.setBlock, hb] using h1
theorem ownsMap_same {H : Type} {P : Program} {k : TypeId} {R : Value → Option (DataW H × List MemPlace)} {w w' : World} {b n : Nat} {D : DataW H} (h : w.ownsMap P k R b n D) (e : w'.heap[b]? = w.heap[b]?) : w'.ownsMap P k R b n D := by
  obtain ⟨es, clock, hb, r⟩ := h
  exact ⟨es, clock, e.trans hb, r⟩
theorem upd_self {f : Nat → Nat} {p : Nat} (h : f p = 0) : upd f p 0 = f := by
  funext q
  unfold upd
  split
  · rename_i e; rw [e, h]
  · rfl
theorem entry_cnt {n : Int} {w : World} {b m z N p : Nat} {f : Nat → Nat} {t : TypeId} (ht : Try.prog.underlying t = some (.map 81 3)) (hn : 0 ≤ n ∧ n ≤ 1000) (hN : N ≤ 1000) (hmm : m ≤ 1000000) (hzp : z ≤ p) (hp : p < N) (h : Cnt n w b m z N f) :
    ∃ v0 st w1, (Instr.mapEntry t (.map (some b)) (difV n p)).run Try.prog w = .ok (.tuple #[v0, .int .i64 st]) w1 ∧ Cnt n w1 b (m + 1) z N f ∧ w.grownBy w1 (some b) ∧
      ∀ (w2 : World) (c : Nat), c ≤ 1000000 → w2.heap[b]? = w1.heap[b]? → ∃ w3, (Instr.entryStore t (.map (some b)) (.int .i64 st) (.int .i64 c)).run Try.prog w2 = .ok () w3 ∧ Cnt n w3 b (m + 1) z N (upd f p c) ∧ w2.grownBy w3 (some b) := by
  have hkey := kyD_is hn (show p ≤ 1000 by omega)
  have hlk := lookup_cnt ht hn hN hp h
  obtain ⟨D, hown, h1, h2⟩ := h
  have hown0 := hown
  obtain ⟨es, clock, hb, F, hs, hD⟩ := hown
  have hbl := hown0.lt
  obtain ⟨v0, st, es1, clock1, hrun, hv, hst⟩ := WideElems.entry_then_store lawK ht (z := .int .i64 0) zeroN hb F hkey
  have hg : ∀ (W : World) (o : Obj), W.grownBy (ChangeMaps.setBlock W b o) (some b) := fun W o => ⟨rfl, rfl, rfl, by simp [ChangeMaps.setBlock], fun i _ hi => by
    have hne : b ≠ i := fun e => hi (by rw [e])
    simp [ChangeMaps.setBlock, hne]⟩
  refine ⟨v0, st, _, hrun, ?_, hg _ _, ?_⟩
  · rcases lawK.find w hkey es.toList F.keys with ⟨q1, q2⟩ | ⟨j, e0, q1, q2, q3⟩
    · have hr : (Instr.mapEntry t (.map (some b)) (difV n p)).run Try.prog w = .ok (.tuple #[.int .i64 0, goInt clock]) (ChangeMaps.setBlock w b (.map (es.push ⟨difV n p, .int .i64 0, clock⟩) (clock + 1))) := by
        simp [Instr.mapEntry, run_underlying ht, MapKept.run_getObj_map hb, lawK.check w false hkey, q1, zeroN, MapKept.run_setObj_map _ hb, Result.andThen, ChangeMaps.setBlock]
      have hu : (Instr.mapUpdate t (.map (some b)) (difV n p) (.int .i64 0)).run Try.prog w = .ok () (ChangeMaps.setBlock w b (.map (es.push ⟨difV n p, .int .i64 0, clock⟩) (clock + 1))) := by
        simp [Instr.mapUpdate, run_underlying ht, MapKept.run_getObj_map hb, lawK.check w false hkey, q1, MapKept.run_setObj_map _ hb, Result.andThen, ChangeMaps.setBlock]
      have hl : (Instr.lookup t (.map (some b)) (difV n p) false).run Try.prog w = .ok (.int .i64 0) w := by
        simp [Instr.lookup, run_underlying ht, MapKept.run_getObj_map hb, lawK.check w es.isEmpty hkey, q1, zeroN, Result.andThen]
      have hf0 : f p = 0 := by
        rw [hl] at hlk
        injection hlk with e1 _
        injection e1 with _ e2
        omega
      rw [hrun] at hr
      injection hr with e1 e2
      obtain ⟨w', hrun', hown', _⟩ := hown0.update lawD ht (show m < maxLen by unfold maxLen; omega) hkey (plainElem_int Try.underlying3 (wfi (a := 0) (by omega)))
      rw [hu] at hrun'
      injection hrun' with _ e3
      have h3 := put_cnt (c := 0) hn hN hzp hp (hown0.tidy lawD).isMap h1 h2
      rw [upd_self hf0] at h3
      rw [e2, e3]
      exact ⟨_, hown', h3⟩
    · have hj : es[j]? = some e0 := by simpa using q2
      have hsame : es.modify j (fun e => { e with key := difV n p }) = es := by
        apply Array.ext'
        rw [Array.toList_modify, ChangeMaps.modify_eq_set _ _ _ _ q2]
        have : ({ e0 with key := difV n p } : MapEntry) = e0 := by rw [← q3]
        rw [this]
        exact WideElems.set_self _ _ _ q2
      have hr : ∃ v st, (Instr.mapEntry t (.map (some b)) (difV n p)).run Try.prog w = .ok (.tuple #[v, st]) (ChangeMaps.setBlock w b (.map es clock)) := by
        refine ⟨e0.val, goInt e0.born, ?_⟩
        simp [Instr.mapEntry, run_underlying ht, MapKept.run_getObj_map hb, lawK.check w false hkey, q1, hj, q3, lawK.stays w hkey, hsame, MapKept.run_setObj_map _ hb, Result.andThen, ChangeMaps.setBlock]
      obtain ⟨v, st', hr⟩ := hr
      rw [hrun] at hr
      injection hr with e1 e2
      rw [e2]
      refine ⟨D, (ownsMap_same hown0 ?_).mono (Nat.le_succ _), h1, h2⟩
      rw [hb]
      simp [ChangeMaps.setBlock, hbl]
  · intro w2 c hc he
    have hb1 : (ChangeMaps.setBlock w b (.map es1 clock1)).heap[b]? = some (.map es1 clock1) := by simp [ChangeMaps.setBlock, hbl]
    obtain ⟨es', clock', hr3, hr4⟩ := hst w2 (.int .i64 c) (he.trans hb1)
    obtain ⟨w', hrun', hown', _⟩ := hown0.update lawD ht (show m < maxLen by unfold maxLen; omega) hkey (plainElem_int Try.underlying3 (wfi (a := (c : Int)) (by omega)))
    rw [hr4] at hrun'
    injection hrun' with _ e3
    refine ⟨_, hr3, ⟨_, ownsMap_same hown' ?_, put_cnt hn hN hzp hp (hown0.tidy lawD).isMap h1 h2⟩, hg _ _⟩
    have hb2 : b < w2.heap.size := by
      have := he.trans hb1
      exact (Array.getElem?_eq_some_iff.1 this).1
    rw [← e3]
    simp [ChangeMaps.setBlock, hbl, hb2]

/-! ### a range over such a map -/
/-- Under way: r the iterator's block, lf p: the difference p is still to come. -/
def Rng (n : Int) (w : World) (b r m z N : Nat) (f : Nat → Nat) (lf : Nat → Bool) (cnt : Nat) : Prop :=
  ∃ (D : DataW Unit) (left : Lit → Bool), w.ranges Try.prog 81 (plainElem Try.prog 3) b r m D left cnt ∧
    (∀ p, p < N → D.atKey (kyD n p) (.lit (.int .i64 0)) = .lit (.int .i64 (f p))) ∧ (∀ kl, Maps.has D kl = true → ∃ p, (z ≤ p ∧ p < N) ∧ kl = kyD n p) ∧ (∀ p, p < N → left (kyD n p) = lf p)
theorem Rng.left_eq {n : Int} {w : World} {b r m z N : Nat} {f : Nat → Nat} {lf : Nat → Bool} {cnt : Nat} (h : Rng n w b r m z N f lf cnt) : w.rangeLeft b r = cnt := by
  obtain ⟨D, left, h, _⟩ := h; exact h.left_eq
theorem Rng.kept {n : Int} {w w' : World} {b r m z N : Nat} {f : Nat → Nat} {lf : Nat → Bool} {cnt : Nat} (h : Rng n w b r m z N f lf cnt) {row : Option Nat} (hg : w.grownBy w' row) (hb : some b ≠ row) (hr : some r ≠ row) : Rng n w' b r m z N f lf cnt := by
  obtain ⟨D, left, h, h2⟩ := h
  exact ⟨D, left, h.kept hg hb hr, h2⟩
theorem Rng.below {n : Int} {w w' : World} {b r m z N : Nat} {f : Nat → Nat} {lf : Nat → Bool} {cnt : Nat} (h : Rng n w b r m z N f lf cnt) (hb : Below w.heap.size w w') : Rng n w' b r m z N f lf cnt := h.kept (grown_of_below hb none) (by simp) (by simp)
theorem Rng.lt {n : Int} {w : World} {b r m z N : Nat} {f : Nat → Nat} {lf : Nat → Bool} {cnt : Nat} (h : Rng n w b r m z N f lf cnt) : b < w.heap.size ∧ r < w.heap.size ∧ r ≠ b := by
  obtain ⟨D, left, h, _⟩ := h; exact ⟨h.owns.lt, h.lt, h.ne⟩

section
variable (w : World) {ops : Array Oper} {rest : List Oper} {o : Oper} {a : Act} {Q : Exit → Act → World → Prop}
/-- 'range m'. -/
theorem wpList_range_cnt (hg : o.guard = none) (x : Operand) (t : TypeId) (hop : o.op = Op.range t x) (ht : Try.prog.underlying t = some (.map 81 3)) (n : Int) (b m z N : Nat) (f : Nat → Nat)
    (hm : a.eval x = .map (some b)) (hc : Cnt n w b m z N f)
    (hK : ∀ w' lf cnt, Rng n w' b w.heap.size m z N f lf cnt → (∀ p, p < N → lf p = false → f p = 0) → w.grownBy w' none → w'.heap.size = w.heap.size + 1 → wpList Try.prog ops Q rest (a.put o.dst (.pointer (some ⟨w.heap.size, 0, none⟩))) w') :
    wpList Try.prog ops Q (o :: rest) a w := by
  obtain ⟨D, hown, h1, h2⟩ := hc
  refine wpList_range_own w hg x t hop _ _ lawD ht _ b m D hm hown fun w' hr hgr hsz => ?_
  refine hK w' (fun p => Maps.has D (kyD n p)) _ ⟨D, _, hr, h1, h2, fun p _ => rfl⟩ (fun p hp hf => ?_) hgr hsz
  have h3 := h1 p hp
  rw [atKey_of_not_has hf] at h3
  have h4 : (0 : Int) = (f p : Int) := by injection h3 with e1; injection e1
  omega
/-- One step of it. -/
theorem wpList_next_cnt (hg : o.guard = none) (it : Operand) (hop : o.op = Op.next it false) (n : Int) (hn : 0 ≤ n ∧ n ≤ 1000) (b r m z N : Nat) (hN : N ≤ 1000) (f : Nat → Nat) (lf : Nat → Bool) (cnt : Nat)
    (hit : a.eval it = .pointer (some ⟨r, 0, none⟩)) (h : Rng n w b r m z N f lf cnt)
    (hDone : (∀ p, p < N → lf p = false) → wpList Try.prog ops Q rest (a.put o.dst (.tuple #[.bool false])) w)
    (hMore : ∀ (p : Nat) (w' : World) (cnt' : Nat), z ≤ p → p < N → lf p = true → Rng n w' b r m z N f (fun q => lf q && !decide (q = p)) cnt' → cnt' < cnt → w.grownBy w' (some r) → w'.heap.size = w.heap.size →
      (Instr.entry (.pointer (some ⟨r, 0, none⟩))).run Try.prog w' = .ok (.tuple #[difV n p, .int .i64 (f p)]) w' → wpList Try.prog ops Q rest (a.put o.dst (.tuple #[.bool true, difV n p, .int .i64 (f p)])) w') :
    wpList Try.prog ops Q (o :: rest) a w := by
  obtain ⟨D, left, h, h1, h2, h3⟩ := h
  refine wpList_plain hg fun K' hK' => ?_
  unfold Oper.wp
  rcases h.next lawD o.type with ⟨h0, hl, hrun⟩ | ⟨key, v, kl, y, w', cnt', hkey, hlk, hv, hat, hrun, hrg, hlt, hgr, hsz, hen⟩
  · simp [execOp, hop, hit, hrun, Result.andThen]
    exact hK' _ _ (hDone fun p hp => by rw [← h3 p hp, hl])
  · obtain ⟨p, ⟨hzp, hp⟩, rfl⟩ := h2 kl (has_true_of_atKey hat)
    obtain rfl : key = difV n p := lawD.inj hkey (kyD_is hn (by omega))
    obtain ⟨c, rfl, hc, _⟩ := plainElem_int_inv Try.underlying3 hv
    obtain rfl : c = (f p : Int) := by
      have h4 := h1 p hp
      rw [hat, hc] at h4
      injection h4 with e1; injection e1
    simp [execOp, hop, hit, hrun, Result.andThen]
    refine hK' _ _ (hMore p w' cnt' hzp hp (by rw [← h3 p hp]; exact hlk) ⟨D, _, hrg, h1, h2, fun q hq => ?_⟩ hlt hgr hsz hen)
    simp only [h3 q hq, kyD_same hn (show q ≤ 1000 by omega) (show p ≤ 1000 by omega)]
/-- 'm[k]'. -/
theorem wpList_lookup_cnt (hg : o.guard = none) (x y : Operand) (t : TypeId) (hop : o.op = Op.lookup t x y false) (ht : Try.prog.underlying t = some (.map 81 3)) (n : Int) (hn : 0 ≤ n ∧ n ≤ 1000) (b m z N : Nat) (hN : N ≤ 1000) (f : Nat → Nat) (p : Nat) (hp : p < N)
    (hm : a.eval x = .map (some b)) (hc : Cnt n w b m z N f) (hx : a.eval y = difV n p) (hK : wpList Try.prog ops Q rest (a.put o.dst (.int .i64 (f p))) w) : wpList Try.prog ops Q (o :: rest) a w := by
  obtain ⟨D, hown, h1, h2⟩ := hc
  refine wpList_lookup_own_int w hg x y t hop _ _ .i64 lawD ht Try.underlying3 (zeroN _) b m D hm hown _ _ hx (kyD_is hn (by omega)) fun c hat _ => ?_
  rw [h1 p hp] at hat
  obtain rfl : (f p : Int) = c := by injection hat with e1; injection e1
  exact hK
/-- 'm[k] = c'. -/
theorem wpList_store_cnt (hg : o.guard = none) (x y v : Operand) (t : TypeId) (hop : o.op = Op.mapUpdate t x y v) (ht : Try.prog.underlying t = some (.map 81 3)) (n : Int) (hn : 0 ≤ n ∧ n ≤ 1000) (b m z N : Nat) (hN : N ≤ 1000) (hmm : m ≤ 1000000) (f : Nat → Nat) (p : Nat) (hzp : z ≤ p) (hp : p < N) (c : Nat) (hcb : c ≤ 1000000)
    (hm : a.eval x = .map (some b)) (hc : Cnt n w b m z N f) (hx : a.eval y = difV n p) (hv : a.eval v = .int .i64 c) (hK : ∀ w', Cnt n w' b (m + 1) z N (upd f p c) → w.grownBy w' (some b) → wpList Try.prog ops Q rest (a.put o.dst undef) w') : wpList Try.prog ops Q (o :: rest) a w := by
  obtain ⟨D, hown, h1, h2⟩ := hc
  refine wpList_mapUpdate_own w hg x y v t hop _ _ lawD ht _ b m D hm hown (by unfold maxLen; omega) _ _ _ hx hv (kyD_is hn (by omega)) _ [] (plainElem_int Try.underlying3 (wfi (by omega))) fun w' hown' hgr => ?_
  have h3 := put_cnt (c := c) hn hN hzp hp (hown.tidy lawD).isMap h1 h2
  exact hK w' ⟨_, hown', h3⟩ hgr
/-- 'delete(m, k)'. -/
theorem wpList_delete_cnt (hg : o.guard = none) (x y : Operand) (t : TypeId) (hop : o.op = Op.call { callee := Callee.builtin Builtin.delete, args := #[x, y], argTypes := #[t, 81] }) (ht : Try.prog.underlying t = some (.map 81 3)) (n : Int) (hn : 0 ≤ n ∧ n ≤ 1000) (b m N : Nat) (hN : N ≤ 1000) (f : Nat → Nat) (hp : 0 < N)
    (hm : a.eval x = .map (some b)) (hc : Cnt n w b m 0 N f) (hx : a.eval y = difV n 0) (hK : ∀ w', Cnt n w' b m 1 N (upd f 0 0) → w.grownBy w' (some b) → wpList Try.prog ops Q rest (a.put o.dst (.tuple #[])) w') : wpList Try.prog ops Q (o :: rest) a w := by
  obtain ⟨D, hown, h1, h2⟩ := hc
  refine wpList_delete_own w hg x y t _ hop _ lawD ht _ b m D hm hown _ _ hx (kyD_is hn (by omega)) fun w' hown' hgr => ?_
  exact hK w' ⟨_, hown', del_cnt hn hN hp h1 h2⟩ hgr.grown
end

/-! ### numbers seen: map[int]bool -/
/-- The map in block b holds true at the numbers of L, nothing else. -/
def Seen (w : World) (b m : Nat) (L : List Int) : Prop :=
  ∃ D : DataW Unit, w.ownsMap Try.prog 3 (plainElem Try.prog 4) b m D ∧ ∀ z : Int, D.atKey (.int .i64 z) (.lit (.bool false)) = .lit (.bool (decide (z ∈ L)))
theorem Seen.made (w : World) : Seen (w.alloc (.map #[] 0)) w.heap.size 0 [] := ⟨.map [], World.ownsMap_made _ _ _ _, fun z => by rw [atKey_of_not_has (by rfl)]; simp⟩
theorem Seen.lt {w : World} {b m : Nat} {L : List Int} (h : Seen w b m L) : b < w.heap.size := by obtain ⟨D, h, _⟩ := h; exact h.lt
theorem Seen.kept {w w' : World} {b m : Nat} {L : List Int} (h : Seen w b m L) {row : Option Nat} (hg : w.grownBy w' row) (hne : some b ≠ row) : Seen w' b m L := by
  obtain ⟨D, h, h2⟩ := h
  exact ⟨D, h.kept hg hne, h2⟩
theorem Seen.below {w w' : World} {b m : Nat} {L : List Int} (h : Seen w b m L) (hb : Below w.heap.size w w') : Seen w' b m L := h.kept (grown_of_below hb none) (by simp)
theorem plainElem_bool_inv {H : Type} {P : Program} {e : TypeId} (he : P.underlying e = some .bool) {v : Value} {z : DataW H × List MemPlace} (h : plainElem P e v = some z) : ∃ x, v = .bool x ∧ z = (.lit (.bool x), []) := by
  unfold plainElem at h
  rw [he] at h
  cases v <;> simp at h
  exact ⟨_, rfl, h.symm⟩
section
variable (w : World) {ops : Array Oper} {rest : List Oper} {o : Oper} {a : Act} {Q : Exit → Act → World → Prop}
theorem wpList_lookup_seen (hg : o.guard = none) (x y : Operand) (t : TypeId) (hop : o.op = Op.lookup t x y false) (ht : Try.prog.underlying t = some (.map 3 4)) (b m : Nat) (L : List Int) (z : Int) (hz : -9223372036854775808 ≤ z ∧ z ≤ 9223372036854775807)
    (hm : a.eval x = .map (some b)) (hc : Seen w b m L) (hx : a.eval y = .int .i64 z) (hK : wpList Try.prog ops Q rest (a.put o.dst (.bool (decide (z ∈ L)))) w) : wpList Try.prog ops Q (o :: rest) a w := by
  obtain ⟨D, hown, h1⟩ := hc
  refine wpList_plain hg fun K' hK' => ?_
  obtain ⟨v, ps, hrun, hv⟩ := hown.lookup lawN ht (zeroB w) (plainElem_bool Try.underlying4 false) (keyOf_int_mk Try.underlying3 (wfi hz))
  rw [h1 z] at hv
  obtain ⟨x', rfl, hx'⟩ := plainElem_bool_inv Try.underlying4 hv
  obtain rfl : decide (z ∈ L) = x' := by
    injection hx' with e1 _; injection e1 with e2; injection e2
  unfold Oper.wp
  simp [execOp, hop, hm, hx, hrun, Result.andThen]
  exact hK' _ _ hK
theorem wpList_store_seen (hg : o.guard = none) (x y v : Operand) (t : TypeId) (hop : o.op = Op.mapUpdate t x y v) (ht : Try.prog.underlying t = some (.map 3 4)) (b m : Nat) (hmm : m ≤ 1000000) (L : List Int) (z : Int) (hz : -9223372036854775808 ≤ z ∧ z ≤ 9223372036854775807)
    (hm : a.eval x = .map (some b)) (hc : Seen w b m L) (hx : a.eval y = .int .i64 z) (hv : a.eval v = .bool true) (hK : ∀ w', Seen w' b (m + 1) (L ++ [z]) → w.grownBy w' (some b) → wpList Try.prog ops Q rest (a.put o.dst undef) w') : wpList Try.prog ops Q (o :: rest) a w := by
  obtain ⟨D, hown, h1⟩ := hc
  have hkey := keyOf_int_mk Try.underlying3 (wfi hz)
  refine wpList_mapUpdate_own w hg x y v t hop _ _ lawN ht _ b m D hm hown (by unfold maxLen; omega) _ _ _ hx hv hkey _ [] (plainElem_bool Try.underlying4 true) fun w' hown' hgr => ?_
  refine hK w' ⟨_, hown', fun q => ?_⟩ hgr
  by_cases e : q = z
  · subst e
    rw [atKey_put_same (hown.tidy lawN).isMap (lawN.key hkey)]
    simp
  · rw [atKey_put_other (fun e2 => e (by injection e2)), h1 q]
    simp [e]
end
end Go.Proofs.Ytpgolnkhbnancaa.Rhy

/-
  Helpers of the claims beside this text: the difference of two beats, as the program makes it.
-/
namespace Go.Proofs.Ytpgolnkhbnancaa.Rhy
open Go.RowKit Go.Maps
set_option linter.unusedVariables false

set_option maxHeartbeats 400000 in
theorem difOf_any (n r : Nat) (a : Option Addr) (len cap : Nat) (p q : Int) (w : World) (hn1 : 1 ≤ n) (hn : n ≤ 24) (hp : 0 ≤ p ∧ p < n) (hq : 0 ≤ q ∧ q < n) (hr : remB (p - q) n = r) :
    Calls Try.prog 93 #[rhy n a len cap, .int .i64 p, .int .i64 q] w fun e w' => e = .returned (difV n r) ∧ Below w.heap.size w w' := by
  have HR := Lib.hid hr
  clear hr
  obtain ⟨w1, hW⟩ : ∃ w1, w1 = (w.alloc (.cells #[.int .i64 n, .slice a len cap] 26)).alloc (.cells #[.int .i64 0, .int .i64 0] 81) := ⟨_, rfl⟩
  have HW := Lib.hid hW
  have HB := Lib.hid (show Below w.heap.size w w1 by rw [hW]; exact bel2 w _ _)
  have HT := Lib.hid (show Two w1 w.heap.size (.int .i64 n) (.slice a len cap) by rw [hW]; exact (two_new w _ _ _).keep (bel1 _ _))
  have HU := Lib.hid (show Box w1 (w.heap.size + 1) (.int .i64 0) (.int .i64 0) 81 by
    rw [hW]
    have := box_new (w.alloc (.cells #[.int .i64 n, .slice a len cap] 26)) (.int .i64 0) (.int .i64 0) 81
    simpa using this)
  clear hW
  obtain ⟨t1, t1a, t1b⟩ := HT.out
  obtain ⟨u1, u1a, u1b, u1c⟩ := HU.out.facts
  have lt1 := HU.out.lt
  go_enter Try.func93, Try.ntmps93
  go_wp2_with fail
  rw [← HW.out]
  have hsub : IntKind.i64.wrap (p - q) = p - q := IntWalk.i64_in _ ⟨by omega, by omega⟩
  have HA : ∀ W, Calls Try.prog 83 #[.int .i64 (p - q), .int .i64 n] W fun e w' => e = .returned (.int .i64 r) ∧ W = w' := fun W => by
    have := around_any (p - q) n W (by omega) (by omega) (by omega) (by omega)
    rwa [HR.out] at this
  go_region_with (go_at_call 83; refine (HA _).mono ?_; rintro e w' ⟨rfl, rfl⟩)
  all_goals (
    go_wp2
    refine bodyPost_ret (v := difV n r) (by simp [results, Try.results93, go_sem, difV, *]) rfl ⟨rfl, ?_⟩
    exact below_drewN ((HB.out.setCell (by simp) _).setCell (by simp) _) 1)
end Go.Proofs.Ytpgolnkhbnancaa.Rhy

/-
  Helpers of the claims beside this text: differences of the program, counted in a map; DifferencesOf alone.
-/
namespace Go.Proofs.Ytpgolnkhbnancaa.Rhy
open Go.RowKit Go.Maps
set_option linter.unusedVariables false

/-! ### the map of the differences -/
/-- How often a number is in a list. -/
def cf (L : List Int) (q : Nat) : Nat := L.count (q : Int)
theorem cf_snoc (L : List Int) (r : Nat) : upd (cf L) r (cf L r + 1) = cf (L ++ [(r : Int)]) := by
  funext q
  unfold upd cf
  rw [List.count_append]
  by_cases e : q = r
  · subst e; simp
  · rw [if_neg e]
    have : List.count (q : Int) [(r : Int)] = 0 := List.count_eq_zero_of_not_mem (by simp; omega)
    omega
theorem box_grown {w w' : World} {g h : Nat} {v0 v1 : Value} {t : TypeId} (hb : Box w g v0 v1 t) (hg : w.grownBy w' (some h)) (hne : g ≠ h) : Box w' g v0 v1 t :=
  (hg.block g hb.lt (by simpa using hne)).trans hb
def DfmAt (g n m : Nat) (L : List Int) (a : Option Addr) (len cap : Nat) (w wr : World) : Prop :=
  Box wr g (.int .i64 n) (.slice a len cap) 26 ∧ Cnt n wr (g + 1) m 0 n (cf L) ∧ Below g w wr ∧ g + 2 ≤ wr.heap.size

set_option maxHeartbeats 2000000 in
theorem difs_any (n : Nat) (a : Option Addr) (len cap : Nat) (zs : List Int) (w : World) (h : IntsAt w a len zs) (hm : len ≤ 1048576) (ho : Ok n zs) :
    Calls Try.prog 85 #[rhy n a len cap] w fun e w' => ∃ b m, e = .returned (.map (some b)) ∧ w.heap.size ≤ b ∧ m ≤ 1000 ∧ Cnt n w' b m 0 n (fun i => difAt n zs i) ∧ Below w.heap.size w w' := by
  have HS := Lib.hid h
  have HO := Lib.hid ho
  have hn1 : 1 ≤ n := by have := ho.1.1; omega
  have hn24 : n ≤ 24 := by have := ho.1.2; omega
  have hnn : (0 : Int) ≤ n ∧ (n : Int) ≤ 1000 := by omega
  have hN1 : n ≤ 1000 := by omega
  have hlz : zs.length ≤ 24 := ok_len ho
  have hll : len = zs.length := HS.out.1.symm
  have HLL := Lib.hid hll
  have HLZ := Lib.hid hlz
  have hlen : len ≤ 24 := by omega
  clear h ho hll hlz
  obtain ⟨g, hg⟩ : ∃ g, g = w.heap.size := ⟨_, rfl⟩
  have HG := Lib.hid hg
  clear hg
  obtain ⟨W0, hW⟩ : ∃ W0, W0 = w.alloc (.cells #[.int .i64 n, .slice a len cap] 26) := ⟨_, rfl⟩
  have HW := Lib.hid hW
  clear hW
  have HSZ := Lib.hid (show W0.heap.size = g + 1 by rw [HW.out, HG.out]; simp)
  have HT0 := Lib.hid (show Box W0 g (.int .i64 n) (.slice a len cap) 26 by rw [HW.out, HG.out]; exact box_new w _ _ _)
  have HBW := Lib.hid (show Below g w W0 by rw [HW.out, HG.out]; exact bel1 w _)
  have hmm := @run_makeMap Try.prog
  have HA : Hid (DfmAt g n 0 (resP n zs 0) a len cap w (W0.alloc (.map #[] 0))) := Lib.hid (by
    have h1 := Cnt.made n W0 n
    rw [HSZ.out] at h1
    exact ⟨HT0.out.keep (bel1 _ _) HT0.out.lt, h1, HBW.out.alloc (by have := HSZ.out; omega) _, by have := HSZ.out; simp; omega⟩)
  have HA2 := HA
  obtain ⟨c0, c1, f0, f1⟩ := HA.out.1.facts
  go_enter Try.func85, Try.ntmps85
  go_wp2_with fail
  rw [← HW.out, ← HG.out]
  go_loopw [12] (fun i wr => ∃ k m : Nat, k ≤ len ∧ i = .int .i64 k ∧ m ≤ 24 * k ∧ DfmAt g n m (resP n zs k) a len cap w wr) (fun i _ => len - (intOf i).toNat)
  case atStart => exact ⟨0, 0, by omega, rfl, by omega, HA.out⟩
  case round =>
    clear HA HA2 c0 c1 f0 f1
    obtain ⟨k, m0, hk, rfl, hm0, hat⟩ := hrel
    have HAT := Lib.hid hat
    clear hat
    obtain ⟨c0, c1, f0, f1⟩ := HAT.out.1.facts
    have lt0 := HAT.out.1.lt
    have HJ : Hid (IntsAt wr a len zs) := Lib.hid (HS.out.below (by rw [← HG.out]; exact HAT.out.2.2.1))
    by_cases hlt : k < len
    · obtain ⟨b, off, z, rfl, hb, hs, hc, hz1, hz2⟩ := HJ.out.at hlt
      obtain ⟨hz0, hzn⟩ := ok_at HO.out hs
      have HPN := Lib.hid (resP_snoc (n := n) hs)
      have HAI : Hid (DfmAt g n m0 (resP n zs k ++ resQ n zs z 0) (some ⟨b, off, none⟩) len cap w wr) := Lib.hid (by rw [show resQ n zs z 0 = [] from rfl, List.append_nil]; exact HAT.out)
      clear hs
      go_wp2
      clear c0 c1 f0 f1 lt0 hc
      go_loopw [19] (fun i wr => ∃ j m : Nat, j ≤ len ∧ i = .int .i64 j ∧ m ≤ 24 * k + j ∧ DfmAt g n m (resP n zs k ++ resQ n zs z j) (some ⟨b, off, none⟩) len cap w wr) (fun i _ => len - (intOf i).toNat)
      case atStart => exact ⟨0, m0, by omega, rfl, by omega, HAI.out⟩
      case round =>
        clear HAT HJ HAI
        obtain ⟨j, m, hj, rfl, hmj, hat⟩ := hrel
        have HAT := Lib.hid hat
        clear hat
        obtain ⟨c0, c1, f0, f1⟩ := HAT.out.1.facts
        have lt0 := HAT.out.1.lt
        have HJ : Hid (IntsAt wr (some ⟨b, off, none⟩) len zs) := Lib.hid (HS.out.below (by rw [← HG.out]; exact HAT.out.2.2.1))
        by_cases hlt2 : j < len
        · obtain ⟨b', off', z', he, hb', hs, hc, hz1', hz2'⟩ := HJ.out.at hlt2
          cases he
          obtain ⟨hz0', hzn'⟩ := ok_at HO.out hs
          obtain ⟨r, hr⟩ : ∃ r : Nat, remB (z - z') n = r := ⟨(remB (z - z') n).toNat, by have := remB_bd (z - z') n (by omega); omega⟩
          have hrn : r < n := by have := remB_bd (z - z') n (by omega); omega
          have HQN := Lib.hid (show resP n zs k ++ resQ n zs z (j + 1) = (resP n zs k ++ resQ n zs z j) ++ [(r : Int)] by rw [resQ_snoc hs, hr, List.append_assoc])
          have HR := Lib.hid hr
          obtain ⟨c, hcc⟩ : ∃ c : Nat, cf (resP n zs k ++ resQ n zs z j) r = c := ⟨_, rfl⟩
          have hcb : c ≤ 1000 := by
            have h1 := List.count_le_length (a := (r : Int)) (l := resP n zs k ++ resQ n zs z j)
            have h2 := resP_len n zs k
            have h3 := resQ_len n zs z j
            have h4 := Nat.mul_le_mul (show k ≤ 24 by omega) HLZ.out
            rw [List.length_append] at h1
            have h5 := HLZ.out
            unfold cf at hcc
            omega
          have HCC := Lib.hid hcc
          clear hs hr hcc
          go_upto_region 8 with fail
          clear c0 c1 f0 f1 hc
          refine wp_region_held_drew (S := fun W' => W'.cell? ⟨g, 0, none⟩ = some (.int .i64 n) ∧ W'.cell? ⟨g, 1, none⟩ = some (.slice (some ⟨b, off, none⟩) len cap)) (by kernel_rfl) ⟨HAT.out.1.facts.1, HAT.out.1.facts.2.1⟩ (fun hSS0 => ?_)
          refine wpAnyH_take (i := 0) (oi := ⟨some 23, _, _, _, _, _⟩) (v := .map (some (g + 1))) rfl (by kernel_rfl) (by kernel_rfl) (by kernel_rfl) (fun _ _ _ h => h) (Or.inl ⟨by rfl, fun W hSw => by go_simp⟩) (by assumption) ?_
          try simp only [Act.put, List.setIfInBounds_toArray, List.set_cons_zero, List.set_cons_succ]
          refine wpAnyH_take (i := 1) (oi := ⟨some 24, _, _, _, _, _⟩) (v := .agg #[.int .i64 n, .slice (some ⟨b, off, none⟩) len cap]) rfl (by kernel_rfl) (by kernel_rfl) (by kernel_rfl) (fun _ _ _ h => h) (Or.inl ⟨by rfl, fun W hSw => by obtain ⟨q1, q2⟩ := hSw; go_simp⟩) (by assumption) ?_
          try simp only [Act.put, List.setIfInBounds_toArray, List.set_cons_zero, List.set_cons_succ]
          refine wpAnyH_take (i := 2) (oi := ⟨some 25, _, _, _, _, _⟩) (v := .int .i64 z) rfl (by kernel_rfl) (by kernel_rfl) (by kernel_rfl) (fun _ _ _ h => h) (Or.inl ⟨by rfl, fun W hSw => by go_simp⟩) (by assumption) ?_
          try simp only [Act.put, List.setIfInBounds_toArray, List.set_cons_zero, List.set_cons_succ]
          refine wpAnyH_take (i := 3) (oi := ⟨some 26, _, _, _, _, _⟩) (v := .int .i64 z') rfl (by kernel_rfl) (by kernel_rfl) (by kernel_rfl) (fun _ _ _ h => h) (Or.inl ⟨by rfl, fun W hSw => by go_simp⟩) (by assumption) ?_
          try simp only [Act.put, List.setIfInBounds_toArray, List.set_cons_zero, List.set_cons_succ]
          refine wpAnyH_ready (rs := [4]) (by kernel_rfl) (by simp) ?_
          refine AllReadyH.cons rfl (fun K hKK => ?_) AllReadyH.nil
          go_simp
          go_at_call 93
          refine (difOf_any n r _ len cap z z' _ hn1 hn24 ⟨hz0, hzn⟩ ⟨hz0', hzn'⟩ HR.out).mono ?_
          rintro e wk1 ⟨rfl, hc1⟩
          have hbb1 : Below wr.heap.size wr wk1 := (Below.refl _ _).drew.trans hc1
          clear hc1
          have HC1 := Lib.hid (HAT.out.2.1.below hbb1)
          have hl1 := lookup_cnt Try.underlying78 hnn hN1 hrn HC1.out
          rw [HCC.out] at hl1
          obtain ⟨v0, st, w4, hen, hc4, hg4, hst⟩ := entry_cnt Try.underlying78 hnn hN1 (show m ≤ 1000000 by omega) (Nat.zero_le _) hrn HC1.out
          have HC4 := Lib.hid hc4
          have HG4 := Lib.hid hg4
          have hl4 := lookup_cnt Try.underlying78 hnn hN1 hrn HC4.out
          rw [HCC.out] at hl4
          obtain ⟨w5, hes, hc5, hg5⟩ := hst w4 (c + 1) (by omega) rfl
          rw [show ((c + 1 : Nat) : Int) = (c : Int) + 1 by omega] at hes
          have HC5 := Lib.hid hc5
          have HG5 := Lib.hid hg5
          have HK1 := Lib.hid (show wk1.cell? ⟨g, 0, none⟩ = some (.int .i64 n) ∧ wk1.cell? ⟨g, 1, none⟩ = some (.slice (some ⟨b, off, none⟩) len cap) from ⟨(HAT.out.1.keep hbb1 lt0).facts.1, (HAT.out.1.keep hbb1 lt0).facts.2.1⟩)
          have HX4 := Lib.hid (box_grown (HAT.out.1.keep hbb1 lt0) hg4 (by omega))
          have HX5 := Lib.hid (box_grown HX4.out hg5 (by omega))
          have HB5 : Hid (Below g w w5 ∧ g + 2 ≤ w5.heap.size) := Lib.hid ⟨((HAT.out.2.2.1.trans (hbb1.mono (by have := HAT.out.2.2.2; omega))).grown hg4 (by have := hbb1.size; omega) (fun j e => by cases e; omega)).grown hg5 (by have := hbb1.size; have := hg4.size; omega) (fun j e => by cases e; omega), by have := HAT.out.2.2.2; have := hbb1.size; have := hg4.size; have := hg5.size; omega⟩
          clear hc4 hg4 hst hc5 hg5
          refine hKK.out _ _ HK1.out (fun hSS1 => ?_)
          clear hKK K hSS0
          try simp only [Act.put, List.setIfInBounds_toArray, List.set_cons_zero, List.set_cons_succ]
          refine wpAnyH_ready (rs := [5, 7]) (by kernel_rfl) (by simp) ?_
          refine AllReadyH.cons rfl (fun K hKK => ?_) (AllReadyH.cons rfl (fun K hKK => ?_) AllReadyH.nil)
          · go_simp
            refine hKK.out _ _ (by assumption) (fun _ => ?_)
            clear hKK K
            try simp only [Act.put, List.setIfInBounds_toArray, List.set_cons_zero, List.set_cons_succ]
            refine wpAnyH_take (i := 6) (oi := ⟨some 29, _, _, _, _, _⟩) (v := .int .i64 ((c + 1 : Nat) : Int)) rfl (by kernel_rfl) (by kernel_rfl) (by kernel_rfl) (fun _ _ _ h => h) (Or.inl ⟨by rfl, fun W hSw => by go_simp; exact (IntWalk.i64_in _ ⟨by omega, by omega⟩).trans (by omega)⟩) (by assumption) ?_
            try simp only [Act.put, List.setIfInBounds_toArray, List.set_cons_zero, List.set_cons_succ]
            refine wpAnyH_ready (rs := [7]) (by kernel_rfl) (by simp) ?_
            refine AllReadyH.cons rfl (fun K hKK => ?_) AllReadyH.nil
            go_simp
            refine hKK.out _ _ ⟨HX4.out.facts.1, HX4.out.facts.2.1⟩ (fun hSS4 => ?_)
            clear hKK K hSS1
            try simp only [Act.put, List.setIfInBounds_toArray, List.set_cons_zero, List.set_cons_succ]
            refine wpAnyH_take (i := 8) (oi := ⟨some 31, _, _, _, _, _⟩) (v := .int .i64 st) rfl (by kernel_rfl) (by kernel_rfl) (by kernel_rfl) (fun _ _ _ h => h) (Or.inl ⟨by rfl, fun W hSw => by go_simp⟩) (by assumption) ?_
            try simp only [Act.put, List.setIfInBounds_toArray, List.set_cons_zero, List.set_cons_succ]
            refine wpAnyH_ready (rs := [9]) (by kernel_rfl) (by simp) ?_
            refine AllReadyH.cons rfl (fun K hKK => ?_) AllReadyH.nil
            go_simp
            refine hKK.out _ _ ⟨HX5.out.facts.1, HX5.out.facts.2.1⟩ (fun hSS5 => ?_)
            clear hKK K hSS4
            try simp only [Act.put, List.setIfInBounds_toArray, List.set_cons_zero, List.set_cons_succ]
            refine wpAnyH_done (by kernel_rfl) ?_ _
            clear HK1 hSS5 hl1 hl4 hen hes
            go_wp2
            go_roundw
            case rel =>
              refine ⟨j + 1, m + 1, by omega, by go_num, by omega, HX5.out, ?_, HB5.out.1, HB5.out.2⟩
              rw [HQN.out, ← cf_snoc, HCC.out]
              exact HC5.out
            case measure => simp [intOf]; omega
          · go_simp
            refine hKK.out _ _ ⟨HX4.out.facts.1, HX4.out.facts.2.1⟩ (fun hSS4 => ?_)
            clear hKK K hSS1
            try simp only [Act.put, List.setIfInBounds_toArray, List.set_cons_zero, List.set_cons_succ]
            refine wpAnyH_take (i := 8) (oi := ⟨some 31, _, _, _, _, _⟩) (v := .int .i64 st) rfl (by kernel_rfl) (by kernel_rfl) (by kernel_rfl) (fun _ _ _ h => h) (Or.inl ⟨by rfl, fun W hSw => by go_simp⟩) (by assumption) ?_
            try simp only [Act.put, List.setIfInBounds_toArray, List.set_cons_zero, List.set_cons_succ]
            refine wpAnyH_ready (rs := [5]) (by kernel_rfl) (by simp) ?_
            refine AllReadyH.cons rfl (fun K hKK => ?_) AllReadyH.nil
            go_simp
            refine hKK.out _ _ (by assumption) (fun _ => ?_)
            clear hKK K
            try simp only [Act.put, List.setIfInBounds_toArray, List.set_cons_zero, List.set_cons_succ]
            refine wpAnyH_take (i := 6) (oi := ⟨some 29, _, _, _, _, _⟩) (v := .int .i64 ((c + 1 : Nat) : Int)) rfl (by kernel_rfl) (by kernel_rfl) (by kernel_rfl) (fun _ _ _ h => h) (Or.inl ⟨by rfl, fun W hSw => by go_simp; exact (IntWalk.i64_in _ ⟨by omega, by omega⟩).trans (by omega)⟩) (by assumption) ?_
            try simp only [Act.put, List.setIfInBounds_toArray, List.set_cons_zero, List.set_cons_succ]
            refine wpAnyH_ready (rs := [9]) (by kernel_rfl) (by simp) ?_
            refine AllReadyH.cons rfl (fun K hKK => ?_) AllReadyH.nil
            go_simp
            refine hKK.out _ _ ⟨HX5.out.facts.1, HX5.out.facts.2.1⟩ (fun hSS5 => ?_)
            clear hKK K hSS4
            try simp only [Act.put, List.setIfInBounds_toArray, List.set_cons_zero, List.set_cons_succ]
            refine wpAnyH_done (by kernel_rfl) ?_ _
            clear HK1 hSS5 hl1 hl4 hen hes
            go_wp2
            go_roundw
            case rel =>
              refine ⟨j + 1, m + 1, by omega, by go_num, by omega, HX5.out, ?_, HB5.out.1, HB5.out.2⟩
              rw [HQN.out, ← cf_snoc, HCC.out]
              exact HC5.out
            case measure => simp [intOf]; omega
        · have e : j = len := by omega
          subst e
          go_wp2
          go_roundw
          case rel => exact ⟨k + 1, m, by omega, by go_num, by omega, by rw [HPN.out, ← HLL.out]; exact HAT.out⟩
          case measure => simp [intOf]; omega
    · have e : k = zs.length := by have := HLL.out; omega
      have HE := Lib.hid e
      have hm1 : m0 ≤ 1000 := by omega
      clear e
      go_wp2
      go_ret
      have h1 := HAT.out
      rw [HE.out, resP_all] at h1
      obtain ⟨D, q1, q2, q3⟩ := h1.2.1
      refine ⟨g + 1, m0, rfl, by have := HG.out; omega, hm1, ⟨D, q1, fun p hp => ?_, q3⟩, ?_⟩
      · rw [q2 p hp]
        unfold cf
        rw [count_res HO.out (by omega)]
      · rw [← HG.out]
        exact h1.2.2.1
end Go.Proofs.Ytpgolnkhbnancaa.Rhy

/-
  Helpers of the claims beside this text: DifferencesOf and VectorOf of the program.
-/
namespace Go.Proofs.Ytpgolnkhbnancaa.Rhy
open Go.RowKit Go.Maps
set_option linter.unusedVariables false
set_option linter.unusedSimpArgs false

/-- What the numbers are while some differences are still to come. -/
def numL (n : Nat) (f : Nat → Nat) (lf : Nat → Bool) : List Int := (List.range n).map fun p => if lf p then 0 else (f p : Int)
theorem numL_len (n : Nat) (f : Nat → Nat) (lf : Nat → Bool) : (numL n f lf).length = n := by simp [numL]
theorem numL_at {n : Nat} {f : Nat → Nat} {lf : Nat → Bool} {p : Nat} (h : p < n) : (numL n f lf)[p]? = some (if lf p then 0 else (f p : Int)) := by simp [numL, h]
theorem numL_step {n : Nat} {f : Nat → Nat} {lf : Nat → Bool} {p : Nat} (h : p < n) : (numL n f lf).set p (f p) = numL n f (fun q => lf q && !decide (q = p)) := by
  apply List.ext_getElem?
  intro i
  rw [List.getElem?_set, numL_len]
  by_cases hi : i < n
  · rw [numL_at hi, numL_at hi]
    by_cases q : p = i
    · subst q; simp [h]
    · have : ¬ i = p := fun e => q e.symm
      simp [q, this]
  · rw [List.getElem?_eq_none (by rw [numL_len]; omega), List.getElem?_eq_none (by rw [numL_len]; omega)]
    by_cases q : p = i
    · omega
    · simp [q]
theorem numL_start {n : Nat} {f : Nat → Nat} {lf : Nat → Bool} (h : ∀ p, p < n → lf p = false → f p = 0) : numL n f lf = List.replicate n 0 := by
  apply List.ext_getElem
  · simp [numL]
  · intro i h1 h2
    simp only [numL_len] at h1
    simp only [numL, List.getElem_map, List.getElem_range, List.getElem_replicate]
    cases hq : lf i
    · simp [h i h1 hq]
    · simp
theorem numL_done {n : Nat} {f : Nat → Nat} {lf : Nat → Bool} (h : ∀ p, p < n → lf p = false) : numL n f lf = (List.range n).map fun p => (f p : Int) := by
  unfold numL
  refine List.map_congr_left fun p hp => ?_
  rw [h p (List.mem_range.1 hp)]
  simp

theorem own_grown' {w w' : World} {B : Nat} {e : TypeId} {size : Nat} {v : Value} {n : Nat} {xs : List Value} (h : w.ownsRow B e size v n xs) (hg : w.grownBy w' none) : w'.ownsRow B e size v n xs := by
  cases hv : v.ownBlock with
  | none => exact h.kept hg (.inl hv)
  | some g => exact h.kept hg (.inr (by rw [hv]; simp))
set_option maxHeartbeats 1000000 in
theorem counts_any (n : Nat) (a : Option Addr) (len cap : Nat) (zs : List Int) (w : World) (h : IntsAt w a len zs) (hm : len ≤ 1048576) (ho : Ok n zs) :
    Calls Try.prog 64 #[rhy n a len cap] w (IPost (difZ n zs) w) := by
  have HS := Lib.hid h
  have HO := Lib.hid ho
  have hn1 : 1 ≤ n := by have := ho.1.1; omega
  have hn24 : n ≤ 24 := by have := ho.1.2; omega
  have hnn : (0 : Int) ≤ n ∧ (n : Int) ≤ 1000 := by omega
  have hN1 : n ≤ 1000 := by omega
  clear h ho
  obtain ⟨i0, hi, hz0, hz1, hz2⟩ := info_parts infoInt
  have HI := Lib.hid (show _ ∧ _ ∧ _ ∧ _ from ⟨hi, hz0, hz1, hz2⟩)
  clear hi hz0 hz1 hz2
  obtain ⟨g, hg⟩ : ∃ g, g = w.heap.size := ⟨_, rfl⟩
  have HG := Lib.hid hg
  clear hg
  obtain ⟨W0, hW⟩ : ∃ W0, W0 = w.alloc (.cells #[.int .i64 n, .slice a len cap] 26) := ⟨_, rfl⟩
  have HW := Lib.hid hW
  clear hW
  have HSZ := Lib.hid (show W0.heap.size = g + 1 by rw [HW.out, HG.out]; simp)
  have HT0 := Lib.hid (show Box W0 g (.int .i64 n) (.slice a len cap) 26 by rw [HW.out, HG.out]; exact box_new w _ _ _)
  have HBW := Lib.hid (show Below g w W0 by rw [HW.out, HG.out]; exact bel1 w _)
  go_enter Try.func64, Try.ntmps64
  go_wp2_with (at_make; refine wpList_make_full _ rfl _ _ 24 rfl (g + 1) 3 i0 (.int .i64 0) 1 Try.underlying24 HI.out.1 HI.out.2.1 HI.out.2.2.1 .i64 .i64 n n n rfl rfl rfl rfl ?b2 ?b3 ?b4 ?_)
  case b2 => rw [HI.out.2.2.2]; omega
  case b3 => unfold maxLen; omega
  case b4 => have := HSZ.out; rw [HW.out] at this; omega
  rw [← HW.out]
  intro w1 hown hgrow
  have HX : Hid (Below (g + 1) W0 w1) := Lib.hid ((Below.refl (g + 1) W0).grown hgrow (by have := HSZ.out; omega) (by intro k hk; cases hk))
  rw [toList_madeCells_one, ← HG.out] at hown
  have HOW := Lib.hid hown
  have hsz1 := (HOW.out.lt (g + 1) rfl).2
  clear hown hgrow
  rw [← HG.out]
  have HB1 := Lib.hid (HBW.out.trans (HX.out.mono (by omega)))
  obtain ⟨c0, c1, f0, f1⟩ := (HT0.out.keep HX.out (by omega)).facts
  go_wp2_with fail
  refine (difs_any n a len cap zs w1 (HS.out.below (by rw [← HG.out]; exact HB1.out)) hm HO.out).mono ?_
  rintro e w2 ⟨b, m, rfl, hbg, hm1, hcn, hb2⟩
  obtain ⟨f, hf⟩ : ∃ f : Nat → Nat, (fun i : Nat => difAt n zs i) = f := ⟨_, rfl⟩
  rw [hf] at hcn
  have HF := Lib.hid hf
  have HCN := Lib.hid hcn
  have HB2 := Lib.hid hb2
  have hsz2 := hb2.size
  have HOW2 := Lib.hid (own_below HOW.out hb2)
  have HB3 := Lib.hid (HB1.out.trans (hb2.mono (by omega)))
  have hfb : ∀ p, f p ≤ 24 := fun p => by rw [← hf]; exact dif_le HO.out _
  clear hf hcn hb2 c0 c1 f0 f1
  obtain ⟨r, hr⟩ : ∃ r, r = w2.heap.size := ⟨_, rfl⟩
  go_wp2_with (at_range; refine wpList_range_cnt _ rfl _ _ rfl Try.underlying78 n b m 0 n f rfl HCN.out ?_; intro w3 lf cnt hrg hz hgr hsz)
  go_frame
  rw [← hr] at hrg hsz ⊢
  have HA : Hid (∃ (lf : Nat → Bool) (cnt : Nat), Rng n w3 b r m 0 n f lf cnt ∧ w3.ownsRow (g + 1) 3 1 (.slice (some ⟨g + 1, 0, none⟩) n n) n (ints (numL n f lf)) ∧ Below g w w3 ∧ r < w3.heap.size) := Lib.hid
    ⟨lf, cnt, hrg, by
      have h1 := own_grown' HOW2.out hgr
      rw [numL_start hz]
      simpa [ints] using h1, HB3.out.grown hgr (by omega) (fun j e => by cases e), by omega⟩
  have HRR := Lib.hid hr
  clear hrg hz hgr hsz hr
  go_loopw [12] (fun _ wr => ∃ (lf : Nat → Bool) (cnt : Nat), Rng n wr b r m 0 n f lf cnt ∧ wr.ownsRow (g + 1) 3 1 (.slice (some ⟨g + 1, 0, none⟩) n n) n (ints (numL n f lf)) ∧ Below g w wr ∧ r < wr.heap.size) (fun _ wr => wr.rangeLeft b r)
  case atStart => exact HA.out
  case round =>
    clear HA
    obtain ⟨lf, cnt, hrg, hown, hnx, hsz⟩ := hrel
    have HRG := Lib.hid hrg
    have HO1 := Lib.hid hown
    have HX1 := Lib.hid hnx
    clear hrg hown hnx
    go_wp2_with (at_next; refine wpList_next_cnt _ rfl _ rfl n hnn b r m 0 n hN1 f lf cnt rfl HRG.out ?_ ?_)
    · intro hd
      have HD := Lib.hid (numL_done (f := f) hd)
      clear hd
      go_wp2
      go_ret
      refine ⟨some ⟨g + 1, 0, none⟩, n, ?_, ?_, ?_⟩
      · rw [difZ_len]; simp
      · have h3 := HO1.out
        rw [HD.out, ← HF.out] at h3
        rw [difZ_len, show ((n : Int)).toNat = n by omega, ← HG.out]
        have h4 : ((List.range n).map fun p => ((difAt n zs ((p : Nat) : Int) : Nat) : Int)) = difZ n zs := by unfold difZ; rw [show ((n : Int)).toNat = n by omega]
        rw [h4] at h3
        exact own_base h3 (by omega)
      · rw [← HG.out]
        exact HX1.out
    · intro p w4 cnt' hp hlp hrg4 hlt hg4 hs4 hen
      have HR4 := Lib.hid hrg4
      have HG4 := Lib.hid hg4
      have HO4 := Lib.hid (own_grown HO1.out hg4 (fun k hk e => by have h1 : g + 1 = k := Option.some.inj hk; have h2 : r = k := Option.some.inj e; have := HRR.out; omega))
      have hpf := hfb p
      clear hrg4 hg4 hfb
      have HST := Lib.hid (numL_step (f := f) (lf := lf) hp)
      have lgr : g + 1 < wr.heap.size := by have := HRR.out; omega
      have hcr := HO4.out.cellAt p (by omega)
      rw [ints, List.getElem?_map, numL_at hp, hlp] at hcr
      simp only [Option.map_some, if_true] at hcr
      have hfr := HO4.out.frozenAt p
      have lg4 : g + 1 < w4.heap.size := (HO4.out.lt (g + 1) rfl).2
      have HS4 := Lib.hid hs4
      have hcr5 : ∀ o : Obj, (w4.alloc o).cell? ⟨g + 1, p, none⟩ = some (.int .i64 0) := fun o => ((bel1 w4 o).cell (p := ⟨g + 1, p, none⟩) lg4).trans hcr
      have hfr5 : ∀ o : Obj, (w4.alloc o).frozen? ⟨g + 1, p, none⟩ = false := fun o => ((bel1 w4 o).frozen (p := ⟨g + 1, p, none⟩) lg4).trans hfr
      simp only [difV] at hen ⊢
      clear hs4 hcr hfr
      go_wp2
      go_roundw
      case rel =>
        have hst := HO4.out.stored p (.int .i64 (f p))
        rw [ints, ← List.map_set, HST.out] at hst
        have h5 := HS4.out
        have h6 := HRR.out
        refine ⟨_, cnt', (HR4.out.kept hst.2 (by simp; omega) (by simp; omega)).below (bel1 _ _), own_below hst.1 (bel1 _ _), ?_, by simp; omega⟩
        exact ((HX1.out.grown HG4.out (by omega) (fun j e => by have h2 : r = j := Option.some.inj e; have := HRR.out; omega)).setCell (by show g ≤ g + 1; omega) _).alloc (by simp; omega) _
      case measure =>
        have h6 := HRR.out
        have h1 := ((HR4.out.kept (HO4.out.stored p (.int .i64 (f p))).2 (by simp; omega) (by simp; omega)).below (bel1 _ (.cells #[.int .i64 n, .int .i64 p] 81))).left_eq
        rw [h1, HRG.out.left_eq]
        exact hlt
end Go.Proofs.Ytpgolnkhbnancaa.Rhy
namespace Go.Proofs.Ytpgolnkhbnancaa.Rhy
open Go.RowKit

set_option linter.unusedSimpArgs false
set_option maxHeartbeats 400000 in
theorem difs_impl (s : Int) (a : Option Addr) (len cap : Nat) (zs : List Int) (w : World) (h : IntsAt w a len zs) (hm : zs.length ≤ 1048576) :
    Calls Try.prog 23 #[rhy s a len cap] w (IPost (difB s zs) w) := by
  have HS := Lib.hid h
  have hl : len ≤ 1048576 := by have := h.1; omega
  clear h
  by_cases ho : Ok s zs
  · obtain ⟨n, rfl⟩ : ∃ n : Nat, s = n := ⟨s.toNat, by have := ho.1; omega⟩
    have HO := Lib.hid ho
    have HE : Hid (difB n zs = difZ n zs) := Lib.hid (cZ_yes ho)
    clear ho
    go_enter Try.func23, Try.ntmps23
    go_wp2_with fail
    refine (valid_yes n a len cap zs _ (HS.out.below (bel1 w _)) hl HO.out).mono ?_
    rintro e w1 ⟨rfl, hb1⟩
    have HB := Lib.hid ((bel1 w (.cells #[.int .i64 n, .slice a len cap] 26)).trans (hb1.mono (by simp)))
    have HT := Lib.hid ((two_new w (.int .i64 n) (.slice a len cap) 26).keep hb1)
    obtain ⟨t1, t1a, t1b⟩ := HT.out
    clear hb1
    go_wp2_with fail
    refine (counts_any n a len cap zs w1 (HS.out.below HB.out) hl HO.out).mono ?_
    rintro e w2 ⟨b, c, rfl, hown, hb⟩
    have HW := Lib.hid hown
    have HB2 := Lib.hid hb
    clear hown hb
    go_wp2
    go_ret
    rw [HE.out]
    exact ⟨b, c, rfl, own_base HW.out HB.out.size, HB.out.trans (HB2.out.mono HB.out.size)⟩
  · have HO := Lib.hid ho
    clear ho
    go_enter Try.func23, Try.ntmps23
    go_wp2_with fail
    refine (valid_no s a len cap zs _ (HS.out.below (bel1 w _)) hl HO.out).mono ?_
    rintro e w1 ⟨rfl, hb1⟩
    have HB := Lib.hid ((bel1 w (.cells #[.int .i64 s, .slice a len cap] 26)).trans (hb1.mono (by simp)))
    clear hb1
    go_wp2
    go_ret
    exact ipost_nil HO.out HB.out
end Go.Proofs.Ytpgolnkhbnancaa.Rhy
