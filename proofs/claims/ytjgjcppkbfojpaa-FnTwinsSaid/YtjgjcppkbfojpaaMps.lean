/-
  Helpers of the claims beside this text: the program's maps: differences counted, numbers seen.
-/
import Derived.Test.YtjgjcppkbfojpaaRhy
import Derived.Maps.OwnOps
import Derived.Maps.OwnSet
import Derived.Maps.RangeWalk
import Derived.DeepKeys4
import Derived.WideKeyEntry
namespace Go.Proofs.Ytjgjcppkbfojpaa.Rhy
open Go.RowKit Go.Maps
set_option linter.unusedVariables false
set_option linter.unusedSimpArgs false
set_option maxRecDepth 100000

/-! ### a struct of two ints as a key -/
/-- A difference as a value. -/
def difV (n : Int) (p : Nat) : Value := .agg #[.int .i64 n, .int .i64 p]
theorem laidOutM : laidOutB Try.prog = true := by kernel_rfl
theorem rowD : (77 : TypeId) < Try.prog.types.size := of_decide_eq_true (by kernel_rfl)
theorem sizeD : 1 ≤ Try.prog.types.size := of_decide_eq_true (by kernel_rfl)
theorem wideD : (match Try.prog.underlying 77 with | some (.array _ _) | some (.struct _) => true | _ => false) = true := by kernel_rfl
theorem lawK : WideMaps.KeyLaw Try.prog 77 := deep_law_laid laidOutM (m := 2) (by omega) rowD (by kernel_rfl) wideD
theorem lawD : Keyed Try.prog 77 := Keyed.of_law lawK
theorem lawN : Keyed Try.prog 3 := int_keyed Try.underlying3
theorem zeroN (w : World) : (zeroValue 3).run Try.prog w = .ok (.int .i64 0) w := by kernel_rfl
theorem zeroB (w : World) : (zeroValue 4).run Try.prog w = .ok (.bool false) w := by kernel_rfl
theorem wfi {a : Int} (h : -9223372036854775808 ≤ a ∧ a ≤ 9223372036854775807) : (Lit.int .i64 a).wf = true := WalkArith.wf_i64 h

theorem lits_int {P : Program} {d : Nat} {e : TypeId} (he : P.underlying e = some (.int .i64)) {x : Int} (wx : (Lit.int .i64 x).wf = true) : P.keyLits (d + 1) e [.int .i64 x] = some [.int .i64 x] := by
  unfold Program.keyLits
  rw [he]
  simp only [wx, and_self, if_true]
theorem lits_pair {P : Program} {d : Nat} {k e : TypeId} {f g : Field} (hk : P.underlying k = some (.struct #[f, g])) (he : P.underlying e = some (.int .i64)) (ck : P.cellsOf k = 2) (ce : P.cellsOf e = 1)
    (hf : f.type = e ∧ f.offset = 0 ∧ (f.name != "_") = true) (hg : g.type = e ∧ g.offset = 1 ∧ (g.name != "_") = true) {x y : Int} (wx : (Lit.int .i64 x).wf = true) (wy : (Lit.int .i64 y).wf = true) :
    P.keyLits (d + 1 + 1) k [.int .i64 x, .int .i64 y] = some [.int .i64 x, .int .i64 y] := by
  obtain ⟨f1, f2, f3⟩ := hf
  obtain ⟨g1, g2, g3⟩ := hg
  have e1 : P.keyLits (d + 1) e [.int .i64 x] = some [.int .i64 x] := lits_int he wx
  have e2 : P.keyLits (d + 1) e [.int .i64 y] = some [.int .i64 y] := lits_int he wy
  unfold Program.keyLits
  rw [hk]
  simp [ck, ce, f1, f2, f3, g1, g2, g3, e1, e2]
theorem keyD_ex (n : Int) (p : Nat) (hn : 0 ≤ n ∧ n ≤ 1000) (hp : p ≤ 1000) : ∃ l, keyOf Try.prog 77 (difV n p) = some l := by
  have h1 : (Lit.int .i64 n).wf = true := wfi ⟨by omega, by omega⟩
  have h2 : (Lit.int .i64 (p : Int)).wf = true := wfi ⟨by omega, by omega⟩
  have hk : Try.prog.keyType 77 = true := by kernel_rfl
  have hc : Try.prog.cellsOf 77 = 2 := by kernel_rfl
  have hc3 : Try.prog.cellsOf 3 = 1 := by kernel_rfl
  have hu := Try.underlying77
  have hu3 := Try.underlying3
  have hf : (difV n p).formed Try.prog 77 = true := by simp [difV, Value.formed, hu, hc]
  obtain ⟨m, hs⟩ : ∃ m, Try.prog.types.size + 1 = m + 1 + 1 := ⟨Try.prog.types.size - 1, by have := sizeD; omega⟩
  have hl := lits_pair (d := m) hu hu3 hc hc3 ⟨rfl, rfl, by decide⟩ ⟨rfl, rfl, by decide⟩ h1 h2
  unfold keyOf
  rw [hu]
  simp only [hk, hf, Bool.and_self, if_true]
  rw [hs, show (difV n p).cells.toList = [.int .i64 n, .int .i64 p] from rfl, hl]
  exact ⟨_, rfl⟩
/-- What the difference p reads as. -/
noncomputable def kyD (n : Int) (p : Nat) : Lit := (keyOf Try.prog 77 (difV n p)).getD (.bool false)
theorem kyD_is {n : Int} {p : Nat} (hn : 0 ≤ n ∧ n ≤ 1000) (hp : p ≤ 1000) : keyOf Try.prog 77 (difV n p) = some (kyD n p) := by
  obtain ⟨l, h⟩ := keyD_ex n p hn hp
  unfold kyD
  rw [h]
  rfl
theorem kyD_key {n : Int} {p : Nat} (hn : 0 ≤ n ∧ n ≤ 1000) (hp : p ≤ 1000) : WideAt.IsKeyLit (kyD n p) := lawD.key (kyD_is hn hp)
theorem kyD_inj {n : Int} {p q : Nat} (hn : 0 ≤ n ∧ n ≤ 1000) (hp : p ≤ 1000) (hq : q ≤ 1000) (h : kyD n p = kyD n q) : p = q := by
  have h1 := kyD_is hn hp
  have h2 := kyD_is hn hq
  rw [← h] at h2
  have h3 := lawD.inj h1 h2
  simp [difV] at h3
  omega
theorem kyD_same {n : Int} {p q : Nat} (hn : 0 ≤ n ∧ n ≤ 1000) (hp : p ≤ 1000) (hq : q ≤ 1000) : (kyD n p).sameKey (kyD n q) = decide (p = q) := by
  by_cases h : p = q
  · subst h
    rw [WideAt.sameKey_self (kyD_key hn hp)]
    simp
  · rw [sameKey_ne (fun e => h (kyD_inj hn hp hq e))]
    simp [h]

/-- The map in block b counts the differences below N: f of each. -/
def Cnt (n : Int) (w : World) (b m z N : Nat) (f : Nat → Nat) : Prop :=
  ∃ D : DataW Unit, w.ownsMap Try.prog 77 (plainElem Try.prog 3) b m D ∧
    (∀ p, p < N → D.atKey (kyD n p) (.lit (.int .i64 0)) = .lit (.int .i64 (f p))) ∧ (∀ kl, Maps.has D kl = true → ∃ p, (z ≤ p ∧ p < N) ∧ kl = kyD n p)
theorem Cnt.lt {n : Int} {w : World} {b m z N : Nat} {f : Nat → Nat} (h : Cnt n w b m z N f) : b < w.heap.size := by obtain ⟨D, h, _⟩ := h; exact h.lt
theorem Cnt.kept {n : Int} {w w' : World} {b m z N : Nat} {f : Nat → Nat} (h : Cnt n w b m z N f) (hg : ∃ row, w.grownBy w' row ∧ some b ≠ row) : Cnt n w' b m z N f := by
  obtain ⟨D, h, h2⟩ := h
  obtain ⟨row, hg, hne⟩ := hg
  exact ⟨D, h.kept hg hne, h2⟩
theorem Cnt.below {n : Int} {w w' : World} {b m z N : Nat} {f : Nat → Nat} (h : Cnt n w b m z N f) (hb : Below w.heap.size w w') : Cnt n w' b m z N f := h.kept ⟨none, grown_of_below hb none, by simp⟩
theorem Cnt.set {n : Int} {w : World} {b m z N : Nat} {f : Nat → Nat} (h : Cnt n w b m z N f) {g : Nat} (hg : g ≠ b) (j : Nat) (v : Value) : Cnt n (w.setCell ⟨g, j, none⟩ v) b m z N f := by
  obtain ⟨D, h, h2⟩ := h
  exact ⟨D, h.setCell (a := ⟨g, j, none⟩) (fun e => hg e.symm) _, h2⟩
theorem Cnt.made (n : Int) (w : World) (N : Nat) : Cnt n (w.alloc (.map #[] 0)) w.heap.size 0 0 N (fun _ => 0) :=
  ⟨.map [], World.ownsMap_made _ _ _ _, fun p _ => atKey_of_not_has (by rfl) _, fun kl h => by cases h⟩
theorem Cnt.mono {n : Int} {w : World} {b m m' z N : Nat} {f : Nat → Nat} (h : Cnt n w b m z N f) (hm : m ≤ m') : Cnt n w b m' z N f := by
  obtain ⟨D, h, h2⟩ := h
  exact ⟨D, h.mono hm, h2⟩
/-- One more. -/
def upd (f : Nat → Nat) (p c : Nat) (q : Nat) : Nat := if q = p then c else f q
theorem put_cnt {n : Int} {z N p c : Nat} {f : Nat → Nat} {D : DataW Unit} (hn : 0 ≤ n ∧ n ≤ 1000) (hN : N ≤ 1000) (hzp : z ≤ p) (hp : p < N) (hm : IsMap D)
    (h1 : ∀ p, p < N → D.atKey (kyD n p) (.lit (.int .i64 0)) = .lit (.int .i64 (f p))) (h2 : ∀ kl, Maps.has D kl = true → ∃ p, (z ≤ p ∧ p < N) ∧ kl = kyD n p) :
    (∀ q, q < N → (D.put (kyD n p) (.lit (.int .i64 (c : Int)))).atKey (kyD n q) (.lit (.int .i64 0)) = .lit (.int .i64 (upd f p c q))) ∧ (∀ kl, Maps.has (D.put (kyD n p) (.lit (.int .i64 (c : Int)))) kl = true → ∃ p, (z ≤ p ∧ p < N) ∧ kl = kyD n p) := by
  constructor
  · intro q hq
    by_cases e : q = p
    · subst e
      rw [atKey_put_same hm (kyD_key hn (by omega))]
      simp [upd]
    · rw [atKey_put_other (fun e2 => e (kyD_inj hn (by omega) (by omega) e2)), h1 q hq]
      simp [upd, e]
  · intro kl h
    by_cases e : kl = kyD n p
    · exact ⟨p, ⟨hzp, hp⟩, e⟩
    · rw [has_put_other e] at h
      exact h2 kl h
theorem del_cnt {n : Int} {N : Nat} {f : Nat → Nat} {D : DataW Unit} (hn : 0 ≤ n ∧ n ≤ 1000) (hN : N ≤ 1000) (hp : 0 < N)
    (h1 : ∀ p, p < N → D.atKey (kyD n p) (.lit (.int .i64 0)) = .lit (.int .i64 (f p))) (h2 : ∀ kl, Maps.has D kl = true → ∃ p, (0 ≤ p ∧ p < N) ∧ kl = kyD n p) :
    (∀ q, q < N → (D.del (kyD n 0)).atKey (kyD n q) (.lit (.int .i64 0)) = .lit (.int .i64 (upd f 0 0 q))) ∧ (∀ kl, Maps.has (D.del (kyD n 0)) kl = true → ∃ p, (1 ≤ p ∧ p < N) ∧ kl = kyD n p) := by
  constructor
  · intro q hq
    by_cases e : q = 0
    · subst e
      rw [atKey_del_same]
      simp [upd]
    · rw [atKey_del_other (fun e2 => e (kyD_inj hn (by omega) (by omega) e2)), h1 q hq]
      simp [upd, e]
  · intro kl h
    by_cases e : kl = kyD n 0
    · rw [e, has_del_same] at h
      cases h
    · rw [has_del_other e] at h
      obtain ⟨p, q, r⟩ := h2 kl h
      refine ⟨p, ⟨?_, q.2⟩, r⟩
      have : p ≠ 0 := fun e2 => e (by rw [r, e2])
      omega

/-! ### m[k]++ -/
theorem lookup_cnt {n : Int} {w : World} {b m z N p : Nat} {f : Nat → Nat} {t : TypeId} (ht : Try.prog.underlying t = some (.map 77 3)) (hn : 0 ≤ n ∧ n ≤ 1000) (hN : N ≤ 1000) (hp : p < N) (h : Cnt n w b m z N f) :
    (Instr.lookup t (.map (some b)) (difV n p) false).run Try.prog w = .ok (.int .i64 (f p)) w := by
  obtain ⟨D, hown, h1, h2⟩ := h
  obtain ⟨c, hrun, hat, _⟩ := hown.lookup_int lawD ht Try.underlying3 (zeroN w) (kyD_is hn (show p ≤ 1000 by omega))
  rw [h1 p hp] at hat
  have hat : (f p : Int) = c := by injection hat with e1; injection e1
  rw [hat]
  exact hrun
theorem setBlock_inj {w : World} {b : Nat} {o o' : Obj} (hb : b < w.heap.size) (h : ChangeMaps.setBlock w b o = ChangeMaps.setBlock w b o') : o = o' := by
  have h1 : (ChangeMaps.setBlock w b o).heap[b]? = (ChangeMaps.setBlock w b o').heap[b]? := by rw [h]
  simpa [ChangeMaps.setBlock, hb] using h1
theorem ownsMap_same {H : Type} {P : Program} {k : TypeId} {R : Value → Option (DataW H × List MemPlace)} {w w' : World} {b n : Nat} {D : DataW H} (h : w.ownsMap P k R b n D) (e : w'.heap[b]? = w.heap[b]?) : w'.ownsMap P k R b n D := by
  obtain ⟨es, clock, hb, r⟩ := h
  exact ⟨es, clock, e.trans hb, r⟩
theorem upd_self {f : Nat → Nat} {p : Nat} (h : f p = 0) : upd f p 0 = f := by
  funext q
  unfold upd
  split
  · rename_i e; rw [e, h]
  · rfl
theorem entry_cnt {n : Int} {w : World} {b m z N p : Nat} {f : Nat → Nat} {t : TypeId} (ht : Try.prog.underlying t = some (.map 77 3)) (hn : 0 ≤ n ∧ n ≤ 1000) (hN : N ≤ 1000) (hmm : m ≤ 1000000) (hzp : z ≤ p) (hp : p < N) (h : Cnt n w b m z N f) :
    ∃ v0 st w1, (Instr.mapEntry t (.map (some b)) (difV n p)).run Try.prog w = .ok (.tuple #[v0, .int .i64 st]) w1 ∧ Cnt n w1 b (m + 1) z N f ∧ w.grownBy w1 (some b) ∧
      ∀ (w2 : World) (c : Nat), c ≤ 1000000 → w2.heap[b]? = w1.heap[b]? → ∃ w3, (Instr.entryStore t (.map (some b)) (.int .i64 st) (.int .i64 c)).run Try.prog w2 = .ok () w3 ∧ Cnt n w3 b (m + 1) z N (upd f p c) ∧ w2.grownBy w3 (some b) := by
  have hkey := kyD_is hn (show p ≤ 1000 by omega)
  have hlk := lookup_cnt ht hn hN hp h
  obtain ⟨D, hown, h1, h2⟩ := h
  have hown0 := hown
  obtain ⟨es, clock, hb, F, hs, hD⟩ := hown
  have hbl := hown0.lt
  obtain ⟨v0, st, es1, clock1, hrun, hv, hst⟩ := WideElems.entry_then_store lawK ht (z := .int .i64 0) zeroN hb F hkey
  have hg : ∀ (W : World) (o : Obj), W.grownBy (ChangeMaps.setBlock W b o) (some b) := fun W o => ⟨rfl, rfl, rfl, by simp [ChangeMaps.setBlock], fun i _ hi => by
    have hne : b ≠ i := fun e => hi (by rw [e])
    simp [ChangeMaps.setBlock, hne]⟩
  refine ⟨v0, st, _, hrun, ?_, hg _ _, ?_⟩
  · rcases lawK.find w hkey es.toList F.keys with ⟨q1, q2⟩ | ⟨j, e0, q1, q2, q3⟩
    · have hr : (Instr.mapEntry t (.map (some b)) (difV n p)).run Try.prog w = .ok (.tuple #[.int .i64 0, goInt clock]) (ChangeMaps.setBlock w b (.map (es.push ⟨difV n p, .int .i64 0, clock⟩) (clock + 1))) := by
        simp [Instr.mapEntry, run_underlying ht, MapKept.run_getObj_map hb, lawK.check w false hkey, q1, zeroN, MapKept.run_setObj_map _ hb, Result.andThen, ChangeMaps.setBlock]
      have hu : (Instr.mapUpdate t (.map (some b)) (difV n p) (.int .i64 0)).run Try.prog w = .ok () (ChangeMaps.setBlock w b (.map (es.push ⟨difV n p, .int .i64 0, clock⟩) (clock + 1))) := by
        simp [Instr.mapUpdate, run_underlying ht, MapKept.run_getObj_map hb, lawK.check w false hkey, q1, MapKept.run_setObj_map _ hb, Result.andThen, ChangeMaps.setBlock]
      have hl : (Instr.lookup t (.map (some b)) (difV n p) false).run Try.prog w = .ok (.int .i64 0) w := by
        simp [Instr.lookup, run_underlying ht, MapKept.run_getObj_map hb, lawK.check w es.isEmpty hkey, q1, zeroN, Result.andThen]
      have hf0 : f p = 0 := by
        rw [hl] at hlk
        injection hlk with e1 _
        injection e1 with _ e2
        omega
      rw [hrun] at hr
      injection hr with e1 e2
      obtain ⟨w', hrun', hown', _⟩ := hown0.update lawD ht (show m < maxLen by unfold maxLen; omega) hkey (plainElem_int Try.underlying3 (wfi (a := 0) (by omega)))
      rw [hu] at hrun'
      injection hrun' with _ e3
      have h3 := put_cnt (c := 0) hn hN hzp hp (hown0.tidy lawD).isMap h1 h2
      rw [upd_self hf0] at h3
      rw [e2, e3]
      exact ⟨_, hown', h3⟩
    · have hj : es[j]? = some e0 := by simpa using q2
      have hsame : es.modify j (fun e => { e with key := difV n p }) = es := by
        apply Array.ext'
        rw [Array.toList_modify, ChangeMaps.modify_eq_set _ _ _ _ q2]
        have : ({ e0 with key := difV n p } : MapEntry) = e0 := by rw [← q3]
        rw [this]
        exact WideElems.set_self _ _ _ q2
      have hr : ∃ v st, (Instr.mapEntry t (.map (some b)) (difV n p)).run Try.prog w = .ok (.tuple #[v, st]) (ChangeMaps.setBlock w b (.map es clock)) := by
        refine ⟨e0.val, goInt e0.born, ?_⟩
        simp [Instr.mapEntry, run_underlying ht, MapKept.run_getObj_map hb, lawK.check w false hkey, q1, hj, q3, lawK.stays w hkey, hsame, MapKept.run_setObj_map _ hb, Result.andThen, ChangeMaps.setBlock]
      obtain ⟨v, st', hr⟩ := hr
      rw [hrun] at hr
      injection hr with e1 e2
      rw [e2]
      refine ⟨D, (ownsMap_same hown0 ?_).mono (Nat.le_succ _), h1, h2⟩
      rw [hb]
      simp [ChangeMaps.setBlock, hbl]
  · intro w2 c hc he
    have hb1 : (ChangeMaps.setBlock w b (.map es1 clock1)).heap[b]? = some (.map es1 clock1) := by simp [ChangeMaps.setBlock, hbl]
    obtain ⟨es', clock', hr3, hr4⟩ := hst w2 (.int .i64 c) (he.trans hb1)
    obtain ⟨w', hrun', hown', _⟩ := hown0.update lawD ht (show m < maxLen by unfold maxLen; omega) hkey (plainElem_int Try.underlying3 (wfi (a := (c : Int)) (by omega)))
    rw [hr4] at hrun'
    injection hrun' with _ e3
    refine ⟨_, hr3, ⟨_, ownsMap_same hown' ?_, put_cnt hn hN hzp hp (hown0.tidy lawD).isMap h1 h2⟩, hg _ _⟩
    have hb2 : b < w2.heap.size := by
      have := he.trans hb1
      exact (Array.getElem?_eq_some_iff.1 this).1
    rw [← e3]
    simp [ChangeMaps.setBlock, hbl, hb2]

/-! ### a range over such a map -/
/-- Under way: r the iterator's block, lf p: the difference p is still to come. -/
def Rng (n : Int) (w : World) (b r m z N : Nat) (f : Nat → Nat) (lf : Nat → Bool) (cnt : Nat) : Prop :=
  ∃ (D : DataW Unit) (left : Lit → Bool), w.ranges Try.prog 77 (plainElem Try.prog 3) b r m D left cnt ∧
    (∀ p, p < N → D.atKey (kyD n p) (.lit (.int .i64 0)) = .lit (.int .i64 (f p))) ∧ (∀ kl, Maps.has D kl = true → ∃ p, (z ≤ p ∧ p < N) ∧ kl = kyD n p) ∧ (∀ p, p < N → left (kyD n p) = lf p)
theorem Rng.left_eq {n : Int} {w : World} {b r m z N : Nat} {f : Nat → Nat} {lf : Nat → Bool} {cnt : Nat} (h : Rng n w b r m z N f lf cnt) : w.rangeLeft b r = cnt := by
  obtain ⟨D, left, h, _⟩ := h; exact h.left_eq
theorem Rng.kept {n : Int} {w w' : World} {b r m z N : Nat} {f : Nat → Nat} {lf : Nat → Bool} {cnt : Nat} (h : Rng n w b r m z N f lf cnt) {row : Option Nat} (hg : w.grownBy w' row) (hb : some b ≠ row) (hr : some r ≠ row) : Rng n w' b r m z N f lf cnt := by
  obtain ⟨D, left, h, h2⟩ := h
  exact ⟨D, left, h.kept hg hb hr, h2⟩
theorem Rng.below {n : Int} {w w' : World} {b r m z N : Nat} {f : Nat → Nat} {lf : Nat → Bool} {cnt : Nat} (h : Rng n w b r m z N f lf cnt) (hb : Below w.heap.size w w') : Rng n w' b r m z N f lf cnt := h.kept (grown_of_below hb none) (by simp) (by simp)
theorem Rng.lt {n : Int} {w : World} {b r m z N : Nat} {f : Nat → Nat} {lf : Nat → Bool} {cnt : Nat} (h : Rng n w b r m z N f lf cnt) : b < w.heap.size ∧ r < w.heap.size ∧ r ≠ b := by
  obtain ⟨D, left, h, _⟩ := h; exact ⟨h.owns.lt, h.lt, h.ne⟩

section
variable (w : World) {ops : Array Oper} {rest : List Oper} {o : Oper} {a : Act} {Q : Exit → Act → World → Prop}
/-- 'range m'. -/
theorem wpList_range_cnt (hg : o.guard = none) (x : Operand) (t : TypeId) (hop : o.op = Op.range t x) (ht : Try.prog.underlying t = some (.map 77 3)) (n : Int) (b m z N : Nat) (f : Nat → Nat)
    (hm : a.eval x = .map (some b)) (hc : Cnt n w b m z N f)
    (hK : ∀ w' lf cnt, Rng n w' b w.heap.size m z N f lf cnt → (∀ p, p < N → lf p = false → f p = 0) → w.grownBy w' none → w'.heap.size = w.heap.size + 1 → wpList Try.prog ops Q rest (a.put o.dst (.pointer (some ⟨w.heap.size, 0, none⟩))) w') :
    wpList Try.prog ops Q (o :: rest) a w := by
  obtain ⟨D, hown, h1, h2⟩ := hc
  refine wpList_range_own w hg x t hop _ _ lawD ht _ b m D hm hown fun w' hr hgr hsz => ?_
  refine hK w' (fun p => Maps.has D (kyD n p)) _ ⟨D, _, hr, h1, h2, fun p _ => rfl⟩ (fun p hp hf => ?_) hgr hsz
  have h3 := h1 p hp
  rw [atKey_of_not_has hf] at h3
  have h4 : (0 : Int) = (f p : Int) := by injection h3 with e1; injection e1
  omega
/-- One step of it. -/
theorem wpList_next_cnt (hg : o.guard = none) (it : Operand) (hop : o.op = Op.next it false) (n : Int) (hn : 0 ≤ n ∧ n ≤ 1000) (b r m z N : Nat) (hN : N ≤ 1000) (f : Nat → Nat) (lf : Nat → Bool) (cnt : Nat)
    (hit : a.eval it = .pointer (some ⟨r, 0, none⟩)) (h : Rng n w b r m z N f lf cnt)
    (hDone : (∀ p, p < N → lf p = false) → wpList Try.prog ops Q rest (a.put o.dst (.tuple #[.bool false])) w)
    (hMore : ∀ (p : Nat) (w' : World) (cnt' : Nat), z ≤ p → p < N → lf p = true → Rng n w' b r m z N f (fun q => lf q && !decide (q = p)) cnt' → cnt' < cnt → w.grownBy w' (some r) → w'.heap.size = w.heap.size →
      (Instr.entry (.pointer (some ⟨r, 0, none⟩))).run Try.prog w' = .ok (.tuple #[difV n p, .int .i64 (f p)]) w' → wpList Try.prog ops Q rest (a.put o.dst (.tuple #[.bool true, difV n p, .int .i64 (f p)])) w') :
    wpList Try.prog ops Q (o :: rest) a w := by
  obtain ⟨D, left, h, h1, h2, h3⟩ := h
  refine wpList_plain hg fun K' hK' => ?_
  unfold Oper.wp
  rcases h.next lawD o.type with ⟨h0, hl, hrun⟩ | ⟨key, v, kl, y, w', cnt', hkey, hlk, hv, hat, hrun, hrg, hlt, hgr, hsz, hen⟩
  · simp [execOp, hop, hit, hrun, Result.andThen]
    exact hK' _ _ (hDone fun p hp => by rw [← h3 p hp, hl])
  · obtain ⟨p, ⟨hzp, hp⟩, rfl⟩ := h2 kl (has_true_of_atKey hat)
    obtain rfl : key = difV n p := lawD.inj hkey (kyD_is hn (by omega))
    obtain ⟨c, rfl, hc, _⟩ := plainElem_int_inv Try.underlying3 hv
    obtain rfl : c = (f p : Int) := by
      have h4 := h1 p hp
      rw [hat, hc] at h4
      injection h4 with e1; injection e1
    simp [execOp, hop, hit, hrun, Result.andThen]
    refine hK' _ _ (hMore p w' cnt' hzp hp (by rw [← h3 p hp]; exact hlk) ⟨D, _, hrg, h1, h2, fun q hq => ?_⟩ hlt hgr hsz hen)
    simp only [h3 q hq, kyD_same hn (show q ≤ 1000 by omega) (show p ≤ 1000 by omega)]
/-- 'm[k]'. -/
theorem wpList_lookup_cnt (hg : o.guard = none) (x y : Operand) (t : TypeId) (hop : o.op = Op.lookup t x y false) (ht : Try.prog.underlying t = some (.map 77 3)) (n : Int) (hn : 0 ≤ n ∧ n ≤ 1000) (b m z N : Nat) (hN : N ≤ 1000) (f : Nat → Nat) (p : Nat) (hp : p < N)
    (hm : a.eval x = .map (some b)) (hc : Cnt n w b m z N f) (hx : a.eval y = difV n p) (hK : wpList Try.prog ops Q rest (a.put o.dst (.int .i64 (f p))) w) : wpList Try.prog ops Q (o :: rest) a w := by
  obtain ⟨D, hown, h1, h2⟩ := hc
  refine wpList_lookup_own_int w hg x y t hop _ _ .i64 lawD ht Try.underlying3 (zeroN _) b m D hm hown _ _ hx (kyD_is hn (by omega)) fun c hat _ => ?_
  rw [h1 p hp] at hat
  obtain rfl : (f p : Int) = c := by injection hat with e1; injection e1
  exact hK
/-- 'm[k] = c'. -/
theorem wpList_store_cnt (hg : o.guard = none) (x y v : Operand) (t : TypeId) (hop : o.op = Op.mapUpdate t x y v) (ht : Try.prog.underlying t = some (.map 77 3)) (n : Int) (hn : 0 ≤ n ∧ n ≤ 1000) (b m z N : Nat) (hN : N ≤ 1000) (hmm : m ≤ 1000000) (f : Nat → Nat) (p : Nat) (hzp : z ≤ p) (hp : p < N) (c : Nat) (hcb : c ≤ 1000000)
    (hm : a.eval x = .map (some b)) (hc : Cnt n w b m z N f) (hx : a.eval y = difV n p) (hv : a.eval v = .int .i64 c) (hK : ∀ w', Cnt n w' b (m + 1) z N (upd f p c) → w.grownBy w' (some b) → wpList Try.prog ops Q rest (a.put o.dst undef) w') : wpList Try.prog ops Q (o :: rest) a w := by
  obtain ⟨D, hown, h1, h2⟩ := hc
  refine wpList_mapUpdate_own w hg x y v t hop _ _ lawD ht _ b m D hm hown (by unfold maxLen; omega) _ _ _ hx hv (kyD_is hn (by omega)) _ [] (plainElem_int Try.underlying3 (wfi (by omega))) fun w' hown' hgr => ?_
  have h3 := put_cnt (c := c) hn hN hzp hp (hown.tidy lawD).isMap h1 h2
  exact hK w' ⟨_, hown', h3⟩ hgr
/-- 'delete(m, k)'. -/
theorem wpList_delete_cnt (hg : o.guard = none) (x y : Operand) (t : TypeId) (hop : o.op = Op.call { callee := Callee.builtin Builtin.delete, args := #[x, y], argTypes := #[t, 77] }) (ht : Try.prog.underlying t = some (.map 77 3)) (n : Int) (hn : 0 ≤ n ∧ n ≤ 1000) (b m N : Nat) (hN : N ≤ 1000) (f : Nat → Nat) (hp : 0 < N)
    (hm : a.eval x = .map (some b)) (hc : Cnt n w b m 0 N f) (hx : a.eval y = difV n 0) (hK : ∀ w', Cnt n w' b m 1 N (upd f 0 0) → w.grownBy w' (some b) → wpList Try.prog ops Q rest (a.put o.dst (.tuple #[])) w') : wpList Try.prog ops Q (o :: rest) a w := by
  obtain ⟨D, hown, h1, h2⟩ := hc
  refine wpList_delete_own w hg x y t _ hop _ lawD ht _ b m D hm hown _ _ hx (kyD_is hn (by omega)) fun w' hown' hgr => ?_
  exact hK w' ⟨_, hown', del_cnt hn hN hp h1 h2⟩ hgr.grown
end

/-! ### numbers seen: map[int]bool -/
/-- The map in block b holds true at the numbers of L, nothing else. -/
def Seen (w : World) (b m : Nat) (L : List Int) : Prop :=
  ∃ D : DataW Unit, w.ownsMap Try.prog 3 (plainElem Try.prog 4) b m D ∧ ∀ z : Int, D.atKey (.int .i64 z) (.lit (.bool false)) = .lit (.bool (decide (z ∈ L)))
theorem Seen.made (w : World) : Seen (w.alloc (.map #[] 0)) w.heap.size 0 [] := ⟨.map [], World.ownsMap_made _ _ _ _, fun z => by rw [atKey_of_not_has (by rfl)]; simp⟩
theorem Seen.lt {w : World} {b m : Nat} {L : List Int} (h : Seen w b m L) : b < w.heap.size := by obtain ⟨D, h, _⟩ := h; exact h.lt
theorem Seen.kept {w w' : World} {b m : Nat} {L : List Int} (h : Seen w b m L) {row : Option Nat} (hg : w.grownBy w' row) (hne : some b ≠ row) : Seen w' b m L := by
  obtain ⟨D, h, h2⟩ := h
  exact ⟨D, h.kept hg hne, h2⟩
theorem Seen.below {w w' : World} {b m : Nat} {L : List Int} (h : Seen w b m L) (hb : Below w.heap.size w w') : Seen w' b m L := h.kept (grown_of_below hb none) (by simp)
theorem plainElem_bool_inv {H : Type} {P : Program} {e : TypeId} (he : P.underlying e = some .bool) {v : Value} {z : DataW H × List MemPlace} (h : plainElem P e v = some z) : ∃ x, v = .bool x ∧ z = (.lit (.bool x), []) := by
  unfold plainElem at h
  rw [he] at h
  cases v <;> simp at h
  exact ⟨_, rfl, h.symm⟩
section
variable (w : World) {ops : Array Oper} {rest : List Oper} {o : Oper} {a : Act} {Q : Exit → Act → World → Prop}
theorem wpList_lookup_seen (hg : o.guard = none) (x y : Operand) (t : TypeId) (hop : o.op = Op.lookup t x y false) (ht : Try.prog.underlying t = some (.map 3 4)) (b m : Nat) (L : List Int) (z : Int) (hz : -9223372036854775808 ≤ z ∧ z ≤ 9223372036854775807)
    (hm : a.eval x = .map (some b)) (hc : Seen w b m L) (hx : a.eval y = .int .i64 z) (hK : wpList Try.prog ops Q rest (a.put o.dst (.bool (decide (z ∈ L)))) w) : wpList Try.prog ops Q (o :: rest) a w := by
  obtain ⟨D, hown, h1⟩ := hc
  refine wpList_plain hg fun K' hK' => ?_
  obtain ⟨v, ps, hrun, hv⟩ := hown.lookup lawN ht (zeroB w) (plainElem_bool Try.underlying4 false) (keyOf_int_mk Try.underlying3 (wfi hz))
  rw [h1 z] at hv
  obtain ⟨x', rfl, hx'⟩ := plainElem_bool_inv Try.underlying4 hv
  obtain rfl : decide (z ∈ L) = x' := by
    injection hx' with e1 _; injection e1 with e2; injection e2
  unfold Oper.wp
  simp [execOp, hop, hm, hx, hrun, Result.andThen]
  exact hK' _ _ hK
theorem wpList_store_seen (hg : o.guard = none) (x y v : Operand) (t : TypeId) (hop : o.op = Op.mapUpdate t x y v) (ht : Try.prog.underlying t = some (.map 3 4)) (b m : Nat) (hmm : m ≤ 1000000) (L : List Int) (z : Int) (hz : -9223372036854775808 ≤ z ∧ z ≤ 9223372036854775807)
    (hm : a.eval x = .map (some b)) (hc : Seen w b m L) (hx : a.eval y = .int .i64 z) (hv : a.eval v = .bool true) (hK : ∀ w', Seen w' b (m + 1) (L ++ [z]) → w.grownBy w' (some b) → wpList Try.prog ops Q rest (a.put o.dst undef) w') : wpList Try.prog ops Q (o :: rest) a w := by
  obtain ⟨D, hown, h1⟩ := hc
  have hkey := keyOf_int_mk Try.underlying3 (wfi hz)
  refine wpList_mapUpdate_own w hg x y v t hop _ _ lawN ht _ b m D hm hown (by unfold maxLen; omega) _ _ _ hx hv hkey _ [] (plainElem_bool Try.underlying4 true) fun w' hown' hgr => ?_
  refine hK w' ⟨_, hown', fun q => ?_⟩ hgr
  by_cases e : q = z
  · subst e
    rw [atKey_put_same (hown.tidy lawN).isMap (lawN.key hkey)]
    simp
  · rw [atKey_put_other (fun e2 => e (by injection e2)), h1 q]
    simp [e]
end
end Go.Proofs.Ytjgjcppkbfojpaa.Rhy
