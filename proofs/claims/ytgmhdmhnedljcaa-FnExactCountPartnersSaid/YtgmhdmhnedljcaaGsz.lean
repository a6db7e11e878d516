/-
  Helpers of the claims beside this text: steps of a goroutine whose memory lies apart.
-/
import Derived.Test.YtgmhdmhnedljcaaGow
import Derived.Test.YtgmhdmhnedljcaaGqa
import Derived.Conc.CompanyMem
import Derived.Conc.AppendWalk
import Derived.Deep.AppendLies
import Derived.Test.YtgmhdmhnedljcaaRhy
import Derived.Test.YtgmhdmhnedljcaaProg
import Derived.Test.YtgmhdmhnedljcaaPop
namespace Go.Proofs.Ytgmhdmhnedljcaa.Co
open Go Go.Conc Go.RowKit
set_option linter.unusedSimpArgs false
set_option linter.unusedVariables false

/-- A goroutine's ghost: Gqc's. -/
abbrev Gh := Side (List Int)
/-- Nothing but memory is turned, and none of these blocks that were there. -/
structure Kept (own : Nat → Prop) (w w' : World) : Prop where
  os : w'.os = w.os
  tape : w'.tape = w.tape
  output : w'.output = w.output
  size : w.heap.size ≤ w'.heap.size
  block : ∀ k, k < w.heap.size → own k → w'.heap[k]? = w.heap[k]?
theorem Kept.refl (own : Nat → Prop) (w : World) : Kept own w w := ⟨rfl, rfl, rfl, Nat.le_refl _, fun _ _ _ => rfl⟩
theorem Kept.trans {own : Nat → Prop} {a b d : World} (h : Kept own a b) (k : Kept own b d) : Kept own a d :=
  ⟨k.os.trans h.os, k.tape.trans h.tape, k.output.trans h.output, Nat.le_trans h.size k.size, fun i hi ho => (k.block i (Nat.lt_of_lt_of_le hi h.size) ho).trans (h.block i hi ho)⟩
theorem Stays.kept {own : Nat → Prop} {w w' : World} (h : Stays own w w') : Kept own w w' := ⟨h.os, h.tape, h.output, h.size, fun k _ hk => h.block k hk⟩
theorem Stays.cell {own : Nat → Prop} {w w' : World} (h : Stays own w w') {a : Addr} (ho : own a.block) {v : Value} (hc : w.cell? a = some v) : w'.cell? a = some v := by
  unfold World.cell? at hc ⊢
  rw [h.block _ ho]
  exact hc
theorem own_same (s : Gh) (w : World) : s.own = fun k => s.own k ∨ (w.heap.size ≤ k ∧ k < w.heap.size) := by
  funext k
  rw [eq_iff_iff]
  constructor
  · exact .inl
  · rintro (h | h)
    · exact h
    · omega
/-- A step that turns nothing. -/
theorem Does.still {s : Gh} {w : World} {es : Array Event} (h : ∀ e ∈ es, EvP s.own e) : Does s w w es s := ⟨own_same s w, rfl, rfl, rfl, rfl, rfl, rfl, Nat.le_refl _, fun _ _ _ => rfl, h⟩
theorem evO_neutral {own : Nat → Prop} {m : Mark} (h : Neutral m) : EvP own ⟨.mark m, false, true⟩ := .inr (.inr ⟨m, rfl, h⟩)
theorem evO_cell {own : Nat → Prop} {e : Event} {ad : Addr} (h : e.loc = .cell ad) (ho : own ad.block) : EvP own e := .inl ⟨ad, h, ho⟩

end Go.Proofs.Ytgmhdmhnedljcaa.Co

/-
  Helpers of the claims beside this text: in company: what makes memory: append, alloc.
-/
namespace Go.Proofs.Ytgmhdmhnedljcaa.Co
open Go Go.Conc Go.RowKit
set_option linter.unusedSimpArgs false
set_option linter.unusedVariables false

/-- The ghost behind a step that has made memory. -/
def _root_.Go.Proofs.Ytgmhdmhnedljcaa.Co.Side.grow (s : Gh) (w w' : World) : Gh := { s with own := fun k => s.own k ∨ (w.heap.size ≤ k ∧ k < w'.heap.size) }
theorem Does.of {s : Gh} {w w' : World} {es : Array Event} (hk : Kept (fun k => ¬ s.own k ∨ s.fix k) w w') (he : ∀ e ∈ es, EvP (s.grow w w').own e) : Does s w w' es (s.grow w w') := ⟨rfl, rfl, rfl, rfl, hk.os, hk.tape, hk.output, hk.size, hk.block, he⟩

section
variable {P : Program} {main : Bool} {c : Nat} {Rep : List Int → Value → (Nat → Prop) → World → Prop} {s : Gh} {fn : FuncId} {Q : Exit → Gh → Act → World → Prop} {a : Act} {w : World}
/-- An append to a slice of one's own. -/
theorem opsI_append {ops : Array Oper} {i : Nat} {rest : List Nat} {o : Oper} (ho : ops[i]? = some o) (hw : Region.wanted o (yielded ops a.tmps) = true) (x y : Operand) (t e : TypeId)
    (hop : o.op = .call { callee := .builtin .append, args := #[x, y], argTypes := #[t, t] }) (ti : TypeInfo) (z : Value) (size bytes : Nat) (ht : P.underlying t = some (.slice e)) (hi : P.info? e = some ti) (hz : ti.zero = some z)
    (hsize : ti.size = size) (hby : ti.bytes = bytes) (hzs : z.cells.size = size) (hsz : 0 < size) (v : Value) (n : Nat) (xs : List Value) (N m cp : Nat) (news : List Value)
    (hs : a.eval x = v) (hx : a.eval y = .slice (some ⟨N, 0, none⟩) m cp) (hl : news.length = m * size) (h1 : ∀ u ∈ news, u.oneCell' = true) (hm : 0 < m) (h63 : n + m ≤ maxLen) (hbytes : (n + m) * bytes ≤ 140737488355328)
    (held : ∀ w₁, Stays s.own w w₁ → w₁.ownsRow 0 e size v n xs ∧ ∀ j u, news[j]? = some u → w₁.cell? ((⟨N, 0, none⟩ : Addr).add j) = some u)
    (mine : ∀ k, v.ownBlock = some k → s.own k ∧ ¬ s.fix k) (hN : s.own N)
    (next : ∀ w₁ g cap w', Stays s.own w w₁ → w'.ownsRow 0 e size (.slice (some ⟨g, 0, none⟩) (n + m) cap) (n + m) (xs ++ news) → w₁.grownBy w' v.ownBlock → (v.ownBlock = some g ∨ g = w₁.heap.size) → g < w'.heap.size →
      opsI P main c (dealB Rep) fn ops rest Q (s.grow w₁ w') (a.put o.dst (.slice (some ⟨g, 0, none⟩) (n + m) cap)) w') : opsI P main c (dealB Rep) fn ops (i :: rest) Q s a w := by
  refine opsI_cons ho hw fun w₁ h₁ => ?_
  obtain ⟨hown, hnews⟩ := held w₁ h₁
  obtain ⟨g, cap, w', hr, h2, h3, h4, h5⟩ := run_append_lies (P := P) w₁ t o.type 0 e ti z size bytes ht hi hz hsize hby hzs hsz v n xs hown ⟨N, 0, none⟩ m cp news hl hnews h1 hm h63 hbytes (Nat.zero_le _) _ rfl
  refine uponK_append x y t hop hs hx hr fun _ => ⟨s.grow w₁ w', Does.of ⟨h3.os, h3.tape, h3.output, h3.size, fun k hk hf => h3.block k hk fun e => ?_⟩ fun ev hev => ?_, next w₁ g cap w' h₁ h2 h3 h4 h5⟩
  · obtain ⟨m1, m2⟩ := mine k e.symm
    exact hf.elim (fun x => x m1) m2
  · have hev := mem_listed hev
    rw [events_append_op x y t hop hs hx] at hev
    rcases events_append_where w₁ 0 t o.type e ti z size bytes ht hi hz hsize hby v n xs hown ⟨N, 0, none⟩ m cp news hl hnews h1 h63 hbytes ev hev with ⟨ad, e1, e2⟩ | ⟨mk, rfl, hn⟩
    · refine evO_cell e1 (.inl ?_)
      rcases e2 with ⟨_, e2⟩ | e2
      · rw [e2]; exact hN
      · exact (mine _ e2.symm).1
    · exact evO_neutral hn
/-- An operation that makes one block. -/
theorem opsI_make {ops : Array Oper} {i : Nat} {rest : List Nat} {o : Oper} (ho : ops[i]? = some o) (hw : Region.wanted o (yielded ops a.tmps) = true) (obj : Obj) (val : Nat → Value)
    (hr : ∀ w₁, (execOp a.eval o).run P w₁ = .ok (.value (val w₁.heap.size)) (w₁.alloc obj)) (he : ∀ w₁, (execOp a.eval o).events P w₁ #[] = #[])
    (next : ∀ w₁, Stays s.own w w₁ → opsI P main c (dealB Rep) fn ops rest Q (s.grow w₁ (w₁.alloc obj)) (a.put o.dst (val w₁.heap.size)) (w₁.alloc obj)) : opsI P main c (dealB Rep) fn ops (i :: rest) Q s a w := by
  refine opsI_cons ho hw fun w₁ h₁ => ?_
  rw [hr w₁]
  refine fun _ => ⟨s.grow w₁ (w₁.alloc obj), Does.of ⟨rfl, rfl, rfl, by simp, fun k hk _ => Below.heap_alloc _ _ _ hk⟩ fun ev hev => ?_, next w₁ h₁⟩
  rw [listed_nil (he w₁)] at hev
  simp at hev
/-- An operation that turns cells of its own, makes nothing, yields nothing. -/
theorem opsI_turn {ops : Array Oper} {i : Nat} {rest : List Nat} {o : Oper} (ho : ops[i]? = some o) (hw : Region.wanted o (yielded ops a.tmps) = true) (f : World → World)
    (h : ∀ w₁, Stays s.own w w₁ → (execOp a.eval o).run P w₁ = .ok .skip (f w₁) ∧ Kept (fun k => ¬ s.own k ∨ s.fix k) w₁ (f w₁) ∧ (f w₁).heap.size = w₁.heap.size ∧ ∀ e ∈ listed P fn a o w₁, EvP s.own e)
    (next : ∀ w₁, Stays s.own w w₁ → opsI P main c (dealB Rep) fn ops rest Q s (a.put o.dst undef) (f w₁)) : opsI P main c (dealB Rep) fn ops (i :: rest) Q s a w := by
  refine opsI_cons ho hw fun w₁ h₁ => ?_
  obtain ⟨h2, h3, h4, h5⟩ := h w₁ h₁
  rw [h2]
  exact fun _ => ⟨s, ⟨by rw [h4]; exact own_same s w₁, rfl, rfl, rfl, h3.os, h3.tape, h3.output, h3.size, h3.block, h5⟩, next w₁ h₁⟩
theorem kept_set {own : Nat → Prop} {w : World} {p : Addr} {v : Value} (h : ¬ own p.block) : Kept own w (w.setCell p v) :=
  ⟨rfl, rfl, rfl, by simp, fun k hk ho => Below.heap_setCell _ _ _ _ (fun e => h (e ▸ ho))⟩
end
end Go.Proofs.Ytgmhdmhnedljcaa.Co

/-
  Helpers of the claims beside this text: isAll in company.
-/
namespace Go.Proofs.Ytgmhdmhnedljcaa.Co
open Go Go.Conc Go.RowKit
set_option linter.unusedSimpArgs false
set_option linter.unusedVariables false

section
variable {main : Bool} {c : Nat} {Rep : List Int → Value → (Nat → Prop) → World → Prop} {s : Gh}
/-- One cell that is held. -/
structure One1 (s : Gh) (w₀ : World) (a : Addr) (v : Value) (w : World) : Prop where
  mine : s.own a.block
  cell : w.cell? a = some v
  since : Stays s.own w₀ w
theorem One1.rely {w₀ w w₁ : World} {a : Addr} {v : Value} (h : One1 s w₀ a v w) (r : (dealB Rep).R s w w₁) : One1 s w₀ a v w₁ := ⟨h.mine, Stays.cell r h.mine h.cell, h.since.trans r⟩

set_option maxRecDepth 100000 in
theorem isAll_c (n x : Nat) (hn : 1 ≤ n ∧ n ≤ 24) (hx : x < 16777216) (b : Nat) (w : World) (ho : s.own b) (hc : w.cell? ⟨b, 0, none⟩ = some (.int .i64 n)) :
    CallsI Try.prog main c (dealB Rep) 42 #[.pointer (some ⟨b, 0, none⟩), .int .i64 x] s w fun v s' w' => v = .bool (decide (x = 2 ^ n - 1)) ∧ s' = s ∧ Stays s.own w w' := by
  refine callsI_of Try.func42 (by rfl) rfl ?_
  have hF : One1 s w ⟨b, 0, none⟩ (.int .i64 n) w := ⟨ho, hc, .refl _ _⟩
  clear hc
  simp only [Try.ntmps42, List.size_toArray, List.length_cons, List.length_nil, Nat.reduceAdd, Nat.reduceSub, Array.replicate_succ, Array.replicate_zero, List.push_toArray, List.append_toArray, List.nil_append, List.cons_append]
  (repeat (first | (refine wpI_region ?_; simp only [List.size_toArray, List.length_cons, List.length_nil, Nat.reduceAdd, Nat.zero_add, List.range, List.range.loop]) | (refine opsI_cons_k rfl (by rfl) ?_
                                                                                                                                                                         intro _ hRq Kq hKq
                                                                                                                                                                         replace hF := (One1.rely) hF hRq
                                                                                                                                                                         clear hRq
                                                                                                                                                                         (have hcc := hF.cell)
                                                                                                                                                                         go_simp
                                                                                                                                                                         refine hKq _ _ ⟨s, ?_, ?_⟩
                                                                                                                                                                         · (refine Does.still ?_; (intro e he; have hm := mem_listed he; (simp [go_sem, *] at hm) <;> (first | (rw [hm]; exact evO_cell rfl hF.mine) | (rcases hm with hm | hm <;> (rw [hm]; exact evO_cell rfl hF.mine)))))
                                                                                                                                                                         clear hKq Kq
                                                                                                                                                                         try walk_nrm
                                                                                                                                                                         repeat (rw [IntWalk.i64_in _ ⟨by omega, by omega⟩])) | ((first | refine wpI_seq ?_ | refine wpI_block ?_ | refine wpI_skip ?_ | refine wpI_label ?_ | refine wpI_ret ?_ | refine wpI_exit ?_ | refine opsI_nil ?_); try (simp only [thenI, inBlockI, if_true, if_false, reduceIte, Nat.reduceEqDiff])) | (refine wpI_cond (by exact rfl) ?_; simp only [if_true, if_false, reduceIte, Bool.false_eq_true])))
  refine ⟨rfl, _, ResI.of (resultsC_tmp (by rfl) _), ?_, rfl, hF.since⟩
  have h1 : 1 ≤ 2 ^ n := Nat.one_le_two_pow
  have h2 : 2 ^ n ≤ 2 ^ 24 := Nat.pow_le_pow_right (by omega) hn.2
  have h3 : (2 : Int) ^ n = ((2 ^ n : Nat) : Int) := by simp
  have h4 : IntKind.i64.wrap (IntKind.i64.wrap ((2 : Int) ^ n) - 1) = ((2 ^ n - 1 : Nat) : Int) := by
    rw [h3]
    generalize 2 ^ n = q at h1 h2
    rw [IntWalk.i64_in (q : Int) ⟨by omega, by omega⟩, IntWalk.i64_in _ ⟨by omega, by omega⟩]
    omega
  show Value.bool (((x : Nat) : Int) == IntKind.i64.wrap (IntKind.i64.wrap ((2 : Int) ^ n) - 1)) = _
  rw [h4]
  congr 1
  rw [Bool.eq_iff_iff, beq_iff_eq, decide_eq_true_eq]
  omega
end
end Go.Proofs.Ytgmhdmhnedljcaa.Co

/-
  Helpers of the claims beside this text: rhythmOfBits in company.
-/
namespace Go.Proofs.Ytgmhdmhnedljcaa.Co
open Go Go.Conc Go.RowKit Rhy
set_option linter.unusedVariables false
set_option linter.unusedSimpArgs false

/-- What stands behind a call that has made memory: what was owned is owned, and as it was; nothing more is fixed. -/
structure Behind (s : Gh) (w : World) (s' : Gh) (w' : World) : Prop where
  own : ∀ k, s.own k → s'.own k
  fix : s'.fix = s.fix
  rem : s'.rem = s.rem
  got : s'.got = s.got
  kept : Kept s.own w w'
  low : (∀ k, s.own k → k < w.heap.size) → ∀ k, s'.own k → k < w'.heap.size
theorem Behind.refl (s : Gh) (w : World) : Behind s w s w := ⟨fun _ h => h, rfl, rfl, rfl, Kept.refl _ _, fun h => h⟩
theorem Behind.rely {s s' : Gh} {w w' w₁ : World} (h : Behind s w s' w') (r : Stays s'.own w' w₁) : Behind s w s' w₁ :=
  ⟨h.own, h.fix, h.rem, h.got, h.kept.trans ⟨r.os, r.tape, r.output, r.size, fun k hk ho => r.block k (h.own k ho)⟩, fun hl k hk => Nat.lt_of_lt_of_le (h.low hl k hk) r.size⟩
theorem Behind.make {s s' : Gh} {w w' : World} (h : Behind s w s' w') (o : Obj) : Behind s w (s'.grow w' (w'.alloc o)) (w'.alloc o) :=
  ⟨fun k hk => .inl (h.own k hk), h.fix, h.rem, h.got, h.kept.trans ⟨rfl, rfl, rfl, by simp, fun k hk _ => Below.heap_alloc _ _ _ hk⟩, fun hl k hk => hk.elim (fun q => by have := h.low hl k q; simp; omega) fun q => q.2⟩

section
variable {main : Bool} {c : Nat} {Rep : List Int → Value → (Nat → Prop) → World → Prop} {s : Gh}
/-- One's own box. -/
structure BoxC (s : Gh) (w : World) (b : Nat) (v0 v1 : Value) : Prop where
  mine : s.own b
  free : ¬ s.fix b
  box : Box w b v0 v1 28
theorem BoxC.rely {w w₁ : World} {b : Nat} {v0 v1 : Value} (h : BoxC s w b v0 v1) (r : Stays s.own w w₁) : BoxC s w₁ b v0 v1 := ⟨h.mine, h.free, by have := r.block b h.mine; unfold Box; rw [this]; exact h.box⟩
theorem BoxC.grow {w : World} {b : Nat} {v0 v1 : Value} (h : BoxC s w b v0 v1) (o : Obj) : BoxC (s.grow w (w.alloc o)) (w.alloc o) b v0 v1 :=
  ⟨.inl h.mine, h.free, by have := Below.heap_alloc w o b h.box.lt; unfold Box; rw [this]; exact h.box⟩
theorem boxC_new {w : World} (v0 v1 : Value) (hfx : ∀ k, s.fix k → k < w.heap.size) : BoxC (s.grow w (w.alloc (.cells #[v0, v1] 28))) (w.alloc (.cells #[v0, v1] 28)) w.heap.size v0 v1 :=
  ⟨.inr ⟨Nat.le_refl _, by simp⟩, fun h => Nat.lt_irrefl _ (hfx _ h), box_new w v0 v1 _⟩
theorem BoxC.set {w : World} {b : Nat} {v0 v1 : Value} (h : BoxC s w b v0 v1) (u0 u1 : Value) : BoxC s ((w.setCell ⟨b, 0, none⟩ u0).setCell ⟨b, 1, none⟩ u1) b u0 u1 := ⟨h.mine, h.free, (h.box.set0 u0).set1 u1⟩
theorem BoxC.set1 {w : World} {b : Nat} {v0 v1 : Value} (h : BoxC s w b v0 v1) (u1 : Value) : BoxC s (w.setCell ⟨b, 1, none⟩ u1) b v0 u1 := ⟨h.mine, h.free, h.box.set1 u1⟩
theorem BoxC.other {w : World} {b d o : Nat} {v0 v1 : Value} (h : BoxC s w b v0 v1) (u : Value) (hd : d ≠ b) : BoxC s (w.setCell ⟨d, o, none⟩ u) b v0 v1 := ⟨h.mine, h.free, h.box.other u hd⟩
theorem Behind.set {s' : Gh} {w w' : World} (h : Behind s w s' w') {b o : Nat} (hb : ¬ s.own b) (u : Value) : Behind s w s' (w'.setCell ⟨b, o, none⟩ u) := ⟨h.own, h.fix, h.rem, h.got, h.kept.trans (kept_set hb), fun hl k hk => by simpa using h.low hl k hk⟩
theorem kept_two {w : World} {b : Nat} (hm : s.own b) (hf : ¬ s.fix b) (u0 u1 : Value) : Kept (fun k => ¬ s.own k ∨ s.fix k) w ((w.setCell ⟨b, 0, none⟩ u0).setCell ⟨b, 1, none⟩ u1) :=
  (kept_set (p := ⟨b, 0, none⟩) fun h => h.elim (fun x => x hm) hf).trans (kept_set (p := ⟨b, 1, none⟩) fun h => h.elim (fun x => x hm) hf)
/-- Behind the first box, and the second. -/
structure Held (s : Gh) (w : World) (s' : Gh) (w' : World) (r : Nat) : Prop where
  beh : Behind s w s' w'
  res : BoxC s' w' r (.int .i64 0) (.slice none 0 0)
theorem Held.rely {w : World} {s' : Gh} {w' w₁ : World} {r : Nat} (h : Held s w s' w' r) (k : Stays s'.own w' w₁) : Held s w s' w₁ r := ⟨h.beh.rely k, h.res.rely k⟩
theorem ev_store_slice (P : Program) (w : World) (es : Array Event) (a : Addr) (m : Mode) (p : Option Addr) (l k : Nat) : (store a (.slice p l k) m).events P w es = storedEv P w es a (.slice p l k) m := events_store P w es a _ m rfl
attribute [local go_sem] ev_store_slice
structure Held2 (s : Gh) (w : World) (s' : Gh) (w' : World) (r b : Nat) (v0 v1 : Value) : Prop where
  beh : Behind s w s' w'
  res : BoxC s' w' r (.int .i64 0) (.slice none 0 0)
  loc : BoxC s' w' b v0 v1
theorem Held2.rely {w : World} {s' : Gh} {w' w₁ : World} {r b : Nat} {v0 v1 : Value} (h : Held2 s w s' w' r b v0 v1) (k : Stays s'.own w' w₁) : Held2 s w s' w₁ r b v0 v1 := ⟨h.beh.rely k, h.res.rely k, h.loc.rely k⟩
theorem own_kept {w w₁ : World} {B e size n : Nat} {v : Value} {xs : List Value} (h : w.ownsRow B e size v n xs) (hm : ∀ j, v.ownBlock = some j → s.own j) (k : Kept s.own w w₁) : w₁.ownsRow B e size v n xs := by
  obtain ⟨h1, h2 | ⟨g, cap, cur, rfl, hb, hg, rest⟩⟩ := h
  · exact ⟨h1, .inl h2⟩
  · refine ⟨h1, .inr ⟨g, cap, cur, rfl, hb, ?_, rest⟩⟩
    have hlt : g < w.heap.size := by
      rcases Nat.lt_or_ge g w.heap.size with h' | h'
      · exact h'
      · rw [Array.getElem?_eq_none h'] at hg; cases hg
    rw [k.block g hlt (hm g rfl)]
    exact hg
/-- .. with the row that the second one holds. -/
structure Held3 (s : Gh) (w : World) (s' : Gh) (w' : World) (r b : Nat) (v0 : Value) (av : Option Addr) (L : List Int) (cv : Nat) : Prop where
  two : Held2 s w s' w' r b v0 (.slice av L.length cv)
  row : w'.ownsRow 0 3 1 (.slice av L.length cv) L.length (ints L)
  mine : ∀ j, (Value.slice av L.length cv).ownBlock = some j → s'.own j ∧ ¬ s'.fix j ∧ j ≠ b ∧ j ≠ r ∧ ¬ s.own j
theorem Held3.rely {w : World} {s' : Gh} {w' w₁ : World} {r b : Nat} {v0 : Value} {av : Option Addr} {L : List Int} {cv : Nat} (h : Held3 s w s' w' r b v0 av L cv) (k : Stays s'.own w' w₁) : Held3 s w s' w₁ r b v0 av L cv :=
  ⟨h.two.rely k, own_kept h.row (fun j hj => (h.mine j hj).1) k.kept, h.mine⟩
theorem Held3.make {w : World} {s' : Gh} {w' : World} {r b : Nat} {v0 : Value} {av : Option Addr} {L : List Int} {cv : Nat} (h : Held3 s w s' w' r b v0 av L cv) (o : Obj) : Held3 s w (s'.grow w' (w'.alloc o)) (w'.alloc o) r b v0 av L cv :=
  ⟨⟨h.two.beh.make o, h.two.res.grow o, h.two.loc.grow o⟩, h.row.alloc o, fun j hj => ⟨.inl (h.mine j hj).1, (h.mine j hj).2⟩⟩
theorem BoxC.grown {w w' : World} {b : Nat} {v0 v1 : Value} {row : Option Nat} (h : BoxC s w b v0 v1) (g : w.grownBy w' row) (hr : row ≠ some b) : BoxC (s.grow w w') w' b v0 v1 :=
  ⟨.inl h.mine, h.free, by unfold Box; rw [g.block b h.box.lt (fun e => hr e.symm)]; exact h.box⟩
theorem Held3.app2 {w : World} {s' : Gh} {w' w₂ : World} {r b : Nat} {v0 : Value} {av : Option Addr} {L : List Int} {cv : Nat} (h : Held3 s w s' w' r b v0 av L cv) (hg : w'.grownBy w₂ (Value.slice av L.length cv).ownBlock) :
    Held2 s w (s'.grow w' w₂) w₂ r b v0 (.slice av L.length cv) :=
    ⟨⟨fun k hk => .inl (h.two.beh.own k hk), h.two.beh.fix, h.two.beh.rem, h.two.beh.got, h.two.beh.kept.trans ⟨hg.os, hg.tape, hg.output, hg.size, fun k hk ho => hg.block k hk fun e => (h.mine k e.symm).2.2.2.2 ho⟩, fun hl k hk => hk.elim (fun q => Nat.lt_of_lt_of_le (h.two.beh.low hl k q) hg.size) fun q => q.2⟩,
      h.two.res.grown hg fun e => (h.mine r e).2.2.2.1 rfl, h.two.loc.grown hg fun e => (h.mine b e).2.2.1 rfl⟩
/-- The box holds v1 still, the row is made. -/
structure Held4 (s : Gh) (w : World) (s' : Gh) (w' : World) (r b : Nat) (v0 v1 : Value) (av : Option Addr) (L : List Int) (cv : Nat) : Prop where
  two : Held2 s w s' w' r b v0 v1
  row : w'.ownsRow 0 3 1 (.slice av L.length cv) L.length (ints L)
  mine : ∀ j, (Value.slice av L.length cv).ownBlock = some j → s'.own j ∧ ¬ s'.fix j ∧ j ≠ b ∧ j ≠ r ∧ ¬ s.own j
theorem Held4.rely {w : World} {s' : Gh} {w' w₁ : World} {r b : Nat} {v0 v1 : Value} {av : Option Addr} {L : List Int} {cv : Nat} (h : Held4 s w s' w' r b v0 v1 av L cv) (k : Stays s'.own w' w₁) : Held4 s w s' w₁ r b v0 v1 av L cv :=
  ⟨h.two.rely k, own_kept h.row (fun j hj => (h.mine j hj).1) k.kept, h.mine⟩
theorem Held4.set {w : World} {s' : Gh} {w' : World} {r b : Nat} {v0 v1 : Value} {av : Option Addr} {L : List Int} {cv : Nat} (h : Held4 s w s' w' r b v0 v1 av L cv) (hnb : ¬ s.own b) (hbr : b ≠ r) :
    Held3 s w s' (w'.setCell ⟨b, 1, none⟩ (.slice av L.length cv)) r b v0 av L cv := by
  refine ⟨⟨h.two.beh.set hnb _, h.two.res.other _ hbr, h.two.loc.set1 _⟩, ?_, h.mine⟩
  exact own_kept (s := ⟨fun k => (Value.slice av L.length cv).ownBlock = some k, fun _ => False, [], []⟩) h.row (fun j hj => hj) (kept_set fun e => (h.mine b e).2.2.1 rfl)
/-- Behind an append. -/
theorem Held3.app {w : World} {s' : Gh} {w' w₂ : World} {r b g cap : Nat} {v0 : Value} {av : Option Addr} {L : List Int} {t : Int} {cv : Nat} (h : Held3 s w s' w' r b v0 av L cv) (hg : w'.grownBy w₂ (Value.slice av L.length cv).ownBlock)
    (hown : w₂.ownsRow 0 3 1 (.slice (some ⟨g, 0, none⟩) (L.length + 1) cap) (L.length + 1) (ints L ++ [.int .i64 t])) (hat : (Value.slice av L.length cv).ownBlock = some g ∨ g = w'.heap.size) (hlt : g < w₂.heap.size)
    (hox : ∀ k, s.own k → k < w.heap.size) (hfx : ∀ k, s'.fix k → k < w.heap.size) : Held4 s w (s'.grow w' w₂) w₂ r b v0 (.slice av L.length cv) (some ⟨g, 0, none⟩) (L ++ [t]) cap := by
  have hb1 := h.two.loc.box.lt
  have hr1 := h.two.res.box.lt
  have hgb : g ≠ b ∧ g ≠ r ∧ (s'.grow w' w₂).own g ∧ ¬ (s'.grow w' w₂).fix g ∧ ¬ s.own g := by
    rcases hat with e | e
    · have q := h.mine g e
      exact ⟨q.2.2.1, q.2.2.2.1, .inl q.1, q.2.1, q.2.2.2.2⟩
    · subst e
      have := h.two.beh.kept.size
      exact ⟨by omega, by omega, .inr ⟨Nat.le_refl _, hlt⟩, fun q => by have := hfx _ q; omega, fun q => by have := hox _ q; omega⟩
  have hl : (L ++ [t]).length = L.length + 1 := by simp
  have hi : ints (L ++ [t]) = ints L ++ [.int .i64 t] := by simp [ints]
  obtain ⟨g1, g2, g3, g4, g5⟩ := hgb
  refine ⟨h.app2 hg, ?_, ?_⟩
  · rw [hl, hi]; exact hown
  · intro j hj
    obtain rfl : g = j := by simpa [Value.ownBlock] using hj
    exact ⟨g3, g4, g1, g2, g5⟩

/-- The result's box is filled. -/
structure HeldR (s : Gh) (w : World) (s' : Gh) (w' : World) (r : Nat) (v0 : Value) (av : Option Addr) (L : List Int) (cv : Nat) : Prop where
  beh : Behind s w s' w'
  res : BoxC s' w' r v0 (.slice av L.length cv)
  row : w'.ownsRow 0 3 1 (.slice av L.length cv) L.length (ints L)
  mine : ∀ j, (Value.slice av L.length cv).ownBlock = some j → s'.own j ∧ ¬ s'.fix j ∧ ¬ s.own j
theorem HeldR.rely {w : World} {s' : Gh} {w' w₁ : World} {r : Nat} {v0 : Value} {av : Option Addr} {L : List Int} {cv : Nat} (h : HeldR s w s' w' r v0 av L cv) (k : Stays s'.own w' w₁) : HeldR s w s' w₁ r v0 av L cv :=
  ⟨h.beh.rely k, h.res.rely k, own_kept h.row (fun j hj => (h.mine j hj).1) k.kept, h.mine⟩
theorem Held3.res {w : World} {s' : Gh} {w' : World} {r b : Nat} {v0 : Value} {av : Option Addr} {L : List Int} {cv : Nat} (h : Held3 s w s' w' r b v0 av L cv) (n : Nat) (hnr : ¬ s.own r) :
    HeldR s w s' ((w'.setCell ⟨r, 0, none⟩ (.int .i64 n)).setCell ⟨r, 1, none⟩ (.slice av L.length cv)) r (.int .i64 n) av L cv := by
  refine ⟨(h.two.beh.set hnr _).set hnr _, h.two.res.set _ _, ?_, fun j hj => ⟨(h.mine j hj).1, (h.mine j hj).2.1, (h.mine j hj).2.2.2.2⟩⟩
  exact own_kept (s := ⟨fun k => (Value.slice av L.length cv).ownBlock = some k, fun _ => False, [], []⟩) h.row (fun j hj => hj) ((kept_set fun e => (h.mine r e).2.2.2.1 rfl).trans (kept_set fun e => (h.mine r e).2.2.2.1 rfl))

set_option maxRecDepth 100000 in
theorem rob_c (n bits : Nat) (hn1 : 1 ≤ n) (hn : n ≤ 24) (hb : bits < 2 ^ n) (s : Gh) (w : World) (hfx : ∀ k, s.fix k → k < w.heap.size) (hox : ∀ k, s.own k → k < w.heap.size) :
    CallsI Try.prog main c (dealB Rep) 43 #[.int .i64 n, .int .i64 bits] s w fun v s' w' => ∃ av cv, v = rhy n av (bitsL n bits).length cv ∧
      w'.ownsRow 0 3 1 (.slice av (bitsL n bits).length cv) (bitsL n bits).length (ints (bitsL n bits)) ∧ (∀ k, (Value.slice av (bitsL n bits).length cv).ownBlock = some k → s'.own k ∧ ¬ s'.fix k) ∧ Behind s w s' w' := by
  refine callsI_of Try.func43 (by rfl) rfl ?_
  simp only [Try.ntmps43, List.size_toArray, List.length_cons, List.length_nil, Nat.reduceAdd, Nat.reduceSub, Array.replicate_succ, Array.replicate_zero, List.push_toArray, List.append_toArray, List.nil_append, List.cons_append]
  have hF : Behind s w s w := Behind.refl s w
  have hbb : bits < 16777216 := Nat.lt_of_lt_of_le hb (Nat.pow_le_pow_right (by omega) hn)
  (first | refine wpI_seq ?_ | refine wpI_block ?_ | refine wpI_skip ?_ | refine wpI_label ?_ | refine wpI_ret ?_ | refine wpI_exit ?_ | refine opsI_nil ?_)
  (refine wpI_region ?_; simp only [List.size_toArray, List.length_cons, List.length_nil, Nat.reduceAdd, Nat.zero_add, List.range, List.range.loop])
  refine opsI_make rfl (by rfl) (.cells #[.int .i64 0, .slice none 0 0] 28) (fun k => .pointer (some ⟨k, 0, none⟩)) (fun w₁ => by go_simp) (fun w₁ => by simp [go_sem]) (fun w₁ h₁ => ?_)
  have hA : Held s w (s.grow w₁ (w₁.alloc (.cells #[.int .i64 0, .slice none 0 0] 28))) (w₁.alloc (.cells #[.int .i64 0, .slice none 0 0] 28)) w₁.heap.size :=
    ⟨(hF.rely h₁).make _, boxC_new _ _ fun k hk => Nat.lt_of_lt_of_le (hfx k hk) h₁.size⟩
  have hrn : w.heap.size ≤ w₁.heap.size := h₁.size
  have hfx1 : ∀ k, (s.grow w₁ (w₁.alloc (.cells #[.int .i64 0, .slice none 0 0] 28))).fix k → k < w.heap.size := hfx
  generalize s.grow w₁ (w₁.alloc (.cells #[.int .i64 0, .slice none 0 0] 28)) = s1 at hA hfx1 ⊢
  generalize w₁.alloc (.cells #[.int .i64 0, .slice none 0 0] 28) = wA at hA ⊢
  obtain ⟨r, hr⟩ : ∃ r, w₁.heap.size = r := ⟨_, rfl⟩
  rw [hr] at hA hrn ⊢
  clear hr h₁ hF
  walk_nrm
  refine opsI_nil ?_
  (simp only [thenI, inBlockI, if_true, if_false, reduceIte, Nat.reduceEqDiff])
  (first | refine wpI_seq ?_ | refine wpI_block ?_ | refine wpI_skip ?_ | refine wpI_label ?_ | refine wpI_ret ?_ | refine wpI_exit ?_ | refine opsI_nil ?_)
  (refine wpI_region ?_; simp only [List.size_toArray, List.length_cons, List.length_nil, Nat.reduceAdd, Nat.zero_add, List.range, List.range.loop])
  (refine opsI_cons_k rfl (by rfl) ?_
   intro _ hRq Kq hKq
   replace hA := (Held.rely) hA hRq
   clear hRq
   (skip)
   go_simp
   refine hKq _ _ ⟨s1, ?_, ?_⟩
   · (refine Does.still ?_; co_evs (skip))
   clear hKq Kq
   try walk_nrm
   repeat (rw [IntWalk.i64_in _ ⟨by omega, by omega⟩]))
  (refine opsI_cons_k rfl (by rfl) ?_
   intro _ hRq Kq hKq
   replace hA := (Held.rely) hA hRq
   clear hRq
   (skip)
   go_simp
   refine hKq _ _ ⟨s1, ?_, ?_⟩
   · (refine Does.still ?_; co_evs (skip))
   clear hKq Kq
   try walk_nrm
   repeat (rw [IntWalk.i64_in _ ⟨by omega, by omega⟩]))
  refine opsI_make rfl (by rfl) (.cells #[.int .i64 0, .slice none 0 0] 28) (fun k => .pointer (some ⟨k, 0, none⟩)) (fun w₁ => by go_simp) (fun w₁ => by simp [go_sem]) (fun w₂ h₂ => ?_)
  have hA2 := hA.rely h₂
  have hrb : r < w₂.heap.size := hA2.res.box.lt
  have hB : Held2 s w (s1.grow w₂ (w₂.alloc (.cells #[.int .i64 0, .slice none 0 0] 28))) (w₂.alloc (.cells #[.int .i64 0, .slice none 0 0] 28)) r w₂.heap.size (.int .i64 0) (.slice none 0 0) :=
    ⟨hA2.beh.make _, hA2.res.grow _, boxC_new _ _ fun k hk => by have := hfx1 k hk; omega⟩
  have hfx2 : ∀ k, (s1.grow w₂ (w₂.alloc (.cells #[.int .i64 0, .slice none 0 0] 28))).fix k → k < w.heap.size := hfx1
  generalize s1.grow w₂ (w₂.alloc (.cells #[.int .i64 0, .slice none 0 0] 28)) = s2 at hB hfx2 ⊢
  generalize w₂.alloc (.cells #[.int .i64 0, .slice none 0 0] 28) = wB at hB ⊢
  obtain ⟨b, hb0⟩ : ∃ b, w₂.heap.size = b := ⟨_, rfl⟩
  rw [hb0] at hB hrb ⊢
  have hnr : ¬ s.own r := fun h => by have := hox r h; omega
  have hnb : ¬ s.own b := fun h => by have := hox b h; omega
  clear hb0 h₂ hA hA2 hfx1
  walk_nrm
  refine opsI_turn rfl (by rfl) (fun W => (W.setCell ⟨b, 0, none⟩ (.int .i64 n)).setCell ⟨b, 1, none⟩ (.slice none 0 0)) (fun w₃ h₃ => ?_) (fun w₃ h₃ => ?_)
  · have hl := hB.loc.rely h₃
    obtain ⟨c0, c1, f0, f1⟩ := hl.box.facts
    have lt := hl.box.lt
    refine ⟨by go_simp, kept_two hl.mine hl.free _ _, by simp, by (intro e he; have hm := mem_listed he; (simp [go_sem, *] at hm) <;> (first | (rw [hm]; exact evO_cell rfl hl.mine) | (rcases hm with hm | hm <;> (rw [hm]; exact evO_cell rfl hl.mine))))⟩
  have hC : Held2 s w s2 ((w₃.setCell ⟨b, 0, none⟩ (.int .i64 n)).setCell ⟨b, 1, none⟩ (.slice none 0 0)) r b (.int .i64 n) (.slice none 0 0) := by
    have h := hB.rely h₃
    exact ⟨(h.beh.set hnb _).set hnb _, (h.res.other _ (by omega)).other _ (by omega), h.loc.set _ _⟩
  generalize (w₃.setCell ⟨b, 0, none⟩ (.int .i64 n)).setCell ⟨b, 1, none⟩ (.slice none 0 0) = wC at hC ⊢
  clear hB h₃
  refine opsI_nil ?_
  (simp only [thenI, inBlockI, if_true, if_false, reduceIte, Nat.reduceEqDiff])
  (repeat (first | (refine wpI_region ?_; simp only [List.size_toArray, List.length_cons, List.length_nil, Nat.reduceAdd, Nat.zero_add, List.range, List.range.loop]) | (refine opsI_cons_k rfl (by rfl) ?_
                                                                                                                                                                         intro _ hRq Kq hKq
                                                                                                                                                                         replace hC := (Held2.rely) hC hRq
                                                                                                                                                                         clear hRq
                                                                                                                                                                         (skip)
                                                                                                                                                                         go_simp
                                                                                                                                                                         refine hKq _ _ ⟨s2, ?_, ?_⟩
                                                                                                                                                                         · (refine Does.still ?_; co_evs (skip))
                                                                                                                                                                         clear hKq Kq
                                                                                                                                                                         try walk_nrm
                                                                                                                                                                         repeat (rw [IntWalk.i64_in _ ⟨by omega, by omega⟩])) | ((first | refine wpI_seq ?_ | refine wpI_block ?_ | refine wpI_skip ?_ | refine wpI_label ?_ | refine wpI_ret ?_ | refine wpI_exit ?_ | refine opsI_nil ?_); try (simp only [thenI, inBlockI, if_true, if_false, reduceIte, Nat.reduceEqDiff])) | (refine wpI_cond (by exact rfl) ?_; simp only [if_true, if_false, reduceIte, Bool.false_eq_true])))
  refine wpI_loop (fun s' a' w' => ∃ (k : Nat) (av : Option Addr) (cv : Nat) (u6 u11 u12 u13 u14 u15 u16 u17 u18 u19 u20 u21 u22 u23 u24 u25 u26 : Value), k ≤ n ∧ Held2 s w s' w' r b (.int .i64 n) (.slice av (bitP n bits k).length cv) ∧
      w'.ownsRow 0 3 1 (.slice av (bitP n bits k).length cv) (bitP n bits k).length (ints (bitP n bits k)) ∧ (∀ j, (Value.slice av (bitP n bits k).length cv).ownBlock = some j → s'.own j ∧ ¬ s'.fix j ∧ j ≠ b ∧ j ≠ r ∧ ¬ s.own j) ∧ s'.fix = s.fix ∧
      a' = { tmps := #[.int .i64 n, .int .i64 bits, undef, undef, .pointer (some ⟨r, 0, none⟩), .pointer (some ⟨b, 0, none⟩), u6, .int .i64 n, .agg #[.int .i64 n, .slice none 0 0], .int .i64 n, .int .i64 k, u11, u12, u13, u14, u15, u16, u17, u18, u19, u20, u21, u22, u23, u24, u25, u26], defers := [] })
    (fun _ a' _ => n - (match a'.tmps.getD 10 undef with | .int _ j => j.toNat | _ => 0)) ?_ ?_
  · exact ⟨0, none, 0, _, _, _, _, _, _, _, _, _, _, _, _, _, _, _, _, _, by omega, hC, World.ownsRow_nil _ _ _ _, fun j hj => by simp [Value.ownBlock] at hj, hC.beh.fix, rfl⟩
  · rintro s' a' w' ⟨k, av, cv, u6, u11, u12, u13, u14, u15, u16, u17, u18, u19, u20, u21, u22, u23, u24, u25, u26, hk, hD, hrow, hmine, hfx3, rfl⟩
    obtain ⟨L, hL⟩ : ∃ L, bitP n bits k = L := ⟨_, rfl⟩
    have hLl : L.length ≤ 1048577 := by rw [← hL]; have := bitP_len n bits k; omega
    rw [hL] at hD hrow hmine
    have hE : Held3 s w s' w' r b (.int .i64 n) av L cv := ⟨hD, hrow, hmine⟩
    clear hD hrow hmine
    by_cases hlt : k < n
    · (repeat (first | (refine wpI_region ?_; simp only [List.size_toArray, List.length_cons, List.length_nil, Nat.reduceAdd, Nat.zero_add, List.range, List.range.loop]) | (refine opsI_cons_k rfl (by rfl) ?_
                                                                                                                                                                             intro _ hRq Kq hKq
                                                                                                                                                                             replace hE := (Held3.rely) hE hRq
                                                                                                                                                                             clear hRq
                                                                                                                                                                             (skip)
                                                                                                                                                                             go_simp
                                                                                                                                                                             refine hKq _ _ ⟨s', ?_, ?_⟩
                                                                                                                                                                             · (refine Does.still ?_; co_evs (skip))
                                                                                                                                                                             clear hKq Kq
                                                                                                                                                                             try walk_nrm
                                                                                                                                                                             repeat (rw [IntWalk.i64_in _ ⟨by omega, by omega⟩])) | ((first | refine wpI_seq ?_ | refine wpI_block ?_ | refine wpI_skip ?_ | refine wpI_label ?_ | refine wpI_ret ?_ | refine wpI_exit ?_ | refine opsI_nil ?_); try (simp only [thenI, inBlockI, if_true, if_false, reduceIte, Nat.reduceEqDiff])) | (refine wpI_cond (by exact rfl) ?_; simp only [if_true, if_false, reduceIte, Bool.false_eq_true])))
      have hv := and_pow bits (n - 1 - k) hbb (by omega)
      have hq1 : 1 ≤ 2 ^ (n - 1 - k) := Nat.one_le_two_pow
      have hP := fun W => pbit_c (main := main) (c := c) (T := dealB Rep) n k hn hlt s' W
      by_cases hbit : bits / 2 ^ (n - 1 - k) % 2 = 1
      · rw [if_pos hbit] at hv
        have hN := bitP_yes hbit
        obtain ⟨q, hq⟩ : ∃ q, 2 ^ (n - 1 - k) = q := ⟨_, rfl⟩
        rw [hq] at hv hq1 hP
        have hbv : ((q : Int) == 0) = false := by simp; omega
        clear hbit hq
        refine opsI_call (Post := fun v s₂ w₂ => v = .int .i64 (q : Int) ∧ s₂ = s' ∧ SinceI (dealB Rep) s' _ w₂) rfl (by rfl) rfl (by walk_nrm; exact hP _) ?_
        rintro v s'' w₅ ⟨rfl, rfl, hsi⟩
        rw [hL] at hN
        have hE : Held3 s w s'' w₅ r b (.int .i64 n) av L cv := hsi.elim (fun e => e ▸ hE) fun x => hE.rely x
        clear hsi hP
        have hbn : ((q : Int) != 0) = true := by simp [bne, hbv]
        walk_nrm
        (repeat (first | (refine wpI_region ?_; simp only [List.size_toArray, List.length_cons, List.length_nil, Nat.reduceAdd, Nat.zero_add, List.range, List.range.loop]) | (refine opsI_cons_k rfl (by rfl) ?_
                                                                                                                                                                               intro _ hRq Kq hKq
                                                                                                                                                                               replace hE := (Held3.rely) hE hRq
                                                                                                                                                                               clear hRq
                                                                                                                                                                               (obtain ⟨c0, c1, f0, f1⟩ := hE.two.loc.box.facts)
                                                                                                                                                                               go_simp
                                                                                                                                                                               refine hKq _ _ ⟨s'', ?_, ?_⟩
                                                                                                                                                                               · (refine Does.still ?_; (intro e he; have hm := mem_listed he; (simp [go_sem, *] at hm) <;> (first | (rw [hm]; exact evO_cell rfl hE.two.loc.mine) | (rcases hm with hm | hm <;> (rw [hm]; exact evO_cell rfl hE.two.loc.mine)))))
                                                                                                                                                                               clear hKq Kq
                                                                                                                                                                               try walk_nrm
                                                                                                                                                                               repeat (rw [IntWalk.i64_in _ ⟨by omega, by omega⟩])) | ((first | refine wpI_seq ?_ | refine wpI_block ?_ | refine wpI_skip ?_ | refine wpI_label ?_ | refine wpI_ret ?_ | refine wpI_exit ?_ | refine opsI_nil ?_); try (simp only [thenI, inBlockI, if_true, if_false, reduceIte, Nat.reduceEqDiff])) | (refine wpI_cond (by exact rfl) ?_; simp only [if_true, if_false, reduceIte, Bool.false_eq_true])))
        refine opsI_make rfl (by rfl) (.cells #[.int .i64 k] 3) (fun j => .slice (some ⟨j, 0, none⟩) 1 1) (fun w₁ => by go_simp) (fun w₁ => by simp [go_sem]) (fun w₆ h₆ => ?_)
        have hG := (hE.rely h₆).make (.cells #[.int .i64 k] 3)
        have hNc : (w₆.alloc (.cells #[.int .i64 k] 3)).cell? ⟨w₆.heap.size, 0, none⟩ = some (.int .i64 k) := by simp
        have hNo : (s''.grow w₆ (w₆.alloc (.cells #[.int .i64 k] 3))).own w₆.heap.size := .inr ⟨Nat.le_refl _, by simp⟩
        have hfx4 : ∀ j, (s''.grow w₆ (w₆.alloc (.cells #[.int .i64 k] 3))).fix j → j < w.heap.size := fun j hj => hfx j (by rw [← hfx3]; exact hj)
        generalize s''.grow w₆ (w₆.alloc (.cells #[.int .i64 k] 3)) = s3 at hG hNo hfx4 ⊢
        generalize w₆.alloc (.cells #[.int .i64 k] 3) = wG at hG hNc ⊢
        obtain ⟨N, hN0⟩ : ∃ N, w₆.heap.size = N := ⟨_, rfl⟩
        rw [hN0] at hNc hNo ⊢
        clear hN0 h₆ hE
        walk_nrm
        obtain ⟨i0, hi, hz0, hz1, hz2⟩ := info_parts infoInt
        refine opsI_append rfl (by rfl) (.tmp 20) (.tmp 22) 22 3 rfl i0 (.int .i64 0) 1 8 Try.underlying22 hi hz0 hz1 hz2 rfl (by decide) (.slice av L.length cv) L.length (ints L) N 1 1 [.int .i64 k] rfl rfl rfl
          (by intro u hu; simp at hu; subst hu; rfl) (by omega) (by unfold maxLen; omega) (by omega)
          (fun w₇ h₇ => ⟨(hG.rely h₇).row, fun j u hj => by
            cases j with
            | zero => simp at hj; subst hj; simpa [Addr.add] using Stays.cell (a := ⟨N, 0, none⟩) h₇ hNo hNc
            | succ j => simp at hj⟩)
          (fun j hj => ⟨(hG.mine j hj).1, (hG.mine j hj).2.1⟩) hNo (fun w₇ g cap w₈ h₇ hown hgr hat hlt' => ?_)
        have hG' := hG.rely h₇
        have hK := hG'.app hgr hown hat hlt' hox hfx4
        have hl : (L ++ [(k : Int)]).length = L.length + 1 := by simp
        have hfx5 : (s3.grow w₇ w₈).fix = s.fix := hK.two.beh.fix
        have hkn : bitP n bits (k + 1) = L ++ [(k : Int)] := hN
        generalize s3.grow w₇ w₈ = s4 at hK hfx5 ⊢
        have hbr : b ≠ r := by omega
        clear hG hG' hgr hown hat hlt' h₇ hfx4 hi hz0 hz1 hz2 hNo hNc
        walk_nrm
        (refine opsI_cons_k rfl (by rfl) ?_
         intro _ hRq Kq hKq
         replace hK := (Held4.rely) hK hRq
         clear hRq
         (skip)
         go_simp
         refine hKq _ _ ⟨s4, ?_, ?_⟩
         · (refine Does.still ?_; co_evs (skip))
         clear hKq Kq
         try walk_nrm
         repeat (rw [IntWalk.i64_in _ ⟨by omega, by omega⟩]))
        refine opsI_turn rfl (by rfl) (fun W => W.setCell ⟨b, 1, none⟩ (.slice (some ⟨g, 0, none⟩) (L.length + 1) cap)) (fun w₉ h₉ => ?_) (fun w₉ h₉ => ?_)
        · have hl2 := hK.two.loc.rely h₉
          obtain ⟨c0, c1, f0, f1⟩ := hl2.box.facts
          have lt := hl2.box.lt
          refine ⟨by go_simp, kept_set fun h => h.elim (fun x => x hl2.mine) hl2.free, by simp, by (intro e he; have hm := mem_listed he; (simp [go_sem, *] at hm) <;> (first | (rw [hm]; exact evO_cell rfl hl2.mine) | (rcases hm with hm | hm <;> (rw [hm]; exact evO_cell rfl hl2.mine))))⟩
        have hM := (hK.rely h₉).set hnb hbr
        rw [← hl]
        generalize w₉.setCell ⟨b, 1, none⟩ (.slice (some ⟨g, 0, none⟩) (L ++ [(k : Int)]).length cap) = wM at hM ⊢
        clear h₉ hK
        refine opsI_nil ?_
        (simp only [thenI, inBlockI, if_true, if_false, reduceIte, Nat.reduceEqDiff])
        (repeat (first | (refine wpI_region ?_; simp only [List.size_toArray, List.length_cons, List.length_nil, Nat.reduceAdd, Nat.zero_add, List.range, List.range.loop]) | (refine opsI_cons_k rfl (by rfl) ?_
                                                                                                                                                                               intro _ hRq Kq hKq
                                                                                                                                                                               replace hM := (Held3.rely) hM hRq
                                                                                                                                                                               clear hRq
                                                                                                                                                                               (skip)
                                                                                                                                                                               go_simp
                                                                                                                                                                               refine hKq _ _ ⟨s4, ?_, ?_⟩
                                                                                                                                                                               · (refine Does.still ?_; co_evs (skip))
                                                                                                                                                                               clear hKq Kq
                                                                                                                                                                               try walk_nrm
                                                                                                                                                                               repeat (rw [IntWalk.i64_in _ ⟨by omega, by omega⟩])) | ((first | refine wpI_seq ?_ | refine wpI_block ?_ | refine wpI_skip ?_ | refine wpI_label ?_ | refine wpI_ret ?_ | refine wpI_exit ?_ | refine opsI_nil ?_); try (simp only [thenI, inBlockI, if_true, if_false, reduceIte, Nat.reduceEqDiff])) | (refine wpI_cond (by exact rfl) ?_; simp only [if_true, if_false, reduceIte, Bool.false_eq_true])))
        exact ⟨⟨k + 1, some ⟨g, 0, none⟩, cap, _, _, _, _, _, _, _, _, _, _, _, _, _, _, _, _, _, by omega, by rw [hkn]; exact hM.two, by rw [hkn]; exact hM.row, by rw [hkn]; exact hM.mine, hfx5, rfl⟩, by show n - ((k : Int) + 1).toNat < n - (k : Int).toNat; omega⟩
      · rw [if_neg hbit] at hv
        have hN := bitP_no hbit
        rw [hL] at hN
        obtain ⟨q, hq⟩ : ∃ q, 2 ^ (n - 1 - k) = q := ⟨_, rfl⟩
        rw [hq] at hv hq1 hP
        clear hbit hq
        refine opsI_call (Post := fun v s₂ w₂ => v = .int .i64 (q : Int) ∧ s₂ = s' ∧ SinceI (dealB Rep) s' _ w₂) rfl (by rfl) rfl (by walk_nrm; exact hP _) ?_
        rintro v s'' w₅ ⟨rfl, rfl, hsi⟩
        have hE : Held3 s w s'' w₅ r b (.int .i64 n) av L cv := hsi.elim (fun e => e ▸ hE) fun x => hE.rely x
        clear hsi hP
        walk_nrm
        (repeat (first | (refine wpI_region ?_; simp only [List.size_toArray, List.length_cons, List.length_nil, Nat.reduceAdd, Nat.zero_add, List.range, List.range.loop]) | (refine opsI_cons_k rfl (by rfl) ?_
                                                                                                                                                                               intro _ hRq Kq hKq
                                                                                                                                                                               replace hE := (Held3.rely) hE hRq
                                                                                                                                                                               clear hRq
                                                                                                                                                                               (skip)
                                                                                                                                                                               go_simp
                                                                                                                                                                               refine hKq _ _ ⟨s'', ?_, ?_⟩
                                                                                                                                                                               · (refine Does.still ?_; co_evs (skip))
                                                                                                                                                                               clear hKq Kq
                                                                                                                                                                               try walk_nrm
                                                                                                                                                                               repeat (rw [IntWalk.i64_in _ ⟨by omega, by omega⟩])) | ((first | refine wpI_seq ?_ | refine wpI_block ?_ | refine wpI_skip ?_ | refine wpI_label ?_ | refine wpI_ret ?_ | refine wpI_exit ?_ | refine opsI_nil ?_); try (simp only [thenI, inBlockI, if_true, if_false, reduceIte, Nat.reduceEqDiff])) | (refine wpI_cond (by exact rfl) ?_; simp only [if_true, if_false, reduceIte, Bool.false_eq_true])))
        exact ⟨⟨k + 1, av, cv, _, _, _, _, _, _, _, _, _, _, _, _, _, _, _, _, _, by omega, by rw [hN]; exact hE.two, by rw [hN]; exact hE.row, by rw [hN]; exact hE.mine, hfx3, rfl⟩, by show n - ((k : Int) + 1).toNat < n - (k : Int).toNat; omega⟩
    · have hkn : k = n := by omega
      have hLL : bitsL n bits = L := by rw [← hL, hkn]; rfl
      (repeat (first | (refine wpI_region ?_; simp only [List.size_toArray, List.length_cons, List.length_nil, Nat.reduceAdd, Nat.zero_add, List.range, List.range.loop]) | (refine opsI_cons_k rfl (by rfl) ?_
                                                                                                                                                                             intro _ hRq Kq hKq
                                                                                                                                                                             replace hE := (Held3.rely) hE hRq
                                                                                                                                                                             clear hRq
                                                                                                                                                                             (obtain ⟨c0, c1, f0, f1⟩ := hE.two.loc.box.facts)
                                                                                                                                                                             go_simp
                                                                                                                                                                             refine hKq _ _ ⟨s', ?_, ?_⟩
                                                                                                                                                                             · (refine Does.still ?_; (intro e he; have hm := mem_listed he; (simp [go_sem, *] at hm) <;> (first | (rw [hm]; exact evO_cell rfl hE.two.loc.mine) | (rcases hm with hm | hm <;> (rw [hm]; exact evO_cell rfl hE.two.loc.mine)))))
                                                                                                                                                                             clear hKq Kq
                                                                                                                                                                             try walk_nrm
                                                                                                                                                                             repeat (rw [IntWalk.i64_in _ ⟨by omega, by omega⟩])) | ((first | refine wpI_seq ?_ | refine wpI_block ?_ | refine wpI_skip ?_ | refine wpI_label ?_ | refine wpI_ret ?_ | refine wpI_exit ?_ | refine opsI_nil ?_); try (simp only [thenI, inBlockI, if_true, if_false, reduceIte, Nat.reduceEqDiff])) | (refine wpI_cond (by exact rfl) ?_; simp only [if_true, if_false, reduceIte, Bool.false_eq_true])))
      refine opsI_turn rfl (by rfl) (fun W => (W.setCell ⟨r, 0, none⟩ (.int .i64 n)).setCell ⟨r, 1, none⟩ (.slice av L.length cv)) (fun w₉ h₉ => ?_) (fun w₉ h₉ => ?_)
      · have hl2 := hE.two.res.rely h₉
        obtain ⟨c0, c1, f0, f1⟩ := hl2.box.facts
        have lt := hl2.box.lt
        refine ⟨by go_simp, kept_two hl2.mine hl2.free _ _, by simp, by (intro e he; have hm := mem_listed he; (simp [go_sem, *] at hm) <;> (first | (rw [hm]; exact evO_cell rfl hl2.mine) | (rcases hm with hm | hm <;> (rw [hm]; exact evO_cell rfl hl2.mine))))⟩
      have hM : HeldR s w s' ((w₉.setCell ⟨r, 0, none⟩ (.int .i64 n)).setCell ⟨r, 1, none⟩ (.slice av L.length cv)) r (.int .i64 n) av L cv := (hE.rely h₉).res n hnr
      generalize (w₉.setCell ⟨r, 0, none⟩ (.int .i64 n)).setCell ⟨r, 1, none⟩ (.slice av L.length cv) = wM at hM ⊢
      clear h₉ hE
      refine opsI_nil ?_
      (simp only [thenI, inBlockI, if_true, if_false, reduceIte, Nat.reduceEqDiff])
      (repeat (first | (refine wpI_region ?_; simp only [List.size_toArray, List.length_cons, List.length_nil, Nat.reduceAdd, Nat.zero_add, List.range, List.range.loop]) | (refine opsI_cons_k rfl (by rfl) ?_
                                                                                                                                                                             intro _ hRq Kq hKq
                                                                                                                                                                             replace hM := (HeldR.rely) hM hRq
                                                                                                                                                                             clear hRq
                                                                                                                                                                             (skip)
                                                                                                                                                                             go_simp
                                                                                                                                                                             refine hKq _ _ ⟨s', ?_, ?_⟩
                                                                                                                                                                             · (refine Does.still ?_; co_evs (skip))
                                                                                                                                                                             clear hKq Kq
                                                                                                                                                                             try walk_nrm
                                                                                                                                                                             repeat (rw [IntWalk.i64_in _ ⟨by omega, by omega⟩])) | ((first | refine wpI_seq ?_ | refine wpI_block ?_ | refine wpI_skip ?_ | refine wpI_label ?_ | refine wpI_ret ?_ | refine wpI_exit ?_ | refine opsI_nil ?_); try (simp only [thenI, inBlockI, if_true, if_false, reduceIte, Nat.reduceEqDiff])) | (refine wpI_cond (by exact rfl) ?_; simp only [if_true, if_false, reduceIte, Bool.false_eq_true])))
      refine ⟨rfl, rhy n av L.length cv, fun w₁ h₁ => ?_, av, cv, by rw [hLL], by rw [hLL]; exact hM.row, by rw [hLL]; exact fun j hj => ⟨(hM.mine j hj).1, (hM.mine j hj).2.1⟩, hM.beh⟩
      have hl3 := hM.res.rely h₁
      obtain ⟨c0, c1, f0, f1⟩ := hl3.box.facts
      refine ⟨by simp [results, Try.results43, go_sem, *], Does.still fun e he => ?_⟩
      have hm := mem_seen he
      simp [results, Try.results43, go_sem, *] at hm
      rcases hm with hm | hm <;> (rw [hm]; exact evO_cell rfl hl3.mine)
end
end Go.Proofs.Ytgmhdmhnedljcaa.Co
