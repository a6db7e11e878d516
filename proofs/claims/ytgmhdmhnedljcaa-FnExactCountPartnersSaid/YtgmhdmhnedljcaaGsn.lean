/-
  Helpers of the claims beside this text: what makes memory, on the receiver's side.
-/
import Derived.Test.YtgmhdmhnedljcaaGsz
import Derived.Test.YtgmhdmhnedljcaaGsj
import Derived.Test.YtgmhdmhnedljcaaRts
namespace Go.Proofs.Ytgmhdmhnedljcaa.Co
open Go Go.Conc Go.RowKit
set_option linter.unusedSimpArgs false
set_option linter.unusedVariables false

section
variable {P : Program} {main : Bool} {c : Nat} {Rep : List Int → Value → (Nat → Prop) → World → Prop} {Val : List Int → Value → Prop} {Fin : Gh → Goroutine → World → Prop} {s : Gh} {fn : FuncId} {Q : Exit → Gh → Act → World → Prop} {a : Act} {w : World}
/-- An append to a slice of one's own. -/
theorem opsI_appendA {ops : Array Oper} {i : Nat} {rest : List Nat} {o : Oper} (ho : ops[i]? = some o) (hw : Region.wanted o (yielded ops a.tmps) = true) (x y : Operand) (t e : TypeId)
    (hop : o.op = .call { callee := .builtin .append, args := #[x, y], argTypes := #[t, t] }) (ti : TypeInfo) (z : Value) (size bytes : Nat) (ht : P.underlying t = some (.slice e)) (hi : P.info? e = some ti) (hz : ti.zero = some z)
    (hsize : ti.size = size) (hby : ti.bytes = bytes) (hzs : z.cells.size = size) (hsz : 0 < size) (v : Value) (n : Nat) (xs : List Value) (N m cp : Nat) (news : List Value)
    (hs : a.eval x = v) (hx : a.eval y = .slice (some ⟨N, 0, none⟩) m cp) (hl : news.length = m * size) (h1 : ∀ u ∈ news, u.oneCell' = true) (hm : 0 < m) (h63 : n + m ≤ maxLen) (hbytes : (n + m) * bytes ≤ 140737488355328)
    (held : ∀ w₁, Stays s.own w w₁ → w₁.ownsRow 0 e size v n xs ∧ ∀ j u, news[j]? = some u → w₁.cell? ((⟨N, 0, none⟩ : Addr).add j) = some u)
    (mine : ∀ k, v.ownBlock = some k → s.own k ∧ ¬ s.fix k) (hN : s.own N)
    (next : ∀ w₁ g cap w', Stays s.own w w₁ → w'.ownsRow 0 e size (.slice (some ⟨g, 0, none⟩) (n + m) cap) (n + m) (xs ++ news) → w₁.grownBy w' v.ownBlock → (v.ownBlock = some g ∨ g = w₁.heap.size) → g < w'.heap.size →
      opsI P main c (dealA Rep Val Fin) fn ops rest Q (s.grow w₁ w') (a.put o.dst (.slice (some ⟨g, 0, none⟩) (n + m) cap)) w') : opsI P main c (dealA Rep Val Fin) fn ops (i :: rest) Q s a w := by
  refine opsI_cons ho hw fun w₁ h₁ => ?_
  obtain ⟨hown, hnews⟩ := held w₁ h₁
  obtain ⟨g, cap, w', hr, h2, h3, h4, h5⟩ := run_append_lies (P := P) w₁ t o.type 0 e ti z size bytes ht hi hz hsize hby hzs hsz v n xs hown ⟨N, 0, none⟩ m cp news hl hnews h1 hm h63 hbytes (Nat.zero_le _) _ rfl
  refine uponK_append x y t hop hs hx hr fun _ => ⟨s.grow w₁ w', Does.of ⟨h3.os, h3.tape, h3.output, h3.size, fun k hk hf => h3.block k hk fun e => ?_⟩ fun ev hev => ?_, next w₁ g cap w' h₁ h2 h3 h4 h5⟩
  · obtain ⟨m1, m2⟩ := mine k e.symm
    exact hf.elim (fun x => x m1) m2
  · have hev := mem_listed hev
    rw [events_append_op x y t hop hs hx] at hev
    rcases events_append_where w₁ 0 t o.type e ti z size bytes ht hi hz hsize hby v n xs hown ⟨N, 0, none⟩ m cp news hl hnews h1 h63 hbytes ev hev with ⟨ad, e1, e2⟩ | ⟨mk, rfl, hn⟩
    · refine evO_cell e1 (.inl ?_)
      rcases e2 with ⟨_, e2⟩ | e2
      · rw [e2]; exact hN
      · exact (mine _ e2.symm).1
    · exact evO_neutral hn
/-- An operation that makes one block. -/
theorem opsI_makeA {ops : Array Oper} {i : Nat} {rest : List Nat} {o : Oper} (ho : ops[i]? = some o) (hw : Region.wanted o (yielded ops a.tmps) = true) (obj : Obj) (val : Nat → Value)
    (hr : ∀ w₁, (execOp a.eval o).run P w₁ = .ok (.value (val w₁.heap.size)) (w₁.alloc obj)) (he : ∀ w₁, (execOp a.eval o).events P w₁ #[] = #[])
    (next : ∀ w₁, Stays s.own w w₁ → opsI P main c (dealA Rep Val Fin) fn ops rest Q (s.grow w₁ (w₁.alloc obj)) (a.put o.dst (val w₁.heap.size)) (w₁.alloc obj)) : opsI P main c (dealA Rep Val Fin) fn ops (i :: rest) Q s a w := by
  refine opsI_cons ho hw fun w₁ h₁ => ?_
  rw [hr w₁]
  refine fun _ => ⟨s.grow w₁ (w₁.alloc obj), Does.of ⟨rfl, rfl, rfl, by simp, fun k hk _ => Below.heap_alloc _ _ _ hk⟩ fun ev hev => ?_, next w₁ h₁⟩
  rw [listed_nil (he w₁)] at hev
  simp at hev
/-- An operation that turns cells of its own, makes nothing, yields nothing. -/
theorem opsI_turnA {ops : Array Oper} {i : Nat} {rest : List Nat} {o : Oper} (ho : ops[i]? = some o) (hw : Region.wanted o (yielded ops a.tmps) = true) (f : World → World)
    (h : ∀ w₁, Stays s.own w w₁ → (execOp a.eval o).run P w₁ = .ok .skip (f w₁) ∧ Kept (fun k => ¬ s.own k ∨ s.fix k) w₁ (f w₁) ∧ (f w₁).heap.size = w₁.heap.size ∧ ∀ e ∈ listed P fn a o w₁, EvP s.own e)
    (next : ∀ w₁, Stays s.own w w₁ → opsI P main c (dealA Rep Val Fin) fn ops rest Q s (a.put o.dst undef) (f w₁)) : opsI P main c (dealA Rep Val Fin) fn ops (i :: rest) Q s a w := by
  refine opsI_cons ho hw fun w₁ h₁ => ?_
  obtain ⟨h2, h3, h4, h5⟩ := h w₁ h₁
  rw [h2]
  exact fun _ => ⟨s, ⟨by rw [h4]; exact own_same s w₁, rfl, rfl, rfl, h3.os, h3.tape, h3.output, h3.size, h3.block, h5⟩, next w₁ h₁⟩
end
end Go.Proofs.Ytgmhdmhnedljcaa.Co

/-
  Helpers of the claims beside this text: a round of the receiver's loop in company.
-/
namespace Go.Proofs.Ytgmhdmhnedljcaa.Co
open Go Go.Conc Go.RowKit Rhy
set_option linter.unusedVariables false
set_option linter.unusedSimpArgs false

/-- What the receiver holds: the list that it makes. -/
structure Rcvs (s : Gh) (w : World) (lv : Value) (k : Nat) (xs : List Value) : Prop where
  row : w.ownsRow 0 28 2 lv k xs
  mine : ∀ j, lv.ownBlock = some j → s.own j ∧ ¬ s.fix j
  low : ∀ j, s.own j → j < w.heap.size
  fix : ∀ j, s.fix j → s.own j
theorem Rcvs.rely {s : Gh} {w w₁ : World} {lv : Value} {k : Nat} {xs : List Value} (h : Rcvs s w lv k xs) (r : Stays s.own w w₁) : Rcvs s w₁ lv k xs :=
  ⟨own_blocks h.row fun j hj => r.block j (h.mine j hj).1, h.mine, fun j hj => Nat.lt_of_lt_of_le (h.low j hj) r.size, h.fix⟩
theorem Rcvs.make {s : Gh} {w : World} {lv : Value} {k : Nat} {xs : List Value} (h : Rcvs s w lv k xs) (o : Obj) : Rcvs (s.grow w (w.alloc o)) (w.alloc o) lv k xs :=
  ⟨h.row.alloc o, fun j hj => ⟨.inl (h.mine j hj).1, (h.mine j hj).2⟩, fun j hj => hj.elim (fun q => by have := h.low j q; simp; omega) fun q => q.2, fun j hj => .inl (h.fix j hj)⟩
/-- .. and a box that is not the list's. -/
structure RcvB (s : Gh) (w : World) (lv : Value) (k : Nat) (xs : List Value) (N : Nat) (v0 v1 : Value) : Prop where
  lst : Rcvs s w lv k xs
  box : BoxC s w N v0 v1
  off : ∀ j, lv.ownBlock = some j → j ≠ N
theorem RcvB.rely {s : Gh} {w w₁ : World} {lv : Value} {k : Nat} {xs : List Value} {N : Nat} {v0 v1 : Value} (h : RcvB s w lv k xs N v0 v1) (r : Stays s.own w w₁) : RcvB s w₁ lv k xs N v0 v1 := ⟨h.lst.rely r, h.box.rely r, h.off⟩
theorem RcvB.set {s : Gh} {w : World} {lv : Value} {k : Nat} {xs : List Value} {N : Nat} {v0 v1 : Value} (h : RcvB s w lv k xs N v0 v1) (x0 x1 : Value) : RcvB s ((w.setCell ⟨N, 0, none⟩ x0).setCell ⟨N, 1, none⟩ x1) lv k xs N x0 x1 :=
  ⟨⟨own_blocks h.lst.row fun j hj => by rw [Below.heap_setCell _ _ _ _ (fun e => h.off j hj e), Below.heap_setCell _ _ _ _ (fun e => h.off j hj e)], h.lst.mine, fun j hj => by simpa using h.lst.low j hj, h.lst.fix⟩, h.box.set x0 x1, h.off⟩
theorem Rcvs.box {s : Gh} {w : World} {lv : Value} {k : Nat} {xs : List Value} (h : Rcvs s w lv k xs) (v0 v1 : Value) :
    RcvB (s.grow w (w.alloc (.cells #[v0, v1] 28))) (w.alloc (.cells #[v0, v1] 28)) lv k xs w.heap.size v0 v1 :=
  ⟨h.make _, boxC_new _ _ fun j hj => h.low j (h.fix j hj), fun j hj e => by have := h.low j (h.mine j hj).1; omega⟩

/-- .. since then. -/
structure RcvW (s0 : Gh) (w0 : World) (s : Gh) (w : World) (lv : Value) (k : Nat) (xs : List Value) (N : Nat) (v0 v1 : Value) : Prop where
  beh : Behind s0 w0 s w
  rb : RcvB s w lv k xs N v0 v1
theorem RcvW.rely {s0 : Gh} {w0 : World} {s : Gh} {w w₁ : World} {lv : Value} {k : Nat} {xs : List Value} {N : Nat} {v0 v1 : Value} (h : RcvW s0 w0 s w lv k xs N v0 v1) (r : Stays s.own w w₁) : RcvW s0 w0 s w₁ lv k xs N v0 v1 := ⟨h.beh.rely r, h.rb.rely r⟩
structure RcvV (s0 : Gh) (w0 : World) (s : Gh) (w : World) (lv : Value) (k : Nat) (xs : List Value) : Prop where
  beh : Behind s0 w0 s w
  lst : Rcvs s w lv k xs
theorem RcvV.rely {s0 : Gh} {w0 : World} {s : Gh} {w w₁ : World} {lv : Value} {k : Nat} {xs : List Value} (h : RcvV s0 w0 s w lv k xs) (r : Stays s.own w w₁) : RcvV s0 w0 s w₁ lv k xs := ⟨h.beh.rely r, h.lst.rely r⟩
/-- What stands behind a round: the list's block alone may have been turned. -/
structure BehL (lv : Value) (s : Gh) (w : World) (s' : Gh) (w' : World) : Prop where
  own : ∀ k, s.own k → s'.own k
  fix : s'.fix = s.fix
  rem : s'.rem = s.rem
  got : s'.got = s.got
  kept : Kept (fun j => s.own j ∧ lv.ownBlock ≠ some j) w w'
  low : (∀ k, s.own k → k < w.heap.size) → ∀ k, s'.own k → k < w'.heap.size
theorem BehL.rely {lv : Value} {s s' : Gh} {w w' w₁ : World} (h : BehL lv s w s' w') (r : Stays s'.own w' w₁) : BehL lv s w s' w₁ :=
  ⟨h.own, h.fix, h.rem, h.got, h.kept.trans ⟨r.os, r.tape, r.output, r.size, fun k hk ho => r.block k (h.own k ho.1)⟩, fun hl k hk => Nat.lt_of_lt_of_le (h.low hl k hk) r.size⟩
structure RcvF (lv0 : Value) (s0 : Gh) (w0 : World) (s : Gh) (w : World) (lv : Value) (k : Nat) (xs : List Value) : Prop where
  beh : BehL lv0 s0 w0 s w
  lst : Rcvs s w lv k xs
theorem RcvF.rely {lv0 : Value} {s0 : Gh} {w0 : World} {s : Gh} {w w₁ : World} {lv : Value} {k : Nat} {xs : List Value} (h : RcvF lv0 s0 w0 s w lv k xs) (r : Stays s.own w w₁) : RcvF lv0 s0 w0 s w₁ lv k xs := ⟨h.beh.rely r, h.lst.rely r⟩
theorem RcvW.app {s0 : Gh} {w0 : World} {s : Gh} {w w₂ : World} {lv : Value} {k : Nat} {xs ys : List Value} {N : Nat} {v0 v1 : Value} {g cap : Nat} (h : RcvW s0 w0 s w lv k xs N v0 v1) (hg : w.grownBy w₂ lv.ownBlock)
    (hown : w₂.ownsRow 0 28 2 (.slice (some ⟨g, 0, none⟩) (k + 1) cap) (k + 1) ys) (hat : lv.ownBlock = some g ∨ g = w.heap.size) (hlt : g < w₂.heap.size) :
    RcvF lv s0 w0 (s.grow w w₂) w₂ (.slice (some ⟨g, 0, none⟩) (k + 1) cap) (k + 1) ys := by
  refine ⟨⟨fun j hj => .inl (h.beh.own j hj), h.beh.fix, h.beh.rem, h.beh.got, ?_, fun hl j hj => hj.elim (fun q => Nat.lt_of_lt_of_le (h.rb.lst.low j q) hg.size) fun q => q.2⟩, hown, fun j hj => ?_, fun j hj => hj.elim (fun q => Nat.lt_of_lt_of_le (h.rb.lst.low j q) hg.size) fun q => q.2, fun j hj => .inl (h.rb.lst.fix j hj)⟩
  · have h1 : Kept (fun j => s0.own j ∧ lv.ownBlock ≠ some j) w0 w := ⟨h.beh.kept.os, h.beh.kept.tape, h.beh.kept.output, h.beh.kept.size, fun j hj ho => h.beh.kept.block j hj ho.1⟩
    exact h1.trans ⟨hg.os, hg.tape, hg.output, hg.size, fun j hj ho => hg.block j hj fun e => ho.2 e.symm⟩
  · obtain rfl : g = j := by simpa [Value.ownBlock] using hj
    rcases hat with e | e
    · exact ⟨.inl (h.rb.lst.mine g e).1, (h.rb.lst.mine g e).2⟩
    · subst e
      exact ⟨.inr ⟨Nat.le_refl _, hlt⟩, fun q => by have := h.rb.lst.low _ (h.rb.lst.fix _ q); omega⟩
theorem infoR : (Try.prog.info? 28).map (fun i => (i.zero, i.size, i.bytes)) = some (some (.agg #[.int .i64 0, .slice none 0 0]), 2, 32) := by kernel_rfl
section
variable {c : Nat} {n : Nat} {Fin : Gh → Goroutine → World → Prop}
attribute [local go_sem] ev_store_slice
/-- The round. -/
def roundX : Code := .seq (.cond (.tmp 15) .skip (.exit 0)) (.block 1 (.seq (.region 6
    #[{ dst := some 16, op := .extract (.tmp 14) 0, type := 28, pos := "l09_sums.go:121", after := #[], guard := none },
      { dst := some 7, op := .alloc 28, type := 0, pos := "l09_sums.go:121", after := #[], guard := none },
      { dst := none, op := .store 28 (.tmp 7) (.tmp 16), type := 0, pos := "l09_sums.go:121", after := #[{ on := 1, ground := .data }, { on := 0, ground := .data }, { on := 0, ground := .phase }, { on := 1, ground := .phase }], guard := none }] false)
    (.region 7
    #[{ dst := some 17, op := .move (.tmp 6), type := 26, pos := "l09_sums.go:122", after := #[], guard := none },
      { dst := some 18, op := .load 28 (.tmp 7), type := 28, pos := "l09_sums.go:122", after := #[], guard := none },
      { dst := some 19, op := .buildSlice 26 1 #[(0, .tmp 18)], type := 26, pos := "l09_sums.go:122", after := #[{ on := 1, ground := .data }], guard := none },
      { dst := some 20, op := .call { callee := .builtin .append, args := #[.tmp 17, .tmp 19], argTypes := #[26, 26] }, type := 26, pos := "l09_sums.go:122", after := #[{ on := 0, ground := .data }, { on := 2, ground := .data }], guard := none },
      { dst := some 6, op := .assign (.tmp 20), type := 26, pos := "l09_sums.go:122", after := #[{ on := 3, ground := .data }, { on := 3, ground := .chain }, { on := 0, ground := .phase }, { on := 1, ground := .phase }, { on := 2, ground := .phase }, { on := 3, ground := .phase }], guard := none }] false)))
set_option maxHeartbeats 4000000 in
set_option maxRecDepth 100000 in
theorem round_any (av : Option Addr) (l cv : Nat) (lv : Value) (k : Nat) (xs : List Value) (hk : k < 16777216) (s : Gh) (w : World) (u0 u1 u2 u3 u4 u5 u7 u8 u9 u10 u11 u12 u13 u16 u17 u18 u19 u20 u21 : Value) (hH : Rcvs s w lv k xs) (Q : Exit → Gh → Act → World → Prop)
    (hQ : ∀ s' w' lv' v7 v16 v17 v18 v19 v20, BehL lv s w s' w' → (∀ j, lv'.ownBlock = some j → lv.ownBlock = some j ∨ w.heap.size ≤ j) → Rcvs s' w' lv' (k + 1) (xs ++ [.int .i64 n, .slice av l cv]) → Q .normal s' { tmps := #[u0, u1, u2, u3, u4, u5, lv', v7, u8, u9, u10, u11, u12, u13, .tuple #[rhy n av l cv, .bool true], .bool true, v16, v17, v18, v19, v20, u21], defers := [] } w') :
    wpI Try.prog true c (dealA (RepR n) (ValR n) Fin) 25 roundX Q s { tmps := #[u0, u1, u2, u3, u4, u5, lv, u7, u8, u9, u10, u11, u12, u13, .tuple #[rhy n av l cv, .bool true], .bool true, u16, u17, u18, u19, u20, u21], defers := [] } w := by
  unfold roundX
  have hF : RcvV s w s w lv k xs := ⟨Behind.refl s w, hH⟩
  have hox := hH.low
  clear hH
  (repeat (first | (refine wpI_region ?_; simp only [List.size_toArray, List.length_cons, List.length_nil, Nat.reduceAdd, Nat.zero_add, List.range, List.range.loop]) | (refine opsI_cons_k rfl (by rfl) ?_
                                                                                                                                                                         intro _ hRq Kq hKq
                                                                                                                                                                         replace hF := (RcvV.rely) hF hRq
                                                                                                                                                                         clear hRq
                                                                                                                                                                         (skip)
                                                                                                                                                                         go_simp
                                                                                                                                                                         refine hKq _ _ ⟨s, ?_, ?_⟩
                                                                                                                                                                         · (refine Does.still ?_; co_evs (skip))
                                                                                                                                                                         clear hKq Kq
                                                                                                                                                                         try walk_nrm
                                                                                                                                                                         repeat (rw [IntWalk.i64_in _ ⟨by omega, by omega⟩])) | ((first | refine wpI_seq ?_ | refine wpI_block ?_ | refine wpI_skip ?_ | refine wpI_label ?_ | refine wpI_ret ?_ | refine wpI_exit ?_ | refine opsI_nil ?_); try (simp only [thenI, inBlockI, if_true, if_false, reduceIte, Nat.reduceEqDiff])) | (refine wpI_cond (by exact rfl) ?_; simp only [if_true, if_false, reduceIte, Bool.false_eq_true])))
  refine opsI_makeA rfl (by rfl) (.cells #[.int .i64 0, .slice none 0 0] 28) (fun k => .pointer (some ⟨k, 0, none⟩)) (fun w₁ => by go_simp) (fun w₁ => by simp [go_sem]) (fun w₁ h₁ => ?_)
  have hF1 := hF.rely h₁
  have hA : RcvW s w (s.grow w₁ (w₁.alloc (.cells #[.int .i64 0, .slice none 0 0] 28))) (w₁.alloc (.cells #[.int .i64 0, .slice none 0 0] 28)) lv k xs w₁.heap.size (.int .i64 0) (.slice none 0 0) :=
    ⟨hF1.beh.make _, hF1.lst.box _ _⟩
  have hnN : ¬ s.own w₁.heap.size := fun h => by have := hox _ h; have := hF1.beh.kept.size; omega
  generalize s.grow w₁ (w₁.alloc (.cells #[.int .i64 0, .slice none 0 0] 28)) = s1 at hA ⊢
  generalize w₁.alloc (.cells #[.int .i64 0, .slice none 0 0] 28) = wA at hA ⊢
  generalize w₁.heap.size = N at hA hnN ⊢
  clear hF hF1 h₁
  walk_nrm
  refine opsI_turnA rfl (by rfl) (fun W => (W.setCell ⟨N, 0, none⟩ (.int .i64 n)).setCell ⟨N, 1, none⟩ (.slice av l cv)) (fun w₃ h₃ => ?_) (fun w₃ h₃ => ?_)
  · have hl := (hA.rely h₃).rb.box
    obtain ⟨c0, c1, f0, f1⟩ := hl.box.facts
    have lt := hl.box.lt
    refine ⟨by go_simp, kept_two hl.mine hl.free _ _, by simp, by (intro e he; have hm := mem_listed he; (simp [go_sem, *] at hm) <;> (first | (rw [hm]; exact evO_cell rfl hl.mine) | (rcases hm with hm | hm <;> (rw [hm]; exact evO_cell rfl hl.mine))))⟩
  have hC : RcvW s w s1 ((w₃.setCell ⟨N, 0, none⟩ (.int .i64 n)).setCell ⟨N, 1, none⟩ (.slice av l cv)) lv k xs N (.int .i64 n) (.slice av l cv) := by
    have h := hA.rely h₃
    exact ⟨(h.beh.set hnN _).set hnN _, h.rb.set _ _⟩
  generalize (w₃.setCell ⟨N, 0, none⟩ (.int .i64 n)).setCell ⟨N, 1, none⟩ (.slice av l cv) = wC at hC ⊢
  clear hA h₃
  walk_nrm
  refine opsI_nil ?_
  (simp only [thenI, inBlockI, if_true, if_false, reduceIte, Nat.reduceEqDiff])
  (repeat (first | (refine wpI_region ?_; simp only [List.size_toArray, List.length_cons, List.length_nil, Nat.reduceAdd, Nat.zero_add, List.range, List.range.loop]) | (refine opsI_cons_k rfl (by rfl) ?_
                                                                                                                                                                         intro _ hRq Kq hKq
                                                                                                                                                                         replace hC := (RcvW.rely) hC hRq
                                                                                                                                                                         clear hRq
                                                                                                                                                                         (obtain ⟨c0, c1, f0, f1⟩ := hC.rb.box.box.facts)
                                                                                                                                                                         go_simp
                                                                                                                                                                         refine hKq _ _ ⟨s1, ?_, ?_⟩
                                                                                                                                                                         · (refine Does.still ?_; (intro e he; have hm := mem_listed he; (simp [go_sem, *] at hm) <;> (first | (rw [hm]; exact evO_cell rfl hC.rb.box.mine) | (rcases hm with hm | hm <;> (rw [hm]; exact evO_cell rfl hC.rb.box.mine)))))
                                                                                                                                                                         clear hKq Kq
                                                                                                                                                                         try walk_nrm
                                                                                                                                                                         repeat (rw [IntWalk.i64_in _ ⟨by omega, by omega⟩])) | ((first | refine wpI_seq ?_ | refine wpI_block ?_ | refine wpI_skip ?_ | refine wpI_label ?_ | refine wpI_ret ?_ | refine wpI_exit ?_ | refine opsI_nil ?_); try (simp only [thenI, inBlockI, if_true, if_false, reduceIte, Nat.reduceEqDiff])) | (refine wpI_cond (by exact rfl) ?_; simp only [if_true, if_false, reduceIte, Bool.false_eq_true])))
  refine opsI_makeA rfl (by rfl) (.cells #[.int .i64 n, .slice av l cv] 28) (fun j => .slice (some ⟨j, 0, none⟩) 1 1) (fun w₁ => by go_simp) (fun w₁ => by simp [go_sem]) (fun w₆ h₆ => ?_)
  have hC1 := hC.rely h₆
  have hG : RcvW s w (s1.grow w₆ (w₆.alloc (.cells #[.int .i64 n, .slice av l cv] 28))) (w₆.alloc (.cells #[.int .i64 n, .slice av l cv] 28)) lv k xs w₆.heap.size (.int .i64 n) (.slice av l cv) :=
    ⟨hC1.beh.make _, hC1.rb.lst.box _ _⟩
  generalize s1.grow w₆ (w₆.alloc (.cells #[.int .i64 n, .slice av l cv] 28)) = s3 at hG ⊢
  generalize w₆.alloc (.cells #[.int .i64 n, .slice av l cv] 28) = wG at hG ⊢
  generalize w₆.heap.size = N2 at hG ⊢
  clear hC hC1 h₆
  walk_nrm
  obtain ⟨i0, hi, hz0, hz1, hz2⟩ := info_parts' infoR
  refine opsI_appendA rfl (by rfl) (.tmp 17) (.tmp 19) 26 28 rfl i0 (.agg #[.int .i64 0, .slice none 0 0]) 2 32 Try.underlying26 hi hz0 hz1 hz2 rfl (by decide) lv k xs N2 1 1 [.int .i64 n, .slice av l cv] rfl rfl rfl
    (by intro u hu; simp at hu; rcases hu with rfl | rfl <;> rfl) (by omega) (by unfold maxLen; omega) (by omega)
    (fun w₇ h₇ => ⟨(hG.rely h₇).rb.lst.row, fun j u hj => by
      obtain ⟨c0, c1, f0, f1⟩ := (hG.rely h₇).rb.box.box.facts
      rcases j with _ | _ | j
      · simp at hj; subst hj; simpa [Addr.add] using c0
      · simp at hj; subst hj; simpa [Addr.add] using c1
      · simp at hj⟩)
    hG.rb.lst.mine hG.rb.box.mine (fun w₇ g cap w₈ h₇ hown hgr hat hlt' => ?_)
  have hG' := hG.rely h₇
  have hK : RcvF lv s w (s3.grow w₇ w₈) w₈ (.slice (some ⟨g, 0, none⟩) (k + 1) cap) (k + 1) (xs ++ [.int .i64 n, .slice av l cv]) := hG'.app hgr hown hat hlt'
  have hlv : ∀ j, (Value.slice (some ⟨g, 0, none⟩) (k + 1) cap).ownBlock = some j → lv.ownBlock = some j ∨ w.heap.size ≤ j := fun j hj => by
    obtain rfl : g = j := by simpa [Value.ownBlock] using hj
    exact hat.elim .inl fun e => .inr (by rw [e]; exact hG'.beh.kept.size)
  generalize s3.grow w₇ w₈ = s4 at hK ⊢
  clear hG hG' hgr hown hat hlt' h₇ hi hz0 hz1 hz2
  walk_nrm
  (repeat (first | (refine wpI_region ?_; simp only [List.size_toArray, List.length_cons, List.length_nil, Nat.reduceAdd, Nat.zero_add, List.range, List.range.loop]) | (refine opsI_cons_k rfl (by rfl) ?_
                                                                                                                                                                         intro _ hRq Kq hKq
                                                                                                                                                                         replace hK := (RcvF.rely) hK hRq
                                                                                                                                                                         clear hRq
                                                                                                                                                                         (skip)
                                                                                                                                                                         go_simp
                                                                                                                                                                         refine hKq _ _ ⟨s4, ?_, ?_⟩
                                                                                                                                                                         · (refine Does.still ?_; co_evs (skip))
                                                                                                                                                                         clear hKq Kq
                                                                                                                                                                         try walk_nrm
                                                                                                                                                                         repeat (rw [IntWalk.i64_in _ ⟨by omega, by omega⟩])) | ((first | refine wpI_seq ?_ | refine wpI_block ?_ | refine wpI_skip ?_ | refine wpI_label ?_ | refine wpI_ret ?_ | refine wpI_exit ?_ | refine opsI_nil ?_); try (simp only [thenI, inBlockI, if_true, if_false, reduceIte, Nat.reduceEqDiff])) | (refine wpI_cond (by exact rfl) ?_; simp only [if_true, if_false, reduceIte, Bool.false_eq_true])))
  exact hQ _ _ _ _ _ _ _ _ _ hK.beh hlv hK.lst
end
end Go.Proofs.Ytgmhdmhnedljcaa.Co

/-
  Helpers of the claims beside this text: the receiver's loop in company.
-/
namespace Go.Proofs.Ytgmhdmhnedljcaa.Co
open Go Go.Conc Go.RowKit Rhy
set_option linter.unusedVariables false
set_option linter.unusedSimpArgs false

section
variable {S : Type} {P : Program} {main : Bool} {c : Nat} {T : Deal S} {Stop : S → Goroutine → World → Prop} {s : S} {w : World} {b : Frame} {a : Act} {k : List Item} {cs : List Frame}
/-- It receives. -/
theorem goI_recv {ops : Array Oper} {i : Nat} {rest : List Nat} {o : Oper} {z : Value} (ho : ops[i]? = some o) (hw : Region.wanted o (yielded ops a.tmps) = true) (hk : b.kind ≠ .early) (ha : T.Asks s)
    (h : ∀ w₁, T.R s w w₁ → (execOp a.eval o).run P w₁ = .ok (.comm #[rcase c z] true (.recv true)) w₁ ∧ T.D s w₁ w₁ (listed P b.fn a o w₁) s)
    (hv : ∀ w₁ v w₂ s', T.R s w w₁ → T.Rcv s v w₁ w₂ s' → GoI P main c T Stop s' (G (b.at (a.put o.dst (.tuple #[v, .bool true])) (.inRegion ops rest :: k)) cs) w₂)
    (he : ∀ w₁ w₂ s', T.R s w w₁ → T.End s w₁ w₂ s' → T.Fin s' (G (b.at (a.put o.dst (.tuple #[z, .bool false])) (.inRegion ops rest :: k)) cs) w₂) : GoI P main c T Stop s (G (b.at a (.inRegion ops (i :: rest) :: k)) cs) w := by
  have hfin : ∀ v, Conc.served (G (b.at a (.inRegion ops (i :: rest) :: k)) cs) v = G (b.at (a.put o.dst v) (.inRegion ops rest :: k)) cs := fun v => by
    have : (b.at a (.inRegion ops (i :: rest) :: k)).finish v = b.at (a.put o.dst v) (.inRegion ops rest :: k) := by rw [Frame.finish_at, ho]; rfl
    rw [← this]
    rfl
  refine GoI.recv z (fun w₁ => listed P b.fn a o w₁) rfl ha (fun w₁ h₁ => stepG_comm ho hw hk (h w₁ h₁).1) (fun w₁ h₁ => (h w₁ h₁).2) (fun w₁ v w₂ s' h₁ k₁ => ?_) (fun w₁ w₂ s' h₁ k₁ => ?_)
  · rw [hfin]; exact hv w₁ v w₂ s' h₁ k₁
  · rw [hfin]; exact he w₁ w₂ s' h₁ k₁
end
/-- The cells of what has come. -/
def gotC (l : List (List Int × Value)) : List Value := l.flatMap fun p => match p.2 with | .agg cs => cs.toList | _ => []
/-- What the receiver holds at the loop's head; W0: the world at the beginning, Old: blocks that nobody turns. -/
structure Keep (Old : Nat → Prop) (W0 : World) (s : Gh) (w : World) (lv : Value) : Prop where
  lst : Rcvs s w lv s.got.length (gotC s.got)
  old : ∀ j, Old j → s.own j ∧ lv.ownBlock ≠ some j ∧ w.heap[j]? = W0.heap[j]?
  os : w.os = W0.os
  tape : w.tape = W0.tape
  output : w.output = W0.output
  size : W0.heap.size ≤ w.heap.size
theorem Keep.rely {Old : Nat → Prop} {W0 : World} {s : Gh} {w w₁ : World} {lv : Value} (h : Keep Old W0 s w lv) (r : Stays s.own w w₁) : Keep Old W0 s w₁ lv :=
  ⟨h.lst.rely r, fun j hj => ⟨(h.old j hj).1, (h.old j hj).2.1, (r.block j (h.old j hj).1).trans (h.old j hj).2.2⟩, r.os.trans h.os, r.tape.trans h.tape, r.output.trans h.output, Nat.le_trans h.size r.size⟩
/-- What is known where the channel is found closed. -/
def FinR (n : Nat) (Old : Nat → Prop) (W0 : World) (c : Nat) (b : Frame) (k : List Item) (cs : List Frame) (fin : List (List Int)) (s : Gh) (g : Goroutine) (w : World) : Prop :=
  ∃ (lv z u0 u1 u2 u3 u4 u5 u7 u8 u9 u10 u11 u12 u15 u16 u17 u18 u19 u20 u21 : Value), g = G (b.at { tmps := #[u0, u1, u2, u3, u4, u5, lv, u7, u8, u9, u10, u11, u12, .chan (some c), .tuple #[z, .bool false], u15, u16, u17, u18, u19, u20, u21], defers := [] } k) cs ∧ Keep Old W0 s w lv ∧ s.got.map (·.1) = fin ∧ ∃ f : Nat → Prop, (∀ b, f b → ¬ s.own b ∧ b < w.heap.size) ∧ ∀ p ∈ s.got, RepR n p.1 p.2 f w
/-- The region that asks. -/
def askOps : Array Oper := #[{ dst := some 14, op := .recv 47 (.tmp 13) true, type := 0, pos := "l09_sums.go:121", after := #[], guard := none }, { dst := some 15, op := .extract (.tmp 14) 1, type := 4, pos := "l09_sums.go:121", after := #[{ on := 0, ground := .data }], guard := none }]
def loopX : Code := .seq (.region 5 askOps false) roundX
set_option maxHeartbeats 4000000 in
set_option maxRecDepth 100000 in
theorem loop_go (n c : Nat) (Old : Nat → Prop) (W0 : World) (b : Frame) (hb : b.fn = 25) (hk : b.kind ≠ .early) (K : List Item) (cs : List Frame) (fin : List (List Int)) (hfin : fin.length < 16777216) (Stop : Gh → Goroutine → World → Prop) :
    ∀ (m : Nat) (s : Gh) (w : World) (lv u0 u1 u2 u3 u4 u5 u7 u8 u9 u10 u11 u12 u14 u15 u16 u17 u18 u19 u20 u21 : Value), s.rem.length = m → s.got.map (·.1) ++ s.rem = fin → Keep Old W0 s w lv →
      GoI Try.prog true c (dealA (RepR n) (ValR n) (FinR n Old W0 c b (.inRegion askOps [1] :: .code roundX :: .inLoop loopX :: K) cs fin)) Stop s (G (b.at { tmps := #[u0, u1, u2, u3, u4, u5, lv, u7, u8, u9, u10, u11, u12, .chan (some c), u14, u15, u16, u17, u18, u19, u20, u21], defers := [] } (.code loopX :: .inLoop loopX :: K)) cs) w := by
  intro m
  induction m using Nat.strongRecOn with
  | ind m ih =>
    intro s w lv u0 u1 u2 u3 u4 u5 u7 u8 u9 u10 u11 u12 u14 u15 u16 u17 u18 u19 u20 u21 hm hf hK
    refine GoI.still rfl (fun _ => stepG_seq) ?_
    refine GoI.still rfl (fun _ => stepG_region) ?_
    simp only [askOps, List.size_toArray, List.length_cons, List.length_nil, Nat.reduceAdd, Nat.zero_add, List.range, List.range.loop]
    refine goI_recv (z := rhy 0 none 0 0) rfl (by rfl) hk trivial (fun w₁ h₁ => ⟨?_, ?_⟩) (fun w₁ v w₂ s' h₁ h₂ => ?_) (fun w₁ w₂ s' h₁ h₂ => ?_)
    · go_simp
      rfl
    · exact Does.still (by co_evs (skip))
    · obtain ⟨l, e1, e2, e3, e4, ⟨av, cv, rfl⟩, hst⟩ := h₂
      have hK1 := (hK.rely h₁).rely hst
      have hL : Rcvs s' w₂ lv s.got.length (gotC s.got) := ⟨hK1.lst.row, fun j hj => by rw [e3, e4]; exact hK1.lst.mine j hj, fun j hj => hK1.lst.low j (e3 ▸ hj), fun j hj => by rw [e3]; exact hK1.lst.fix j (e4 ▸ hj)⟩
      have hlen : s.got.length < 16777216 := by
        have := congrArg List.length hf
        simp at this
        omega
      walk_nrm
      refine goI_val (.bool true) rfl (by rfl) hk (fun w₁ h₁ => ⟨by go_simp, Does.still (by co_evs (skip))⟩) ?_
      walk_nrm
      refine GoI.still rfl (fun _ => stepG_region_end) ?_
      refine round_any (c := c) (n := n) av l.length cv lv s.got.length (gotC s.got) hlen s' w₂ _ _ _ _ _ _ _ _ _ _ _ _ _ _ _ _ _ _ _ hL
        (fun e s₃ a w₃ => e = .normal ∧ ∃ (lv' u0 u1 u2 u3 u4 u5 u7 u8 u9 u10 u11 u12 u14 u15 u16 u17 u18 u19 u20 u21 : Value), a = { tmps := #[u0, u1, u2, u3, u4, u5, lv', u7, u8, u9, u10, u11, u12, .chan (some c), u14, u15, u16, u17, u18, u19, u20, u21], defers := [] } ∧ Keep Old W0 s₃ w₃ lv' ∧ s₃.rem = s'.rem ∧ s₃.got = s'.got) ?_ b (.inLoop loopX :: K) cs Stop hb hk ?_
      · intro s₃ w₃ lv' v7 v16 v17 v18 v19 v20 hbe hlv hR
        refine ⟨rfl, lv', _, _, _, _, _, _, _, _, _, _, _, _, _, _, _, _, _, _, _, _, rfl, ⟨?_, fun j hj => ⟨?_, ?_, ?_⟩, ?_, ?_, ?_, ?_⟩, hbe.rem, hbe.got⟩
        · have hg : s₃.got = s.got ++ [(l, rhy n av l.length cv)] := hbe.got.trans e2
          rw [hg, List.length_append, List.length_singleton, show gotC (s.got ++ [(l, rhy n av l.length cv)]) = gotC s.got ++ [.int .i64 n, .slice av l.length cv] by simp [gotC, rhy]]
          exact hR
        · exact hbe.own j (by rw [e3]; exact (hK1.old j hj).1)
        · intro e
          rcases hlv j e with h | h
          · exact (hK1.old j hj).2.1 h
          · have := hK1.lst.low j (hK1.old j hj).1
            omega
        · exact (hbe.kept.block j (hK1.lst.low j (hK1.old j hj).1) ⟨by rw [e3]; exact (hK1.old j hj).1, (hK1.old j hj).2.1⟩).trans (hK1.old j hj).2.2
        · exact hbe.kept.os.trans hK1.os
        · exact hbe.kept.tape.trans hK1.tape
        · exact hbe.kept.output.trans hK1.output
        · exact Nat.le_trans hK1.size hbe.kept.size
      · rintro e s₃ a w₃ ⟨rfl, lv', u0, u1, u2, u3, u4, u5, u7, u8, u9, u10, u11, u12, u14, u15, u16, u17, u18, u19, u20, u21, rfl, hK3, hr3, hg3⟩
        refine GoI.still rfl (fun _ => stepG_inLoop) ?_
        refine ih s₃.rem.length (by rw [hr3, ← hm, e1]; simp) s₃ w₃ lv' u0 u1 u2 u3 u4 u5 u7 u8 u9 u10 u11 u12 u14 u15 u16 u17 u18 u19 u20 u21 rfl ?_ hK3
        rw [hr3, hg3, e2, ← hf, e1]
        simp
    · obtain ⟨h1, rfl, h3, f, h4, h5⟩ := h₂
      refine ⟨lv, _, _, _, _, _, _, _, _, _, _, _, _, _, _, _, _, _, _, _, _, rfl, (hK.rely h₁).rely h3, ?_, f, h4, h5⟩
      rw [← hf, h1, List.append_nil]
end Go.Proofs.Ytgmhdmhnedljcaa.Co

/-
  Helpers of the claims beside this text: goroutine 0 behind the go statement, till the channel is closed.
-/
namespace Go.Proofs.Ytgmhdmhnedljcaa.Co
open Go Go.Conc Go.RowKit Rhy
set_option linter.unusedVariables false
set_option linter.unusedSimpArgs false

/-- What stands behind the loop. -/
def lastX : Code := .seq (.region 8 #[{ dst := some 21, op := .move (.tmp 6), type := 26, pos := "l09_sums.go:124", after := #[], guard := none }, { dst := some 4, op := .assign (.tmp 21), type := 26, pos := "l09_sums.go:124", after := #[{ on := 0, ground := .data }, { on := 0, ground := .phase }], guard := none }] false) .ret
/-- What stands behind the go statement. -/
def tailX : Code := .seq (.region 3 #[{ dst := some 6, op := .assign (.const (.slice none 0 0)), type := 26, pos := "l09_sums.go:120", after := #[], guard := none }] false)
  (.seq (.seq (.region 4 #[{ dst := some 13, op := .move (.tmp 5), type := 47, pos := "l09_sums.go:121", after := #[], guard := none }] false) (.block 0 (.loop loopX))) lastX)
/-- The items behind the receive that finds the channel closed. -/
def endK (k : List Item) : List Item := .inRegion askOps [1] :: .code roundX :: .inLoop loopX :: .inBlock 0 :: .code lastX :: k
set_option maxHeartbeats 2000000 in
set_option maxRecDepth 100000 in
/-- GOROUTINE 0 BEHIND THE GO STATEMENT: what Run.pair asks of the receiver. -/
theorem tail_go (n c : Nat) (Old : Nat → Prop) (b : Frame) (hb : b.fn = 25) (hk : b.kind ≠ .early) (k : List Item) (cs : List Frame) (Stop : Gh → Goroutine → World → Prop) (s : Gh) (w : World) (hlen : s.rem.length < 16777216)
    (hg : s.got = []) (hlow : ∀ j, s.own j → j < w.heap.size) (hfx : ∀ j, ¬ s.fix j) (hold : ∀ j, Old j → s.own j) (u0 u1 u2 u3 u4 u6 u7 u8 u9 u10 u11 u12 u13 u14 u15 u16 u17 u18 u19 u20 u21 : Value) :
    GoI Try.prog true c (dealA (RepR n) (ValR n) (FinR n Old w c b (endK k) cs s.rem)) Stop s (G (b.at { tmps := #[u0, u1, u2, u3, u4, .chan (some c), u6, u7, u8, u9, u10, u11, u12, u13, u14, u15, u16, u17, u18, u19, u20, u21], defers := [] } (.code tailX :: k)) cs) w := by
  have hK : Keep Old w s w (.slice none 0 0) := ⟨⟨by rw [hg]; exact World.ownsRow_nil _ _ _ _, fun j hj => by simp [Value.ownBlock] at hj, hlow, fun j hj => absurd hj (hfx j)⟩, fun j hj => ⟨hold j hj, by simp [Value.ownBlock], rfl⟩, rfl, rfl, rfl, Nat.le_refl _⟩
  refine GoI.still rfl (fun _ => stepG_seq) ?_
  refine GoI.still rfl (fun _ => stepG_region) ?_
  simp only [List.size_toArray, List.length_cons, List.length_nil, Nat.reduceAdd, Nat.zero_add, List.range, List.range.loop]
  refine goI_val (.slice none 0 0) rfl (by rfl) hk (fun w₁ h₁ => ⟨by go_simp, Does.still (by co_evs (skip))⟩) ?_
  walk_nrm
  refine GoI.still rfl (fun _ => stepG_region_end) ?_
  refine GoI.still rfl (fun _ => stepG_seq) ?_
  refine GoI.still rfl (fun _ => stepG_seq) ?_
  refine GoI.still rfl (fun _ => stepG_region) ?_
  simp only [List.size_toArray, List.length_cons, List.length_nil, Nat.reduceAdd, Nat.zero_add, List.range, List.range.loop]
  refine goI_val (.chan (some c)) rfl (by rfl) hk (fun w₁ h₁ => ⟨by go_simp, Does.still (by co_evs (skip))⟩) ?_
  walk_nrm
  refine GoI.still rfl (fun _ => stepG_region_end) ?_
  refine GoI.still rfl (fun _ => stepG_block) ?_
  refine GoI.still rfl (fun _ => stepG_loop) ?_
  exact loop_go n c Old w b hb hk _ cs s.rem hlen Stop _ s w (.slice none 0 0) _ _ _ _ _ _ _ _ _ _ _ _ _ _ _ _ _ _ _ _ rfl (by rw [hg]; rfl) hK
end Go.Proofs.Ytgmhdmhnedljcaa.Co
