/-
  Helpers of the claims beside this text: the program's form of a rhythm: its size and 24 marks in one struct; when two forms are equal.
-/
import Derived.Test.YtcppmcacjjjjeaaPer
import Derived.Laws.StructEq
import Derived.Laws.Rows
import Derived.Laws.Tables
import Derived.ChangeKeysEq
namespace Go.Proofs.Ytcppmcacjjjjeaa.Rhy
open Go.RowKit
set_option linter.unusedVariables false

def maskL (zs : List Int) : List Bool := (List.range 24).map fun i : Nat => zs.contains (i : Int)
def formC (s : Int) (l : List Bool) : Array Value := (Value.int .i64 s :: l.map Value.bool).toArray
def formA (s : Int) (zs : List Int) : Array Value := formC s (maskL zs)
def formV (s : Int) (zs : List Int) : Value := .agg (formA s zs)
theorem maskL_len (zs : List Int) : (maskL zs).length = 24 := by simp [maskL]
theorem formA_size (s : Int) (zs : List Int) : (formA s zs).size = 25 := by simp [formA, formC, maskL_len]
theorem formA_one (s : Int) (zs : List Int) : (formA s zs).all (·.oneCell') = true := by
  refine Array.all_eq_true_iff_forall_mem.2 fun v hv => ?_
  unfold formA formC at hv
  simp only [List.mem_toArray, List.mem_cons, List.mem_map] at hv
  rcases hv with rfl | ⟨b, _, rfl⟩ <;> rfl
theorem maskL_at (zs : List Int) (j : Nat) : (maskL zs)[j]? = if j < 24 then some (zs.contains (j : Int)) else none := by
  unfold maskL
  by_cases h : j < 24
  · rw [if_pos h]; simp [h]
  · rw [if_neg h]; simp [h]
theorem formA_at (s : Int) (zs : List Int) (j : Nat) : (formA s zs)[1 + j]? = if j < 24 then some (.bool (zs.contains (j : Int))) else none := by
  unfold formA formC
  rw [List.getElem?_toArray, Nat.add_comm, List.getElem?_cons_succ, List.getElem?_map, maskL_at]
  by_cases h : j < 24
  · rw [if_pos h, if_pos h]; rfl
  · rw [if_neg h, if_neg h]; rfl
theorem formA_zero (s : Int) (zs : List Int) : (formA s zs)[0]? = some (.int .i64 s) := rfl
theorem formA_nil (s : Int) : formA s [] = #[.int .i64 s, .bool false, .bool false, .bool false, .bool false, .bool false, .bool false, .bool false, .bool false, .bool false, .bool false, .bool false, .bool false, .bool false, .bool false, .bool false, .bool false, .bool false, .bool false, .bool false, .bool false, .bool false, .bool false, .bool false, .bool false] := rfl
theorem formA_set {s : Int} {zs : List Int} {k z : Nat} (hz : zs[k]? = some (z : Int)) (h : z < 24) : (formA s (zs.take k)).setIfInBounds (1 + z) (.bool true) = formA s (zs.take (k + 1)) := by
  apply Array.ext_getElem?
  intro i
  rw [Array.getElem?_setIfInBounds]
  rcases i with _ | i
  · rw [if_neg (by omega), formA_zero, formA_zero]
  · rw [Nat.add_comm i 1, formA_at, formA_at]
    have hs : zs.take (k + 1) = zs.take k ++ [(z : Int)] := by rw [List.take_add_one, hz]; rfl
    by_cases e : z = i
    · subst e
      rw [if_pos rfl, if_pos (by rw [formA_size]; omega), if_pos h, hs]
      simp
    · rw [if_neg (by omega)]
      by_cases q : i < 24
      · rw [if_pos q, if_pos q, hs]
        congr 2
        rw [Bool.eq_iff_iff]
        simp only [List.contains_iff_mem, List.mem_append, List.mem_singleton]
        constructor
        · exact fun h => .inl h
        · rintro (h | h)
          · exact h
          · omega
      · rw [if_neg q, if_neg q]

/-- Are two forms equal? -/
def eqF (s : Int) (xs : List Int) (t : Int) (ys : List Int) : Bool := (s == t) && (maskL xs == maskL ys)
theorem eqF_ok {s t : Int} {xs ys : List Int} (hx : Ok s xs) (hy : Ok t ys) : eqF s xs t ys = (decide (s = t) && eqB xs ys) := by
  unfold eqF
  by_cases hs : s = t
  · subst hs
    have : (maskL xs == maskL ys) = eqB xs ys := by
      unfold eqB
      rw [Bool.eq_iff_iff, beq_iff_eq, decide_eq_true_iff]
      constructor
      · intro h
        refine lt_uniq (ok_sorted hx) (ok_sorted hy) fun x => ?_
        have key : ∀ j : Nat, j < 24 → (xs.contains (j : Int) = ys.contains (j : Int)) := fun j hj => by
          have h1 := maskL_at xs j
          have h2 := maskL_at ys j
          rw [h, h2, if_pos hj, if_pos hj] at h1
          exact (Option.some.inj h1).symm
        constructor
        · intro q
          have hb := ok_range hx x q
          have := key x.toNat (by have := hx.1; omega)
          rw [Int.toNat_of_nonneg hb.1, List.contains_iff_mem.2 q] at this
          exact List.contains_iff_mem.1 this.symm
        · intro q
          have hb := ok_range hy x q
          have := key x.toNat (by have := hx.1; omega)
          rw [Int.toNat_of_nonneg hb.1, List.contains_iff_mem.2 q] at this
          exact List.contains_iff_mem.1 this
      · intro h; rw [h]
    simp [this]
  · have : (s == t) = false := by simpa using hs
    simp [this, hs]

theorem infoB : (Try.prog.info? 4).map (·.size) = some 1 := by kernel_rfl
theorem infoA24 : (Try.prog.info? 101).map (·.size) = some 24 := by kernel_rfl
theorem infoF : (Try.prog.info? 103).map (·.size) = some 25 := by kernel_rfl
theorem fieldsF : (Try.prog.fieldsOf 103).toList.map (fun f => (f.name != "_", f.type, f.offset)) = [(true, 3, 0), (true, 101, 1)] := by kernel_rfl
theorem underF : Try.prog.underlying 103 = some (.struct (Try.prog.fieldsOf 103)) := by kernel_rfl
theorem stoodF : Try.prog.stoodInHeld 103 = false := by kernel_rfl
theorem guardF : Try.prog.eqGuardType Try.prog.depth 103 = false := by kernel_rfl
theorem underA24 : Try.prog.underlying 101 = some (.array 24 4) := by kernel_rfl

theorem part_bool (l : List Bool) (i : Nat) (b : Bool) (h : l[i]? = some b) (w : World) : (part 4 (l.map Value.bool).toArray i).run Try.prog w = .ok (.bool b) w := by
  have ha : (isAgg 4).run Try.prog w = .ok false w := by simp [isAgg, run_underlying Try.underlying4]
  have hc : ((l.map Value.bool).toArray)[i]? = some (.bool b) := by simp [h]
  simp [part, ha, hc]
theorem items_bool (d : Nat) (l m : List Bool) : ∀ (f k : Nat), k + f ≤ l.length → k + f ≤ m.length → ∀ w : World,
    (Op.eqItems (d + 1) 4 1 (l.map Value.bool).toArray (m.map Value.bool).toArray (List.range' k f)).run Try.prog w = .ok ((List.range' k f).all fun i => l[i]? == m[i]?) w := by
  intro f
  induction f with
  | zero => intro k _ _ w; simp [Op.eqItems]
  | succ f ih =>
    intro k h1 h2 w
    have e1 := List.getElem?_eq_getElem (show k < l.length by omega)
    have e2 := List.getElem?_eq_getElem (show k < m.length by omega)
    rw [List.range'_succ]
    simp only [Op.eqItems, Sem.run_bind, Nat.mul_one, part_bool l k _ e1, part_bool m k _ e2, Result.andThen_ok, run_equalIn_bool w d 4 _ _ Try.underlying4, List.all_cons, e1, e2]
    by_cases q : l[k] = m[k]
    · have hq : (l[k] == m[k]) = true := by simpa using q
      have hq2 : (some l[k] == some m[k]) = true := by simpa using q
      simp only [hq, hq2, Bool.not_true, Bool.false_eq_true, if_false, Bool.true_and]
      exact ih (k + 1) (by omega) (by omega) w
    · have hq : (l[k] == m[k]) = false := by simpa using q
      have hq2 : (some l[k] == some m[k]) = false := by simpa using q
      simp only [hq, hq2, Bool.not_false, if_true, Sem.run_pure, Bool.false_and]
theorem part_form0 (s : Int) (xs : List Int) (w : World) : (part 3 (formA s xs) 0).run Try.prog w = .ok (.int .i64 s) w := by
  have ai : (isAgg 3).run Try.prog w = .ok false w := by simp [isAgg, run_underlying Try.underlying3]
  simp [part, ai, formA_zero]
theorem part_form1 (s : Int) (xs : List Int) (w : World) : (part 101 (formA s xs) 1).run Try.prog w = .ok (.agg ((maskL xs).map Value.bool).toArray) w := by
  have aa : (isAgg 101).run Try.prog w = .ok true w := by simp [isAgg, run_underlying underA24]
  obtain ⟨ia, hia, has⟩ := Option.map_eq_some_iff.1 infoA24
  have sa : (sizeOf 101).run Try.prog w = .ok 24 w := by simp [sizeOf, typeInfo, hia, has]
  have e : (formA s xs).extract 1 (1 + 24) = ((maskL xs).map Value.bool).toArray := by
    apply Array.ext'
    have h2 : ((maskL xs).map Value.bool).take 24 = (maskL xs).map Value.bool := List.take_of_length_le (by rw [List.length_map, maskL_len]; exact Nat.le_refl _)
    simp [formA, formC, List.extract, h2]
  unfold part
  simp only [Sem.run_bind, aa, sa, Result.andThen_ok, if_true, e, Sem.run_pure]
theorem equal_mask (d : Nat) (xs ys : List Int) (w : World) : (Op.equalIn (d + 1 + 1) 101 (.agg ((maskL xs).map Value.bool).toArray) (.agg ((maskL ys).map Value.bool).toArray)).run Try.prog w = .ok (maskL xs == maskL ys) w := by
  obtain ⟨ib, hib, hbs⟩ := Option.map_eq_some_iff.1 infoB
  have hcb : Try.prog.cellsOf 4 = 1 := by unfold Program.cellsOf; rw [infoB]; rfl
  rw [run_equalIn_array w (d + 1) _ _ underA24 hib, hcb, List.range_eq_range', items_bool d (maskL xs) (maskL ys) 24 0 (by rw [maskL_len]; omega) (by rw [maskL_len]; omega)]
  refine congrArg (fun b => Result.ok b w) ?_
  rw [Bool.eq_iff_iff, List.all_eq_true, beq_iff_eq]
  constructor
  · intro h
    apply List.ext_getElem?
    intro i
    by_cases q : i < 24
    · exact eq_of_beq (h i (by rw [List.mem_range'_1]; omega))
    · rw [List.getElem?_eq_none (by rw [maskL_len]; omega), List.getElem?_eq_none (by rw [maskL_len]; omega)]
  · intro h i _; rw [h]; exact beq_self_eq_true _
theorem eqFields_form (d : Nat) (f g : Field) (f1 : (f.name != "_") = true) (f2 : f.type = 3) (f3 : f.offset = 0) (g1 : (g.name != "_") = true) (g2 : g.type = 101) (g3 : g.offset = 1) (s t : Int) (xs ys : List Int) (w : World) :
    (Op.eqFields (d + 1 + 1) (formA s xs) (formA t ys) [f, g]).run Try.prog w = .ok (eqF s xs t ys) w := by
  have f1' : f.name ≠ "_" := by simpa using f1
  have g1' : g.name ≠ "_" := by simpa using g1
  simp only [Op.eqFields, f1', g1', f2, f3, g2, g3, ne_eq, not_false_eq_true, if_true, Sem.run_bind, part_form0, Result.andThen_ok, run_equalIn_int w (d + 1) _ _ _ _ _ Try.underlying3]
  cases hst : (s == t)
  · simp [eqF, hst]
  · simp only [Bool.not_true, Bool.false_eq_true, if_false, Sem.run_bind, part_form1, Result.andThen_ok, equal_mask d xs ys w]
    unfold eqF
    rw [hst, Bool.true_and]
    cases (maskL xs == maskL ys) <;> rfl
theorem run_equal_formD (d : Nat) (s t : Int) (xs ys : List Int) (w : World) :
    (Op.equalIn (d + 1 + 1 + 1) 103 (formV s xs) (formV t ys)).run Try.prog w = .ok (eqF s xs t ys) w := by
  unfold formV
  rw [run_equalIn_agg w (d + 1 + 1) _ _ _ underF stoodF]
  obtain ⟨L, hL⟩ : ∃ L, L = (Try.prog.fieldsOf 103).toList := ⟨_, rfl⟩
  have hf := fieldsF
  rw [← hL] at hf ⊢
  clear hL
  rcases L with _ | ⟨f, _ | ⟨g, _ | ⟨g', gs⟩⟩⟩
  · exact absurd (congrArg List.length hf) (by simp)
  · exact absurd (congrArg List.length hf) (by simp)
  · simp only [List.map_cons, List.map_nil, List.cons.injEq, Prod.mk.injEq, and_true] at hf
    obtain ⟨⟨f1, f2, f3⟩, g1, g2, g3⟩ := hf
    exact eqFields_form d f g f1 f2 f3 g1 g2 g3 s t xs ys w
  · exact absurd (congrArg List.length hf) (by simp)
theorem run_equal_form (s t : Int) (xs ys : List Int) (w : World) :
    (Op.equalIn 10000 103 (formV s xs) (formV t ys)).run Try.prog w = .ok (eqF s xs t ys) w := run_equal_formD 9997 s t xs ys w
/-- '==' and '!=' of two forms, as the operation runs. -/
theorem exec_eql {a : Act} {o : Oper} {x y : Operand} {r : TypeId} (ho : o.op = .binOp .eql 103 x y r) {s t : Int} {xs ys : List Int} (hx : a.eval x = formV s xs) (hy : a.eval y = formV t ys) (w : World) :
    (execOp a.eval o).run Try.prog w = .ok (.value (.bool (eqF s xs t ys))) w := by
  have hg : (eqGuard .eql 103 x y (formV s xs) (formV t ys)).run Try.prog w = .ok () w := run_eqGuard_agg w _ _ _ _ _ _ guardF
  have hb : (binOp .eql 103 (formV s xs) (formV t ys)).run Try.prog w = .ok (.bool (eqF s xs t ys)) w := by
    have := run_equal_form s t xs ys w
    unfold formV at this ⊢
    rw [run_eql_struct, this]; rfl
  unfold execOp
  simp only [ho, hx, hy, Sem.run_bind, hg, hb, Result.andThen_ok]
  rfl
theorem exec_neq {a : Act} {o : Oper} {x y : Operand} {r : TypeId} (ho : o.op = .binOp .neq 103 x y r) {s t : Int} {xs ys : List Int} (hx : a.eval x = formV s xs) (hy : a.eval y = formV t ys) (w : World) :
    (execOp a.eval o).run Try.prog w = .ok (.value (.bool (!eqF s xs t ys))) w := by
  have hg : (eqGuard .neq 103 x y (formV s xs) (formV t ys)).run Try.prog w = .ok () w := run_eqGuard_agg w _ _ _ _ _ _ guardF
  have hb : (binOp .neq 103 (formV s xs) (formV t ys)).run Try.prog w = .ok (.bool (!eqF s xs t ys)) w := by
    have := run_equal_form s t xs ys w
    unfold formV at this ⊢
    rw [run_neq_struct, this]; rfl
  unfold execOp
  simp only [ho, hx, hy, Sem.run_bind, hg, hb, Result.andThen_ok]
  rfl
/-- A form's variable, read. -/
theorem exec_form {a : Act} {o : Oper} {x : Operand} (ho : o.op = .load 103 x) {g : Nat} (hx : a.eval x = .pointer (some ⟨g, 0, none⟩)) {s : Int} {zs : List Int} {w : World} (hg : w.heap[g]? = some (.cells (formA s zs) 103 (0, 0))) :
    (execOp a.eval o).run Try.prog w = .ok (.value (formV s zs)) w := by
  unfold execOp
  simp only [ho, hx, Instr.loadAt, Instr.sureAddr, Sem.run_bind, Sem.run_pure, Result.andThen_ok, run_loadVar_row w g _ _ (formA s zs) (0, 0) _ hg underF rfl (by rw [infoF, formA_size])]
  rfl
end Go.Proofs.Ytcppmcacjjjjeaa.Rhy
