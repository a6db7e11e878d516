/-
  Helpers of the claims beside this text: the program's form of a rhythm: its size and 24 marks in one struct; when two forms are equal.
-/
import Derived.Test.YtpgolnkhbnancaaPer
import Derived.Laws.StructEq
import Derived.Laws.Rows
import Derived.Laws.Tables
import Derived.ChangeKeysEq
import Derived.Test.YtpgolnkhbnancaaRot
import Derived.Test.YtpgolnkhbnancaaFrm
import Derived.Test.YtpgolnkhbnancaaVec
import Derived.Deep.RegionHeld3
namespace Go.Proofs.Ytpgolnkhbnancaa.Rhy
open Go.RowKit
set_option linter.unusedVariables false

def maskL (zs : List Int) : List Bool := (List.range 24).map fun i : Nat => zs.contains (i : Int)
def formC (s : Int) (l : List Bool) : Array Value := (Value.int .i64 s :: l.map Value.bool).toArray
def formA (s : Int) (zs : List Int) : Array Value := formC s (maskL zs)
def formV (s : Int) (zs : List Int) : Value := .agg (formA s zs)
theorem maskL_len (zs : List Int) : (maskL zs).length = 24 := by simp [maskL]
theorem formA_size (s : Int) (zs : List Int) : (formA s zs).size = 25 := by simp [formA, formC, maskL_len]
theorem formA_one (s : Int) (zs : List Int) : (formA s zs).all (·.oneCell') = true := by
  refine Array.all_eq_true_iff_forall_mem.2 fun v hv => ?_
  unfold formA formC at hv
  simp only [List.mem_toArray, List.mem_cons, List.mem_map] at hv
  rcases hv with rfl | ⟨b, _, rfl⟩ <;> rfl
theorem maskL_at (zs : List Int) (j : Nat) : (maskL zs)[j]? = if j < 24 then some (zs.contains (j : Int)) else none := by
  unfold maskL
  by_cases h : j < 24
  · rw [if_pos h]; simp [h]
  · rw [if_neg h]; simp [h]
theorem formA_at (s : Int) (zs : List Int) (j : Nat) : (formA s zs)[1 + j]? = if j < 24 then some (.bool (zs.contains (j : Int))) else none := by
  unfold formA formC
  rw [List.getElem?_toArray, Nat.add_comm, List.getElem?_cons_succ, List.getElem?_map, maskL_at]
  by_cases h : j < 24
  · rw [if_pos h, if_pos h]; rfl
  · rw [if_neg h, if_neg h]; rfl
theorem formA_zero (s : Int) (zs : List Int) : (formA s zs)[0]? = some (.int .i64 s) := rfl
theorem formA_nil (s : Int) : formA s [] = #[.int .i64 s, .bool false, .bool false, .bool false, .bool false, .bool false, .bool false, .bool false, .bool false, .bool false, .bool false, .bool false, .bool false, .bool false, .bool false, .bool false, .bool false, .bool false, .bool false, .bool false, .bool false, .bool false, .bool false, .bool false, .bool false] := rfl
theorem formA_set {s : Int} {zs : List Int} {k z : Nat} (hz : zs[k]? = some (z : Int)) (h : z < 24) : (formA s (zs.take k)).setIfInBounds (1 + z) (.bool true) = formA s (zs.take (k + 1)) := by
  apply Array.ext_getElem?
  intro i
  rw [Array.getElem?_setIfInBounds]
  rcases i with _ | i
  · rw [if_neg (by omega), formA_zero, formA_zero]
  · rw [Nat.add_comm i 1, formA_at, formA_at]
    have hs : zs.take (k + 1) = zs.take k ++ [(z : Int)] := by rw [List.take_add_one, hz]; rfl
    by_cases e : z = i
    · subst e
      rw [if_pos rfl, if_pos (by rw [formA_size]; omega), if_pos h, hs]
      simp
    · rw [if_neg (by omega)]
      by_cases q : i < 24
      · rw [if_pos q, if_pos q, hs]
        congr 2
        rw [Bool.eq_iff_iff]
        simp only [List.contains_iff_mem, List.mem_append, List.mem_singleton]
        constructor
        · exact fun h => .inl h
        · rintro (h | h)
          · exact h
          · omega
      · rw [if_neg q, if_neg q]

/-- Are two forms equal? -/
def eqF (s : Int) (xs : List Int) (t : Int) (ys : List Int) : Bool := (s == t) && (maskL xs == maskL ys)
theorem eqF_ok {s t : Int} {xs ys : List Int} (hx : Ok s xs) (hy : Ok t ys) : eqF s xs t ys = (decide (s = t) && eqB xs ys) := by
  unfold eqF
  by_cases hs : s = t
  · subst hs
    have : (maskL xs == maskL ys) = eqB xs ys := by
      unfold eqB
      rw [Bool.eq_iff_iff, beq_iff_eq, decide_eq_true_iff]
      constructor
      · intro h
        refine lt_uniq (ok_sorted hx) (ok_sorted hy) fun x => ?_
        have key : ∀ j : Nat, j < 24 → (xs.contains (j : Int) = ys.contains (j : Int)) := fun j hj => by
          have h1 := maskL_at xs j
          have h2 := maskL_at ys j
          rw [h, h2, if_pos hj, if_pos hj] at h1
          exact (Option.some.inj h1).symm
        constructor
        · intro q
          have hb := ok_range hx x q
          have := key x.toNat (by have := hx.1; omega)
          rw [Int.toNat_of_nonneg hb.1, List.contains_iff_mem.2 q] at this
          exact List.contains_iff_mem.1 this.symm
        · intro q
          have hb := ok_range hy x q
          have := key x.toNat (by have := hx.1; omega)
          rw [Int.toNat_of_nonneg hb.1, List.contains_iff_mem.2 q] at this
          exact List.contains_iff_mem.1 this
      · intro h; rw [h]
    simp [this]
  · have : (s == t) = false := by simpa using hs
    simp [this, hs]

theorem infoB : (Try.prog.info? 4).map (·.size) = some 1 := by kernel_rfl
theorem infoA24 : (Try.prog.info? 94).map (·.size) = some 24 := by kernel_rfl
theorem infoF : (Try.prog.info? 96).map (·.size) = some 25 := by kernel_rfl
theorem fieldsF : (Try.prog.fieldsOf 96).toList.map (fun f => (f.name != "_", f.type, f.offset)) = [(true, 3, 0), (true, 94, 1)] := by kernel_rfl
theorem underF : Try.prog.underlying 96 = some (.struct (Try.prog.fieldsOf 96)) := by kernel_rfl
theorem stoodF : Try.prog.stoodInHeld 96 = false := by kernel_rfl
theorem guardF : Try.prog.eqGuardType Try.prog.depth 96 = false := by kernel_rfl
theorem underA24 : Try.prog.underlying 94 = some (.array 24 4) := by kernel_rfl

theorem part_bool (l : List Bool) (i : Nat) (b : Bool) (h : l[i]? = some b) (w : World) : (part 4 (l.map Value.bool).toArray i).run Try.prog w = .ok (.bool b) w := by
  have ha : (isAgg 4).run Try.prog w = .ok false w := by simp [isAgg, run_underlying Try.underlying4]
  have hc : ((l.map Value.bool).toArray)[i]? = some (.bool b) := by simp [h]
  simp [part, ha, hc]
theorem items_bool (d : Nat) (l m : List Bool) : ∀ (f k : Nat), k + f ≤ l.length → k + f ≤ m.length → ∀ w : World,
    (Op.eqItems (d + 1) 4 1 (l.map Value.bool).toArray (m.map Value.bool).toArray (List.range' k f)).run Try.prog w = .ok ((List.range' k f).all fun i => l[i]? == m[i]?) w := by
  intro f
  induction f with
  | zero => intro k _ _ w; simp [Op.eqItems]
  | succ f ih =>
    intro k h1 h2 w
    have e1 := List.getElem?_eq_getElem (show k < l.length by omega)
    have e2 := List.getElem?_eq_getElem (show k < m.length by omega)
    rw [List.range'_succ]
    simp only [Op.eqItems, Sem.run_bind, Nat.mul_one, part_bool l k _ e1, part_bool m k _ e2, Result.andThen_ok, run_equalIn_bool w d 4 _ _ Try.underlying4, List.all_cons, e1, e2]
    by_cases q : l[k] = m[k]
    · have hq : (l[k] == m[k]) = true := by simpa using q
      have hq2 : (some l[k] == some m[k]) = true := by simpa using q
      simp only [hq, hq2, Bool.not_true, Bool.false_eq_true, if_false, Bool.true_and]
      exact ih (k + 1) (by omega) (by omega) w
    · have hq : (l[k] == m[k]) = false := by simpa using q
      have hq2 : (some l[k] == some m[k]) = false := by simpa using q
      simp only [hq, hq2, Bool.not_false, if_true, Sem.run_pure, Bool.false_and]
theorem part_form0 (s : Int) (xs : List Int) (w : World) : (part 3 (formA s xs) 0).run Try.prog w = .ok (.int .i64 s) w := by
  have ai : (isAgg 3).run Try.prog w = .ok false w := by simp [isAgg, run_underlying Try.underlying3]
  simp [part, ai, formA_zero]
theorem part_form1 (s : Int) (xs : List Int) (w : World) : (part 94 (formA s xs) 1).run Try.prog w = .ok (.agg ((maskL xs).map Value.bool).toArray) w := by
  have aa : (isAgg 94).run Try.prog w = .ok true w := by simp [isAgg, run_underlying underA24]
  obtain ⟨ia, hia, has⟩ := Option.map_eq_some_iff.1 infoA24
  have sa : (sizeOf 94).run Try.prog w = .ok 24 w := by simp [sizeOf, typeInfo, hia, has]
  have e : (formA s xs).extract 1 (1 + 24) = ((maskL xs).map Value.bool).toArray := by
    apply Array.ext'
    have h2 : ((maskL xs).map Value.bool).take 24 = (maskL xs).map Value.bool := List.take_of_length_le (by rw [List.length_map, maskL_len]; exact Nat.le_refl _)
    simp [formA, formC, List.extract, h2]
  unfold part
  simp only [Sem.run_bind, aa, sa, Result.andThen_ok, if_true, e, Sem.run_pure]
theorem equal_mask (d : Nat) (xs ys : List Int) (w : World) : (Op.equalIn (d + 1 + 1) 94 (.agg ((maskL xs).map Value.bool).toArray) (.agg ((maskL ys).map Value.bool).toArray)).run Try.prog w = .ok (maskL xs == maskL ys) w := by
  obtain ⟨ib, hib, hbs⟩ := Option.map_eq_some_iff.1 infoB
  have hcb : Try.prog.cellsOf 4 = 1 := by unfold Program.cellsOf; rw [infoB]; rfl
  rw [run_equalIn_array w (d + 1) _ _ underA24 hib, hcb, List.range_eq_range', items_bool d (maskL xs) (maskL ys) 24 0 (by rw [maskL_len]; omega) (by rw [maskL_len]; omega)]
  refine congrArg (fun b => Result.ok b w) ?_
  rw [Bool.eq_iff_iff, List.all_eq_true, beq_iff_eq]
  constructor
  · intro h
    apply List.ext_getElem?
    intro i
    by_cases q : i < 24
    · exact eq_of_beq (h i (by rw [List.mem_range'_1]; omega))
    · rw [List.getElem?_eq_none (by rw [maskL_len]; omega), List.getElem?_eq_none (by rw [maskL_len]; omega)]
  · intro h i _; rw [h]; exact beq_self_eq_true _
theorem eqFields_form (d : Nat) (f g : Field) (f1 : (f.name != "_") = true) (f2 : f.type = 3) (f3 : f.offset = 0) (g1 : (g.name != "_") = true) (g2 : g.type = 94) (g3 : g.offset = 1) (s t : Int) (xs ys : List Int) (w : World) :
    (Op.eqFields (d + 1 + 1) (formA s xs) (formA t ys) [f, g]).run Try.prog w = .ok (eqF s xs t ys) w := by
  have f1' : f.name ≠ "_" := by simpa using f1
  have g1' : g.name ≠ "_" := by simpa using g1
  simp only [Op.eqFields, f1', g1', f2, f3, g2, g3, ne_eq, not_false_eq_true, if_true, Sem.run_bind, part_form0, Result.andThen_ok, run_equalIn_int w (d + 1) _ _ _ _ _ Try.underlying3]
  cases hst : (s == t)
  · simp [eqF, hst]
  · simp only [Bool.not_true, Bool.false_eq_true, if_false, Sem.run_bind, part_form1, Result.andThen_ok, equal_mask d xs ys w]
    unfold eqF
    rw [hst, Bool.true_and]
    cases (maskL xs == maskL ys) <;> rfl
theorem run_equal_formD (d : Nat) (s t : Int) (xs ys : List Int) (w : World) :
    (Op.equalIn (d + 1 + 1 + 1) 96 (formV s xs) (formV t ys)).run Try.prog w = .ok (eqF s xs t ys) w := by
  unfold formV
  rw [run_equalIn_agg w (d + 1 + 1) _ _ _ underF stoodF]
  obtain ⟨L, hL⟩ : ∃ L, L = (Try.prog.fieldsOf 96).toList := ⟨_, rfl⟩
  have hf := fieldsF
  rw [← hL] at hf ⊢
  clear hL
  rcases L with _ | ⟨f, _ | ⟨g, _ | ⟨g', gs⟩⟩⟩
  · exact absurd (congrArg List.length hf) (by simp)
  · exact absurd (congrArg List.length hf) (by simp)
  · simp only [List.map_cons, List.map_nil, List.cons.injEq, Prod.mk.injEq, and_true] at hf
    obtain ⟨⟨f1, f2, f3⟩, g1, g2, g3⟩ := hf
    exact eqFields_form d f g f1 f2 f3 g1 g2 g3 s t xs ys w
  · exact absurd (congrArg List.length hf) (by simp)
theorem run_equal_form (s t : Int) (xs ys : List Int) (w : World) :
    (Op.equalIn 10000 96 (formV s xs) (formV t ys)).run Try.prog w = .ok (eqF s xs t ys) w := run_equal_formD 9997 s t xs ys w
/-- '==' and '!=' of two forms, as the operation runs. -/
theorem exec_eql {a : Act} {o : Oper} {x y : Operand} {r : TypeId} (ho : o.op = .binOp .eql 96 x y r) {s t : Int} {xs ys : List Int} (hx : a.eval x = formV s xs) (hy : a.eval y = formV t ys) (w : World) :
    (execOp a.eval o).run Try.prog w = .ok (.value (.bool (eqF s xs t ys))) w := by
  have hg : (eqGuard .eql 96 x y (formV s xs) (formV t ys)).run Try.prog w = .ok () w := run_eqGuard_agg w _ _ _ _ _ _ guardF
  have hb : (binOp .eql 96 (formV s xs) (formV t ys)).run Try.prog w = .ok (.bool (eqF s xs t ys)) w := by
    have := run_equal_form s t xs ys w
    unfold formV at this ⊢
    rw [run_eql_struct, this]; rfl
  unfold execOp
  simp only [ho, hx, hy, Sem.run_bind, hg, hb, Result.andThen_ok]
  rfl
theorem exec_neq {a : Act} {o : Oper} {x y : Operand} {r : TypeId} (ho : o.op = .binOp .neq 96 x y r) {s t : Int} {xs ys : List Int} (hx : a.eval x = formV s xs) (hy : a.eval y = formV t ys) (w : World) :
    (execOp a.eval o).run Try.prog w = .ok (.value (.bool (!eqF s xs t ys))) w := by
  have hg : (eqGuard .neq 96 x y (formV s xs) (formV t ys)).run Try.prog w = .ok () w := run_eqGuard_agg w _ _ _ _ _ _ guardF
  have hb : (binOp .neq 96 (formV s xs) (formV t ys)).run Try.prog w = .ok (.bool (!eqF s xs t ys)) w := by
    have := run_equal_form s t xs ys w
    unfold formV at this ⊢
    rw [run_neq_struct, this]; rfl
  unfold execOp
  simp only [ho, hx, hy, Sem.run_bind, hg, hb, Result.andThen_ok]
  rfl
/-- A form's variable, read. -/
theorem exec_form {a : Act} {o : Oper} {x : Operand} (ho : o.op = .load 96 x) {g : Nat} (hx : a.eval x = .pointer (some ⟨g, 0, none⟩)) {s : Int} {zs : List Int} {w : World} (hg : w.heap[g]? = some (.cells (formA s zs) 96 (0, 0))) :
    (execOp a.eval o).run Try.prog w = .ok (.value (formV s zs)) w := by
  unfold execOp
  simp only [ho, hx, Instr.loadAt, Instr.sureAddr, Sem.run_bind, Sem.run_pure, Result.andThen_ok, run_loadVar_row w g _ _ (formA s zs) (0, 0) _ hg underF rfl (by rw [infoF, formA_size])]
  rfl
end Go.Proofs.Ytpgolnkhbnancaa.Rhy

/-
  Helpers of the claims beside this text: the program's form of a rhythm, made.
-/
namespace Go.Proofs.Ytpgolnkhbnancaa.Rhy
open Go.RowKit
set_option linter.unusedVariables false

/-- Behind k beats: the argument's box, the result's, the form's own. -/
def FrmAt (s : Int) (a : Option Addr) (len cap : Nat) (zs : List Int) (k : Nat) (w wr : World) : Prop :=
  Two wr w.heap.size (.int .i64 s) (.slice a len cap) ∧ wr.heap[w.heap.size + 1]? = some (.cells (formA 0 []) 96 (0, 0)) ∧
    wr.heap[w.heap.size + 1 + 1]? = some (.cells (formA s (zs.take k)) 96 (0, 0)) ∧ Below w.heap.size w wr
theorem frm_lt {s : Int} {a : Option Addr} {len cap : Nat} {zs : List Int} {k : Nat} {w wr : World} (h : FrmAt s a len cap zs k w wr) : w.heap.size + 1 + 1 < wr.heap.size := by
  rcases Nat.lt_or_ge (w.heap.size + 1 + 1) wr.heap.size with q | q
  · exact q
  · have := h.2.2.1
    rw [Array.getElem?_eq_none q] at this; cases this
theorem below_setRow {B : Nat} {a w : World} (h : Below B a w) {g : Nat} (hg : B ≤ g) (cs : Array Value) : Below B a (w.setRow g cs) :=
  h.trans ⟨rfl, rfl, rfl, by simp, fun k hk => setRow_other w g k cs (by omega)⟩
theorem two_setRow {w : World} {b : Nat} {v0 v1 : Value} (h : Two w b v0 v1) {g : Nat} (hg : b ≠ g) (cs : Array Value) : Two (w.setRow g cs) b v0 v1 :=
  ⟨by simpa using h.1, by rw [cell_setRow_other w g cs _ hg]; exact h.2.1, by rw [cell_setRow_other w g cs _ hg]; exact h.2.2⟩
theorem frm_world (s : Int) (a : Option Addr) (len cap : Nat) (w : World) :
    (((w.alloc (.cells #[.int .i64 s, .slice a len cap] 26)).alloc (.cells (formA 0 []) 96)).alloc (.cells (formA 0 []) 96)).heap[w.heap.size + 1 + 1]? = some (.cells (formA 0 []) 96 (0, 0)) := by
  have := heap_alloc_new ((w.alloc (.cells #[.int .i64 s, .slice a len cap] 26)).alloc (.cells (formA 0 []) 96)) (.cells (formA 0 []) 96)
  simpa using this
theorem frm_start (s : Int) (a : Option Addr) (len cap : Nat) (zs : List Int) (w W : World) (hW : (((w.alloc (.cells #[.int .i64 s, .slice a len cap] 26)).alloc (.cells (formA 0 []) 96)).alloc (.cells (formA 0 []) 96)).setRow (w.heap.size + 1 + 1) (formA s []) = W) :
    FrmAt s a len cap zs 0 w W := by
  subst hW
  refine ⟨?_, ?_, ?_, ?_⟩
  · exact two_setRow (((two_new w _ _ _).keep (bel1 _ _)).keep (bel1 _ _)) (by omega) _
  · rw [setRow_other _ _ _ _ (by omega), heap_alloc_old _ _ (by simp)]
    have := heap_alloc_new (w.alloc (.cells #[.int .i64 s, .slice a len cap] 26)) (.cells (formA 0 []) 96)
    simpa using this
  · exact setRow_heap _ _ _ _ _ _ (frm_world s a len cap w)
  · exact below_setRow (bel3 w _ _ _) (by omega) _

theorem frm_step {s : Int} {a : Option Addr} {len cap : Nat} {zs : List Int} {k z : Nat} {w wr : World} (h : FrmAt s a len cap zs k w wr) (hz : zs[k]? = some (z : Int)) (hlt : z < 24) :
    FrmAt s a len cap zs (k + 1) w (wr.setCell ⟨w.heap.size + 1 + 1, 1 + z, none⟩ (.bool true)) := by
  have hl := frm_lt h
  refine ⟨?_, ?_, ?_, ?_⟩
  · have := two_setRow h.1 (show w.heap.size ≠ w.heap.size + 1 + 1 by omega) ((formA s (zs.take k)).setIfInBounds (1 + z) (.bool true))
    rwa [← setCell_eq_setRow wr _ _ _ _ _ _ h.2.2.1] at this
  · rw [heap_setCell_other _ _ _ _ (by show w.heap.size + 1 ≠ w.heap.size + 1 + 1; omega)]; exact h.2.1
  · rw [heap_setCell_same _ _ _ _ _ _ h.2.2.1, formA_set hz hlt]
  · exact h.2.2.2.setCell (by show w.heap.size ≤ w.heap.size + 1 + 1; omega) _

set_option maxHeartbeats 400000 in
set_option maxRecDepth 100000 in
theorem form_any (s : Int) (a : Option Addr) (len cap : Nat) (zs : List Int) (w : World) (h : IntsAt w a len zs) (hm : len ≤ 1048576) (ho : Ok s zs) :
    Calls Try.prog 100 #[rhy s a len cap] w fun e w' => e = .returned (formV s zs) ∧ Below w.heap.size w w' := by
  have HS := Lib.hid h
  have HOK := Lib.hid ho
  clear h ho
  go_enter Try.func100, Try.ntmps100
  go_wp2_with (refine wpList_store_row rfl 96 (.tmp 3) (.tmp 8) rfl (w.heap.size + 1 + 1) (formA s []) rfl rfl 96 (formA 0 []) (frm_world s a len cap w) (by rw [infoF, formA_size]) (by rw [formA_size, formA_size]) (formA_one s []) ?_; generalize hW : World.setRow _ _ _ = W; have HF := Lib.hid (frm_start s a len cap zs w W hW); clear hW; obtain ⟨x0, x1, x2⟩ := HF.out.1)
  go_loopw [12] (fun i wr => ∃ k : Nat, k ≤ len ∧ i = .int .i64 k ∧ FrmAt s a len cap zs k w wr) (fun i _ => len - (intOf i).toNat)
  case atStart => exact ⟨0, by omega, rfl, HF.out⟩
  case round =>
    clear x0 x1 x2
    obtain ⟨k, hk, rfl, hr⟩ := hrel
    have HR := Lib.hid hr
    clear hr
    by_cases hlt : k < len
    · obtain ⟨b, off, z, rfl, hb, hs, hc, hz1, hz2⟩ := (HS.out.below HR.out.2.2.2).at hlt
      have hz := ok_at HOK.out hs
      have hs24 := HOK.out.1.2
      obtain ⟨zn, rfl⟩ : ∃ zn : Nat, z = zn := ⟨z.toNat, by omega⟩
      have hzn : zn < 24 := by omega
      have hcell : wr.cell? ⟨w.heap.size + 1 + 1, 1 + zn, none⟩ = some (.bool ((zs.take k).contains (zn : Int))) := by rw [cell_of_row _ _ _ _ _ _ HR.out.2.2.1, formA_at, if_pos hzn]
      have hfz := frozen_of_row wr (w.heap.size + 1 + 1) (1 + zn) _ _ HR.out.2.2.1
      have HST := Lib.hid (frm_step HR.out hs hzn)
      clear hs hz
      go_wp2
      go_roundw
      case rel => exact ⟨k + 1, by omega, by go_num, HST.out⟩
      case measure => simp [intOf]; omega
    · have e : k = len := by omega
      have HT : Hid (zs.take k = zs) := Lib.hid (List.take_of_length_le (by have := HS.out.len; omega))
      clear e
      have HB2 : Hid (wr.heap[w.heap.size + 1 + 1]? = some (.cells (formA s zs) 96 (0, 0))) := Lib.hid (by have := HR.out.2.2.1; rwa [HT.out] at this)
      go_wp2_with (first
        | (refine wpList_load_row rfl 96 (.tmp 3) rfl (w.heap.size + 1 + 1) rfl 96 (formA s zs) (0, 0) _ HB2.out underF rfl (by rw [infoF, formA_size]) ?_)
        | (refine wpList_store_row rfl 96 (.tmp 2) (.tmp 20) rfl (w.heap.size + 1) (formA s zs) rfl rfl 96 (formA 0 []) HR.out.2.1 (by rw [infoF, formA_size]) (by rw [formA_size, formA_size]) (formA_one s zs) ?_))
      refine bodyPost_ret (v := formV s zs) (results_cell_row Try.results100 _ _ (w.heap.size + 1) 96 (formA s zs) (0, 0) _ rfl (setRow_heap _ _ _ _ _ _ HR.out.2.1) underF rfl (by rw [infoF, formA_size])) rfl ⟨rfl, ?_⟩
      exact below_setRow HR.out.2.2.2 (by omega) _
end Go.Proofs.Ytpgolnkhbnancaa.Rhy

/-
  Helpers of the claims beside this text: the program's period, rotationTo, axes.
-/
namespace Go.Proofs.Ytpgolnkhbnancaa.Rhy
open Go.RowKit
set_option linter.unusedVariables false

/-- The argument's box, and a box that holds another form. -/
theorem own_start {B : Nat} {w w1 : World} (hB : Below B w w1) (hs : B ≤ w1.heap.size) (s : Int) (zs : List Int) {gr : Nat} {v0 v1 : Value} (ht : Two w1 gr v0 v1) (W : World)
    (hW : (w1.alloc (.cells (formA 0 []) 96)).setRow w1.heap.size (formA s zs) = W) :
    Two W gr v0 v1 ∧ W.heap[w1.heap.size]? = some (.cells (formA s zs) 96 (0, 0)) ∧ Below B w W ∧ w1.heap.size < W.heap.size := by
  subst hW
  exact ⟨two_setRow (ht.keep (bel1 _ _)) (Nat.ne_of_lt ht.1) _, setRow_heap _ _ _ _ _ _ (heap_alloc_new _ _), below_setRow (hB.alloc hs _) hs _, by simp⟩
theorem row_keep {w w' : World} {g : Nat} {o : Obj} (h : w.heap[g]? = some o) (hb : Below w.heap.size w w') : w'.heap[g]? = some o := by
  rw [hb.block g (Array.getElem?_eq_some_iff.1 h).1]; exact h
theorem eqF_rot {n : Int} {zs ys : List Int} (ho : Ok n zs) (hy : Ok n ys) (u k : Int) : eqF n (rotZ n zs u k) n ys = eqB (rotZ n zs u k) ys := by
  rw [eqF_ok (rot_ok ho.1 _ _) hy]; simp
theorem per_no {n : Nat} {zs : List Int} {k : Nat} (h1 : 1 ≤ k) (h : k < perZ n zs) : isRot n zs zs 1 k = false :=
  (first_spec (isRot n zs zs 1) ((n : Int).toNat - 1) 1).2 k h1 h

set_option maxHeartbeats 1000000 in
set_option maxRecDepth 100000 in
theorem period_any (n : Nat) (a : Option Addr) (len cap : Nat) (zs : List Int) (w : World) (h : IntsAt w a len zs) (hm : len ≤ 1048576) (ho : Ok n zs) :
    Calls Try.prog 90 #[rhy n a len cap] w fun e w' => e = .returned (.int .i64 (perZ n zs)) ∧ Below w.heap.size w w' := by
  have HS := Lib.hid h
  have HOK := Lib.hid ho
  have hp := per_bd n zs ho.1.1
  obtain ⟨hp1, hp2⟩ := hp
  have hn24 : n ≤ 24 := by have := ho.1.2; omega
  have HPF := Lib.hid (per_fix ho)
  clear h ho
  obtain ⟨gr, hgr⟩ : ∃ gr, gr = w.heap.size := ⟨_, rfl⟩
  have HGR := Lib.hid hgr
  clear hgr
  go_enter Try.func90, Try.ntmps90
  go_wp2_with fail
  refine (form_any n a len cap zs _ (HS.out.below (bel1 w _)) hm HOK.out).mono ?_
  rintro e w1 ⟨rfl, hb1⟩
  have HB1 := Lib.hid ((bel1 w (.cells #[.int .i64 n, .slice a len cap] 26)).trans (hb1.mono (by simp)))
  have HT1 := Lib.hid ((two_new w (.int .i64 n) (.slice a len cap) 26).keep hb1)
  clear hb1
  go_wp2_with (refine wpList_store_row rfl 96 (.tmp 3) (.tmp 6) rfl w1.heap.size (formA n zs) rfl rfl 96 (formA 0 []) (heap_alloc_new _ _) (by rw [infoF, formA_size]) (by rw [formA_size, formA_size]) (formA_one n zs) ?_; generalize hW : World.setRow _ _ _ = W; have HF := Lib.hid (own_start HB1.out HB1.out.size n zs HT1.out W hW); clear hW)
  obtain ⟨gf, hgf⟩ : ∃ gf, gf = w1.heap.size := ⟨_, rfl⟩
  rw [← HGR.out, ← hgf] at HF
  rw [← HGR.out, ← hgf]
  have HGF := Lib.hid hgf
  clear hgf
  go_loopw [4] (fun i wr => ∃ k : Nat, 1 ≤ k ∧ k ≤ perZ n zs ∧ i = .int .i64 k ∧ Below W.heap.size W wr) (fun i _ => perZ n zs - (intOf i).toNat)
  case atStart => exact ⟨1, by omega, hp1, rfl, Below.refl _ _⟩
  case round =>
    obtain ⟨k, hk1, hk2, rfl, hnx⟩ := hrel
    have HX := Lib.hid hnx
    clear hnx
    have HBW : Hid (Below w.heap.size w wr) := Lib.hid (by have h2 := HF.out.2.2.1; rw [HGR.out] at h2; exact h2.trans (HX.out.mono h2.size))
    have HI := Lib.hid (HS.out.below HBW.out)
    have HT := Lib.hid (HF.out.1.keep HX.out)
    have HR2 := Lib.hid (row_keep HF.out.2.1 HX.out)
    have HK : Hid (∀ W', Below wr.heap.size wr W' → W'.cell? ⟨gr, 0, none⟩ = some (.int .i64 n) ∧ W'.cell? ⟨gr, 1, none⟩ = some (.slice a len cap) ∧ W'.heap[gf]? = some (.cells (formA n zs) 96 (0, 0)) ∧ Below wr.heap.size wr W') :=
      Lib.hid (fun W' hW => ⟨(HT.out.keep hW).2.1, (HT.out.keep hW).2.2, row_keep HR2.out hW, hW⟩)
    by_cases hlt : k < perZ n zs
    · have HQ : Hid (eqF n (rotZ n zs 1 k) n zs = false) := Lib.hid (by rw [eqF_rot HOK.out HOK.out]; exact per_no hk1 hlt)
      go_wp2
      refine wp_region_held_drew (S := fun W' => W'.cell? ⟨gr, 0, none⟩ = some (.int .i64 n) ∧ W'.cell? ⟨gr, 1, none⟩ = some (.slice a len cap) ∧ W'.heap[gf]? = some (.cells (formA n zs) 96 (0, 0)) ∧ Below wr.heap.size wr W') (by kernel_rfl) (HK.out _ (Below.refl _ _).drew) (fun hS0 => ?_)
      refine wpAnyH_take (i := 0) (oi := ⟨some 7, _, _, _, _, _⟩) (v := rhy n a len cap) rfl (by kernel_rfl) (by kernel_rfl) (by kernel_rfl) (fun _ _ _ h => h) (Or.inl ⟨by rfl, fun w' hSw => by obtain ⟨q1, q2, _⟩ := hSw; go_simp⟩) (by assumption) ?_
      try simp only [Act.put, List.setIfInBounds_toArray, List.set_cons_zero, List.set_cons_succ]
      refine wpAnyH_take (i := 1) (oi := ⟨some 8, _, _, _, _, _⟩) (v := .int .i64 k) rfl (by kernel_rfl) (by kernel_rfl) (by kernel_rfl) (fun _ _ _ h => h) (Or.inl ⟨by rfl, fun w' hSw => by go_simp⟩) (by assumption) ?_
      try simp only [Act.put, List.setIfInBounds_toArray, List.set_cons_zero, List.set_cons_succ]
      refine wpAnyH_take (i := 4) (oi := ⟨some 11, _, _, _, _, _⟩) (v := formV n zs) rfl (by kernel_rfl) (by kernel_rfl) (by kernel_rfl) (fun _ _ _ h => h) (Or.inl ⟨by rfl, fun w' hSw => exec_form rfl rfl hSw.2.2.1⟩) (by assumption) ?_
      try simp only [Act.put, List.setIfInBounds_toArray, List.set_cons_zero, List.set_cons_succ]
      refine wpAnyH_ready (rs := [2]) (by kernel_rfl) (by simp) ?_
      refine AllReadyH.cons rfl (fun K hKK => ?_) AllReadyH.nil
      go_simp
      go_at_call 63
      refine (moved_of n a len cap zs 1 k _ (HI.out.below (Below.refl _ _).drew) hm HOK.out (by omega) (by omega) (by omega) (by omega) (gcd_one n)).mono ?_
      rintro e w2 ⟨b1, c1, rfl, hown, hc1⟩
      have hb1 := (Below.refl wr.heap.size wr).drew.trans hc1
      have hi1 : IntsAt w2 b1 (rotZ n zs (1) k).length (rotZ n zs (1) k) := intsAt_own hown (rotZ_int HOK.out.1.2)
      clear hown hc1
      refine hKK.out _ _ (HK.out _ hb1) (fun hS1 => ?_)
      clear hKK K
      try simp only [Act.put, List.setIfInBounds_toArray, List.set_cons_zero, List.set_cons_succ]
      refine wpAnyH_ready (rs := [3]) (by kernel_rfl) (by simp) ?_
      refine AllReadyH.cons rfl (fun K hKK => ?_) AllReadyH.nil
      go_simp
      go_at_call 100
      refine (form_any n b1 (rotZ n zs (1) k).length c1 (rotZ n zs (1) k) w2 hi1 (by have := rotZ_len (s := n) (zs := zs) (u := 1) (k := k) HOK.out.1.2; omega) (rot_ok HOK.out.1 _ _)).mono ?_
      rintro e w3 ⟨rfl, hc2⟩
      have hb2 := hb1.trans (hc2.mono hb1.size)
      clear hc2
      refine hKK.out _ _ (HK.out _ hb2) (fun hS2 => ?_)
      clear hKK K
      try simp only [Act.put, List.setIfInBounds_toArray, List.set_cons_zero, List.set_cons_succ]
      refine wpAnyH_take (i := 5) (oi := ⟨some 12, _, _, _, _, _⟩) (v := .bool true) rfl (by kernel_rfl) (by kernel_rfl) (by kernel_rfl) (fun _ _ _ h => h) (Or.inl ⟨by rfl, fun w' hSw => (exec_neq rfl (s := n) (xs := rotZ n zs (1) k) rfl rfl w').trans (by rw [HQ.out]; rfl)⟩) (by assumption) ?_
      try simp only [Act.put, List.setIfInBounds_toArray, List.set_cons_zero, List.set_cons_succ]
      refine wpAnyH_done (by kernel_rfl) ?_ _
      have HX2 := Lib.hid hb2
      obtain ⟨y0, y1, y2, y3⟩ := hS2
      clear hb1 hi1 hS0 hS1 y2 y3 hb2 HK
      go_wp2
      go_roundw
      case rel => exact ⟨k + 1, by omega, by omega, by go_num, HX.out.trans (HX2.out.mono HX.out.size)⟩
      case measure => simp [intOf]; omega
    · have e : k = perZ n zs := by omega
      have HQ : Hid (eqF n (rotZ n zs 1 k) n zs = true) := Lib.hid (by rw [eqF_rot HOK.out HOK.out, e]; have := HPF.out; unfold Fix at this; rw [this]; unfold eqB; simp)
      have HE := Lib.hid e
      clear e
      go_wp2
      refine wp_region_held_drew (S := fun W' => W'.cell? ⟨gr, 0, none⟩ = some (.int .i64 n) ∧ W'.cell? ⟨gr, 1, none⟩ = some (.slice a len cap) ∧ W'.heap[gf]? = some (.cells (formA n zs) 96 (0, 0)) ∧ Below wr.heap.size wr W') (by kernel_rfl) (HK.out _ (Below.refl _ _).drew) (fun hS0 => ?_)
      refine wpAnyH_take (i := 0) (oi := ⟨some 7, _, _, _, _, _⟩) (v := rhy n a len cap) rfl (by kernel_rfl) (by kernel_rfl) (by kernel_rfl) (fun _ _ _ h => h) (Or.inl ⟨by rfl, fun w' hSw => by obtain ⟨q1, q2, _⟩ := hSw; go_simp⟩) (by assumption) ?_
      try simp only [Act.put, List.setIfInBounds_toArray, List.set_cons_zero, List.set_cons_succ]
      refine wpAnyH_take (i := 1) (oi := ⟨some 8, _, _, _, _, _⟩) (v := .int .i64 k) rfl (by kernel_rfl) (by kernel_rfl) (by kernel_rfl) (fun _ _ _ h => h) (Or.inl ⟨by rfl, fun w' hSw => by go_simp⟩) (by assumption) ?_
      try simp only [Act.put, List.setIfInBounds_toArray, List.set_cons_zero, List.set_cons_succ]
      refine wpAnyH_take (i := 4) (oi := ⟨some 11, _, _, _, _, _⟩) (v := formV n zs) rfl (by kernel_rfl) (by kernel_rfl) (by kernel_rfl) (fun _ _ _ h => h) (Or.inl ⟨by rfl, fun w' hSw => exec_form rfl rfl hSw.2.2.1⟩) (by assumption) ?_
      try simp only [Act.put, List.setIfInBounds_toArray, List.set_cons_zero, List.set_cons_succ]
      refine wpAnyH_ready (rs := [2]) (by kernel_rfl) (by simp) ?_
      refine AllReadyH.cons rfl (fun K hKK => ?_) AllReadyH.nil
      go_simp
      go_at_call 63
      refine (moved_of n a len cap zs 1 k _ (HI.out.below (Below.refl _ _).drew) hm HOK.out (by omega) (by omega) (by omega) (by omega) (gcd_one n)).mono ?_
      rintro e w2 ⟨b1, c1, rfl, hown, hc1⟩
      have hb1 := (Below.refl wr.heap.size wr).drew.trans hc1
      have hi1 : IntsAt w2 b1 (rotZ n zs (1) k).length (rotZ n zs (1) k) := intsAt_own hown (rotZ_int HOK.out.1.2)
      clear hown hc1
      refine hKK.out _ _ (HK.out _ hb1) (fun hS1 => ?_)
      clear hKK K
      try simp only [Act.put, List.setIfInBounds_toArray, List.set_cons_zero, List.set_cons_succ]
      refine wpAnyH_ready (rs := [3]) (by kernel_rfl) (by simp) ?_
      refine AllReadyH.cons rfl (fun K hKK => ?_) AllReadyH.nil
      go_simp
      go_at_call 100
      refine (form_any n b1 (rotZ n zs (1) k).length c1 (rotZ n zs (1) k) w2 hi1 (by have := rotZ_len (s := n) (zs := zs) (u := 1) (k := k) HOK.out.1.2; omega) (rot_ok HOK.out.1 _ _)).mono ?_
      rintro e w3 ⟨rfl, hc2⟩
      have hb2 := hb1.trans (hc2.mono hb1.size)
      clear hc2
      refine hKK.out _ _ (HK.out _ hb2) (fun hS2 => ?_)
      clear hKK K
      try simp only [Act.put, List.setIfInBounds_toArray, List.set_cons_zero, List.set_cons_succ]
      refine wpAnyH_take (i := 5) (oi := ⟨some 12, _, _, _, _, _⟩) (v := .bool false) rfl (by kernel_rfl) (by kernel_rfl) (by kernel_rfl) (fun _ _ _ h => h) (Or.inl ⟨by rfl, fun w' hSw => (exec_neq rfl (s := n) (xs := rotZ n zs (1) k) rfl rfl w').trans (by rw [HQ.out]; rfl)⟩) (by assumption) ?_
      try simp only [Act.put, List.setIfInBounds_toArray, List.set_cons_zero, List.set_cons_succ]
      refine wpAnyH_done (by kernel_rfl) ?_ _
      have HX2 := Lib.hid hb2
      obtain ⟨y0, y1, y2, y3⟩ := hS2
      clear hb1 hi1 hS0 hS1 y2 y3 hb2 HK
      go_wp2
      go_ret
      exact ⟨ret_int (by rw [HE.out]), HBW.out.trans (HX2.out.mono HBW.out.size)⟩

/-- The least turn that leads to another rhythm, of whatever size. -/
def rotToW (n : Nat) (zs : List Int) (t : Int) (ys : List Int) : Int := if (n : Int) = t then rotToZ n zs ys else -1
theorem rotTo_at {n : Nat} {zs ys : List Int} {k : Nat} (hk : k < n) (h0 : ∀ j, j < k → isRot n zs ys 1 j = false) (h1 : isRot n zs ys 1 k = true) : rotToZ n zs ys = k := by
  have key : ∀ f m, m + f = k → (∀ j, m ≤ j → j < k → isRot n zs ys 1 j = false) → firstFrom (isRot n zs ys 1) m (n - m) = k := by
    intro f
    induction f with
    | zero => intro m hm _; rw [Nat.add_zero] at hm; subst hm; exact first_yes hk h1
    | succ f ih => intro m hm hj; rw [first_no (by omega) (hj m (Nat.le_refl _) (by omega))]; exact ih (m + 1) (by omega) (fun j a b => hj j (by omega) b)
  have := key k 0 (by omega) (fun j _ b => h0 j b)
  unfold rotToZ
  rw [Int.toNat_natCast]
  rw [Nat.sub_zero] at this
  rw [this, if_pos hk]
theorem rotTo_none {n : Nat} {zs ys : List Int} (h0 : ∀ j, j < n → isRot n zs ys 1 j = false) : rotToZ n zs ys = -1 := by
  obtain ⟨h1, h2⟩ := first_spec (isRot n zs ys 1) n 0
  unfold rotToZ
  rw [Int.toNat_natCast]
  rcases h1 with h1 | h1
  · have := h0 (firstFrom (isRot n zs ys 1) 0 n) (by omega)
    rw [h1.2] at this; cases this
  · rw [h1, Nat.zero_add, if_neg (Nat.lt_irrefl _)]
theorem rotToW_at {n : Nat} {zs : List Int} {t : Int} {ys : List Int} {k : Nat} (hx : Ok n zs) (hy : Ok t ys) (hk : k < n) (h0 : ∀ j : Nat, j < k → eqF n (rotZ n zs 1 j) t ys = false) (h1 : eqF n (rotZ n zs 1 k) t ys = true) : rotToW n zs t ys = k := by
  rw [eqF_ok (rot_ok hx.1 _ _) hy] at h1
  have hst : (n : Int) = t := by cases hd : decide ((n : Int) = t) with
    | true => exact of_decide_eq_true hd
    | false => rw [hd] at h1; cases h1
  subst hst
  unfold rotToW
  rw [if_pos rfl]
  refine rotTo_at hk (fun j hj => ?_) (by simpa [isRot] using h1)
  have := h0 j hj
  rw [eqF_ok (rot_ok hx.1 _ _) hy] at this
  simpa [isRot] using this
theorem rotToW_none {n : Nat} {zs : List Int} {t : Int} {ys : List Int} (hx : Ok n zs) (hy : Ok t ys) (h0 : ∀ j : Nat, j < n → eqF n (rotZ n zs 1 j) t ys = false) : rotToW n zs t ys = -1 := by
  unfold rotToW
  by_cases hst : (n : Int) = t
  · subst hst
    rw [if_pos rfl]
    refine rotTo_none fun j hj => ?_
    have := h0 j hj
    rw [eqF_ok (rot_ok hx.1 _ _) hy] at this
    simpa [isRot] using this
  · rw [if_neg hst]


theorem axesP_yes {n : Nat} {zs : List Int} {k : Nat} (h : eqB (rotZ n zs (-1) k) zs = true) : axesP n zs (k + 1) = axesP n zs k ++ [(k : Int)] := by
  unfold axesP
  rw [List.range_succ, List.map_append, List.filter_append]
  simp only [List.map_cons, List.map_nil, List.filter_cons, List.filter_nil]
  rw [show Int.ofNat k = (k : Int) from rfl, if_pos h]
theorem axesP_no {n : Nat} {zs : List Int} {k : Nat} (h : eqB (rotZ n zs (-1) k) zs = false) : axesP n zs (k + 1) = axesP n zs k := by
  unfold axesP
  rw [List.range_succ, List.map_append, List.filter_append]
  simp only [List.map_cons, List.map_nil, List.filter_cons, List.filter_nil]
  rw [show Int.ofNat k = (k : Int) from rfl, h]
  simp
theorem axesP_len (n : Int) (zs : List Int) (k : Nat) : (axesP n zs k).length ≤ k := by
  unfold axesP
  refine Nat.le_trans (List.length_filter_le _ _) ?_
  simp
theorem axesP_int (n : Int) (zs : List Int) (k : Nat) (hk : k ≤ 1000) : AllInt (axesP n zs k) := by
  intro z hz
  unfold axesP at hz
  rw [List.mem_filter, List.mem_map] at hz
  obtain ⟨⟨i, hi, rfl⟩, _⟩ := hz
  rw [List.mem_range] at hi
  show -9223372036854775808 ≤ (i : Int) ∧ (i : Int) ≤ 9223372036854775807
  omega


end Go.Proofs.Ytpgolnkhbnancaa.Rhy

/-
  Helpers of the claims beside this text: PeriodOf, IsPeriodic, RotationTo, AreRotations, AreForms, AxesOf, IsMirrored of both sides.
-/
namespace Go.Proofs.Ytpgolnkhbnancaa.Rhy
open Go.RowKit
set_option linter.unusedVariables false

/-! What both sides answer. -/
noncomputable def ispB (s : Int) (zs : List Int) : Bool := okB s zs && decide ((perZ s zs : Int) < s)
noncomputable def rotToB (s : Int) (xs : List Int) (t : Int) (ys : List Int) : Int := @ite _ (Ok s xs ∧ Ok t ys) (Classical.propDecidable _) (rotToW s.toNat xs t ys) (-1)
theorem rotToB_yes {n : Nat} {xs : List Int} {t : Int} {ys : List Int} (hx : Ok n xs) (hy : Ok t ys) : rotToB n xs t ys = rotToW n xs t ys := by simp [rotToB, hx, hy]
theorem rotToB_no {s : Int} {xs : List Int} {t : Int} {ys : List Int} (h : ¬ (Ok s xs ∧ Ok t ys)) : rotToB s xs t ys = -1 := by unfold rotToB; rw [if_neg h]
noncomputable def arotB (s : Int) (xs : List Int) (t : Int) (ys : List Int) : Bool := decide (0 ≤ rotToB s xs t ys)
noncomputable def aforB (s : Int) (xs : List Int) (t : Int) (ys : List Int) : Bool := okB s xs && (arotB s xs t ys || arotB s (rotZ s xs (-1) 0) t ys)
noncomputable def axB (s : Int) (zs : List Int) : List Int := cZ (Ok s zs) (axesZ s zs)
theorem axB_yes {s : Int} {zs : List Int} (h : Ok s zs) : axB s zs = axesZ s zs := cZ_yes h
theorem axB_no {s : Int} {zs : List Int} (h : ¬ Ok s zs) : axB s zs = [] := cZ_no h
theorem axB_int (s : Int) (zs : List Int) : AllInt (axB s zs) := by
  by_cases h : Ok s zs
  · rw [axB_yes h]; exact axesP_int _ _ _ (by have := h.1; omega)
  · rw [axB_no h]; intro z hz; cases hz
theorem axB_len (s : Int) (zs : List Int) : (axB s zs).length ≤ 24 := by
  by_cases h : Ok s zs
  · rw [axB_yes h]; exact Nat.le_trans (axesP_len _ _ _) (by have := h.1; omega)
  · rw [axB_no h]; simp
noncomputable def ismB (s : Int) (zs : List Int) : Bool := decide (0 < (axB s zs).length)
theorem rotToB_bd (s : Int) (xs : List Int) (t : Int) (ys : List Int) : -1 ≤ rotToB s xs t ys ∧ rotToB s xs t ys ≤ 24 := by
  by_cases h : Ok s xs ∧ Ok t ys
  · obtain ⟨n, rfl⟩ : ∃ n : Nat, s = n := ⟨s.toNat, by have := h.1.1; omega⟩
    rw [rotToB_yes h.1 h.2]
    have := h.1.1.2
    unfold rotToW rotToZ
    split
    · split <;> omega
    · omega
  · rw [rotToB_no h]; omega
theorem start2 (w W0 : World) (s : Int) (a : Option Addr) (n ca : Nat) (t : Int) (b : Option Addr) (m cb : Nat) (hW : W0 = (w.alloc (.cells #[.int .i64 s, .slice a n ca] 26)).alloc (.cells #[.int .i64 t, .slice b m cb] 26)) :
    Below w.heap.size w W0 ∧ Two W0 w.heap.size (.int .i64 s) (.slice a n ca) ∧ Two W0 (w.heap.size + 1) (.int .i64 t) (.slice b m cb) := by
  subst hW
  refine ⟨bel2 w _ _, (two_new w _ _ _).keep (bel1 _ _), ?_⟩
  have := two_new (w.alloc (.cells #[.int .i64 s, .slice a n ca] 26)) (.int .i64 t) (.slice b m cb) 26
  simpa using this


set_option maxHeartbeats 400000 in
theorem isper_spec (s : Int) (a : Option Addr) (len cap : Nat) (zs : List Int) (w : World) (h : IntsAt w a len zs) (hm : zs.length ≤ 1048576) :
    Calls Try.prog 76 #[rhy s a len cap] w fun e w' => e = .returned (.bool (ispB s zs)) ∧ Below w.heap.size w w' := by
  have HS := Lib.hid h
  have hl' : len ≤ 1048576 := by have := h.1; omega
  clear h
  by_cases ho : Ok s zs
  · obtain ⟨n, rfl⟩ : ∃ n : Nat, s = n := ⟨s.toNat, by have := ho.1.1; omega⟩
    have HE : Hid (ispB n zs = decide ((perZ n zs : Int) < (n : Int))) := Lib.hid (by unfold ispB; rw [okB_yes ho, Bool.true_and])
    have HOK := Lib.hid ho
    clear ho
    obtain ⟨W0, hW⟩ : ∃ W0, W0 = w.alloc (.cells #[.int .i64 n, .slice a len cap] 26) := ⟨_, rfl⟩
    have HW := Lib.hid hW
    have B0 := Lib.hid (show Below w.heap.size w W0 by rw [hW]; exact bel1 w _)
    have HT := Lib.hid (show Two W0 w.heap.size (.int .i64 n) (.slice a len cap) by rw [hW]; exact two_new w _ _ _)
    clear hW
    have HI := Lib.hid (HS.out.below B0.out)
    have HK : Hid (∀ W, Below W0.heap.size W0 W → W.cell? ⟨w.heap.size, 0, none⟩ = some (.int .i64 n) ∧ W.cell? ⟨w.heap.size, 1, none⟩ = some (.slice a len cap) ∧ Below W0.heap.size W0 W) :=
      Lib.hid (fun W hW => ⟨(HT.out.keep hW).2.1, (HT.out.keep hW).2.2, hW⟩)
    go_enter Try.func76, Try.ntmps76
    go_wp2
    rw [← HW.out]
    refine wp_region_held_drew (S := fun W => W.cell? ⟨w.heap.size, 0, none⟩ = some (.int .i64 n) ∧ W.cell? ⟨w.heap.size, 1, none⟩ = some (.slice a len cap) ∧ Below W0.heap.size W0 W) (by kernel_rfl) (HK.out _ (Below.refl _ _).drew) (fun hS0 => ?_)
    refine wpAnyH_take (i := 0) (oi := ⟨some 3, _, _, _, _, _⟩) (v := rhy n a len cap) rfl (by kernel_rfl) (by kernel_rfl) (by kernel_rfl) (fun _ _ _ h => h) (Or.inl ⟨by rfl, fun w hSw => by obtain ⟨q1, q2, _⟩ := hSw; go_simp⟩) (by assumption) ?_
    try simp only [Act.put, List.setIfInBounds_toArray, List.set_cons_zero, List.set_cons_succ]
    refine wpAnyH_ready (rs := [1]) (by kernel_rfl) (by simp) ?_
    refine AllReadyH.cons rfl (fun K hKK => ?_) AllReadyH.nil
    go_simp
    go_at_call 72
    refine (ok_yes n a len cap zs _ (HI.out.below (Below.refl _ _).drew) hl' HOK.out).mono ?_
    rintro e w1 ⟨rfl, hc1⟩
    have hb1 := (Below.refl W0.heap.size W0).drew.trans hc1
    clear hc1
    refine hKK.out _ _ (HK.out _ hb1) (fun hS1 => ?_)
    clear hKK K
    try simp only [Act.put, List.setIfInBounds_toArray, List.set_cons_zero, List.set_cons_succ]
    refine wpAnyH_take (i := 2) (oi := ⟨some 5, _, _, _, _, _⟩) (v := .bool true) rfl (by kernel_rfl) (by kernel_rfl) (by kernel_rfl) (fun _ _ _ h => h) (Or.inl ⟨by rfl, fun w hSw => by go_simp⟩) (by assumption) ?_
    try simp only [Act.put, List.setIfInBounds_toArray, List.set_cons_zero, List.set_cons_succ]
    refine wpAnyH_take (i := 3) (oi := ⟨some 6, _, _, _, _, _⟩) (v := rhy n a len cap) rfl (by kernel_rfl) (by kernel_rfl) (by kernel_rfl) (fun _ _ _ h => h) (Or.inl ⟨by rfl, fun w hSw => by obtain ⟨q1, q2, _⟩ := hSw; go_simp⟩) (by assumption) ?_
    try simp only [Act.put, List.setIfInBounds_toArray, List.set_cons_zero, List.set_cons_succ]
    refine wpAnyH_take (i := 5) (oi := ⟨some 8, _, _, _, _, _⟩) (v := .pointer (some ⟨w.heap.size, 0, none⟩)) rfl (by kernel_rfl) (by kernel_rfl) (by kernel_rfl) (fun _ _ _ h => h) (Or.inl ⟨by rfl, fun w hSw => by go_simp⟩) (by assumption) ?_
    try simp only [Act.put, List.setIfInBounds_toArray, List.set_cons_zero, List.set_cons_succ]
    refine wpAnyH_take (i := 6) (oi := ⟨some 9, _, _, _, _, _⟩) (v := .int .i64 n) rfl (by kernel_rfl) (by kernel_rfl) (by kernel_rfl) (fun _ _ _ h => h) (Or.inl ⟨by rfl, fun w hSw => by obtain ⟨q1, q2, _⟩ := hSw; go_simp⟩) (by assumption) ?_
    try simp only [Act.put, List.setIfInBounds_toArray, List.set_cons_zero, List.set_cons_succ]
    refine wpAnyH_ready (rs := [4]) (by kernel_rfl) (by simp) ?_
    refine AllReadyH.cons rfl (fun K hKK => ?_) AllReadyH.nil
    go_simp
    go_at_call 89
    refine (period0_spec n a len cap zs w1 (HI.out.below hb1) hl' HOK.out).mono ?_
    rintro e w2 ⟨rfl, hc2⟩
    have hb2 := hb1.trans (hc2.mono hb1.size)
    clear hc2
    refine hKK.out _ _ (HK.out _ hb2) (fun hS2 => ?_)
    clear hKK K
    try simp only [Act.put, List.setIfInBounds_toArray, List.set_cons_zero, List.set_cons_succ]
    refine wpAnyH_take (i := 7) (oi := ⟨some 10, _, _, _, _, _⟩) (v := .bool (decide ((perZ n zs : Int) < (n : Int)))) rfl (by kernel_rfl) (by kernel_rfl) (by kernel_rfl) (fun _ _ _ h => h) (Or.inl ⟨by rfl, fun w hSw => by go_simp⟩) (by assumption) ?_
    try simp only [Act.put, List.setIfInBounds_toArray, List.set_cons_zero, List.set_cons_succ]
    refine wpAnyH_take (i := 8) (oi := ⟨some 11, _, _, _, _, _⟩) (v := .bool (decide ((perZ n zs : Int) < (n : Int)))) rfl (by kernel_rfl) (by kernel_rfl) (by kernel_rfl) (fun _ _ _ h => h) (Or.inl ⟨by rfl, fun w hSw => by go_simp⟩) (by assumption) ?_
    try simp only [Act.put, List.setIfInBounds_toArray, List.set_cons_zero, List.set_cons_succ]
    refine wpAnyH_take (i := 9) (oi := ⟨some 2, _, _, _, _, _⟩) (v := .bool (decide ((perZ n zs : Int) < (n : Int)))) rfl (by kernel_rfl) (by kernel_rfl) (by kernel_rfl) (fun _ _ _ h => h) (Or.inl ⟨by rfl, fun w hSw => by go_simp⟩) (by assumption) ?_
    try simp only [Act.put, List.setIfInBounds_toArray, List.set_cons_zero, List.set_cons_succ]
    refine wpAnyH_done (by kernel_rfl) ?_ _
    have HX2 := Lib.hid (B0.out.trans (hb2.mono B0.out.size))
    clear hb1 hb2 hS0 hS1 hS2 HK
    go_wp2
    go_ret
    exact ⟨ret_bool HE.out.symm, HX2.out⟩
  · have HE : Hid (ispB s zs = false) := Lib.hid (by unfold ispB; rw [okB_no ho, Bool.false_and])
    have HOK := Lib.hid ho
    clear ho
    obtain ⟨W0, hW⟩ : ∃ W0, W0 = w.alloc (.cells #[.int .i64 s, .slice a len cap] 26) := ⟨_, rfl⟩
    have HW := Lib.hid hW
    have B0 := Lib.hid (show Below w.heap.size w W0 by rw [hW]; exact bel1 w _)
    have HT := Lib.hid (show Two W0 w.heap.size (.int .i64 s) (.slice a len cap) by rw [hW]; exact two_new w _ _ _)
    clear hW
    have HI := Lib.hid (HS.out.below B0.out)
    have HK : Hid (∀ W, Below W0.heap.size W0 W → W.cell? ⟨w.heap.size, 0, none⟩ = some (.int .i64 s) ∧ W.cell? ⟨w.heap.size, 1, none⟩ = some (.slice a len cap) ∧ Below W0.heap.size W0 W) :=
      Lib.hid (fun W hW => ⟨(HT.out.keep hW).2.1, (HT.out.keep hW).2.2, hW⟩)
    go_enter Try.func76, Try.ntmps76
    go_wp2
    rw [← HW.out]
    refine wp_region_held_drew (S := fun W => W.cell? ⟨w.heap.size, 0, none⟩ = some (.int .i64 s) ∧ W.cell? ⟨w.heap.size, 1, none⟩ = some (.slice a len cap) ∧ Below W0.heap.size W0 W) (by kernel_rfl) (HK.out _ (Below.refl _ _).drew) (fun hS0 => ?_)
    refine wpAnyH_take (i := 0) (oi := ⟨some 3, _, _, _, _, _⟩) (v := rhy s a len cap) rfl (by kernel_rfl) (by kernel_rfl) (by kernel_rfl) (fun _ _ _ h => h) (Or.inl ⟨by rfl, fun w hSw => by obtain ⟨q1, q2, _⟩ := hSw; go_simp⟩) (by assumption) ?_
    try simp only [Act.put, List.setIfInBounds_toArray, List.set_cons_zero, List.set_cons_succ]
    refine wpAnyH_ready (rs := [1]) (by kernel_rfl) (by simp) ?_
    refine AllReadyH.cons rfl (fun K hKK => ?_) AllReadyH.nil
    go_simp
    go_at_call 72
    refine (ok_no s a len cap zs _ (HI.out.below (Below.refl _ _).drew) hl' HOK.out).mono ?_
    rintro e w1 ⟨rfl, hc1⟩
    have hb1 := (Below.refl W0.heap.size W0).drew.trans hc1
    clear hc1
    refine hKK.out _ _ (HK.out _ hb1) (fun hS1 => ?_)
    clear hKK K
    try simp only [Act.put, List.setIfInBounds_toArray, List.set_cons_zero, List.set_cons_succ]
    refine wpAnyH_take (i := 2) (oi := ⟨some 5, _, _, _, _, _⟩) (v := .bool false) rfl (by kernel_rfl) (by kernel_rfl) (by kernel_rfl) (fun _ _ _ h => h) (Or.inl ⟨by rfl, fun w hSw => by go_simp⟩) (by assumption) ?_
    try simp only [Act.put, List.setIfInBounds_toArray, List.set_cons_zero, List.set_cons_succ]
    refine wpAnyH_take (i := 3) (oi := ⟨some 6, _, _, _, _, _⟩) (v := undef) rfl (by kernel_rfl) (by kernel_rfl) (by kernel_rfl) (fun _ _ _ h => h) (Or.inr ⟨by rfl, rfl⟩) (by assumption) ?_
    try simp only [Act.put, List.setIfInBounds_toArray, List.set_cons_zero, List.set_cons_succ]
    refine wpAnyH_take (i := 4) (oi := ⟨some 7, _, _, _, _, _⟩) (v := undef) rfl (by kernel_rfl) (by kernel_rfl) (by kernel_rfl) (fun _ _ _ h => h) (Or.inr ⟨by rfl, rfl⟩) (by assumption) ?_
    try simp only [Act.put, List.setIfInBounds_toArray, List.set_cons_zero, List.set_cons_succ]
    refine wpAnyH_take (i := 5) (oi := ⟨some 8, _, _, _, _, _⟩) (v := undef) rfl (by kernel_rfl) (by kernel_rfl) (by kernel_rfl) (fun _ _ _ h => h) (Or.inr ⟨by rfl, rfl⟩) (by assumption) ?_
    try simp only [Act.put, List.setIfInBounds_toArray, List.set_cons_zero, List.set_cons_succ]
    refine wpAnyH_take (i := 6) (oi := ⟨some 9, _, _, _, _, _⟩) (v := undef) rfl (by kernel_rfl) (by kernel_rfl) (by kernel_rfl) (fun _ _ _ h => h) (Or.inr ⟨by rfl, rfl⟩) (by assumption) ?_
    try simp only [Act.put, List.setIfInBounds_toArray, List.set_cons_zero, List.set_cons_succ]
    refine wpAnyH_take (i := 7) (oi := ⟨some 10, _, _, _, _, _⟩) (v := undef) rfl (by kernel_rfl) (by kernel_rfl) (by kernel_rfl) (fun _ _ _ h => h) (Or.inr ⟨by rfl, rfl⟩) (by assumption) ?_
    try simp only [Act.put, List.setIfInBounds_toArray, List.set_cons_zero, List.set_cons_succ]
    refine wpAnyH_take (i := 8) (oi := ⟨some 11, _, _, _, _, _⟩) (v := .bool false) rfl (by kernel_rfl) (by kernel_rfl) (by kernel_rfl) (fun _ _ _ h => h) (Or.inl ⟨by rfl, fun w hSw => by go_simp⟩) (by assumption) ?_
    try simp only [Act.put, List.setIfInBounds_toArray, List.set_cons_zero, List.set_cons_succ]
    refine wpAnyH_take (i := 9) (oi := ⟨some 2, _, _, _, _, _⟩) (v := .bool false) rfl (by kernel_rfl) (by kernel_rfl) (by kernel_rfl) (fun _ _ _ h => h) (Or.inl ⟨by rfl, fun w hSw => by go_simp⟩) (by assumption) ?_
    try simp only [Act.put, List.setIfInBounds_toArray, List.set_cons_zero, List.set_cons_succ]
    refine wpAnyH_done (by kernel_rfl) ?_ _
    have HX2 := Lib.hid (B0.out.trans (hb1.mono B0.out.size))
    clear hb1 hS0 hS1 HK
    go_wp2
    go_ret
    exact ⟨ret_bool HE.out.symm, HX2.out⟩

set_option maxHeartbeats 400000 in
theorem isper_impl (s : Int) (a : Option Addr) (len cap : Nat) (zs : List Int) (w : World) (h : IntsAt w a len zs) (hm : zs.length ≤ 1048576) :
    Calls Try.prog 77 #[rhy s a len cap] w fun e w' => e = .returned (.bool (ispB s zs)) ∧ Below w.heap.size w w' := by
  have HS := Lib.hid h
  have hl' : len ≤ 1048576 := by have := h.1; omega
  clear h
  by_cases ho : Ok s zs
  · obtain ⟨n, rfl⟩ : ∃ n : Nat, s = n := ⟨s.toNat, by have := ho.1.1; omega⟩
    have HE : Hid (ispB n zs = decide ((perZ n zs : Int) < (n : Int))) := Lib.hid (by unfold ispB; rw [okB_yes ho, Bool.true_and])
    have HOK := Lib.hid ho
    clear ho
    obtain ⟨W0, hW⟩ : ∃ W0, W0 = w.alloc (.cells #[.int .i64 n, .slice a len cap] 26) := ⟨_, rfl⟩
    have HW := Lib.hid hW
    have B0 := Lib.hid (show Below w.heap.size w W0 by rw [hW]; exact bel1 w _)
    have HT := Lib.hid (show Two W0 w.heap.size (.int .i64 n) (.slice a len cap) by rw [hW]; exact two_new w _ _ _)
    clear hW
    have HI := Lib.hid (HS.out.below B0.out)
    have HK : Hid (∀ W, Below W0.heap.size W0 W → W.cell? ⟨w.heap.size, 0, none⟩ = some (.int .i64 n) ∧ W.cell? ⟨w.heap.size, 1, none⟩ = some (.slice a len cap) ∧ Below W0.heap.size W0 W) :=
      Lib.hid (fun W hW => ⟨(HT.out.keep hW).2.1, (HT.out.keep hW).2.2, hW⟩)
    go_enter Try.func77, Try.ntmps77
    go_wp2
    rw [← HW.out]
    refine wp_region_held_drew (S := fun W => W.cell? ⟨w.heap.size, 0, none⟩ = some (.int .i64 n) ∧ W.cell? ⟨w.heap.size, 1, none⟩ = some (.slice a len cap) ∧ Below W0.heap.size W0 W) (by kernel_rfl) (HK.out _ (Below.refl _ _).drew) (fun hS0 => ?_)
    refine wpAnyH_take (i := 0) (oi := ⟨some 3, _, _, _, _, _⟩) (v := rhy n a len cap) rfl (by kernel_rfl) (by kernel_rfl) (by kernel_rfl) (fun _ _ _ h => h) (Or.inl ⟨by rfl, fun w hSw => by obtain ⟨q1, q2, _⟩ := hSw; go_simp⟩) (by assumption) ?_
    try simp only [Act.put, List.setIfInBounds_toArray, List.set_cons_zero, List.set_cons_succ]
    refine wpAnyH_ready (rs := [1]) (by kernel_rfl) (by simp) ?_
    refine AllReadyH.cons rfl (fun K hKK => ?_) AllReadyH.nil
    go_simp
    go_at_call 62
    refine (valid_yes n a len cap zs _ (HI.out.below (Below.refl _ _).drew) hl' HOK.out).mono ?_
    rintro e w1 ⟨rfl, hc1⟩
    have hb1 := (Below.refl W0.heap.size W0).drew.trans hc1
    clear hc1
    refine hKK.out _ _ (HK.out _ hb1) (fun hS1 => ?_)
    clear hKK K
    try simp only [Act.put, List.setIfInBounds_toArray, List.set_cons_zero, List.set_cons_succ]
    refine wpAnyH_take (i := 2) (oi := ⟨some 5, _, _, _, _, _⟩) (v := .bool true) rfl (by kernel_rfl) (by kernel_rfl) (by kernel_rfl) (fun _ _ _ h => h) (Or.inl ⟨by rfl, fun w hSw => by go_simp⟩) (by assumption) ?_
    try simp only [Act.put, List.setIfInBounds_toArray, List.set_cons_zero, List.set_cons_succ]
    refine wpAnyH_take (i := 3) (oi := ⟨some 6, _, _, _, _, _⟩) (v := rhy n a len cap) rfl (by kernel_rfl) (by kernel_rfl) (by kernel_rfl) (fun _ _ _ h => h) (Or.inl ⟨by rfl, fun w hSw => by obtain ⟨q1, q2, _⟩ := hSw; go_simp⟩) (by assumption) ?_
    try simp only [Act.put, List.setIfInBounds_toArray, List.set_cons_zero, List.set_cons_succ]
    refine wpAnyH_take (i := 5) (oi := ⟨some 8, _, _, _, _, _⟩) (v := .pointer (some ⟨w.heap.size, 0, none⟩)) rfl (by kernel_rfl) (by kernel_rfl) (by kernel_rfl) (fun _ _ _ h => h) (Or.inl ⟨by rfl, fun w hSw => by go_simp⟩) (by assumption) ?_
    try simp only [Act.put, List.setIfInBounds_toArray, List.set_cons_zero, List.set_cons_succ]
    refine wpAnyH_take (i := 6) (oi := ⟨some 9, _, _, _, _, _⟩) (v := .int .i64 n) rfl (by kernel_rfl) (by kernel_rfl) (by kernel_rfl) (fun _ _ _ h => h) (Or.inl ⟨by rfl, fun w hSw => by obtain ⟨q1, q2, _⟩ := hSw; go_simp⟩) (by assumption) ?_
    try simp only [Act.put, List.setIfInBounds_toArray, List.set_cons_zero, List.set_cons_succ]
    refine wpAnyH_ready (rs := [4]) (by kernel_rfl) (by simp) ?_
    refine AllReadyH.cons rfl (fun K hKK => ?_) AllReadyH.nil
    go_simp
    go_at_call 90
    refine (period_any n a len cap zs w1 (HI.out.below hb1) hl' HOK.out).mono ?_
    rintro e w2 ⟨rfl, hc2⟩
    have hb2 := hb1.trans (hc2.mono hb1.size)
    clear hc2
    refine hKK.out _ _ (HK.out _ hb2) (fun hS2 => ?_)
    clear hKK K
    try simp only [Act.put, List.setIfInBounds_toArray, List.set_cons_zero, List.set_cons_succ]
    refine wpAnyH_take (i := 7) (oi := ⟨some 10, _, _, _, _, _⟩) (v := .bool (decide ((perZ n zs : Int) < (n : Int)))) rfl (by kernel_rfl) (by kernel_rfl) (by kernel_rfl) (fun _ _ _ h => h) (Or.inl ⟨by rfl, fun w hSw => by go_simp⟩) (by assumption) ?_
    try simp only [Act.put, List.setIfInBounds_toArray, List.set_cons_zero, List.set_cons_succ]
    refine wpAnyH_take (i := 8) (oi := ⟨some 11, _, _, _, _, _⟩) (v := .bool (decide ((perZ n zs : Int) < (n : Int)))) rfl (by kernel_rfl) (by kernel_rfl) (by kernel_rfl) (fun _ _ _ h => h) (Or.inl ⟨by rfl, fun w hSw => by go_simp⟩) (by assumption) ?_
    try simp only [Act.put, List.setIfInBounds_toArray, List.set_cons_zero, List.set_cons_succ]
    refine wpAnyH_take (i := 9) (oi := ⟨some 2, _, _, _, _, _⟩) (v := .bool (decide ((perZ n zs : Int) < (n : Int)))) rfl (by kernel_rfl) (by kernel_rfl) (by kernel_rfl) (fun _ _ _ h => h) (Or.inl ⟨by rfl, fun w hSw => by go_simp⟩) (by assumption) ?_
    try simp only [Act.put, List.setIfInBounds_toArray, List.set_cons_zero, List.set_cons_succ]
    refine wpAnyH_done (by kernel_rfl) ?_ _
    have HX2 := Lib.hid (B0.out.trans (hb2.mono B0.out.size))
    clear hb1 hb2 hS0 hS1 hS2 HK
    go_wp2
    go_ret
    exact ⟨ret_bool HE.out.symm, HX2.out⟩
  · have HE : Hid (ispB s zs = false) := Lib.hid (by unfold ispB; rw [okB_no ho, Bool.false_and])
    have HOK := Lib.hid ho
    clear ho
    obtain ⟨W0, hW⟩ : ∃ W0, W0 = w.alloc (.cells #[.int .i64 s, .slice a len cap] 26) := ⟨_, rfl⟩
    have HW := Lib.hid hW
    have B0 := Lib.hid (show Below w.heap.size w W0 by rw [hW]; exact bel1 w _)
    have HT := Lib.hid (show Two W0 w.heap.size (.int .i64 s) (.slice a len cap) by rw [hW]; exact two_new w _ _ _)
    clear hW
    have HI := Lib.hid (HS.out.below B0.out)
    have HK : Hid (∀ W, Below W0.heap.size W0 W → W.cell? ⟨w.heap.size, 0, none⟩ = some (.int .i64 s) ∧ W.cell? ⟨w.heap.size, 1, none⟩ = some (.slice a len cap) ∧ Below W0.heap.size W0 W) :=
      Lib.hid (fun W hW => ⟨(HT.out.keep hW).2.1, (HT.out.keep hW).2.2, hW⟩)
    go_enter Try.func77, Try.ntmps77
    go_wp2
    rw [← HW.out]
    refine wp_region_held_drew (S := fun W => W.cell? ⟨w.heap.size, 0, none⟩ = some (.int .i64 s) ∧ W.cell? ⟨w.heap.size, 1, none⟩ = some (.slice a len cap) ∧ Below W0.heap.size W0 W) (by kernel_rfl) (HK.out _ (Below.refl _ _).drew) (fun hS0 => ?_)
    refine wpAnyH_take (i := 0) (oi := ⟨some 3, _, _, _, _, _⟩) (v := rhy s a len cap) rfl (by kernel_rfl) (by kernel_rfl) (by kernel_rfl) (fun _ _ _ h => h) (Or.inl ⟨by rfl, fun w hSw => by obtain ⟨q1, q2, _⟩ := hSw; go_simp⟩) (by assumption) ?_
    try simp only [Act.put, List.setIfInBounds_toArray, List.set_cons_zero, List.set_cons_succ]
    refine wpAnyH_ready (rs := [1]) (by kernel_rfl) (by simp) ?_
    refine AllReadyH.cons rfl (fun K hKK => ?_) AllReadyH.nil
    go_simp
    go_at_call 62
    refine (valid_no s a len cap zs _ (HI.out.below (Below.refl _ _).drew) hl' HOK.out).mono ?_
    rintro e w1 ⟨rfl, hc1⟩
    have hb1 := (Below.refl W0.heap.size W0).drew.trans hc1
    clear hc1
    refine hKK.out _ _ (HK.out _ hb1) (fun hS1 => ?_)
    clear hKK K
    try simp only [Act.put, List.setIfInBounds_toArray, List.set_cons_zero, List.set_cons_succ]
    refine wpAnyH_take (i := 2) (oi := ⟨some 5, _, _, _, _, _⟩) (v := .bool false) rfl (by kernel_rfl) (by kernel_rfl) (by kernel_rfl) (fun _ _ _ h => h) (Or.inl ⟨by rfl, fun w hSw => by go_simp⟩) (by assumption) ?_
    try simp only [Act.put, List.setIfInBounds_toArray, List.set_cons_zero, List.set_cons_succ]
    refine wpAnyH_take (i := 3) (oi := ⟨some 6, _, _, _, _, _⟩) (v := undef) rfl (by kernel_rfl) (by kernel_rfl) (by kernel_rfl) (fun _ _ _ h => h) (Or.inr ⟨by rfl, rfl⟩) (by assumption) ?_
    try simp only [Act.put, List.setIfInBounds_toArray, List.set_cons_zero, List.set_cons_succ]
    refine wpAnyH_take (i := 4) (oi := ⟨some 7, _, _, _, _, _⟩) (v := undef) rfl (by kernel_rfl) (by kernel_rfl) (by kernel_rfl) (fun _ _ _ h => h) (Or.inr ⟨by rfl, rfl⟩) (by assumption) ?_
    try simp only [Act.put, List.setIfInBounds_toArray, List.set_cons_zero, List.set_cons_succ]
    refine wpAnyH_take (i := 5) (oi := ⟨some 8, _, _, _, _, _⟩) (v := undef) rfl (by kernel_rfl) (by kernel_rfl) (by kernel_rfl) (fun _ _ _ h => h) (Or.inr ⟨by rfl, rfl⟩) (by assumption) ?_
    try simp only [Act.put, List.setIfInBounds_toArray, List.set_cons_zero, List.set_cons_succ]
    refine wpAnyH_take (i := 6) (oi := ⟨some 9, _, _, _, _, _⟩) (v := undef) rfl (by kernel_rfl) (by kernel_rfl) (by kernel_rfl) (fun _ _ _ h => h) (Or.inr ⟨by rfl, rfl⟩) (by assumption) ?_
    try simp only [Act.put, List.setIfInBounds_toArray, List.set_cons_zero, List.set_cons_succ]
    refine wpAnyH_take (i := 7) (oi := ⟨some 10, _, _, _, _, _⟩) (v := undef) rfl (by kernel_rfl) (by kernel_rfl) (by kernel_rfl) (fun _ _ _ h => h) (Or.inr ⟨by rfl, rfl⟩) (by assumption) ?_
    try simp only [Act.put, List.setIfInBounds_toArray, List.set_cons_zero, List.set_cons_succ]
    refine wpAnyH_take (i := 8) (oi := ⟨some 11, _, _, _, _, _⟩) (v := .bool false) rfl (by kernel_rfl) (by kernel_rfl) (by kernel_rfl) (fun _ _ _ h => h) (Or.inl ⟨by rfl, fun w hSw => by go_simp⟩) (by assumption) ?_
    try simp only [Act.put, List.setIfInBounds_toArray, List.set_cons_zero, List.set_cons_succ]
    refine wpAnyH_take (i := 9) (oi := ⟨some 2, _, _, _, _, _⟩) (v := .bool false) rfl (by kernel_rfl) (by kernel_rfl) (by kernel_rfl) (fun _ _ _ h => h) (Or.inl ⟨by rfl, fun w hSw => by go_simp⟩) (by assumption) ?_
    try simp only [Act.put, List.setIfInBounds_toArray, List.set_cons_zero, List.set_cons_succ]
    refine wpAnyH_done (by kernel_rfl) ?_ _
    have HX2 := Lib.hid (B0.out.trans (hb1.mono B0.out.size))
    clear hb1 hS0 hS1 HK
    go_wp2
    go_ret
    exact ⟨ret_bool HE.out.symm, HX2.out⟩









end Go.Proofs.Ytpgolnkhbnancaa.Rhy
