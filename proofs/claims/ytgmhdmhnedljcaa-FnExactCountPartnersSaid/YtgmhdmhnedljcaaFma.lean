/-
  Helpers of the claims beside this text: the program's form of a rhythm: its size and 24 marks in one struct; when two forms are equal.
-/
import Derived.Test.YtgmhdmhnedljcaaPer
import Derived.Laws.StructEq
import Derived.Laws.Rows
import Derived.Laws.Tables
import Derived.ChangeKeysEq
import Derived.Test.YtgmhdmhnedljcaaRot
import Derived.Test.YtgmhdmhnedljcaaFrm
import Derived.Test.YtgmhdmhnedljcaaVec
import Derived.Deep.RegionHeld3
namespace Go.Proofs.Ytgmhdmhnedljcaa.Rhy
open Go.RowKit
set_option linter.unusedVariables false

def maskL (zs : List Int) : List Bool := (List.range 24).map fun i : Nat => zs.contains (i : Int)
def formC (s : Int) (l : List Bool) : Array Value := (Value.int .i64 s :: l.map Value.bool).toArray
def formA (s : Int) (zs : List Int) : Array Value := formC s (maskL zs)
def formV (s : Int) (zs : List Int) : Value := .agg (formA s zs)
theorem maskL_len (zs : List Int) : (maskL zs).length = 24 := by simp [maskL]
theorem formA_size (s : Int) (zs : List Int) : (formA s zs).size = 25 := by simp [formA, formC, maskL_len]
theorem formA_one (s : Int) (zs : List Int) : (formA s zs).all (·.oneCell') = true := by
  refine Array.all_eq_true_iff_forall_mem.2 fun v hv => ?_
  unfold formA formC at hv
  simp only [List.mem_toArray, List.mem_cons, List.mem_map] at hv
  rcases hv with rfl | ⟨b, _, rfl⟩ <;> rfl
theorem maskL_at (zs : List Int) (j : Nat) : (maskL zs)[j]? = if j < 24 then some (zs.contains (j : Int)) else none := by
  unfold maskL
  by_cases h : j < 24
  · rw [if_pos h]; simp [h]
  · rw [if_neg h]; simp [h]
theorem formA_at (s : Int) (zs : List Int) (j : Nat) : (formA s zs)[1 + j]? = if j < 24 then some (.bool (zs.contains (j : Int))) else none := by
  unfold formA formC
  rw [List.getElem?_toArray, Nat.add_comm, List.getElem?_cons_succ, List.getElem?_map, maskL_at]
  by_cases h : j < 24
  · rw [if_pos h, if_pos h]; rfl
  · rw [if_neg h, if_neg h]; rfl
theorem formA_zero (s : Int) (zs : List Int) : (formA s zs)[0]? = some (.int .i64 s) := rfl
theorem formA_nil (s : Int) : formA s [] = #[.int .i64 s, .bool false, .bool false, .bool false, .bool false, .bool false, .bool false, .bool false, .bool false, .bool false, .bool false, .bool false, .bool false, .bool false, .bool false, .bool false, .bool false, .bool false, .bool false, .bool false, .bool false, .bool false, .bool false, .bool false, .bool false] := rfl
theorem formA_set {s : Int} {zs : List Int} {k z : Nat} (hz : zs[k]? = some (z : Int)) (h : z < 24) : (formA s (zs.take k)).setIfInBounds (1 + z) (.bool true) = formA s (zs.take (k + 1)) := by
  apply Array.ext_getElem?
  intro i
  rw [Array.getElem?_setIfInBounds]
  rcases i with _ | i
  · rw [if_neg (by omega), formA_zero, formA_zero]
  · rw [Nat.add_comm i 1, formA_at, formA_at]
    have hs : zs.take (k + 1) = zs.take k ++ [(z : Int)] := by rw [List.take_add_one, hz]; rfl
    by_cases e : z = i
    · subst e
      rw [if_pos rfl, if_pos (by rw [formA_size]; omega), if_pos h, hs]
      simp
    · rw [if_neg (by omega)]
      by_cases q : i < 24
      · rw [if_pos q, if_pos q, hs]
        congr 2
        rw [Bool.eq_iff_iff]
        simp only [List.contains_iff_mem, List.mem_append, List.mem_singleton]
        constructor
        · exact fun h => .inl h
        · rintro (h | h)
          · exact h
          · omega
      · rw [if_neg q, if_neg q]

/-- Are two forms equal? -/
def eqF (s : Int) (xs : List Int) (t : Int) (ys : List Int) : Bool := (s == t) && (maskL xs == maskL ys)
theorem eqF_ok {s t : Int} {xs ys : List Int} (hx : Ok s xs) (hy : Ok t ys) : eqF s xs t ys = (decide (s = t) && eqB xs ys) := by
  unfold eqF
  by_cases hs : s = t
  · subst hs
    have : (maskL xs == maskL ys) = eqB xs ys := by
      unfold eqB
      rw [Bool.eq_iff_iff, beq_iff_eq, decide_eq_true_iff]
      constructor
      · intro h
        refine lt_uniq (ok_sorted hx) (ok_sorted hy) fun x => ?_
        have key : ∀ j : Nat, j < 24 → (xs.contains (j : Int) = ys.contains (j : Int)) := fun j hj => by
          have h1 := maskL_at xs j
          have h2 := maskL_at ys j
          rw [h, h2, if_pos hj, if_pos hj] at h1
          exact (Option.some.inj h1).symm
        constructor
        · intro q
          have hb := ok_range hx x q
          have := key x.toNat (by have := hx.1; omega)
          rw [Int.toNat_of_nonneg hb.1, List.contains_iff_mem.2 q] at this
          exact List.contains_iff_mem.1 this.symm
        · intro q
          have hb := ok_range hy x q
          have := key x.toNat (by have := hx.1; omega)
          rw [Int.toNat_of_nonneg hb.1, List.contains_iff_mem.2 q] at this
          exact List.contains_iff_mem.1 this
      · intro h; rw [h]
    simp [this]
  · have : (s == t) = false := by simpa using hs
    simp [this, hs]

theorem infoB : (Try.prog.info? 4).map (·.size) = some 1 := by kernel_rfl







theorem part_bool (l : List Bool) (i : Nat) (b : Bool) (h : l[i]? = some b) (w : World) : (part 4 (l.map Value.bool).toArray i).run Try.prog w = .ok (.bool b) w := by
  have ha : (isAgg 4).run Try.prog w = .ok false w := by simp [isAgg, run_underlying Try.underlying4]
  have hc : ((l.map Value.bool).toArray)[i]? = some (.bool b) := by simp [h]
  simp [part, ha, hc]
theorem items_bool (d : Nat) (l m : List Bool) : ∀ (f k : Nat), k + f ≤ l.length → k + f ≤ m.length → ∀ w : World,
    (Op.eqItems (d + 1) 4 1 (l.map Value.bool).toArray (m.map Value.bool).toArray (List.range' k f)).run Try.prog w = .ok ((List.range' k f).all fun i => l[i]? == m[i]?) w := by
  intro f
  induction f with
  | zero => intro k _ _ w; simp [Op.eqItems]
  | succ f ih =>
    intro k h1 h2 w
    have e1 := List.getElem?_eq_getElem (show k < l.length by omega)
    have e2 := List.getElem?_eq_getElem (show k < m.length by omega)
    rw [List.range'_succ]
    simp only [Op.eqItems, Sem.run_bind, Nat.mul_one, part_bool l k _ e1, part_bool m k _ e2, Result.andThen_ok, run_equalIn_bool w d 4 _ _ Try.underlying4, List.all_cons, e1, e2]
    by_cases q : l[k] = m[k]
    · have hq : (l[k] == m[k]) = true := by simpa using q
      have hq2 : (some l[k] == some m[k]) = true := by simpa using q
      simp only [hq, hq2, Bool.not_true, Bool.false_eq_true, if_false, Bool.true_and]
      exact ih (k + 1) (by omega) (by omega) w
    · have hq : (l[k] == m[k]) = false := by simpa using q
      have hq2 : (some l[k] == some m[k]) = false := by simpa using q
      simp only [hq, hq2, Bool.not_false, if_true, Sem.run_pure, Bool.false_and]
theorem part_form0 (s : Int) (xs : List Int) (w : World) : (part 3 (formA s xs) 0).run Try.prog w = .ok (.int .i64 s) w := by
  have ai : (isAgg 3).run Try.prog w = .ok false w := by simp [isAgg, run_underlying Try.underlying3]
  simp [part, ai, formA_zero]








end Go.Proofs.Ytgmhdmhnedljcaa.Rhy
namespace Go.Proofs.Ytgmhdmhnedljcaa.Rhy
open Go.RowKit

theorem below_setRow {B : Nat} {a w : World} (h : Below B a w) {g : Nat} (hg : B ≤ g) (cs : Array Value) : Below B a (w.setRow g cs) :=
  h.trans ⟨rfl, rfl, rfl, by simp, fun k hk => setRow_other w g k cs (by omega)⟩
theorem two_setRow {w : World} {b : Nat} {v0 v1 : Value} (h : Two w b v0 v1) {g : Nat} (hg : b ≠ g) (cs : Array Value) : Two (w.setRow g cs) b v0 v1 :=
  ⟨by simpa using h.1, by rw [cell_setRow_other w g cs _ hg]; exact h.2.1, by rw [cell_setRow_other w g cs _ hg]; exact h.2.2⟩




end Go.Proofs.Ytgmhdmhnedljcaa.Rhy
namespace Go.Proofs.Ytgmhdmhnedljcaa.Rhy
open Go.RowKit
theorem row_keep {w w' : World} {g : Nat} {o : Obj} (h : w.heap[g]? = some o) (hb : Below w.heap.size w w') : w'.heap[g]? = some o := by
  rw [hb.block g (Array.getElem?_eq_some_iff.1 h).1]; exact h
theorem eqF_rot {n : Int} {zs ys : List Int} (ho : Ok n zs) (hy : Ok n ys) (u k : Int) : eqF n (rotZ n zs u k) n ys = eqB (rotZ n zs u k) ys := by
  rw [eqF_ok (rot_ok ho.1 _ _) hy]; simp
theorem per_no {n : Nat} {zs : List Int} {k : Nat} (h1 : 1 ≤ k) (h : k < perZ n zs) : isRot n zs zs 1 k = false :=
  (first_spec (isRot n zs zs 1) ((n : Int).toNat - 1) 1).2 k h1 h


/-- The least turn that leads to another rhythm, of whatever size. -/
def rotToW (n : Nat) (zs : List Int) (t : Int) (ys : List Int) : Int := if (n : Int) = t then rotToZ n zs ys else -1
theorem rotTo_at {n : Nat} {zs ys : List Int} {k : Nat} (hk : k < n) (h0 : ∀ j, j < k → isRot n zs ys 1 j = false) (h1 : isRot n zs ys 1 k = true) : rotToZ n zs ys = k := by
  have key : ∀ f m, m + f = k → (∀ j, m ≤ j → j < k → isRot n zs ys 1 j = false) → firstFrom (isRot n zs ys 1) m (n - m) = k := by
    intro f
    induction f with
    | zero => intro m hm _; rw [Nat.add_zero] at hm; subst hm; exact first_yes hk h1
    | succ f ih => intro m hm hj; rw [first_no (by omega) (hj m (Nat.le_refl _) (by omega))]; exact ih (m + 1) (by omega) (fun j a b => hj j (by omega) b)
  have := key k 0 (by omega) (fun j _ b => h0 j b)
  unfold rotToZ
  rw [Int.toNat_natCast]
  rw [Nat.sub_zero] at this
  rw [this, if_pos hk]
theorem rotTo_none {n : Nat} {zs ys : List Int} (h0 : ∀ j, j < n → isRot n zs ys 1 j = false) : rotToZ n zs ys = -1 := by
  obtain ⟨h1, h2⟩ := first_spec (isRot n zs ys 1) n 0
  unfold rotToZ
  rw [Int.toNat_natCast]
  rcases h1 with h1 | h1
  · have := h0 (firstFrom (isRot n zs ys 1) 0 n) (by omega)
    rw [h1.2] at this; cases this
  · rw [h1, Nat.zero_add, if_neg (Nat.lt_irrefl _)]
theorem rotToW_at {n : Nat} {zs : List Int} {t : Int} {ys : List Int} {k : Nat} (hx : Ok n zs) (hy : Ok t ys) (hk : k < n) (h0 : ∀ j : Nat, j < k → eqF n (rotZ n zs 1 j) t ys = false) (h1 : eqF n (rotZ n zs 1 k) t ys = true) : rotToW n zs t ys = k := by
  rw [eqF_ok (rot_ok hx.1 _ _) hy] at h1
  have hst : (n : Int) = t := by cases hd : decide ((n : Int) = t) with
    | true => exact of_decide_eq_true hd
    | false => rw [hd] at h1; cases h1
  subst hst
  unfold rotToW
  rw [if_pos rfl]
  refine rotTo_at hk (fun j hj => ?_) (by simpa [isRot] using h1)
  have := h0 j hj
  rw [eqF_ok (rot_ok hx.1 _ _) hy] at this
  simpa [isRot] using this
theorem rotToW_none {n : Nat} {zs : List Int} {t : Int} {ys : List Int} (hx : Ok n zs) (hy : Ok t ys) (h0 : ∀ j : Nat, j < n → eqF n (rotZ n zs 1 j) t ys = false) : rotToW n zs t ys = -1 := by
  unfold rotToW
  by_cases hst : (n : Int) = t
  · subst hst
    rw [if_pos rfl]
    refine rotTo_none fun j hj => ?_
    have := h0 j hj
    rw [eqF_ok (rot_ok hx.1 _ _) hy] at this
    simpa [isRot] using this
  · rw [if_neg hst]


theorem axesP_yes {n : Nat} {zs : List Int} {k : Nat} (h : eqB (rotZ n zs (-1) k) zs = true) : axesP n zs (k + 1) = axesP n zs k ++ [(k : Int)] := by
  unfold axesP
  rw [List.range_succ, List.map_append, List.filter_append]
  simp only [List.map_cons, List.map_nil, List.filter_cons, List.filter_nil]
  rw [show Int.ofNat k = (k : Int) from rfl, if_pos h]
theorem axesP_no {n : Nat} {zs : List Int} {k : Nat} (h : eqB (rotZ n zs (-1) k) zs = false) : axesP n zs (k + 1) = axesP n zs k := by
  unfold axesP
  rw [List.range_succ, List.map_append, List.filter_append]
  simp only [List.map_cons, List.map_nil, List.filter_cons, List.filter_nil]
  rw [show Int.ofNat k = (k : Int) from rfl, h]
  simp
theorem axesP_len (n : Int) (zs : List Int) (k : Nat) : (axesP n zs k).length ≤ k := by
  unfold axesP
  refine Nat.le_trans (List.length_filter_le _ _) ?_
  simp
theorem axesP_int (n : Int) (zs : List Int) (k : Nat) (hk : k ≤ 1000) : AllInt (axesP n zs k) := by
  intro z hz
  unfold axesP at hz
  rw [List.mem_filter, List.mem_map] at hz
  obtain ⟨⟨i, hi, rfl⟩, _⟩ := hz
  rw [List.mem_range] at hi
  show -9223372036854775808 ≤ (i : Int) ∧ (i : Int) ≤ 9223372036854775807
  omega


end Go.Proofs.Ytgmhdmhnedljcaa.Rhy

/-
  Helpers of the claims beside this text: PeriodOf, IsPeriodic, RotationTo, AreRotations, AreForms, AxesOf, IsMirrored of both sides.
-/
namespace Go.Proofs.Ytgmhdmhnedljcaa.Rhy
open Go.RowKit
set_option linter.unusedVariables false

/-! What both sides answer. -/
noncomputable def ispB (s : Int) (zs : List Int) : Bool := okB s zs && decide ((perZ s zs : Int) < s)
noncomputable def rotToB (s : Int) (xs : List Int) (t : Int) (ys : List Int) : Int := @ite _ (Ok s xs ∧ Ok t ys) (Classical.propDecidable _) (rotToW s.toNat xs t ys) (-1)
theorem rotToB_yes {n : Nat} {xs : List Int} {t : Int} {ys : List Int} (hx : Ok n xs) (hy : Ok t ys) : rotToB n xs t ys = rotToW n xs t ys := by simp [rotToB, hx, hy]
theorem rotToB_no {s : Int} {xs : List Int} {t : Int} {ys : List Int} (h : ¬ (Ok s xs ∧ Ok t ys)) : rotToB s xs t ys = -1 := by unfold rotToB; rw [if_neg h]
noncomputable def arotB (s : Int) (xs : List Int) (t : Int) (ys : List Int) : Bool := decide (0 ≤ rotToB s xs t ys)
noncomputable def aforB (s : Int) (xs : List Int) (t : Int) (ys : List Int) : Bool := okB s xs && (arotB s xs t ys || arotB s (rotZ s xs (-1) 0) t ys)
noncomputable def axB (s : Int) (zs : List Int) : List Int := cZ (Ok s zs) (axesZ s zs)
theorem axB_yes {s : Int} {zs : List Int} (h : Ok s zs) : axB s zs = axesZ s zs := cZ_yes h
theorem axB_no {s : Int} {zs : List Int} (h : ¬ Ok s zs) : axB s zs = [] := cZ_no h
theorem axB_int (s : Int) (zs : List Int) : AllInt (axB s zs) := by
  by_cases h : Ok s zs
  · rw [axB_yes h]; exact axesP_int _ _ _ (by have := h.1; omega)
  · rw [axB_no h]; intro z hz; cases hz
theorem axB_len (s : Int) (zs : List Int) : (axB s zs).length ≤ 24 := by
  by_cases h : Ok s zs
  · rw [axB_yes h]; exact Nat.le_trans (axesP_len _ _ _) (by have := h.1; omega)
  · rw [axB_no h]; simp
noncomputable def ismB (s : Int) (zs : List Int) : Bool := decide (0 < (axB s zs).length)
theorem rotToB_bd (s : Int) (xs : List Int) (t : Int) (ys : List Int) : -1 ≤ rotToB s xs t ys ∧ rotToB s xs t ys ≤ 24 := by
  by_cases h : Ok s xs ∧ Ok t ys
  · obtain ⟨n, rfl⟩ : ∃ n : Nat, s = n := ⟨s.toNat, by have := h.1.1; omega⟩
    rw [rotToB_yes h.1 h.2]
    have := h.1.1.2
    unfold rotToW rotToZ
    split
    · split <;> omega
    · omega
  · rw [rotToB_no h]; omega
theorem start2 (w W0 : World) (s : Int) (a : Option Addr) (n ca : Nat) (t : Int) (b : Option Addr) (m cb : Nat) (hW : W0 = (w.alloc (.cells #[.int .i64 s, .slice a n ca] 28)).alloc (.cells #[.int .i64 t, .slice b m cb] 28)) :
    Below w.heap.size w W0 ∧ Two W0 w.heap.size (.int .i64 s) (.slice a n ca) ∧ Two W0 (w.heap.size + 1) (.int .i64 t) (.slice b m cb) := by
  subst hW
  refine ⟨bel2 w _ _, (two_new w _ _ _).keep (bel1 _ _), ?_⟩
  have := two_new (w.alloc (.cells #[.int .i64 s, .slice a n ca] 28)) (.int .i64 t) (.slice b m cb) 28
  simpa using this












end Go.Proofs.Ytgmhdmhnedljcaa.Rhy
