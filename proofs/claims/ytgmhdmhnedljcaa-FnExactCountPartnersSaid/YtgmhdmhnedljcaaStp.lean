/-
  Helpers of the claims beside this text: the model's steps of a rhythm.
-/
import Derived.Test.YtgmhdmhnedljcaaVec
import Derived.Test.YtgmhdmhnedljcaaMoves
import Derived.Deep.QuietTactic
import Derived.BigQuiet
import Derived.WalkLawsBesides
import Derived.Test.YtgmhdmhnedljcaaOf
import Derived.Test.YtgmhdmhnedljcaaOut
import Derived.Test.YtgmhdmhnedljcaaApp
import Derived.Laws.OwnMore
import Derived.Maps.AppendAt
import Derived.Deep.DeepCutAuto
namespace Go.Proofs.Ytgmhdmhnedljcaa.Rhy
open Go.RowKit
set_option linter.unusedVariables false

/-- The step from the beat at place i to the next one, around. -/
def stepAt (s : Int) (zs : List Int) (i : Nat) : Int := (zs[i + 1]?.getD (zs[0]?.getD 0 + s)) - zs[i]?.getD 0
def stepsP (s : Int) (zs : List Int) (k : Nat) : List Int := (List.range k).map (stepAt s zs)
def stepsZ (s : Int) (zs : List Int) : List Int := stepsP s zs zs.length
theorem stepsP_len (s : Int) (zs : List Int) (k : Nat) : (stepsP s zs k).length = k := by simp [stepsP]
theorem stepsP_snoc (s : Int) (zs : List Int) (k : Nat) : stepsP s zs (k + 1) = stepsP s zs k ++ [stepAt s zs k] := by simp [stepsP, List.range_succ]
theorem step_mid {s : Int} {zs : List Int} {k : Nat} {z z' : Int} (h : zs[k]? = some z) (h' : zs[k + 1]? = some z') : stepAt s zs k = z' - z := by simp [stepAt, h, h']
theorem step_last {s : Int} {zs : List Int} {k : Nat} {z z0 : Int} (h : zs[k]? = some z) (h' : zs.length = k + 1) (h0 : zs[0]? = some z0) : stepAt s zs k = z0 + s - z := by
  have : zs[k + 1]? = none := List.getElem?_eq_none (by omega)
  simp [stepAt, h, h0, this]
theorem step_bd {s : Int} {zs : List Int} (ho : Ok s zs) {k : Nat} (hk : k < zs.length) : 1 ≤ stepAt s zs k ∧ stepAt s zs k ≤ s := by
  have hz := List.getElem?_eq_getElem hk
  have h0 := List.getElem?_eq_getElem (show 0 < zs.length by omega)
  have b1 := ok_at ho hz
  have b0 := ok_at ho h0
  by_cases h1 : k + 1 < zs.length
  · have hz' := List.getElem?_eq_getElem h1
    have b2 := ok_at ho hz'
    have := ok_lt ho (k + 1) k hk h1 (by omega)
    rw [step_mid hz hz']
    omega
  · rw [step_last hz (by omega) h0]
    by_cases e : k = 0
    · subst e; omega
    · have := ok_lt ho k 0 (by omega) hk (by omega)
      omega
theorem stepsZ_bd {s : Int} {zs : List Int} (ho : Ok s zs) : ∀ x ∈ stepsZ s zs, 1 ≤ x ∧ x ≤ s := by
  intro x hx
  unfold stepsZ stepsP at hx
  rw [List.mem_map] at hx
  obtain ⟨k, hk, rfl⟩ := hx
  rw [List.mem_range] at hk
  exact step_bd ho hk
theorem stepsZ_int {s : Int} {zs : List Int} (ho : Ok s zs) : AllInt (stepsZ s zs) := by
  intro x hx
  have := stepsZ_bd ho x hx
  have := ho.1
  omega

/-- What both answer: no steps of a rhythm that is not valid. -/
noncomputable def stB (s : Int) (zs : List Int) : List Int := cZ (Ok s zs) (stepsZ s zs)
theorem stB_yes {s : Int} {zs : List Int} (h : Ok s zs) : stB s zs = stepsZ s zs := cZ_yes h
theorem stB_no {s : Int} {zs : List Int} (h : ¬ Ok s zs) : stB s zs = [] := cZ_no h
theorem stB_int (s : Int) (zs : List Int) : AllInt (stB s zs) := by
  by_cases h : Ok s zs
  · rw [stB_yes h]; exact stepsZ_int h
  · rw [stB_no h]; intro z hz; cases hz
theorem stB_len (s : Int) (zs : List Int) : (stB s zs).length ≤ 24 := by
  by_cases h : Ok s zs
  · rw [stB_yes h]; unfold stepsZ; rw [stepsP_len]; exact ok_len h
  · rw [stB_no h]; simp


/-- Two cases that the tests of a rhythm without steps part. -/
theorem stB_nil {s : Int} {zs : List Int} (h : zs.length = 0) : stB s zs = [] := by
  by_cases ho : Ok s zs
  · rw [stB_yes ho]; unfold stepsZ stepsP; rw [h]; rfl
  · exact stB_no ho


end Go.Proofs.Ytgmhdmhnedljcaa.Rhy

/-
  Helpers of the claims beside this text: the model's numbers of steps: the longest, the shortest, spans, rests.
-/
namespace Go.Proofs.Ytgmhdmhnedljcaa.Rhy
open Go.RowKit
set_option linter.unusedVariables false

theorem stB_bd (s : Int) (zs : List Int) : ∀ x ∈ stB s zs, 1 ≤ x ∧ x ≤ 24 := by
  intro x hx
  by_cases h : Ok s zs
  · rw [stB_yes h] at hx
    have := stepsZ_bd h x hx
    have := h.1
    omega
  · rw [stB_no h] at hx; cases hx

theorem max_ite (a z : Int) : (if a < z then z else a) = max a z := by split <;> omega
def maxL (l : List Int) : Int := l.foldl max 0
theorem maxL_snoc {l : List Int} {k : Nat} {z : Int} (h : l[k]? = some z) : maxL (l.take (k + 1)) = max (maxL (l.take k)) z := by
  unfold maxL
  rw [List.take_add_one, h]
  simp
theorem maxL_bd {l : List Int} {B : Int} (hB : 0 ≤ B) (h : ∀ x ∈ l, x ≤ B) : 0 ≤ maxL l ∧ maxL l ≤ B := by
  have key : ∀ (l : List Int) (m : Int), 0 ≤ m → m ≤ B → (∀ x ∈ l, x ≤ B) → 0 ≤ l.foldl max m ∧ l.foldl max m ≤ B := by
    intro l
    induction l with
    | nil => intro m h0 h1 _; exact ⟨h0, h1⟩
    | cons x l ih =>
      intro m h0 h1 hx
      have := hx x (by simp)
      exact ih (max m x) (by omega) (by omega) (fun y hy => hx y (by simp [hy]))
  exact key l 0 (by omega) hB h

def minP (l : List Int) : Nat → Int
  | 0 => 0
  | k + 1 => if k = 0 ∨ l.getD k 0 < minP l k then l.getD k 0 else minP l k
def minL (l : List Int) : Int := minP l l.length
theorem minP_first {l : List Int} {z : Int} (h : l[0]? = some z) : minP l 1 = z := by simp [minP, List.getD, h]
theorem minP_less {l : List Int} {k : Nat} {z : Int} (h : l[k]? = some z) (hz : z < minP l k) : minP l (k + 1) = z := by simp [minP, List.getD, h, hz]
theorem minP_else {l : List Int} {k : Nat} {z : Int} (h : l[k]? = some z) (h0 : k ≠ 0) (hz : ¬ z < minP l k) : minP l (k + 1) = minP l k := by simp [minP, List.getD, h, hz, h0]

def restsL (l : List Int) : Int := (l.filter (fun x => decide (1 < x))).length
theorem restsL_yes {l : List Int} {k : Nat} {z : Int} (h : l[k]? = some z) (hz : 1 < z) : restsL (l.take (k + 1)) = restsL (l.take k) + 1 := by
  unfold restsL
  rw [List.take_add_one, h]
  simp [List.filter_append, hz]
theorem restsL_no {l : List Int} {k : Nat} {z : Int} (h : l[k]? = some z) (hz : ¬ 1 < z) : restsL (l.take (k + 1)) = restsL (l.take k) := by
  unfold restsL
  rw [List.take_add_one, h]
  simp [List.filter_append, hz]
theorem restsL_bd (l : List Int) : 0 ≤ restsL l ∧ restsL l ≤ l.length := by
  unfold restsL
  have := List.length_filter_le (fun x : Int => decide (1 < x)) l
  omega

def spanL (l : List Int) (i : Nat) : Nat → Int
  | 0 => 0
  | k + 1 => spanL l i k + l.getD ((i + k) % l.length) 0
theorem spanL_bd {l : List Int} (h : ∀ x ∈ l, 1 ≤ x ∧ x ≤ 24) (i k : Nat) : 0 ≤ spanL l i k ∧ spanL l i k ≤ 24 * k := by
  induction k with
  | zero => simp [spanL]
  | succ k ih =>
    have hx : 0 ≤ l.getD ((i + k) % l.length) 0 ∧ l.getD ((i + k) % l.length) 0 ≤ 24 := by
      rw [List.getD_eq_getElem?_getD]
      cases hq : l[(i + k) % l.length]? with
      | none => simp
      | some x => have := h x (List.mem_of_getElem? hq); simp; omega
    simp only [spanL]
    omega
theorem spanL_snoc {l : List Int} {i k : Nat} {z : Int} (h : l[(i + k) % l.length]? = some z) : spanL l i (k + 1) = spanL l i k + z := by
  simp [spanL, List.getD, h]



open Classical in
noncomputable def restsB (s : Int) (zs : List Int) : Int := if Ok s zs then restsL (stB s zs) else -1
theorem restsB_yes {s : Int} {zs : List Int} (h : Ok s zs) : restsB s zs = restsL (stB s zs) := by simp [restsB, h]
theorem restsB_no {s : Int} {zs : List Int} (h : ¬ Ok s zs) : restsB s zs = -1 := by simp [restsB, h]



/-- What both answer. -/
noncomputable def spanB (s : Int) (zs : List Int) (i k : Int) : Int := @ite _ ((0 ≤ i ∧ i < (stB s zs).length) ∧ 0 ≤ k ∧ k ≤ (stB s zs).length) (Classical.propDecidable _) (spanL (stB s zs) i.toNat k.toNat) 0


end Go.Proofs.Ytgmhdmhnedljcaa.Rhy

/-
  Helpers of the claims beside this text: the model's TurnSteps.
-/
namespace Go.Proofs.Ytgmhdmhnedljcaa.Rhy
open Go.RowKit
set_option linter.unusedVariables false

theorem rev_snoc {l : List Int} {k j : Nat} {z : Int} (h : k + (j + 1) = l.length) (hs : l[j]? = some z) : l.reverse.take (k + 1) = l.reverse.take k ++ [z] := by
  have : l.reverse[k]? = some z := by
    rw [List.getElem?_reverse (by omega), show l.length - 1 - k = j by omega, hs]
  rw [List.take_add_one, this]
  rfl


/-- The beats from p0 on by the steps m, around. -/
def turnL (s p0 : Int) (m : List Int) (k : Nat) : List Int := (List.range k).map fun j => remB (p0 + (m.take j).sum) s
theorem turnL_len (s p0 : Int) (m : List Int) (k : Nat) : (turnL s p0 m k).length = k := by simp [turnL]
theorem turnL_snoc (s p0 : Int) (m : List Int) (k : Nat) : turnL s p0 m (k + 1) = turnL s p0 m k ++ [remB (p0 + (m.take k).sum) s] := by simp [turnL, List.range_succ]
theorem turnL_int {s p0 : Int} {m : List Int} {k : Nat} (h1 : 1 ≤ s) (h2 : s ≤ 1000) : AllInt (turnL s p0 m k) := by
  intro z hz
  unfold turnL at hz
  rw [List.mem_map] at hz
  obtain ⟨p, _, rfl⟩ := hz
  exact remB_int h1 h2
theorem sum_snoc {m : List Int} {k : Nat} {z : Int} (h : m[k]? = some z) : (m.take (k + 1)).sum = (m.take k).sum + z := by
  rw [List.take_add_one, h]
  simp
theorem sum_bd {m : List Int} {B : Int} (h : ∀ x ∈ m, 0 ≤ x ∧ x ≤ B) (k : Nat) (hk : k ≤ m.length) : 0 ≤ (m.take k).sum ∧ (m.take k).sum ≤ B * k := by
  induction k with
  | zero => simp
  | succ k ih =>
    have := ih (by omega)
    have hq := List.getElem?_eq_getElem (show k < m.length by omega)
    have hx := h _ (List.mem_of_getElem? hq)
    rw [sum_snoc hq]
    have : B * ((k + 1 : Nat) : Int) = B * k + B := by rw [Int.natCast_succ, Int.mul_add, Int.mul_one]
    omega

noncomputable def turnZ (s : Int) (zs : List Int) : List Int := turnL s (zs[0]?.getD 0) (stB s zs).reverse (stB s zs).length
def TurnC (s : Int) (zs : List Int) : Prop := Ok s zs ∧ 0 < zs.length


end Go.Proofs.Ytgmhdmhnedljcaa.Rhy

/-
  Helpers of the claims beside this text: the model's FromSteps.
-/
namespace Go.Proofs.Ytgmhdmhnedljcaa.Rhy
open Go.RowKit
set_option linter.unusedVariables false

/-- The beats from p0 on by the steps m. -/
def fromL (p0 : Int) (m : List Int) (k : Nat) : List Int := (List.range k).map fun j => p0 + (m.take j).sum
theorem fromL_len (p0 : Int) (m : List Int) (k : Nat) : (fromL p0 m k).length = k := by simp [fromL]
theorem fromL_snoc (p0 : Int) (m : List Int) (k : Nat) : fromL p0 m (k + 1) = fromL p0 m k ++ [p0 + (m.take k).sum] := by simp [fromL, List.range_succ]
theorem sum_mono {m : List Int} (h : ∀ x ∈ m, 0 ≤ x) (k : Nat) : (m.take k).sum ≤ m.sum := by
  have e : m.sum = (m.take k).sum + (m.drop k).sum := by rw [← List.sum_append, List.take_append_drop]
  have : ∀ l : List Int, (∀ x ∈ l, 0 ≤ x) → 0 ≤ l.sum := by
    intro l
    induction l with
    | nil => simp
    | cons x l ih => intro hl; have h1 := hl x (by simp); have h2 := ih (fun y hy => hl y (by simp [hy])); simp; omega
  have := this (m.drop k) (fun x hx => h x (List.mem_of_mem_drop hx))
  omega
theorem sum_ge {m : List Int} (h : ∀ x ∈ m, 1 ≤ x) : (m.length : Int) ≤ m.sum := by
  induction m with
  | nil => simp
  | cons x l ih => have h1 := h x (by simp); have h2 := ih (fun y hy => h y (by simp [hy])); simp; omega

def FromC (zs : List Int) (f : Int) : Prop := 0 < zs.length ∧ (∀ x ∈ zs, 1 ≤ x ∧ x ≤ 24) ∧ zs.sum ≤ 24 ∧ 0 ≤ f ∧ f < zs[zs.length - 1]?.getD 0
def FromAt (g k : Nat) (f n : Int) (zs : List Int) (w wr : World) : Prop :=
  ∃ av cv, Box wr g (.int .i64 0) (.slice none 0 0) 28 ∧ Box wr (g + 1) (.int .i64 n) (.slice av (fromL f zs k).length cv) 28 ∧
    wr.ownsRow (g + 2) 3 1 (.slice av (fromL f zs k).length cv) (fromL f zs k).length (ints (fromL f zs k)) ∧ Below g w wr ∧ g + 2 ≤ wr.heap.size
def FromPre (zs : List Int) (k : Nat) : Prop := (∀ x ∈ zs.take k, 1 ≤ x ∧ x ≤ 24) ∧ (zs.take k).sum ≤ 48
theorem fromPre_next {zs : List Int} {k : Nat} {z : Int} (h : FromPre zs k) (hs : zs[k]? = some z) (hz : 1 ≤ z ∧ z ≤ 24) (hn : (zs.take k).sum ≤ 24) : FromPre zs (k + 1) := by
  refine ⟨?_, by rw [sum_snoc hs]; omega⟩
  intro x hx
  rw [List.take_add_one, hs] at hx
  rcases List.mem_append.mp hx with q | q
  · exact h.1 x q
  · have : x = z := by simpa using q
    rw [this]; exact hz
theorem fromPre_ge {zs : List Int} {k : Nat} (h : FromPre zs k) : 0 ≤ (zs.take k).sum := by
  have := sum_ge (m := zs.take k) (fun x hx => (h.1 x hx).1)
  omega


end Go.Proofs.Ytgmhdmhnedljcaa.Rhy

/-
  Helpers of the claims beside this text: an append of a whole slice of integers.
-/
namespace Go.Proofs.Ytgmhdmhnedljcaa.Rhy
open Go.RowKit
set_option linter.unusedVariables false

/-- An append of no element: the slice is as it was. -/
theorem run_app_nil (ty : TypeId) (B : Nat) (v : Value) (n : Nat) (xs : List Value) (w : World) (hown : w.ownsRow B 3 1 v n xs) (c : Nat) :
    (Builtin.append_ #[22, 22] ty #[v, .slice none 0 c]).run Try.prog w = .ok v w := by
  obtain ⟨i0, hi, hz0, hz1, hz2⟩ := info_parts infoInt
  rcases hown.2 with ⟨rfl, rfl⟩ | ⟨g, cap, cur, rfl, _, _, hnc, _⟩
  · simp [Builtin.append_, run_underlying Try.underlying22, sizeOf, typeInfo, hi, Builtin.lenOf, Builtin.firstCells]
  · simp [Builtin.append_, run_underlying Try.underlying22, sizeOf, typeInfo, hi, Builtin.lenOf, Builtin.firstCells, hnc, storeCells]

set_option maxRecDepth 100000 in
/-- 'out = append(out, ys...)' at a slice of integers of the call's own. -/
theorem wp_app {o : Oper} {a : Act} {K : Act → World → Prop} {Q : Exit → Act → World → Prop} (x y : Operand)
    (ho : o.op = .call { callee := .builtin .append, args := #[x, y], argTypes := #[22, 22] })
    (B : Nat) (av : Option Addr) (cv : Nat) (l : List Int) (A : Option Addr) (m c : Nat) (ys : List Int) (w : World) (hown : w.ownsRow B 3 1 (.slice av l.length cv) l.length (ints l)) (hr : IntsAt w A m ys)
    (hl : l.length ≤ 1048577) (hm : m ≤ 1048577) (hB : B ≤ w.heap.size)
    (hs : a.eval x = .slice av l.length cv) (hx : a.eval y = .slice A m c)
    (h : ∀ a' c' w', w'.ownsRow B 3 1 (.slice a' (l ++ ys).length c') (l ++ ys).length (ints (l ++ ys)) → Below B w w' → K (a.put o.dst (.slice a' (l ++ ys).length c')) w') :
    o.wp Try.prog a w K Q := by
  obtain ⟨i0, hi, hz0, hz1, hz2⟩ := info_parts infoInt
  have hyl := hr.1
  cases A with
  | none =>
    have hm0 : m = 0 := by
      rcases Nat.eq_zero_or_pos m with h0 | h0
      · exact h0
      · obtain ⟨b, off, h, _⟩ := hr.2.2 h0
        cases h
    subst hm0
    have hy : ys = [] := List.eq_nil_of_length_eq_zero hyl
    subst hy
    have hrun := run_app_nil o.type B _ _ _ w hown c
    unfold Oper.wp execOp
    simp only [ho, resolve, invoke, builtin, Sem.run_bind, Sem.run_pure, Result.andThen_ok, List.map_toArray, List.map_cons, List.map_nil, hs, hx, hrun]
    have h1 := h av cv w (by simpa using hown) (Below.refl _ _)
    have h2 : K (a.put o.dst (.slice av l.length cv)) w := by simpa using h1
    exact h2
  | some ad =>
    have hcells : ∀ j u, (ints ys)[j]? = some u → w.cell? (ad.add j) = some u := by
      intro j u hu
      rcases Nat.eq_zero_or_pos m with h0 | h0
      · subst h0
        have hy : ys = [] := List.eq_nil_of_length_eq_zero hyl
        subst hy
        simp [ints] at hu
      · obtain ⟨b, off, h, _, hc⟩ := hr.2.2 h0
        injection h with h
        subst h
        unfold ints at hu
        rw [List.getElem?_map, Option.map_eq_some_iff] at hu
        obtain ⟨z, hz, rfl⟩ := hu
        rw [Go.WideShapes.add_plain]
        exact hc j z hz
    refine wp_append_own w x y 22 ho B 3 i0 (.int .i64 0) 1 8 Try.underlying22 hi hz0 hz1 hz2 rfl (by decide) _ l.length (ints l) hs hown ad m c (ints ys) hx (by simp [ints, hyl]) hcells ?_ ?_ ?_ hB ?_
    · intro u hu
      unfold ints at hu
      rw [List.mem_map] at hu
      obtain ⟨z, _, rfl⟩ := hu
      rfl
    · unfold maxLen; omega
    · omega
    · intro v' w' ho' hg _
      have ho2 : w'.ownsRow B 3 1 v' (l ++ ys).length (ints (l ++ ys)) := by
        rw [List.length_append, hyl]
        simpa [ints] using ho'
      obtain ⟨_, a', c', rfl, _⟩ := own_shape ho2
      exact h a' c' w' ho2 ((Below.refl B w).grown hg hB fun k hk => (hown.lt k hk).1)

theorem wpList_app {ops : Array Oper} {rest : List Oper} {o : Oper} {a : Act} {Q : Exit → Act → World → Prop} (hgd : o.guard = none) (x y : Operand)
    (ho : o.op = .call { callee := .builtin .append, args := #[x, y], argTypes := #[22, 22] })
    (B : Nat) (av : Option Addr) (cv : Nat) (l : List Int) (A : Option Addr) (m c : Nat) (ys : List Int) (w : World) (hown : w.ownsRow B 3 1 (.slice av l.length cv) l.length (ints l)) (hr : IntsAt w A m ys)
    (hl : l.length ≤ 1048577) (hm : m ≤ 1048577) (hB : B ≤ w.heap.size)
    (hs : a.eval x = .slice av l.length cv) (hx : a.eval y = .slice A m c)
    (h : ∀ a' c' w', w'.ownsRow B 3 1 (.slice a' (l ++ ys).length c') (l ++ ys).length (ints (l ++ ys)) → Below B w w' → wpList Try.prog ops Q rest (a.put o.dst (.slice a' (l ++ ys).length c')) w') :
    wpList Try.prog ops Q (o :: rest) a w :=
  wpList_plain hgd fun _ hK => wp_app x y ho B av cv l A m c ys w hown hr hl hm hB hs hx fun a' c' w' h1 h2 => hK _ _ (h a' c' w' h1 h2)

/-- The same with the length by another name. -/
theorem wpList_app_n {ops : Array Oper} {rest : List Oper} {o : Oper} {a : Act} {Q : Exit → Act → World → Prop} (hgd : o.guard = none) (x y : Operand)
    (ho : o.op = .call { callee := .builtin .append, args := #[x, y], argTypes := #[22, 22] })
    (B : Nat) (av : Option Addr) (cv : Nat) (l : List Int) (n : Nat) (hn : l.length = n) (A : Option Addr) (m c : Nat) (ys : List Int) (w : World) (hown : w.ownsRow B 3 1 (.slice av l.length cv) l.length (ints l)) (hr : IntsAt w A m ys)
    (hl : l.length ≤ 1048577) (hm : m ≤ 1048577) (hB : B ≤ w.heap.size)
    (hs : a.eval x = .slice av n cv) (hx : a.eval y = .slice A m c)
    (h : ∀ a' c' w', w'.ownsRow B 3 1 (.slice a' (l ++ ys).length c') (l ++ ys).length (ints (l ++ ys)) → Below B w w' → wpList Try.prog ops Q rest (a.put o.dst (.slice a' (l ++ ys).length c')) w') :
    wpList Try.prog ops Q (o :: rest) a w := by
  subst hn
  exact wpList_app hgd x y ho B av cv l A m c ys w hown hr hl hm hB hs hx h
end Go.Proofs.Ytgmhdmhnedljcaa.Rhy

/-
  Helpers of the claims beside this text: the model's sizes of steps and of spans.
-/
namespace Go.Proofs.Ytgmhdmhnedljcaa.Rhy
open Go.RowKit
set_option linter.unusedVariables false

theorem siz_old {n : Nat} {l : List Int} {x : Int} (h : x ∈ ofZ n l) : ofZ n (l ++ [x]) = ofZ n l := by
  refine ofZ_congr fun y => ?_
  have := (ofZ_mem.mp h).2
  simp only [List.mem_append, List.mem_singleton]
  constructor
  · rintro (q | rfl)
    · exact q
    · exact this
  · exact Or.inl
theorem siz_new {n : Nat} {l : List Int} {x : Int} {k : Nat} (hlo : ∀ j, j < k → ∀ y, (ofZ n l)[j]? = some y → y < x) (hhi : ∀ y, (ofZ n l)[k]? = some y → x < y) (hx : 0 ≤ x ∧ x < n) :
    ofZ n (l ++ [x]) = (ofZ n l).take k ++ [x] ++ (ofZ n l).drop k := by
  have hs := ofZ_sorted n l
  have ha : ∀ y ∈ (ofZ n l).take k, y < x := by
    intro y hy
    obtain ⟨j, hj⟩ := List.mem_iff_getElem?.mp hy
    rw [List.getElem?_take] at hj
    split at hj
    · exact hlo j (by assumption) y hj
    · cases hj
  have hb : ∀ y ∈ (ofZ n l).drop k, x < y := by
    intro y hy
    cases hq : (ofZ n l)[k]? with
    | none => rw [List.drop_eq_nil_of_le (by simpa using hq)] at hy; cases hy
    | some z =>
      have hz := hhi z hq
      have hd : (ofZ n l).drop k = z :: (ofZ n l).drop (k + 1) := by
        obtain ⟨hk, he⟩ := List.getElem?_eq_some_iff.mp hq
        rw [List.drop_eq_getElem_cons hk, he]
      have hsd : ((ofZ n l).drop k).Pairwise (· < ·) := hs.sublist (List.drop_sublist _ _)
      rw [hd] at hy hsd
      rcases List.mem_cons.mp hy with rfl | q
      · exact hz
      · have := (List.pairwise_cons.mp hsd).1 y q
        omega
  refine lt_uniq (ofZ_sorted n _) ?_ fun y => ?_
  · rw [List.append_assoc, List.pairwise_append]
    refine ⟨hs.sublist (List.take_sublist _ _), ?_, ?_⟩
    · rw [List.singleton_append, List.pairwise_cons]
      exact ⟨hb, hs.sublist (List.drop_sublist _ _)⟩
    · intro y hy z hz
      have := ha y hy
      rcases List.mem_append.mp hz with q | q
      · have : z = x := by simpa using q
        omega
      · have := hb z q
        omega
  · have hm : y ∈ ofZ n l ↔ y ∈ (ofZ n l).take k ∨ y ∈ (ofZ n l).drop k := by
      rw [← List.mem_append, List.take_append_drop]
    rw [ofZ_mem]
    simp only [List.mem_append, List.mem_singleton]
    rw [ofZ_mem] at hm
    constructor
    · rintro ⟨h1, h2 | rfl⟩
      · rcases hm.mp ⟨h1, h2⟩ with q | q
        · exact .inl (.inl q)
        · exact .inr q
      · exact .inl (.inr rfl)
    · rintro ((q | rfl) | q)
      · have := hm.mpr (.inl q); exact ⟨this.1, .inl this.2⟩
      · exact ⟨hx, .inr rfl⟩
      · have := hm.mpr (.inr q); exact ⟨this.1, .inl this.2⟩
theorem IntsAt.take {w : World} {a : Option Addr} {len : Nat} {zs : List Int} (h : IntsAt w a len zs) {k : Nat} (hk : k ≤ len) : IntsAt w a k (zs.take k) := by
  refine ⟨by rw [List.length_take, h.1]; omega, fun z hz => h.2.1 z (List.mem_of_mem_take hz), fun hp => ?_⟩
  obtain ⟨b, off, e, hlt, hc⟩ := h.2.2 (by omega)
  refine ⟨b, off, e, hlt, fun j z hj => hc j z ?_⟩
  rw [List.getElem?_take] at hj
  split at hj
  · exact hj
  · cases hj
theorem IntsAt.drop {w : World} {b off : Nat} {len : Nat} {zs : List Int} (h : IntsAt w (some ⟨b, off, none⟩) len zs) {k : Nat} (hk : k ≤ len) : IntsAt w (some ⟨b, off + k, none⟩) (len - k) (zs.drop k) := by
  refine ⟨by rw [List.length_drop, h.1], fun z hz => h.2.1 z (List.mem_of_mem_drop hz), fun hp => ?_⟩
  obtain ⟨b', off', e, hlt, hc⟩ := h.2.2 (by omega)
  obtain ⟨rfl, rfl⟩ : b = b' ∧ off = off' := by simpa using e
  refine ⟨b, off + k, rfl, hlt, fun j z hj => ?_⟩
  rw [Nat.add_assoc]
  exact hc (k + j) z (by rw [← hj, List.getElem?_drop])


end Go.Proofs.Ytgmhdmhnedljcaa.Rhy

/-
  Helpers of the claims beside this text: the model's StepSizes and SpanSizes.
-/
namespace Go.Proofs.Ytgmhdmhnedljcaa.Rhy
open Go.RowKit
set_option linter.unusedVariables false

noncomputable def sizeB (s : Int) (zs : List Int) : List Int := ofZ 25 (stB s zs)
theorem sizeB_int (s : Int) (zs : List Int) : AllInt (sizeB s zs) := ofZ_int (by omega)


def spansL (l : List Int) (k n : Nat) : List Int := (List.range n).map fun i => spanL l i k
theorem spansL_len (l : List Int) (k n : Nat) : (spansL l k n).length = n := by simp [spansL]
theorem spansL_snoc (l : List Int) (k n : Nat) : spansL l k (n + 1) = spansL l k n ++ [spanL l n k] := by simp [spansL, List.range_succ]
theorem spansL_bd {l : List Int} (h : ∀ x ∈ l, 1 ≤ x ∧ x ≤ 24) {k n : Nat} (hk : k ≤ 24) : ∀ x ∈ spansL l k n, 0 ≤ x ∧ x < (577 : Nat) := by
  intro x hx
  unfold spansL at hx
  rw [List.mem_map] at hx
  obtain ⟨i, _, rfl⟩ := hx
  have := spanL_bd h i k
  omega
/-- What both answer. -/
noncomputable def spansB (s : Int) (zs : List Int) (k : Int) : List Int := cZ (0 < (stB s zs).length ∧ 0 ≤ k ∧ k ≤ (stB s zs).length) (ofZ 577 (spansL (stB s zs) k.toNat (stB s zs).length))
theorem spansB_int (s : Int) (zs : List Int) (k : Int) : AllInt (spansB s zs k) := cZ_int (ofZ_int (by omega))


end Go.Proofs.Ytgmhdmhnedljcaa.Rhy
