/-
  Helpers of the claims beside this text: even rhythms: EvenRhythm, ShiftedEven, CountEven of the model.
-/
import Derived.Test.YtgmhdmhnedljcaaRot
import Derived.Test.YtgmhdmhnedljcaaVec
import Derived.Test.YtgmhdmhnedljcaaStp
import Derived.Test.YtgmhdmhnedljcaaFrm
import Derived.Test.YtgmhdmhnedljcaaIvl
namespace Go.Proofs.Ytgmhdmhnedljcaa.Rhy
open Go.RowKit
set_option linter.unusedVariables false
set_option linter.unusedSimpArgs false

def EvC (k n : Int) : Prop := 1 ≤ n ∧ n ≤ 24 ∧ 0 ≤ k ∧ k ≤ n
def EvM (k n m : Int) : Prop := EvC k n ∧ 0 ≤ m ∧ m < n ∧ ¬ (k = 0 ∧ 0 < m)
/-- The i-th beat. -/
def evT (k n m : Int) (i : Nat) : Int := ((i : Int) * n + m) / k
def evP (k n m : Int) (j : Nat) : List Int := (List.range j).map fun i => evT k n m i
def evZ (k n m : Int) : List Int := ofZ n.toNat (evP k n m k.toNat)
theorem evP_len (k n m : Int) (j : Nat) : (evP k n m j).length = j := by simp [evP]
theorem evP_snoc (k n m : Int) (j : Nat) : evP k n m (j + 1) = evP k n m j ++ [evT k n m j] := by simp [evP, List.range_succ]
theorem evT_bd {k n m : Int} {i : Nat} (h : EvC k n) (hm : 0 ≤ m ∧ m ≤ 24) (hi : (i : Int) < k) : 0 ≤ evT k n m i ∧ evT k n m i ≤ 600 ∧ 0 ≤ (i : Int) * n ∧ (i : Int) * n ≤ 576 := by
  have h1 : 0 ≤ (i : Int) * n := Int.mul_nonneg (by omega) (by have := h.1; omega)
  have h2 : (i : Int) * n ≤ 24 * 24 := Int.mul_le_mul (by have := h.2.2.2; have := h.2.1; omega) h.2.1 (by have := h.1; omega) (by omega)
  unfold evT
  have h3 : 0 ≤ ((i : Int) * n + m) / k := Int.ediv_nonneg (by omega) (by omega)
  have h4 : ((i : Int) * n + m) / k ≤ (i : Int) * n + m := Int.ediv_le_self _ (by omega)
  omega
theorem evP_int {k n m : Int} {j : Nat} (h : EvC k n) (hm : 0 ≤ m ∧ m ≤ 24) (hj : (j : Int) ≤ k) : AllInt (evP k n m j) := by
  intro z hz
  unfold evP at hz
  rw [List.mem_map] at hz
  obtain ⟨i, hi, rfl⟩ := hz
  have := List.mem_range.1 hi
  have := evT_bd (i := i) h hm (by omega)
  omega



def EvAt (g j : Nat) (k n m : Int) (v : Value) (w wr : World) : Prop :=
  ∃ av cv, v = .slice av (evP k n m j).length cv ∧ Box wr g (.int .i64 0) (.slice none 0 0) 28 ∧
    wr.ownsRow (g + 1) 3 1 (.slice av (evP k n m j).length cv) (evP k n m j).length (ints (evP k n m j)) ∧ Below g w wr ∧ g + 1 ≤ wr.heap.size




theorem evZ_ok {k n m : Int} (h : EvC k n) : Ok n (evZ k n m) := by
  refine ok_of h.1 h.2.1 (ofZ_sorted _ _) fun z hz => ?_
  have := (ofZ_mem.1 hz).1
  have := h.1
  omega
theorem ok_int' {n : Int} {zs : List Int} (h : Ok n zs) : AllInt zs := fun z hz => by have := ok_range h z hz; have := h.1; omega
theorem ok_size {s : Int} {zs : List Int} (h : Ok s zs) : (zs.length : Int) ≤ s := by
  have h1 := h.1
  have e := ofZ_self (n := s.toNat) (ok_sorted h) (fun x hx => by have := ok_range h x hx; omega)
  have := ofZ_len s.toNat zs
  rw [e] at this
  omega

open Classical in
noncomputable def cevB (k n : Int) : Int := if EvC k n then ((n.toNat / Nat.gcd k.toNat n.toNat : Nat) : Int) else -1

end Go.Proofs.Ytgmhdmhnedljcaa.Rhy

/-
  Helpers of the claims beside this text: SpreadOf, MostSpread of the model.
-/
namespace Go.Proofs.Ytgmhdmhnedljcaa.Rhy
open Go.RowKit
set_option linter.unusedVariables false
set_option linter.unusedSimpArgs false

/-- The sum over the pairs of a beat p and the beats of l. -/
def sprR (s p : Int) (l : List Int) : Int := (l.map fun q => (p - q) * (s - p + q)).sum
def sprP (s : Int) (zs : List Int) (j : Nat) : Int := ((List.range j).map fun i => sprR s (zs[i]?.getD 0) (zs.take i)).sum
open Classical in
noncomputable def sprB (s : Int) (zs : List Int) : Int := if Ok s zs then sprP s zs zs.length else -1
theorem sprB_yes {s : Int} {zs : List Int} (h : Ok s zs) : sprB s zs = sprP s zs zs.length := if_pos h
theorem sprB_no {s : Int} {zs : List Int} (h : ¬ Ok s zs) : sprB s zs = -1 := if_neg h
theorem sprR_snoc {s p q : Int} {l : List Int} {k : Nat} (h : l[k]? = some q) : sprR s p (l.take (k + 1)) = sprR s p (l.take k) + (p - q) * (s - p + q) := by
  unfold sprR
  rw [List.take_add_one, h]
  simp
theorem sprP_snoc {s : Int} {zs : List Int} {j : Nat} {p : Int} (h : zs[j]? = some p) : sprP s zs (j + 1) = sprP s zs j + sprR s p (zs.take j) := by
  unfold sprP
  rw [List.range_succ, List.map_append, List.sum_append]
  simp [h]
theorem spr_term {s p q : Int} (hs : 1 ≤ s ∧ s ≤ 24) (hp : 0 ≤ p ∧ p < s) (hq : 0 ≤ q ∧ q < s) : -1200 ≤ (p - q) * (s - p + q) ∧ (p - q) * (s - p + q) ≤ 1200 := by
  have h : ((p - q) * (s - p + q)).natAbs ≤ 24 * 48 := by
    rw [Int.natAbs_mul]
    exact Nat.mul_le_mul (by omega) (by omega)
  omega
theorem sprR_bd {s p : Int} (hs : 1 ≤ s ∧ s ≤ 24) (hp : 0 ≤ p ∧ p < s) : ∀ l : List Int, (∀ q ∈ l, 0 ≤ q ∧ q < s) → -1200 * (l.length : Int) ≤ sprR s p l ∧ sprR s p l ≤ 1200 * (l.length : Int) := by
  intro l
  induction l with
  | nil => intro _; simp [sprR]
  | cons q l ih =>
    intro h
    have h1 := ih (fun x hx => h x (List.mem_cons_of_mem _ hx))
    have h2 := spr_term hs hp (h q (by simp))
    have e : sprR s p (q :: l) = (p - q) * (s - p + q) + sprR s p l := by simp [sprR]
    rw [e]
    simp only [List.length_cons]
    omega
theorem take_mem {l : List Int} {k : Nat} {x : Int} (h : x ∈ l.take k) : x ∈ l := List.mem_of_mem_take h
theorem ok_beat {s : Int} {zs : List Int} (h : Ok s zs) : ∀ q ∈ zs, 0 ≤ q ∧ q < s := fun q hq => ok_range h q hq
theorem sprR_at {s p : Int} {zs : List Int} (h : Ok s zs) (hp : 0 ≤ p ∧ p < s) (k : Nat) : -30000 ≤ sprR s p (zs.take k) ∧ sprR s p (zs.take k) ≤ 30000 := by
  have h1 := sprR_bd (by have := h.1; omega) hp (zs.take k) (fun q hq => ok_beat h q (take_mem hq))
  have h2 : (zs.take k).length ≤ 24 := Nat.le_trans (List.length_take_le' _ _) (ok_len h)
  omega
theorem sprP_bd {s : Int} {zs : List Int} (h : Ok s zs) : ∀ j, j ≤ zs.length → -30000 * (j : Int) ≤ sprP s zs j ∧ sprP s zs j ≤ 30000 * (j : Int) := by
  intro j
  induction j with
  | zero => intro _; simp [sprP]
  | succ j ih =>
    intro hj
    have e := List.getElem?_eq_getElem (show j < zs.length by omega)
    have h1 := ih (by omega)
    have h2 := sprR_at h (ok_beat h _ (List.getElem_mem (show j < zs.length by omega))) j
    rw [sprP_snoc e]
    omega


/-! the greatest spread -/
theorem evZ_int {k n m : Int} (h : EvC k n) : AllInt (evZ k n m) := ofZ_int (by have := h.2.1; omega)
open Classical in
noncomputable def mostB (k n : Int) : Int := if EvC k n then sprB n (evZ k n 0) else -1

end Go.Proofs.Ytgmhdmhnedljcaa.Rhy

/-
  Helpers of the claims beside this text: IsEven of the model.
-/
namespace Go.Proofs.Ytgmhdmhnedljcaa.Rhy
open Go.RowKit
set_option linter.unusedVariables false
set_option linter.unusedSimpArgs false

/-- The last number of a list without the first one. -/
def evnD (l : List Int) : Int := l[l.length - 1]?.getD 0 - l[0]?.getD 0
def evnK (s : Int) (zs : List Int) (k : Nat) : Prop := evnD (spansB s zs k) ≤ 1
def evnC (s : Int) (zs : List Int) : Prop := Ok s zs ∧ ∀ k : Nat, 1 ≤ k → k < zs.length → evnK s zs k
noncomputable def evnB (s : Int) (zs : List Int) : Bool := @decide (evnC s zs) (Classical.propDecidable _)
theorem evnB_yes {s : Int} {zs : List Int} (h : evnC s zs) : evnB s zs = true := by simp [evnB, h]
theorem evnB_no {s : Int} {zs : List Int} (h : ¬ evnC s zs) : evnB s zs = false := by simp [evnB, h]
theorem stB_length {s : Int} {zs : List Int} (h : Ok s zs) : (stB s zs).length = zs.length := by rw [stB_yes h]; exact stepsP_len _ _ _
theorem spansB_eq {s : Int} {zs : List Int} {k : Nat} (h : Ok s zs) (h0 : 0 < zs.length) (hk : k ≤ zs.length) : spansB s zs k = ofZ 577 (spansL (stB s zs) k zs.length) := by
  unfold spansB
  rw [stB_length h, cZ_yes ⟨h0, by omega, by omega⟩]
  rfl
theorem spansB_bd {s : Int} {zs : List Int} {k : Nat} (h : Ok s zs) (h0 : 0 < zs.length) (hk : k ≤ zs.length) : ∀ x ∈ spansB s zs k, 0 ≤ x ∧ x < 577 := by
  intro x hx
  rw [spansB_eq h h0 hk] at hx
  have := (ofZ_mem.1 hx).1
  omega
theorem spansB_ne {s : Int} {zs : List Int} {k : Nat} (h : Ok s zs) (h0 : 0 < zs.length) (hk : k ≤ zs.length) : 0 < (spansB s zs k).length := by
  rw [spansB_eq h h0 hk]
  have hm : spanL (stB s zs) 0 k ∈ spansL (stB s zs) k zs.length := List.mem_map.2 ⟨0, List.mem_range.2 h0, rfl⟩
  have hb := spansL_bd (stB_bd s zs) (k := k) (n := zs.length) (by have := ok_len h; omega) _ hm
  exact List.length_pos_of_mem (ofZ_mem.2 ⟨by omega, hm⟩)
theorem spansB_len {s : Int} {zs : List Int} {k : Nat} (h : Ok s zs) (h0 : 0 < zs.length) (hk : k ≤ zs.length) : (spansB s zs k).length ≤ 577 := by
  rw [spansB_eq h h0 hk]; exact ofZ_len _ _


end Go.Proofs.Ytgmhdmhnedljcaa.Rhy

/-
  Helpers of the claims beside this text: plain mathematics of even rhythms: their beats, their period; the spans of a rhythm, summed up and told by steps.
-/
namespace Go.Proofs.Ytgmhdmhnedljcaa.Rhy
set_option linter.unusedVariables false

/-! sums over the first numbers -/
def sumN (f : Nat → Int) : Nat → Int
  | 0 => 0
  | n + 1 => sumN f n + f n
theorem sumN_add (f : Nat → Int) (a : Nat) : ∀ b, sumN f (a + b) = sumN f a + sumN (fun j => f (a + j)) b
  | 0 => by simp [sumN]
  | b + 1 => by
    rw [← Nat.add_assoc]
    simp only [sumN]
    rw [sumN_add f a b]
    omega
theorem sumN_congr {f g : Nat → Int} : ∀ n, (∀ i, i < n → f i = g i) → sumN f n = sumN g n
  | 0, _ => rfl
  | n + 1, h => by
    simp only [sumN]
    rw [sumN_congr n (fun i hi => h i (by omega)), h n (by omega)]
theorem sumN_plus (f g : Nat → Int) : ∀ n, sumN (fun i => f i + g i) n = sumN f n + sumN g n
  | 0 => rfl
  | n + 1 => by
    simp only [sumN]
    rw [sumN_plus f g n]
    omega
theorem sumN_zero : ∀ n, sumN (fun _ => 0) n = 0
  | 0 => rfl
  | n + 1 => by simp only [sumN]; rw [sumN_zero n]; rfl
theorem sumN_swap (g : Nat → Nat → Int) (c : Nat) : ∀ d, sumN (fun k => sumN (g k) c) d = sumN (fun i => sumN (fun k => g k i) d) c
  | 0 => by simp only [sumN]; rw [sumN_zero]
  | d + 1 => by
    simp only [sumN]
    rw [sumN_swap g c d, ← sumN_plus]
theorem sumN_turn (h : Nat → Int) {c i : Nat} (hi : i < c) : sumN (fun k => h ((i + k) % c)) c = sumN h c := by
  have e1 := sumN_add (fun k => h ((i + k) % c)) (c - i) i
  have e2 := sumN_add h i (c - i)
  rw [show c - i + i = c by omega] at e1
  rw [show i + (c - i) = c by omega] at e2
  rw [e1, e2]
  rw [sumN_congr (f := fun k => h ((i + k) % c)) (g := fun j => h (i + j)) (c - i) (fun k hk => by rw [Nat.mod_eq_of_lt (by omega)]),
    sumN_congr (f := fun j => h ((i + (c - i + j)) % c)) (g := h) i (fun j hj => by rw [show i + (c - i + j) = j + c by omega, Nat.add_mod_right, Nat.mod_eq_of_lt (by omega)])]
  omega
theorem sumN_bd {f : Nat → Int} {B : Int} : ∀ n, (∀ i, i < n → 0 ≤ f i ∧ f i ≤ B) → 0 ≤ sumN f n ∧ sumN f n ≤ B * n
  | 0, _ => by simp [sumN]
  | n + 1, h => by
    have h1 := sumN_bd n (fun i hi => h i (by omega))
    have h2 := h n (by omega)
    simp only [sumN]
    rw [show B * ((n + 1 : Nat) : Int) = B * n + B by rw [Int.natCast_add, Int.mul_add]; simp]
    omega
/-- A square of numbers that is the same across, and zero on its diagonal. -/
theorem sumN_square {g : Nat → Nat → Int} : ∀ c, (∀ i j, i < c → j < c → g i j = g j i) → (∀ i, i < c → g i i = 0) → sumN (fun i => sumN (g i) c) c = 2 * sumN (fun i => sumN (g i) i) c
  | 0, _, _ => rfl
  | c + 1, hs, hd => by
    have ih := sumN_square c (fun i j hi hj => hs i j (by omega) (by omega)) (fun i hi => hd i (by omega))
    simp only [sumN]
    rw [sumN_plus, ih, sumN_congr (f := fun i => g i c) (g := g c) c (fun i hi => hs i c (by omega) (by omega)), hd c (by omega)]
    omega

/-! the spans of a rhythm -/
/-- From the i-th beat k beats on, around. -/
def spnD (s : Int) (zs : List Int) (k i : Nat) : Int := (zs[(i + k) % zs.length]?.getD 0 - zs[i]?.getD 0) % s
def difD (s : Int) (zs : List Int) (i j : Nat) : Int := (zs[j]?.getD 0 - zs[i]?.getD 0) % s
theorem spnD_bd {s : Int} (h : 1 ≤ s) (zs : List Int) (k i : Nat) : 0 ≤ spnD s zs k i ∧ spnD s zs k i < s := ⟨Int.emod_nonneg _ (by omega), Int.emod_lt_of_pos _ (by omega)⟩
theorem prod_bd {s d : Int} (h : s ≤ 24) (hd : 0 ≤ d ∧ d < s) : 0 ≤ d * (s - d) ∧ d * (s - d) ≤ 576 := by
  have h1 : 0 ≤ d * (s - d) := Int.mul_nonneg hd.1 (by omega)
  have h2 : d * (s - d) ≤ 24 * 24 := Int.mul_le_mul (by omega) (by omega) (by omega) (by omega)
  omega
theorem neg_mod {s x : Int} (h : 1 ≤ s) (hx : -s < x ∧ x < s) (h0 : x ≠ 0) : (-x) % s = s - x % s := by
  by_cases hp : 0 < x
  · rw [Int.emod_eq_of_lt (a := x) (by omega) (by omega), ← Int.add_emod_right, Int.emod_eq_of_lt (by omega) (by omega)]; omega
  · rw [Int.emod_eq_of_lt (a := -x) (by omega) (by omega), ← Int.add_emod_right (a := x), Int.emod_eq_of_lt (by omega) (by omega)]; omega
theorem beat_bd {s : Int} {zs : List Int} (h : Ok s zs) {i : Nat} (hi : i < zs.length) : 0 ≤ zs[i]?.getD 0 ∧ zs[i]?.getD 0 < s := by
  have e := List.getElem?_eq_getElem hi
  rw [e]
  exact ok_range h _ (List.getElem_mem hi)
theorem beat_lt {s : Int} {zs : List Int} (h : Ok s zs) {i j : Nat} (hi : i < zs.length) (hj : j < i) : zs[j]?.getD 0 < zs[i]?.getD 0 := by
  rw [List.getElem?_eq_getElem hi, List.getElem?_eq_getElem (show j < zs.length by omega)]
  have := ok_lt h i j (by omega) hi hj
  simpa using this
def prodD (s : Int) (zs : List Int) (i j : Nat) : Int := difD s zs i j * (s - difD s zs i j)
theorem prodD_diag (s : Int) (zs : List Int) (i : Nat) : prodD s zs i i = 0 := by unfold prodD difD; rw [Int.sub_self, Int.zero_emod, Int.zero_mul]
theorem prodD_symm {s : Int} {zs : List Int} (h : Ok s zs) {i j : Nat} (hi : i < zs.length) (hj : j < zs.length) : prodD s zs i j = prodD s zs j i := by
  have bi := beat_bd h hi
  have bj := beat_bd h hj
  have hs := h.1.1
  unfold prodD difD
  obtain ⟨x, hx⟩ : ∃ x, zs[j]?.getD 0 - zs[i]?.getD 0 = x := ⟨_, rfl⟩
  rw [show zs[i]?.getD 0 - zs[j]?.getD 0 = -x by omega, hx]
  by_cases h0 : x = 0
  · rw [h0]; rfl
  · rw [neg_mod hs (by omega) h0, show s - (s - x % s) = x % s by omega, Int.mul_comm]
theorem prodD_lt {s : Int} {zs : List Int} (h : Ok s zs) {i j : Nat} (hi : i < zs.length) (hj : j < i) : prodD s zs i j = (zs[i]?.getD 0 - zs[j]?.getD 0) * (s - zs[i]?.getD 0 + zs[j]?.getD 0) := by
  rw [prodD_symm h hi (by omega)]
  have bi := beat_bd h hi
  have bj := beat_bd h (show j < zs.length by omega)
  have hl := beat_lt h hi hj
  unfold prodD difD
  rw [Int.emod_eq_of_lt (by omega) (by omega), show s - (zs[i]?.getD 0 - zs[j]?.getD 0) = s - zs[i]?.getD 0 + zs[j]?.getD 0 by omega]
theorem sprR_sum {s p : Int} {zs : List Int} : ∀ k, k ≤ zs.length → sprR s p (zs.take k) = sumN (fun j => (p - zs[j]?.getD 0) * (s - p + zs[j]?.getD 0)) k
  | 0, _ => rfl
  | k + 1, h => by
    have e := List.getElem?_eq_getElem (show k < zs.length by omega)
    rw [sprR_snoc e, sprR_sum k (by omega)]
    simp only [sumN]
    rw [e]
    rfl
theorem sprP_sum {s : Int} {zs : List Int} : ∀ k, k ≤ zs.length → sprP s zs k = sumN (fun i => sumN (fun j => (zs[i]?.getD 0 - zs[j]?.getD 0) * (s - zs[i]?.getD 0 + zs[j]?.getD 0)) i) k
  | 0, _ => rfl
  | k + 1, h => by
    have e := List.getElem?_eq_getElem (show k < zs.length by omega)
    rw [sprP_snoc e, sprP_sum k (by omega), sprR_sum k (by omega)]
    simp only [sumN]
    rw [e]
    rfl
/-- The sum over a row of spans, and over all of them. -/
def rowS (s : Int) (zs : List Int) (k : Nat) : Int := sumN (fun i => spnD s zs k i * (s - spnD s zs k i)) zs.length
def allS (s : Int) (zs : List Int) : Int := sumN (rowS s zs) zs.length
theorem allS_two {s : Int} {zs : List Int} (h : Ok s zs) : allS s zs = 2 * sprP s zs zs.length := by
  unfold allS
  have e1 : sumN (rowS s zs) zs.length = sumN (fun i => sumN (prodD s zs i) zs.length) zs.length := by
    show sumN (fun k => sumN (fun i => spnD s zs k i * (s - spnD s zs k i)) zs.length) zs.length = _
    rw [sumN_swap]
    refine sumN_congr _ (fun i hi => ?_)
    exact sumN_turn (prodD s zs i) hi
  rw [e1, sumN_square zs.length (fun i j hi hj => prodD_symm h hi hj) (fun i _ => prodD_diag s zs i), sprP_sum _ (Nat.le_refl _)]
  congr 1
  refine sumN_congr _ (fun i hi => ?_)
  exact sumN_congr _ (fun j hj => prodD_lt h hi hj)
theorem rowS_bd {s : Int} {zs : List Int} (h : Ok s zs) (k : Nat) : ∀ j, j ≤ 24 → 0 ≤ sumN (fun i => spnD s zs k i * (s - spnD s zs k i)) j ∧ sumN (fun i => spnD s zs k i * (s - spnD s zs k i)) j ≤ 13824 := by
  intro j hj
  have := sumN_bd (f := fun i => spnD s zs k i * (s - spnD s zs k i)) (B := 576) j (fun i _ => prod_bd h.1.2 (spnD_bd h.1.1 zs k i))
  omega
theorem allS_bd {s : Int} {zs : List Int} (h : Ok s zs) : ∀ j, j ≤ 24 → 0 ≤ sumN (rowS s zs) j ∧ sumN (rowS s zs) j ≤ 331776 := by
  intro j hj
  have := sumN_bd (f := rowS s zs) (B := 13824) j (fun i _ => rowS_bd h i _ (ok_len h))
  omega

/-! spans by steps, and by the difference of two beats -/
theorem spanL_dif {s : Int} {zs : List Int} (h : Ok s zs) {i : Nat} (hi : i < zs.length) : ∀ k, k < zs.length → spanL (stepsZ s zs) i k = zs[(i + k) % zs.length]?.getD 0 - zs[i]?.getD 0 + (if zs.length ≤ i + k then s else 0) := by
  have hc : (stepsZ s zs).length = zs.length := stepsP_len _ _ _
  intro k
  induction k with
  | zero =>
    intro _
    rw [Nat.add_zero, Nat.mod_eq_of_lt hi, if_neg (by omega)]
    simp [spanL]
  | succ k ih =>
    intro hk
    have h1 := ih (by omega)
    simp only [spanL]
    rw [h1, hc]
    obtain ⟨p, hp⟩ : ∃ p, (i + k) % zs.length = p := ⟨_, rfl⟩
    have hpl : p < zs.length := by rw [← hp]; exact Nat.mod_lt _ (by omega)
    have hst : (stepsZ s zs).getD p 0 = stepAt s zs p := by
      unfold stepsZ stepsP
      rw [List.getD_eq_getElem?_getD, List.getElem?_map, List.getElem?_range hpl]
      rfl
    rw [hp, hst]
    unfold stepAt
    by_cases hlt : i + k + 1 < zs.length
    · have e1 : p = i + k := by rw [← hp, Nat.mod_eq_of_lt (by omega)]
      rw [if_neg (by omega), if_neg (by omega), show i + (k + 1) = i + k + 1 by omega, Nat.mod_eq_of_lt hlt, e1]
      rw [List.getElem?_eq_getElem hlt]
      simp only [Option.getD_some]
      omega
    · by_cases heq : i + k + 1 = zs.length
      · have e1 : p = i + k := by rw [← hp, Nat.mod_eq_of_lt (by omega)]
        rw [if_neg (by omega), if_pos (by omega), show i + (k + 1) = zs.length by omega, Nat.mod_self, e1, List.getElem?_eq_none (by omega : zs.length ≤ i + k + 1)]
        simp only [Option.getD_none]
        omega
      · have e1 : p = i + k - zs.length := by rw [← hp, Nat.mod_eq_sub_mod (by omega), Nat.mod_eq_of_lt (by omega)]
        rw [if_pos (by omega), if_pos (by omega), Nat.mod_eq_sub_mod (by omega : zs.length ≤ i + (k + 1)), Nat.mod_eq_of_lt (by omega), show i + (k + 1) - zs.length = p + 1 by omega]
        rw [List.getElem?_eq_getElem (show p + 1 < zs.length by omega)]
        simp only [Option.getD_some]
        omega
theorem spanL_spn {s : Int} {zs : List Int} (h : Ok s zs) {i k : Nat} (hi : i < zs.length) (hk : k < zs.length) : spanL (stepsZ s zs) i k = spnD s zs k i := by
  rw [spanL_dif h hi k hk]
  unfold spnD
  have hs := h.1.1
  have bi := beat_bd h hi
  by_cases hlt : zs.length ≤ i + k
  · rw [if_pos hlt, Nat.mod_eq_sub_mod hlt, Nat.mod_eq_of_lt (by omega)]
    have bj := beat_bd h (show i + k - zs.length < zs.length by omega)
    have hl := beat_lt h hi (show i + k - zs.length < i by omega)
    rw [← Int.add_emod_right, Int.emod_eq_of_lt (by omega) (by omega)]
  · rw [if_neg hlt, Nat.mod_eq_of_lt (by omega)]
    have bj := beat_bd h (show i + k < zs.length by omega)
    by_cases h0 : k = 0
    · subst h0
      rw [Nat.add_zero, Int.sub_self, Int.zero_emod]
      rfl
    · have hl := beat_lt h (show i + k < zs.length by omega) (show i < i + k by omega)
      rw [Int.emod_eq_of_lt (by omega) (by omega)]
      omega
def spnR (s : Int) (zs : List Int) (k : Nat) : List Int := (List.range zs.length).map fun i => spnD s zs k i
theorem spansL_spn {s : Int} {zs : List Int} (h : Ok s zs) {k : Nat} (hk : k < zs.length) : spansL (stepsZ s zs) k zs.length = spnR s zs k := by
  unfold spansL spnR
  refine List.map_congr_left fun i hi => ?_
  exact spanL_spn h (List.mem_range.1 hi) hk
/-- The last number of a sorted list without the first one: the greatest without the least. -/
theorem evnD_of {l : List Int} {a b : Int} {n : Nat} (hb : ∀ x ∈ l, 0 ≤ x ∧ x < n) (ha : a ∈ l) (hal : ∀ x ∈ l, a ≤ x) (hbm : b ∈ l) (hbl : ∀ x ∈ l, x ≤ b) : evnD (ofZ n l) = b - a := by
  have hs := ofZ_sorted n l
  have ma : a ∈ ofZ n l := ofZ_mem.2 ⟨hb a ha, ha⟩
  have mb : b ∈ ofZ n l := ofZ_mem.2 ⟨hb b hbm, hbm⟩
  have hall : ∀ x ∈ ofZ n l, a ≤ x ∧ x ≤ b := fun x hx => ⟨hal x (ofZ_mem.1 hx).2, hbl x (ofZ_mem.1 hx).2⟩
  obtain ⟨S, hS⟩ : ∃ S, ofZ n l = S := ⟨_, rfl⟩
  rw [hS] at hs ma mb hall ⊢
  unfold evnD
  have hlen : 0 < S.length := List.length_pos_of_mem ma
  rw [List.pairwise_iff_getElem] at hs
  obtain ⟨i, hi, ei⟩ := List.getElem_of_mem ma
  obtain ⟨j, hj, ej⟩ := List.getElem_of_mem mb
  have h0 := hall _ (List.getElem_mem hlen)
  have h1 := hall _ (List.getElem_mem (show S.length - 1 < S.length by omega))
  have e0 : S[0] = a := by
    rcases Nat.eq_zero_or_pos i with q | q
    · subst q; exact ei
    · have := hs 0 i hlen hi q; omega
  have e1 : S[S.length - 1] = b := by
    by_cases q : j = S.length - 1
    · subst q; exact ej
    · have := hs j (S.length - 1) hj (by omega) (by omega); omega
  rw [List.getElem?_eq_getElem hlen, List.getElem?_eq_getElem (show S.length - 1 < S.length by omega)]
  simp only [Option.getD_some]
  omega
/-! the even rhythm's beats ascend -/
theorem evT_lt {k n m : Int} (h : EvC k n) (h0 : 0 < k) {i j : Nat} (hij : i < j) : evT k n m i < evT k n m j := by
  unfold evT
  have hn : k ≤ n := h.2.2.2
  have h1 : ((i : Int) * n + m) + k ≤ (j : Int) * n + m := by
    have : ((i : Int) + 1) * n ≤ (j : Int) * n := Int.mul_le_mul_of_nonneg_right (by omega) (by omega)
    have e : ((i : Int) + 1) * n = (i : Int) * n + n := by rw [Int.add_mul, Int.one_mul]
    omega
  have h2 := Int.ediv_le_ediv h0 h1
  rw [Int.add_ediv_of_dvd_right (Int.dvd_refl k), Int.ediv_self (by omega)] at h2
  omega
theorem evT_in {k n m : Int} (h : EvC k n) (hm : 0 ≤ m ∧ m < n) {i : Nat} (hi : (i : Int) < k) : 0 ≤ evT k n m i ∧ evT k n m i < n := by
  have hn := h.1
  have h1 : 0 ≤ (i : Int) * n := Int.mul_nonneg (by omega) (by omega)
  have h2 : (i : Int) * n ≤ (k - 1) * n := Int.mul_le_mul_of_nonneg_right (by omega) (by omega)
  have e : (k - 1) * n = n * k - n := by rw [Int.sub_mul, Int.one_mul, Int.mul_comm]
  unfold evT
  exact ⟨Int.ediv_nonneg (by omega) (by omega), Int.ediv_lt_of_lt_mul (by omega) (by omega)⟩
theorem evP_sorted {k n m : Int} (h : EvC k n) (h0 : 0 < k) (j : Nat) : (evP k n m j).Pairwise (· < ·) := by
  unfold evP
  rw [List.pairwise_map]
  exact List.pairwise_lt_range.imp (fun hij => evT_lt h h0 hij)
theorem evZ_evP {k n m : Int} (h : EvC k n) (hm : 0 ≤ m ∧ m < n) : evZ k n m = evP k n m k.toNat := by
  unfold evZ
  by_cases h0 : k = 0
  · subst h0; rw [show (0 : Int).toNat = 0 from rfl]; exact ofZ_self (by simp [evP]) (by simp [evP])
  · have hk := h.2.2.1
    refine ofZ_self (evP_sorted h (by omega) _) (fun x hx => ?_)
    unfold evP at hx
    rw [List.mem_map] at hx
    obtain ⟨i, hi, rfl⟩ := hx
    have := List.mem_range.1 hi
    have := evT_in (i := i) h hm (by omega)
    have := h.1
    omega
theorem evZ_len {k n m : Int} (h : EvC k n) (hm : 0 ≤ m ∧ m < n) : ((evZ k n m).length : Int) = k := by
  rw [evZ_evP h hm, evP_len]
  have := h.2.2.1
  omega

/-! its period -/
def perT (k n : Nat) : Bool := decide (perZ n (evZ k n 0) = n / Nat.gcd k n)
def perAll : Bool := (List.range 24).all fun j => (List.range (j + 2)).all fun k => perT k (j + 1)
set_option maxRecDepth 1000000 in
theorem perAll_yes : perAll = true := by decide +kernel
theorem per_even {k n : Int} (h : EvC k n) : perZ n (evZ k n 0) = n.toNat / Nat.gcd k.toNat n.toNat := by
  obtain ⟨h1, h2, h3, h4⟩ := h
  obtain ⟨K, rfl⟩ : ∃ K : Nat, k = K := ⟨k.toNat, by omega⟩
  obtain ⟨N, rfl⟩ : ∃ N : Nat, n = N := ⟨n.toNat, by omega⟩
  have e := perAll_yes
  unfold perAll at e
  rw [List.all_eq_true] at e
  have e1 := e (N - 1) (List.mem_range.2 (by omega))
  rw [List.all_eq_true] at e1
  have e2 := e1 K (List.mem_range.2 (by omega))
  unfold perT at e2
  rw [show N - 1 + 1 = N by omega] at e2
  simpa using e2
end Go.Proofs.Ytgmhdmhnedljcaa.Rhy
