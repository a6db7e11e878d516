/-
  Helpers of the claims beside this text: long division, products and values, step by step.
-/
import Derived.Test.YtdpcabiajhfllaaPla
namespace Go.Proofs.Ytdpcabiajhfllaa.Rhy
set_option linter.unusedVariables false
set_option linter.unusedSimpArgs false

/-- k elements of x b are added to l, from place i on. -/
def addK (l : List Int) (i : Nat) (x : Int) (b : List Int) (k : Nat) : List Int :=
  l.mapIdx fun p v => if i ≤ p ∧ p < i + k then v + x * co b (p - i) else v
theorem addK_len (l : List Int) (i : Nat) (x : Int) (b : List Int) (k : Nat) : (addK l i x b k).length = l.length := by simp [addK]
theorem addK_co (l : List Int) (i : Nat) (x : Int) (b : List Int) (k p : Nat) : co (addK l i x b k) p = if p < l.length ∧ i ≤ p ∧ p < i + k then co l p + x * co b (p - i) else co l p := by
  by_cases h : p < l.length
  · rw [co_get (by rw [addK_len]; exact h), co_get h]
    simp [addK, h]
  · rw [if_neg (by omega), co_big (by rw [addK_len]; omega), co_big (by omega)]
theorem addK_zero (l : List Int) (i : Nat) (x : Int) (b : List Int) : addK l i x b 0 = l := by
  refine List.ext_getElem (addK_len _ _ _ _ _) fun p h1 h2 => ?_
  rw [← co_get h1, ← co_get h2, addK_co, if_neg (by omega)]
theorem co_set (l : List Int) (i : Nat) (v : Int) (p : Nat) : co (l.set i v) p = if p = i ∧ p < l.length then v else co l p := by
  unfold co
  simp only [List.getD_eq_getElem?_getD, List.getElem?_set]
  by_cases h : i = p
  · subst h
    by_cases h2 : i < l.length
    · simp [h2]
    · simp [h2, List.getElem?_eq_none (show l.length ≤ i by omega)]
  · rw [if_neg h, if_neg (by omega)]
theorem addK_succ {l : List Int} {i : Nat} {x : Int} {b : List Int} {k : Nat} (h : i + k < l.length) : addK l i x b (k + 1) = (addK l i x b k).set (i + k) (co (addK l i x b k) (i + k) + x * co b k) := by
  refine List.ext_getElem (by simp [addK_len]) fun p h1 h2 => ?_
  rw [← co_get h1, ← co_get h2, co_set, addK_co, addK_co, addK_co, addK_len]
  rw [addK_len] at h1
  by_cases hp : p = i + k
  · subst hp
    rw [if_pos (by omega), if_pos (by omega), if_neg (by omega), show i + k - i = k by omega]
  · rw [if_neg (show ¬ (p = i + k ∧ p < l.length) by omega)]
    by_cases hq : p < l.length ∧ i ≤ p ∧ p < i + k
    · rw [if_pos (by omega), if_pos hq]
    · rw [if_neg (by omega), if_neg hq]
theorem addK_all {l : List Int} {i : Nat} {x : Int} {b : List Int} (h : i + b.length ≤ l.length) : Eqv (addK l i x b b.length) (pAdd l (pScale x (pShift i b))) := by
  intro p
  rw [addK_co, co_add, co_scale, co_pShift]
  by_cases h1 : i ≤ p
  · rw [if_pos h1]
    by_cases h2 : p < i + b.length
    · rw [if_pos (by omega)]
    · rw [if_neg (by omega), co_big (l := b) (by omega)]; omega
  · rw [if_neg (by omega), if_neg h1]; omega
/-- All its coefficients are at most M. -/
def Bd (M : Int) (l : List Int) : Prop := ∀ p, -M ≤ co l p ∧ co l p ≤ M
theorem cmul_bd {x y A B : Int} (h1 : -A ≤ x ∧ x ≤ A) (h2 : -B ≤ y ∧ y ≤ B) : -(A * B) ≤ x * y ∧ x * y ≤ A * B := by
  have hA : 0 ≤ A := by omega
  have hB : 0 ≤ B := by omega
  have e := Int.natAbs_mul x y
  have hx : (x.natAbs : Int) ≤ A := by omega
  have hy : (y.natAbs : Int) ≤ B := by omega
  have h3 : (x.natAbs : Int) * y.natAbs ≤ A * B := Int.mul_le_mul hx hy (by omega) hA
  have h4 : ((x * y).natAbs : Int) = (x.natAbs : Int) * y.natAbs := by rw [e]; simp
  omega
theorem addK_bd {l b : List Int} {M X B : Int} (hl : Bd M l) (hb : Bd B b) {x : Int} (hx : -X ≤ x ∧ x ≤ X) (i k : Nat) : Bd (M + X * B) (addK l i x b k) := by
  intro p
  have h1 := hl p
  have h2 := cmul_bd hx (hb (p - i))
  have h3 : 0 ≤ X * B := Int.mul_nonneg (by omega) (by have := hb 0; omega)
  rw [addK_co]
  split
  · omega
  · omega
theorem Bd.mono {M M' : Int} {l : List Int} (h : Bd M l) (hm : M ≤ M') : Bd M' l := fun p => by have := h p; omega
/-! ### Division: from the greatest place down -/
/-- The rest after j steps. -/
def dvR (a b : List Int) : Nat → List Int
  | 0 => a
  | j + 1 => addK (dvR a b j) (a.length - b.length - j) (-(co (dvR a b j) (a.length - 1 - j))) b b.length
/-- .. and the quotient. -/
def dvQ (a b : List Int) : Nat → List Int
  | 0 => []
  | j + 1 => co (dvR a b j) (a.length - 1 - j) :: dvQ a b j
theorem dvR_len (a b : List Int) (j : Nat) : (dvR a b j).length = a.length := by
  induction j with
  | zero => rfl
  | succ j ih => rw [dvR, addK_len, ih]
theorem dvR_rest {a b : List Int} {m : Nat} (hb : b.length = m + 1) (h1 : co b m = 1) {j : Nat} (hj : j + m ≤ a.length) :
    PDvd b (pAdd a (pScale (-1) (dvR a b j))) ∧ ∀ p, a.length - j ≤ p → co (dvR a b j) p = 0 := by
  induction j with
  | zero =>
    refine ⟨(PDvd.zero b).eqv fun i => ?_, fun p hp => co_big (by simpa [dvR] using hp)⟩
    rw [co_add, co_scale, dvR, co_nil]
    omega
  | succ j ih =>
    obtain ⟨h2, h3⟩ := ih (by omega)
    have hi : a.length - b.length - j + b.length ≤ (dvR a b j).length := by rw [dvR_len]; omega
    constructor
    · refine (h2.add (((PDvd.refl b).shifts (a.length - b.length - j)).scale (co (dvR a b j) (a.length - 1 - j)))).eqv fun i => ?_
      rw [dvR, co_add, co_add, co_scale, co_scale, co_add, co_scale, addK_all hi, co_add, co_scale]
      simp only [Int.neg_mul, Int.one_mul]
      omega
    · intro p hp
      rw [dvR, addK_co, dvR_len]
      by_cases hq : a.length - j ≤ p
      · have := h3 p hq
        split
        · rw [this, co_big (l := b) (by omega)]; simp
        · exact this
      · have e : p = a.length - 1 - j := by omega
        subst e
        rw [if_pos (by omega), show a.length - 1 - j - (a.length - b.length - j) = m by omega, h1]
        omega
/-- The whole division. -/
def steps (a b : List Int) : Nat := a.length + 1 - b.length
theorem dv_is {a b : List Int} {m : Nat} (hb : b.length = m + 1) (h1 : co b m = 1) : IsRest a b (dvR a b (steps a b)) := by
  unfold steps
  by_cases h : m ≤ a.length
  · have h2 := dvR_rest hb h1 (a := a) (j := a.length + 1 - b.length) (by omega)
    exact ⟨h2.1, fun i hi => h2.2 i (by omega)⟩
  · rw [show a.length + 1 - b.length = 0 by omega]
    refine ⟨(PDvd.zero b).eqv fun i => ?_, fun i hi => co_big (by simp only [dvR]; omega)⟩
    rw [co_add, co_scale, dvR, co_nil]
    omega
theorem dv_trim {a b : List Int} {m : Nat} (hb : b.length = m + 1) (h1 : co b m = 1) : IsRest a b (trimL (dvR a b (steps a b))) := by
  have h := dv_is (a := a) hb h1
  refine ⟨h.1.eqv fun i => ?_, fun i hi => by rw [trim_eqv]; exact h.2 i hi⟩
  rw [co_add, co_add, co_scale, co_scale, trim_eqv]
theorem rest_len {a b r : List Int} {m : Nat} (hb : b.length = m + 1) (h : IsRest a b r) (hc : Clean r) : r.length ≤ m := by
  by_cases hl : r.length ≤ m
  · exact hl
  · exfalso
    have hn : r ≠ [] := by intro e; rw [e] at hl; simp at hl
    have h1 := h.2 (r.length - 1) (by omega)
    rw [co_get (show r.length - 1 < r.length by omega)] at h1
    have h2 := hc hn
    rw [List.getLast_eq_getElem] at h2
    exact h2 h1
theorem dvR_bd {a b : List Int} {M : Nat} (ha : Bd M a) (hb : Bd 1 b) (j : Nat) : Bd ((M * 2 ^ j : Nat) : Int) (dvR a b j) := by
  induction j with
  | zero => simpa [dvR] using ha
  | succ j ih =>
    rw [dvR]
    have h := addK_bd (X := ((M * 2 ^ j : Nat) : Int)) ih hb (x := -(co (dvR a b j) (a.length - 1 - j))) (by have := ih (a.length - 1 - j); omega) (a.length - b.length - j) b.length
    refine h.mono ?_
    rw [Nat.pow_succ, Int.mul_one]
    have e : M * (2 ^ j * 2) = M * 2 ^ j + M * 2 ^ j := by rw [← Nat.mul_assoc]; omega
    rw [e]
    omega
/-- The cyclotomic one as a model makes it: x^n - 1 divided by each that belongs to a lesser divisor. -/
def cycM (n : Nat) (c : Nat → List Int) (d : Nat) : List Int := (List.range' 1 d).foldl (fun a e => if n % e = 0 then dvQ a (c e) (steps a (c e)) else a) (xn1 n)
theorem cycM_zero (n : Nat) (c : Nat → List Int) : cycM n c 0 = xn1 n := rfl
theorem cycM_yes {n d : Nat} {c : Nat → List Int} (h : n % (d + 1) = 0) : cycM n c (d + 1) = dvQ (cycM n c d) (c (d + 1)) (steps (cycM n c d) (c (d + 1))) := by
  unfold cycM
  rw [List.range'_1_concat, List.foldl_append]
  show (if n % (1 + d) = 0 then _ else _) = _
  rw [Nat.add_comm 1 d, if_pos h]
theorem cycM_no {n d : Nat} {c : Nat → List Int} (h : n % (d + 1) ≠ 0) : cycM n c (d + 1) = cycM n c d := by
  unfold cycM
  rw [List.range'_1_concat, List.foldl_append]
  show (if n % (1 + d) = 0 then _ else _) = _
  rw [Nat.add_comm 1 d, if_neg h]
theorem cycM_tab : ((List.range' 1 24).all fun n => cycM n cycL (n - 1) == cycL n) = true := by decide +kernel
theorem cycM_all {n : Nat} (hn : 1 ≤ n ∧ n ≤ 24) : cycM n cycL (n - 1) = cycL n := by
  have h := List.all_eq_true.1 cycM_tab n (List.mem_range'_1.2 (by omega))
  simpa using h
theorem cyc_bd_tab : ((List.range' 1 24).all fun n => (cycL n).all fun x => decide (-1 ≤ x ∧ x ≤ 1)) = true := by decide +kernel
theorem cyc_bd {n : Nat} (hn : 1 ≤ n ∧ n ≤ 24) : Bd 1 (cycL n) := by
  intro p
  by_cases h : p < (cycL n).length
  · rw [co_get h]
    have h2 := List.all_eq_true.1 (List.all_eq_true.1 cyc_bd_tab n (List.mem_range'_1.2 (by omega))) _ (List.getElem_mem h)
    simpa using h2
  · rw [co_big (by omega)]; omega
/-! ### Products: row by row -/
def muR (a b : List Int) : Nat → List Int
  | 0 => List.replicate (a.length + b.length) 0
  | i + 1 => addK (muR a b i) i (co a i) b b.length
theorem muR_len (a b : List Int) (i : Nat) : (muR a b i).length = a.length + b.length := by
  induction i with
  | zero => simp [muR]
  | succ i ih => rw [muR, addK_len, ih]
theorem mul_snoc (q : List Int) (x : Int) (b : List Int) (i : Nat) : co (pMul (q ++ [x]) b) i = co (pMul q b) i + x * co (pShift q.length b) i := by
  induction q generalizing i with
  | nil =>
    cases i with
    | zero => simp [pMul, pShift, co_add, co_scale]
    | succ i => simp [pMul, pShift, co_add, co_scale]
  | cons y q ih =>
    have e : pShift (q.length + 1) b = 0 :: pShift q.length b := by simp [pShift, List.replicate_succ]
    rw [List.length_cons, e, List.cons_append]
    cases i with
    | zero => simp [co_mul_zero]
    | succ i => rw [co_mul_succ, co_mul_succ, ih, co_succ]; omega
theorem muR_is {a b : List Int} {i : Nat} (hi : i ≤ a.length) : Eqv (muR a b i) (pMul (a.take i) b) := by
  induction i with
  | zero =>
    intro p
    simp only [List.take_zero, pMul, co_nil, muR, co, List.getD_eq_getElem?_getD, List.getElem?_replicate]
    split <;> rfl
  | succ i ih =>
    intro p
    have h := addK_all (l := muR a b i) (i := i) (x := co a i) (b := b) (by rw [muR_len]; omega) p
    rw [muR, h, co_add, co_scale, ih (by omega) p, List.take_add_one, List.getElem?_eq_getElem (show i < a.length by omega)]
    show _ = co (pMul (a.take i ++ [a[i]]) b) p
    rw [mul_snoc, List.length_take, Nat.min_eq_left (by omega), co_get (show i < a.length by omega)]
theorem muR_all (a b : List Int) : Eqv (muR a b a.length) (pMul a b) := by
  have h := muR_is (a := a) (b := b) (Nat.le_refl a.length)
  rwa [List.take_length] at h
theorem muR_bd {a b : List Int} {X B : Nat} (ha : Bd X a) (hb : Bd B b) (i : Nat) : Bd ((i * (X * B) : Nat) : Int) (muR a b i) := by
  induction i with
  | zero =>
    intro p
    have e : co (muR a b 0) p = 0 := by
      simp only [muR, co, List.getD_eq_getElem?_getD, List.getElem?_replicate]
      split <;> rfl
    rw [e]
    simp
  | succ i ih =>
    have h := addK_bd ih hb (ha i) i b.length
    refine Bd.mono (l := muR a b (i + 1)) h ?_
    rw [Nat.add_mul, Nat.one_mul, Int.natCast_add, Int.natCast_mul X B]
    exact Int.le_refl _
/-! ### Values, from the last coefficient on -/
theorem ev_drop {a : List Int} {i : Nat} (h : i < a.length) (x : Int) : pEval (a.drop i) x = co a i + x * pEval (a.drop (i + 1)) x := by
  rw [List.drop_eq_getElem_cons h, ev_cons, co_get h]
theorem ev_bd {a : List Int} {X : Nat} (ha : Bd X a) {x : Int} (hx : -2 ≤ x ∧ x ≤ 2) (k i : Nat) (hk : a.length ≤ i + k) : -((X * (2 ^ k - 1) : Nat) : Int) ≤ pEval (a.drop i) x ∧ pEval (a.drop i) x ≤ ((X * (2 ^ k - 1) : Nat) : Int) := by
  induction k generalizing i with
  | zero => rw [List.drop_of_length_le (by omega), ev_nil]; simp
  | succ k ih =>
    by_cases hi : i < a.length
    · rw [ev_drop hi]
      have h1 := ih (i + 1) (by omega)
      have h2 := cmul_bd hx h1
      have h3 := ha i
      have hp := Nat.two_pow_pos k
      have e : X * (2 ^ (k + 1) - 1) = X + 2 * (X * (2 ^ k - 1)) := by
        obtain ⟨P, hP⟩ : ∃ P, 2 ^ k = P + 1 := ⟨2 ^ k - 1, by omega⟩
        rw [Nat.pow_succ, hP, show (P + 1) * 2 - 1 = P + P + 1 by omega, show P + 1 - 1 = P by omega, Nat.mul_add, Nat.mul_add, Nat.mul_one]
        omega
      rw [e]
      omega
    · rw [List.drop_of_length_le (by omega), ev_nil]; omega
end Go.Proofs.Ytdpcabiajhfllaa.Rhy
