/-
  Helpers of the claims beside this text: polynomials as lists of integers.
-/
import Derived.Test.YtdpcabiajhfllaaOk
namespace Go.Proofs.Ytdpcabiajhfllaa.Rhy
set_option linter.unusedVariables false
set_option linter.unusedSimpArgs false

/-- The coefficient number i. -/
def co (l : List Int) (i : Nat) : Int := l.getD i 0
def pAdd : List Int → List Int → List Int
  | [], b => b
  | a, [] => a
  | x :: a, y :: b => (x + y) :: pAdd a b
def pScale (c : Int) (l : List Int) : List Int := l.map fun x => c * x
def pMul : List Int → List Int → List Int
  | [], _ => []
  | x :: a, b => pAdd (pScale x b) (0 :: pMul a b)
def pEval (l : List Int) (x : Int) : Int := l.foldr (fun c acc => c + x * acc) 0
/-- The same polynomial. -/
def Eqv (a b : List Int) : Prop := ∀ i, co a i = co b i
@[simp] theorem co_nil (i : Nat) : co [] i = 0 := by simp [co]
@[simp] theorem co_zero (x : Int) (a : List Int) : co (x :: a) 0 = x := by simp [co]
@[simp] theorem co_succ (x : Int) (a : List Int) (i : Nat) : co (x :: a) (i + 1) = co a i := by simp [co]
theorem co_big {l : List Int} {i : Nat} (h : l.length ≤ i) : co l i = 0 := by simp [co, List.getElem?_eq_none h]
theorem co_get {l : List Int} {i : Nat} (h : i < l.length) : co l i = l[i] := by simp [co, List.getElem?_eq_getElem h]
theorem co_add (a b : List Int) (i : Nat) : co (pAdd a b) i = co a i + co b i := by
  induction a generalizing b i with
  | nil => simp [pAdd]
  | cons x a ih =>
    cases b with
    | nil => simp [pAdd]
    | cons y b =>
      cases i with
      | zero => simp [pAdd]
      | succ i => simp [pAdd, ih]
theorem co_scale (c : Int) (b : List Int) (i : Nat) : co (pScale c b) i = c * co b i := by
  induction b generalizing i with
  | nil => simp [pScale]
  | cons y b ih =>
    cases i with
    | zero => simp [pScale]
    | succ i => simpa [pScale] using ih i
theorem co_mul_zero (x : Int) (a b : List Int) : co (pMul (x :: a) b) 0 = x * co b 0 := by simp [pMul, co_add, co_scale]
theorem co_mul_succ (x : Int) (a b : List Int) (i : Nat) : co (pMul (x :: a) b) (i + 1) = x * co b (i + 1) + co (pMul a b) i := by simp [pMul, co_add, co_scale]
theorem Eqv.refl (a : List Int) : Eqv a a := fun _ => rfl
theorem Eqv.symm {a b : List Int} (h : Eqv a b) : Eqv b a := fun i => (h i).symm
theorem Eqv.trans {a b c : List Int} (h : Eqv a b) (k : Eqv b c) : Eqv a c := fun i => (h i).trans (k i)
/-- b divides a. -/
def PDvd (b a : List Int) : Prop := ∃ q, Eqv (pMul q b) a
theorem mul_add (p q b : List Int) (i : Nat) : co (pMul (pAdd p q) b) i = co (pMul p b) i + co (pMul q b) i := by
  induction p generalizing q i with
  | nil => simp [pAdd, pMul]
  | cons x p ih =>
    cases q with
    | nil => simp [pAdd, pMul]
    | cons y q =>
      cases i with
      | zero => simp [pAdd, co_mul_zero, Int.add_mul]
      | succ i => simp only [pAdd, co_mul_succ, ih, Int.add_mul]; omega
theorem mul_scale (c : Int) (q b : List Int) (i : Nat) : co (pMul (pScale c q) b) i = c * co (pMul q b) i := by
  induction q generalizing i with
  | nil => simp [pScale, pMul]
  | cons y q ih =>
    have e : pScale c (y :: q) = (c * y) :: pScale c q := rfl
    rw [e]
    cases i with
    | zero => rw [co_mul_zero, co_mul_zero, Int.mul_assoc]
    | succ i => rw [co_mul_succ, co_mul_succ, ih, Int.mul_add, Int.mul_assoc]
theorem mul_shift (q b : List Int) (i : Nat) : co (pMul (0 :: q) b) i = co (0 :: pMul q b) i := by
  cases i with
  | zero => simp [co_mul_zero]
  | succ i => simp [co_mul_succ]
theorem PDvd.eqv {b a a' : List Int} (h : PDvd b a) (e : Eqv a a') : PDvd b a' := let ⟨q, hq⟩ := h; ⟨q, hq.trans e⟩
theorem PDvd.add {b x y : List Int} (h : PDvd b x) (k : PDvd b y) : PDvd b (pAdd x y) := by
  obtain ⟨p, hp⟩ := h
  obtain ⟨q, hq⟩ := k
  exact ⟨pAdd p q, fun i => by rw [mul_add, hp i, hq i, co_add]⟩
theorem PDvd.scale {b x : List Int} (h : PDvd b x) (c : Int) : PDvd b (pScale c x) := by
  obtain ⟨p, hp⟩ := h
  exact ⟨pScale c p, fun i => by rw [mul_scale, hp i, co_scale]⟩
theorem PDvd.shift {b x : List Int} (h : PDvd b x) : PDvd b (0 :: x) := by
  obtain ⟨p, hp⟩ := h
  refine ⟨0 :: p, fun i => ?_⟩
  rw [mul_shift]
  cases i with
  | zero => simp
  | succ i => simpa using hp i
theorem PDvd.refl (b : List Int) : PDvd b b := ⟨[1], fun i => by cases i <;> simp [pMul, co_add, co_scale]⟩
theorem PDvd.zero (b : List Int) : PDvd b [] := ⟨[], fun i => by simp [pMul]⟩
def pShift (k : Nat) (l : List Int) : List Int := List.replicate k 0 ++ l
theorem co_pShift (k : Nat) (l : List Int) (i : Nat) : co (pShift k l) i = if k ≤ i then co l (i - k) else 0 := by
  induction k generalizing i with
  | zero => simp [pShift]
  | succ k ih =>
    have e : pShift (k + 1) l = 0 :: pShift k l := by simp [pShift, List.replicate_succ]
    rw [e]
    cases i with
    | zero => simp
    | succ i => simp [ih]
theorem PDvd.shifts {b x : List Int} (h : PDvd b x) (k : Nat) : PDvd b (pShift k x) := by
  induction k with
  | zero => simpa [pShift] using h
  | succ k ih =>
    have e : pShift (k + 1) x = 0 :: pShift k x := by simp [pShift, List.replicate_succ]
    rw [e]
    exact ih.shift
theorem mul_none {q : List Int} (h : ∀ i, co q i = 0) (b : List Int) (i : Nat) : co (pMul q b) i = 0 := by
  induction q generalizing i with
  | nil => simp [pMul]
  | cons x q ih =>
    have hx : x = 0 := by simpa using h 0
    have hq : ∀ i, co q i = 0 := fun i => by simpa using h (i + 1)
    cases i with
    | zero => rw [co_mul_zero, hx]; simp
    | succ i => rw [co_mul_succ, hx, ih hq]; simp
/-- The greatest coefficient of a product. -/
theorem mul_top {b : List Int} {m : Nat} (hb : b.length = m + 1) {q : List Int} {j : Nat} (h : ∀ s, j < s → co q s = 0) : co (pMul q b) (j + m) = co q j * co b m := by
  induction q generalizing j with
  | nil => simp [pMul]
  | cons x q ih =>
    cases j with
    | zero =>
      have hq : ∀ i, co q i = 0 := fun i => by simpa using h (i + 1) (by omega)
      cases m with
      | zero => simp [co_mul_zero]
      | succ m =>
        rw [Nat.zero_add, co_mul_succ, mul_none hq]
        simp
    | succ j =>
      have e : j + 1 + m = (j + m) + 1 := by omega
      rw [e, co_mul_succ, ih (fun s hs => by simpa using h (s + 1) (by omega)), co_big (by omega)]
      simp
/-- A multiple of lesser degree is zero. -/
theorem pdvd_small {b : List Int} {m : Nat} (hb : b.length = m + 1) (h1 : co b m = 1) {d : List Int} (hd : PDvd b d) (hs : ∀ i, m ≤ i → co d i = 0) (i : Nat) : co d i = 0 := by
  obtain ⟨q, hq⟩ := hd
  have key : ∀ t j, q.length ≤ j + t → co q j = 0 := by
    intro t
    induction t with
    | zero => exact fun j hj => co_big (by omega)
    | succ t ih =>
      intro j hj
      have h2 := mul_top hb (q := q) (j := j) (fun s hs => ih s (by omega))
      rw [hq, hs _ (by omega), h1, Int.mul_one] at h2
      exact h2.symm
  rw [← hq i]
  exact mul_none (fun j => key q.length j (by omega)) b i
/-- r is the rest of a by b. -/
def IsRest (a b r : List Int) : Prop := PDvd b (pAdd a (pScale (-1) r)) ∧ ∀ i, b.length - 1 ≤ i → co r i = 0
theorem rest_one {a b r r' : List Int} {m : Nat} (hb : b.length = m + 1) (h1 : co b m = 1) (h : IsRest a b r) (k : IsRest a b r') : Eqv r r' := by
  have h2 := h.1.add (k.1.scale (-1))
  intro i
  have h3 := pdvd_small hb h1 h2 (fun i hi => by
    rw [co_add, co_add, co_scale, co_scale, co_add, co_scale, h.2 i (by omega), k.2 i (by omega)]
    omega) i
  rw [co_add, co_add, co_scale, co_scale, co_add, co_scale] at h3
  omega
theorem rest_dvd {a b r : List Int} {m : Nat} (hb : b.length = m + 1) (h1 : co b m = 1) (h : IsRest a b r) : PDvd b a ↔ ∀ i, co r i = 0 := by
  constructor
  · intro hd i
    refine pdvd_small hb h1 (d := r) ?_ (fun i hi => h.2 i (by omega)) i
    refine (hd.add (h.1.scale (-1))).eqv fun i => ?_
    rw [co_add, co_scale, co_add, co_scale]
    omega
  · intro hz
    refine h.1.eqv fun i => ?_
    rw [co_add, co_scale, hz i]
    omega
/-- Without the zeros at the end. -/
def trimL (l : List Int) : List Int := (l.reverse.dropWhile fun x => x == 0).reverse
theorem trim_snoc (l : List Int) (x : Int) : trimL (l ++ [x]) = if x = 0 then trimL l else l ++ [x] := by
  unfold trimL
  rw [List.reverse_append]
  by_cases h : x = 0
  · simp [h]
  · simp [h, List.dropWhile_cons]
theorem rev_ind {P : List Int → Prop} (h0 : P []) (h1 : ∀ l x, P l → P (l ++ [x])) (l : List Int) : P l := by
  have : ∀ n (l : List Int), l.length = n → P l := by
    intro n
    induction n with
    | zero => intro l hl; rw [List.length_eq_zero_iff.1 hl]; exact h0
    | succ n ih =>
      intro l hl
      have hne : l ≠ [] := by intro h; rw [h] at hl; simp at hl
      rw [← List.dropLast_concat_getLast hne]
      exact h1 _ _ (ih _ (by simp [hl]))
  exact this _ l rfl
theorem co_append (l m : List Int) (i : Nat) : co (l ++ m) i = if i < l.length then co l i else co m (i - l.length) := by
  unfold co
  by_cases h : i < l.length
  · rw [if_pos h]; simp [List.getElem?_append_left h]
  · rw [if_neg h]; simp [List.getElem?_append_right (show l.length ≤ i by omega)]
theorem trim_eqv (l : List Int) : Eqv (trimL l) l := by
  refine rev_ind (P := fun l => Eqv (trimL l) l) (fun i => by simp [trimL]) (fun l x ih i => ?_) l
  rw [trim_snoc]
  by_cases h : x = 0
  · rw [if_pos h, ih i, co_append, h]
    by_cases hi : i < l.length
    · rw [if_pos hi]
    · rw [if_neg hi, co_big (by omega)]
      by_cases h0 : i - l.length = 0
      · simp [h0]
      · rw [co_big (by simp; omega)]
  · rw [if_neg h]
theorem trim_len (l : List Int) : (trimL l).length ≤ l.length := by
  refine rev_ind (P := fun l => (trimL l).length ≤ l.length) (by simp [trimL]) (fun l x ih => ?_) l
  rw [trim_snoc]
  split <;> simp <;> omega
/-- No zero at the end. -/
def Clean (l : List Int) : Prop := ∀ h : l ≠ [], l.getLast h ≠ 0
theorem trim_clean (l : List Int) : Clean (trimL l) := by
  refine rev_ind (P := fun l => Clean (trimL l)) (fun h => absurd (by simp [trimL]) h) (fun l x ih => ?_) l
  rw [trim_snoc]
  by_cases h : x = 0
  · rw [if_pos h]; exact ih
  · rw [if_neg h]; intro _; simpa using h
theorem clean_trim {l : List Int} (h : Clean l) : trimL l = l := by
  by_cases he : l = []
  · subst he; simp [trimL]
  · rw [← List.dropLast_concat_getLast he, trim_snoc, if_neg (h he)]
theorem clean_len {l m : List Int} (hl : Clean l) (he : Eqv l m) : l.length ≤ m.length := by
  by_cases hn : l = []
  · simp [hn]
  · by_cases hlt : l.length ≤ m.length
    · exact hlt
    · exfalso
      have hp : 0 < l.length := List.length_pos_iff.2 hn
      have h1 := he (l.length - 1)
      rw [co_big (l := m) (by omega), co_get (show l.length - 1 < l.length by omega)] at h1
      have h2 := hl hn
      rw [List.getLast_eq_getElem] at h2
      exact h2 h1
theorem clean_one {l m : List Int} (hl : Clean l) (hm : Clean m) (he : Eqv l m) : l = m := by
  have e : l.length = m.length := Nat.le_antisymm (clean_len hl he) (clean_len hm he.symm)
  refine List.ext_getElem e fun i h1 h2 => ?_
  rw [← co_get h1, ← co_get h2]
  exact he i
theorem trim_one {l m : List Int} (he : Eqv l m) : trimL l = trimL m := clean_one (trim_clean l) (trim_clean m) ((trim_eqv l).trans (he.trans (trim_eqv m).symm))
theorem clean_nil_iff {l : List Int} (hl : Clean l) : l = [] ↔ ∀ i, co l i = 0 := by
  constructor
  · rintro rfl i; simp
  · intro h
    exact clean_one hl (fun h => absurd rfl h) (fun i => by rw [h i]; simp)
/-! ### Values -/
@[simp] theorem ev_nil (x : Int) : pEval [] x = 0 := rfl
@[simp] theorem ev_cons (c : Int) (l : List Int) (x : Int) : pEval (c :: l) x = c + x * pEval l x := rfl
theorem ev_add (a b : List Int) (x : Int) : pEval (pAdd a b) x = pEval a x + pEval b x := by
  induction a generalizing b with
  | nil => simp [pAdd]
  | cons c a ih =>
    cases b with
    | nil => simp [pAdd]
    | cons d b => simp only [pAdd, ev_cons, ih, Int.mul_add]; omega
theorem ev_scale (c : Int) (b : List Int) (x : Int) : pEval (pScale c b) x = c * pEval b x := by
  induction b with
  | nil => simp [pScale]
  | cons d b ih =>
    have e : pScale c (d :: b) = (c * d) :: pScale c b := rfl
    rw [e, ev_cons, ev_cons, ih, Int.mul_add, Int.mul_left_comm]
theorem ev_mul (a b : List Int) (x : Int) : pEval (pMul a b) x = pEval a x * pEval b x := by
  induction a with
  | nil => simp [pMul]
  | cons c a ih => rw [pMul, ev_add, ev_scale, ev_cons, ih, ev_cons, Int.add_mul, Int.mul_assoc]; omega
theorem ev_none {l : List Int} (h : ∀ i, co l i = 0) (x : Int) : pEval l x = 0 := by
  induction l with
  | nil => rfl
  | cons c l ih =>
    have hc : c = 0 := by simpa using h 0
    rw [ev_cons, hc, ih (fun i => by simpa using h (i + 1))]
    simp
theorem ev_eqv {a b : List Int} (h : Eqv a b) (x : Int) : pEval a x = pEval b x := by
  induction a generalizing b with
  | nil => exact (ev_none (fun i => by have := h i; simp at this; exact this.symm) x).symm
  | cons c a ih =>
    cases b with
    | nil => exact ev_none (fun i => by have := h i; simpa using this) x
    | cons d b =>
      have h0 : c = d := by simpa using h 0
      rw [ev_cons, ev_cons, h0, ih (fun i => by simpa using h (i + 1))]
/-! ### The power minus one, and the cyclotomic ones -/
def xn1 (n : Nat) : List Int := (-1) :: (List.replicate (n - 1) 0 ++ [1])
theorem co_xn1 {n : Nat} (hn : 1 ≤ n) (i : Nat) : co (xn1 n) i = if i = 0 then -1 else if i = n then 1 else 0 := by
  unfold xn1
  cases i with
  | zero => simp
  | succ i =>
    rw [co_succ, co_append, List.length_replicate]
    by_cases h1 : i < n - 1
    · rw [if_pos h1, if_neg (by omega), if_neg (by omega)]
      simp [co, h1]
    · rw [if_neg h1, if_neg (by omega)]
      by_cases h2 : i + 1 = n
      · rw [if_pos h2, show i - (n - 1) = 0 by omega]; simp
      · rw [if_neg h2, co_big (by simp; omega)]
def cycL : Nat → List Int
  | 1 => [-1, 1]
  | 2 => [1, 1]
  | 3 => [1, 1, 1]
  | 4 => [1, 0, 1]
  | 5 => [1, 1, 1, 1, 1]
  | 6 => [1, -1, 1]
  | 7 => [1, 1, 1, 1, 1, 1, 1]
  | 8 => [1, 0, 0, 0, 1]
  | 9 => [1, 0, 0, 1, 0, 0, 1]
  | 10 => [1, -1, 1, -1, 1]
  | 11 => [1, 1, 1, 1, 1, 1, 1, 1, 1, 1, 1]
  | 12 => [1, 0, -1, 0, 1]
  | 13 => [1, 1, 1, 1, 1, 1, 1, 1, 1, 1, 1, 1, 1]
  | 14 => [1, -1, 1, -1, 1, -1, 1]
  | 15 => [1, -1, 0, 1, -1, 1, 0, -1, 1]
  | 16 => [1, 0, 0, 0, 0, 0, 0, 0, 1]
  | 17 => [1, 1, 1, 1, 1, 1, 1, 1, 1, 1, 1, 1, 1, 1, 1, 1, 1]
  | 18 => [1, 0, 0, -1, 0, 0, 1]
  | 19 => [1, 1, 1, 1, 1, 1, 1, 1, 1, 1, 1, 1, 1, 1, 1, 1, 1, 1, 1]
  | 20 => [1, 0, -1, 0, 1, 0, -1, 0, 1]
  | 21 => [1, -1, 0, 1, -1, 0, 1, 0, -1, 1, 0, -1, 1]
  | 22 => [1, -1, 1, -1, 1, -1, 1, -1, 1, -1, 1]
  | 23 => [1, 1, 1, 1, 1, 1, 1, 1, 1, 1, 1, 1, 1, 1, 1, 1, 1, 1, 1, 1, 1, 1, 1]
  | 24 => [1, 0, 0, 0, -1, 0, 0, 0, 1]
  | _ => []
def divsL (n : Nat) : List Nat := (List.range' 1 n).filter fun d => n % d == 0
def cofL (n d : Nat) : List Int := ((divsL n).filter fun e => e != d).foldl (fun p e => pMul p (cycL e)) [1]
def totN (n : Nat) : Nat := ((List.range' 1 n).filter fun k => Nat.gcd k n == 1).length
/-- .. each divides the power minus one of each multiple. -/
theorem cyc_tab : ((List.range' 1 24).all fun n => (divsL n).all fun d => trimL (pMul (cofL n d) (cycL d)) == xn1 n) = true := by decide +kernel
theorem cyc_len_tab : ((List.range' 1 24).all fun n => (cycL n).length == totN n + 1 && co (cycL n) (totN n) == 1 && decide (1 ≤ totN n)) = true := by decide +kernel
theorem mem_divs {n d : Nat} (h1 : 1 ≤ d) (h2 : d ≤ n) (hd : n % d = 0) : d ∈ divsL n := by
  unfold divsL
  rw [List.mem_filter, List.mem_range'_1]
  exact ⟨by omega, by simp [hd]⟩
theorem cyc_dvd {n d : Nat} (hn : 1 ≤ n ∧ n ≤ 24) (h1 : 1 ≤ d) (hd : n % d = 0) : PDvd (cycL d) (xn1 n) := by
  have h2 : d ≤ n := Nat.le_of_dvd (by omega) (Nat.dvd_of_mod_eq_zero hd)
  have h := List.all_eq_true.1 (List.all_eq_true.1 cyc_tab n (List.mem_range'_1.2 (by omega))) d (mem_divs h1 h2 hd)
  refine ⟨cofL n d, ?_⟩
  have e : trimL (pMul (cofL n d) (cycL d)) = xn1 n := by simpa using h
  rw [← e]
  exact (trim_eqv _).symm
theorem cyc_facts {n : Nat} (hn : 1 ≤ n ∧ n ≤ 24) : (cycL n).length = totN n + 1 ∧ co (cycL n) (totN n) = 1 ∧ 1 ≤ totN n := by
  have h := List.all_eq_true.1 cyc_len_tab n (List.mem_range'_1.2 (by omega))
  simp only [Bool.and_eq_true, beq_iff_eq, decide_eq_true_eq] at h
  exact ⟨h.1.1, h.1.2, h.2⟩
/-! ### Rotations -/
def plyF (n : Nat) (f : Nat → Int) : List Int := (List.range n).map f
theorem co_plyF (n : Nat) (f : Nat → Int) (i : Nat) : co (plyF n f) i = if i < n then f i else 0 := by
  unfold plyF
  by_cases h : i < n
  · rw [if_pos h, co_get (by simpa using h)]; simp
  · rw [if_neg h, co_big (by simp; omega)]
theorem rot_one {b : List Int} {n : Nat} (hn : 1 ≤ n) (hx : PDvd b (xn1 n)) {f g : Nat → Int} (hg : ∀ i, i < n → g i = f ((i + (n - 1)) % n)) (h : PDvd b (plyF n f)) : PDvd b (plyF n g) := by
  refine (h.shift.add (hx.scale (-(f (n - 1))))).eqv fun i => ?_
  rw [co_add, co_scale, co_xn1 hn, co_plyF n g]
  cases i with
  | zero =>
    rw [co_zero, if_pos rfl, if_pos (by omega), hg 0 (by omega), Nat.zero_add, Nat.mod_eq_of_lt (show n - 1 < n by omega)]
    simp
  | succ i =>
    rw [co_succ, co_plyF n f, if_neg (show ¬ i + 1 = 0 by omega)]
    by_cases h1 : i + 1 < n
    · rw [if_pos (by omega), if_neg (by omega), if_pos h1, hg _ h1, show i + 1 + (n - 1) = i + n by omega, Nat.add_mod_right, Nat.mod_eq_of_lt (by omega)]
      simp
    · rw [if_neg h1]
      by_cases h2 : i + 1 = n
      · rw [if_pos (by omega), if_pos h2, show n - 1 = i by omega]; simp; omega
      · rw [if_neg (by omega), if_neg h2]; simp
theorem rot_dvd {b : List Int} {n : Nat} (hn : 1 ≤ n) (hx : PDvd b (xn1 n)) (k : Nat) {f : Nat → Int} (h : PDvd b (plyF n f)) : PDvd b (plyF n fun i => f ((i + k * (n - 1)) % n)) := by
  induction k with
  | zero =>
    refine h.eqv fun i => ?_
    rw [co_plyF, co_plyF]
    split
    · rw [Nat.zero_mul, Nat.add_zero, Nat.mod_eq_of_lt (by assumption)]
    · rfl
  | succ k ih =>
    refine rot_one hn hx (fun i hi => ?_) ih
    show f ((i + (k + 1) * (n - 1)) % n) = f (((i + (n - 1)) % n + k * (n - 1)) % n)
    rw [Nat.mod_add_mod, Nat.add_mul, Nat.one_mul]
    congr 2
    omega
/-- A rotation vanishes where the rhythm does. -/
theorem rot_iff {b : List Int} {n : Nat} (hn : 1 ≤ n) (hx : PDvd b (xn1 n)) (k : Nat) (hk : k < n) {f : Nat → Int} : PDvd b (plyF n fun i => f ((i + (n - k)) % n)) ↔ PDvd b (plyF n f) := by
  have e0 : ∀ (j : Nat), j ≤ n → ∀ i, (i + j * (n - 1)) % n = (i + (n - j)) % n := by
    intro j hj i
    have : i + j * (n - 1) + j = i + j * n := by
      rw [Nat.add_assoc, ← Nat.mul_succ]
      congr 2
      omega
    have h2 : (i + j * (n - 1) + n) % n = (i + (n - j) + j * n) % n := by
      congr 1
      omega
    rw [Nat.add_mod_right, Nat.add_mul_mod_self_right] at h2
    exact h2
  constructor
  · intro h
    have h2 := rot_dvd hn hx (n - k) h
    refine h2.eqv fun i => ?_
    rw [co_plyF, co_plyF]
    split
    · next hi =>
      rw [e0 _ (by omega), show n - (n - k) = k by omega]
      show f (((i + k) % n + (n - k)) % n) = f i
      rw [Nat.mod_add_mod, show i + k + (n - k) = i + n by omega, Nat.add_mod_right, Nat.mod_eq_of_lt hi]
    · rfl
  · intro h
    refine (rot_dvd hn hx k h).eqv fun i => ?_
    rw [co_plyF, co_plyF, e0 k (by omega)]
end Go.Proofs.Ytdpcabiajhfllaa.Rhy
