/-
  Helpers of the claims beside this text: plain mathematics of forbidden intervals: how many bars of n pulses with k beats have no two beats d apart.
-/
import Derived.Test.YtgmhdmhnedljcaaTwi
namespace Go.Proofs.Ytgmhdmhnedljcaa.Rhy
set_option linter.unusedVariables false

/-- A bar of n pulses as a number, its bits the beats: no two of them are d apart. -/
def goodB (n d x : Nat) : Bool := (x &&& ((x >>> d) ||| ((x <<< (n - d)) % 2 ^ n))) == 0
/-- The avoiding bars that go on from acc with the m lowest bits, counted by their beats: in the digits of one number. -/
def polF (n d : Nat) : Nat → Nat → Nat
  | 0, _ => 1
  | m + 1, acc => polF n d m acc + (bif goodB n d (acc + 2 ^ m) then 1048576 * polF n d m (acc + 2 ^ m) else 0)
def chz (n k : Nat) : Nat → Nat
  | 0 => 1
  | i + 1 => chz n k i * (n - k + (i + 1)) / (i + 1)
def ccN (m k : Nat) : Nat := bif k == 0 then 1 else bif Nat.blt m (2 * k) then 0 else chz (m - k - 1) (k - 1) (k - 1) * m / k
def conv (w : List Nat) (m : Nat) (c : Nat) : Nat → Nat
  | 0 => w[0]?.getD 0 * ccN m c
  | a + 1 => conv w m c a + w[a + 1]?.getD 0 * ccN m (c - (a + 1))
def wayN (m k : Nat) (w : List Nat) : List Nat := (List.range (k + 1)).map fun c => conv w m c c
def waysN (m k : Nat) : Nat → List Nat
  | 0 => 1 :: List.replicate k 0
  | i + 1 => wayN m k (waysN m k i)
def cntF (n d k : Nat) : Nat := (waysN (n / Nat.gcd n d) k (Nat.gcd n d))[k]?.getD 0
def digs (f : Nat → Nat) : Nat → Nat
  | 0 => f 0
  | k + 1 => digs f k + f (k + 1) * 1048576 ^ (k + 1)
def cntAll (N : Nat) : Bool := (List.range (N - 1)).all fun i => (List.range (i + 1)).all fun j => Nat.beq (polF (i + 2) (j + 1) (i + 2) 0) (digs (fun k => cntF (i + 2) (j + 1) k) (i + 2))
/-! ### counting -/
/-- How many of the m lowest bits are set. -/
def wt : Nat → Nat → Nat
  | 0, _ => 0
  | m + 1, x => wt m x + x / 2 ^ m % 2
theorem wt_le : ∀ m x, wt m x ≤ m
  | 0, _ => Nat.le_refl 0
  | m + 1, x => by
    have := wt_le m x
    have : x / 2 ^ m % 2 < 2 := Nat.mod_lt _ (by omega)
    simp only [wt]
    omega
theorem wt_low (c x m : Nat) : ∀ j, j ≤ m → wt j (2 ^ m * c + x) = wt j x
  | 0, _ => rfl
  | j + 1, h => by
    simp only [wt]
    rw [wt_low c x m j (by omega)]
    congr 1
    obtain ⟨e, rfl⟩ : ∃ e, m = j + 1 + e := ⟨m - (j + 1), by omega⟩
    have e1 : 2 ^ (j + 1 + e) * c + x = x + 2 ^ j * (2 * (2 ^ e * c)) := by
      rw [Nat.pow_add, Nat.pow_succ, Nat.add_comm]
      congr 1
      rw [Nat.mul_assoc, Nat.mul_assoc]
    rw [e1, Nat.add_mul_div_left _ _ (Nat.two_pow_pos j), Nat.add_mul_mod_self_left]
theorem wt_zero {m x : Nat} (h : x < 2 ^ m) : wt (m + 1) x = wt m x := by
  simp only [wt]
  rw [Nat.div_eq_of_lt h]
  rfl
theorem wt_one {m x : Nat} (h : x < 2 ^ m) : wt (m + 1) (2 ^ m + x) = wt m x + 1 := by
  simp only [wt]
  have e := wt_low 1 x m m (Nat.le_refl m)
  rw [Nat.mul_one] at e
  rw [e]
  congr 1
  have : (2 ^ m + x) / 2 ^ m = 1 := by
    rw [Nat.add_div_left _ (Nat.two_pow_pos m), Nat.div_eq_of_lt h]
  rw [this]
theorem good_bits {n d x : Nat} : goodB n d x = true ↔ ∀ i, x.testBit i = true → x.testBit (d + i) = false ∧ (i < n → n - d ≤ i → x.testBit (i - (n - d)) = false) := by
  unfold goodB
  rw [beq_iff_eq]
  constructor
  · intro h i hi
    have h2 : (x &&& ((x >>> d) ||| ((x <<< (n - d)) % 2 ^ n))).testBit i = false := by rw [h]; exact Nat.zero_testBit i
    rw [Nat.testBit_and, Nat.testBit_or, Nat.testBit_shiftRight, Nat.testBit_mod_two_pow, Nat.testBit_shiftLeft, hi] at h2
    simp only [Bool.true_and, Bool.or_eq_false_iff, Bool.and_eq_false_iff, decide_eq_false_iff_not] at h2
    refine ⟨h2.1, fun h3 h4 => ?_⟩
    rcases h2.2 with q | q | q
    · exact absurd h3 q
    · exact absurd h4 q
    · exact q
  · intro h
    apply Nat.eq_of_testBit_eq
    intro i
    rw [Nat.zero_testBit, Nat.testBit_and, Nat.testBit_or, Nat.testBit_shiftRight, Nat.testBit_mod_two_pow, Nat.testBit_shiftLeft]
    cases hi : x.testBit i
    · rfl
    · obtain ⟨h1, h2⟩ := h i hi
      rw [h1]
      simp only [Bool.true_and, Bool.false_or]
      by_cases h3 : i < n
      · by_cases h4 : n - d ≤ i
        · rw [h2 h3 h4]; simp
        · simp [h4]
      · simp [h3]
theorem good_mono {n d a x : Nat} (h : ∀ i, a.testBit i = true → x.testBit i = true) (hg : goodB n d x = true) : goodB n d a = true := by
  rw [good_bits] at hg ⊢
  intro i hi
  obtain ⟨h1, h2⟩ := hg i (h i hi)
  constructor
  · cases q : a.testBit (d + i)
    · rfl
    · rw [h _ q] at h1; cases h1
  · intro h3 h4
    cases q : a.testBit (i - (n - d))
    · rfl
    · rw [h _ q] at h2; exact absurd (h2 h3 h4) (by simp)
theorem up_bits {m c y : Nat} (hy : y < 2 ^ m) (i : Nat) (h : (2 ^ m * c).testBit i = true) : (2 ^ m * c + y).testBit i = true := by
  rw [Nat.testBit_two_pow_mul_add c hy]
  rw [Nat.testBit_two_pow_mul] at h
  simp only [Bool.and_eq_true, decide_eq_true_eq] at h
  rw [if_neg (by omega)]
  exact h.2
/-- A sum over the first numbers. -/
def sumR (f : Nat → Nat) : Nat → Nat
  | 0 => 0
  | n + 1 => sumR f n + f n
theorem sumR_congr {f g : Nat → Nat} : ∀ n, (∀ i, i < n → f i = g i) → sumR f n = sumR g n
  | 0, _ => rfl
  | n + 1, h => by simp only [sumR]; rw [sumR_congr n (fun i hi => h i (by omega)), h n (by omega)]
theorem sumR_add (f : Nat → Nat) (a : Nat) : ∀ b, sumR f (a + b) = sumR f a + sumR (fun i => f (a + i)) b
  | 0 => rfl
  | b + 1 => by
    show sumR f (a + b) + f (a + b) = _
    rw [sumR_add f a b]
    simp only [sumR]
    omega
theorem sumR_mul (c : Nat) (f : Nat → Nat) : ∀ n, sumR (fun i => c * f i) n = c * sumR f n
  | 0 => rfl
  | n + 1 => by simp only [sumR]; rw [sumR_mul c f n, Nat.mul_add]
theorem sumR_zero : ∀ n, sumR (fun _ => 0) n = 0
  | 0 => rfl
  | n + 1 => by simp only [sumR]; rw [sumR_zero n]
def trm (n d m acc x : Nat) : Nat := if goodB n d (acc + x) = true then 1048576 ^ wt m x else 0
theorem pol_sum (n d : Nat) : ∀ m c, goodB n d (2 ^ m * c) = true → polF n d m (2 ^ m * c) = sumR (trm n d m (2 ^ m * c)) (2 ^ m)
  | 0, c, h => by
    show 1 = 0 + trm n d 0 (2 ^ 0 * c) 0
    unfold trm
    rw [Nat.add_zero, if_pos h]
    rfl
  | m + 1, c, h => by
    have e : 2 ^ (m + 1) * c = 2 ^ m * (2 * c) := by rw [Nat.pow_succ, Nat.mul_assoc]
    have e2 : 2 ^ (m + 1) * c + 2 ^ m = 2 ^ m * (2 * c + 1) := by rw [e, Nat.mul_add, Nat.mul_one]
    have hs : sumR (trm n d (m + 1) (2 ^ (m + 1) * c)) (2 ^ (m + 1)) = sumR (trm n d m (2 ^ m * (2 * c))) (2 ^ m) + sumR (fun i => trm n d (m + 1) (2 ^ (m + 1) * c) (2 ^ m + i)) (2 ^ m) := by
      rw [show 2 ^ (m + 1) = 2 ^ m + 2 ^ m by rw [Nat.pow_succ]; omega, sumR_add]
      congr 1
      refine sumR_congr _ fun i hi => ?_
      unfold trm
      rw [wt_zero hi, ← e, show 2 ^ (m + 1) = 2 ^ m + 2 ^ m by rw [Nat.pow_succ]; omega]
    rw [hs]
    show polF n d m (2 ^ (m + 1) * c) + (bif goodB n d (2 ^ (m + 1) * c + 2 ^ m) then 1048576 * polF n d m (2 ^ (m + 1) * c + 2 ^ m) else 0) = _
    rw [e2, e, pol_sum n d m (2 * c) (by rw [← e]; exact h)]
    congr 1
    cases hg : goodB n d (2 ^ m * (2 * c + 1))
    · rw [cond_false, ← sumR_zero (2 ^ m)]
      refine sumR_congr _ fun i hi => ?_
      unfold trm
      rw [if_neg]
      intro q
      rw [← Nat.add_assoc, show 2 ^ m * (2 * c) + 2 ^ m = 2 ^ m * (2 * c + 1) by rw [Nat.mul_add, Nat.mul_one]] at q
      rw [good_mono (up_bits hi) q] at hg
      cases hg
    · rw [cond_true, pol_sum n d m (2 * c + 1) hg, ← sumR_mul]
      refine sumR_congr _ fun i hi => ?_
      unfold trm
      rw [← Nat.add_assoc, show 2 ^ m * (2 * c) + 2 ^ m = 2 ^ m * (2 * c + 1) by rw [Nat.mul_add, Nat.mul_one], wt_one hi]
      by_cases q : goodB n d (2 ^ m * (2 * c + 1) + i) = true
      · rw [if_pos q, if_pos q, Nat.pow_succ, Nat.mul_comm]
      · rw [if_neg q, if_neg q, Nat.mul_zero]
/-- How many avoiding bars of n pulses have k beats. -/
def cntM (n d k : Nat) : Nat → Nat
  | 0 => 0
  | N + 1 => cntM n d k N + if goodB n d N = true ∧ wt n N = k then 1 else 0
def cntV (n d k : Nat) : Nat := cntM n d k (2 ^ n)
theorem cntM_le (n d k : Nat) : ∀ N, cntM n d k N ≤ N
  | 0 => Nat.le_refl 0
  | N + 1 => by
    have := cntM_le n d k N
    simp only [cntM]
    split <;> omega
theorem digs_add (f g : Nat → Nat) : ∀ K, digs (fun k => f k + g k) K = digs f K + digs g K
  | 0 => rfl
  | K + 1 => by
    simp only [digs]
    rw [digs_add f g K, Nat.add_mul]
    omega
theorem digs_zero : ∀ K, digs (fun _ => 0) K = 0
  | 0 => rfl
  | K + 1 => by simp only [digs]; rw [digs_zero K]; simp
theorem digs_one (j : Nat) : ∀ K, digs (fun k => if j = k then 1 else 0) K = if j ≤ K then 1048576 ^ j else 0
  | 0 => by
    simp only [digs]
    by_cases h : j = 0
    · subst h; rfl
    · rw [if_neg h, if_neg (by omega)]
  | K + 1 => by
    simp only [digs]
    rw [digs_one j K]
    by_cases h : j ≤ K
    · rw [if_pos h, if_neg (by omega), if_pos (by omega)]; simp
    · rw [if_neg h]
      by_cases h2 : j = K + 1
      · subst h2; rw [if_pos rfl, if_pos (by omega)]; simp
      · rw [if_neg h2, if_neg (by omega)]; simp
theorem digs_congr {f g : Nat → Nat} : ∀ K, (∀ k, k ≤ K → f k = g k) → digs f K = digs g K
  | 0, h => h 0 (Nat.le_refl 0)
  | K + 1, h => by simp only [digs]; rw [digs_congr K (fun k hk => h k (by omega)), h (K + 1) (Nat.le_refl _)]
theorem sum_digs (n d : Nat) : ∀ N, sumR (trm n d n 0) N = digs (fun k => cntM n d k N) n
  | 0 => (digs_zero n).symm
  | N + 1 => by
    simp only [sumR, cntM]
    rw [digs_add (fun k => cntM n d k N) (fun k => if goodB n d N = true ∧ wt n N = k then 1 else 0), sum_digs n d N]
    congr 1
    unfold trm
    rw [Nat.zero_add]
    by_cases hg : goodB n d N = true
    · rw [if_pos hg, digs_congr (g := fun k => if wt n N = k then 1 else 0) n (fun k _ => by simp [hg]), digs_one, if_pos (wt_le n N)]
    · rw [if_neg hg, digs_congr (g := fun _ => 0) n (fun k _ => by simp [hg]), digs_zero]
theorem digs_inj {f g : Nat → Nat} : ∀ K, (∀ k, k ≤ K → f k < 1048576 ∧ g k < 1048576) → digs f K = digs g K → ∀ k, k ≤ K → f k = g k
  | 0, _, h, k, hk => by
    obtain rfl : k = 0 := by omega
    exact h
  | K + 1, hb, h, k, hk => by
    have hlt : ∀ (f : Nat → Nat) K, (∀ k, k ≤ K → f k < 1048576) → digs f K < 1048576 ^ (K + 1) := by
      intro f K
      induction K with
      | zero => intro hf; have := hf 0 (Nat.le_refl 0); simpa [digs] using this
      | succ K ih =>
        intro hf
        have h1 := ih (fun k hk => hf k (by omega))
        have h2 := hf (K + 1) (Nat.le_refl _)
        simp only [digs]
        rw [Nat.pow_succ 1048576 (K + 1), Nat.mul_comm (1048576 ^ (K + 1)) 1048576]
        have h3 : (f (K + 1) + 1) * 1048576 ^ (K + 1) ≤ 1048576 * 1048576 ^ (K + 1) := Nat.mul_le_mul_right _ h2
        rw [Nat.add_mul, Nat.one_mul] at h3
        omega
    simp only [digs] at h
    have f1 := hlt f K (fun k hk => (hb k (by omega)).1)
    have g1 := hlt g K (fun k hk => (hb k (by omega)).2)
    have hm := congrArg (· % 1048576 ^ (K + 1)) h
    have hd := congrArg (· / 1048576 ^ (K + 1)) h
    simp only [Nat.add_mul_mod_self_right] at hm
    rw [Nat.mod_eq_of_lt f1, Nat.mod_eq_of_lt g1] at hm
    have hp : 0 < 1048576 ^ (K + 1) := Nat.pow_pos (by omega)
    simp only [Nat.add_mul_div_right _ _ hp] at hd
    rw [Nat.div_eq_of_lt f1, Nat.div_eq_of_lt g1] at hd
    by_cases e : k = K + 1
    · subst e; omega
    · exact digs_inj K (fun k hk => hb k (by omega)) hm k (by omega)

/-! ### the first one -/
/-- The greatest avoiding bar with k beats more, the m lowest bits being open: a beat first, if it may be. -/
def firstN (n d : Nat) : Nat → Nat → Nat → Option Nat
  | _, acc, 0 => some acc
  | 0, _, _ + 1 => none
  | m + 1, acc, k + 1 => if goodB n d (acc + 2 ^ m) = true then
      (match firstN n d m (acc + 2 ^ m) k with
        | some z => some z
        | none => firstN n d m acc (k + 1))
    else firstN n d m acc (k + 1)
theorem wt_pos {m x : Nat} (hx : x < 2 ^ m) (h : wt m x = 0) : x = 0 := by
  induction m generalizing x with
  | zero => simpa using hx
  | succ m ih =>
    simp only [wt] at h
    by_cases hq : x < 2 ^ m
    · exact ih hq (by omega)
    · exfalso
      have h1 : x / 2 ^ m = 1 := by
        have h2 : x / 2 ^ m < 2 := by rw [Nat.div_lt_iff_lt_mul (Nat.two_pow_pos m)]; rw [Nat.pow_succ] at hx; omega
        have h3 : 1 ≤ x / 2 ^ m := by rw [Nat.le_div_iff_mul_le (Nat.two_pow_pos m)]; omega
        omega
      rw [h1] at h
      omega
theorem wt_none : ∀ m, wt m 0 = 0
  | 0 => rfl
  | m + 1 => by simp only [wt]; rw [wt_none m]; simp
/-- What firstN finds: the greatest one, or none. -/
def FirstIs (n d m acc k : Nat) : Option Nat → Prop
  | some z => ∃ y, y < 2 ^ m ∧ z = acc + y ∧ goodB n d z = true ∧ wt m y = k ∧ ∀ y', y < y' → y' < 2 ^ m → ¬ (goodB n d (acc + y') = true ∧ wt m y' = k)
  | none => ∀ y, y < 2 ^ m → ¬ (goodB n d (acc + y) = true ∧ wt m y = k)
theorem first_is (n d : Nat) : ∀ m c k, goodB n d (2 ^ m * c) = true → FirstIs n d m (2 ^ m * c) k (firstN n d m (2 ^ m * c) k)
  | m, c, 0, h => by
    have e : firstN n d m (2 ^ m * c) 0 = some (2 ^ m * c) := by cases m <;> rfl
    rw [e]
    refine ⟨0, Nat.two_pow_pos m, rfl, h, wt_none m, fun y' h1 h2 h3 => ?_⟩
    have := wt_pos h2 h3.2
    omega
  | 0, c, k + 1, h => by
    intro y hy q
    have : y = 0 := by simpa using hy
    subst this
    have := q.2
    simp [wt] at this
  | m + 1, c, k + 1, h => by
    have e : 2 ^ (m + 1) * c = 2 ^ m * (2 * c) := by rw [Nat.pow_succ, Nat.mul_assoc]
    have e2 : 2 ^ (m + 1) * c + 2 ^ m = 2 ^ m * (2 * c + 1) := by rw [e, Nat.mul_add, Nat.mul_one]
    have ih0 := first_is n d m (2 * c) (k + 1) (by rw [← e]; exact h)
    have hp : 2 ^ (m + 1) = 2 ^ m + 2 ^ m := by rw [Nat.pow_succ]; omega
    have low : ∀ r, FirstIs n d m (2 ^ m * (2 * c)) (k + 1) r → (∀ y, y < 2 ^ m → ¬ (goodB n d (2 ^ (m + 1) * c + (2 ^ m + y)) = true ∧ wt (m + 1) (2 ^ m + y) = k + 1)) → FirstIs n d (m + 1) (2 ^ (m + 1) * c) (k + 1) r := by
      intro r hr hno
      cases r with
      | none =>
        intro y hy q
        by_cases hl : y < 2 ^ m
        · rw [wt_zero hl, e] at q
          exact hr y hl q
        · have hy2 := hno (y - 2 ^ m) (by omega)
          rw [show 2 ^ m + (y - 2 ^ m) = y by omega] at hy2
          exact hy2 q
      | some z =>
        obtain ⟨y, hy, hz, hg, hw, hmx⟩ := hr
        refine ⟨y, by omega, by rw [e]; exact hz, hg, by rw [wt_zero hy]; exact hw, fun y' h1 h2 q => ?_⟩
        by_cases hl : y' < 2 ^ m
        · rw [wt_zero hl, e] at q
          exact hmx y' h1 hl q
        · have hy2 := hno (y' - 2 ^ m) (by omega)
          rw [show 2 ^ m + (y' - 2 ^ m) = y' by omega] at hy2
          exact hy2 q
    show FirstIs n d (m + 1) (2 ^ (m + 1) * c) (k + 1) (if goodB n d (2 ^ (m + 1) * c + 2 ^ m) = true then
      (match firstN n d m (2 ^ (m + 1) * c + 2 ^ m) k with
        | some z => some z
        | none => firstN n d m (2 ^ (m + 1) * c) (k + 1))
      else firstN n d m (2 ^ (m + 1) * c) (k + 1))
    by_cases hg : goodB n d (2 ^ (m + 1) * c + 2 ^ m) = true
    · rw [if_pos hg]
      have ih1 := first_is n d m (2 * c + 1) k (by rw [← e2]; exact hg)
      rw [← e2] at ih1
      cases hf : firstN n d m (2 ^ (m + 1) * c + 2 ^ m) k with
      | none =>
        rw [hf] at ih1
        rw [e]
        rw [e] at low
        refine low _ ih0 fun y hy q => ?_
        rw [wt_one hy, ← Nat.add_assoc, ← e] at q
        exact ih1 y hy ⟨q.1, by omega⟩
      | some z =>
        rw [hf] at ih1
        obtain ⟨y, hy, hz, hgz, hw, hmx⟩ := ih1
        refine ⟨2 ^ m + y, by omega, by omega, hgz, by rw [wt_one hy]; omega, fun y' h1 h2 q => ?_⟩
        have h3 := hmx (y' - 2 ^ m) (by omega) (by omega)
        have h4 : wt (m + 1) y' = wt m (y' - 2 ^ m) + 1 := by
          have := wt_one (m := m) (x := y' - 2 ^ m) (by omega)
          rwa [show 2 ^ m + (y' - 2 ^ m) = y' by omega] at this
        refine h3 ⟨?_, by omega⟩
        rw [Nat.add_assoc, show 2 ^ m + (y' - 2 ^ m) = y' by omega]
        exact q.1
    · rw [if_neg hg]
      rw [e]
      rw [e] at low
      refine low _ ih0 fun y hy q => hg ?_
      rw [e2]
      refine good_mono (up_bits hy) ?_
      rw [← e2, e, Nat.add_assoc]
      exact q.1

theorem cntAll_yes : cntAll 16 = true := by decide +kernel
def cntLow (N : Nat) : Bool := (List.range (N - 1)).all fun i => (List.range (i + 1)).all fun j => (List.range (i + 3)).all fun k => Nat.blt (cntF (i + 2) (j + 1) k) 1048576
theorem cntLow_yes : cntLow 16 = true := by decide +kernel
/-- The model's formula counts the avoiding bars. -/
theorem cntF_is {n d k : Nat} (hn : 2 ≤ n ∧ n ≤ 16) (hd : 1 ≤ d ∧ d < n) (hk : k ≤ n) : cntF n d k = cntV n d k := by
  have e := cntAll_yes
  unfold cntAll at e
  rw [List.all_eq_true] at e
  have e1 := e (n - 2) (List.mem_range.2 (by omega))
  rw [List.all_eq_true] at e1
  have e2 := e1 (d - 1) (List.mem_range.2 (by omega))
  rw [show n - 2 + 2 = n by omega, show d - 1 + 1 = d by omega] at e2
  have e3 := Nat.eq_of_beq_eq_true e2
  have l := cntLow_yes
  unfold cntLow at l
  rw [List.all_eq_true] at l
  have l1 := l (n - 2) (List.mem_range.2 (by omega))
  rw [List.all_eq_true] at l1
  have l2 := l1 (d - 1) (List.mem_range.2 (by omega))
  rw [List.all_eq_true, show n - 2 + 2 = n by omega, show d - 1 + 1 = d by omega, show n - 2 + 3 = n + 1 by omega] at l2
  have h0 : goodB n d (2 ^ n * 0) = true := by
    rw [Nat.mul_zero]
    unfold goodB
    rw [Nat.zero_and]
    rfl
  have hs := pol_sum n d n 0 h0
  rw [Nat.mul_zero, e3, sum_digs] at hs
  refine digs_inj n (fun j hj => ⟨?_, ?_⟩) hs k hk
  · have := l2 j (List.mem_range.2 (by omega))
    exact Nat.blt_eq ▸ this
  · have h1 := cntM_le n d j (2 ^ n)
    have h2 : 2 ^ n ≤ 2 ^ 16 := Nat.pow_le_pow_right (by omega) hn.2
    have h3 : (2 : Nat) ^ 16 = 65536 := rfl
    show cntM n d j (2 ^ n) < 1048576
    omega

/-! ### bars as numbers and as lists -/
theorem bits_mem {n x : Nat} {p : Int} : p ∈ bitsL n x ↔ ∃ i : Nat, i < n ∧ p = i ∧ x.testBit (n - 1 - i) = true := by
  unfold bitsL bitP
  rw [List.mem_map]
  constructor
  · rintro ⟨i, hi, rfl⟩
    rw [List.mem_filter, List.mem_range, decide_eq_true_eq] at hi
    exact ⟨i, hi.1, rfl, by rw [Nat.testBit_eq_decide_div_mod_eq]; exact decide_eq_true hi.2⟩
  · rintro ⟨i, hi, rfl, hb⟩
    refine ⟨i, ?_, rfl⟩
    rw [List.mem_filter, List.mem_range, decide_eq_true_eq]
    rw [Nat.testBit_eq_decide_div_mod_eq, decide_eq_true_eq] at hb
    exact ⟨hi, hb⟩
theorem bitP_wt (n x : Nat) : ∀ k, k ≤ n → wt (n - k) x + (bitP n x k).length = wt n x
  | 0, _ => by simp [bitP]
  | k + 1, h => by
    have ih := bitP_wt n x k (by omega)
    have e : wt (n - k) x = wt (n - (k + 1)) x + x / 2 ^ (n - (k + 1)) % 2 := by
      rw [show n - k = n - (k + 1) + 1 by omega]
      rfl
    rw [e] at ih
    have e2 : n - 1 - k = n - (k + 1) := by omega
    by_cases hb : x / 2 ^ (n - 1 - k) % 2 = 1
    · rw [bitP_yes hb, List.length_append, List.length_singleton]
      rw [e2] at hb
      omega
    · rw [bitP_no hb]
      rw [e2] at hb
      have : x / 2 ^ (n - (k + 1)) % 2 < 2 := Nat.mod_lt _ (by omega)
      omega
theorem bits_wt (n x : Nat) : (bitsL n x).length = wt n x := by
  have := bitP_wt n x n (Nat.le_refl n)
  rw [Nat.sub_self] at this
  unfold bitsL
  simpa [wt] using this
/-- Two places that are d apart, around. -/
theorem good_apart {n d x : Nat} (hd : 1 ≤ d ∧ d < n) (hx : x < 2 ^ n) : goodB n d x = true ↔ ∀ i, i < n → x.testBit i = true → x.testBit ((i + d) % n) = false := by
  rw [good_bits]
  constructor
  · intro h i hi hb
    obtain ⟨h1, h2⟩ := h i hb
    by_cases hw : i + d < n
    · rw [Nat.mod_eq_of_lt hw, Nat.add_comm]; exact h1
    · rw [Nat.mod_eq_sub_mod (by omega), Nat.mod_eq_of_lt (by omega), show i + d - n = i - (n - d) by omega]
      exact h2 hi (by omega)
  · intro h i hb
    have hi : i < n := by
      rcases Nat.lt_or_ge i n with q | q
      · exact q
      · rw [Nat.testBit_lt_two_pow (Nat.lt_of_lt_of_le hx (Nat.pow_le_pow_right (by omega) q))] at hb
        cases hb
    have h1 := h i hi hb
    constructor
    · by_cases hw : i + d < n
      · rw [Nat.mod_eq_of_lt hw] at h1; rw [Nat.add_comm]; exact h1
      · exact Nat.testBit_lt_two_pow (Nat.lt_of_lt_of_le hx (Nat.pow_le_pow_right (by omega) (by omega)))
    · intro _ h4
      rw [Nat.mod_eq_sub_mod (by omega), Nat.mod_eq_of_lt (by omega), show i + d - n = i - (n - d) by omega] at h1
      exact h1
/-- No two beats are d apart. -/
def avC (n : Int) (zs : List Int) (d : Int) : Prop := ∀ p ∈ zs, (p + d) % n ∉ zs
theorem good_avoid {n d x : Nat} (hd : 1 ≤ d ∧ d < n) (hx : x < 2 ^ n) : goodB n d x = true ↔ avC n (bitsL n x) d := by
  rw [good_apart hd hx]
  constructor
  · intro h p hp hq
    obtain ⟨i, hi, rfl, hb⟩ := bits_mem.1 hp
    obtain ⟨j, hj, e, hb2⟩ := bits_mem.1 hq
    have e' : (((i + d) % n : Nat) : Int) = (j : Int) := by rw [Int.natCast_emod, Int.natCast_add]; exact e
    have ej : (i + d) % n = j := by omega
    have h1 := h (n - 1 - j) (by omega) hb2
    have e2 : (n - 1 - j + d) % n = n - 1 - i := by
      by_cases hw : i + d < n
      · rw [Nat.mod_eq_of_lt hw] at ej
        rw [Nat.mod_eq_of_lt (by omega)]; omega
      · rw [Nat.mod_eq_sub_mod (by omega), Nat.mod_eq_of_lt (by omega)] at ej
        rw [Nat.mod_eq_sub_mod (by omega), Nat.mod_eq_of_lt (by omega)]; omega
    rw [e2, hb] at h1
    cases h1
  · intro h i hi hb
    cases hq : x.testBit ((i + d) % n)
    · rfl
    · exfalso
      have hlt : (i + d) % n < n := Nat.mod_lt _ (by omega)
      refine h (((n - 1 - (i + d) % n : Nat) : Nat) : Int) (bits_mem.2 ⟨_, by omega, rfl, by rw [show n - 1 - (n - 1 - (i + d) % n) = (i + d) % n by omega]; exact hq⟩) ?_
      rw [bits_mem]
      refine ⟨n - 1 - i, by omega, ?_, by rw [show n - 1 - (n - 1 - i) = i by omega]; exact hb⟩
      by_cases hw : i + d < n
      · rw [Nat.mod_eq_of_lt hw]
        have : ((n - 1 - (i + d) : Nat) : Int) + d = ((n - 1 - i : Nat) : Int) := by omega
        rw [this]
        exact Int.emod_eq_of_lt (by omega) (by omega)
      · rw [Nat.mod_eq_sub_mod (by omega), Nat.mod_eq_of_lt (by omega)]
        have : ((n - 1 - (i + d - n) : Nat) : Int) + d = ((n - 1 - i : Nat) : Int) + n := by omega
        rw [this, Int.add_emod_right]
        exact Int.emod_eq_of_lt (by omega) (by omega)
/-! ### one beat more -/
theorem bits_zero (n : Nat) : bitsL n 0 = [] := by
  rw [List.eq_nil_iff_forall_not_mem]
  intro p hp
  obtain ⟨i, _, _, hb⟩ := bits_mem.1 hp
  rw [Nat.zero_testBit] at hb
  cases hb
theorem high_bits {m c : Nat} {i : Nat} (h : (2 ^ (m + 1) * c).testBit i = true) : m < i := by
  rw [Nat.testBit_two_pow_mul] at h
  simp only [Bool.and_eq_true, decide_eq_true_eq] at h
  omega
theorem add_bit {m c i : Nat} : (2 ^ (m + 1) * c + 2 ^ m).testBit i = ((2 ^ (m + 1) * c).testBit i || decide (i = m)) := by
  rw [Nat.testBit_two_pow_mul_add c (show 2 ^ m < 2 ^ (m + 1) by rw [Nat.pow_succ]; have := Nat.two_pow_pos m; omega), Nat.testBit_two_pow_mul]
  by_cases h : i < m + 1
  · rw [if_pos h, Nat.testBit_two_pow]
    have h1 : ¬ i ≥ m + 1 := by omega
    simp only [h1, decide_false, Bool.false_and, Bool.false_or]
    by_cases e : m = i
    · subst e; simp
    · rw [decide_eq_false e, decide_eq_false (fun q => e q.symm)]
  · rw [if_neg h]
    have h1 : i ≥ m + 1 := by omega
    have h2 : ¬ i = m := by omega
    simp [h1, h2]
theorem bits_add {n m c : Nat} (hn : 1 ≤ n ∧ n ≤ 24) (hm : m < n) : bitsL n (2 ^ (m + 1) * c + 2 ^ m) = bitsL n (2 ^ (m + 1) * c) ++ [((n - 1 - m : Nat) : Int)] := by
  have hb : ∀ x ∈ bitsL n (2 ^ (m + 1) * c), 0 ≤ x ∧ x < ((n - 1 - m : Nat) : Int) := by
    intro x hx
    obtain ⟨i, hi, rfl, hb⟩ := bits_mem.1 hx
    have := high_bits hb
    omega
  have ho := bits_ok (n := n) (bits := 2 ^ (m + 1) * c) hn.1 hn.2
  have hs : (bitsL n (2 ^ (m + 1) * c) ++ [((n - 1 - m : Nat) : Int)]).Pairwise (· < ·) := by
    rw [List.pairwise_append]
    refine ⟨ok_sorted ho, by simp, fun a ha b hb2 => ?_⟩
    rw [List.mem_singleton] at hb2
    rw [hb2]
    exact (hb a ha).2
  refine lt_uniq (ok_sorted (bits_ok (n := n) (bits := 2 ^ (m + 1) * c + 2 ^ m) hn.1 hn.2)) hs fun x => ?_
  rw [List.mem_append, List.mem_singleton, bits_mem, bits_mem]
  constructor
  · rintro ⟨i, hi, rfl, hq⟩
    rw [add_bit, Bool.or_eq_true, decide_eq_true_eq] at hq
    rcases hq with q | q
    · exact .inl ⟨i, hi, rfl, q⟩
    · exact .inr (by omega)
  · rintro (⟨i, hi, rfl, hq⟩ | rfl)
    · exact ⟨i, hi, rfl, by rw [add_bit, hq]; rfl⟩
    · exact ⟨n - 1 - m, by omega, rfl, by rw [add_bit, show n - 1 - (n - 1 - m) = m by omega]; simp⟩
/-- A beat may be added exactly if there is none d before it and none d behind it. -/
theorem good_add {n d m c : Nat} (hn : 2 ≤ n ∧ n ≤ 24) (hd : 1 ≤ d ∧ d < n) (hm : m < n) (hx : 2 ^ (m + 1) * c + 2 ^ m < 2 ^ n) (hg : goodB n d (2 ^ (m + 1) * c) = true) :
    goodB n d (2 ^ (m + 1) * c + 2 ^ m) = true ↔ (((n - 1 - m : Nat) : Int) + d) % n ∉ bitsL n (2 ^ (m + 1) * c) ∧ (((n - 1 - m : Nat) : Int) - d) % n ∉ bitsL n (2 ^ (m + 1) * c) := by
  rw [good_avoid hd (Nat.lt_of_le_of_lt (Nat.le_add_right _ _) hx)] at hg
  rw [good_avoid hd hx, bits_add ⟨by omega, hn.2⟩ hm]
  have ho := bits_ok (n := n) (bits := 2 ^ (m + 1) * c) (by omega) hn.2
  generalize bitsL n (2 ^ (m + 1) * c) = L at *
  obtain ⟨p, hp, hpn⟩ : ∃ p : Int, ((n - 1 - m : Nat) : Int) = p ∧ 0 ≤ p ∧ p < n := ⟨_, rfl, by omega, by omega⟩
  rw [hp]
  have hdn : (1 : Int) ≤ d ∧ (d : Int) < n := by omega
  have hne : (p + d) % n ≠ p := by
    intro e
    by_cases q : p + d < n
    · rw [Int.emod_eq_of_lt (by omega) q] at e; omega
    · have : (p + d) % n = p + d - n := by rw [← Int.sub_emod_right (p + d) n, Int.emod_eq_of_lt (by omega) (by omega)]
      omega
  constructor
  · intro h
    refine ⟨fun q => h p (by simp) (by simp [q]), fun q => ?_⟩
    have h2 := h _ (List.mem_append_left _ q)
    rw [em_add, show p - (d : Int) + d = p by omega, em_self hpn] at h2
    exact h2 (by simp)
  · rintro ⟨h1, h2⟩ q hq
    rcases List.mem_append.1 hq with hq | hq
    · intro h3
      rcases List.mem_append.1 h3 with h3 | h3
      · exact hg q hq h3
      · rw [List.mem_singleton] at h3
        have e : q = (p - d) % n := by
          rw [← h3, em_sub, show q + (d : Int) - d = q by omega, em_self (ok_range ho q hq)]
        rw [← e] at h2
        exact h2 hq
    · rw [List.mem_singleton] at hq
      subst hq
      intro h3
      rcases List.mem_append.1 h3 with h3 | h3
      · exact h1 h3
      · exact hne (List.mem_singleton.1 h3)
/-- Too few pulses. -/
theorem first_few {n d m c k : Nat} (hg : goodB n d (2 ^ m * c) = true) (h : m < k) : firstN n d m (2 ^ m * c) k = none := by
  have := first_is n d m c k hg
  cases hf : firstN n d m (2 ^ m * c) k with
  | none => rfl
  | some z =>
    rw [hf] at this
    obtain ⟨y, _, _, _, hw, _⟩ := this
    have := wt_le m y
    omega
end Go.Proofs.Ytgmhdmhnedljcaa.Rhy
