/-
  Helpers of the claims beside this text: plain mathematics of generated rhythms: when no two of their beats are equal; a rhythm whose spans have two sizes each is generated.
-/
import Derived.Test.YtgmhdmhnedljcaaEvn
import Derived.Test.YtgmhdmhnedljcaaFma
import Derived.Test.YtgmhdmhnedljcaaOut
import Derived.Test.YtgmhdmhnedljcaaHas
import Derived.Test.YtgmhdmhnedljcaaIvs
namespace Go.Proofs.Ytgmhdmhnedljcaa.Rhy
set_option linter.unusedVariables false

/-! generated rhythms -/
def genT (n g : Int) (i : Nat) : Int := ((i : Int) * g) % n
def genP (n g : Int) (j : Nat) : List Int := (List.range j).map (genT n g)
def genZ (n k g : Int) : List Int := ofZ n.toNat (genP n g k.toNat)
def GenC (n k g : Int) : Prop := EvC k n ∧ (1 ≤ g ∧ g ≤ n) ∧ (genP n g k.toNat).Nodup
theorem genP_len (n g : Int) (j : Nat) : (genP n g j).length = j := by simp [genP]
theorem genP_snoc (n g : Int) (j : Nat) : genP n g (j + 1) = genP n g j ++ [genT n g j] := by simp [genP, List.range_succ]
theorem genT_bd {n : Int} (h : 1 ≤ n) (g : Int) (i : Nat) : 0 ≤ genT n g i ∧ genT n g i < n := ⟨Int.emod_nonneg _ (by omega), Int.emod_lt_of_pos _ (by omega)⟩
theorem genP_mem {n g : Int} {j : Nat} {x : Int} : x ∈ genP n g j ↔ ∃ i, i < j ∧ genT n g i = x := by
  unfold genP
  rw [List.mem_map]
  exact ⟨fun ⟨i, hi, e⟩ => ⟨i, List.mem_range.1 hi, e⟩, fun ⟨i, hi, e⟩ => ⟨i, List.mem_range.2 hi, e⟩⟩
theorem genZ_mem {n k g : Int} (h : 1 ≤ n) {x : Int} : x ∈ genZ n k g ↔ ∃ i : Nat, (i : Int) < k ∧ genT n g i = x := by
  unfold genZ
  rw [ofZ_mem, genP_mem]
  constructor
  · rintro ⟨_, i, hi, e⟩; exact ⟨i, by omega, e⟩
  · rintro ⟨i, hi, e⟩
    have := genT_bd h g i
    exact ⟨by omega, i, by omega, e⟩
theorem genZ_ok {n k g : Int} (h : 1 ≤ n ∧ n ≤ 24) : Ok n (genZ n k g) := by
  refine ok_of h.1 h.2 (ofZ_sorted _ _) fun z hz => ?_
  have := (ofZ_mem.1 hz).1
  omega
theorem genP_nodup {n g : Int} {j : Nat} : (genP n g j).Nodup ↔ ∀ i i', i < i' → i' < j → genT n g i ≠ genT n g i' := by
  unfold genP
  rw [List.Nodup, List.pairwise_map, List.pairwise_iff_getElem]
  constructor
  · intro h i i' h1 h2
    have := h i i' (by simp; omega) (by simp; omega) h1
    simpa using this
  · intro h i i' h1 h2 h3
    have := h i i' h3 (by simpa using h2)
    simpa using this

/-! a rhythm whose spans have two sizes each is generated -/
theorem ofZ_two {l : List Int} {N : Nat} (hb : ∀ x ∈ l, 0 ≤ x ∧ x < N) (h : (ofZ N l).length = 2) : ∃ u v, u < v ∧ u ∈ l ∧ v ∈ l ∧ ∀ x ∈ l, x = u ∨ x = v := by
  obtain ⟨u, v, e⟩ : ∃ u v, ofZ N l = [u, v] := by
    cases hl : ofZ N l with
    | nil => rw [hl] at h; simp at h
    | cons u t =>
      cases t with
      | nil => rw [hl] at h; simp at h
      | cons v t =>
        cases t with
        | nil => exact ⟨u, v, rfl⟩
        | cons w t => rw [hl] at h; simp at h
  have hs := ofZ_sorted N l
  rw [e] at hs
  have hu : u ∈ ofZ N l := by rw [e]; simp
  have hv : v ∈ ofZ N l := by rw [e]; simp
  refine ⟨u, v, by simpa using hs, (ofZ_mem.1 hu).2, (ofZ_mem.1 hv).2, fun x hx => ?_⟩
  have : x ∈ ofZ N l := ofZ_mem.2 ⟨hb x hx, hx⟩
  rw [e] at this
  simpa using this
def cntW (B : Nat → Int) (c k i : Nat) : Int := sumN (fun j => B ((i + j) % c)) k
theorem cntW_sum {B : Nat → Int} {c k : Nat} (hk : k ≤ c) : sumN (cntW B c k) c = k * sumN B c := by
  unfold cntW
  rw [show (fun i => sumN (fun j => B ((i + j) % c)) k) = fun i => sumN ((fun i j => B ((i + j) % c)) i) k from rfl, sumN_swap]
  rw [sumN_congr (g := fun _ => sumN B c) k (fun j hj => by
    have := sumN_turn B (c := c) (i := j) (by omega)
    rw [← this]
    exact sumN_congr c (fun i _ => by rw [Nat.add_comm]))]
  clear hk
  induction k with
  | zero => simp [sumN]
  | succ k ih => simp only [sumN]; rw [ih, Int.natCast_add, Int.add_mul]; simp
theorem cntW_next {B : Nat → Int} {c k i : Nat} : cntW B c k (i + 1) = cntW B c k i + B ((i + k) % c) - B (i % c) := by
  unfold cntW
  have e1 := sumN_add (fun j => B ((i + j) % c)) 1 k
  have e2 : sumN (fun j => B ((i + j) % c)) (1 + k) = sumN (fun j => B ((i + j) % c)) k + B ((i + k) % c) := by rw [Nat.add_comm]; rfl
  rw [e2] at e1
  have e3 : sumN (fun j => B ((i + (1 + j)) % c)) k = sumN (fun j => B ((i + 1 + j) % c)) k := sumN_congr k (fun j _ => by rw [Nat.add_assoc])
  rw [e3] at e1
  have e4 : sumN (fun j => B ((i + j) % c)) 1 = B (i % c) := by simp [sumN]
  omega
/-- A list of numbers that takes two values and never leaps by more than one. -/
theorem two_near {f : Nat → Int} {c : Nat} (hd : ∀ i, i + 1 < c → f (i + 1) - f i ≤ 1 ∧ f i - f (i + 1) ≤ 1) {u v : Int} (huv : u < v) (hv : ∀ i, i < c → f i = u ∨ f i = v)
    (h1 : ∃ i, i < c ∧ f i = u) (h2 : ∃ i, i < c ∧ f i = v) : v = u + 1 := by
  by_cases hc : ∃ i, i + 1 < c ∧ f (i + 1) ≠ f i
  · obtain ⟨i, hi, hne⟩ := hc
    have := hd i hi
    have := hv i (by omega)
    have := hv (i + 1) hi
    omega
  · have hall : ∀ i, i < c → f i = f 0 := by
      intro i
      induction i with
      | zero => intro _; rfl
      | succ i ih =>
        intro hi
        have : f (i + 1) = f i := by
          by_cases e : f (i + 1) = f i
          · exact e
          · exact absurd ⟨i, hi, e⟩ hc
        rw [this, ih (by omega)]
    obtain ⟨i, hi, e1⟩ := h1
    obtain ⟨j, hj, e2⟩ := h2
    have := hall i hi
    have := hall j hj
    omega
theorem sumN_sub (f : Nat → Int) (b : Int) : ∀ n : Nat, sumN (fun i => f i - b) n = sumN f n - n * b
  | 0 => by simp [sumN]
  | n + 1 => by
    simp only [sumN]
    rw [sumN_sub f b n, show ((n + 1 : Nat) : Int) * b = n * b + b by rw [Int.natCast_add, Int.add_mul]; simp]
    omega
/-- Zeros and ones: their sum is not negative, at most as great as there are numbers, and where it is one, one of them is. -/
theorem sumN_bits {f : Nat → Int} : ∀ n : Nat, (∀ i, i < n → f i = 0 ∨ f i = 1) → (0 ≤ sumN f n ∧ sumN f n ≤ n) ∧ ((∃ i, i < n ∧ f i = 1) → 1 ≤ sumN f n) ∧ ((∃ i, i < n ∧ f i = 0) → sumN f n ≤ (n : Int) - 1) ∧
    (sumN f n = 0 → ∀ i, i < n → f i = 0) ∧ (sumN f n = 1 → ∃ i, i < n ∧ f i = 1 ∧ ∀ j, j < n → j ≠ i → f j = 0)
  | 0, _ => ⟨by simp [sumN], fun ⟨i, hi, _⟩ => absurd hi (by omega), fun ⟨i, hi, _⟩ => absurd hi (by omega), fun _ i hi => absurd hi (by omega), fun h => by simp [sumN] at h⟩
  | n + 1, h => by
    obtain ⟨h1, h2, h3, h4, h5⟩ := sumN_bits n (fun i hi => h i (by omega))
    have hn := h n (by omega)
    simp only [sumN]
    refine ⟨by omega, ?_, ?_, ?_, ?_⟩
    · rintro ⟨i, hi, e⟩
      by_cases q : i = n
      · subst q; omega
      · have := h2 ⟨i, by omega, e⟩; omega
    · rintro ⟨i, hi, e⟩
      by_cases q : i = n
      · subst q; omega
      · have := h3 ⟨i, by omega, e⟩; omega
    · intro hs i hi
      by_cases q : i = n
      · subst q; omega
      · exact h4 (by omega) i (by omega)
    · intro hs
      rcases hn with e | e
      · obtain ⟨i, hi, e1, e2⟩ := h5 (by omega)
        refine ⟨i, by omega, e1, fun j hj hne => ?_⟩
        by_cases q : j = n
        · subst q; exact e
        · exact e2 j (by omega) hne
      · refine ⟨n, by omega, e, fun j hj hne => ?_⟩
        exact h4 (by omega) j (by omega)
def invAll : Bool := (List.range 25).all fun c => (List.range 25).all fun q => !(decide (2 ≤ c) && decide (Nat.gcd q c = 1)) || (List.range c).any fun k => decide (1 ≤ k) && decide (k * q % c = 1)
theorem invAll_yes : invAll = true := by decide +kernel
theorem inv_ex {c q : Nat} (hc : 2 ≤ c) (hc2 : c ≤ 24) (hq : q ≤ 24) (h : Nat.gcd q c = 1) : ∃ k, 1 ≤ k ∧ k < c ∧ k * q % c = 1 := by
  have e := invAll_yes
  unfold invAll at e
  rw [List.all_eq_true] at e
  have e1 := e c (List.mem_range.2 (by omega))
  rw [List.all_eq_true] at e1
  have e2 := e1 q (List.mem_range.2 (by omega))
  rw [decide_eq_true hc, decide_eq_true h] at e2
  simp only [Bool.and_self, Bool.not_true, Bool.false_or] at e2
  rw [List.any_eq_true] at e2
  obtain ⟨k, hk, e3⟩ := e2
  simp only [Bool.and_eq_true, decide_eq_true_eq] at e3
  exact ⟨k, e3.1, List.mem_range.1 hk, e3.2⟩
theorem add_em (a b n : Int) : (a + b % n) % n = (a + b) % n := by rw [Int.add_emod, Int.emod_emod_of_dvd _ (Int.dvd_refl n), ← Int.add_emod]
theorem alg_one (w k q t : Int) : w * (k * q - 1) - (w * q - 1 - t) * k = t * k + k - w := by
  rw [Int.mul_sub, Int.sub_mul, Int.sub_mul, Int.mul_one, Int.one_mul, show w * q * k = w * (k * q) by rw [Int.mul_assoc, Int.mul_comm q k]]
  omega
theorem mod_iff {x j c : Nat} (hj : j < c) : x % c = j ↔ (c : Int) ∣ (x : Int) - j := by
  constructor
  · intro h
    refine ⟨((x / c : Nat) : Int), ?_⟩
    have := Nat.div_add_mod x c
    rw [h] at this
    have e : (x : Int) = ((c * (x / c) : Nat) : Int) + j := by omega
    rw [e, Int.natCast_mul]
    omega
  · rintro ⟨y, hy⟩
    have e : (x : Int) = j + c * y := by omega
    have h1 : ((x % c : Nat) : Int) = j := by
      rw [Int.natCast_emod, e, Int.add_mul_emod_self_left]
      exact Int.emod_eq_of_lt (by omega) (by omega)
    omega
theorem dvd_small {c : Nat} {x : Int} (h : (c : Int) ∣ x) (h1 : -(c : Int) < x) (h2 : x < c) : x = 0 := by
  obtain ⟨y, rfl⟩ := h
  rcases Int.lt_trichotomy y 0 with q | q | q
  · have := Int.mul_le_mul_of_nonneg_left (show y ≤ -1 by omega) (show (0 : Int) ≤ c by omega)
    omega
  · rw [q]; simp
  · have := Int.mul_le_mul_of_nonneg_left (show 1 ≤ y by omega) (show (0 : Int) ≤ c by omega)
    omega
theorem beat_inj {s : Int} {zs : List Int} (h : Ok s zs) {i j : Nat} (hi : i < zs.length) (hj : j < zs.length) (e : zs[i]?.getD 0 = zs[j]?.getD 0) : i = j := by
  rcases Nat.lt_trichotomy i j with q | q | q
  · have := beat_lt h hj q; omega
  · exact q
  · have := beat_lt h hi q; omega
theorem spnR_mem {s : Int} {zs : List Int} {k : Nat} {x : Int} : x ∈ spnR s zs k ↔ ∃ i, i < zs.length ∧ spnD s zs k i = x := by
  unfold spnR
  rw [List.mem_map]
  exact ⟨fun ⟨i, hi, e⟩ => ⟨i, List.mem_range.1 hi, e⟩, fun ⟨i, hi, e⟩ => ⟨i, List.mem_range.2 hi, e⟩⟩
theorem spnD_next {s : Int} {zs : List Int} (h : Ok s zs) {i k : Nat} (hi : i < zs.length) (hk : k + 1 < zs.length) : spnD s zs (k + 1) i = spnD s zs k i + spnD s zs 1 ((i + k) % zs.length) := by
  have hj : (i + k) % zs.length < zs.length := Nat.mod_lt _ (by omega)
  rw [← spanL_spn h hi (by omega), ← spanL_spn h hi (by omega), ← spanL_spn h hj (by omega)]
  have hc : (stepsZ s zs).length = zs.length := stepsP_len _ _ _
  simp only [spanL]
  rw [hc, Nat.add_zero, Nat.mod_eq_of_lt hj]
  omega
/-- Two sizes of one step: whether a step is the greater one. -/
def bigB (s : Int) (zs : List Int) (b : Int) (i : Nat) : Int := if spnD s zs 1 i = b then 1 else 0
theorem bigB_bit (s : Int) (zs : List Int) (b : Int) (i : Nat) : bigB s zs b i = 0 ∨ bigB s zs b i = 1 := by
  unfold bigB
  by_cases h : spnD s zs 1 i = b
  · rw [if_pos h]; exact .inr rfl
  · rw [if_neg h]; exact .inl rfl
theorem spn_cnt {s : Int} {zs : List Int} (h : Ok s zs) {a b : Int} (hab : ∀ i, i < zs.length → spnD s zs 1 i = a ∨ spnD s zs 1 i = b) {i : Nat} (hi : i < zs.length) :
    ∀ k, k < zs.length → spnD s zs k i = k * a + (b - a) * cntW (bigB s zs b) zs.length k i
  | 0, _ => by
    unfold spnD cntW
    rw [Nat.add_zero, Nat.mod_eq_of_lt hi, Int.sub_self, Int.zero_emod]
    simp [sumN]
  | k + 1, hk => by
    rw [spnD_next h hi hk, spn_cnt h hab hi k (by omega)]
    have hj : (i + k) % zs.length < zs.length := Nat.mod_lt _ (by omega)
    have e : cntW (bigB s zs b) zs.length (k + 1) i = cntW (bigB s zs b) zs.length k i + bigB s zs b ((i + k) % zs.length) := rfl
    rw [e, Int.mul_add, Int.natCast_add, Int.add_mul]
    have e2 : spnD s zs 1 ((i + k) % zs.length) = a + (b - a) * bigB s zs b ((i + k) % zs.length) := by
      unfold bigB
      by_cases q : spnD s zs 1 ((i + k) % zs.length) = b
      · rw [if_pos q, q]; omega
      · rw [if_neg q]
        rcases hab _ hj with r | r
        · rw [r]; omega
        · exact absurd r q
    rw [e2]
    simp
    omega
theorem two_cnt {s : Int} {zs : List Int} (h : Ok s zs) {a b : Int} (hlt : a < b) (hab : ∀ i, i < zs.length → spnD s zs 1 i = a ∨ spnD s zs 1 i = b) {k : Nat} (hk1 : 1 ≤ k) (hk : k < zs.length)
    (h2 : (ofZ 577 (spnR s zs k)).length = 2) : ∃ β : Int, (∀ i, i < zs.length → cntW (bigB s zs b) zs.length k i - β = 0 ∨ cntW (bigB s zs b) zs.length k i - β = 1) ∧
      1 ≤ (k : Int) * sumN (bigB s zs b) zs.length - zs.length * β ∧ (k : Int) * sumN (bigB s zs b) zs.length - zs.length * β ≤ zs.length - 1 := by
  have hs := h.1
  obtain ⟨u, v, huv, mu, mv, hall⟩ := ofZ_two (N := 577) (fun x hx => by
    obtain ⟨i, _, rfl⟩ := spnR_mem.1 hx
    have := spnD_bd hs.1 zs k i
    omega) h2
  obtain ⟨iu, hiu, eu⟩ := spnR_mem.1 mu
  obtain ⟨iv, hiv, ev⟩ := spnR_mem.1 mv
  have hc := fun i (hi : i < zs.length) => spn_cnt h hab hi k hk
  obtain ⟨f, hf⟩ : ∃ f, cntW (bigB s zs b) zs.length k = f := ⟨_, rfl⟩
  rw [hf] at hc ⊢
  have hδ : 0 < b - a := by omega
  have hcan : ∀ i j, i < zs.length → j < zs.length → (spnD s zs k i = spnD s zs k j ↔ f i = f j) := by
    intro i j hi hj
    rw [hc i hi, hc j hj]
    constructor
    · intro e
      exact Int.eq_of_mul_eq_mul_left (by omega) (show (b - a) * f i = (b - a) * f j by omega)
    · intro e; rw [e]
  have hlt2 : f iu < f iv := by
    have e1 := hc iu hiu
    have e2 := hc iv hiv
    have e3 : (b - a) * f iu < (b - a) * f iv := by omega
    exact Int.lt_of_mul_lt_mul_left e3 (by omega)
  have hv : ∀ i, i < zs.length → f i = f iu ∨ f i = f iv := by
    intro i hi
    rcases hall _ (spnR_mem.2 ⟨i, hi, rfl⟩) with e | e
    · left; exact (hcan i iu hi hiu).1 (by rw [e, eu])
    · right; exact (hcan i iv hi hiv).1 (by rw [e, ev])
  have hone := two_near (f := f) (c := zs.length) (fun i hi => by
    rw [← hf, cntW_next]
    have := bigB_bit s zs b ((i + k) % zs.length)
    have := bigB_bit s zs b (i % zs.length)
    omega) hlt2 hv ⟨iu, hiu, rfl⟩ ⟨iv, hiv, rfl⟩
  refine ⟨f iu, fun i hi => by have := hv i hi; omega, ?_⟩
  have hsum : sumN (fun i => f i - f iu) zs.length = k * sumN (bigB s zs b) zs.length - zs.length * f iu := by
    rw [sumN_sub, ← hf, cntW_sum (by omega), hf]
  have hb := sumN_bits (f := fun i => f i - f iu) zs.length (fun i hi => by have := hv i hi; show f i - f iu = 0 ∨ f i - f iu = 1; omega)
  have h3 := hb.2.1 ⟨iv, hiv, by show f iv - f iu = 1; omega⟩
  have h4 := hb.2.2.1 ⟨iu, hiu, by show f iu - f iu = 0; omega⟩
  rw [hsum] at h3 h4
  exact ⟨h3, h4⟩
theorem myhill {n : Nat} {zs : List Int} (h : Ok n zs) (h2 : 2 ≤ zs.length) (hm : ∀ k, 1 ≤ k → k < zs.length → (ofZ 577 (spnR n zs k)).length = 2) :
    ∃ (d : Nat) (s : Int), 1 ≤ d ∧ d < n ∧ (genP n d zs.length).Nodup ∧ zs = rotZ n (genZ n zs.length d) 1 s := by
  have hn := h.1
  have hl24 := ok_len h
  obtain ⟨c, hc⟩ : ∃ c, zs.length = c := ⟨_, rfl⟩
  have hcc : 2 ≤ c := by omega
  obtain ⟨a, b, hlt, ma, mb, hab'⟩ := ofZ_two (N := 577) (l := spnR n zs 1) (fun x hx => by
    obtain ⟨i, _, rfl⟩ := spnR_mem.1 hx
    have := spnD_bd hn.1 zs 1 i
    omega) (hm 1 (by omega) (by omega))
  have hab : ∀ i, i < zs.length → spnD n zs 1 i = a ∨ spnD n zs 1 i = b := fun i hi => hab' _ (spnR_mem.2 ⟨i, hi, rfl⟩)
  have hT := fun k (h1 : 1 ≤ k) (h3 : k < zs.length) => two_cnt h hlt hab h1 h3 (hm k h1 h3)
  have hsc := fun (k i : Nat) (hi : i < zs.length) (hk : k < zs.length) => spn_cnt h hab hi k hk
  obtain ⟨Q, hQ⟩ : ∃ Q, sumN (bigB n zs b) zs.length = Q := ⟨_, rfl⟩
  have hQb := (sumN_bits (f := bigB n zs b) zs.length (fun i _ => bigB_bit _ _ _ i)).1
  rw [hQ] at hQb hT
  obtain ⟨q, rfl⟩ : ∃ q : Nat, Q = q := ⟨Q.toNat, by omega⟩
  -- no divisor in common
  have hg : Nat.gcd q c = 1 := by
    have hgp : 0 < Nat.gcd q c := Nat.gcd_pos_of_pos_right _ (by omega)
    rcases Nat.lt_or_ge 1 (Nat.gcd q c) with hg1 | hg1
    · exfalso
      obtain ⟨g, hge⟩ : ∃ g, Nat.gcd q c = g := ⟨_, rfl⟩
      rw [hge] at hg1 hgp
      obtain ⟨x, hx⟩ : g ∣ c := by rw [← hge]; exact Nat.gcd_dvd_right _ _
      obtain ⟨y, hy⟩ : g ∣ q := by rw [← hge]; exact Nat.gcd_dvd_left _ _
      have hx1 : 1 ≤ x := by
        rcases Nat.eq_zero_or_pos x with e | e
        · rw [e] at hx; omega
        · exact e
      have hxc : x < c := by
        have := Nat.mul_le_mul_right x (show 2 ≤ g by omega)
        omega
      obtain ⟨β, _, h3, h4⟩ := hT x hx1 (by omega)
      have e : (x : Int) * (q : Int) - zs.length * β = (c : Int) * (y - β) := by
        rw [hc, hy, Int.mul_sub, hx]
        have : x * (g * y) = g * x * y := by rw [← Nat.mul_assoc, Nat.mul_comm x g]
        rw [← Int.natCast_mul, this, Int.natCast_mul (g * x) y]
      rw [e, hc] at h4
      rw [e] at h3
      have := dvd_small (c := c) ⟨y - β, rfl⟩ (by omega) (by omega)
      omega
    · omega
  obtain ⟨k, hk1, hkc, hkq⟩ := inv_ex hcc (by omega) (by omega : q ≤ 24) hg
  have hkd : (c : Int) ∣ (k : Int) * q - 1 := by
    have := (mod_iff (x := k * q) (j := 1) (c := c) (by omega)).1 hkq
    rwa [Int.natCast_mul] at this
  obtain ⟨β, hβ, h3, h4⟩ := hT k hk1 (by omega)
  have hone : (k : Int) * (q : Int) - zs.length * β = 1 := by
    rw [hc] at h3 h4 ⊢
    have hd : (c : Int) ∣ (k : Int) * q - c * β - 1 := by
      have e : (k : Int) * q - c * β - 1 = ((k : Int) * q - 1) - c * β := by omega
      rw [e]
      exact Int.dvd_sub hkd ⟨β, rfl⟩
    have := dvd_small hd (by omega) (by omega)
    omega
  have hbits := sumN_bits (f := fun i => cntW (bigB n zs b) zs.length k i - β) zs.length hβ
  have hsum : sumN (fun i => cntW (bigB n zs b) zs.length k i - β) zs.length = 1 := by
    rw [sumN_sub, cntW_sum (by omega), hQ]; exact hone
  obtain ⟨i0, hi0, _, hoth⟩ := hbits.2.2.2.2 hsum
  obtain ⟨D, hD⟩ : ∃ D, (k : Int) * a + (b - a) * β = D := ⟨_, rfl⟩
  have hsp : ∀ i, i < c → i ≠ i0 → spnD n zs k i = D := by
    intro i hi hne
    have e := hoth i (by omega) hne
    have e2 : cntW (bigB n zs b) zs.length k i = β := by
      have : cntW (bigB n zs b) zs.length k i - β = 0 := e
      omega
    rw [hsc k i (by omega) (by omega), e2, hD]
  have hnext : ∀ i, i < c → i ≠ i0 → zs[(i + k) % c]?.getD 0 = (zs[i]?.getD 0 + D) % n := by
    intro i hi hne
    rw [← hsp i hi hne]
    unfold spnD
    rw [hc, add_em]
    have hb2 := beat_bd h (show (i + k) % c < zs.length by rw [hc]; exact Nat.mod_lt _ (by omega))
    rw [show zs[i]?.getD 0 + (zs[(i + k) % c]?.getD 0 - zs[i]?.getD 0) = zs[(i + k) % c]?.getD 0 by omega]
    exact (Int.emod_eq_of_lt hb2.1 hb2.2).symm
  have hD1 : 1 ≤ D ∧ D < n := by
    obtain ⟨i1, hi1, hne⟩ : ∃ i1, i1 < c ∧ i1 ≠ i0 := by
      by_cases e : i0 = 0
      · exact ⟨1, by omega, by omega⟩
      · exact ⟨0, by omega, by omega⟩
    have e := hsp i1 hi1 hne
    have hb2 := spnD_bd hn.1 zs k i1
    rw [e] at hb2
    refine ⟨?_, hb2.2⟩
    rcases Int.lt_or_le 0 D with p | p
    · omega
    · exfalso
      have e1 := hnext i1 hi1 hne
      have hb3 := beat_bd h (show i1 < zs.length by omega)
      rw [show D = 0 by omega, Int.add_zero, Int.emod_eq_of_lt hb3.1 hb3.2] at e1
      have e2 := beat_inj h (show (i1 + k) % c < zs.length by rw [hc]; exact Nat.mod_lt _ (by omega)) (by omega) e1
      have e3 := (mod_iff (x := i1 + k) (j := i1) (c := c) hi1).1 e2
      have := dvd_small e3 (by omega) (by omega)
      omega
  obtain ⟨d, rfl⟩ : ∃ d : Nat, D = d := ⟨D.toNat, by omega⟩
  -- the chain
  have hPlt : ∀ t, (i0 + (t + 1) * k) % c < c := fun t => Nat.mod_lt _ (by omega)
  have hPinj : ∀ t t', t < c → t' < c → (i0 + (t + 1) * k) % c = (i0 + (t' + 1) * k) % c → t = t' := by
    intro t t' ht ht' e
    have e1 := (mod_iff (x := i0 + (t + 1) * k) (c := c) (hPlt t')).1 e
    have e2 := (mod_iff (x := i0 + (t' + 1) * k) (c := c) (hPlt t')).1 rfl
    have e3 : (c : Int) ∣ ((t : Int) - t') * k := by
      have := Int.dvd_sub e1 e2
      have e4 : ((i0 + (t + 1) * k : Nat) : Int) - ((i0 + (t' + 1) * k) % c : Nat) - (((i0 + (t' + 1) * k : Nat) : Int) - ((i0 + (t' + 1) * k) % c : Nat)) = ((t : Int) - t') * k := by
        rw [Int.sub_mul]
        have h1 : ((i0 + (t + 1) * k : Nat) : Int) = i0 + (t * k + k) := by rw [Int.natCast_add, Int.natCast_mul, Int.natCast_add, Int.add_mul]; simp
        have h2 : ((i0 + (t' + 1) * k : Nat) : Int) = i0 + (t' * k + k) := by rw [Int.natCast_add, Int.natCast_mul, Int.natCast_add, Int.add_mul]; simp
        rw [h1, h2]
        omega
      rwa [e4] at this
    have e5 : (c : Int) ∣ (t : Int) - t' := by
      have h1 : (c : Int) ∣ ((t : Int) - t') * k * q := Int.dvd_trans e3 ⟨q, rfl⟩
      have h2 : (c : Int) ∣ ((t : Int) - t') * ((k : Int) * q - 1) := Int.dvd_trans hkd ⟨(t : Int) - t', by rw [Int.mul_comm]⟩
      have h3 := Int.dvd_sub h1 h2
      have e6 : ((t : Int) - t') * k * q - ((t : Int) - t') * ((k : Int) * q - 1) = (t : Int) - t' := by rw [Int.mul_sub, Int.mul_assoc]; omega
      rwa [e6] at h3
    have := dvd_small e5 (by omega) (by omega)
    omega
  have hPne : ∀ t, t + 1 < c → (i0 + (t + 1) * k) % c ≠ i0 := by
    intro t ht e
    have e1 : (i0 + ((c - 1) + 1) * k) % c = i0 := by
      rw [show c - 1 + 1 = c by omega, Nat.add_mul_mod_self_left, Nat.mod_eq_of_lt (by omega)]
    have := hPinj t (c - 1) (by omega) (by omega) (by rw [e, e1])
    omega
  obtain ⟨s, hs⟩ : ∃ s, zs[(i0 + (0 + 1) * k) % c]?.getD 0 = s := ⟨_, rfl⟩
  have hz : ∀ t, t < c → zs[(i0 + (t + 1) * k) % c]?.getD 0 = (s + t * d) % n := by
    intro t
    induction t with
    | zero =>
      intro _
      have hb3 := beat_bd h (show (i0 + (0 + 1) * k) % c < zs.length by rw [hc]; exact hPlt 0)
      rw [hs] at hb3 ⊢
      simp only [Int.natCast_zero, Int.zero_mul, Int.add_zero]
      exact (Int.emod_eq_of_lt hb3.1 hb3.2).symm
    | succ t ih =>
      intro ht
      have e1 := hnext _ (hPlt t) (hPne t (by omega))
      rw [ih (by omega)] at e1
      have e2 : ((i0 + (t + 1) * k) % c + k) % c = (i0 + (t + 1 + 1) * k) % c := by
        rw [Nat.mod_add_mod, Nat.add_assoc, ← Nat.succ_mul]
      rw [e2] at e1
      rw [e1, em_add, Int.natCast_add, Int.add_mul]
      congr 1
      simp
      omega
  have hall : ∀ j, j < c → ∃ t, t < c ∧ (i0 + (t + 1) * k) % c = j := by
    intro j hj
    obtain ⟨y, hy⟩ : ∃ y, (((j : Int) - i0) * q - 1) % c = y := ⟨_, rfl⟩
    have hyb : 0 ≤ y ∧ y < c := by rw [← hy]; exact em_bd _ (by omega)
    obtain ⟨t, rfl⟩ : ∃ t : Nat, y = t := ⟨y.toNat, by omega⟩
    refine ⟨t, by omega, (mod_iff hj).2 ?_⟩
    have h1 : (c : Int) ∣ ((j : Int) - i0) * q - 1 - t := by
      rw [← hy]
      exact ⟨(((j : Int) - i0) * q - 1) / c, by have := Int.mul_ediv_add_emod (((j : Int) - i0) * q - 1) c; omega⟩
    have h2 : (c : Int) ∣ (((j : Int) - i0) * q - 1 - t) * k := Int.dvd_trans h1 ⟨k, rfl⟩
    have h3 : (c : Int) ∣ ((j : Int) - i0) * ((k : Int) * q - 1) := Int.dvd_trans hkd ⟨(j : Int) - i0, by rw [Int.mul_comm]⟩
    have h4 := Int.dvd_sub h3 h2
    have e : ((j : Int) - i0) * ((k : Int) * q - 1) - (((j : Int) - i0) * q - 1 - t) * k = ((i0 + (t + 1) * k : Nat) : Int) - j := by
      have h1 : ((i0 + (t + 1) * k : Nat) : Int) = i0 + (t * k + k) := by rw [Int.natCast_add, Int.natCast_mul, Int.natCast_add, Int.add_mul]; simp
      rw [h1, alg_one]
      omega
    rwa [e] at h4
  refine ⟨d, s, by omega, by omega, ?_, ?_⟩
  · rw [hc, genP_nodup]
    intro i i' hii hi' e
    unfold genT at e
    have e1 : zs[(i0 + (i + 1) * k) % c]?.getD 0 = zs[(i0 + (i' + 1) * k) % c]?.getD 0 := by
      rw [hz i (by omega), hz i' hi', ← add_em s, e, add_em]
    have e2 := beat_inj h (by rw [hc]; exact hPlt i) (by rw [hc]; exact hPlt i') e1
    have := hPinj i i' (by omega) hi' e2
    omega
  · refine ok_ext h (rot_ok hn _ _) fun x hx => ?_
    rw [rot_mem (genZ_ok hn), genZ_mem hn.1]
    constructor
    · intro hm
      refine ⟨hx, ?_⟩
      obtain ⟨j, hj, e⟩ := List.getElem_of_mem hm
      obtain ⟨t, ht, e1⟩ := hall j (by omega)
      have e2 := hz t ht
      rw [e1, List.getElem?_eq_getElem hj, e] at e2
      simp only [Option.getD_some] at e2
      refine ⟨t, by omega, ?_⟩
      unfold genT
      rw [e2, em_sub, show s + (t : Int) * d - s = (t : Int) * d by omega]
    · rintro ⟨_, t, ht, e⟩
      unfold genT at e
      have e2 := hz t (by omega)
      rw [← add_em s, e, add_em, show s + (x - s) = x by omega, Int.emod_eq_of_lt hx.1 hx.2] at e2
      rw [← e2]
      have hl := hPlt t
      rw [← hc] at hl ⊢
      rw [List.getElem?_eq_getElem hl]
      exact List.getElem_mem hl
end Go.Proofs.Ytgmhdmhnedljcaa.Rhy

/-
  Helpers of the claims beside this text: GeneratedRhythm of the model.
-/
namespace Go.Proofs.Ytgmhdmhnedljcaa.Rhy
open Go.RowKit
set_option linter.unusedVariables false
set_option linter.unusedSimpArgs false

/-- A list that grows behind the result's box. -/
def LsAt (g : Nat) (l : List Int) (v : Value) (w wr : World) : Prop :=
  ∃ av cv, v = .slice av l.length cv ∧ Box wr g (.int .i64 0) (.slice none 0 0) 28 ∧
    wr.ownsRow (g + 1) 3 1 (.slice av l.length cv) l.length (ints l) ∧ Below g w wr ∧ g + 1 ≤ wr.heap.size
theorem genP_int {n g : Int} (h : 1 ≤ n ∧ n ≤ 24) (j : Nat) : AllInt (genP n g j) := by
  intro z hz
  obtain ⟨i, _, rfl⟩ := genP_mem.1 hz
  have := genT_bd h.1 g i
  omega
theorem genP_pre {n g : Int} {j k : Nat} (h : (genP n g k).Nodup) (hj : j ≤ k) : (genP n g j).Nodup := by
  rw [genP_nodup] at h ⊢
  exact fun i i' h1 h2 => h i i' h1 (by omega)
theorem genP_next {n g : Int} {j : Nat} (h : (genP n g j).Nodup) (hn : hasB (genP n g j) (genT n g j) = false) : (genP n g (j + 1)).Nodup := by
  rw [genP_snoc, List.nodup_append]
  refine ⟨h, by simp, fun x hx y hy => ?_⟩
  rw [List.mem_singleton] at hy
  subst hy
  rintro rfl
  unfold hasB at hn
  rw [List.contains_iff_mem.2 hx] at hn
  cases hn
theorem genP_twice {n g : Int} {j k : Nat} (h : hasB (genP n g j) (genT n g j) = true) (hj : j < k) : ¬ (genP n g k).Nodup := by
  intro hd
  have h2 := genP_pre hd (show j + 1 ≤ k by omega)
  rw [genP_snoc, List.nodup_append] at h2
  unfold hasB at h
  exact h2.2.2 _ (List.contains_iff_mem.1 h) _ (by simp) rfl
theorem prod24 {j : Nat} {g : Int} (hj : j ≤ 24) (hg : 0 ≤ g ∧ g ≤ 24) : 0 ≤ (j : Int) * g ∧ (j : Int) * g ≤ 576 := by
  have h1 : 0 ≤ (j : Int) * g := Int.mul_nonneg (by omega) hg.1
  have h2 : (j : Int) * g ≤ 24 * 24 := Int.mul_le_mul (by omega) hg.2 hg.1 (by omega)
  omega


end Go.Proofs.Ytgmhdmhnedljcaa.Rhy

/-
  Helpers of the claims beside this text: GeneratorsOf, IsGenerated of the model.
-/
namespace Go.Proofs.Ytgmhdmhnedljcaa.Rhy
open Go.RowKit
set_option linter.unusedVariables false
set_option linter.unusedSimpArgs false

/-- g generates a rotation of the rhythm. -/
def gnQ (n : Int) (zs : List Int) (g : Int) : Prop := GenC n (zs.length : Nat) g ∧ 0 ≤ rotToB n (genZ n (zs.length : Nat) g) n zs
open Classical in
noncomputable def gnP (n : Int) (zs : List Int) (j : Nat) : List Int := ((List.range j).map Int.ofNat).filter fun g => decide (1 ≤ g ∧ gnQ n zs g)
noncomputable def gnB (s : Int) (zs : List Int) : List Int := cZ (Ok s zs) (gnP s zs s.toNat)
theorem gnP_mem {n : Int} {zs : List Int} {j : Nat} {x : Int} : x ∈ gnP n zs j ↔ (1 ≤ x ∧ x < j) ∧ gnQ n zs x := by
  unfold gnP
  rw [List.mem_filter, List.mem_map]
  constructor
  · rintro ⟨⟨i, hi, rfl⟩, hd⟩
    have := List.mem_range.1 hi
    simp only [decide_eq_true_eq] at hd
    exact ⟨⟨hd.1, by show ((i : Nat) : Int) < j; omega⟩, hd.2⟩
  · rintro ⟨⟨h1, h2⟩, hq⟩
    refine ⟨⟨x.toNat, List.mem_range.2 (by omega), by show ((x.toNat : Nat) : Int) = x; omega⟩, ?_⟩
    simp only [decide_eq_true_eq]
    exact ⟨h1, hq⟩
theorem gnP_one (n : Int) (zs : List Int) : gnP n zs 1 = [] := by
  rw [List.eq_nil_iff_forall_not_mem]
  intro x hx
  have := (gnP_mem.1 hx).1
  omega
theorem gnP_yes {n : Int} {zs : List Int} {g : Nat} (h1 : 1 ≤ g) (h : gnQ n zs g) : gnP n zs (g + 1) = gnP n zs g ++ [(g : Int)] := by
  unfold gnP
  rw [List.range_succ, List.map_append, List.filter_append]
  congr 1
  simp only [List.map_cons, List.map_nil]
  rw [List.filter_cons_of_pos]
  · rfl
  · simp only [decide_eq_true_eq]; exact ⟨by show (1 : Int) ≤ (g : Int); omega, h⟩
theorem gnP_no {n : Int} {zs : List Int} {g : Nat} (h : ¬ gnQ n zs g) : gnP n zs (g + 1) = gnP n zs g := by
  unfold gnP
  rw [List.range_succ, List.map_append, List.filter_append]
  simp only [List.map_cons, List.map_nil]
  rw [List.filter_cons_of_neg]
  · simp
  · simp only [decide_eq_true_eq]; exact fun q => h q.2
theorem gnP_len (n : Int) (zs : List Int) (j : Nat) : (gnP n zs j).length ≤ j := by
  unfold gnP
  refine Nat.le_trans (List.length_filter_le _ _) ?_
  simp
theorem gnP_int {n : Int} {zs : List Int} {j : Nat} (hj : j ≤ 1000) : AllInt (gnP n zs j) := by
  intro z hz
  have := (gnP_mem.1 hz).1
  omega
theorem gnB_yes {s : Int} {zs : List Int} (h : Ok s zs) : gnB s zs = gnP s zs s.toNat := cZ_yes h
theorem gnB_no {s : Int} {zs : List Int} (h : ¬ Ok s zs) : gnB s zs = [] := cZ_no h
theorem gnB_int (s : Int) (zs : List Int) : AllInt (gnB s zs) := by
  by_cases h : Ok s zs
  · rw [gnB_yes h]; exact gnP_int (by have := h.1; omega)
  · rw [gnB_no h]; intro z hz; cases hz
theorem gnB_len (s : Int) (zs : List Int) : (gnB s zs).length ≤ 24 := by
  by_cases h : Ok s zs
  · rw [gnB_yes h]; exact Nat.le_trans (gnP_len _ _ _) (by have := h.1; omega)
  · rw [gnB_no h]; simp


noncomputable def isgB (s : Int) (zs : List Int) : Bool := decide (0 < (gnB s zs).length)

end Go.Proofs.Ytgmhdmhnedljcaa.Rhy

/-
  Helpers of the claims beside this text: ChainOf, ExtendChain of the model.
-/
namespace Go.Proofs.Ytgmhdmhnedljcaa.Rhy
open Go.RowKit
set_option linter.unusedVariables false
set_option linter.unusedSimpArgs false

/-- The first beat from place i on that is not g after a beat; the first beat at all if there is none. -/
noncomputable def chG (n : Int) (zs : List Int) (g : Int) : Nat → Nat → Int
  | 0, _ => zs[0]?.getD 0
  | f + 1, i => if beatB n zs (zs[i]?.getD 0 - g) = false then zs[i]?.getD 0 else chG n zs g f (i + 1)
noncomputable def chF (n : Int) (zs : List Int) (g : Int) : Int := chG n zs g zs.length 0
def chP (n s g : Int) (j : Nat) : List Int := (List.range j).map fun (i : Nat) => (s + (i : Int) * g) % n
noncomputable def chB (s : Int) (zs : List Int) (g : Int) : List Int := cZ (hasB (gnB s zs) g = true) (chP s (chF s zs g) g zs.length)
theorem chP_len (n s g : Int) (j : Nat) : (chP n s g j).length = j := by simp [chP]
theorem chP_snoc (n s g : Int) (j : Nat) : chP n s g (j + 1) = chP n s g j ++ [(s + (j : Int) * g) % n] := by simp [chP, List.range_succ]
theorem chG_in {n : Int} {zs : List Int} (h : Ok n zs) (h0 : 0 < zs.length) (g : Int) : ∀ f i, 0 ≤ chG n zs g f i ∧ (i + f ≤ zs.length → chG n zs g f i < n)
  | 0, i => by
    have := beat_bd h h0
    simp only [chG]
    omega
  | f + 1, i => by
    have ih := chG_in h h0 g f (i + 1)
    simp only [chG]
    by_cases hc : beatB n zs (zs[i]?.getD 0 - g) = false
    · rw [if_pos hc]
      by_cases hi : i < zs.length
      · have := beat_bd h hi
        exact ⟨this.1, fun _ => this.2⟩
      · have e : zs[i]? = none := List.getElem?_eq_none (by omega)
        rw [e]
        exact ⟨Int.le_refl 0, fun q => absurd q (by omega)⟩
    · rw [if_neg hc]
      exact ⟨ih.1, fun q => ih.2 (by omega)⟩
theorem chF_bd {n : Int} {zs : List Int} (h : Ok n zs) (h0 : 0 < zs.length) (g : Int) : 0 ≤ chF n zs g ∧ chF n zs g < n := by
  have := chG_in h h0 g zs.length 0
  exact ⟨this.1, this.2 (by omega)⟩
theorem chP_int {n : Int} (h : 1 ≤ n ∧ n ≤ 24) (s g : Int) (j : Nat) : AllInt (chP n s g j) := by
  intro z hz
  unfold chP at hz
  rw [List.mem_map] at hz
  obtain ⟨i, _, rfl⟩ := hz
  have := em_bd (s + (i : Int) * g) h.1
  omega
theorem gnB_in {s g : Int} {zs : List Int} (h : hasB (gnB s zs) g = true) : Ok s zs ∧ 1 ≤ g ∧ g < s ∧ gnQ s zs g := by
  have hm : g ∈ gnB s zs := by unfold hasB at h; exact List.contains_iff_mem.1 h
  by_cases ho : Ok s zs
  · rw [gnB_yes ho] at hm
    have h1 := gnP_mem.1 hm
    have h2 := ho.1
    exact ⟨ho, by omega, by omega, h1.2⟩
  · rw [gnB_no ho] at hm; cases hm
theorem chB_yes {s g : Int} {zs : List Int} (h : hasB (gnB s zs) g = true) : chB s zs g = chP s (chF s zs g) g zs.length := cZ_yes h
theorem chB_no {s g : Int} {zs : List Int} (h : hasB (gnB s zs) g = false) : chB s zs g = [] := cZ_no (by rw [h]; simp)
theorem chB_int (s : Int) (zs : List Int) (g : Int) : AllInt (chB s zs g) := by
  cases h : hasB (gnB s zs) g
  · rw [chB_no h]; intro z hz; cases hz
  · rw [chB_yes h]; exact chP_int (gnB_in h).1.1 _ _ _
theorem chB_len (s : Int) (zs : List Int) (g : Int) : (chB s zs g).length ≤ 24 := by
  cases h : hasB (gnB s zs) g
  · rw [chB_no h]; simp
  · rw [chB_yes h, chP_len]; exact ok_len (gnB_in h).1


end Go.Proofs.Ytgmhdmhnedljcaa.Rhy

/-
  Helpers of the claims beside this text: ExtendChain of the model.
-/
namespace Go.Proofs.Ytgmhdmhnedljcaa.Rhy
open Go.RowKit
set_option linter.unusedVariables false
set_option linter.unusedSimpArgs false

/-- What comes behind the chain. -/
noncomputable def exP (s : Int) (zs : List Int) (g : Int) : Int := ((chB s zs g)[(chB s zs g).length - 1]?.getD 0 + g) % s
def exC (s : Int) (zs : List Int) (g : Int) : Prop := 0 < (chB s zs g).length ∧ hasB zs (exP s zs g) = false
noncomputable def exZ (s : Int) (zs : List Int) (g : Int) : List Int := ofZ s.toNat (chB s zs g ++ [exP s zs g])
theorem chB_pos {s g : Int} {zs : List Int} (h : 0 < (chB s zs g).length) : hasB (gnB s zs) g = true := by
  cases hq : hasB (gnB s zs) g
  · rw [chB_no hq] at h; simp at h
  · rfl
theorem chB_bd {s g : Int} {zs : List Int} : ∀ x ∈ chB s zs g, 0 ≤ x ∧ x < s := by
  intro x hx
  have hq := chB_pos (List.length_pos_of_mem hx)
  have ho := (gnB_in hq).1
  rw [chB_yes hq] at hx
  unfold chP at hx
  rw [List.mem_map] at hx
  obtain ⟨i, _, rfl⟩ := hx
  exact em_bd _ ho.1.1


end Go.Proofs.Ytgmhdmhnedljcaa.Rhy

/-
  Helpers of the claims beside this text: HasTwoSizes, CountSizes, IsSumOfSizes, TwoSizeCounts of the model.
-/
namespace Go.Proofs.Ytgmhdmhnedljcaa.Rhy
open Go.RowKit
set_option linter.unusedVariables false
set_option linter.unusedSimpArgs false

/-! ### at least two beats, and two sizes of each span -/
def htC (s : Int) (zs : List Int) : Prop := Ok s zs ∧ 2 ≤ zs.length ∧ ∀ k : Nat, 1 ≤ k → k < zs.length → (spansB s zs k).length = 2
noncomputable def htB (s : Int) (zs : List Int) : Bool := @decide (htC s zs) (Classical.propDecidable _)
theorem htB_yes {s : Int} {zs : List Int} (h : htC s zs) : htB s zs = true := by simp [htB, h]
theorem htB_no {s : Int} {zs : List Int} (h : ¬ htC s zs) : htB s zs = false := by simp [htB, h]

/-! ### the sizes of the steps -/
theorem sizeB_len (s : Int) (zs : List Int) : (sizeB s zs).length ≤ 25 := ofZ_len _ _
noncomputable def csB (s : Int) (zs : List Int) : Int := ((sizeB s zs).length : Nat)

/-- At most two sizes, or three of which the greatest is the sum of both others. -/
def smB (l : List Int) : Bool := decide (l.length ≤ 2) || (decide (l.length = 3) && (l[0]?.getD 0 + l[1]?.getD 0 == l[2]?.getD 0))

end Go.Proofs.Ytgmhdmhnedljcaa.Rhy

/-
  Helpers of the claims beside this text: TwoSizeCounts of the model.
-/
namespace Go.Proofs.Ytgmhdmhnedljcaa.Rhy
open Go.RowKit
set_option linter.unusedVariables false
set_option linter.unusedSimpArgs false

def tsQ (n g k : Int) : Prop := GenC n k g ∧ csB n (genZ n k g) ≤ 2
open Classical in
noncomputable def tsP (n g : Int) (j : Nat) : List Int := ((List.range j).map Int.ofNat).filter fun k => decide (2 ≤ k ∧ tsQ n g k)
def TsC (n g : Int) : Prop := (1 ≤ n ∧ n ≤ 24) ∧ (1 ≤ g ∧ g ≤ n)
noncomputable def tsB (n g : Int) : List Int := cZ (TsC n g) (tsP n g n.toNat)
theorem tsP_mem {n g : Int} {j : Nat} {x : Int} : x ∈ tsP n g j ↔ (2 ≤ x ∧ x < j) ∧ tsQ n g x := by
  unfold tsP
  rw [List.mem_filter, List.mem_map]
  constructor
  · rintro ⟨⟨i, hi, rfl⟩, hd⟩
    have := List.mem_range.1 hi
    simp only [decide_eq_true_eq] at hd
    exact ⟨⟨hd.1, by show ((i : Nat) : Int) < j; omega⟩, hd.2⟩
  · rintro ⟨⟨h1, h2⟩, hq⟩
    refine ⟨⟨x.toNat, List.mem_range.2 (by omega), by show ((x.toNat : Nat) : Int) = x; omega⟩, ?_⟩
    simp only [decide_eq_true_eq]
    exact ⟨h1, hq⟩
theorem tsP_two (n g : Int) : tsP n g 2 = [] := by
  rw [List.eq_nil_iff_forall_not_mem]
  intro x hx
  have := (tsP_mem.1 hx).1
  omega
theorem tsP_yes {n g : Int} {k : Nat} (h1 : 2 ≤ k) (h : tsQ n g k) : tsP n g (k + 1) = tsP n g k ++ [(k : Int)] := by
  unfold tsP
  rw [List.range_succ, List.map_append, List.filter_append]
  congr 1
  simp only [List.map_cons, List.map_nil]
  rw [List.filter_cons_of_pos]
  · rfl
  · simp only [decide_eq_true_eq]; exact ⟨by show (2 : Int) ≤ (k : Int); omega, h⟩
theorem tsP_no {n g : Int} {k : Nat} (h : ¬ tsQ n g k) : tsP n g (k + 1) = tsP n g k := by
  unfold tsP
  rw [List.range_succ, List.map_append, List.filter_append]
  simp only [List.map_cons, List.map_nil]
  rw [List.filter_cons_of_neg]
  · simp
  · simp only [decide_eq_true_eq]; exact fun q => h q.2
theorem tsP_len (n g : Int) (j : Nat) : (tsP n g j).length ≤ j := by
  unfold tsP
  refine Nat.le_trans (List.length_filter_le _ _) ?_
  simp
theorem tsB_int (n g : Int) : AllInt (tsB n g) := by
  by_cases h : TsC n g
  · unfold tsB
    rw [cZ_yes h]
    intro z hz
    have := (tsP_mem.1 hz).1
    have := h.1
    omega
  · unfold tsB
    rw [cZ_no h]
    intro z hz; cases hz
theorem tsB_len (n g : Int) : (tsB n g).length ≤ 24 := by
  by_cases h : TsC n g
  · unfold tsB
    rw [cZ_yes h]
    exact Nat.le_trans (tsP_len _ _ _) (by have := h.1; omega)
  · unfold tsB
    rw [cZ_no h]
    simp


end Go.Proofs.Ytgmhdmhnedljcaa.Rhy
