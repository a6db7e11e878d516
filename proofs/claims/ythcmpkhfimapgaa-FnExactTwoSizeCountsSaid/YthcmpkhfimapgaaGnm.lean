/-
  Helpers of the claims beside this text: plain mathematics of generated rhythms: when no two of their beats are equal; a rhythm whose spans have two sizes each is generated.
-/
import Derived.Test.YthcmpkhfimapgaaEvn
import Derived.Test.YthcmpkhfimapgaaFma
import Derived.Test.YthcmpkhfimapgaaOut
import Derived.Test.YthcmpkhfimapgaaHas
import Derived.Test.YthcmpkhfimapgaaIvs
namespace Go.Proofs.Ythcmpkhfimapgaa.Rhy
set_option linter.unusedVariables false

/-! generated rhythms -/
def genT (n g : Int) (i : Nat) : Int := ((i : Int) * g) % n
def genP (n g : Int) (j : Nat) : List Int := (List.range j).map (genT n g)
def genZ (n k g : Int) : List Int := ofZ n.toNat (genP n g k.toNat)
def GenC (n k g : Int) : Prop := EvC k n ∧ (1 ≤ g ∧ g ≤ n) ∧ (genP n g k.toNat).Nodup
theorem genP_len (n g : Int) (j : Nat) : (genP n g j).length = j := by simp [genP]
theorem genP_snoc (n g : Int) (j : Nat) : genP n g (j + 1) = genP n g j ++ [genT n g j] := by simp [genP, List.range_succ]
theorem genT_bd {n : Int} (h : 1 ≤ n) (g : Int) (i : Nat) : 0 ≤ genT n g i ∧ genT n g i < n := ⟨Int.emod_nonneg _ (by omega), Int.emod_lt_of_pos _ (by omega)⟩
theorem genP_mem {n g : Int} {j : Nat} {x : Int} : x ∈ genP n g j ↔ ∃ i, i < j ∧ genT n g i = x := by
  unfold genP
  rw [List.mem_map]
  exact ⟨fun ⟨i, hi, e⟩ => ⟨i, List.mem_range.1 hi, e⟩, fun ⟨i, hi, e⟩ => ⟨i, List.mem_range.2 hi, e⟩⟩
theorem genZ_mem {n k g : Int} (h : 1 ≤ n) {x : Int} : x ∈ genZ n k g ↔ ∃ i : Nat, (i : Int) < k ∧ genT n g i = x := by
  unfold genZ
  rw [ofZ_mem, genP_mem]
  constructor
  · rintro ⟨_, i, hi, e⟩; exact ⟨i, by omega, e⟩
  · rintro ⟨i, hi, e⟩
    have := genT_bd h g i
    exact ⟨by omega, i, by omega, e⟩
theorem genZ_ok {n k g : Int} (h : 1 ≤ n ∧ n ≤ 24) : Ok n (genZ n k g) := by
  refine ok_of h.1 h.2 (ofZ_sorted _ _) fun z hz => ?_
  have := (ofZ_mem.1 hz).1
  omega
theorem genP_nodup {n g : Int} {j : Nat} : (genP n g j).Nodup ↔ ∀ i i', i < i' → i' < j → genT n g i ≠ genT n g i' := by
  unfold genP
  rw [List.Nodup, List.pairwise_map, List.pairwise_iff_getElem]
  constructor
  · intro h i i' h1 h2
    have := h i i' (by simp; omega) (by simp; omega) h1
    simpa using this
  · intro h i i' h1 h2 h3
    have := h i i' h3 (by simpa using h2)
    simpa using this

/-! a rhythm whose spans have two sizes each is generated -/
theorem ofZ_two {l : List Int} {N : Nat} (hb : ∀ x ∈ l, 0 ≤ x ∧ x < N) (h : (ofZ N l).length = 2) : ∃ u v, u < v ∧ u ∈ l ∧ v ∈ l ∧ ∀ x ∈ l, x = u ∨ x = v := by
  obtain ⟨u, v, e⟩ : ∃ u v, ofZ N l = [u, v] := by
    cases hl : ofZ N l with
    | nil => rw [hl] at h; simp at h
    | cons u t =>
      cases t with
      | nil => rw [hl] at h; simp at h
      | cons v t =>
        cases t with
        | nil => exact ⟨u, v, rfl⟩
        | cons w t => rw [hl] at h; simp at h
  have hs := ofZ_sorted N l
  rw [e] at hs
  have hu : u ∈ ofZ N l := by rw [e]; simp
  have hv : v ∈ ofZ N l := by rw [e]; simp
  refine ⟨u, v, by simpa using hs, (ofZ_mem.1 hu).2, (ofZ_mem.1 hv).2, fun x hx => ?_⟩
  have : x ∈ ofZ N l := ofZ_mem.2 ⟨hb x hx, hx⟩
  rw [e] at this
  simpa using this
def cntW (B : Nat → Int) (c k i : Nat) : Int := sumN (fun j => B ((i + j) % c)) k
theorem cntW_sum {B : Nat → Int} {c k : Nat} (hk : k ≤ c) : sumN (cntW B c k) c = k * sumN B c := by
  unfold cntW
  rw [show (fun i => sumN (fun j => B ((i + j) % c)) k) = fun i => sumN ((fun i j => B ((i + j) % c)) i) k from rfl, sumN_swap]
  rw [sumN_congr (g := fun _ => sumN B c) k (fun j hj => by
    have := sumN_turn B (c := c) (i := j) (by omega)
    rw [← this]
    exact sumN_congr c (fun i _ => by rw [Nat.add_comm]))]
  clear hk
  induction k with
  | zero => simp [sumN]
  | succ k ih => simp only [sumN]; rw [ih, Int.natCast_add, Int.add_mul]; simp
theorem cntW_next {B : Nat → Int} {c k i : Nat} : cntW B c k (i + 1) = cntW B c k i + B ((i + k) % c) - B (i % c) := by
  unfold cntW
  have e1 := sumN_add (fun j => B ((i + j) % c)) 1 k
  have e2 : sumN (fun j => B ((i + j) % c)) (1 + k) = sumN (fun j => B ((i + j) % c)) k + B ((i + k) % c) := by rw [Nat.add_comm]; rfl
  rw [e2] at e1
  have e3 : sumN (fun j => B ((i + (1 + j)) % c)) k = sumN (fun j => B ((i + 1 + j) % c)) k := sumN_congr k (fun j _ => by rw [Nat.add_assoc])
  rw [e3] at e1
  have e4 : sumN (fun j => B ((i + j) % c)) 1 = B (i % c) := by simp [sumN]
  omega
/-- A list of numbers that takes two values and never leaps by more than one. -/
theorem two_near {f : Nat → Int} {c : Nat} (hd : ∀ i, i + 1 < c → f (i + 1) - f i ≤ 1 ∧ f i - f (i + 1) ≤ 1) {u v : Int} (huv : u < v) (hv : ∀ i, i < c → f i = u ∨ f i = v)
    (h1 : ∃ i, i < c ∧ f i = u) (h2 : ∃ i, i < c ∧ f i = v) : v = u + 1 := by
  by_cases hc : ∃ i, i + 1 < c ∧ f (i + 1) ≠ f i
  · obtain ⟨i, hi, hne⟩ := hc
    have := hd i hi
    have := hv i (by omega)
    have := hv (i + 1) hi
    omega
  · have hall : ∀ i, i < c → f i = f 0 := by
      intro i
      induction i with
      | zero => intro _; rfl
      | succ i ih =>
        intro hi
        have : f (i + 1) = f i := by
          by_cases e : f (i + 1) = f i
          · exact e
          · exact absurd ⟨i, hi, e⟩ hc
        rw [this, ih (by omega)]
    obtain ⟨i, hi, e1⟩ := h1
    obtain ⟨j, hj, e2⟩ := h2
    have := hall i hi
    have := hall j hj
    omega
theorem sumN_sub (f : Nat → Int) (b : Int) : ∀ n : Nat, sumN (fun i => f i - b) n = sumN f n - n * b
  | 0 => by simp [sumN]
  | n + 1 => by
    simp only [sumN]
    rw [sumN_sub f b n, show ((n + 1 : Nat) : Int) * b = n * b + b by rw [Int.natCast_add, Int.add_mul]; simp]
    omega
/-- Zeros and ones: their sum is not negative, at most as great as there are numbers, and where it is one, one of them is. -/
theorem sumN_bits {f : Nat → Int} : ∀ n : Nat, (∀ i, i < n → f i = 0 ∨ f i = 1) → (0 ≤ sumN f n ∧ sumN f n ≤ n) ∧ ((∃ i, i < n ∧ f i = 1) → 1 ≤ sumN f n) ∧ ((∃ i, i < n ∧ f i = 0) → sumN f n ≤ (n : Int) - 1) ∧
    (sumN f n = 0 → ∀ i, i < n → f i = 0) ∧ (sumN f n = 1 → ∃ i, i < n ∧ f i = 1 ∧ ∀ j, j < n → j ≠ i → f j = 0)
  | 0, _ => ⟨by simp [sumN], fun ⟨i, hi, _⟩ => absurd hi (by omega), fun ⟨i, hi, _⟩ => absurd hi (by omega), fun _ i hi => absurd hi (by omega), fun h => by simp [sumN] at h⟩
  | n + 1, h => by
    obtain ⟨h1, h2, h3, h4, h5⟩ := sumN_bits n (fun i hi => h i (by omega))
    have hn := h n (by omega)
    simp only [sumN]
    refine ⟨by omega, ?_, ?_, ?_, ?_⟩
    · rintro ⟨i, hi, e⟩
      by_cases q : i = n
      · subst q; omega
      · have := h2 ⟨i, by omega, e⟩; omega
    · rintro ⟨i, hi, e⟩
      by_cases q : i = n
      · subst q; omega
      · have := h3 ⟨i, by omega, e⟩; omega
    · intro hs i hi
      by_cases q : i = n
      · subst q; omega
      · exact h4 (by omega) i (by omega)
    · intro hs
      rcases hn with e | e
      · obtain ⟨i, hi, e1, e2⟩ := h5 (by omega)
        refine ⟨i, by omega, e1, fun j hj hne => ?_⟩
        by_cases q : j = n
        · subst q; exact e
        · exact e2 j (by omega) hne
      · refine ⟨n, by omega, e, fun j hj hne => ?_⟩
        exact h4 (by omega) j (by omega)
def invAll : Bool := (List.range 25).all fun c => (List.range 25).all fun q => !(decide (2 ≤ c) && decide (Nat.gcd q c = 1)) || (List.range c).any fun k => decide (1 ≤ k) && decide (k * q % c = 1)
theorem invAll_yes : invAll = true := by decide +kernel
theorem inv_ex {c q : Nat} (hc : 2 ≤ c) (hc2 : c ≤ 24) (hq : q ≤ 24) (h : Nat.gcd q c = 1) : ∃ k, 1 ≤ k ∧ k < c ∧ k * q % c = 1 := by
  have e := invAll_yes
  unfold invAll at e
  rw [List.all_eq_true] at e
  have e1 := e c (List.mem_range.2 (by omega))
  rw [List.all_eq_true] at e1
  have e2 := e1 q (List.mem_range.2 (by omega))
  rw [decide_eq_true hc, decide_eq_true h] at e2
  simp only [Bool.and_self, Bool.not_true, Bool.false_or] at e2
  rw [List.any_eq_true] at e2
  obtain ⟨k, hk, e3⟩ := e2
  simp only [Bool.and_eq_true, decide_eq_true_eq] at e3
  exact ⟨k, e3.1, List.mem_range.1 hk, e3.2⟩
theorem add_em (a b n : Int) : (a + b % n) % n = (a + b) % n := by rw [Int.add_emod, Int.emod_emod_of_dvd _ (Int.dvd_refl n), ← Int.add_emod]
theorem alg_one (w k q t : Int) : w * (k * q - 1) - (w * q - 1 - t) * k = t * k + k - w := by
  rw [Int.mul_sub, Int.sub_mul, Int.sub_mul, Int.mul_one, Int.one_mul, show w * q * k = w * (k * q) by rw [Int.mul_assoc, Int.mul_comm q k]]
  omega
theorem mod_iff {x j c : Nat} (hj : j < c) : x % c = j ↔ (c : Int) ∣ (x : Int) - j := by
  constructor
  · intro h
    refine ⟨((x / c : Nat) : Int), ?_⟩
    have := Nat.div_add_mod x c
    rw [h] at this
    have e : (x : Int) = ((c * (x / c) : Nat) : Int) + j := by omega
    rw [e, Int.natCast_mul]
    omega
  · rintro ⟨y, hy⟩
    have e : (x : Int) = j + c * y := by omega
    have h1 : ((x % c : Nat) : Int) = j := by
      rw [Int.natCast_emod, e, Int.add_mul_emod_self_left]
      exact Int.emod_eq_of_lt (by omega) (by omega)
    omega
theorem dvd_small {c : Nat} {x : Int} (h : (c : Int) ∣ x) (h1 : -(c : Int) < x) (h2 : x < c) : x = 0 := by
  obtain ⟨y, rfl⟩ := h
  rcases Int.lt_trichotomy y 0 with q | q | q
  · have := Int.mul_le_mul_of_nonneg_left (show y ≤ -1 by omega) (show (0 : Int) ≤ c by omega)
    omega
  · rw [q]; simp
  · have := Int.mul_le_mul_of_nonneg_left (show 1 ≤ y by omega) (show (0 : Int) ≤ c by omega)
    omega
theorem beat_inj {s : Int} {zs : List Int} (h : Ok s zs) {i j : Nat} (hi : i < zs.length) (hj : j < zs.length) (e : zs[i]?.getD 0 = zs[j]?.getD 0) : i = j := by
  rcases Nat.lt_trichotomy i j with q | q | q
  · have := beat_lt h hj q; omega
  · exact q
  · have := beat_lt h hi q; omega
theorem spnR_mem {s : Int} {zs : List Int} {k : Nat} {x : Int} : x ∈ spnR s zs k ↔ ∃ i, i < zs.length ∧ spnD s zs k i = x := by
  unfold spnR
  rw [List.mem_map]
  exact ⟨fun ⟨i, hi, e⟩ => ⟨i, List.mem_range.1 hi, e⟩, fun ⟨i, hi, e⟩ => ⟨i, List.mem_range.2 hi, e⟩⟩
theorem spnD_next {s : Int} {zs : List Int} (h : Ok s zs) {i k : Nat} (hi : i < zs.length) (hk : k + 1 < zs.length) : spnD s zs (k + 1) i = spnD s zs k i + spnD s zs 1 ((i + k) % zs.length) := by
  have hj : (i + k) % zs.length < zs.length := Nat.mod_lt _ (by omega)
  rw [← spanL_spn h hi (by omega), ← spanL_spn h hi (by omega), ← spanL_spn h hj (by omega)]
  have hc : (stepsZ s zs).length = zs.length := stepsP_len _ _ _
  simp only [spanL]
  rw [hc, Nat.add_zero, Nat.mod_eq_of_lt hj]
  omega
/-- Two sizes of one step: whether a step is the greater one. -/
def bigB (s : Int) (zs : List Int) (b : Int) (i : Nat) : Int := if spnD s zs 1 i = b then 1 else 0
theorem bigB_bit (s : Int) (zs : List Int) (b : Int) (i : Nat) : bigB s zs b i = 0 ∨ bigB s zs b i = 1 := by
  unfold bigB
  by_cases h : spnD s zs 1 i = b
  · rw [if_pos h]; exact .inr rfl
  · rw [if_neg h]; exact .inl rfl
theorem spn_cnt {s : Int} {zs : List Int} (h : Ok s zs) {a b : Int} (hab : ∀ i, i < zs.length → spnD s zs 1 i = a ∨ spnD s zs 1 i = b) {i : Nat} (hi : i < zs.length) :
    ∀ k, k < zs.length → spnD s zs k i = k * a + (b - a) * cntW (bigB s zs b) zs.length k i
  | 0, _ => by
    unfold spnD cntW
    rw [Nat.add_zero, Nat.mod_eq_of_lt hi, Int.sub_self, Int.zero_emod]
    simp [sumN]
  | k + 1, hk => by
    rw [spnD_next h hi hk, spn_cnt h hab hi k (by omega)]
    have hj : (i + k) % zs.length < zs.length := Nat.mod_lt _ (by omega)
    have e : cntW (bigB s zs b) zs.length (k + 1) i = cntW (bigB s zs b) zs.length k i + bigB s zs b ((i + k) % zs.length) := rfl
    rw [e, Int.mul_add, Int.natCast_add, Int.add_mul]
    have e2 : spnD s zs 1 ((i + k) % zs.length) = a + (b - a) * bigB s zs b ((i + k) % zs.length) := by
      unfold bigB
      by_cases q : spnD s zs 1 ((i + k) % zs.length) = b
      · rw [if_pos q, q]; omega
      · rw [if_neg q]
        rcases hab _ hj with r | r
        · rw [r]; omega
        · exact absurd r q
    rw [e2]
    simp
    omega
theorem two_cnt {s : Int} {zs : List Int} (h : Ok s zs) {a b : Int} (hlt : a < b) (hab : ∀ i, i < zs.length → spnD s zs 1 i = a ∨ spnD s zs 1 i = b) {k : Nat} (hk1 : 1 ≤ k) (hk : k < zs.length)
    (h2 : (ofZ 577 (spnR s zs k)).length = 2) : ∃ β : Int, (∀ i, i < zs.length → cntW (bigB s zs b) zs.length k i - β = 0 ∨ cntW (bigB s zs b) zs.length k i - β = 1) ∧
      1 ≤ (k : Int) * sumN (bigB s zs b) zs.length - zs.length * β ∧ (k : Int) * sumN (bigB s zs b) zs.length - zs.length * β ≤ zs.length - 1 := by
  have hs := h.1
  obtain ⟨u, v, huv, mu, mv, hall⟩ := ofZ_two (N := 577) (fun x hx => by
    obtain ⟨i, _, rfl⟩ := spnR_mem.1 hx
    have := spnD_bd hs.1 zs k i
    omega) h2
  obtain ⟨iu, hiu, eu⟩ := spnR_mem.1 mu
  obtain ⟨iv, hiv, ev⟩ := spnR_mem.1 mv
  have hc := fun i (hi : i < zs.length) => spn_cnt h hab hi k hk
  obtain ⟨f, hf⟩ : ∃ f, cntW (bigB s zs b) zs.length k = f := ⟨_, rfl⟩
  rw [hf] at hc ⊢
  have hδ : 0 < b - a := by omega
  have hcan : ∀ i j, i < zs.length → j < zs.length → (spnD s zs k i = spnD s zs k j ↔ f i = f j) := by
    intro i j hi hj
    rw [hc i hi, hc j hj]
    constructor
    · intro e
      exact Int.eq_of_mul_eq_mul_left (by omega) (show (b - a) * f i = (b - a) * f j by omega)
    · intro e; rw [e]
  have hlt2 : f iu < f iv := by
    have e1 := hc iu hiu
    have e2 := hc iv hiv
    have e3 : (b - a) * f iu < (b - a) * f iv := by omega
    exact Int.lt_of_mul_lt_mul_left e3 (by omega)
  have hv : ∀ i, i < zs.length → f i = f iu ∨ f i = f iv := by
    intro i hi
    rcases hall _ (spnR_mem.2 ⟨i, hi, rfl⟩) with e | e
    · left; exact (hcan i iu hi hiu).1 (by rw [e, eu])
    · right; exact (hcan i iv hi hiv).1 (by rw [e, ev])
  have hone := two_near (f := f) (c := zs.length) (fun i hi => by
    rw [← hf, cntW_next]
    have := bigB_bit s zs b ((i + k) % zs.length)
    have := bigB_bit s zs b (i % zs.length)
    omega) hlt2 hv ⟨iu, hiu, rfl⟩ ⟨iv, hiv, rfl⟩
  refine ⟨f iu, fun i hi => by have := hv i hi; omega, ?_⟩
  have hsum : sumN (fun i => f i - f iu) zs.length = k * sumN (bigB s zs b) zs.length - zs.length * f iu := by
    rw [sumN_sub, ← hf, cntW_sum (by omega), hf]
  have hb := sumN_bits (f := fun i => f i - f iu) zs.length (fun i hi => by have := hv i hi; show f i - f iu = 0 ∨ f i - f iu = 1; omega)
  have h3 := hb.2.1 ⟨iv, hiv, by show f iv - f iu = 1; omega⟩
  have h4 := hb.2.2.1 ⟨iu, hiu, by show f iu - f iu = 0; omega⟩
  rw [hsum] at h3 h4
  exact ⟨h3, h4⟩
theorem myhill {n : Nat} {zs : List Int} (h : Ok n zs) (h2 : 2 ≤ zs.length) (hm : ∀ k, 1 ≤ k → k < zs.length → (ofZ 577 (spnR n zs k)).length = 2) :
    ∃ (d : Nat) (s : Int), 1 ≤ d ∧ d < n ∧ (genP n d zs.length).Nodup ∧ zs = rotZ n (genZ n zs.length d) 1 s := by
  have hn := h.1
  have hl24 := ok_len h
  obtain ⟨c, hc⟩ : ∃ c, zs.length = c := ⟨_, rfl⟩
  have hcc : 2 ≤ c := by omega
  obtain ⟨a, b, hlt, ma, mb, hab'⟩ := ofZ_two (N := 577) (l := spnR n zs 1) (fun x hx => by
    obtain ⟨i, _, rfl⟩ := spnR_mem.1 hx
    have := spnD_bd hn.1 zs 1 i
    omega) (hm 1 (by omega) (by omega))
  have hab : ∀ i, i < zs.length → spnD n zs 1 i = a ∨ spnD n zs 1 i = b := fun i hi => hab' _ (spnR_mem.2 ⟨i, hi, rfl⟩)
  have hT := fun k (h1 : 1 ≤ k) (h3 : k < zs.length) => two_cnt h hlt hab h1 h3 (hm k h1 h3)
  have hsc := fun (k i : Nat) (hi : i < zs.length) (hk : k < zs.length) => spn_cnt h hab hi k hk
  obtain ⟨Q, hQ⟩ : ∃ Q, sumN (bigB n zs b) zs.length = Q := ⟨_, rfl⟩
  have hQb := (sumN_bits (f := bigB n zs b) zs.length (fun i _ => bigB_bit _ _ _ i)).1
  rw [hQ] at hQb hT
  obtain ⟨q, rfl⟩ : ∃ q : Nat, Q = q := ⟨Q.toNat, by omega⟩
  -- no divisor in common
  have hg : Nat.gcd q c = 1 := by
    have hgp : 0 < Nat.gcd q c := Nat.gcd_pos_of_pos_right _ (by omega)
    rcases Nat.lt_or_ge 1 (Nat.gcd q c) with hg1 | hg1
    · exfalso
      obtain ⟨g, hge⟩ : ∃ g, Nat.gcd q c = g := ⟨_, rfl⟩
      rw [hge] at hg1 hgp
      obtain ⟨x, hx⟩ : g ∣ c := by rw [← hge]; exact Nat.gcd_dvd_right _ _
      obtain ⟨y, hy⟩ : g ∣ q := by rw [← hge]; exact Nat.gcd_dvd_left _ _
      have hx1 : 1 ≤ x := by
        rcases Nat.eq_zero_or_pos x with e | e
        · rw [e] at hx; omega
        · exact e
      have hxc : x < c := by
        have := Nat.mul_le_mul_right x (show 2 ≤ g by omega)
        omega
      obtain ⟨β, _, h3, h4⟩ := hT x hx1 (by omega)
      have e : (x : Int) * (q : Int) - zs.length * β = (c : Int) * (y - β) := by
        rw [hc, hy, Int.mul_sub, hx]
        have : x * (g * y) = g * x * y := by rw [← Nat.mul_assoc, Nat.mul_comm x g]
        rw [← Int.natCast_mul, this, Int.natCast_mul (g * x) y]
      rw [e, hc] at h4
      rw [e] at h3
      have := dvd_small (c := c) ⟨y - β, rfl⟩ (by omega) (by omega)
      omega
    · omega
  obtain ⟨k, hk1, hkc, hkq⟩ := inv_ex hcc (by omega) (by omega : q ≤ 24) hg
  have hkd : (c : Int) ∣ (k : Int) * q - 1 := by
    have := (mod_iff (x := k * q) (j := 1) (c := c) (by omega)).1 hkq
    rwa [Int.natCast_mul] at this
  obtain ⟨β, hβ, h3, h4⟩ := hT k hk1 (by omega)
  have hone : (k : Int) * (q : Int) - zs.length * β = 1 := by
    rw [hc] at h3 h4 ⊢
    have hd : (c : Int) ∣ (k : Int) * q - c * β - 1 := by
      have e : (k : Int) * q - c * β - 1 = ((k : Int) * q - 1) - c * β := by omega
      rw [e]
      exact Int.dvd_sub hkd ⟨β, rfl⟩
    have := dvd_small hd (by omega) (by omega)
    omega
  have hbits := sumN_bits (f := fun i => cntW (bigB n zs b) zs.length k i - β) zs.length hβ
  have hsum : sumN (fun i => cntW (bigB n zs b) zs.length k i - β) zs.length = 1 := by
    rw [sumN_sub, cntW_sum (by omega), hQ]; exact hone
  obtain ⟨i0, hi0, _, hoth⟩ := hbits.2.2.2.2 hsum
  obtain ⟨D, hD⟩ : ∃ D, (k : Int) * a + (b - a) * β = D := ⟨_, rfl⟩
  have hsp : ∀ i, i < c → i ≠ i0 → spnD n zs k i = D := by
    intro i hi hne
    have e := hoth i (by omega) hne
    have e2 : cntW (bigB n zs b) zs.length k i = β := by
      have : cntW (bigB n zs b) zs.length k i - β = 0 := e
      omega
    rw [hsc k i (by omega) (by omega), e2, hD]
  have hnext : ∀ i, i < c → i ≠ i0 → zs[(i + k) % c]?.getD 0 = (zs[i]?.getD 0 + D) % n := by
    intro i hi hne
    rw [← hsp i hi hne]
    unfold spnD
    rw [hc, add_em]
    have hb2 := beat_bd h (show (i + k) % c < zs.length by rw [hc]; exact Nat.mod_lt _ (by omega))
    rw [show zs[i]?.getD 0 + (zs[(i + k) % c]?.getD 0 - zs[i]?.getD 0) = zs[(i + k) % c]?.getD 0 by omega]
    exact (Int.emod_eq_of_lt hb2.1 hb2.2).symm
  have hD1 : 1 ≤ D ∧ D < n := by
    obtain ⟨i1, hi1, hne⟩ : ∃ i1, i1 < c ∧ i1 ≠ i0 := by
      by_cases e : i0 = 0
      · exact ⟨1, by omega, by omega⟩
      · exact ⟨0, by omega, by omega⟩
    have e := hsp i1 hi1 hne
    have hb2 := spnD_bd hn.1 zs k i1
    rw [e] at hb2
    refine ⟨?_, hb2.2⟩
    rcases Int.lt_or_le 0 D with p | p
    · omega
    · exfalso
      have e1 := hnext i1 hi1 hne
      have hb3 := beat_bd h (show i1 < zs.length by omega)
      rw [show D = 0 by omega, Int.add_zero, Int.emod_eq_of_lt hb3.1 hb3.2] at e1
      have e2 := beat_inj h (show (i1 + k) % c < zs.length by rw [hc]; exact Nat.mod_lt _ (by omega)) (by omega) e1
      have e3 := (mod_iff (x := i1 + k) (j := i1) (c := c) hi1).1 e2
      have := dvd_small e3 (by omega) (by omega)
      omega
  obtain ⟨d, rfl⟩ : ∃ d : Nat, D = d := ⟨D.toNat, by omega⟩
  -- the chain
  have hPlt : ∀ t, (i0 + (t + 1) * k) % c < c := fun t => Nat.mod_lt _ (by omega)
  have hPinj : ∀ t t', t < c → t' < c → (i0 + (t + 1) * k) % c = (i0 + (t' + 1) * k) % c → t = t' := by
    intro t t' ht ht' e
    have e1 := (mod_iff (x := i0 + (t + 1) * k) (c := c) (hPlt t')).1 e
    have e2 := (mod_iff (x := i0 + (t' + 1) * k) (c := c) (hPlt t')).1 rfl
    have e3 : (c : Int) ∣ ((t : Int) - t') * k := by
      have := Int.dvd_sub e1 e2
      have e4 : ((i0 + (t + 1) * k : Nat) : Int) - ((i0 + (t' + 1) * k) % c : Nat) - (((i0 + (t' + 1) * k : Nat) : Int) - ((i0 + (t' + 1) * k) % c : Nat)) = ((t : Int) - t') * k := by
        rw [Int.sub_mul]
        have h1 : ((i0 + (t + 1) * k : Nat) : Int) = i0 + (t * k + k) := by rw [Int.natCast_add, Int.natCast_mul, Int.natCast_add, Int.add_mul]; simp
        have h2 : ((i0 + (t' + 1) * k : Nat) : Int) = i0 + (t' * k + k) := by rw [Int.natCast_add, Int.natCast_mul, Int.natCast_add, Int.add_mul]; simp
        rw [h1, h2]
        omega
      rwa [e4] at this
    have e5 : (c : Int) ∣ (t : Int) - t' := by
      have h1 : (c : Int) ∣ ((t : Int) - t') * k * q := Int.dvd_trans e3 ⟨q, rfl⟩
      have h2 : (c : Int) ∣ ((t : Int) - t') * ((k : Int) * q - 1) := Int.dvd_trans hkd ⟨(t : Int) - t', by rw [Int.mul_comm]⟩
      have h3 := Int.dvd_sub h1 h2
      have e6 : ((t : Int) - t') * k * q - ((t : Int) - t') * ((k : Int) * q - 1) = (t : Int) - t' := by rw [Int.mul_sub, Int.mul_assoc]; omega
      rwa [e6] at h3
    have := dvd_small e5 (by omega) (by omega)
    omega
  have hPne : ∀ t, t + 1 < c → (i0 + (t + 1) * k) % c ≠ i0 := by
    intro t ht e
    have e1 : (i0 + ((c - 1) + 1) * k) % c = i0 := by
      rw [show c - 1 + 1 = c by omega, Nat.add_mul_mod_self_left, Nat.mod_eq_of_lt (by omega)]
    have := hPinj t (c - 1) (by omega) (by omega) (by rw [e, e1])
    omega
  obtain ⟨s, hs⟩ : ∃ s, zs[(i0 + (0 + 1) * k) % c]?.getD 0 = s := ⟨_, rfl⟩
  have hz : ∀ t, t < c → zs[(i0 + (t + 1) * k) % c]?.getD 0 = (s + t * d) % n := by
    intro t
    induction t with
    | zero =>
      intro _
      have hb3 := beat_bd h (show (i0 + (0 + 1) * k) % c < zs.length by rw [hc]; exact hPlt 0)
      rw [hs] at hb3 ⊢
      simp only [Int.natCast_zero, Int.zero_mul, Int.add_zero]
      exact (Int.emod_eq_of_lt hb3.1 hb3.2).symm
    | succ t ih =>
      intro ht
      have e1 := hnext _ (hPlt t) (hPne t (by omega))
      rw [ih (by omega)] at e1
      have e2 : ((i0 + (t + 1) * k) % c + k) % c = (i0 + (t + 1 + 1) * k) % c := by
        rw [Nat.mod_add_mod, Nat.add_assoc, ← Nat.succ_mul]
      rw [e2] at e1
      rw [e1, em_add, Int.natCast_add, Int.add_mul]
      congr 1
      simp
      omega
  have hall : ∀ j, j < c → ∃ t, t < c ∧ (i0 + (t + 1) * k) % c = j := by
    intro j hj
    obtain ⟨y, hy⟩ : ∃ y, (((j : Int) - i0) * q - 1) % c = y := ⟨_, rfl⟩
    have hyb : 0 ≤ y ∧ y < c := by rw [← hy]; exact em_bd _ (by omega)
    obtain ⟨t, rfl⟩ : ∃ t : Nat, y = t := ⟨y.toNat, by omega⟩
    refine ⟨t, by omega, (mod_iff hj).2 ?_⟩
    have h1 : (c : Int) ∣ ((j : Int) - i0) * q - 1 - t := by
      rw [← hy]
      exact ⟨(((j : Int) - i0) * q - 1) / c, by have := Int.mul_ediv_add_emod (((j : Int) - i0) * q - 1) c; omega⟩
    have h2 : (c : Int) ∣ (((j : Int) - i0) * q - 1 - t) * k := Int.dvd_trans h1 ⟨k, rfl⟩
    have h3 : (c : Int) ∣ ((j : Int) - i0) * ((k : Int) * q - 1) := Int.dvd_trans hkd ⟨(j : Int) - i0, by rw [Int.mul_comm]⟩
    have h4 := Int.dvd_sub h3 h2
    have e : ((j : Int) - i0) * ((k : Int) * q - 1) - (((j : Int) - i0) * q - 1 - t) * k = ((i0 + (t + 1) * k : Nat) : Int) - j := by
      have h1 : ((i0 + (t + 1) * k : Nat) : Int) = i0 + (t * k + k) := by rw [Int.natCast_add, Int.natCast_mul, Int.natCast_add, Int.add_mul]; simp
      rw [h1, alg_one]
      omega
    rwa [e] at h4
  refine ⟨d, s, by omega, by omega, ?_, ?_⟩
  · rw [hc, genP_nodup]
    intro i i' hii hi' e
    unfold genT at e
    have e1 : zs[(i0 + (i + 1) * k) % c]?.getD 0 = zs[(i0 + (i' + 1) * k) % c]?.getD 0 := by
      rw [hz i (by omega), hz i' hi', ← add_em s, e, add_em]
    have e2 := beat_inj h (by rw [hc]; exact hPlt i) (by rw [hc]; exact hPlt i') e1
    have := hPinj i i' (by omega) hi' e2
    omega
  · refine ok_ext h (rot_ok hn _ _) fun x hx => ?_
    rw [rot_mem (genZ_ok hn), genZ_mem hn.1]
    constructor
    · intro hm
      refine ⟨hx, ?_⟩
      obtain ⟨j, hj, e⟩ := List.getElem_of_mem hm
      obtain ⟨t, ht, e1⟩ := hall j (by omega)
      have e2 := hz t ht
      rw [e1, List.getElem?_eq_getElem hj, e] at e2
      simp only [Option.getD_some] at e2
      refine ⟨t, by omega, ?_⟩
      unfold genT
      rw [e2, em_sub, show s + (t : Int) * d - s = (t : Int) * d by omega]
    · rintro ⟨_, t, ht, e⟩
      unfold genT at e
      have e2 := hz t (by omega)
      rw [← add_em s, e, add_em, show s + (x - s) = x by omega, Int.emod_eq_of_lt hx.1 hx.2] at e2
      rw [← e2]
      have hl := hPlt t
      rw [← hc] at hl ⊢
      rw [List.getElem?_eq_getElem hl]
      exact List.getElem_mem hl
end Go.Proofs.Ythcmpkhfimapgaa.Rhy

/-
  Helpers of the claims beside this text: GeneratedRhythm of the model.
-/
namespace Go.Proofs.Ythcmpkhfimapgaa.Rhy
open Go.RowKit
set_option linter.unusedVariables false
set_option linter.unusedSimpArgs false

/-- A list that grows behind the result's box. -/
def LsAt (g : Nat) (l : List Int) (v : Value) (w wr : World) : Prop :=
  ∃ av cv, v = .slice av l.length cv ∧ Box wr g (.int .i64 0) (.slice none 0 0) 26 ∧
    wr.ownsRow (g + 1) 3 1 (.slice av l.length cv) l.length (ints l) ∧ Below g w wr ∧ g + 1 ≤ wr.heap.size
theorem genP_int {n g : Int} (h : 1 ≤ n ∧ n ≤ 24) (j : Nat) : AllInt (genP n g j) := by
  intro z hz
  obtain ⟨i, _, rfl⟩ := genP_mem.1 hz
  have := genT_bd h.1 g i
  omega
theorem genP_pre {n g : Int} {j k : Nat} (h : (genP n g k).Nodup) (hj : j ≤ k) : (genP n g j).Nodup := by
  rw [genP_nodup] at h ⊢
  exact fun i i' h1 h2 => h i i' h1 (by omega)
theorem genP_next {n g : Int} {j : Nat} (h : (genP n g j).Nodup) (hn : hasB (genP n g j) (genT n g j) = false) : (genP n g (j + 1)).Nodup := by
  rw [genP_snoc, List.nodup_append]
  refine ⟨h, by simp, fun x hx y hy => ?_⟩
  rw [List.mem_singleton] at hy
  subst hy
  rintro rfl
  unfold hasB at hn
  rw [List.contains_iff_mem.2 hx] at hn
  cases hn
theorem genP_twice {n g : Int} {j k : Nat} (h : hasB (genP n g j) (genT n g j) = true) (hj : j < k) : ¬ (genP n g k).Nodup := by
  intro hd
  have h2 := genP_pre hd (show j + 1 ≤ k by omega)
  rw [genP_snoc, List.nodup_append] at h2
  unfold hasB at h
  exact h2.2.2 _ (List.contains_iff_mem.1 h) _ (by simp) rfl
theorem prod24 {j : Nat} {g : Int} (hj : j ≤ 24) (hg : 0 ≤ g ∧ g ≤ 24) : 0 ≤ (j : Int) * g ∧ (j : Int) * g ≤ 576 := by
  have h1 : 0 ≤ (j : Int) * g := Int.mul_nonneg (by omega) hg.1
  have h2 : (j : Int) * g ≤ 24 * 24 := Int.mul_le_mul (by omega) hg.2 hg.1 (by omega)
  omega

set_option maxHeartbeats 1000000 in
theorem gen_spec (n k g : Int) (w : World) (h1 : -9223372036854775808 ≤ n) (h2 : n ≤ 9223372036854775807) (h3 : -9223372036854775808 ≤ k) (h4 : k ≤ 9223372036854775807) (h5 : -9223372036854775808 ≤ g) (h6 : g ≤ 9223372036854775807) :
    Calls Try.prog 32 #[.int .i64 n, .int .i64 k, .int .i64 g] w (CPost (GenC n k g) n (genZ n k g) w) := by
  have HX := Lib.hid (box_new w (.int .i64 0) (.slice none 0 0) 26)
  by_cases ho : EvC k n
  · have HE := Lib.hid ho
    by_cases hg : 1 ≤ g ∧ g ≤ n
    · obtain ⟨hn1, hn2, hk1, hk2⟩ := ho
      obtain ⟨K, rfl⟩ : ∃ K : Nat, k = K := ⟨k.toNat, by omega⟩
      have hK : K ≤ 24 := by omega
      obtain ⟨b, hb⟩ : ∃ b, b = w.heap.size := ⟨_, rfl⟩
      have HB := Lib.hid hb
      have HGG := Lib.hid hg
      clear hb
      go_enter Try.func32, Try.ntmps32
      go_wp2_with fail
      refine (six_yes K n _ HE.out).mono ?_
      rintro e w' ⟨rfl, rfl⟩
      go_wp2_with fail
      refine (in_yes _ _ _ _ hg.1 hg.2).mono ?_
      rintro e w' ⟨rfl, rfl⟩
      go_wp2
      rw [← HB.out]
      go_loopw [8, 9] (fun v i wr => ∃ j : Nat, j ≤ K ∧ i = .int .i64 j ∧ Hid ((genP n g j).Nodup) ∧ LsAt b (genP n g j) v w wr) (fun _ i _ => K - (intOf i).toNat)
      case atStart =>
        refine ⟨0, by omega, rfl, Lib.hid (by simp [genP]), some ⟨b + 1, 0, none⟩, 0, rfl, ?_, ?_, ?_, ?_⟩
        · rw [HB.out]
          exact (box_new w (.int .i64 0) (.slice none 0 0) 26).keep (B := w.heap.size + 1) ((Below.refl _ _).alloc (by simp) _) (by omega)
        · have := World.ownsRow_made (base := w.heap.size + 1) (e := 3) (size := 1) (w.alloc (.cells #[.int .i64 0, .slice none 0 0] 26)) #[] 0 (by simp) (by unfold maxLen; omega) rfl
          rw [HB.out]
          simpa [genP, ints] using this
        · rw [HB.out]; exact bel2 w _ _
        · rw [HB.out]; simp
      case round =>
        obtain ⟨j, hj, rfl, HND, av, cv, rfl, hb0, hown, hnx, hsz⟩ := hrel
        have hml : (genP n g j).length ≤ 1048577 := by rw [genP_len]; omega
        have hml2 : (genP n g j).length ≤ 1048576 := by rw [genP_len]; omega
        have HI : Hid (IntsAt wr av (genP n g j).length (genP n g j)) := Lib.hid (intsAt_own hown (genP_int ⟨hn1, hn2⟩ j))
        have H0 := Lib.hid hb0
        have HO := Lib.hid hown
        have HN := Lib.hid hnx
        have HZ := Lib.hid hsz
        obtain ⟨c0, c1, f0, f1⟩ := H0.out.facts
        have lt0 := hb0.lt
        clear hb0 hown hnx hsz
        by_cases hlt : j < K
        · have hp := prod24 (j := j) (g := g) (by omega) ⟨by omega, by omega⟩
          obtain ⟨t, ht⟩ : ∃ t, genT n g j = t := ⟨_, rfl⟩
          have hTB := genT_bd hn1 g j
          have HSN := Lib.hid (genP_snoc n g j)
          rw [ht] at hTB HSN
          obtain ⟨p, hpe⟩ : ∃ p : Int, (j : Int) * g = p := ⟨_, rfl⟩
          have hq : Int.tmod p n = t := by rw [Int.tmod_eq_emod_of_nonneg (by omega), ← ht]; unfold genT; rw [hpe]
          rw [hpe] at hp
          have hw1 : wrap64 ((j : Int) * g) = p := by rw [hpe]; unfold wrap64; omega
          have hw2 : wrap64 t = t := by unfold wrap64; omega
          have hn0 : ¬ n = 0 := by omega
          cases hc : hasB (genP n g j) t
          · have HC := Lib.hid hc
            have HND2 : Hid ((genP n g (j + 1)).Nodup) := Lib.hid (genP_next HND.out (by rw [ht]; exact hc))
            have HPE := Lib.hid hpe
            clear hc ht hpe
            go_wp2_with (first
              | (go_at_call 70; refine (has_any av (genP n g j).length cv (genP n g j) t _ HI.out (by omega)).mono ?_; rintro e w' ⟨rfl, rfl⟩; rw [HC.out])
              | (at_builtin; refine append_int rfl _ _ rfl (b + 1) _ (genP n g j) _ _ HO.out hml HZ.out _ rfl rfl rfl ?_; intro a' c' w' hown' hb'; have HO2 := Lib.hid hown'; have HX2 := Lib.hid hb'; clear hown' hb'))
            go_roundw
            case rel =>
              refine ⟨j + 1, by omega, by go_num, HND2, a', c', by rw [HSN.out]; simp, H0.out.keep HX2.out (by omega), by rw [HSN.out]; exact HO2.out, HN.out.trans (HX2.out.mono (by omega)), Nat.le_trans HZ.out HX2.out.size⟩
            case measure => simp [intOf]; omega
          · have HC := Lib.hid hc
            have HO3 : Hid (¬ GenC n K g) := Lib.hid (fun q => genP_twice (by rw [ht]; exact hc) hlt (by have := q.2.2; rwa [Int.toNat_natCast] at this))
            have HPE := Lib.hid hpe
            clear hc ht hpe
            go_wp2_with (go_at_call 70; refine (has_any av (genP n g j).length cv (genP n g j) t _ HI.out (by omega)).mono ?_; rintro e w' ⟨rfl, rfl⟩; rw [HC.out])
            refine bodyPost_ret (v := .tuple #[rhy 0 none 0 0, .bool false]) (by simp [results, Try.results32, go_sem, *]) rfl ?_
            refine cpost_no HO3.out ?_
            rw [← HB.out]
            exact (HN.out.setCell (by show b ≤ b; omega) _).setCell (by show b ≤ b; omega) _
        · have e : j = K := by omega
          subst e
          have hn0 : 0 ≤ n ∧ n ≤ 1000 := by omega
          have HO3 : Hid (GenC n j g) := Lib.hid ⟨HE.out, HGG.out, by rw [Int.toNat_natCast]; exact HND.out⟩
          go_wp2_with fail
          refine (of_int n av (genP n g j).length cv (genP n g j) wr HI.out hml2 hn0.1 hn0.2).mono ?_
          rintro e w2 ⟨a2, cap2, rfl, hown2, hb2⟩
          have HO2 := Lib.hid hown2
          have HB2 := Lib.hid hb2
          have HF := Lib.hid (show w2.frozen? ⟨b, 0, none⟩ = false ∧ w2.frozen? ⟨b, 1, none⟩ = false ∧ b < w2.heap.size from ⟨(H0.out.keep hb2 lt0).facts.2.2.1, (H0.out.keep hb2 lt0).facts.2.2.2, (H0.out.keep hb2 lt0).lt⟩)
          obtain ⟨q0, q1, q2⟩ := HF.out
          obtain ⟨r0, r1, _, _⟩ := (H0.out.keep hb2 lt0).facts
          clear hown2 hb2
          go_wp2
          have HE2 : Hid (genZ n j g = ofZ n.toNat (genP n g j)) := Lib.hid (by unfold genZ; rw [Int.toNat_natCast])
          refine bodyPost_ret (v := .tuple #[rhy n a2 (ofZ n.toNat (genP n g j)).length cap2, .bool true]) (by simp [results, Try.results32, go_sem, *]) rfl ?_
          refine cpost_yes HO3.out (by rw [HE2.out]) ?_ ?_
          · rw [HE2.out]; exact own_base (ownsRow_setCell_below (ownsRow_setCell_below HO2.out (by show b < wr.heap.size; omega) _) (by show b < wr.heap.size; omega) _) (by have := HB.out; omega)
          · rw [← HB.out]; exact ((HN.out.trans (HB2.out.mono (by omega))).setCell (by show b ≤ b; omega) _).setCell (by show b ≤ b; omega) _
    · have HG := Lib.hid hg
      have HO := Lib.hid (show ¬ GenC n k g from fun q => hg q.2.1)
      clear ho hg
      go_enter Try.func32, Try.ntmps32
      go_wp2_with fail
      refine (six_yes k n _ HE.out).mono ?_
      rintro e w' ⟨rfl, rfl⟩
      go_wp2_with fail
      refine (in_no _ _ _ _ HG.out).mono ?_
      rintro e w' ⟨rfl, rfl⟩
      obtain ⟨c0, c1, c2, c3⟩ := HX.out.facts
      have lt0 := HX.out.lt
      go_wp2
      refine bodyPost_ret (v := .tuple #[rhy 0 none 0 0, .bool false]) (by simp [results, Try.results32, go_sem, *]) rfl ?_
      exact cpost_no HO.out (bel1 w _)
  · have HE := Lib.hid ho
    have HO := Lib.hid (show ¬ GenC n k g from fun q => ho q.1)
    clear ho
    go_enter Try.func32, Try.ntmps32
    go_wp2_with fail
    refine (six_no k n _ HE.out).mono ?_
    rintro e w' ⟨rfl, rfl⟩
    obtain ⟨c0, c1, c2, c3⟩ := HX.out.facts
    have lt0 := HX.out.lt
    go_wp2
    refine bodyPost_ret (v := .tuple #[rhy 0 none 0 0, .bool false]) (by simp [results, Try.results32, go_sem, *]) rfl ?_
    exact cpost_no HO.out (bel1 w _)
end Go.Proofs.Ythcmpkhfimapgaa.Rhy

/-
  Helpers of the claims beside this text: GeneratorsOf, IsGenerated of the model.
-/
namespace Go.Proofs.Ythcmpkhfimapgaa.Rhy
open Go.RowKit
set_option linter.unusedVariables false
set_option linter.unusedSimpArgs false

/-- g generates a rotation of the rhythm. -/
def gnQ (n : Int) (zs : List Int) (g : Int) : Prop := GenC n (zs.length : Nat) g ∧ 0 ≤ rotToB n (genZ n (zs.length : Nat) g) n zs
open Classical in
noncomputable def gnP (n : Int) (zs : List Int) (j : Nat) : List Int := ((List.range j).map Int.ofNat).filter fun g => decide (1 ≤ g ∧ gnQ n zs g)
noncomputable def gnB (s : Int) (zs : List Int) : List Int := cZ (Ok s zs) (gnP s zs s.toNat)
theorem gnP_mem {n : Int} {zs : List Int} {j : Nat} {x : Int} : x ∈ gnP n zs j ↔ (1 ≤ x ∧ x < j) ∧ gnQ n zs x := by
  unfold gnP
  rw [List.mem_filter, List.mem_map]
  constructor
  · rintro ⟨⟨i, hi, rfl⟩, hd⟩
    have := List.mem_range.1 hi
    simp only [decide_eq_true_eq] at hd
    exact ⟨⟨hd.1, by show ((i : Nat) : Int) < j; omega⟩, hd.2⟩
  · rintro ⟨⟨h1, h2⟩, hq⟩
    refine ⟨⟨x.toNat, List.mem_range.2 (by omega), by show ((x.toNat : Nat) : Int) = x; omega⟩, ?_⟩
    simp only [decide_eq_true_eq]
    exact ⟨h1, hq⟩
theorem gnP_one (n : Int) (zs : List Int) : gnP n zs 1 = [] := by
  rw [List.eq_nil_iff_forall_not_mem]
  intro x hx
  have := (gnP_mem.1 hx).1
  omega
theorem gnP_yes {n : Int} {zs : List Int} {g : Nat} (h1 : 1 ≤ g) (h : gnQ n zs g) : gnP n zs (g + 1) = gnP n zs g ++ [(g : Int)] := by
  unfold gnP
  rw [List.range_succ, List.map_append, List.filter_append]
  congr 1
  simp only [List.map_cons, List.map_nil]
  rw [List.filter_cons_of_pos]
  · rfl
  · simp only [decide_eq_true_eq]; exact ⟨by show (1 : Int) ≤ (g : Int); omega, h⟩
theorem gnP_no {n : Int} {zs : List Int} {g : Nat} (h : ¬ gnQ n zs g) : gnP n zs (g + 1) = gnP n zs g := by
  unfold gnP
  rw [List.range_succ, List.map_append, List.filter_append]
  simp only [List.map_cons, List.map_nil]
  rw [List.filter_cons_of_neg]
  · simp
  · simp only [decide_eq_true_eq]; exact fun q => h q.2
theorem gnP_len (n : Int) (zs : List Int) (j : Nat) : (gnP n zs j).length ≤ j := by
  unfold gnP
  refine Nat.le_trans (List.length_filter_le _ _) ?_
  simp
theorem gnP_int {n : Int} {zs : List Int} {j : Nat} (hj : j ≤ 1000) : AllInt (gnP n zs j) := by
  intro z hz
  have := (gnP_mem.1 hz).1
  omega
theorem gnB_yes {s : Int} {zs : List Int} (h : Ok s zs) : gnB s zs = gnP s zs s.toNat := cZ_yes h
theorem gnB_no {s : Int} {zs : List Int} (h : ¬ Ok s zs) : gnB s zs = [] := cZ_no h
theorem gnB_int (s : Int) (zs : List Int) : AllInt (gnB s zs) := by
  by_cases h : Ok s zs
  · rw [gnB_yes h]; exact gnP_int (by have := h.1; omega)
  · rw [gnB_no h]; intro z hz; cases hz
theorem gnB_len (s : Int) (zs : List Int) : (gnB s zs).length ≤ 24 := by
  by_cases h : Ok s zs
  · rw [gnB_yes h]; exact Nat.le_trans (gnP_len _ _ _) (by have := h.1; omega)
  · rw [gnB_no h]; simp

set_option maxHeartbeats 2000000 in
theorem gens_spec (s : Int) (a : Option Addr) (len cap : Nat) (zs : List Int) (w : World) (h : IntsAt w a len zs) (hm : zs.length ≤ 1048576) :
    Calls Try.prog 37 #[rhy s a len cap] w (IPost (gnB s zs) w) := by
  have HS := Lib.hid h
  have hl : len ≤ 1048576 := by have := h.1; omega
  obtain rfl : zs.length = len := h.len
  clear h
  by_cases ho : Ok s zs
  · obtain ⟨n, rfl⟩ : ∃ n : Nat, s = n := ⟨s.toNat, by have := ho.1; omega⟩
    have HO := Lib.hid ho
    have hn1 : 1 ≤ n := by have := ho.1.1; omega
    have hn24 : n ≤ 24 := by have := ho.1.2; omega
    have hl24 := ok_len ho
    have HE : Hid (gnB n zs = gnP n zs n) := Lib.hid (by rw [gnB_yes ho, Int.toNat_natCast])
    clear ho
    rw [HE.out]
    go_enter Try.func37, Try.ntmps37
    go_wp2_with fail
    refine (ok_yes n a zs.length cap zs _ (HS.out.below (bel1 w _)) hl HO.out).mono ?_
    rintro e w1 ⟨rfl, hb1⟩
    have HB := Lib.hid ((bel1 w (.cells #[.int .i64 n, .slice a zs.length cap] 26)).trans (hb1.mono (by simp)))
    have HT := Lib.hid ((two_new w (.int .i64 n) (.slice a zs.length cap) 26).keep hb1)
    clear hb1
    go_wp2
    go_loopw [3, 4] (fun v i wr => ∃ g : Nat, 1 ≤ g ∧ g ≤ 25 ∧ g ≤ n ∧ i = .int .i64 g ∧ VecAt (gnP n zs g) w1 wr v) (fun _ i _ => 25 - (intOf i).toNat)
    case atStart => exact ⟨1, by omega, by omega, hn1, rfl, by rw [gnP_one]; exact vec_made w1⟩
    case round =>
      obtain ⟨g, hg1, hg25, hgn, rfl, av, cv, rfl, hown, hnx, hsz⟩ := hrel
      obtain ⟨L, hL⟩ : ∃ L, gnP n zs g = L := ⟨_, rfl⟩
      have hml : L.length ≤ 1048577 := by rw [← hL]; have := gnP_len n zs g; omega
      rw [hL] at hown ⊢
      have HL := Lib.hid hL
      have HO1 := Lib.hid hown
      have HN := Lib.hid hnx
      have HZ := Lib.hid hsz
      have HTr := Lib.hid (HT.out.keep hnx)
      have HI : Hid (IntsAt wr a zs.length zs) := Lib.hid (HS.out.below (HB.out.trans (hnx.mono HB.out.size)))
      obtain ⟨t1, t1a, t1b⟩ := HTr.out
      clear hL hown hnx hsz
      by_cases hlt : g < n
      · go_wp2_with fail
        refine (gen_spec n (zs.length : Nat) g wr (by omega) (by omega) (by omega) (by omega) (by omega) (by omega)).mono ?_
        rintro e w2 hp
        unfold CPost at hp
        by_cases hc : GenC n (zs.length : Nat) g
        · rw [cS_yes hc, cZ_yes hc, cB_yes hc] at hp
          obtain ⟨a2, cap2, rfl, hown2, hb2⟩ := hp
          obtain ⟨X, hX⟩ : ∃ X, genZ n (zs.length : Nat) g = X := ⟨_, rfl⟩
          have hXl : X.length ≤ 24 := by rw [← hX]; exact ok_len (genZ_ok (by omega))
          have HXI : Hid (AllInt X) := Lib.hid (by rw [← hX]; exact ok_int' (genZ_ok (by omega)))
          rw [hX] at hown2 ⊢
          have HX := Lib.hid hX
          have HC := Lib.hid hc
          have HIx := Lib.hid (intsAt_own hown2 HXI.out)
          have HB2 := Lib.hid hb2
          have HT2 := Lib.hid (HTr.out.keep hb2)
          have HBX := Lib.hid (box_new w2 (.int .i64 n) (.slice a2 X.length cap2) 26)
          clear t1 t1a t1b hX hc hown2 hb2
          obtain ⟨t1, t1a, t1b⟩ := HT2.out
          go_wp2_with fail
          refine (rotTo_spec n a2 X.length cap2 X n a zs.length cap zs _ (HIx.out.below (bel1 _ _)) (by omega) (HI.out.below (HB2.out.trans ((bel1 w2 _).mono HB2.out.size))) (by omega)).mono ?_
          rintro e w3 ⟨rfl, hb3⟩
          have HB3 := Lib.hid (HB2.out.trans (((bel1 w2 (.cells #[.int .i64 n, .slice a2 X.length cap2] 26)).trans (hb3.mono (by simp))).mono HB2.out.size))
          have HOr := Lib.hid (own_below HO1.out HB3.out)
          have HN3 := Lib.hid (HN.out.trans (HB3.out.mono HZ.out))
          have HZ3 := Lib.hid (Nat.le_trans HZ.out HB3.out.size)
          obtain ⟨z, hz⟩ : ∃ z, rotToB n X n zs = z := ⟨_, rfl⟩
          have HQ : Hid (gnQ n zs g ↔ 0 ≤ z) := Lib.hid ⟨fun q => by have := q.2; rwa [HX.out, hz] at this, fun q => ⟨HC.out, by rw [HX.out, hz]; exact q⟩⟩
          rw [hz]
          clear hz hb3
          by_cases h0 : 0 ≤ z
          · have hd : decide (0 ≤ z) = true := decide_eq_true h0
            have HY : Hid (gnP n zs (g + 1) = L ++ [(g : Int)]) := Lib.hid (by rw [gnP_yes hg1 (HQ.out.2 h0), HL.out])
            go_wp2_with (at_builtin; refine append_int rfl _ _ rfl w1.heap.size _ L _ _ HOr.out hml HZ3.out _ rfl rfl rfl ?_; intro a' c' w' hown' hb'; have HO2 := Lib.hid hown'; have HX2 := Lib.hid hb'; clear hown' hb')
            go_roundw
            case rel =>
              refine ⟨g + 1, by omega, by omega, by omega, by go_num, ?_⟩
              rw [HY.out]
              have := vec_snoc HN3.out HZ3.out HO2.out HX2.out
              simpa using this
            case measure => simp [intOf]; omega
          · have hd : decide (0 ≤ z) = false := decide_eq_false h0
            have HY : Hid (gnP n zs (g + 1) = L) := Lib.hid (by rw [gnP_no (fun q => h0 (HQ.out.1 q)), HL.out])
            go_wp2
            go_roundw
            case rel => exact ⟨g + 1, by omega, by omega, by omega, by go_num, by rw [HY.out]; exact ⟨av, cv, rfl, HOr.out, HN3.out, HZ3.out⟩⟩
            case measure => simp [intOf]; omega
        · rw [cS_no hc, cZ_no hc, cB_no hc] at hp
          obtain ⟨a2, cap2, rfl, hown2, hb2⟩ := hp
          have HY : Hid (gnP n zs (g + 1) = L) := Lib.hid (by rw [gnP_no (fun q => hc q.1), HL.out])
          have HB3 := Lib.hid (hb2.trans ((bel1 w2 (.cells #[.int .i64 0, .slice a2 0 cap2] 26)).mono hb2.size))
          have HOr := Lib.hid (own_below HO1.out HB3.out)
          have HN3 := Lib.hid (HN.out.trans (HB3.out.mono HZ.out))
          have HZ3 := Lib.hid (Nat.le_trans HZ.out HB3.out.size)
          have HT2 := Lib.hid (HTr.out.keep hb2)
          clear t1 t1a t1b hc hown2 hb2
          obtain ⟨t1, t1a, t1b⟩ := HT2.out
          go_wp2
          go_roundw
          case rel => exact ⟨g + 1, by omega, by omega, by omega, by go_num, by rw [HY.out]; exact ⟨av, cv, rfl, HOr.out, HN3.out, HZ3.out⟩⟩
          case measure => simp [intOf]; omega
      · have e : g = n := by omega
        have HLE : Hid (gnP n zs n = L) := Lib.hid (by have := HL.out; rw [e] at this; exact this)
        clear e
        go_wp2
        go_ret
        rw [HLE.out]
        have h1 := HB.out.size
        exact ⟨av, cv, rfl, own_base HO1.out h1, HB.out.trans (HN.out.mono h1)⟩
  · have HO := Lib.hid ho
    have HE := Lib.hid (gnB_no ho)
    clear ho
    rw [HE.out]
    go_enter Try.func37, Try.ntmps37
    go_wp2_with fail
    refine (ok_no s a zs.length cap zs _ (HS.out.below (bel1 w _)) hl HO.out).mono ?_
    rintro e w1 ⟨rfl, hb1⟩
    have HB := Lib.hid ((bel1 w (.cells #[.int .i64 s, .slice a zs.length cap] 26)).trans (hb1.mono (by simp)))
    clear hb1
    go_wp2
    go_ret
    exact ⟨none, 0, rfl, World.ownsRow_nil _ _ _ _, HB.out⟩
noncomputable def isgB (s : Int) (zs : List Int) : Bool := decide (0 < (gnB s zs).length)
set_option maxHeartbeats 400000 in
theorem isgen_spec (s : Int) (a : Option Addr) (len cap : Nat) (zs : List Int) (w : World) (h : IntsAt w a len zs) (hm : zs.length ≤ 1048576) :
    Calls Try.prog 42 #[rhy s a len cap] w fun e w' => e = .returned (.bool (isgB s zs)) ∧ Below w.heap.size w w' := by
  have HS := Lib.hid h
  clear h
  go_enter Try.func42, Try.ntmps42
  go_wp2_with fail
  refine (gens_spec s a len cap zs _ (HS.out.below (bel1 w _)) hm).mono ?_
  rintro e w1 ⟨a1, c1, rfl, hown, hb1⟩
  have HB := Lib.hid ((bel1 w (.cells #[.int .i64 s, .slice a len cap] 26)).trans (hb1.mono (by simp)))
  clear hown hb1
  go_wp2
  go_ret
  exact ⟨rfl, HB.out⟩
end Go.Proofs.Ythcmpkhfimapgaa.Rhy

/-
  Helpers of the claims beside this text: ChainOf, ExtendChain of the model.
-/
namespace Go.Proofs.Ythcmpkhfimapgaa.Rhy
open Go.RowKit
set_option linter.unusedVariables false
set_option linter.unusedSimpArgs false

/-- The first beat from place i on that is not g after a beat; the first beat at all if there is none. -/
noncomputable def chG (n : Int) (zs : List Int) (g : Int) : Nat → Nat → Int
  | 0, _ => zs[0]?.getD 0
  | f + 1, i => if beatB n zs (zs[i]?.getD 0 - g) = false then zs[i]?.getD 0 else chG n zs g f (i + 1)
noncomputable def chF (n : Int) (zs : List Int) (g : Int) : Int := chG n zs g zs.length 0
def chP (n s g : Int) (j : Nat) : List Int := (List.range j).map fun (i : Nat) => (s + (i : Int) * g) % n
noncomputable def chB (s : Int) (zs : List Int) (g : Int) : List Int := cZ (hasB (gnB s zs) g = true) (chP s (chF s zs g) g zs.length)
theorem chP_len (n s g : Int) (j : Nat) : (chP n s g j).length = j := by simp [chP]
theorem chP_snoc (n s g : Int) (j : Nat) : chP n s g (j + 1) = chP n s g j ++ [(s + (j : Int) * g) % n] := by simp [chP, List.range_succ]
theorem chG_in {n : Int} {zs : List Int} (h : Ok n zs) (h0 : 0 < zs.length) (g : Int) : ∀ f i, 0 ≤ chG n zs g f i ∧ (i + f ≤ zs.length → chG n zs g f i < n)
  | 0, i => by
    have := beat_bd h h0
    simp only [chG]
    omega
  | f + 1, i => by
    have ih := chG_in h h0 g f (i + 1)
    simp only [chG]
    by_cases hc : beatB n zs (zs[i]?.getD 0 - g) = false
    · rw [if_pos hc]
      by_cases hi : i < zs.length
      · have := beat_bd h hi
        exact ⟨this.1, fun _ => this.2⟩
      · have e : zs[i]? = none := List.getElem?_eq_none (by omega)
        rw [e]
        exact ⟨Int.le_refl 0, fun q => absurd q (by omega)⟩
    · rw [if_neg hc]
      exact ⟨ih.1, fun q => ih.2 (by omega)⟩
theorem chF_bd {n : Int} {zs : List Int} (h : Ok n zs) (h0 : 0 < zs.length) (g : Int) : 0 ≤ chF n zs g ∧ chF n zs g < n := by
  have := chG_in h h0 g zs.length 0
  exact ⟨this.1, this.2 (by omega)⟩
theorem chP_int {n : Int} (h : 1 ≤ n ∧ n ≤ 24) (s g : Int) (j : Nat) : AllInt (chP n s g j) := by
  intro z hz
  unfold chP at hz
  rw [List.mem_map] at hz
  obtain ⟨i, _, rfl⟩ := hz
  have := em_bd (s + (i : Int) * g) h.1
  omega
theorem gnB_in {s g : Int} {zs : List Int} (h : hasB (gnB s zs) g = true) : Ok s zs ∧ 1 ≤ g ∧ g < s ∧ gnQ s zs g := by
  have hm : g ∈ gnB s zs := by unfold hasB at h; exact List.contains_iff_mem.1 h
  by_cases ho : Ok s zs
  · rw [gnB_yes ho] at hm
    have h1 := gnP_mem.1 hm
    have h2 := ho.1
    exact ⟨ho, by omega, by omega, h1.2⟩
  · rw [gnB_no ho] at hm; cases hm
theorem chB_yes {s g : Int} {zs : List Int} (h : hasB (gnB s zs) g = true) : chB s zs g = chP s (chF s zs g) g zs.length := cZ_yes h
theorem chB_no {s g : Int} {zs : List Int} (h : hasB (gnB s zs) g = false) : chB s zs g = [] := cZ_no (by rw [h]; simp)
theorem chB_int (s : Int) (zs : List Int) (g : Int) : AllInt (chB s zs g) := by
  cases h : hasB (gnB s zs) g
  · rw [chB_no h]; intro z hz; cases hz
  · rw [chB_yes h]; exact chP_int (gnB_in h).1.1 _ _ _
theorem chB_len (s : Int) (zs : List Int) (g : Int) : (chB s zs g).length ≤ 24 := by
  cases h : hasB (gnB s zs) g
  · rw [chB_no h]; simp
  · rw [chB_yes h, chP_len]; exact ok_len (gnB_in h).1

set_option maxHeartbeats 4000000 in
set_option maxRecDepth 100000 in
theorem chn_spec (s : Int) (a : Option Addr) (len cap : Nat) (zs : List Int) (g : Int) (w : World) (h : IntsAt w a len zs) (hm : zs.length ≤ 1048576) (h3 : -9223372036854775808 ≤ g) (h4 : g ≤ 9223372036854775807) :
    Calls Try.prog 43 #[rhy s a len cap, .int .i64 g] w (IPost (chB s zs g) w) := by
  have HS := Lib.hid h
  obtain rfl : zs.length = len := h.len
  clear h
  have hgl := gnB_len s zs
  have HGI := Lib.hid (gnB_int s zs)
  obtain ⟨G, hG⟩ : ∃ G, gnB s zs = G := ⟨_, rfl⟩
  rw [hG] at hgl HGI
  have HG := Lib.hid hG
  clear hG
  cases hq : hasB (gnB s zs) g
  · have HE := Lib.hid (chB_no hq)
    rw [HG.out] at hq
    have HQ := Lib.hid hq
    clear hq
    rw [HE.out]
    go_enter Try.func43, Try.ntmps43
    go_wp2_with fail
    refine (gens_spec s a zs.length cap zs _ (HS.out.below (bel1 w _)) hm).mono ?_
    rintro e w1 ⟨a1, c1, rfl, hown, hb1⟩
    rw [HG.out] at hown ⊢
    have HI := Lib.hid (intsAt_own hown HGI.out)
    have HB := Lib.hid ((bel1 w (.cells #[.int .i64 s, .slice a zs.length cap] 26)).trans (hb1.mono (by simp)))
    clear hown hb1
    go_wp2_with fail
    refine (has_any a1 G.length c1 G g _ HI.out (by omega)).mono ?_
    rintro e w' ⟨rfl, rfl⟩
    rw [HQ.out]
    go_wp2
    go_ret
    exact ⟨none, 0, rfl, World.ownsRow_nil _ _ _ _, HB.out⟩
  · have HE := Lib.hid (chB_yes hq)
    obtain ⟨ho, hg1, hgs, _⟩ := gnB_in hq
    obtain ⟨n, rfl⟩ : ∃ n : Nat, s = n := ⟨s.toNat, by have := ho.1; omega⟩
    have HO := Lib.hid ho
    have hn1 : 1 ≤ n := by have := ho.1.1; omega
    have hn24 : n ≤ 24 := by have := ho.1.2; omega
    have hl24 := ok_len ho
    rw [HG.out] at hq
    have HQ := Lib.hid hq
    clear hq ho
    rw [HE.out]
    go_enter Try.func43, Try.ntmps43
    go_wp2_with fail
    refine (gens_spec n a zs.length cap zs _ (HS.out.below (bel1 w _)) hm).mono ?_
    rintro e w1 ⟨a1, c1, rfl, hown, hb1⟩
    rw [HG.out] at hown ⊢
    have HI1 := Lib.hid (intsAt_own hown HGI.out)
    have HB := Lib.hid ((bel1 w (.cells #[.int .i64 n, .slice a zs.length cap] 26)).trans (hb1.mono (by simp)))
    have HT := Lib.hid ((two_new w (.int .i64 n) (.slice a zs.length cap) 26).keep hb1)
    obtain ⟨t1, t1a, t1b⟩ := HT.out
    clear hown hb1
    go_wp2_with fail
    refine (has_any a1 G.length c1 G g _ HI1.out (by omega)).mono ?_
    rintro e w' ⟨rfl, rfl⟩
    rw [HQ.out]
    by_cases h0 : zs.length = 0
    · have hd : ((zs.length : Int) == 0) = true := by rw [h0]; rfl
      have HE0 : Hid (chP n (chF n zs g) g zs.length = []) := Lib.hid (by rw [h0]; rfl)
      clear h0
      go_wp2
      go_ret
      rw [HE0.out]
      have hv := World.ownsRow_made (base := w1.heap.size) (e := 3) (size := 1) w1 #[] 0 (Nat.le_refl _) (by unfold maxLen; omega) rfl
      exact ⟨_, 0, rfl, own_base (by simpa [ints] using hv) HB.out.size, HB.out.alloc HB.out.size _⟩
    · have hd : ((zs.length : Int) == 0) = false := by rw [beq_eq_false_iff_ne]; omega
      obtain ⟨b, off, z0, rfl, hb, hs0, hc0, hz1, hz2⟩ := (HS.out.below HB.out).at (k := 0) (by omega)
      have hc0' : w1.cell? ⟨b, off, none⟩ = some (.int .i64 z0) := hc0
      have HZ0 : Hid (z0 = chG n zs g 0 zs.length) := Lib.hid (by simp only [chG]; rw [hs0]; rfl)
      have hw1 : wrap64 ((zs.length : Int) - 1) = (zs.length : Int) - 1 := by unfold wrap64; omega
      have hl1 : (0 : Int) < (zs.length : Int) := by omega
      clear hc0 hs0
      go_wp2
      go_loopw [5, 6] (fun v i wr => ∃ j : Nat, j ≤ zs.length ∧ i = .int .i64 ((j : Int) - 1) ∧ v = .int .i64 (chG n zs g (zs.length - j) j) ∧ Below w1.heap.size w1 wr) (fun _ i _ => (intOf i + 1).toNat)
      case atStart => exact ⟨zs.length, Nat.le_refl _, rfl, by rw [Nat.sub_self, HZ0.out], Below.refl _ _⟩
      case round =>
        clear t1 t1a t1b hc0' hw1
        obtain ⟨j, hj, rfl, rfl, hbl⟩ := hrel
        have HX := Lib.hid hbl
        have HTr := Lib.hid (HT.out.keep hbl)
        obtain ⟨t1, t1a, t1b⟩ := HTr.out
        have HI : Hid (IntsAt wr (some ⟨b, off, none⟩) zs.length zs) := Lib.hid (HS.out.below (HB.out.trans (hbl.mono HB.out.size)))
        clear hbl
        obtain ⟨F, hF⟩ : ∃ F, chG n zs g (zs.length - j) j = F := ⟨_, rfl⟩
        rw [hF]
        have HF := Lib.hid hF
        clear hF
        by_cases hj0 : 0 < j
        · obtain ⟨k, rfl⟩ : ∃ k, j = k + 1 := ⟨j - 1, by omega⟩
          have hkl : k < zs.length := by omega
          obtain ⟨b', off', z, he, hb', hs, hc, hz1, hz2⟩ := HI.out.at hkl
          cases he
          have hz := ok_at HO.out hs
          rw [show (((k + 1 : Nat) : Int) - 1) = (k : Int) by omega]
          have hk0 : (0 : Int) ≤ (k : Int) := by omega
          have hk1 : (k : Int) < (zs.length : Int) := by omega
          have hw2 : IntKind.i64.wrap (z - g) = z - g := IntWalk.i64_in _ ⟨by omega, by omega⟩
          have hw3 : wrap64 ((k : Int) - 1) = (k : Int) - 1 := by unfold wrap64; omega
          have HK : Hid (∀ W' : World, Below wr.heap.size wr W' → W'.cell? ⟨w.heap.size, 0, none⟩ = some (.int .i64 n) ∧ W'.cell? ⟨w.heap.size, 1, none⟩ = some (.slice (some ⟨b, off, none⟩) zs.length cap) ∧ W'.cell? ⟨b, off + k, none⟩ = some (.int .i64 z) ∧ Below wr.heap.size wr W') :=
            Lib.hid (fun W' hW => ⟨(HTr.out.keep hW).2.1, (HTr.out.keep hW).2.2, by rw [hW.cell (p := ⟨b, off + k, none⟩) hb']; exact hc, hW⟩)
          have HST : Hid (chG n zs g (zs.length - k) k = if beatB n zs (z - g) = false then z else F) := Lib.hid (by
            rw [show zs.length - k = (zs.length - (k + 1)) + 1 by omega]
            simp only [chG]
            rw [hs, HF.out]
            rfl)
          clear hs
          cases hbt : beatB n zs (z - g)
          · have HBT := Lib.hid hbt
            have HSU : Hid (chG n zs g (zs.length - k) k = z) := Lib.hid (by rw [HST.out, if_pos hbt])
            clear hbt
            go_wp2
            refine wp_region_held_drew (S := fun W' => W'.cell? ⟨w.heap.size, 0, none⟩ = some (.int .i64 n) ∧ W'.cell? ⟨w.heap.size, 1, none⟩ = some (.slice (some ⟨b, off, none⟩) zs.length cap) ∧ W'.cell? ⟨b, off + k, none⟩ = some (.int .i64 z) ∧ Below wr.heap.size wr W') (by kernel_rfl) (HK.out _ (Below.refl _ _).drew) (fun hSS0 => ?_)
            refine wpAnyH_take (i := 0) (oi := ⟨some 31, _, _, _, _, _⟩) (v := .agg #[.int .i64 n, .slice (some ⟨b, off, none⟩) zs.length cap]) rfl (by kernel_rfl) (by kernel_rfl) (by kernel_rfl) (fun _ _ _ h => h) (Or.inl ⟨by rfl, fun w' hSw => by obtain ⟨q1, q2, _⟩ := hSw; go_simp⟩) (by assumption) ?_
            try simp only [Act.put, List.setIfInBounds_toArray, List.set_cons_zero, List.set_cons_succ]
            refine wpAnyH_take (i := 1) (oi := ⟨some 32, _, _, _, _, _⟩) (v := .pointer (some ⟨w.heap.size, 1, none⟩)) rfl (by kernel_rfl) (by kernel_rfl) (by kernel_rfl) (fun _ _ _ h => h) (Or.inl ⟨by rfl, fun w' hSw => by go_simp⟩) (by assumption) ?_
            try simp only [Act.put, List.setIfInBounds_toArray, List.set_cons_zero, List.set_cons_succ]
            refine wpAnyH_take (i := 2) (oi := ⟨some 33, _, _, _, _, _⟩) (v := .slice (some ⟨b, off, none⟩) zs.length cap) rfl (by kernel_rfl) (by kernel_rfl) (by kernel_rfl) (fun _ _ _ h => h) (Or.inl ⟨by rfl, fun w' hSw => by obtain ⟨q1, q2, _⟩ := hSw; go_simp⟩) (by assumption) ?_
            try simp only [Act.put, List.setIfInBounds_toArray, List.set_cons_zero, List.set_cons_succ]
            refine wpAnyH_take (i := 3) (oi := ⟨some 34, _, _, _, _, _⟩) (v := .int .i64 (k : Nat)) rfl (by kernel_rfl) (by kernel_rfl) (by kernel_rfl) (fun _ _ _ h => h) (Or.inl ⟨by rfl, fun w' hSw => by go_simp⟩) (by assumption) ?_
            try simp only [Act.put, List.setIfInBounds_toArray, List.set_cons_zero, List.set_cons_succ]
            refine wpAnyH_take (i := 4) (oi := ⟨some 35, _, _, _, _, _⟩) (v := .pointer (some ⟨b, off + k, none⟩)) rfl (by kernel_rfl) (by kernel_rfl) (by kernel_rfl) (fun _ _ _ h => h) (Or.inl ⟨by rfl, fun w' hSw => by go_simp⟩) (by assumption) ?_
            try simp only [Act.put, List.setIfInBounds_toArray, List.set_cons_zero, List.set_cons_succ]
            refine wpAnyH_take (i := 5) (oi := ⟨some 36, _, _, _, _, _⟩) (v := .int .i64 z) rfl (by kernel_rfl) (by kernel_rfl) (by kernel_rfl) (fun _ _ _ h => h) (Or.inl ⟨by rfl, fun w' hSw => by obtain ⟨_, _, q1, _⟩ := hSw; go_simp⟩) (by assumption) ?_
            try simp only [Act.put, List.setIfInBounds_toArray, List.set_cons_zero, List.set_cons_succ]
            refine wpAnyH_take (i := 6) (oi := ⟨some 37, _, _, _, _, _⟩) (v := .int .i64 g) rfl (by kernel_rfl) (by kernel_rfl) (by kernel_rfl) (fun _ _ _ h => h) (Or.inl ⟨by rfl, fun w' hSw => by go_simp⟩) (by assumption) ?_
            try simp only [Act.put, List.setIfInBounds_toArray, List.set_cons_zero, List.set_cons_succ]
            refine wpAnyH_take (i := 7) (oi := ⟨some 38, _, _, _, _, _⟩) (v := .int .i64 (z - g)) rfl (by kernel_rfl) (by kernel_rfl) (by kernel_rfl) (fun _ _ _ h => h) (Or.inl ⟨by rfl, fun w' hSw => by go_simp⟩) (by assumption) ?_
            try simp only [Act.put, List.setIfInBounds_toArray, List.set_cons_zero, List.set_cons_succ]
            refine wpAnyH_ready (rs := [8]) (by kernel_rfl) (by simp) ?_
            refine AllReadyH.cons rfl (fun K hKK => ?_) AllReadyH.nil
            go_simp
            go_at_call 75
            refine (beat_spec n (some ⟨b, off, none⟩) zs.length cap zs (z - g) _ (HI.out.below (Below.refl _ _).drew) hm (by omega) (by omega)).mono ?_
            rintro e w3 ⟨rfl, hb3⟩
            rw [HBT.out]
            have hbb3 : Below wr.heap.size wr w3 := (Below.refl wr.heap.size wr).drew.trans hb3
            refine hKK.out _ _ (HK.out _ hbb3) (fun hSS1 => ?_)
            clear hKK K hSS0
            try simp only [Act.put, List.setIfInBounds_toArray, List.set_cons_zero, List.set_cons_succ]
            refine wpAnyH_take (i := 9) (oi := ⟨some 40, _, _, _, _, _⟩) (v := .bool true) rfl (by kernel_rfl) (by kernel_rfl) (by kernel_rfl) (fun _ _ _ h => h) (Or.inl ⟨by rfl, fun w' hSw => by go_simp⟩) (by assumption) ?_
            try simp only [Act.put, List.setIfInBounds_toArray, List.set_cons_zero, List.set_cons_succ]
            refine wpAnyH_done (by kernel_rfl) ?_ _
            have HB3 := Lib.hid (HX.out.trans (hbb3.mono HX.out.size))
            have HT3 := Lib.hid (HTr.out.keep hbb3)
            have hc3 : w3.cell? ⟨b, off + k, none⟩ = some (.int .i64 z) := (HK.out _ hbb3).2.2.1
            clear t1 t1a t1b hc hb3 hbb3 HK
            obtain ⟨t1, t1a, t1b⟩ := HT3.out
            go_wp2
            go_roundw
            case rel => exact ⟨k, by omega, rfl, by rw [HSU.out], HB3.out⟩
            case measure => show (((k : Int) - 1) + 1).toNat < ((k : Int) + 1).toNat; omega
          · have HBT := Lib.hid hbt
            have HSU : Hid (chG n zs g (zs.length - k) k = F) := Lib.hid (by rw [HST.out, if_neg (by rw [hbt]; simp)])
            clear hbt
            go_wp2
            refine wp_region_held_drew (S := fun W' => W'.cell? ⟨w.heap.size, 0, none⟩ = some (.int .i64 n) ∧ W'.cell? ⟨w.heap.size, 1, none⟩ = some (.slice (some ⟨b, off, none⟩) zs.length cap) ∧ W'.cell? ⟨b, off + k, none⟩ = some (.int .i64 z) ∧ Below wr.heap.size wr W') (by kernel_rfl) (HK.out _ (Below.refl _ _).drew) (fun hSS0 => ?_)
            refine wpAnyH_take (i := 0) (oi := ⟨some 31, _, _, _, _, _⟩) (v := .agg #[.int .i64 n, .slice (some ⟨b, off, none⟩) zs.length cap]) rfl (by kernel_rfl) (by kernel_rfl) (by kernel_rfl) (fun _ _ _ h => h) (Or.inl ⟨by rfl, fun w' hSw => by obtain ⟨q1, q2, _⟩ := hSw; go_simp⟩) (by assumption) ?_
            try simp only [Act.put, List.setIfInBounds_toArray, List.set_cons_zero, List.set_cons_succ]
            refine wpAnyH_take (i := 1) (oi := ⟨some 32, _, _, _, _, _⟩) (v := .pointer (some ⟨w.heap.size, 1, none⟩)) rfl (by kernel_rfl) (by kernel_rfl) (by kernel_rfl) (fun _ _ _ h => h) (Or.inl ⟨by rfl, fun w' hSw => by go_simp⟩) (by assumption) ?_
            try simp only [Act.put, List.setIfInBounds_toArray, List.set_cons_zero, List.set_cons_succ]
            refine wpAnyH_take (i := 2) (oi := ⟨some 33, _, _, _, _, _⟩) (v := .slice (some ⟨b, off, none⟩) zs.length cap) rfl (by kernel_rfl) (by kernel_rfl) (by kernel_rfl) (fun _ _ _ h => h) (Or.inl ⟨by rfl, fun w' hSw => by obtain ⟨q1, q2, _⟩ := hSw; go_simp⟩) (by assumption) ?_
            try simp only [Act.put, List.setIfInBounds_toArray, List.set_cons_zero, List.set_cons_succ]
            refine wpAnyH_take (i := 3) (oi := ⟨some 34, _, _, _, _, _⟩) (v := .int .i64 (k : Nat)) rfl (by kernel_rfl) (by kernel_rfl) (by kernel_rfl) (fun _ _ _ h => h) (Or.inl ⟨by rfl, fun w' hSw => by go_simp⟩) (by assumption) ?_
            try simp only [Act.put, List.setIfInBounds_toArray, List.set_cons_zero, List.set_cons_succ]
            refine wpAnyH_take (i := 4) (oi := ⟨some 35, _, _, _, _, _⟩) (v := .pointer (some ⟨b, off + k, none⟩)) rfl (by kernel_rfl) (by kernel_rfl) (by kernel_rfl) (fun _ _ _ h => h) (Or.inl ⟨by rfl, fun w' hSw => by go_simp⟩) (by assumption) ?_
            try simp only [Act.put, List.setIfInBounds_toArray, List.set_cons_zero, List.set_cons_succ]
            refine wpAnyH_take (i := 5) (oi := ⟨some 36, _, _, _, _, _⟩) (v := .int .i64 z) rfl (by kernel_rfl) (by kernel_rfl) (by kernel_rfl) (fun _ _ _ h => h) (Or.inl ⟨by rfl, fun w' hSw => by obtain ⟨_, _, q1, _⟩ := hSw; go_simp⟩) (by assumption) ?_
            try simp only [Act.put, List.setIfInBounds_toArray, List.set_cons_zero, List.set_cons_succ]
            refine wpAnyH_take (i := 6) (oi := ⟨some 37, _, _, _, _, _⟩) (v := .int .i64 g) rfl (by kernel_rfl) (by kernel_rfl) (by kernel_rfl) (fun _ _ _ h => h) (Or.inl ⟨by rfl, fun w' hSw => by go_simp⟩) (by assumption) ?_
            try simp only [Act.put, List.setIfInBounds_toArray, List.set_cons_zero, List.set_cons_succ]
            refine wpAnyH_take (i := 7) (oi := ⟨some 38, _, _, _, _, _⟩) (v := .int .i64 (z - g)) rfl (by kernel_rfl) (by kernel_rfl) (by kernel_rfl) (fun _ _ _ h => h) (Or.inl ⟨by rfl, fun w' hSw => by go_simp⟩) (by assumption) ?_
            try simp only [Act.put, List.setIfInBounds_toArray, List.set_cons_zero, List.set_cons_succ]
            refine wpAnyH_ready (rs := [8]) (by kernel_rfl) (by simp) ?_
            refine AllReadyH.cons rfl (fun K hKK => ?_) AllReadyH.nil
            go_simp
            go_at_call 75
            refine (beat_spec n (some ⟨b, off, none⟩) zs.length cap zs (z - g) _ (HI.out.below (Below.refl _ _).drew) hm (by omega) (by omega)).mono ?_
            rintro e w3 ⟨rfl, hb3⟩
            rw [HBT.out]
            have hbb3 : Below wr.heap.size wr w3 := (Below.refl wr.heap.size wr).drew.trans hb3
            refine hKK.out _ _ (HK.out _ hbb3) (fun hSS1 => ?_)
            clear hKK K hSS0
            try simp only [Act.put, List.setIfInBounds_toArray, List.set_cons_zero, List.set_cons_succ]
            refine wpAnyH_take (i := 9) (oi := ⟨some 40, _, _, _, _, _⟩) (v := .bool false) rfl (by kernel_rfl) (by kernel_rfl) (by kernel_rfl) (fun _ _ _ h => h) (Or.inl ⟨by rfl, fun w' hSw => by go_simp⟩) (by assumption) ?_
            try simp only [Act.put, List.setIfInBounds_toArray, List.set_cons_zero, List.set_cons_succ]
            refine wpAnyH_done (by kernel_rfl) ?_ _
            have HB3 := Lib.hid (HX.out.trans (hbb3.mono HX.out.size))
            clear hb3 hbb3 HK
            go_wp2
            go_roundw
            case rel => exact ⟨k, by omega, rfl, by rw [HSU.out], HB3.out⟩
            case measure => show (((k : Int) - 1) + 1).toNat < ((k : Int) + 1).toNat; omega
        · obtain rfl : j = 0 := by omega
          have HFF : Hid (chF n zs g = F) := Lib.hid (by rw [← HF.out]; rfl)
          have hFb := chF_bd HO.out (by omega) g
          rw [HFF.out] at hFb
          obtain ⟨wo, rfl⟩ : ∃ wo : World, wo = wr := ⟨_, rfl⟩
          rw [show (((0 : Nat) : Int) - 1) = (-1 : Int) from rfl]
          go_wp2
          go_loopw [7, 50] (fun v i w2 => ∃ j : Nat, j ≤ zs.length ∧ i = .int .i64 j ∧ VecAt (chP n F g j) wo w2 v) (fun _ i _ => zs.length - (intOf i).toNat)
          case atStart => exact ⟨0, by omega, rfl, vec_made wo⟩
          case round =>
            obtain ⟨j, hj, rfl, av, cv, rfl, hown, hnx, hsz⟩ := hrel
            have hml : (chP n F g j).length ≤ 1048577 := by rw [chP_len]; omega
            have HSN := Lib.hid (chP_snoc n F g j)
            obtain ⟨L, hL⟩ : ∃ L, chP n F g j = L := ⟨_, rfl⟩
            rw [hL] at hown hml HSN ⊢
            have HL := Lib.hid hL
            have HO1 := Lib.hid hown
            have HN := Lib.hid hnx
            have HZ := Lib.hid hsz
            have HT2 := Lib.hid (HTr.out.keep hnx)
            clear t1 t1a t1b hL hown hnx hsz
            obtain ⟨t1, t1a, t1b⟩ := HT2.out
            by_cases hlt : j < zs.length
            · have hp := prod24 (j := j) (g := g) (by omega) ⟨by omega, by omega⟩
              obtain ⟨p, hpe⟩ : ∃ p : Int, (j : Int) * g = p := ⟨_, rfl⟩
              rw [hpe] at hp HSN
              have hw1 : wrap64 ((j : Int) * g) = p := by rw [hpe]; unfold wrap64; omega
              have hw2 : wrap64 (F + p) = F + p := by unfold wrap64; omega
              obtain ⟨t, ht⟩ : ∃ t, (F + p) % (n : Int) = t := ⟨_, rfl⟩
              have htb := em_bd (F + p) (show (1 : Int) ≤ (n : Int) by omega)
              rw [ht] at htb HSN
              have hq : Int.tmod (F + p) n = t := by rw [Int.tmod_eq_emod_of_nonneg (by omega)]; exact ht
              have hw3 : wrap64 t = t := by unfold wrap64; omega
              have hn0 : ¬ (n : Int) = 0 := by omega
              have HPE := Lib.hid hpe
              have HTE := Lib.hid ht
              clear hpe ht
              go_wp2_with (at_builtin; refine append_int rfl _ _ rfl wo.heap.size _ L _ _ HO1.out hml HZ.out _ rfl rfl rfl ?_; intro a' c' w' hown' hb'; have HO2 := Lib.hid hown'; have HX2 := Lib.hid hb'; clear hown' hb')
              go_roundw
              case rel =>
                refine ⟨j + 1, by omega, by go_num, ?_⟩
                rw [HSN.out]
                have := vec_snoc HN.out HZ.out HO2.out HX2.out
                simpa using this
              case measure => simp [intOf]; omega
            · have e : j = zs.length := by omega
              have HLE : Hid (chP n F g zs.length = L) := Lib.hid (by have := HL.out; rw [e] at this; exact this)
              clear e
              go_wp2
              go_ret
              rw [HFF.out, HLE.out]
              have b1 := HB.out.size
              have b2 := HX.out.size
              exact ⟨av, cv, rfl, own_base HO1.out (by omega), (HB.out.trans (HX.out.mono b1)).trans (HN.out.mono (by omega))⟩
end Go.Proofs.Ythcmpkhfimapgaa.Rhy

/-
  Helpers of the claims beside this text: ExtendChain of the model.
-/
namespace Go.Proofs.Ythcmpkhfimapgaa.Rhy
open Go.RowKit
set_option linter.unusedVariables false
set_option linter.unusedSimpArgs false

/-- What comes behind the chain. -/
noncomputable def exP (s : Int) (zs : List Int) (g : Int) : Int := ((chB s zs g)[(chB s zs g).length - 1]?.getD 0 + g) % s
def exC (s : Int) (zs : List Int) (g : Int) : Prop := 0 < (chB s zs g).length ∧ hasB zs (exP s zs g) = false
noncomputable def exZ (s : Int) (zs : List Int) (g : Int) : List Int := ofZ s.toNat (chB s zs g ++ [exP s zs g])
theorem chB_pos {s g : Int} {zs : List Int} (h : 0 < (chB s zs g).length) : hasB (gnB s zs) g = true := by
  cases hq : hasB (gnB s zs) g
  · rw [chB_no hq] at h; simp at h
  · rfl
theorem chB_bd {s g : Int} {zs : List Int} : ∀ x ∈ chB s zs g, 0 ≤ x ∧ x < s := by
  intro x hx
  have hq := chB_pos (List.length_pos_of_mem hx)
  have ho := (gnB_in hq).1
  rw [chB_yes hq] at hx
  unfold chP at hx
  rw [List.mem_map] at hx
  obtain ⟨i, _, rfl⟩ := hx
  exact em_bd _ ho.1.1

set_option maxHeartbeats 1000000 in
set_option maxRecDepth 100000 in
theorem ext_spec (s : Int) (a : Option Addr) (len cap : Nat) (zs : List Int) (g : Int) (w : World) (h : IntsAt w a len zs) (hm : zs.length ≤ 1048576) (h3 : -9223372036854775808 ≤ g) (h4 : g ≤ 9223372036854775807) :
    Calls Try.prog 44 #[rhy s a len cap, .int .i64 g] w (CPost (exC s zs g) s (exZ s zs g) w) := by
  have HS := Lib.hid h
  obtain rfl : zs.length = len := h.len
  clear h
  obtain ⟨L, hL⟩ : ∃ L, chB s zs g = L := ⟨_, rfl⟩
  have hml : L.length ≤ 1048577 := by rw [← hL]; have := chB_len s zs g; omega
  have hl24 : L.length ≤ 24 := by rw [← hL]; exact chB_len s zs g
  have HLI : Hid (AllInt L) := Lib.hid (by rw [← hL]; exact chB_int s zs g)
  have HLB : Hid (∀ x ∈ L, 0 ≤ x ∧ x < s) := Lib.hid (by rw [← hL]; exact chB_bd)
  have HL := Lib.hid hL
  have HPOS : Hid (0 < L.length → hasB (gnB s zs) g = true) := Lib.hid (by rw [← hL]; exact chB_pos)
  clear hL
  obtain ⟨W0, hW⟩ : ∃ W0, W0 = (w.alloc (.cells #[.int .i64 s, .slice a zs.length cap] 26)).alloc (.cells #[.int .i64 0, .slice none 0 0] 26) := ⟨_, rfl⟩
  have HW := Lib.hid hW
  have HB := Lib.hid (show Below w.heap.size w W0 by rw [hW]; exact bel2 w _ _)
  have HT := Lib.hid (show Box W0 w.heap.size (.int .i64 s) (.slice a zs.length cap) 26 by rw [hW]; exact (box_new w _ _ _).keep (bel1 _ _) (by simp))
  have HU := Lib.hid (show Box W0 (w.heap.size + 1) (.int .i64 0) (.slice none 0 0) 26 by
    rw [hW]
    have := box_new (w.alloc (.cells #[.int .i64 s, .slice a zs.length cap] 26)) (.int .i64 0) (.slice none 0 0) 26
    simpa using this)
  have HSZ := Lib.hid (show W0.heap.size = w.heap.size + 2 by rw [hW]; simp)
  clear hW
  go_enter Try.func44, Try.ntmps44
  go_wp2_with fail
  rw [← HW.out]
  refine (chn_spec s a zs.length cap zs g W0 (HS.out.below HB.out) hm h3 h4).mono ?_
  rintro e W1 ⟨av, cv, rfl, hown, hb1⟩
  rw [HL.out] at hown ⊢
  have HO1 := Lib.hid hown
  have HI1 : Hid (IntsAt W1 av L.length L) := Lib.hid (intsAt_own hown HLI.out)
  have HZ1 := Lib.hid hb1.size
  have HB0S := Lib.hid HB.out.size
  have HB1 := Lib.hid (HB.out.trans (hb1.mono HB.out.size))
  have HAL := Lib.hid (show w.heap.size < W0.heap.size by have := HSZ.out; omega)
  have HRL := Lib.hid (show w.heap.size + 1 < W0.heap.size by have := HSZ.out; omega)
  have HA1 := Lib.hid (HT.out.keep hb1 HAL.out)
  have HR1 := Lib.hid (HU.out.keep hb1 HRL.out)
  have HIz : Hid (IntsAt W1 a zs.length zs) := Lib.hid (HS.out.below HB1.out)
  obtain ⟨x0, x1, _, _⟩ := HA1.out.facts
  have xl := HA1.out.lt
  obtain ⟨r0, r1, r2, r3⟩ := HR1.out.facts
  have rlt := HR1.out.lt
  clear hown hb1
  by_cases h0 : L.length = 0
  · have hd : ((L.length : Int) == 0) = true := by rw [h0]; rfl
    have HC := Lib.hid (show ¬ exC s zs g from fun q => by have := q.1; rw [HL.out] at this; omega)
    go_wp2
    refine bodyPost_ret (v := .tuple #[rhy 0 none 0 0, .bool false]) (by simp [results, Try.results44, go_sem, *]) rfl ?_
    exact cpost_no HC.out ((HB1.out.setCell (by simp) _).setCell (by simp) _)
  · have hd : ((L.length : Int) == 0) = false := by rw [beq_eq_false_iff_ne]; omega
    obtain ⟨ho, hg1, hgs, _⟩ := gnB_in (HPOS.out (by omega))
    obtain ⟨n, rfl⟩ : ∃ n : Nat, s = n := ⟨s.toNat, by have := ho.1; omega⟩
    have hn1 : 1 ≤ n := by have := ho.1.1; omega
    have hn24 : n ≤ 24 := by have := ho.1.2; omega
    have hz24 := ok_len ho
    clear ho
    obtain ⟨b, off, y, rfl, hb, hy, hcy, hy1, hy2⟩ := HI1.out.at (k := L.length - 1) (by omega)
    have hyb := HLB.out y (List.mem_of_getElem? hy)
    obtain ⟨p, hp⟩ : ∃ p, (y + g) % (n : Int) = p := ⟨_, rfl⟩
    have hpb := em_bd (y + g) (show (1 : Int) ≤ (n : Int) by omega)
    rw [hp] at hpb
    have HP : Hid (exP n zs g = p) := Lib.hid (by unfold exP; rw [HL.out, hy, ← hp]; rfl)
    have HLPI : Hid (AllInt (L ++ [p])) := Lib.hid (fun z hz => by
      rcases List.mem_append.1 hz with q | q
      · exact HLI.out z q
      · rw [List.mem_singleton] at q; omega)
    have hw1 : IntKind.i64.wrap ((L.length : Int) - 1) = ((L.length - 1 : Nat) : Int) := (IntWalk.i64_in _ ⟨by omega, by omega⟩).trans (by omega)
    have hw2 : IntKind.i64.wrap (y + g) = y + g := IntWalk.i64_in _ ⟨by omega, by omega⟩
    have hq : Int.tmod (y + g) n = p := by rw [Int.tmod_eq_emod_of_nonneg (by omega)]; exact hp
    have hw3 : IntKind.i64.wrap p = p := IntWalk.i64_in _ ⟨by omega, by omega⟩
    have hn0 : ¬ n = 0 := by omega
    have k0 : (0 : Int) ≤ ((L.length - 1 : Nat) : Int) := by omega
    have k1 : ((L.length - 1 : Nat) : Int) < (L.length : Int) := by omega
    clear hy hp
    go_wp2
    refine wp_region_held_drew (S := fun W' => W'.cell? ⟨b, off + (L.length - 1), none⟩ = some (.int .i64 y) ∧ W'.cell? ⟨w.heap.size, 0, none⟩ = some (.int .i64 n)) (by kernel_rfl) ⟨hcy, x0⟩ (fun hSS0 => ?_)
    refine wpAnyH_take (i := 0) (oi := ⟨some 15, _, _, _, _, _⟩) (v := .slice (some ⟨b, off, none⟩) L.length cv) rfl (by kernel_rfl) (by kernel_rfl) (by kernel_rfl) (fun _ _ _ h => h) (Or.inl ⟨by rfl, fun w' hSw => by go_simp⟩) (by assumption) ?_
    try simp only [Act.put, List.setIfInBounds_toArray, List.set_cons_zero, List.set_cons_succ]
    refine wpAnyH_take (i := 1) (oi := ⟨some 16, _, _, _, _, _⟩) (v := .slice (some ⟨b, off, none⟩) L.length cv) rfl (by kernel_rfl) (by kernel_rfl) (by kernel_rfl) (fun _ _ _ h => h) (Or.inl ⟨by rfl, fun w' hSw => by go_simp⟩) (by assumption) ?_
    try simp only [Act.put, List.setIfInBounds_toArray, List.set_cons_zero, List.set_cons_succ]
    refine wpAnyH_take (i := 2) (oi := ⟨some 17, _, _, _, _, _⟩) (v := .int .i64 (L.length : Nat)) rfl (by kernel_rfl) (by kernel_rfl) (by kernel_rfl) (fun _ _ _ h => h) (Or.inl ⟨by rfl, fun w' hSw => by go_simp⟩) (by assumption) ?_
    try simp only [Act.put, List.setIfInBounds_toArray, List.set_cons_zero, List.set_cons_succ]
    refine wpAnyH_take (i := 3) (oi := ⟨some 18, _, _, _, _, _⟩) (v := .int .i64 ((L.length - 1 : Nat) : Int)) rfl (by kernel_rfl) (by kernel_rfl) (by kernel_rfl) (fun _ _ _ h => h) (Or.inl ⟨by rfl, fun w' hSw => by go_simp⟩) (by assumption) ?_
    try simp only [Act.put, List.setIfInBounds_toArray, List.set_cons_zero, List.set_cons_succ]
    refine wpAnyH_take (i := 4) (oi := ⟨some 19, _, _, _, _, _⟩) (v := .pointer (some ⟨b, off + (L.length - 1), none⟩)) rfl (by kernel_rfl) (by kernel_rfl) (by kernel_rfl) (fun _ _ _ h => h) (Or.inl ⟨by rfl, fun w' hSw => by go_simp⟩) (by assumption) ?_
    try simp only [Act.put, List.setIfInBounds_toArray, List.set_cons_zero, List.set_cons_succ]
    refine wpAnyH_take (i := 5) (oi := ⟨some 20, _, _, _, _, _⟩) (v := .int .i64 y) rfl (by kernel_rfl) (by kernel_rfl) (by kernel_rfl) (fun _ _ _ h => h) (Or.inl ⟨by rfl, fun w' hSw => by obtain ⟨q1, _⟩ := hSw; go_simp⟩) (by assumption) ?_
    try simp only [Act.put, List.setIfInBounds_toArray, List.set_cons_zero, List.set_cons_succ]
    refine wpAnyH_take (i := 6) (oi := ⟨some 21, _, _, _, _, _⟩) (v := .int .i64 g) rfl (by kernel_rfl) (by kernel_rfl) (by kernel_rfl) (fun _ _ _ h => h) (Or.inl ⟨by rfl, fun w' hSw => by go_simp⟩) (by assumption) ?_
    try simp only [Act.put, List.setIfInBounds_toArray, List.set_cons_zero, List.set_cons_succ]
    refine wpAnyH_take (i := 7) (oi := ⟨some 22, _, _, _, _, _⟩) (v := .int .i64 (y + g)) rfl (by kernel_rfl) (by kernel_rfl) (by kernel_rfl) (fun _ _ _ h => h) (Or.inl ⟨by rfl, fun w' hSw => by go_simp⟩) (by assumption) ?_
    try simp only [Act.put, List.setIfInBounds_toArray, List.set_cons_zero, List.set_cons_succ]
    refine wpAnyH_take (i := 8) (oi := ⟨some 23, _, _, _, _, _⟩) (v := .pointer (some ⟨w.heap.size, 0, none⟩)) rfl (by kernel_rfl) (by kernel_rfl) (by kernel_rfl) (fun _ _ _ h => h) (Or.inl ⟨by rfl, fun w' hSw => by go_simp⟩) (by assumption) ?_
    try simp only [Act.put, List.setIfInBounds_toArray, List.set_cons_zero, List.set_cons_succ]
    refine wpAnyH_take (i := 9) (oi := ⟨some 24, _, _, _, _, _⟩) (v := .int .i64 n) rfl (by kernel_rfl) (by kernel_rfl) (by kernel_rfl) (fun _ _ _ h => h) (Or.inl ⟨by rfl, fun w' hSw => by obtain ⟨_, q1⟩ := hSw; go_simp⟩) (by assumption) ?_
    try simp only [Act.put, List.setIfInBounds_toArray, List.set_cons_zero, List.set_cons_succ]
    refine wpAnyH_take (i := 10) (oi := ⟨some 25, _, _, _, _, _⟩) (v := .int .i64 p) rfl (by kernel_rfl) (by kernel_rfl) (by kernel_rfl) (fun _ _ _ h => h) (Or.inl ⟨by rfl, fun w' hSw => by go_simp⟩) (by assumption) ?_
    try simp only [Act.put, List.setIfInBounds_toArray, List.set_cons_zero, List.set_cons_succ]
    refine wpAnyH_take (i := 11) (oi := ⟨some 7, _, _, _, _, _⟩) (v := .int .i64 p) rfl (by kernel_rfl) (by kernel_rfl) (by kernel_rfl) (fun _ _ _ h => h) (Or.inl ⟨by rfl, fun w' hSw => by go_simp⟩) (by assumption) ?_
    try simp only [Act.put, List.setIfInBounds_toArray, List.set_cons_zero, List.set_cons_succ]
    refine wpAnyH_done (by kernel_rfl) ?_ _
    clear hSS0
    cases hc : hasB zs p
    · have HH := Lib.hid hc
      have HC := Lib.hid (show exC n zs g from ⟨by rw [HL.out]; omega, by rw [HP.out]; exact hc⟩)
      have HEZ : Hid (exZ n zs g = ofZ (n : Int).toNat (L ++ [p])) := Lib.hid (by unfold exZ; rw [HL.out, HP.out])
      have HK : Hid (∀ W' : World, Below W0.heap.size W1 W' → W'.cell? ⟨w.heap.size, 0, none⟩ = some (.int .i64 n)) := Lib.hid (fun W' hW => (HA1.out.keep hW HAL.out).facts.1)
      clear hc
      go_wp2_with fail
      refine (has_any a zs.length cap zs p _ (HIz.out.below (Below.refl _ _).drew) (by omega)).mono ?_
      rintro e w' ⟨rfl, rfl⟩
      rw [HH.out]
      go_wp2
      obtain ⟨W2, hW2⟩ : ∃ W2, W2 = W1.drew := ⟨_, rfl⟩
      have HB2 := Lib.hid (show Below W0.heap.size W1 W2 by rw [hW2]; exact (Below.refl _ _).drew)
      have HO2 := Lib.hid (show W2.ownsRow W0.heap.size 3 1 (.slice (some ⟨b, off, none⟩) L.length cv) L.length (ints L) by rw [hW2]; exact own_below HO1.out (Below.refl _ _).drew)
      have HZ2 := Lib.hid (show W0.heap.size ≤ W2.heap.size from Nat.le_trans HZ1.out HB2.out.size)
      have y0 : W2.cell? ⟨w.heap.size, 0, none⟩ = some (.int .i64 n) := HK.out _ HB2.out
      rw [← hW2]
      clear hW2
      refine wp_region_held_drew (S := fun W' => W'.cell? ⟨w.heap.size, 0, none⟩ = some (.int .i64 n)) (by kernel_rfl) (HK.out _ HB2.out.drew) (fun hSS0 => ?_)
      refine wpAnyH_take (i := 0) (oi := ⟨some 31, _, _, _, _, _⟩) (v := .pointer (some ⟨w.heap.size, 0, none⟩)) rfl (by kernel_rfl) (by kernel_rfl) (by kernel_rfl) (fun _ _ _ h => h) (Or.inl ⟨by rfl, fun w' hSw => by go_simp⟩) (by assumption) ?_
      try simp only [Act.put, List.setIfInBounds_toArray, List.set_cons_zero, List.set_cons_succ]
      refine wpAnyH_take (i := 1) (oi := ⟨some 32, _, _, _, _, _⟩) (v := .int .i64 n) rfl (by kernel_rfl) (by kernel_rfl) (by kernel_rfl) (fun _ _ _ h => h) (Or.inl ⟨by rfl, fun w' hSw => by go_simp⟩) (by assumption) ?_
      try simp only [Act.put, List.setIfInBounds_toArray, List.set_cons_zero, List.set_cons_succ]
      refine wpAnyH_take (i := 2) (oi := ⟨some 33, _, _, _, _, _⟩) (v := .slice (some ⟨b, off, none⟩) L.length cv) rfl (by kernel_rfl) (by kernel_rfl) (by kernel_rfl) (fun _ _ _ h => h) (Or.inl ⟨by rfl, fun w' hSw => by go_simp⟩) (by assumption) ?_
      try simp only [Act.put, List.setIfInBounds_toArray, List.set_cons_zero, List.set_cons_succ]
      refine wpAnyH_take (i := 3) (oi := ⟨some 34, _, _, _, _, _⟩) (v := .int .i64 p) rfl (by kernel_rfl) (by kernel_rfl) (by kernel_rfl) (fun _ _ _ h => h) (Or.inl ⟨by rfl, fun w' hSw => by go_simp⟩) (by assumption) ?_
      try simp only [Act.put, List.setIfInBounds_toArray, List.set_cons_zero, List.set_cons_succ]
      refine wpAnyH_ready (rs := [4]) (by kernel_rfl) (by simp) ?_
      refine AllReadyH.cons rfl (fun K hKK => ?_) AllReadyH.nil
      go_simp
      have hbb1 : Below W0.heap.size W1 (W2.drew.alloc (.cells #[.int .i64 p] 3)) := (HB2.out.drew).alloc HZ2.out _
      refine hKK.out _ _ (HK.out _ hbb1) (fun hSS1 => ?_)
      clear hKK K hSS0
      try simp only [Act.put, List.setIfInBounds_toArray, List.set_cons_zero, List.set_cons_succ]
      refine wpAnyH_ready (rs := [5]) (by kernel_rfl) (by simp) ?_
      refine AllReadyH.cons rfl (fun K hKK => ?_) AllReadyH.nil
      rw [show (W2.alloc (.cells #[.int .i64 p] 3)).drew = W2.drew.alloc (.cells #[.int .i64 p] 3) from rfl]
      refine step_append_int rfl _ _ rfl W0.heap.size _ L p W2.drew (own_below HO2.out (Below.refl _ _).drew) hml HZ2.out _ rfl rfl rfl ?_
      intro a' c' w4 hown4 hb4
      have hbb4 : Below W0.heap.size W1 w4 := HB2.out.drew.trans hb4
      have hI4 : IntsAt w4 a' (L.length + 1) (L ++ [p]) := by have := intsAt_own hown4 HLPI.out; rwa [List.length_append, List.length_singleton] at this
      clear hown4 hb4 hbb1
      refine hKK.out _ _ (HK.out _ hbb4) (fun hSS2 => ?_)
      clear hKK K hSS1
      try simp only [Act.put, List.setIfInBounds_toArray, List.set_cons_zero, List.set_cons_succ]
      refine wpAnyH_ready (rs := [6]) (by kernel_rfl) (by simp) ?_
      refine AllReadyH.cons rfl (fun K hKK => ?_) AllReadyH.nil
      go_simp
      go_at_call 71
      refine (of_int n a' (L.length + 1) c' (L ++ [p]) w4 hI4 (by omega) (by omega) (by omega)).mono ?_
      rintro e w5 ⟨a5, c5, rfl, hown5, hb5⟩
      have hs4 := hbb4.size
      have hbb5 : Below W0.heap.size W1 w5 := hbb4.trans (hb5.mono (Nat.le_trans HZ1.out hs4))
      have HO5 := Lib.hid hown5
      have HR5 := Lib.hid (HR1.out.keep hbb5 HRL.out)
      have HA5 := Lib.hid (HA1.out.keep hbb5 HAL.out)
      obtain ⟨r0, r1, r2, r3⟩ := HR5.out.facts
      have rlt := HR5.out.lt
      have HBF := Lib.hid (HB1.out.trans (hbb5.mono HB0S.out))
      have hs5 : W0.heap.size ≤ w4.heap.size := Nat.le_trans HZ1.out hs4
      clear hown5 hb5 hI4 hbb4
      refine hKK.out _ _ (HK.out _ hbb5) (fun hSS3 => ?_)
      clear hKK K hSS2
      try simp only [Act.put, List.setIfInBounds_toArray, List.set_cons_zero, List.set_cons_succ]
      refine wpAnyH_ready (rs := [7]) (by kernel_rfl) (by simp) ?_
      refine AllReadyH.cons rfl (fun K hKK => ?_) AllReadyH.nil
      go_simp
      refine hKK.out _ _ (((HA5.out.other _ (by omega)).other _ (by omega)).facts.1) (fun hSS4 => ?_)
      clear hKK K hSS3
      try simp only [Act.put, List.setIfInBounds_toArray, List.set_cons_zero, List.set_cons_succ]
      refine wpAnyH_take (i := 8) (oi := ⟨some 5, _, _, _, _, _⟩) (v := .bool true) rfl (by kernel_rfl) (by kernel_rfl) (by kernel_rfl) (fun _ _ _ h => h) (Or.inl ⟨by rfl, fun w' hSw => by go_simp⟩) (by assumption) ?_
      try simp only [Act.put, List.setIfInBounds_toArray, List.set_cons_zero, List.set_cons_succ]
      refine wpAnyH_done (by kernel_rfl) ?_ _
      go_wp2
      refine bodyPost_ret (v := .tuple #[rhy n a5 (ofZ (n : Int).toNat (L ++ [p])).length c5, .bool true]) (by simp [results, Try.results44, go_sem, *]) rfl ?_
      refine cpost_yes HC.out (by rw [HEZ.out]) ?_ ?_
      · rw [HEZ.out]
        exact own_base (ownsRow_setCell_below (ownsRow_setCell_below HO5.out (by show w.heap.size + 1 < w4.heap.size; have := HRL.out; omega) _) (by show w.heap.size + 1 < w4.heap.size; have := HRL.out; omega) _) (by have := HSZ.out; omega)
      · exact (HBF.out.setCell (by simp) _).setCell (by simp) _
    · have HH := Lib.hid hc
      have HC := Lib.hid (show ¬ exC n zs g from fun q => by have := q.2; rw [HP.out, hc] at this; cases this)
      clear hc
      go_wp2_with fail
      refine (has_any a zs.length cap zs p _ (HIz.out.below (Below.refl _ _).drew) (by omega)).mono ?_
      rintro e w' ⟨rfl, rfl⟩
      rw [HH.out]
      go_wp2
      refine bodyPost_ret (v := .tuple #[rhy 0 none 0 0, .bool false]) (by simp [results, Try.results44, go_sem, *]) rfl ?_
      exact cpost_no HC.out ((HB1.out.drew.setCell (by simp) _).setCell (by simp) _)
end Go.Proofs.Ythcmpkhfimapgaa.Rhy

/-
  Helpers of the claims beside this text: HasTwoSizes, CountSizes, IsSumOfSizes, TwoSizeCounts of the model.
-/
namespace Go.Proofs.Ythcmpkhfimapgaa.Rhy
open Go.RowKit
set_option linter.unusedVariables false
set_option linter.unusedSimpArgs false

/-! ### at least two beats, and two sizes of each span -/
def htC (s : Int) (zs : List Int) : Prop := Ok s zs ∧ 2 ≤ zs.length ∧ ∀ k : Nat, 1 ≤ k → k < zs.length → (spansB s zs k).length = 2
noncomputable def htB (s : Int) (zs : List Int) : Bool := @decide (htC s zs) (Classical.propDecidable _)
theorem htB_yes {s : Int} {zs : List Int} (h : htC s zs) : htB s zs = true := by simp [htB, h]
theorem htB_no {s : Int} {zs : List Int} (h : ¬ htC s zs) : htB s zs = false := by simp [htB, h]
set_option maxHeartbeats 1000000 in
theorem hts_spec (s : Int) (a : Option Addr) (len cap : Nat) (zs : List Int) (w : World) (h : IntsAt w a len zs) (hm : zs.length ≤ 1048576) :
    Calls Try.prog 45 #[rhy s a len cap] w fun e w' => e = .returned (.bool (htB s zs)) ∧ Below w.heap.size w w' := by
  have HS := Lib.hid h
  have hl : len ≤ 1048576 := by have := h.1; omega
  obtain rfl : zs.length = len := h.len
  clear h
  by_cases ho : Ok s zs
  · have HO := Lib.hid ho
    have hl24 := ok_len ho
    clear ho
    by_cases h2 : 2 ≤ zs.length
    · obtain ⟨q, hq⟩ : ∃ q, htB s zs = q := ⟨_, rfl⟩
      have HQ := Lib.hid hq
      clear hq
      rw [HQ.out]
      have hd2 : decide ((zs.length : Int) < 2) = false := decide_eq_false (by omega)
      go_enter Try.func45, Try.ntmps45
      go_wp2_with fail
      refine (ok_yes s a zs.length cap zs _ (HS.out.below (bel1 w _)) hl HO.out).mono ?_
      rintro e w1 ⟨rfl, hb1⟩
      have HB := Lib.hid ((bel1 w (.cells #[.int .i64 s, .slice a zs.length cap] 26)).trans (hb1.mono (by simp)))
      have HT := Lib.hid ((two_new w (.int .i64 s) (.slice a zs.length cap) 26).keep hb1)
      obtain ⟨t1, t1a, t1b⟩ := HT.out
      clear hb1
      go_wp2
      go_loopw [3] (fun i wr => ∃ k : Nat, 1 ≤ k ∧ k ≤ 25 ∧ i = .int .i64 k ∧ Hid (∀ j : Nat, 1 ≤ j → j < k → j < zs.length → (spansB s zs j).length = 2) ∧ Below w1.heap.size w1 wr) (fun i _ => 25 - (intOf i).toNat)
      case atStart => exact ⟨1, by omega, by omega, rfl, Lib.hid (fun j h1 h2 => absurd h2 (by omega)), Below.refl _ _⟩
      case round =>
        clear t1 t1a t1b
        obtain ⟨k, hk1, hk25, rfl, HEV, hbl⟩ := hrel
        have HX := Lib.hid hbl
        have HTr := Lib.hid (HT.out.keep hbl)
        obtain ⟨t1, t1a, t1b⟩ := HTr.out
        have HIr : Hid (IntsAt wr a zs.length zs) := Lib.hid (HS.out.below (HB.out.trans (hbl.mono HB.out.size)))
        clear hbl
        by_cases hlt : k < zs.length
        · go_wp2_with fail
          refine (spans_spec s a zs.length cap zs k wr HIr.out (by omega) (by omega) (by omega)).mono ?_
          rintro e w2 ⟨b, c, rfl, hown, hb⟩
          obtain ⟨m, hme⟩ : ∃ m, (spansB s zs k).length = m := ⟨_, rfl⟩
          have HM := Lib.hid hme
          have HB2 := Lib.hid (HX.out.trans (hb.mono HX.out.size))
          rw [hme]
          clear hown hb hme
          by_cases hd : m = 2
          · subst hd
            go_wp2
            go_roundw
            case rel =>
              refine ⟨k + 1, by omega, by omega, by go_num, Lib.hid (fun j h1 h2 h3 => ?_), HB2.out⟩
              rcases Nat.lt_or_ge j k with q1 | q1
              · exact HEV.out j h1 q1 h3
              · obtain rfl : j = k := by omega
                exact HM.out
            case measure => simp [intOf]; omega
          · have hdb : ((m : Int) == 2) = false := by rw [beq_eq_false_iff_ne]; omega
            have HQF : Hid (q = false) := Lib.hid (by
              rw [← HQ.out]
              exact htB_no (fun hq => hd (by rw [← HM.out]; exact hq.2.2 k hk1 hlt)))
            go_wp2
            go_ret
            exact ⟨by rw [HQF.out]; rfl, HB.out.trans (HB2.out.mono HB.out.size)⟩
        · have HQT : Hid (q = true) := Lib.hid (by
            rw [← HQ.out]
            exact htB_yes ⟨HO.out, h2, fun j h1 h2 => HEV.out j h1 (by omega) h2⟩)
          go_wp2
          go_ret
          exact ⟨by rw [HQT.out]; rfl, HB.out.trans (HX.out.mono HB.out.size)⟩
    · have HE := Lib.hid (htB_no (s := s) (zs := zs) (fun x => h2 x.2.1))
      rw [HE.out]
      have hd2 : decide ((zs.length : Int) < 2) = true := decide_eq_true (by omega)
      go_enter Try.func45, Try.ntmps45
      go_wp2_with fail
      refine (ok_yes s a zs.length cap zs _ (HS.out.below (bel1 w _)) hl HO.out).mono ?_
      rintro e w1 ⟨rfl, hb1⟩
      have HB := Lib.hid ((bel1 w (.cells #[.int .i64 s, .slice a zs.length cap] 26)).trans (hb1.mono (by simp)))
      have HT := Lib.hid ((two_new w (.int .i64 s) (.slice a zs.length cap) 26).keep hb1)
      obtain ⟨t1, t1a, t1b⟩ := HT.out
      clear hb1
      go_wp2
      go_ret
      exact ⟨rfl, HB.out⟩
  · have HO := Lib.hid ho
    have HE := Lib.hid (htB_no (s := s) (zs := zs) (fun x => ho x.1))
    clear ho
    rw [HE.out]
    go_enter Try.func45, Try.ntmps45
    go_wp2_with fail
    refine (ok_no s a zs.length cap zs _ (HS.out.below (bel1 w _)) hl HO.out).mono ?_
    rintro e w1 ⟨rfl, hb1⟩
    have HB := Lib.hid ((bel1 w (.cells #[.int .i64 s, .slice a zs.length cap] 26)).trans (hb1.mono (by simp)))
    clear hb1
    go_wp2
    go_ret
    exact ⟨rfl, HB.out⟩

/-! ### the sizes of the steps -/
theorem sizeB_len (s : Int) (zs : List Int) : (sizeB s zs).length ≤ 25 := ofZ_len _ _
noncomputable def csB (s : Int) (zs : List Int) : Int := ((sizeB s zs).length : Nat)
theorem csz_spec (s : Int) (a : Option Addr) (len cap : Nat) (zs : List Int) (w : World) (h : IntsAt w a len zs) (hm : zs.length ≤ 1048576) :
    Calls Try.prog 46 #[rhy s a len cap] w fun e w' => e = .returned (.int .i64 (csB s zs)) ∧ Below w.heap.size w w' := by
  have HS := Lib.hid h
  clear h
  go_enter Try.func46, Try.ntmps46
  go_wp2_with fail
  refine (sizes_spec s a len cap zs _ (HS.out.below (bel1 w _)) hm).mono ?_
  rintro e w1 ⟨a1, c1, rfl, hown, hb1⟩
  have HB := Lib.hid ((bel1 w (.cells #[.int .i64 s, .slice a len cap] 26)).trans (hb1.mono (by simp)))
  clear hown hb1
  go_wp2
  go_ret
  exact ⟨rfl, HB.out⟩
/-- At most two sizes, or three of which the greatest is the sum of both others. -/
def smB (l : List Int) : Bool := decide (l.length ≤ 2) || (decide (l.length = 3) && (l[0]?.getD 0 + l[1]?.getD 0 == l[2]?.getD 0))
set_option maxHeartbeats 2000000 in
set_option maxRecDepth 100000 in
theorem ssz_spec (s : Int) (a : Option Addr) (len cap : Nat) (zs : List Int) (w : World) (h : IntsAt w a len zs) (hm : zs.length ≤ 1048576) :
    Calls Try.prog 47 #[rhy s a len cap] w fun e w' => e = .returned (.bool (smB (sizeB s zs))) ∧ Below w.heap.size w w' := by
  have HS := Lib.hid h
  clear h
  have hL25 := sizeB_len s zs
  have hLB : ∀ x ∈ sizeB s zs, 0 ≤ x ∧ x < 25 := fun x hx => by
    have := (ofZ_mem.1 hx).1
    omega
  have HLI := Lib.hid (sizeB_int s zs)
  obtain ⟨L, hL⟩ : ∃ L, sizeB s zs = L := ⟨_, rfl⟩
  rw [hL] at hL25 hLB HLI ⊢
  have HLL := Lib.hid hL
  have HLB := Lib.hid hLB
  clear hL hLB
  obtain ⟨q, hq⟩ : ∃ q, smB L = q := ⟨_, rfl⟩
  have HQ := Lib.hid hq
  rw [hq]
  clear hq
  go_enter Try.func47, Try.ntmps47
  go_wp2_with fail
  refine (sizes_spec s a len cap zs _ (HS.out.below (bel1 w _)) hm).mono ?_
  rintro e w1 ⟨av, cv, rfl, hown, hb1⟩
  rw [HLL.out] at hown ⊢
  have HB := Lib.hid ((bel1 w (.cells #[.int .i64 s, .slice a len cap] 26)).trans (hb1.mono (by simp)))
  have HI : Hid (IntsAt w1 av L.length L) := Lib.hid (intsAt_own hown HLI.out)
  clear hown hb1
  by_cases h2 : L.length ≤ 2
  · have HE : Hid (q = true) := Lib.hid (by rw [← HQ.out]; unfold smB; rw [decide_eq_true h2]; rfl)
    have hd : decide ((L.length : Int) ≤ 2) = true := decide_eq_true (by omega)
    go_wp2
    refine wp_region_held_drew (S := fun _ => True) (by kernel_rfl) trivial (fun hSS0 => ?_)
    refine wpAnyH_take (i := 0) (oi := ⟨some 6, _, _, _, _, _⟩) (v := .slice av L.length cv) rfl (by kernel_rfl) (by kernel_rfl) (by kernel_rfl) (fun _ _ _ h => h) (Or.inl ⟨by rfl, fun w' hSw => by go_simp⟩) (by assumption) ?_
    try simp only [Act.put, List.setIfInBounds_toArray, List.set_cons_zero, List.set_cons_succ]
    refine wpAnyH_take (i := 1) (oi := ⟨some 7, _, _, _, _, _⟩) (v := .int .i64 (L.length : Nat)) rfl (by kernel_rfl) (by kernel_rfl) (by kernel_rfl) (fun _ _ _ h => h) (Or.inl ⟨by rfl, fun w' hSw => by go_simp⟩) (by assumption) ?_
    try simp only [Act.put, List.setIfInBounds_toArray, List.set_cons_zero, List.set_cons_succ]
    refine wpAnyH_take (i := 2) (oi := ⟨some 8, _, _, _, _, _⟩) (v := .bool true) rfl (by kernel_rfl) (by kernel_rfl) (by kernel_rfl) (fun _ _ _ h => h) (Or.inl ⟨by rfl, fun w' hSw => by go_simp⟩) (by assumption) ?_
    try simp only [Act.put, List.setIfInBounds_toArray, List.set_cons_zero, List.set_cons_succ]
    refine wpAnyH_take (i := 3) (oi := ⟨some 9, _, _, _, _, _⟩) (v := .bool true) rfl (by kernel_rfl) (by kernel_rfl) (by kernel_rfl) (fun _ _ _ h => h) (Or.inl ⟨by rfl, fun w' hSw => by go_simp⟩) (by assumption) ?_
    try simp only [Act.put, List.setIfInBounds_toArray, List.set_cons_zero, List.set_cons_succ]
    refine wpAnyH_take (i := 4) (oi := ⟨some 10, _, _, _, _, _⟩) (v := undef) rfl (by kernel_rfl) (by kernel_rfl) (by kernel_rfl) (fun _ _ _ h => h) (Or.inr ⟨by rfl, rfl⟩) (by assumption) ?_
    try simp only [Act.put, List.setIfInBounds_toArray, List.set_cons_zero, List.set_cons_succ]
    refine wpAnyH_take (i := 5) (oi := ⟨some 11, _, _, _, _, _⟩) (v := undef) rfl (by kernel_rfl) (by kernel_rfl) (by kernel_rfl) (fun _ _ _ h => h) (Or.inr ⟨by rfl, rfl⟩) (by assumption) ?_
    try simp only [Act.put, List.setIfInBounds_toArray, List.set_cons_zero, List.set_cons_succ]
    refine wpAnyH_take (i := 6) (oi := ⟨some 12, _, _, _, _, _⟩) (v := undef) rfl (by kernel_rfl) (by kernel_rfl) (by kernel_rfl) (fun _ _ _ h => h) (Or.inr ⟨by rfl, rfl⟩) (by assumption) ?_
    try simp only [Act.put, List.setIfInBounds_toArray, List.set_cons_zero, List.set_cons_succ]
    refine wpAnyH_take (i := 7) (oi := ⟨some 13, _, _, _, _, _⟩) (v := undef) rfl (by kernel_rfl) (by kernel_rfl) (by kernel_rfl) (fun _ _ _ h => h) (Or.inr ⟨by rfl, rfl⟩) (by assumption) ?_
    try simp only [Act.put, List.setIfInBounds_toArray, List.set_cons_zero, List.set_cons_succ]
    refine wpAnyH_take (i := 8) (oi := ⟨some 14, _, _, _, _, _⟩) (v := undef) rfl (by kernel_rfl) (by kernel_rfl) (by kernel_rfl) (fun _ _ _ h => h) (Or.inr ⟨by rfl, rfl⟩) (by assumption) ?_
    try simp only [Act.put, List.setIfInBounds_toArray, List.set_cons_zero, List.set_cons_succ]
    refine wpAnyH_take (i := 9) (oi := ⟨some 15, _, _, _, _, _⟩) (v := undef) rfl (by kernel_rfl) (by kernel_rfl) (by kernel_rfl) (fun _ _ _ h => h) (Or.inr ⟨by rfl, rfl⟩) (by assumption) ?_
    try simp only [Act.put, List.setIfInBounds_toArray, List.set_cons_zero, List.set_cons_succ]
    refine wpAnyH_take (i := 10) (oi := ⟨some 16, _, _, _, _, _⟩) (v := undef) rfl (by kernel_rfl) (by kernel_rfl) (by kernel_rfl) (fun _ _ _ h => h) (Or.inr ⟨by rfl, rfl⟩) (by assumption) ?_
    try simp only [Act.put, List.setIfInBounds_toArray, List.set_cons_zero, List.set_cons_succ]
    refine wpAnyH_take (i := 11) (oi := ⟨some 17, _, _, _, _, _⟩) (v := undef) rfl (by kernel_rfl) (by kernel_rfl) (by kernel_rfl) (fun _ _ _ h => h) (Or.inr ⟨by rfl, rfl⟩) (by assumption) ?_
    try simp only [Act.put, List.setIfInBounds_toArray, List.set_cons_zero, List.set_cons_succ]
    refine wpAnyH_take (i := 12) (oi := ⟨some 18, _, _, _, _, _⟩) (v := undef) rfl (by kernel_rfl) (by kernel_rfl) (by kernel_rfl) (fun _ _ _ h => h) (Or.inr ⟨by rfl, rfl⟩) (by assumption) ?_
    try simp only [Act.put, List.setIfInBounds_toArray, List.set_cons_zero, List.set_cons_succ]
    refine wpAnyH_take (i := 13) (oi := ⟨some 19, _, _, _, _, _⟩) (v := undef) rfl (by kernel_rfl) (by kernel_rfl) (by kernel_rfl) (fun _ _ _ h => h) (Or.inr ⟨by rfl, rfl⟩) (by assumption) ?_
    try simp only [Act.put, List.setIfInBounds_toArray, List.set_cons_zero, List.set_cons_succ]
    refine wpAnyH_take (i := 14) (oi := ⟨some 20, _, _, _, _, _⟩) (v := undef) rfl (by kernel_rfl) (by kernel_rfl) (by kernel_rfl) (fun _ _ _ h => h) (Or.inr ⟨by rfl, rfl⟩) (by assumption) ?_
    try simp only [Act.put, List.setIfInBounds_toArray, List.set_cons_zero, List.set_cons_succ]
    refine wpAnyH_take (i := 15) (oi := ⟨some 21, _, _, _, _, _⟩) (v := undef) rfl (by kernel_rfl) (by kernel_rfl) (by kernel_rfl) (fun _ _ _ h => h) (Or.inr ⟨by rfl, rfl⟩) (by assumption) ?_
    try simp only [Act.put, List.setIfInBounds_toArray, List.set_cons_zero, List.set_cons_succ]
    refine wpAnyH_take (i := 16) (oi := ⟨some 22, _, _, _, _, _⟩) (v := undef) rfl (by kernel_rfl) (by kernel_rfl) (by kernel_rfl) (fun _ _ _ h => h) (Or.inr ⟨by rfl, rfl⟩) (by assumption) ?_
    try simp only [Act.put, List.setIfInBounds_toArray, List.set_cons_zero, List.set_cons_succ]
    refine wpAnyH_take (i := 17) (oi := ⟨some 23, _, _, _, _, _⟩) (v := undef) rfl (by kernel_rfl) (by kernel_rfl) (by kernel_rfl) (fun _ _ _ h => h) (Or.inr ⟨by rfl, rfl⟩) (by assumption) ?_
    try simp only [Act.put, List.setIfInBounds_toArray, List.set_cons_zero, List.set_cons_succ]
    refine wpAnyH_take (i := 18) (oi := ⟨some 24, _, _, _, _, _⟩) (v := undef) rfl (by kernel_rfl) (by kernel_rfl) (by kernel_rfl) (fun _ _ _ h => h) (Or.inr ⟨by rfl, rfl⟩) (by assumption) ?_
    try simp only [Act.put, List.setIfInBounds_toArray, List.set_cons_zero, List.set_cons_succ]
    refine wpAnyH_take (i := 19) (oi := ⟨some 25, _, _, _, _, _⟩) (v := undef) rfl (by kernel_rfl) (by kernel_rfl) (by kernel_rfl) (fun _ _ _ h => h) (Or.inr ⟨by rfl, rfl⟩) (by assumption) ?_
    try simp only [Act.put, List.setIfInBounds_toArray, List.set_cons_zero, List.set_cons_succ]
    refine wpAnyH_take (i := 20) (oi := ⟨some 26, _, _, _, _, _⟩) (v := .bool true) rfl (by kernel_rfl) (by kernel_rfl) (by kernel_rfl) (fun _ _ _ h => h) (Or.inl ⟨by rfl, fun w' hSw => by go_simp⟩) (by assumption) ?_
    try simp only [Act.put, List.setIfInBounds_toArray, List.set_cons_zero, List.set_cons_succ]
    refine wpAnyH_take (i := 21) (oi := ⟨some 2, _, _, _, _, _⟩) (v := .bool true) rfl (by kernel_rfl) (by kernel_rfl) (by kernel_rfl) (fun _ _ _ h => h) (Or.inl ⟨by rfl, fun w' hSw => by go_simp⟩) (by assumption) ?_
    try simp only [Act.put, List.setIfInBounds_toArray, List.set_cons_zero, List.set_cons_succ]
    refine wpAnyH_done (by kernel_rfl) ?_ _
    go_wp2
    go_ret
    exact ⟨by rw [HE.out]; rfl, HB.out.drew⟩
  · by_cases h3 : L.length = 3
    · obtain ⟨b, off, x, rfl, hb, hx, hcx, hx1, hx2⟩ := HI.out.at (k := 0) (by omega)
      obtain ⟨b', off', y, he, hb', hy, hcy, hy1, hy2⟩ := HI.out.at (k := 1) (by omega)
      cases he
      obtain ⟨b', off', z, he, hb', hz, hcz, hz1, hz2⟩ := HI.out.at (k := 2) (by omega)
      cases he
      have hxb := HLB.out x (List.mem_of_getElem? hx)
      have hyb := HLB.out y (List.mem_of_getElem? hy)
      have HE : Hid (q = (x + y == z)) := Lib.hid (by
        rw [← HQ.out]
        unfold smB
        rw [decide_eq_false h2, decide_eq_true h3, hx, hy, hz]
        rfl)
      have hw : IntKind.i64.wrap (x + y) = x + y := IntWalk.i64_in _ ⟨by omega, by omega⟩
      have hd : decide ((L.length : Int) ≤ 2) = false := decide_eq_false (by omega)
      rw [h3]
      have hcx : w1.cell? ⟨b, off, none⟩ = some (.int .i64 x) := hcx
      clear hx hy hz hxb hyb hd h2 h3
      go_wp2
      refine wp_region_held_drew (S := fun W' => W'.cell? ⟨b, off, none⟩ = some (.int .i64 x) ∧ W'.cell? ⟨b, off + 1, none⟩ = some (.int .i64 y) ∧ W'.cell? ⟨b, off + 2, none⟩ = some (.int .i64 z)) (by kernel_rfl) ⟨hcx, hcy, hcz⟩ (fun hSS0 => ?_)
      refine wpAnyH_take (i := 0) (oi := ⟨some 6, _, _, _, _, _⟩) (v := .slice (some ⟨b, off, none⟩) 3 cv) rfl (by kernel_rfl) (by kernel_rfl) (by kernel_rfl) (fun _ _ _ h => h) (Or.inl ⟨by rfl, fun w' hSw => by go_simp⟩) (by assumption) ?_
      try simp only [Act.put, List.setIfInBounds_toArray, List.set_cons_zero, List.set_cons_succ]
      refine wpAnyH_take (i := 1) (oi := ⟨some 7, _, _, _, _, _⟩) (v := .int .i64 3) rfl (by kernel_rfl) (by kernel_rfl) (by kernel_rfl) (fun _ _ _ h => h) (Or.inl ⟨by rfl, fun w' hSw => by go_simp⟩) (by assumption) ?_
      try simp only [Act.put, List.setIfInBounds_toArray, List.set_cons_zero, List.set_cons_succ]
      refine wpAnyH_take (i := 2) (oi := ⟨some 8, _, _, _, _, _⟩) (v := .bool false) rfl (by kernel_rfl) (by kernel_rfl) (by kernel_rfl) (fun _ _ _ h => h) (Or.inl ⟨by rfl, fun w' hSw => by go_simp⟩) (by assumption) ?_
      try simp only [Act.put, List.setIfInBounds_toArray, List.set_cons_zero, List.set_cons_succ]
      refine wpAnyH_take (i := 3) (oi := ⟨some 9, _, _, _, _, _⟩) (v := .bool false) rfl (by kernel_rfl) (by kernel_rfl) (by kernel_rfl) (fun _ _ _ h => h) (Or.inl ⟨by rfl, fun w' hSw => by go_simp⟩) (by assumption) ?_
      try simp only [Act.put, List.setIfInBounds_toArray, List.set_cons_zero, List.set_cons_succ]
      refine wpAnyH_take (i := 4) (oi := ⟨some 10, _, _, _, _, _⟩) (v := .slice (some ⟨b, off, none⟩) 3 cv) rfl (by kernel_rfl) (by kernel_rfl) (by kernel_rfl) (fun _ _ _ h => h) (Or.inl ⟨by rfl, fun w' hSw => by go_simp⟩) (by assumption) ?_
      try simp only [Act.put, List.setIfInBounds_toArray, List.set_cons_zero, List.set_cons_succ]
      refine wpAnyH_take (i := 5) (oi := ⟨some 11, _, _, _, _, _⟩) (v := .int .i64 3) rfl (by kernel_rfl) (by kernel_rfl) (by kernel_rfl) (fun _ _ _ h => h) (Or.inl ⟨by rfl, fun w' hSw => by go_simp⟩) (by assumption) ?_
      try simp only [Act.put, List.setIfInBounds_toArray, List.set_cons_zero, List.set_cons_succ]
      refine wpAnyH_take (i := 6) (oi := ⟨some 12, _, _, _, _, _⟩) (v := .bool true) rfl (by kernel_rfl) (by kernel_rfl) (by kernel_rfl) (fun _ _ _ h => h) (Or.inl ⟨by rfl, fun w' hSw => by go_simp⟩) (by assumption) ?_
      try simp only [Act.put, List.setIfInBounds_toArray, List.set_cons_zero, List.set_cons_succ]
      refine wpAnyH_take (i := 7) (oi := ⟨some 13, _, _, _, _, _⟩) (v := .bool true) rfl (by kernel_rfl) (by kernel_rfl) (by kernel_rfl) (fun _ _ _ h => h) (Or.inl ⟨by rfl, fun w' hSw => by go_simp⟩) (by assumption) ?_
      try simp only [Act.put, List.setIfInBounds_toArray, List.set_cons_zero, List.set_cons_succ]
      refine wpAnyH_take (i := 8) (oi := ⟨some 14, _, _, _, _, _⟩) (v := .slice (some ⟨b, off, none⟩) 3 cv) rfl (by kernel_rfl) (by kernel_rfl) (by kernel_rfl) (fun _ _ _ h => h) (Or.inl ⟨by rfl, fun w' hSw => by go_simp⟩) (by assumption) ?_
      try simp only [Act.put, List.setIfInBounds_toArray, List.set_cons_zero, List.set_cons_succ]
      refine wpAnyH_take (i := 9) (oi := ⟨some 15, _, _, _, _, _⟩) (v := .pointer (some ⟨b, off, none⟩)) rfl (by kernel_rfl) (by kernel_rfl) (by kernel_rfl) (fun _ _ _ h => h) (Or.inl ⟨by rfl, fun w' hSw => by go_simp⟩) (by assumption) ?_
      try simp only [Act.put, List.setIfInBounds_toArray, List.set_cons_zero, List.set_cons_succ]
      refine wpAnyH_take (i := 10) (oi := ⟨some 16, _, _, _, _, _⟩) (v := .int .i64 x) rfl (by kernel_rfl) (by kernel_rfl) (by kernel_rfl) (fun _ _ _ h => h) (Or.inl ⟨by rfl, fun w' hSw => by obtain ⟨q1, _⟩ := hSw; go_simp⟩) (by assumption) ?_
      try simp only [Act.put, List.setIfInBounds_toArray, List.set_cons_zero, List.set_cons_succ]
      refine wpAnyH_take (i := 11) (oi := ⟨some 17, _, _, _, _, _⟩) (v := .slice (some ⟨b, off, none⟩) 3 cv) rfl (by kernel_rfl) (by kernel_rfl) (by kernel_rfl) (fun _ _ _ h => h) (Or.inl ⟨by rfl, fun w' hSw => by go_simp⟩) (by assumption) ?_
      try simp only [Act.put, List.setIfInBounds_toArray, List.set_cons_zero, List.set_cons_succ]
      refine wpAnyH_take (i := 12) (oi := ⟨some 18, _, _, _, _, _⟩) (v := .pointer (some ⟨b, off + 1, none⟩)) rfl (by kernel_rfl) (by kernel_rfl) (by kernel_rfl) (fun _ _ _ h => h) (Or.inl ⟨by rfl, fun w' hSw => by go_simp⟩) (by assumption) ?_
      try simp only [Act.put, List.setIfInBounds_toArray, List.set_cons_zero, List.set_cons_succ]
      refine wpAnyH_take (i := 13) (oi := ⟨some 19, _, _, _, _, _⟩) (v := .int .i64 y) rfl (by kernel_rfl) (by kernel_rfl) (by kernel_rfl) (fun _ _ _ h => h) (Or.inl ⟨by rfl, fun w' hSw => by obtain ⟨_, q1, _⟩ := hSw; go_simp⟩) (by assumption) ?_
      try simp only [Act.put, List.setIfInBounds_toArray, List.set_cons_zero, List.set_cons_succ]
      refine wpAnyH_take (i := 14) (oi := ⟨some 20, _, _, _, _, _⟩) (v := .int .i64 (x + y)) rfl (by kernel_rfl) (by kernel_rfl) (by kernel_rfl) (fun _ _ _ h => h) (Or.inl ⟨by rfl, fun w' hSw => by go_simp⟩) (by assumption) ?_
      try simp only [Act.put, List.setIfInBounds_toArray, List.set_cons_zero, List.set_cons_succ]
      refine wpAnyH_take (i := 15) (oi := ⟨some 21, _, _, _, _, _⟩) (v := .slice (some ⟨b, off, none⟩) 3 cv) rfl (by kernel_rfl) (by kernel_rfl) (by kernel_rfl) (fun _ _ _ h => h) (Or.inl ⟨by rfl, fun w' hSw => by go_simp⟩) (by assumption) ?_
      try simp only [Act.put, List.setIfInBounds_toArray, List.set_cons_zero, List.set_cons_succ]
      refine wpAnyH_take (i := 16) (oi := ⟨some 22, _, _, _, _, _⟩) (v := .pointer (some ⟨b, off + 2, none⟩)) rfl (by kernel_rfl) (by kernel_rfl) (by kernel_rfl) (fun _ _ _ h => h) (Or.inl ⟨by rfl, fun w' hSw => by go_simp⟩) (by assumption) ?_
      try simp only [Act.put, List.setIfInBounds_toArray, List.set_cons_zero, List.set_cons_succ]
      refine wpAnyH_take (i := 17) (oi := ⟨some 23, _, _, _, _, _⟩) (v := .int .i64 z) rfl (by kernel_rfl) (by kernel_rfl) (by kernel_rfl) (fun _ _ _ h => h) (Or.inl ⟨by rfl, fun w' hSw => by obtain ⟨_, _, q1⟩ := hSw; go_simp⟩) (by assumption) ?_
      try simp only [Act.put, List.setIfInBounds_toArray, List.set_cons_zero, List.set_cons_succ]
      refine wpAnyH_take (i := 18) (oi := ⟨some 24, _, _, _, _, _⟩) (v := .bool (x + y == z)) rfl (by kernel_rfl) (by kernel_rfl) (by kernel_rfl) (fun _ _ _ h => h) (Or.inl ⟨by rfl, fun w' hSw => by go_simp⟩) (by assumption) ?_
      try simp only [Act.put, List.setIfInBounds_toArray, List.set_cons_zero, List.set_cons_succ]
      refine wpAnyH_take (i := 19) (oi := ⟨some 25, _, _, _, _, _⟩) (v := .bool (x + y == z)) rfl (by kernel_rfl) (by kernel_rfl) (by kernel_rfl) (fun _ _ _ h => h) (Or.inl ⟨by rfl, fun w' hSw => by go_simp⟩) (by assumption) ?_
      try simp only [Act.put, List.setIfInBounds_toArray, List.set_cons_zero, List.set_cons_succ]
      refine wpAnyH_take (i := 20) (oi := ⟨some 26, _, _, _, _, _⟩) (v := .bool (x + y == z)) rfl (by kernel_rfl) (by kernel_rfl) (by kernel_rfl) (fun _ _ _ h => h) (Or.inl ⟨by rfl, fun w' hSw => by go_simp⟩) (by assumption) ?_
      try simp only [Act.put, List.setIfInBounds_toArray, List.set_cons_zero, List.set_cons_succ]
      refine wpAnyH_take (i := 21) (oi := ⟨some 2, _, _, _, _, _⟩) (v := .bool (x + y == z)) rfl (by kernel_rfl) (by kernel_rfl) (by kernel_rfl) (fun _ _ _ h => h) (Or.inl ⟨by rfl, fun w' hSw => by go_simp⟩) (by assumption) ?_
      try simp only [Act.put, List.setIfInBounds_toArray, List.set_cons_zero, List.set_cons_succ]
      refine wpAnyH_done (by kernel_rfl) ?_ _
      go_wp2
      go_ret
      exact ⟨by rw [HE.out]; rfl, HB.out.drew⟩
    · have HE : Hid (q = false) := Lib.hid (by rw [← HQ.out]; unfold smB; rw [decide_eq_false h2, decide_eq_false h3]; rfl)
      have hd : decide ((L.length : Int) ≤ 2) = false := decide_eq_false (by omega)
      have hd3 : ((L.length : Int) == 3) = false := by rw [beq_eq_false_iff_ne]; omega
      go_wp2
      refine wp_region_held_drew (S := fun _ => True) (by kernel_rfl) trivial (fun hSS0 => ?_)
      refine wpAnyH_take (i := 0) (oi := ⟨some 6, _, _, _, _, _⟩) (v := .slice av L.length cv) rfl (by kernel_rfl) (by kernel_rfl) (by kernel_rfl) (fun _ _ _ h => h) (Or.inl ⟨by rfl, fun w' hSw => by go_simp⟩) (by assumption) ?_
      try simp only [Act.put, List.setIfInBounds_toArray, List.set_cons_zero, List.set_cons_succ]
      refine wpAnyH_take (i := 1) (oi := ⟨some 7, _, _, _, _, _⟩) (v := .int .i64 (L.length : Nat)) rfl (by kernel_rfl) (by kernel_rfl) (by kernel_rfl) (fun _ _ _ h => h) (Or.inl ⟨by rfl, fun w' hSw => by go_simp⟩) (by assumption) ?_
      try simp only [Act.put, List.setIfInBounds_toArray, List.set_cons_zero, List.set_cons_succ]
      refine wpAnyH_take (i := 2) (oi := ⟨some 8, _, _, _, _, _⟩) (v := .bool false) rfl (by kernel_rfl) (by kernel_rfl) (by kernel_rfl) (fun _ _ _ h => h) (Or.inl ⟨by rfl, fun w' hSw => by go_simp⟩) (by assumption) ?_
      try simp only [Act.put, List.setIfInBounds_toArray, List.set_cons_zero, List.set_cons_succ]
      refine wpAnyH_take (i := 3) (oi := ⟨some 9, _, _, _, _, _⟩) (v := .bool false) rfl (by kernel_rfl) (by kernel_rfl) (by kernel_rfl) (fun _ _ _ h => h) (Or.inl ⟨by rfl, fun w' hSw => by go_simp⟩) (by assumption) ?_
      try simp only [Act.put, List.setIfInBounds_toArray, List.set_cons_zero, List.set_cons_succ]
      refine wpAnyH_take (i := 4) (oi := ⟨some 10, _, _, _, _, _⟩) (v := .slice av L.length cv) rfl (by kernel_rfl) (by kernel_rfl) (by kernel_rfl) (fun _ _ _ h => h) (Or.inl ⟨by rfl, fun w' hSw => by go_simp⟩) (by assumption) ?_
      try simp only [Act.put, List.setIfInBounds_toArray, List.set_cons_zero, List.set_cons_succ]
      refine wpAnyH_take (i := 5) (oi := ⟨some 11, _, _, _, _, _⟩) (v := .int .i64 (L.length : Nat)) rfl (by kernel_rfl) (by kernel_rfl) (by kernel_rfl) (fun _ _ _ h => h) (Or.inl ⟨by rfl, fun w' hSw => by go_simp⟩) (by assumption) ?_
      try simp only [Act.put, List.setIfInBounds_toArray, List.set_cons_zero, List.set_cons_succ]
      refine wpAnyH_take (i := 6) (oi := ⟨some 12, _, _, _, _, _⟩) (v := .bool false) rfl (by kernel_rfl) (by kernel_rfl) (by kernel_rfl) (fun _ _ _ h => h) (Or.inl ⟨by rfl, fun w' hSw => by go_simp⟩) (by assumption) ?_
      try simp only [Act.put, List.setIfInBounds_toArray, List.set_cons_zero, List.set_cons_succ]
      refine wpAnyH_take (i := 7) (oi := ⟨some 13, _, _, _, _, _⟩) (v := .bool false) rfl (by kernel_rfl) (by kernel_rfl) (by kernel_rfl) (fun _ _ _ h => h) (Or.inl ⟨by rfl, fun w' hSw => by go_simp⟩) (by assumption) ?_
      try simp only [Act.put, List.setIfInBounds_toArray, List.set_cons_zero, List.set_cons_succ]
      refine wpAnyH_take (i := 8) (oi := ⟨some 14, _, _, _, _, _⟩) (v := undef) rfl (by kernel_rfl) (by kernel_rfl) (by kernel_rfl) (fun _ _ _ h => h) (Or.inr ⟨by rfl, rfl⟩) (by assumption) ?_
      try simp only [Act.put, List.setIfInBounds_toArray, List.set_cons_zero, List.set_cons_succ]
      refine wpAnyH_take (i := 9) (oi := ⟨some 15, _, _, _, _, _⟩) (v := undef) rfl (by kernel_rfl) (by kernel_rfl) (by kernel_rfl) (fun _ _ _ h => h) (Or.inr ⟨by rfl, rfl⟩) (by assumption) ?_
      try simp only [Act.put, List.setIfInBounds_toArray, List.set_cons_zero, List.set_cons_succ]
      refine wpAnyH_take (i := 10) (oi := ⟨some 16, _, _, _, _, _⟩) (v := undef) rfl (by kernel_rfl) (by kernel_rfl) (by kernel_rfl) (fun _ _ _ h => h) (Or.inr ⟨by rfl, rfl⟩) (by assumption) ?_
      try simp only [Act.put, List.setIfInBounds_toArray, List.set_cons_zero, List.set_cons_succ]
      refine wpAnyH_take (i := 11) (oi := ⟨some 17, _, _, _, _, _⟩) (v := undef) rfl (by kernel_rfl) (by kernel_rfl) (by kernel_rfl) (fun _ _ _ h => h) (Or.inr ⟨by rfl, rfl⟩) (by assumption) ?_
      try simp only [Act.put, List.setIfInBounds_toArray, List.set_cons_zero, List.set_cons_succ]
      refine wpAnyH_take (i := 12) (oi := ⟨some 18, _, _, _, _, _⟩) (v := undef) rfl (by kernel_rfl) (by kernel_rfl) (by kernel_rfl) (fun _ _ _ h => h) (Or.inr ⟨by rfl, rfl⟩) (by assumption) ?_
      try simp only [Act.put, List.setIfInBounds_toArray, List.set_cons_zero, List.set_cons_succ]
      refine wpAnyH_take (i := 13) (oi := ⟨some 19, _, _, _, _, _⟩) (v := undef) rfl (by kernel_rfl) (by kernel_rfl) (by kernel_rfl) (fun _ _ _ h => h) (Or.inr ⟨by rfl, rfl⟩) (by assumption) ?_
      try simp only [Act.put, List.setIfInBounds_toArray, List.set_cons_zero, List.set_cons_succ]
      refine wpAnyH_take (i := 14) (oi := ⟨some 20, _, _, _, _, _⟩) (v := undef) rfl (by kernel_rfl) (by kernel_rfl) (by kernel_rfl) (fun _ _ _ h => h) (Or.inr ⟨by rfl, rfl⟩) (by assumption) ?_
      try simp only [Act.put, List.setIfInBounds_toArray, List.set_cons_zero, List.set_cons_succ]
      refine wpAnyH_take (i := 15) (oi := ⟨some 21, _, _, _, _, _⟩) (v := undef) rfl (by kernel_rfl) (by kernel_rfl) (by kernel_rfl) (fun _ _ _ h => h) (Or.inr ⟨by rfl, rfl⟩) (by assumption) ?_
      try simp only [Act.put, List.setIfInBounds_toArray, List.set_cons_zero, List.set_cons_succ]
      refine wpAnyH_take (i := 16) (oi := ⟨some 22, _, _, _, _, _⟩) (v := undef) rfl (by kernel_rfl) (by kernel_rfl) (by kernel_rfl) (fun _ _ _ h => h) (Or.inr ⟨by rfl, rfl⟩) (by assumption) ?_
      try simp only [Act.put, List.setIfInBounds_toArray, List.set_cons_zero, List.set_cons_succ]
      refine wpAnyH_take (i := 17) (oi := ⟨some 23, _, _, _, _, _⟩) (v := undef) rfl (by kernel_rfl) (by kernel_rfl) (by kernel_rfl) (fun _ _ _ h => h) (Or.inr ⟨by rfl, rfl⟩) (by assumption) ?_
      try simp only [Act.put, List.setIfInBounds_toArray, List.set_cons_zero, List.set_cons_succ]
      refine wpAnyH_take (i := 18) (oi := ⟨some 24, _, _, _, _, _⟩) (v := undef) rfl (by kernel_rfl) (by kernel_rfl) (by kernel_rfl) (fun _ _ _ h => h) (Or.inr ⟨by rfl, rfl⟩) (by assumption) ?_
      try simp only [Act.put, List.setIfInBounds_toArray, List.set_cons_zero, List.set_cons_succ]
      refine wpAnyH_take (i := 19) (oi := ⟨some 25, _, _, _, _, _⟩) (v := .bool false) rfl (by kernel_rfl) (by kernel_rfl) (by kernel_rfl) (fun _ _ _ h => h) (Or.inl ⟨by rfl, fun w' hSw => by go_simp⟩) (by assumption) ?_
      try simp only [Act.put, List.setIfInBounds_toArray, List.set_cons_zero, List.set_cons_succ]
      refine wpAnyH_take (i := 20) (oi := ⟨some 26, _, _, _, _, _⟩) (v := .bool false) rfl (by kernel_rfl) (by kernel_rfl) (by kernel_rfl) (fun _ _ _ h => h) (Or.inl ⟨by rfl, fun w' hSw => by go_simp⟩) (by assumption) ?_
      try simp only [Act.put, List.setIfInBounds_toArray, List.set_cons_zero, List.set_cons_succ]
      refine wpAnyH_take (i := 21) (oi := ⟨some 2, _, _, _, _, _⟩) (v := .bool false) rfl (by kernel_rfl) (by kernel_rfl) (by kernel_rfl) (fun _ _ _ h => h) (Or.inl ⟨by rfl, fun w' hSw => by go_simp⟩) (by assumption) ?_
      try simp only [Act.put, List.setIfInBounds_toArray, List.set_cons_zero, List.set_cons_succ]
      refine wpAnyH_done (by kernel_rfl) ?_ _
      go_wp2
      go_ret
      exact ⟨by rw [HE.out]; rfl, HB.out.drew⟩
end Go.Proofs.Ythcmpkhfimapgaa.Rhy

/-
  Helpers of the claims beside this text: TwoSizeCounts of the model.
-/
namespace Go.Proofs.Ythcmpkhfimapgaa.Rhy
open Go.RowKit
set_option linter.unusedVariables false
set_option linter.unusedSimpArgs false

def tsQ (n g k : Int) : Prop := GenC n k g ∧ csB n (genZ n k g) ≤ 2
open Classical in
noncomputable def tsP (n g : Int) (j : Nat) : List Int := ((List.range j).map Int.ofNat).filter fun k => decide (2 ≤ k ∧ tsQ n g k)
def TsC (n g : Int) : Prop := (1 ≤ n ∧ n ≤ 24) ∧ (1 ≤ g ∧ g ≤ n)
noncomputable def tsB (n g : Int) : List Int := cZ (TsC n g) (tsP n g n.toNat)
theorem tsP_mem {n g : Int} {j : Nat} {x : Int} : x ∈ tsP n g j ↔ (2 ≤ x ∧ x < j) ∧ tsQ n g x := by
  unfold tsP
  rw [List.mem_filter, List.mem_map]
  constructor
  · rintro ⟨⟨i, hi, rfl⟩, hd⟩
    have := List.mem_range.1 hi
    simp only [decide_eq_true_eq] at hd
    exact ⟨⟨hd.1, by show ((i : Nat) : Int) < j; omega⟩, hd.2⟩
  · rintro ⟨⟨h1, h2⟩, hq⟩
    refine ⟨⟨x.toNat, List.mem_range.2 (by omega), by show ((x.toNat : Nat) : Int) = x; omega⟩, ?_⟩
    simp only [decide_eq_true_eq]
    exact ⟨h1, hq⟩
theorem tsP_two (n g : Int) : tsP n g 2 = [] := by
  rw [List.eq_nil_iff_forall_not_mem]
  intro x hx
  have := (tsP_mem.1 hx).1
  omega
theorem tsP_yes {n g : Int} {k : Nat} (h1 : 2 ≤ k) (h : tsQ n g k) : tsP n g (k + 1) = tsP n g k ++ [(k : Int)] := by
  unfold tsP
  rw [List.range_succ, List.map_append, List.filter_append]
  congr 1
  simp only [List.map_cons, List.map_nil]
  rw [List.filter_cons_of_pos]
  · rfl
  · simp only [decide_eq_true_eq]; exact ⟨by show (2 : Int) ≤ (k : Int); omega, h⟩
theorem tsP_no {n g : Int} {k : Nat} (h : ¬ tsQ n g k) : tsP n g (k + 1) = tsP n g k := by
  unfold tsP
  rw [List.range_succ, List.map_append, List.filter_append]
  simp only [List.map_cons, List.map_nil]
  rw [List.filter_cons_of_neg]
  · simp
  · simp only [decide_eq_true_eq]; exact fun q => h q.2
theorem tsP_len (n g : Int) (j : Nat) : (tsP n g j).length ≤ j := by
  unfold tsP
  refine Nat.le_trans (List.length_filter_le _ _) ?_
  simp
theorem tsB_int (n g : Int) : AllInt (tsB n g) := by
  by_cases h : TsC n g
  · unfold tsB
    rw [cZ_yes h]
    intro z hz
    have := (tsP_mem.1 hz).1
    have := h.1
    omega
  · unfold tsB
    rw [cZ_no h]
    intro z hz; cases hz
theorem tsB_len (n g : Int) : (tsB n g).length ≤ 24 := by
  by_cases h : TsC n g
  · unfold tsB
    rw [cZ_yes h]
    exact Nat.le_trans (tsP_len _ _ _) (by have := h.1; omega)
  · unfold tsB
    rw [cZ_no h]
    simp

set_option maxHeartbeats 2000000 in
theorem tsc_spec (n g : Int) (w : World) (h1 : -9223372036854775808 ≤ n) (h2 : n ≤ 9223372036854775807) (h3 : -9223372036854775808 ≤ g) (h4 : g ≤ 9223372036854775807) :
    Calls Try.prog 48 #[.int .i64 n, .int .i64 g] w (IPost (tsB n g) w) := by
  by_cases hn : 1 ≤ n ∧ n ≤ 24
  · by_cases hg : 1 ≤ g ∧ g ≤ n
    · obtain ⟨N, rfl⟩ : ∃ N : Nat, n = N := ⟨n.toNat, by omega⟩
      have HE : Hid (tsB N g = tsP N g N) := Lib.hid (by unfold tsB; rw [cZ_yes ⟨hn, hg⟩, Int.toNat_natCast])
      obtain ⟨hn1, hn2⟩ := hn
      obtain ⟨hg1, hg2⟩ := hg
      rw [HE.out]
      go_enter Try.func48, Try.ntmps48
      go_wp2_with fail
      refine (in_yes _ _ _ _ hn1 hn2).mono ?_
      rintro e w' ⟨rfl, rfl⟩
      go_wp2_with fail
      refine (in_yes _ _ _ _ hg1 hg2).mono ?_
      rintro e w' ⟨rfl, rfl⟩
      go_wp2
      go_loopw [5, 6] (fun v i wr => ∃ k : Nat, 2 ≤ k ∧ k ≤ 25 ∧ (k ≤ N ∨ k = 2) ∧ i = .int .i64 k ∧ VecAt (tsP N g k) w wr v) (fun _ i _ => 25 - (intOf i).toNat)
      case atStart => exact ⟨2, by omega, by omega, .inr rfl, rfl, by rw [tsP_two]; exact vec_made w⟩
      case round =>
        obtain ⟨k, hk2, hk25, hkN, rfl, av, cv, rfl, hown, hnx, hsz⟩ := hrel
        obtain ⟨L, hL⟩ : ∃ L, tsP N g k = L := ⟨_, rfl⟩
        have hml : L.length ≤ 1048577 := by rw [← hL]; have := tsP_len N g k; omega
        rw [hL] at hown ⊢
        have HL := Lib.hid hL
        have HO1 := Lib.hid hown
        have HN := Lib.hid hnx
        have HZ := Lib.hid hsz
        clear hL hown hnx hsz
        by_cases hlt : k < N
        · go_wp2_with fail
          refine (gen_spec N k g wr (by omega) (by omega) (by omega) (by omega) (by omega) (by omega)).mono ?_
          rintro e w2 hp
          unfold CPost at hp
          by_cases hc : GenC N k g
          · rw [cS_yes hc, cZ_yes hc, cB_yes hc] at hp
            obtain ⟨a2, cap2, rfl, hown2, hb2⟩ := hp
            obtain ⟨X, hX⟩ : ∃ X, genZ N k g = X := ⟨_, rfl⟩
            have hXl : X.length ≤ 24 := by rw [← hX]; exact ok_len (genZ_ok (by omega))
            have HXI : Hid (AllInt X) := Lib.hid (by rw [← hX]; exact ok_int' (genZ_ok (by omega)))
            rw [hX] at hown2 ⊢
            have HX := Lib.hid hX
            have HC := Lib.hid hc
            have HIx := Lib.hid (intsAt_own hown2 HXI.out)
            have HB2 := Lib.hid hb2
            clear hX hc hown2 hb2
            go_wp2_with fail
            refine (csz_spec N a2 X.length cap2 X _ (HIx.out.below (bel1 _ _)) (by omega)).mono ?_
            rintro e w3 ⟨rfl, hb3⟩
            have HB3 := Lib.hid (HB2.out.trans (((bel1 w2 (.cells #[.int .i64 N, .slice a2 X.length cap2] 26)).trans (hb3.mono (by simp))).mono HB2.out.size))
            have HOr := Lib.hid (own_below HO1.out HB3.out)
            have HN3 := Lib.hid (HN.out.trans (HB3.out.mono HZ.out))
            have HZ3 := Lib.hid (Nat.le_trans HZ.out HB3.out.size)
            obtain ⟨z, hz⟩ : ∃ z, csB N X = z := ⟨_, rfl⟩
            have HQ : Hid (tsQ N g k ↔ z ≤ 2) := Lib.hid ⟨fun q => by have := q.2; rwa [HX.out, hz] at this, fun q => ⟨HC.out, by rw [HX.out, hz]; exact q⟩⟩
            rw [hz]
            clear hz hb3
            by_cases h0 : z ≤ 2
            · have hd : decide (z ≤ 2) = true := decide_eq_true h0
              have HY : Hid (tsP N g (k + 1) = L ++ [(k : Int)]) := Lib.hid (by rw [tsP_yes hk2 (HQ.out.2 h0), HL.out])
              go_wp2_with (at_builtin; refine append_int rfl _ _ rfl w.heap.size _ L _ _ HOr.out hml HZ3.out _ rfl rfl rfl ?_; intro a' c' w' hown' hb'; have HO2 := Lib.hid hown'; have HX2 := Lib.hid hb'; clear hown' hb')
              go_roundw
              case rel =>
                refine ⟨k + 1, by omega, by omega, .inl (by omega), by go_num, ?_⟩
                rw [HY.out]
                have := vec_snoc HN3.out HZ3.out HO2.out HX2.out
                simpa using this
              case measure => simp [intOf]; omega
            · have hd : decide (z ≤ 2) = false := decide_eq_false h0
              have HY : Hid (tsP N g (k + 1) = L) := Lib.hid (by rw [tsP_no (fun q => h0 (HQ.out.1 q)), HL.out])
              go_wp2
              go_roundw
              case rel => exact ⟨k + 1, by omega, by omega, .inl (by omega), by go_num, by rw [HY.out]; exact ⟨av, cv, rfl, HOr.out, HN3.out, HZ3.out⟩⟩
              case measure => simp [intOf]; omega
          · rw [cS_no hc, cZ_no hc, cB_no hc] at hp
            obtain ⟨a2, cap2, rfl, hown2, hb2⟩ := hp
            have HY : Hid (tsP N g (k + 1) = L) := Lib.hid (by rw [tsP_no (fun q => hc q.1), HL.out])
            have HB3 := Lib.hid (hb2.trans ((bel1 w2 (.cells #[.int .i64 0, .slice a2 0 cap2] 26)).mono hb2.size))
            have HOr := Lib.hid (own_below HO1.out HB3.out)
            have HN3 := Lib.hid (HN.out.trans (HB3.out.mono HZ.out))
            have HZ3 := Lib.hid (Nat.le_trans HZ.out HB3.out.size)
            clear hc hown2 hb2
            go_wp2
            go_roundw
            case rel => exact ⟨k + 1, by omega, by omega, .inl (by omega), by go_num, by rw [HY.out]; exact ⟨av, cv, rfl, HOr.out, HN3.out, HZ3.out⟩⟩
            case measure => simp [intOf]; omega
        · have HLE : Hid (tsP N g N = L) := Lib.hid (by
            rw [← HL.out]
            by_cases e : k = N
            · rw [e]
            · obtain rfl : k = 2 := by omega
              rw [tsP_two, List.eq_nil_iff_forall_not_mem]
              intro x hx
              have := (tsP_mem.1 hx).1
              omega)
          go_wp2
          go_ret
          rw [HLE.out]
          exact ⟨av, cv, rfl, HO1.out, HN.out⟩
    · have HG := Lib.hid hg
      have HE : Hid (tsB n g = []) := Lib.hid (by unfold tsB; rw [cZ_no (fun q => hg q.2)])
      obtain ⟨hn1, hn2⟩ := hn
      clear hg
      rw [HE.out]
      go_enter Try.func48, Try.ntmps48
      go_wp2_with fail
      refine (in_yes _ _ _ _ hn1 hn2).mono ?_
      rintro e w' ⟨rfl, rfl⟩
      go_wp2_with fail
      refine (in_no _ _ _ _ HG.out).mono ?_
      rintro e w' ⟨rfl, rfl⟩
      go_wp2
      go_ret
      exact ⟨none, 0, rfl, World.ownsRow_nil _ _ _ _, Below.refl _ _⟩
  · have HN := Lib.hid hn
    have HE : Hid (tsB n g = []) := Lib.hid (by unfold tsB; rw [cZ_no (fun q => hn q.1)])
    clear hn
    rw [HE.out]
    go_enter Try.func48, Try.ntmps48
    go_wp2_with fail
    refine (in_no _ _ _ _ HN.out).mono ?_
    rintro e w' ⟨rfl, rfl⟩
    go_wp2
    go_ret
    exact ⟨none, 0, rfl, World.ownsRow_nil _ _ _ _, Below.refl _ _⟩
end Go.Proofs.Ythcmpkhfimapgaa.Rhy
