/-
  Helpers of the claims beside this text: plain mathematics: turns and mirrors of a rhythm, its period, its axes.
-/
import Derived.Test.YtgmhdmhnedljcaaPer
import Derived.Test.YtgmhdmhnedljcaaLst
namespace Go.Proofs.Ytgmhdmhnedljcaa.Rhy
set_option linter.unusedVariables false

theorem em_sub (a b n : Int) : (a % n - b) % n = (a - b) % n := by rw [Int.sub_emod, Int.emod_emod_of_dvd _ (Int.dvd_refl n), ← Int.sub_emod]
theorem sub_em (a b n : Int) : (a - b % n) % n = (a - b) % n := by rw [Int.sub_emod, Int.emod_emod_of_dvd _ (Int.dvd_refl n), ← Int.sub_emod]
theorem em_add (a b n : Int) : (a % n + b) % n = (a + b) % n := by rw [Int.add_emod, Int.emod_emod_of_dvd _ (Int.dvd_refl n), ← Int.add_emod]
theorem em_self {a n : Int} (h : 0 ≤ a ∧ a < n) : a % n = a := Int.emod_eq_of_lt h.1 h.2
theorem em_bd (a : Int) {n : Int} (h : 1 ≤ n) : 0 ≤ a % n ∧ a % n < n := ⟨Int.emod_nonneg _ (by omega), Int.emod_lt_of_pos _ (by omega)⟩

theorem rot_mem {n : Int} {zs : List Int} (ho : Ok n zs) {k x : Int} : x ∈ rotZ n zs 1 k ↔ (0 ≤ x ∧ x < n) ∧ (x - k) % n ∈ zs := by
  have h1 := ho.1.1
  unfold rotZ mapL remB
  rw [ofZ_mem, List.mem_map]
  constructor
  · rintro ⟨hx, y, hy, e⟩
    have hx' : 0 ≤ x ∧ x < n := by omega
    refine ⟨hx', ?_⟩
    have hb := ok_range ho y hy
    have : (x - k) % n = y := by
      rw [← e, em_sub, show 1 * y + k - k = y by omega]
      exact em_self hb
    rw [this]; exact hy
  · rintro ⟨hx, hy⟩
    refine ⟨by omega, _, hy, ?_⟩
    rw [Int.one_mul, em_add, show x - k + k = x by omega]
    exact em_self hx
theorem mir_mem {n : Int} {zs : List Int} (ho : Ok n zs) {k x : Int} : x ∈ rotZ n zs (-1) k ↔ (0 ≤ x ∧ x < n) ∧ (k - x) % n ∈ zs := by
  have h1 := ho.1.1
  unfold rotZ mapL remB
  rw [ofZ_mem, List.mem_map]
  constructor
  · rintro ⟨hx, y, hy, e⟩
    have hx' : 0 ≤ x ∧ x < n := by omega
    refine ⟨hx', ?_⟩
    have hb := ok_range ho y hy
    have : (k - x) % n = y := by
      rw [← e, sub_em, show k - (-1 * y + k) = y by omega]
      exact em_self hb
    rw [this]; exact hy
  · rintro ⟨hx, hy⟩
    refine ⟨by omega, _, hy, ?_⟩
    have : (-1 * ((k - x) % n) + k) = k - (k - x) % n := by omega
    rw [this, sub_em, show k - (k - x) = x by omega]
    exact em_self hx
theorem rot_ok {n : Int} {zs : List Int} (h : 1 ≤ n ∧ n ≤ 24) (u k : Int) : Ok n (rotZ n zs u k) := by
  refine ok_of h.1 h.2 (ofZ_sorted _ _) fun z hz => ?_
  have := ofZ_mem.1 hz
  omega
/-- Two rhythms with the same beats are one. -/
theorem ok_ext {n : Int} {xs ys : List Int} (hx : Ok n xs) (hy : Ok n ys) (h : ∀ x, 0 ≤ x ∧ x < n → (x ∈ xs ↔ x ∈ ys)) : xs = ys :=
  lt_uniq (ok_sorted hx) (ok_sorted hy) fun x => ⟨fun q => (h x (ok_range hx x q)).1 q, fun q => (h x (ok_range hy x q)).2 q⟩
theorem rot_zero {n : Int} {zs : List Int} (ho : Ok n zs) : rotZ n zs 1 0 = zs := by
  refine ok_ext (rot_ok ho.1 1 0) ho fun x hx => ?_
  rw [rot_mem ho, Int.sub_zero, em_self hx]
  exact ⟨fun q => q.2, fun q => ⟨hx, q⟩⟩
theorem rot_rot {n : Int} {zs : List Int} (ho : Ok n zs) (j k : Int) : rotZ n (rotZ n zs 1 j) 1 k = rotZ n zs 1 (j + k) := by
  refine ok_ext (rot_ok ho.1 _ _) (rot_ok ho.1 _ _) fun x hx => ?_
  rw [rot_mem (rot_ok ho.1 _ _), rot_mem ho, rot_mem ho, em_sub, show x - k - j = x - (j + k) by omega]
  exact ⟨fun q => ⟨hx, q.2.2⟩, fun q => ⟨hx, em_bd _ ho.1.1, q.2⟩⟩
theorem rot_mod {n : Int} {zs : List Int} (ho : Ok n zs) (k : Int) : rotZ n zs 1 (k % n) = rotZ n zs 1 k := by
  refine ok_ext (rot_ok ho.1 _ _) (rot_ok ho.1 _ _) fun x hx => ?_
  rw [rot_mem ho, rot_mem ho, sub_em]
theorem mir_mir {n : Int} {zs : List Int} (ho : Ok n zs) (j k : Int) : rotZ n (rotZ n zs (-1) j) (-1) k = rotZ n zs 1 (k - j) := by
  refine ok_ext (rot_ok ho.1 _ _) (rot_ok ho.1 _ _) fun x hx => ?_
  rw [mir_mem (rot_ok ho.1 _ _), mir_mem ho, rot_mem ho, sub_em, show j - (k - x) = x - (k - j) by omega]
  exact ⟨fun q => ⟨hx, q.2.2⟩, fun q => ⟨hx, em_bd _ ho.1.1, q.2⟩⟩
theorem rot_mir {n : Int} {zs : List Int} (ho : Ok n zs) (j k : Int) : rotZ n (rotZ n zs (-1) j) 1 k = rotZ n zs (-1) (j + k) := by
  refine ok_ext (rot_ok ho.1 _ _) (rot_ok ho.1 _ _) fun x hx => ?_
  rw [rot_mem (rot_ok ho.1 _ _), mir_mem ho, mir_mem ho, sub_em, show j - (x - k) = j + k - x by omega]
  exact ⟨fun q => ⟨hx, q.2.2⟩, fun q => ⟨hx, em_bd _ ho.1.1, q.2⟩⟩
theorem mir_rot {n : Int} {zs : List Int} (ho : Ok n zs) (j k : Int) : rotZ n (rotZ n zs 1 j) (-1) k = rotZ n zs (-1) (k - j) := by
  refine ok_ext (rot_ok ho.1 _ _) (rot_ok ho.1 _ _) fun x hx => ?_
  rw [mir_mem (rot_ok ho.1 _ _), rot_mem ho, mir_mem ho, em_sub, show k - x - j = k - j - x by omega]
  exact ⟨fun q => ⟨hx, q.2.2⟩, fun q => ⟨hx, em_bd _ ho.1.1, q.2⟩⟩

/-- The turns that leave a rhythm as it is. -/
def Fix (n : Int) (zs : List Int) (k : Int) : Prop := rotZ n zs 1 k = zs
theorem fix_zero {n : Int} {zs : List Int} (ho : Ok n zs) : Fix n zs 0 := rot_zero ho
theorem fix_add {n : Int} {zs : List Int} (ho : Ok n zs) {j k : Int} (hj : Fix n zs j) (hk : Fix n zs k) : Fix n zs (j + k) := by
  unfold Fix at *
  rw [← rot_rot ho, hj, hk]
theorem fix_neg {n : Int} {zs : List Int} (ho : Ok n zs) {k : Int} (hk : Fix n zs k) : Fix n zs (-k) := by
  unfold Fix at *
  have := rot_rot ho k (-k)
  rw [hk, show k + -k = 0 by omega, rot_zero ho] at this
  exact this
theorem fix_n {n : Int} {zs : List Int} (ho : Ok n zs) : Fix n zs n := by
  unfold Fix
  rw [← rot_mod ho, Int.emod_self]
  exact rot_zero ho
theorem fix_mulN {n : Int} {zs : List Int} (ho : Ok n zs) {k : Int} (hk : Fix n zs k) (m : Nat) : Fix n zs (k * m) := by
  induction m with
  | zero => simpa using fix_zero ho
  | succ m ih => rw [show k * ((m + 1 : Nat) : Int) = k * m + k by rw [Int.natCast_succ, Int.mul_add, Int.mul_one]]; exact fix_add ho ih hk
theorem fix_mul {n : Int} {zs : List Int} (ho : Ok n zs) {k : Int} (hk : Fix n zs k) (m : Int) : Fix n zs (k * m) := by
  rcases Int.le_total 0 m with h | h
  · have := fix_mulN ho hk m.toNat
    rwa [Int.toNat_of_nonneg h] at this
  · have := fix_neg ho (fix_mulN ho hk (-m).toNat)
    rwa [Int.toNat_of_nonneg (by omega), Int.mul_neg, Int.neg_neg] at this
theorem fix_eq {n : Int} {zs : List Int} (ho : Ok n zs) {j k : Int} : rotZ n zs 1 j = rotZ n zs 1 k ↔ Fix n zs (j - k) := by
  unfold Fix
  constructor
  · intro h
    have h2 := rot_rot ho j (-k)
    rw [h, rot_rot ho, show k + -k = 0 by omega, rot_zero ho] at h2
    rw [show j - k = j + -k by omega]
    exact h2.symm
  · intro h
    have h2 := rot_rot ho (j - k) k
    rw [h, show j - k + k = j by omega] at h2
    exact h2.symm

theorem first_spec (p : Nat → Bool) : ∀ f k, (firstFrom p k f < k + f ∧ p (firstFrom p k f) = true ∨ firstFrom p k f = k + f) ∧ ∀ j, k ≤ j → j < firstFrom p k f → p j = false := by
  intro f
  induction f with
  | zero => intro k; exact ⟨.inr rfl, fun j h1 h2 => by simp [firstFrom] at h2; omega⟩
  | succ f ih =>
    intro k
    simp only [firstFrom]
    by_cases h : p k = true
    · rw [if_pos h]
      exact ⟨.inl ⟨by omega, h⟩, fun j h1 h2 => by omega⟩
    · rw [if_neg h]
      obtain ⟨h1, h2⟩ := ih (k + 1)
      refine ⟨?_, fun j h3 h4 => ?_⟩
      · rcases h1 with h1 | h1
        · exact .inl ⟨by omega, h1.2⟩
        · exact .inr (by omega)
      · by_cases e : j = k
        · subst e; simpa using h
        · exact h2 j (by omega) h4

theorem isRot_iff {n : Int} {zs ys : List Int} {u : Int} {k : Nat} : isRot n zs ys u k = true ↔ rotZ n zs u k = ys := by
  unfold isRot eqB; simp
theorem per_bd (n : Int) (zs : List Int) (h : 1 ≤ n) : 1 ≤ perZ n zs ∧ (perZ n zs : Int) ≤ n := by
  have := first_le (isRot n zs zs 1) (n.toNat - 1) 1
  unfold perZ
  omega
theorem per_fix {n : Int} {zs : List Int} (ho : Ok n zs) : Fix n zs (perZ n zs) := by
  have h1 := ho.1.1
  obtain ⟨h, _⟩ := first_spec (isRot n zs zs 1) (n.toNat - 1) 1
  rcases h with h | h
  · exact isRot_iff.1 h.2
  · have e : (perZ n zs : Int) = n := by unfold perZ; omega
    rw [e]
    exact fix_n ho
theorem per_least {n : Int} {zs : List Int} (ho : Ok n zs) {j : Int} (h1 : 1 ≤ j) (h2 : j < perZ n zs) : ¬ Fix n zs j := by
  intro hf
  obtain ⟨_, h⟩ := first_spec (isRot n zs zs 1) (n.toNat - 1) 1
  have := h j.toNat (by omega) (by unfold perZ at h2; omega)
  have e : isRot n zs zs 1 j.toNat = true := isRot_iff.2 (by rw [Int.toNat_of_nonneg (by omega)]; exact hf)
  rw [e] at this
  cases this
theorem per_dvd {n : Int} {zs : List Int} (ho : Ok n zs) {k : Int} : Fix n zs k ↔ k % (perZ n zs : Int) = 0 := by
  obtain ⟨hp, _⟩ := per_bd n zs ho.1.1
  constructor
  · intro hk
    have h := Int.emod_add_mul_ediv k (perZ n zs)
    have hf : Fix n zs (k % (perZ n zs : Int)) := by
      have := fix_add ho hk (fix_neg ho (fix_mul ho (per_fix ho) (k / (perZ n zs : Int))))
      rwa [show k + -((perZ n zs : Int) * (k / (perZ n zs : Int))) = k % (perZ n zs : Int) by omega] at this
    have hb := em_bd k (n := perZ n zs) (by omega)
    by_cases e : k % (perZ n zs : Int) = 0
    · exact e
    · exact absurd hf (per_least ho (by omega) hb.2)
  · intro h
    have h2 := Int.emod_add_mul_ediv k (perZ n zs)
    have := fix_mul ho (per_fix ho) (k / (perZ n zs : Int))
    rwa [show (perZ n zs : Int) * (k / (perZ n zs : Int)) = k by omega] at this
theorem per_div {n : Int} {zs : List Int} (ho : Ok n zs) : n % (perZ n zs : Int) = 0 := (per_dvd ho).1 (fix_n ho)
theorem per_eq {n : Int} {xs ys : List Int} (hx : Ok n xs) (hy : Ok n ys) (h : ∀ k, Fix n xs k ↔ Fix n ys k) : perZ n xs = perZ n ys := by
  obtain ⟨p1, _⟩ := per_bd n xs hx.1.1
  obtain ⟨q1, _⟩ := per_bd n ys hy.1.1
  rcases Nat.lt_trichotomy (perZ n xs) (perZ n ys) with q | q | q
  · exact absurd ((h _).1 (per_fix hx)) (per_least hy (by omega) (by omega))
  · exact q
  · exact absurd ((h _).2 (per_fix hy)) (per_least hx (by omega) (by omega))
theorem per_rot {n : Int} {zs : List Int} (ho : Ok n zs) (k : Int) : perZ n (rotZ n zs 1 k) = perZ n zs := by
  refine per_eq (rot_ok ho.1 _ _) ho fun j => ?_
  unfold Fix
  rw [rot_rot ho, fix_eq ho, show k + j - k = j by omega]
  rfl
end Go.Proofs.Ytgmhdmhnedljcaa.Rhy

/-
  Helpers of the claims beside this text: plain mathematics: the axes of a rhythm, its last turn in the order of texts, forms.
-/
namespace Go.Proofs.Ytgmhdmhnedljcaa.Rhy
set_option linter.unusedVariables false

/-! the axes -/
theorem axis_iff {n : Int} {zs : List Int} (ho : Ok n zs) {j k : Int} (hj : rotZ n zs (-1) j = zs) : rotZ n zs (-1) k = zs ↔ Fix n zs (k - j) := by
  have h := mir_rot ho 0 0
  constructor
  · intro hk
    have h2 := mir_mir ho j k
    rw [hj, hk] at h2
    exact h2.symm
  · intro hf
    have h2 := rot_mir ho j (k - j)
    rw [hj, hf, show j + (k - j) = k by omega] at h2
    exact h2.symm
def axesP (n : Int) (zs : List Int) (k : Nat) : List Int := ((List.range k).map Int.ofNat).filter fun i => eqB (rotZ n zs (-1) i) zs
def axesZ (n : Int) (zs : List Int) : List Int := axesP n zs n.toNat
/-- How many numbers below m go with c, p being the step between them. -/
theorem count_class (p : Nat) (hp : 1 ≤ p) (c : Int) : ∀ q : Nat, (((List.range (p * q)).map Int.ofNat).filter fun i => decide ((i - c) % (p : Int) = 0)).length = q := by
  intro q
  induction q with
  | zero => simp
  | succ q ih =>
    rw [Nat.mul_succ, List.range_add, List.map_append, List.filter_append, List.length_append, ih]
    congr 1
    -- one in each block
    rw [List.map_map]
    have hb := em_bd (c - p * q) (n := p) (by omega)
    have key : ((List.range p).map (Int.ofNat ∘ fun x => p * q + x)).filter (fun i => decide ((i - c) % (p : Int) = 0)) = [((p * q : Nat) : Int) + (c - p * q) % p] := by
      have e : (List.range p).map (Int.ofNat ∘ fun x => p * q + x) = (List.range p).map fun x : Nat => ((p * q : Nat) : Int) + (x : Int) := by
        refine List.map_congr_left fun x _ => ?_
        simp
      rw [e]
      refine lt_uniq ?_ (by simp) fun x => ?_
      · refine List.Pairwise.filter _ ?_
        rw [List.pairwise_map]
        exact List.pairwise_lt_range.imp fun h => by omega
      · rw [List.mem_filter, List.mem_map, List.mem_singleton]
        constructor
        · rintro ⟨⟨j, hj, rfl⟩, h⟩
          rw [List.mem_range] at hj
          have h := of_decide_eq_true h
          have e2 : (((p * q : Nat) : Int) + j - c) = j - (c - p * q) := by rw [Int.natCast_mul]; omega
          rw [e2] at h
          have h3 : ((c - p * q) % (p : Int)) = j := by
            have h4 := em_add (j - (c - p * q)) (c - p * q) p
            rw [h, Int.zero_add, show (j : Int) - (c - p * q) + (c - p * q) = j by omega] at h4
            rw [h4]
            exact em_self (by omega)
          rw [h3]
        · rintro rfl
          refine ⟨⟨((c - p * q) % (p : Int)).toNat, by rw [List.mem_range]; omega, by rw [Int.toNat_of_nonneg hb.1]⟩, ?_⟩
          refine decide_eq_true ?_
          have e2 : (((p * q : Nat) : Int) + (c - p * q) % (p : Int) - c) = (c - p * q) % (p : Int) - (c - p * q) := by rw [Int.natCast_mul]; omega
          rw [e2, em_sub, Int.sub_self, Int.zero_emod]
    rw [key]
    rfl
theorem axes_len {n : Int} {zs : List Int} (ho : Ok n zs) : (axesZ n zs).length = 0 ∨ ((axesZ n zs).length : Int) = n / perZ n zs := by
  by_cases h : axesZ n zs = []
  · left; rw [h]; rfl
  · right
    obtain ⟨j, hj⟩ := List.exists_mem_of_ne_nil _ h
    unfold axesZ axesP at hj
    rw [List.mem_filter] at hj
    have hja : rotZ n zs (-1) j = zs := by simpa [eqB] using hj.2
    obtain ⟨hp, _⟩ := per_bd n zs ho.1.1
    have hd := per_div ho
    have hm := Int.emod_add_mul_ediv n (perZ n zs)
    obtain ⟨q, hq⟩ : ∃ q : Nat, n / (perZ n zs : Int) = q := ⟨(n / (perZ n zs : Int)).toNat, by rw [Int.toNat_of_nonneg]; exact Int.ediv_nonneg (by have := ho.1.1; omega) (by omega)⟩
    have hn : n.toNat = perZ n zs * q := by
      have : n = ((perZ n zs * q : Nat) : Int) := by rw [Int.natCast_mul, ← hq]; omega
      omega
    have e : axesZ n zs = ((List.range (perZ n zs * q)).map Int.ofNat).filter fun i => decide ((i - j) % (perZ n zs : Int) = 0) := by
      unfold axesZ axesP
      rw [hn]
      refine List.filter_congr fun i _ => ?_
      have : (eqB (rotZ n zs (-1) i) zs = true) ↔ ((i - j) % (perZ n zs : Int) = 0) := by
        rw [show (eqB (rotZ n zs (-1) i) zs = true) ↔ rotZ n zs (-1) i = zs by simp [eqB], axis_iff ho hja, per_dvd ho]
      by_cases q : (i - j) % (perZ n zs : Int) = 0
      · rw [this.2 q, decide_eq_true q]
      · rw [decide_eq_false q]
        cases hh : eqB (rotZ n zs (-1) i) zs with
        | false => rfl
        | true => exact absurd (this.1 hh) q
    rw [e, count_class _ hp, hq]
theorem axes_ne {n : Int} {zs : List Int} (ho : Ok n zs) : axesZ n zs ≠ [] ↔ ∃ k, rotZ n zs (-1) k = zs := by
  constructor
  · intro h
    obtain ⟨j, hj⟩ := List.exists_mem_of_ne_nil _ h
    unfold axesZ axesP at hj
    rw [List.mem_filter] at hj
    exact ⟨j, by simpa [eqB] using hj.2⟩
  · rintro ⟨k, hk⟩ h
    have hb := em_bd k ho.1.1
    have hk2 : rotZ n zs (-1) (k % n) = zs := by
      rw [axis_iff ho hk]
      have := fix_mul ho (fix_n ho) (-(k / n))
      have h2 := Int.emod_add_mul_ediv k n
      rwa [show n * -(k / n) = k % n - k by rw [Int.mul_neg]; omega] at this
    have : k % n ∈ axesZ n zs := by
      unfold axesZ axesP
      rw [List.mem_filter, List.mem_map]
      exact ⟨⟨(k % n).toNat, by rw [List.mem_range]; omega, by show ((k % n).toNat : Int) = _; omega⟩, by simp [eqB, hk2]⟩
    rw [h] at this
    cases this
end Go.Proofs.Ytgmhdmhnedljcaa.Rhy

/-
  Helpers of the claims beside this text: plain mathematics: the last turn in the order of texts, forms, the turn that leads to another rhythm.
-/
namespace Go.Proofs.Ytgmhdmhnedljcaa.Rhy
set_option linter.unusedVariables false

/-- A text as a number: an earlier beat weighs more. -/
def valF (xs : List Int) (k : Nat) : Nat → Nat
  | 0 => 0
  | f + 1 => (if hasB xs k = true then 2 ^ f else 0) + valF xs (k + 1) f
theorem valF_lt (xs : List Int) : ∀ f k, valF xs k f < 2 ^ f := by
  intro f
  induction f with
  | zero => intro k; simp [valF]
  | succ f ih =>
    intro k
    have := ih (k + 1)
    simp only [valF]
    rw [Nat.pow_succ]
    split <;> omega
theorem valF_yes {xs : List Int} {k f : Nat} (h : hasB xs k = true) : valF xs k (f + 1) = 2 ^ f + valF xs (k + 1) f := by simp only [valF]; rw [if_pos h]
theorem valF_no {xs : List Int} {k f : Nat} (h : hasB xs k = false) : valF xs k (f + 1) = valF xs (k + 1) f := by simp only [valF]; rw [if_neg (by rw [h]; simp), Nat.zero_add]
theorem afterF_same {xs ys : List Int} {k f : Nat} (h : hasB xs k = hasB ys k) : afterF xs ys k (f + 1) = afterF xs ys (k + 1) f := by simp only [afterF]; rw [if_pos h]
theorem afterF_diff {xs ys : List Int} {k f : Nat} (h : hasB xs k ≠ hasB ys k) : afterF xs ys k (f + 1) = hasB xs k := by simp only [afterF]; rw [if_neg h]
theorem after_val (xs ys : List Int) : ∀ f k, afterF xs ys k f = true ↔ valF ys k f < valF xs k f := by
  intro f
  induction f with
  | zero => intro k; simp [afterF, valF]
  | succ f ih =>
    intro k
    have h1 := valF_lt xs f (k + 1)
    have h2 := valF_lt ys f (k + 1)
    cases hx : hasB xs k <;> cases hy : hasB ys k
    · rw [afterF_same (by rw [hx, hy]), valF_no hx, valF_no hy]; exact ih (k + 1)
    · rw [afterF_diff (by rw [hx, hy]; simp), valF_no hx, valF_yes hy, hx]
      exact ⟨fun q => absurd q (by simp), fun q => by omega⟩
    · rw [afterF_diff (by rw [hx, hy]; simp), valF_yes hx, valF_no hy, hx]
      exact ⟨fun _ => by omega, fun _ => rfl⟩
    · rw [afterF_same (by rw [hx, hy]), valF_yes hx, valF_yes hy, ih (k + 1)]
      omega
theorem val_inj (xs ys : List Int) : ∀ f k, valF xs k f = valF ys k f → ∀ j, k ≤ j → j < k + f → hasB xs j = hasB ys j := by
  intro f
  induction f with
  | zero => intro k _ j h1 h2; omega
  | succ f ih =>
    intro k h j h1 h2
    have g1 := valF_lt xs f (k + 1)
    have g2 := valF_lt ys f (k + 1)
    have hk : hasB xs k = hasB ys k ∧ valF xs (k + 1) f = valF ys (k + 1) f := by
      cases hx : hasB xs k <;> cases hy : hasB ys k
      · rw [valF_no hx, valF_no hy] at h; exact ⟨rfl, h⟩
      · rw [valF_no hx, valF_yes hy] at h; omega
      · rw [valF_yes hx, valF_no hy] at h; omega
      · rw [valF_yes hx, valF_yes hy] at h; exact ⟨rfl, by omega⟩
    by_cases e : j = k
    · subst e; exact hk.1
    · exact ih (k + 1) hk.2 j (by omega) (by omega)
def valB (n : Int) (xs : List Int) : Nat := valF xs 0 n.toNat
theorem after_iff {n : Nat} {xs ys : List Int} : afterB n xs ys = true ↔ valB n ys < valB n xs := by
  unfold afterB valB
  rw [after_val, Int.toNat_natCast]
theorem val_eq {n : Int} {xs ys : List Int} (hx : Ok n xs) (hy : Ok n ys) (h : valB n xs = valB n ys) : xs = ys := by
  refine ok_ext hx hy fun x hb => ?_
  have := val_inj xs ys n.toNat 0 h x.toNat (by omega) (by omega)
  unfold hasB at this
  rw [Int.toNat_of_nonneg hb.1] at this
  constructor
  · intro q
    have : ys.contains x = true := by rw [← this]; simpa using q
    simpa using this
  · intro q
    have : xs.contains x = true := by rw [this]; simpa using q
    simpa using this

/-- The last of the turns by 0 .. k. -/
def bestP (n : Int) (zs : List Int) : Nat → List Int
  | 0 => rotZ n zs 1 0
  | k + 1 => if afterB n.toNat (rotZ n zs 1 ((k + 1 : Nat) : Int)) (bestP n zs k) then rotZ n zs 1 ((k + 1 : Nat) : Int) else bestP n zs k
def leastZ (n : Int) (zs : List Int) : List Int := bestP n zs (n.toNat - 1)
theorem after_iff' {n : Int} (h : 1 ≤ n) {xs ys : List Int} : afterB n.toNat xs ys = true ↔ valB n ys < valB n xs := by
  have := @after_iff n.toNat xs ys
  rwa [Int.toNat_of_nonneg (by omega)] at this
theorem best_spec {n : Int} {zs : List Int} (ho : Ok n zs) : ∀ k : Nat, (∃ j : Nat, j ≤ k ∧ bestP n zs k = rotZ n zs 1 j) ∧ ∀ j : Nat, j ≤ k → valB n (rotZ n zs 1 j) ≤ valB n (bestP n zs k) := by
  intro k
  induction k with
  | zero => exact ⟨⟨0, by omega, rfl⟩, fun j hj => by
    obtain rfl : j = 0 := (by omega)
    exact Nat.le_refl _⟩
  | succ k ih =>
    obtain ⟨⟨j0, hj0, e0⟩, hm⟩ := ih
    simp only [bestP]
    by_cases h : afterB n.toNat (rotZ n zs 1 ((k + 1 : Nat) : Int)) (bestP n zs k) = true
    · rw [if_pos h]
      have hv := (after_iff' ho.1.1).1 h
      refine ⟨⟨k + 1, Nat.le_refl _, rfl⟩, fun j hj => ?_⟩
      by_cases e : j = k + 1
      · subst e; exact Nat.le_refl _
      · have := hm j (by omega); omega
    · rw [if_neg h]
      refine ⟨⟨j0, by omega, e0⟩, fun j hj => ?_⟩
      by_cases e : j = k + 1
      · subst e
        have : ¬ valB n (bestP n zs k) < valB n (rotZ n zs 1 ((k + 1 : Nat) : Int)) := fun q => h ((after_iff' ho.1.1).2 q)
        omega
      · exact hm j (by omega)
theorem least_mem {n : Int} {zs : List Int} (ho : Ok n zs) : ∃ j : Int, leastZ n zs = rotZ n zs 1 j := by
  obtain ⟨⟨j, _, e⟩, _⟩ := best_spec ho (n.toNat - 1)
  exact ⟨j, e⟩
theorem least_ok {n : Int} {zs : List Int} (ho : Ok n zs) : Ok n (leastZ n zs) := by
  obtain ⟨j, e⟩ := least_mem ho
  rw [e]
  exact rot_ok ho.1 _ _
theorem least_max {n : Int} {zs : List Int} (ho : Ok n zs) (k : Int) : valB n (rotZ n zs 1 k) ≤ valB n (leastZ n zs) := by
  have hb := em_bd k ho.1.1
  have := (best_spec ho (n.toNat - 1)).2 (k % n).toNat (by omega)
  rw [Int.toNat_of_nonneg hb.1, rot_mod ho] at this
  exact this
theorem least_uniq {n : Int} {zs ys : List Int} (ho : Ok n zs) {j : Int} (hj : ys = rotZ n zs 1 j) (h : ∀ k, valB n (rotZ n zs 1 k) ≤ valB n ys) : ys = leastZ n zs := by
  obtain ⟨i, e⟩ := least_mem ho
  refine val_eq (by rw [hj]; exact rot_ok ho.1 _ _) (least_ok ho) ?_
  have h1 := h i
  have h2 := least_max ho j
  rw [← e] at h1
  rw [← hj] at h2
  omega
theorem least_rot {n : Int} {zs : List Int} (ho : Ok n zs) (k : Int) : leastZ n (rotZ n zs 1 k) = leastZ n zs := by
  have hr := rot_ok ho.1 1 k (zs := zs)
  obtain ⟨j, e⟩ := least_mem hr
  rw [rot_rot ho] at e
  refine least_uniq ho e fun i => ?_
  have := least_max hr (i - k)
  rwa [rot_rot ho, show k + (i - k) = i by omega] at this
theorem least_least {n : Int} {zs : List Int} (ho : Ok n zs) : leastZ n (leastZ n zs) = leastZ n zs := by
  obtain ⟨j, e⟩ := least_mem ho
  conv => lhs; rw [e]
  exact least_rot ho j

def formZ (n : Int) (zs : List Int) : List Int := if afterB n.toNat (leastZ n (rotZ n zs (-1) 0)) (leastZ n zs) then leastZ n (rotZ n zs (-1) 0) else leastZ n zs
theorem form_ok {n : Int} {zs : List Int} (ho : Ok n zs) : Ok n (formZ n zs) := by
  unfold formZ
  split
  · exact least_ok (rot_ok ho.1 _ _)
  · exact least_ok ho
theorem form_val {n : Int} {zs : List Int} (ho : Ok n zs) : (formZ n zs = leastZ n zs ∨ formZ n zs = leastZ n (rotZ n zs (-1) 0)) ∧ valB n (leastZ n zs) ≤ valB n (formZ n zs) ∧ valB n (leastZ n (rotZ n zs (-1) 0)) ≤ valB n (formZ n zs) := by
  unfold formZ
  split
  · rename_i h
    have := (after_iff' ho.1.1).1 h
    exact ⟨.inr rfl, by omega, Nat.le_refl _⟩
  · rename_i h
    have : ¬ valB n (leastZ n zs) < valB n (leastZ n (rotZ n zs (-1) 0)) := fun q => h ((after_iff' ho.1.1).2 q)
    exact ⟨.inl rfl, Nat.le_refl _, by omega⟩
theorem form_of {n : Int} {xs ys : List Int} (hx : Ok n xs) (hy : Ok n ys) (h1 : leastZ n xs = leastZ n ys ∨ leastZ n xs = leastZ n (rotZ n ys (-1) 0)) (h2 : leastZ n (rotZ n xs (-1) 0) = leastZ n ys ∨ leastZ n (rotZ n xs (-1) 0) = leastZ n (rotZ n ys (-1) 0))
    (h3 : leastZ n ys = leastZ n xs ∨ leastZ n ys = leastZ n (rotZ n xs (-1) 0)) (h4 : leastZ n (rotZ n ys (-1) 0) = leastZ n xs ∨ leastZ n (rotZ n ys (-1) 0) = leastZ n (rotZ n xs (-1) 0)) : formZ n xs = formZ n ys := by
  obtain ⟨a1, a2, a3⟩ := form_val hx
  obtain ⟨b1, b2, b3⟩ := form_val hy
  refine val_eq (form_ok hx) (form_ok hy) (Nat.le_antisymm ?_ ?_)
  · rcases a1 with e | e <;> rw [e]
    · rcases h1 with q | q <;> rw [q] <;> assumption
    · rcases h2 with q | q <;> rw [q] <;> assumption
  · rcases b1 with e | e <;> rw [e]
    · rcases h3 with q | q <;> rw [q] <;> assumption
    · rcases h4 with q | q <;> rw [q] <;> assumption
theorem form_rot {n : Int} {zs : List Int} (ho : Ok n zs) (k : Int) : formZ n (rotZ n zs 1 k) = formZ n zs := by
  have e1 := least_rot ho k
  have e2 : leastZ n (rotZ n (rotZ n zs 1 k) (-1) 0) = leastZ n (rotZ n zs (-1) 0) := by
    rw [mir_rot ho, show (0 : Int) - k = 0 + -k by omega, ← rot_mir ho, least_rot (rot_ok ho.1 _ _)]
  exact form_of (rot_ok ho.1 _ _) ho (.inl e1) (.inr e2) (.inl e1.symm) (.inr e2.symm)
theorem form_mir {n : Int} {zs : List Int} (ho : Ok n zs) : formZ n (rotZ n zs (-1) 0) = formZ n zs := by
  have e : leastZ n (rotZ n (rotZ n zs (-1) 0) (-1) 0) = leastZ n zs := by rw [mir_mir ho, Int.sub_self, rot_zero ho]
  exact form_of (rot_ok ho.1 _ _) ho (.inr rfl) (.inl e) (.inr e.symm) (.inl rfl)

/-- The least turn from 0 on that leads to ys; -1 if there is none. -/
def rotToZ (n : Int) (zs ys : List Int) : Int := if firstFrom (isRot n zs ys 1) 0 n.toNat < n.toNat then (firstFrom (isRot n zs ys 1) 0 n.toNat : Nat) else -1
theorem rotTo_rot {n : Int} {zs : List Int} (ho : Ok n zs) (k : Int) : rotToZ n zs (rotZ n zs 1 k) = k % perZ n zs := by
  obtain ⟨p1, p2⟩ := per_bd n zs ho.1.1
  have hb := em_bd k (n := perZ n zs) (by omega)
  obtain ⟨h1, h2⟩ := first_spec (isRot n zs (rotZ n zs 1 k) 1) n.toNat 0
  obtain ⟨f, hf⟩ : ∃ f, f = firstFrom (isRot n zs (rotZ n zs 1 k) 1) 0 n.toNat := ⟨_, rfl⟩
  unfold rotToZ
  rw [← hf] at h1 h2 ⊢
  have key : ∀ j : Nat, isRot n zs (rotZ n zs 1 k) 1 j = true ↔ ((j : Int) - k) % (perZ n zs : Int) = 0 := fun j => by rw [isRot_iff, fix_eq ho, per_dvd ho]
  have hr : isRot n zs (rotZ n zs 1 k) 1 (k % (perZ n zs : Int)).toNat = true := by
    rw [key, Int.toNat_of_nonneg hb.1, em_sub, Int.sub_self, Int.zero_emod]
  have hle : f ≤ (k % (perZ n zs : Int)).toNat := by
    rcases Nat.lt_or_ge (k % (perZ n zs : Int)).toNat f with q | q
    · have := h2 _ (by omega) q
      rw [hr] at this; cases this
    · exact q
  have hlt : f < n.toNat := by omega
  rw [if_pos hlt]
  rcases h1 with h1 | h1
  · have h3 := (key f).1 h1.2
    have h4 : k % (perZ n zs : Int) = (f : Int) % (perZ n zs : Int) := by
      have := em_add ((f : Int) - k) k (perZ n zs)
      rw [h3, Int.zero_add, show (f : Int) - k + k = f by omega] at this
      exact this
    rw [h4]
    exact (em_self (by omega)).symm
  · omega
theorem rotTo_no {n : Int} {zs ys : List Int} (ho : Ok n zs) (h : ∀ k : Int, rotZ n zs 1 k ≠ ys) : rotToZ n zs ys = -1 := by
  obtain ⟨h1, h2⟩ := first_spec (isRot n zs ys 1) n.toNat 0
  unfold rotToZ
  rcases h1 with h1 | h1
  · exact absurd (isRot_iff.1 h1.2) (h _)
  · rw [h1, Nat.zero_add, if_neg (Nat.lt_irrefl _)]
theorem rotTo_iff {n : Int} {zs ys : List Int} (ho : Ok n zs) : 0 ≤ rotToZ n zs ys ↔ ∃ k : Int, rotZ n zs 1 k = ys := by
  constructor
  · intro h
    by_cases q : ∃ k : Int, rotZ n zs 1 k = ys
    · exact q
    · rw [rotTo_no ho (fun k e => q ⟨k, e⟩)] at h
      omega
  · rintro ⟨k, rfl⟩
    rw [rotTo_rot ho]
    exact (em_bd k (by have := (per_bd n zs ho.1.1).1; omega)).1
/-- A rhythm and its mirror are turns of each other just if it has axes. -/
theorem mir_axes {n : Int} {zs : List Int} (ho : Ok n zs) : (∃ k : Int, rotZ n zs 1 k = rotZ n zs (-1) 0) ↔ axesZ n zs ≠ [] := by
  rw [axes_ne ho]
  constructor
  · rintro ⟨k, hk⟩
    refine ⟨-k, ?_⟩
    have := rot_mir ho 0 (-k)
    rw [← hk, rot_rot ho, show k + -k = 0 by omega, rot_zero ho, Int.zero_add] at this
    exact this.symm
  · rintro ⟨k, hk⟩
    refine ⟨-k, ?_⟩
    have := rot_mir ho k (-k)
    rw [hk, show k + -k = 0 by omega] at this
    exact this
end Go.Proofs.Ytgmhdmhnedljcaa.Rhy
