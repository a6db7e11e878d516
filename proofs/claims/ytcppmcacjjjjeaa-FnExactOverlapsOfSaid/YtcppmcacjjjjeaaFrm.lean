/-
  Helpers of the claims beside this text: plain mathematics: turns and mirrors of a rhythm, its period, its axes.
-/
import Derived.Test.YtcppmcacjjjjeaaPer
namespace Go.Proofs.Ytcppmcacjjjjeaa.Rhy
set_option linter.unusedVariables false

theorem em_sub (a b n : Int) : (a % n - b) % n = (a - b) % n := by rw [Int.sub_emod, Int.emod_emod_of_dvd _ (Int.dvd_refl n), ← Int.sub_emod]
theorem sub_em (a b n : Int) : (a - b % n) % n = (a - b) % n := by rw [Int.sub_emod, Int.emod_emod_of_dvd _ (Int.dvd_refl n), ← Int.sub_emod]
theorem em_add (a b n : Int) : (a % n + b) % n = (a + b) % n := by rw [Int.add_emod, Int.emod_emod_of_dvd _ (Int.dvd_refl n), ← Int.add_emod]
theorem em_self {a n : Int} (h : 0 ≤ a ∧ a < n) : a % n = a := Int.emod_eq_of_lt h.1 h.2
theorem em_bd (a : Int) {n : Int} (h : 1 ≤ n) : 0 ≤ a % n ∧ a % n < n := ⟨Int.emod_nonneg _ (by omega), Int.emod_lt_of_pos _ (by omega)⟩

theorem rot_mem {n : Int} {zs : List Int} (ho : Ok n zs) {k x : Int} : x ∈ rotZ n zs 1 k ↔ (0 ≤ x ∧ x < n) ∧ (x - k) % n ∈ zs := by
  have h1 := ho.1.1
  unfold rotZ mapL remB
  rw [ofZ_mem, List.mem_map]
  constructor
  · rintro ⟨hx, y, hy, e⟩
    have hx' : 0 ≤ x ∧ x < n := by omega
    refine ⟨hx', ?_⟩
    have hb := ok_range ho y hy
    have : (x - k) % n = y := by
      rw [← e, em_sub, show 1 * y + k - k = y by omega]
      exact em_self hb
    rw [this]; exact hy
  · rintro ⟨hx, hy⟩
    refine ⟨by omega, _, hy, ?_⟩
    rw [Int.one_mul, em_add, show x - k + k = x by omega]
    exact em_self hx
theorem mir_mem {n : Int} {zs : List Int} (ho : Ok n zs) {k x : Int} : x ∈ rotZ n zs (-1) k ↔ (0 ≤ x ∧ x < n) ∧ (k - x) % n ∈ zs := by
  have h1 := ho.1.1
  unfold rotZ mapL remB
  rw [ofZ_mem, List.mem_map]
  constructor
  · rintro ⟨hx, y, hy, e⟩
    have hx' : 0 ≤ x ∧ x < n := by omega
    refine ⟨hx', ?_⟩
    have hb := ok_range ho y hy
    have : (k - x) % n = y := by
      rw [← e, sub_em, show k - (-1 * y + k) = y by omega]
      exact em_self hb
    rw [this]; exact hy
  · rintro ⟨hx, hy⟩
    refine ⟨by omega, _, hy, ?_⟩
    have : (-1 * ((k - x) % n) + k) = k - (k - x) % n := by omega
    rw [this, sub_em, show k - (k - x) = x by omega]
    exact em_self hx
theorem rot_ok {n : Int} {zs : List Int} (h : 1 ≤ n ∧ n ≤ 24) (u k : Int) : Ok n (rotZ n zs u k) := by
  refine ok_of h.1 h.2 (ofZ_sorted _ _) fun z hz => ?_
  have := ofZ_mem.1 hz
  omega
/-- Two rhythms with the same beats are one. -/
theorem ok_ext {n : Int} {xs ys : List Int} (hx : Ok n xs) (hy : Ok n ys) (h : ∀ x, 0 ≤ x ∧ x < n → (x ∈ xs ↔ x ∈ ys)) : xs = ys :=
  lt_uniq (ok_sorted hx) (ok_sorted hy) fun x => ⟨fun q => (h x (ok_range hx x q)).1 q, fun q => (h x (ok_range hy x q)).2 q⟩
theorem rot_zero {n : Int} {zs : List Int} (ho : Ok n zs) : rotZ n zs 1 0 = zs := by
  refine ok_ext (rot_ok ho.1 1 0) ho fun x hx => ?_
  rw [rot_mem ho, Int.sub_zero, em_self hx]
  exact ⟨fun q => q.2, fun q => ⟨hx, q⟩⟩
theorem rot_rot {n : Int} {zs : List Int} (ho : Ok n zs) (j k : Int) : rotZ n (rotZ n zs 1 j) 1 k = rotZ n zs 1 (j + k) := by
  refine ok_ext (rot_ok ho.1 _ _) (rot_ok ho.1 _ _) fun x hx => ?_
  rw [rot_mem (rot_ok ho.1 _ _), rot_mem ho, rot_mem ho, em_sub, show x - k - j = x - (j + k) by omega]
  exact ⟨fun q => ⟨hx, q.2.2⟩, fun q => ⟨hx, em_bd _ ho.1.1, q.2⟩⟩
theorem rot_mod {n : Int} {zs : List Int} (ho : Ok n zs) (k : Int) : rotZ n zs 1 (k % n) = rotZ n zs 1 k := by
  refine ok_ext (rot_ok ho.1 _ _) (rot_ok ho.1 _ _) fun x hx => ?_
  rw [rot_mem ho, rot_mem ho, sub_em]
theorem mir_mir {n : Int} {zs : List Int} (ho : Ok n zs) (j k : Int) : rotZ n (rotZ n zs (-1) j) (-1) k = rotZ n zs 1 (k - j) := by
  refine ok_ext (rot_ok ho.1 _ _) (rot_ok ho.1 _ _) fun x hx => ?_
  rw [mir_mem (rot_ok ho.1 _ _), mir_mem ho, rot_mem ho, sub_em, show j - (k - x) = x - (k - j) by omega]
  exact ⟨fun q => ⟨hx, q.2.2⟩, fun q => ⟨hx, em_bd _ ho.1.1, q.2⟩⟩
theorem rot_mir {n : Int} {zs : List Int} (ho : Ok n zs) (j k : Int) : rotZ n (rotZ n zs (-1) j) 1 k = rotZ n zs (-1) (j + k) := by
  refine ok_ext (rot_ok ho.1 _ _) (rot_ok ho.1 _ _) fun x hx => ?_
  rw [rot_mem (rot_ok ho.1 _ _), mir_mem ho, mir_mem ho, sub_em, show j - (x - k) = j + k - x by omega]
  exact ⟨fun q => ⟨hx, q.2.2⟩, fun q => ⟨hx, em_bd _ ho.1.1, q.2⟩⟩
theorem mir_rot {n : Int} {zs : List Int} (ho : Ok n zs) (j k : Int) : rotZ n (rotZ n zs 1 j) (-1) k = rotZ n zs (-1) (k - j) := by
  refine ok_ext (rot_ok ho.1 _ _) (rot_ok ho.1 _ _) fun x hx => ?_
  rw [mir_mem (rot_ok ho.1 _ _), rot_mem ho, mir_mem ho, em_sub, show k - x - j = k - j - x by omega]
  exact ⟨fun q => ⟨hx, q.2.2⟩, fun q => ⟨hx, em_bd _ ho.1.1, q.2⟩⟩

/-- The turns that leave a rhythm as it is. -/
def Fix (n : Int) (zs : List Int) (k : Int) : Prop := rotZ n zs 1 k = zs
theorem fix_zero {n : Int} {zs : List Int} (ho : Ok n zs) : Fix n zs 0 := rot_zero ho
theorem fix_add {n : Int} {zs : List Int} (ho : Ok n zs) {j k : Int} (hj : Fix n zs j) (hk : Fix n zs k) : Fix n zs (j + k) := by
  unfold Fix at *
  rw [← rot_rot ho, hj, hk]
theorem fix_neg {n : Int} {zs : List Int} (ho : Ok n zs) {k : Int} (hk : Fix n zs k) : Fix n zs (-k) := by
  unfold Fix at *
  have := rot_rot ho k (-k)
  rw [hk, show k + -k = 0 by omega, rot_zero ho] at this
  exact this
theorem fix_n {n : Int} {zs : List Int} (ho : Ok n zs) : Fix n zs n := by
  unfold Fix
  rw [← rot_mod ho, Int.emod_self]
  exact rot_zero ho
theorem fix_mulN {n : Int} {zs : List Int} (ho : Ok n zs) {k : Int} (hk : Fix n zs k) (m : Nat) : Fix n zs (k * m) := by
  induction m with
  | zero => simpa using fix_zero ho
  | succ m ih => rw [show k * ((m + 1 : Nat) : Int) = k * m + k by rw [Int.natCast_succ, Int.mul_add, Int.mul_one]]; exact fix_add ho ih hk
theorem fix_mul {n : Int} {zs : List Int} (ho : Ok n zs) {k : Int} (hk : Fix n zs k) (m : Int) : Fix n zs (k * m) := by
  rcases Int.le_total 0 m with h | h
  · have := fix_mulN ho hk m.toNat
    rwa [Int.toNat_of_nonneg h] at this
  · have := fix_neg ho (fix_mulN ho hk (-m).toNat)
    rwa [Int.toNat_of_nonneg (by omega), Int.mul_neg, Int.neg_neg] at this
theorem fix_eq {n : Int} {zs : List Int} (ho : Ok n zs) {j k : Int} : rotZ n zs 1 j = rotZ n zs 1 k ↔ Fix n zs (j - k) := by
  unfold Fix
  constructor
  · intro h
    have h2 := rot_rot ho j (-k)
    rw [h, rot_rot ho, show k + -k = 0 by omega, rot_zero ho] at h2
    rw [show j - k = j + -k by omega]
    exact h2.symm
  · intro h
    have h2 := rot_rot ho (j - k) k
    rw [h, show j - k + k = j by omega] at h2
    exact h2.symm

theorem first_spec (p : Nat → Bool) : ∀ f k, (firstFrom p k f < k + f ∧ p (firstFrom p k f) = true ∨ firstFrom p k f = k + f) ∧ ∀ j, k ≤ j → j < firstFrom p k f → p j = false := by
  intro f
  induction f with
  | zero => intro k; exact ⟨.inr rfl, fun j h1 h2 => by simp [firstFrom] at h2; omega⟩
  | succ f ih =>
    intro k
    simp only [firstFrom]
    by_cases h : p k = true
    · rw [if_pos h]
      exact ⟨.inl ⟨by omega, h⟩, fun j h1 h2 => by omega⟩
    · rw [if_neg h]
      obtain ⟨h1, h2⟩ := ih (k + 1)
      refine ⟨?_, fun j h3 h4 => ?_⟩
      · rcases h1 with h1 | h1
        · exact .inl ⟨by omega, h1.2⟩
        · exact .inr (by omega)
      · by_cases e : j = k
        · subst e; simpa using h
        · exact h2 j (by omega) h4

theorem isRot_iff {n : Int} {zs ys : List Int} {u : Int} {k : Nat} : isRot n zs ys u k = true ↔ rotZ n zs u k = ys := by
  unfold isRot eqB; simp
theorem per_bd (n : Int) (zs : List Int) (h : 1 ≤ n) : 1 ≤ perZ n zs ∧ (perZ n zs : Int) ≤ n := by
  have := first_le (isRot n zs zs 1) (n.toNat - 1) 1
  unfold perZ
  omega
theorem per_fix {n : Int} {zs : List Int} (ho : Ok n zs) : Fix n zs (perZ n zs) := by
  have h1 := ho.1.1
  obtain ⟨h, _⟩ := first_spec (isRot n zs zs 1) (n.toNat - 1) 1
  rcases h with h | h
  · exact isRot_iff.1 h.2
  · have e : (perZ n zs : Int) = n := by unfold perZ; omega
    rw [e]
    exact fix_n ho
theorem per_least {n : Int} {zs : List Int} (ho : Ok n zs) {j : Int} (h1 : 1 ≤ j) (h2 : j < perZ n zs) : ¬ Fix n zs j := by
  intro hf
  obtain ⟨_, h⟩ := first_spec (isRot n zs zs 1) (n.toNat - 1) 1
  have := h j.toNat (by omega) (by unfold perZ at h2; omega)
  have e : isRot n zs zs 1 j.toNat = true := isRot_iff.2 (by rw [Int.toNat_of_nonneg (by omega)]; exact hf)
  rw [e] at this
  cases this
theorem per_dvd {n : Int} {zs : List Int} (ho : Ok n zs) {k : Int} : Fix n zs k ↔ k % (perZ n zs : Int) = 0 := by
  obtain ⟨hp, _⟩ := per_bd n zs ho.1.1
  constructor
  · intro hk
    have h := Int.emod_add_mul_ediv k (perZ n zs)
    have hf : Fix n zs (k % (perZ n zs : Int)) := by
      have := fix_add ho hk (fix_neg ho (fix_mul ho (per_fix ho) (k / (perZ n zs : Int))))
      rwa [show k + -((perZ n zs : Int) * (k / (perZ n zs : Int))) = k % (perZ n zs : Int) by omega] at this
    have hb := em_bd k (n := perZ n zs) (by omega)
    by_cases e : k % (perZ n zs : Int) = 0
    · exact e
    · exact absurd hf (per_least ho (by omega) hb.2)
  · intro h
    have h2 := Int.emod_add_mul_ediv k (perZ n zs)
    have := fix_mul ho (per_fix ho) (k / (perZ n zs : Int))
    rwa [show (perZ n zs : Int) * (k / (perZ n zs : Int)) = k by omega] at this
theorem per_div {n : Int} {zs : List Int} (ho : Ok n zs) : n % (perZ n zs : Int) = 0 := (per_dvd ho).1 (fix_n ho)
theorem per_eq {n : Int} {xs ys : List Int} (hx : Ok n xs) (hy : Ok n ys) (h : ∀ k, Fix n xs k ↔ Fix n ys k) : perZ n xs = perZ n ys := by
  obtain ⟨p1, _⟩ := per_bd n xs hx.1.1
  obtain ⟨q1, _⟩ := per_bd n ys hy.1.1
  rcases Nat.lt_trichotomy (perZ n xs) (perZ n ys) with q | q | q
  · exact absurd ((h _).1 (per_fix hx)) (per_least hy (by omega) (by omega))
  · exact q
  · exact absurd ((h _).2 (per_fix hy)) (per_least hx (by omega) (by omega))
theorem per_rot {n : Int} {zs : List Int} (ho : Ok n zs) (k : Int) : perZ n (rotZ n zs 1 k) = perZ n zs := by
  refine per_eq (rot_ok ho.1 _ _) ho fun j => ?_
  unfold Fix
  rw [rot_rot ho, fix_eq ho, show k + j - k = j by omega]
  rfl
end Go.Proofs.Ytcppmcacjjjjeaa.Rhy
