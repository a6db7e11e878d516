/-
  Helpers of the claims beside this text: plain mathematics: the last turn in the order of texts, forms, the turn that leads to another rhythm.
-/
import Derived.Test.YtcppmcacjjjjeaaFrm2
import Derived.Test.YtcppmcacjjjjeaaLst
namespace Go.Proofs.Ytcppmcacjjjjeaa.Rhy
set_option linter.unusedVariables false

/-- A text as a number: an earlier beat weighs more. -/
def valF (xs : List Int) (k : Nat) : Nat → Nat
  | 0 => 0
  | f + 1 => (if hasB xs k = true then 2 ^ f else 0) + valF xs (k + 1) f
theorem valF_lt (xs : List Int) : ∀ f k, valF xs k f < 2 ^ f := by
  intro f
  induction f with
  | zero => intro k; simp [valF]
  | succ f ih =>
    intro k
    have := ih (k + 1)
    simp only [valF]
    rw [Nat.pow_succ]
    split <;> omega
theorem valF_yes {xs : List Int} {k f : Nat} (h : hasB xs k = true) : valF xs k (f + 1) = 2 ^ f + valF xs (k + 1) f := by simp only [valF]; rw [if_pos h]
theorem valF_no {xs : List Int} {k f : Nat} (h : hasB xs k = false) : valF xs k (f + 1) = valF xs (k + 1) f := by simp only [valF]; rw [if_neg (by rw [h]; simp), Nat.zero_add]
theorem afterF_same {xs ys : List Int} {k f : Nat} (h : hasB xs k = hasB ys k) : afterF xs ys k (f + 1) = afterF xs ys (k + 1) f := by simp only [afterF]; rw [if_pos h]
theorem afterF_diff {xs ys : List Int} {k f : Nat} (h : hasB xs k ≠ hasB ys k) : afterF xs ys k (f + 1) = hasB xs k := by simp only [afterF]; rw [if_neg h]
theorem after_val (xs ys : List Int) : ∀ f k, afterF xs ys k f = true ↔ valF ys k f < valF xs k f := by
  intro f
  induction f with
  | zero => intro k; simp [afterF, valF]
  | succ f ih =>
    intro k
    have h1 := valF_lt xs f (k + 1)
    have h2 := valF_lt ys f (k + 1)
    cases hx : hasB xs k <;> cases hy : hasB ys k
    · rw [afterF_same (by rw [hx, hy]), valF_no hx, valF_no hy]; exact ih (k + 1)
    · rw [afterF_diff (by rw [hx, hy]; simp), valF_no hx, valF_yes hy, hx]
      exact ⟨fun q => absurd q (by simp), fun q => by omega⟩
    · rw [afterF_diff (by rw [hx, hy]; simp), valF_yes hx, valF_no hy, hx]
      exact ⟨fun _ => by omega, fun _ => rfl⟩
    · rw [afterF_same (by rw [hx, hy]), valF_yes hx, valF_yes hy, ih (k + 1)]
      omega
theorem val_inj (xs ys : List Int) : ∀ f k, valF xs k f = valF ys k f → ∀ j, k ≤ j → j < k + f → hasB xs j = hasB ys j := by
  intro f
  induction f with
  | zero => intro k _ j h1 h2; omega
  | succ f ih =>
    intro k h j h1 h2
    have g1 := valF_lt xs f (k + 1)
    have g2 := valF_lt ys f (k + 1)
    have hk : hasB xs k = hasB ys k ∧ valF xs (k + 1) f = valF ys (k + 1) f := by
      cases hx : hasB xs k <;> cases hy : hasB ys k
      · rw [valF_no hx, valF_no hy] at h; exact ⟨rfl, h⟩
      · rw [valF_no hx, valF_yes hy] at h; omega
      · rw [valF_yes hx, valF_no hy] at h; omega
      · rw [valF_yes hx, valF_yes hy] at h; exact ⟨rfl, by omega⟩
    by_cases e : j = k
    · subst e; exact hk.1
    · exact ih (k + 1) hk.2 j (by omega) (by omega)
def valB (n : Int) (xs : List Int) : Nat := valF xs 0 n.toNat
theorem after_iff {n : Nat} {xs ys : List Int} : afterB n xs ys = true ↔ valB n ys < valB n xs := by
  unfold afterB valB
  rw [after_val, Int.toNat_natCast]
theorem val_eq {n : Int} {xs ys : List Int} (hx : Ok n xs) (hy : Ok n ys) (h : valB n xs = valB n ys) : xs = ys := by
  refine ok_ext hx hy fun x hb => ?_
  have := val_inj xs ys n.toNat 0 h x.toNat (by omega) (by omega)
  unfold hasB at this
  rw [Int.toNat_of_nonneg hb.1] at this
  constructor
  · intro q
    have : ys.contains x = true := by rw [← this]; simpa using q
    simpa using this
  · intro q
    have : xs.contains x = true := by rw [this]; simpa using q
    simpa using this

/-- The last of the turns by 0 .. k. -/
def bestP (n : Int) (zs : List Int) : Nat → List Int
  | 0 => rotZ n zs 1 0
  | k + 1 => if afterB n.toNat (rotZ n zs 1 ((k + 1 : Nat) : Int)) (bestP n zs k) then rotZ n zs 1 ((k + 1 : Nat) : Int) else bestP n zs k
def leastZ (n : Int) (zs : List Int) : List Int := bestP n zs (n.toNat - 1)
theorem after_iff' {n : Int} (h : 1 ≤ n) {xs ys : List Int} : afterB n.toNat xs ys = true ↔ valB n ys < valB n xs := by
  have := @after_iff n.toNat xs ys
  rwa [Int.toNat_of_nonneg (by omega)] at this
theorem best_spec {n : Int} {zs : List Int} (ho : Ok n zs) : ∀ k : Nat, (∃ j : Nat, j ≤ k ∧ bestP n zs k = rotZ n zs 1 j) ∧ ∀ j : Nat, j ≤ k → valB n (rotZ n zs 1 j) ≤ valB n (bestP n zs k) := by
  intro k
  induction k with
  | zero => exact ⟨⟨0, by omega, rfl⟩, fun j hj => by
    obtain rfl : j = 0 := (by omega)
    exact Nat.le_refl _⟩
  | succ k ih =>
    obtain ⟨⟨j0, hj0, e0⟩, hm⟩ := ih
    simp only [bestP]
    by_cases h : afterB n.toNat (rotZ n zs 1 ((k + 1 : Nat) : Int)) (bestP n zs k) = true
    · rw [if_pos h]
      have hv := (after_iff' ho.1.1).1 h
      refine ⟨⟨k + 1, Nat.le_refl _, rfl⟩, fun j hj => ?_⟩
      by_cases e : j = k + 1
      · subst e; exact Nat.le_refl _
      · have := hm j (by omega); omega
    · rw [if_neg h]
      refine ⟨⟨j0, by omega, e0⟩, fun j hj => ?_⟩
      by_cases e : j = k + 1
      · subst e
        have : ¬ valB n (bestP n zs k) < valB n (rotZ n zs 1 ((k + 1 : Nat) : Int)) := fun q => h ((after_iff' ho.1.1).2 q)
        omega
      · exact hm j (by omega)
theorem least_mem {n : Int} {zs : List Int} (ho : Ok n zs) : ∃ j : Int, leastZ n zs = rotZ n zs 1 j := by
  obtain ⟨⟨j, _, e⟩, _⟩ := best_spec ho (n.toNat - 1)
  exact ⟨j, e⟩
theorem least_ok {n : Int} {zs : List Int} (ho : Ok n zs) : Ok n (leastZ n zs) := by
  obtain ⟨j, e⟩ := least_mem ho
  rw [e]
  exact rot_ok ho.1 _ _
theorem least_max {n : Int} {zs : List Int} (ho : Ok n zs) (k : Int) : valB n (rotZ n zs 1 k) ≤ valB n (leastZ n zs) := by
  have hb := em_bd k ho.1.1
  have := (best_spec ho (n.toNat - 1)).2 (k % n).toNat (by omega)
  rw [Int.toNat_of_nonneg hb.1, rot_mod ho] at this
  exact this
theorem least_uniq {n : Int} {zs ys : List Int} (ho : Ok n zs) {j : Int} (hj : ys = rotZ n zs 1 j) (h : ∀ k, valB n (rotZ n zs 1 k) ≤ valB n ys) : ys = leastZ n zs := by
  obtain ⟨i, e⟩ := least_mem ho
  refine val_eq (by rw [hj]; exact rot_ok ho.1 _ _) (least_ok ho) ?_
  have h1 := h i
  have h2 := least_max ho j
  rw [← e] at h1
  rw [← hj] at h2
  omega
theorem least_rot {n : Int} {zs : List Int} (ho : Ok n zs) (k : Int) : leastZ n (rotZ n zs 1 k) = leastZ n zs := by
  have hr := rot_ok ho.1 1 k (zs := zs)
  obtain ⟨j, e⟩ := least_mem hr
  rw [rot_rot ho] at e
  refine least_uniq ho e fun i => ?_
  have := least_max hr (i - k)
  rwa [rot_rot ho, show k + (i - k) = i by omega] at this
theorem least_least {n : Int} {zs : List Int} (ho : Ok n zs) : leastZ n (leastZ n zs) = leastZ n zs := by
  obtain ⟨j, e⟩ := least_mem ho
  conv => lhs; rw [e]
  exact least_rot ho j

def formZ (n : Int) (zs : List Int) : List Int := if afterB n.toNat (leastZ n (rotZ n zs (-1) 0)) (leastZ n zs) then leastZ n (rotZ n zs (-1) 0) else leastZ n zs
theorem form_ok {n : Int} {zs : List Int} (ho : Ok n zs) : Ok n (formZ n zs) := by
  unfold formZ
  split
  · exact least_ok (rot_ok ho.1 _ _)
  · exact least_ok ho
theorem form_val {n : Int} {zs : List Int} (ho : Ok n zs) : (formZ n zs = leastZ n zs ∨ formZ n zs = leastZ n (rotZ n zs (-1) 0)) ∧ valB n (leastZ n zs) ≤ valB n (formZ n zs) ∧ valB n (leastZ n (rotZ n zs (-1) 0)) ≤ valB n (formZ n zs) := by
  unfold formZ
  split
  · rename_i h
    have := (after_iff' ho.1.1).1 h
    exact ⟨.inr rfl, by omega, Nat.le_refl _⟩
  · rename_i h
    have : ¬ valB n (leastZ n zs) < valB n (leastZ n (rotZ n zs (-1) 0)) := fun q => h ((after_iff' ho.1.1).2 q)
    exact ⟨.inl rfl, Nat.le_refl _, by omega⟩
theorem form_of {n : Int} {xs ys : List Int} (hx : Ok n xs) (hy : Ok n ys) (h1 : leastZ n xs = leastZ n ys ∨ leastZ n xs = leastZ n (rotZ n ys (-1) 0)) (h2 : leastZ n (rotZ n xs (-1) 0) = leastZ n ys ∨ leastZ n (rotZ n xs (-1) 0) = leastZ n (rotZ n ys (-1) 0))
    (h3 : leastZ n ys = leastZ n xs ∨ leastZ n ys = leastZ n (rotZ n xs (-1) 0)) (h4 : leastZ n (rotZ n ys (-1) 0) = leastZ n xs ∨ leastZ n (rotZ n ys (-1) 0) = leastZ n (rotZ n xs (-1) 0)) : formZ n xs = formZ n ys := by
  obtain ⟨a1, a2, a3⟩ := form_val hx
  obtain ⟨b1, b2, b3⟩ := form_val hy
  refine val_eq (form_ok hx) (form_ok hy) (Nat.le_antisymm ?_ ?_)
  · rcases a1 with e | e <;> rw [e]
    · rcases h1 with q | q <;> rw [q] <;> assumption
    · rcases h2 with q | q <;> rw [q] <;> assumption
  · rcases b1 with e | e <;> rw [e]
    · rcases h3 with q | q <;> rw [q] <;> assumption
    · rcases h4 with q | q <;> rw [q] <;> assumption
theorem form_rot {n : Int} {zs : List Int} (ho : Ok n zs) (k : Int) : formZ n (rotZ n zs 1 k) = formZ n zs := by
  have e1 := least_rot ho k
  have e2 : leastZ n (rotZ n (rotZ n zs 1 k) (-1) 0) = leastZ n (rotZ n zs (-1) 0) := by
    rw [mir_rot ho, show (0 : Int) - k = 0 + -k by omega, ← rot_mir ho, least_rot (rot_ok ho.1 _ _)]
  exact form_of (rot_ok ho.1 _ _) ho (.inl e1) (.inr e2) (.inl e1.symm) (.inr e2.symm)
theorem form_mir {n : Int} {zs : List Int} (ho : Ok n zs) : formZ n (rotZ n zs (-1) 0) = formZ n zs := by
  have e : leastZ n (rotZ n (rotZ n zs (-1) 0) (-1) 0) = leastZ n zs := by rw [mir_mir ho, Int.sub_self, rot_zero ho]
  exact form_of (rot_ok ho.1 _ _) ho (.inr rfl) (.inl e) (.inr e.symm) (.inl rfl)

/-- The least turn from 0 on that leads to ys; -1 if there is none. -/
def rotToZ (n : Int) (zs ys : List Int) : Int := if firstFrom (isRot n zs ys 1) 0 n.toNat < n.toNat then (firstFrom (isRot n zs ys 1) 0 n.toNat : Nat) else -1
theorem rotTo_rot {n : Int} {zs : List Int} (ho : Ok n zs) (k : Int) : rotToZ n zs (rotZ n zs 1 k) = k % perZ n zs := by
  obtain ⟨p1, p2⟩ := per_bd n zs ho.1.1
  have hb := em_bd k (n := perZ n zs) (by omega)
  obtain ⟨h1, h2⟩ := first_spec (isRot n zs (rotZ n zs 1 k) 1) n.toNat 0
  obtain ⟨f, hf⟩ : ∃ f, f = firstFrom (isRot n zs (rotZ n zs 1 k) 1) 0 n.toNat := ⟨_, rfl⟩
  unfold rotToZ
  rw [← hf] at h1 h2 ⊢
  have key : ∀ j : Nat, isRot n zs (rotZ n zs 1 k) 1 j = true ↔ ((j : Int) - k) % (perZ n zs : Int) = 0 := fun j => by rw [isRot_iff, fix_eq ho, per_dvd ho]
  have hr : isRot n zs (rotZ n zs 1 k) 1 (k % (perZ n zs : Int)).toNat = true := by
    rw [key, Int.toNat_of_nonneg hb.1, em_sub, Int.sub_self, Int.zero_emod]
  have hle : f ≤ (k % (perZ n zs : Int)).toNat := by
    rcases Nat.lt_or_ge (k % (perZ n zs : Int)).toNat f with q | q
    · have := h2 _ (by omega) q
      rw [hr] at this; cases this
    · exact q
  have hlt : f < n.toNat := by omega
  rw [if_pos hlt]
  rcases h1 with h1 | h1
  · have h3 := (key f).1 h1.2
    have h4 : k % (perZ n zs : Int) = (f : Int) % (perZ n zs : Int) := by
      have := em_add ((f : Int) - k) k (perZ n zs)
      rw [h3, Int.zero_add, show (f : Int) - k + k = f by omega] at this
      exact this
    rw [h4]
    exact (em_self (by omega)).symm
  · omega
theorem rotTo_no {n : Int} {zs ys : List Int} (ho : Ok n zs) (h : ∀ k : Int, rotZ n zs 1 k ≠ ys) : rotToZ n zs ys = -1 := by
  obtain ⟨h1, h2⟩ := first_spec (isRot n zs ys 1) n.toNat 0
  unfold rotToZ
  rcases h1 with h1 | h1
  · exact absurd (isRot_iff.1 h1.2) (h _)
  · rw [h1, Nat.zero_add, if_neg (Nat.lt_irrefl _)]
theorem rotTo_iff {n : Int} {zs ys : List Int} (ho : Ok n zs) : 0 ≤ rotToZ n zs ys ↔ ∃ k : Int, rotZ n zs 1 k = ys := by
  constructor
  · intro h
    by_cases q : ∃ k : Int, rotZ n zs 1 k = ys
    · exact q
    · rw [rotTo_no ho (fun k e => q ⟨k, e⟩)] at h
      omega
  · rintro ⟨k, rfl⟩
    rw [rotTo_rot ho]
    exact (em_bd k (by have := (per_bd n zs ho.1.1).1; omega)).1
/-- A rhythm and its mirror are turns of each other just if it has axes. -/
theorem mir_axes {n : Int} {zs : List Int} (ho : Ok n zs) : (∃ k : Int, rotZ n zs 1 k = rotZ n zs (-1) 0) ↔ axesZ n zs ≠ [] := by
  rw [axes_ne ho]
  constructor
  · rintro ⟨k, hk⟩
    refine ⟨-k, ?_⟩
    have := rot_mir ho 0 (-k)
    rw [← hk, rot_rot ho, show k + -k = 0 by omega, rot_zero ho, Int.zero_add] at this
    exact this.symm
  · rintro ⟨k, hk⟩
    refine ⟨-k, ?_⟩
    have := rot_mir ho k (-k)
    rw [hk, show k + -k = 0 by omega] at this
    exact this
end Go.Proofs.Ytcppmcacjjjjeaa.Rhy
