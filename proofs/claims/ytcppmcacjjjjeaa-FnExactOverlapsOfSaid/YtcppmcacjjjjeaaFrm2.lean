/-
  Helpers of the claims beside this text: plain mathematics: the axes of a rhythm, its last turn in the order of texts, forms.
-/
import Derived.Test.YtcppmcacjjjjeaaFrm
namespace Go.Proofs.Ytcppmcacjjjjeaa.Rhy
set_option linter.unusedVariables false

/-! the axes -/
theorem axis_iff {n : Int} {zs : List Int} (ho : Ok n zs) {j k : Int} (hj : rotZ n zs (-1) j = zs) : rotZ n zs (-1) k = zs ↔ Fix n zs (k - j) := by
  have h := mir_rot ho 0 0
  constructor
  · intro hk
    have h2 := mir_mir ho j k
    rw [hj, hk] at h2
    exact h2.symm
  · intro hf
    have h2 := rot_mir ho j (k - j)
    rw [hj, hf, show j + (k - j) = k by omega] at h2
    exact h2.symm
def axesP (n : Int) (zs : List Int) (k : Nat) : List Int := ((List.range k).map Int.ofNat).filter fun i => eqB (rotZ n zs (-1) i) zs
def axesZ (n : Int) (zs : List Int) : List Int := axesP n zs n.toNat
/-- How many numbers below m go with c, p being the step between them. -/
theorem count_class (p : Nat) (hp : 1 ≤ p) (c : Int) : ∀ q : Nat, (((List.range (p * q)).map Int.ofNat).filter fun i => decide ((i - c) % (p : Int) = 0)).length = q := by
  intro q
  induction q with
  | zero => simp
  | succ q ih =>
    rw [Nat.mul_succ, List.range_add, List.map_append, List.filter_append, List.length_append, ih]
    congr 1
    -- one in each block
    rw [List.map_map]
    have hb := em_bd (c - p * q) (n := p) (by omega)
    have key : ((List.range p).map (Int.ofNat ∘ fun x => p * q + x)).filter (fun i => decide ((i - c) % (p : Int) = 0)) = [((p * q : Nat) : Int) + (c - p * q) % p] := by
      have e : (List.range p).map (Int.ofNat ∘ fun x => p * q + x) = (List.range p).map fun x : Nat => ((p * q : Nat) : Int) + (x : Int) := by
        refine List.map_congr_left fun x _ => ?_
        simp
      rw [e]
      refine lt_uniq ?_ (by simp) fun x => ?_
      · refine List.Pairwise.filter _ ?_
        rw [List.pairwise_map]
        exact List.pairwise_lt_range.imp fun h => by omega
      · rw [List.mem_filter, List.mem_map, List.mem_singleton]
        constructor
        · rintro ⟨⟨j, hj, rfl⟩, h⟩
          rw [List.mem_range] at hj
          have h := of_decide_eq_true h
          have e2 : (((p * q : Nat) : Int) + j - c) = j - (c - p * q) := by rw [Int.natCast_mul]; omega
          rw [e2] at h
          have h3 : ((c - p * q) % (p : Int)) = j := by
            have h4 := em_add (j - (c - p * q)) (c - p * q) p
            rw [h, Int.zero_add, show (j : Int) - (c - p * q) + (c - p * q) = j by omega] at h4
            rw [h4]
            exact em_self (by omega)
          rw [h3]
        · rintro rfl
          refine ⟨⟨((c - p * q) % (p : Int)).toNat, by rw [List.mem_range]; omega, by rw [Int.toNat_of_nonneg hb.1]⟩, ?_⟩
          refine decide_eq_true ?_
          have e2 : (((p * q : Nat) : Int) + (c - p * q) % (p : Int) - c) = (c - p * q) % (p : Int) - (c - p * q) := by rw [Int.natCast_mul]; omega
          rw [e2, em_sub, Int.sub_self, Int.zero_emod]
    rw [key]
    rfl
theorem axes_len {n : Int} {zs : List Int} (ho : Ok n zs) : (axesZ n zs).length = 0 ∨ ((axesZ n zs).length : Int) = n / perZ n zs := by
  by_cases h : axesZ n zs = []
  · left; rw [h]; rfl
  · right
    obtain ⟨j, hj⟩ := List.exists_mem_of_ne_nil _ h
    unfold axesZ axesP at hj
    rw [List.mem_filter] at hj
    have hja : rotZ n zs (-1) j = zs := by simpa [eqB] using hj.2
    obtain ⟨hp, _⟩ := per_bd n zs ho.1.1
    have hd := per_div ho
    have hm := Int.emod_add_mul_ediv n (perZ n zs)
    obtain ⟨q, hq⟩ : ∃ q : Nat, n / (perZ n zs : Int) = q := ⟨(n / (perZ n zs : Int)).toNat, by rw [Int.toNat_of_nonneg]; exact Int.ediv_nonneg (by have := ho.1.1; omega) (by omega)⟩
    have hn : n.toNat = perZ n zs * q := by
      have : n = ((perZ n zs * q : Nat) : Int) := by rw [Int.natCast_mul, ← hq]; omega
      omega
    have e : axesZ n zs = ((List.range (perZ n zs * q)).map Int.ofNat).filter fun i => decide ((i - j) % (perZ n zs : Int) = 0) := by
      unfold axesZ axesP
      rw [hn]
      refine List.filter_congr fun i _ => ?_
      have : (eqB (rotZ n zs (-1) i) zs = true) ↔ ((i - j) % (perZ n zs : Int) = 0) := by
        rw [show (eqB (rotZ n zs (-1) i) zs = true) ↔ rotZ n zs (-1) i = zs by simp [eqB], axis_iff ho hja, per_dvd ho]
      by_cases q : (i - j) % (perZ n zs : Int) = 0
      · rw [this.2 q, decide_eq_true q]
      · rw [decide_eq_false q]
        cases hh : eqB (rotZ n zs (-1) i) zs with
        | false => rfl
        | true => exact absurd (this.1 hh) q
    rw [e, count_class _ hp, hq]
theorem axes_ne {n : Int} {zs : List Int} (ho : Ok n zs) : axesZ n zs ≠ [] ↔ ∃ k, rotZ n zs (-1) k = zs := by
  constructor
  · intro h
    obtain ⟨j, hj⟩ := List.exists_mem_of_ne_nil _ h
    unfold axesZ axesP at hj
    rw [List.mem_filter] at hj
    exact ⟨j, by simpa [eqB] using hj.2⟩
  · rintro ⟨k, hk⟩ h
    have hb := em_bd k ho.1.1
    have hk2 : rotZ n zs (-1) (k % n) = zs := by
      rw [axis_iff ho hk]
      have := fix_mul ho (fix_n ho) (-(k / n))
      have h2 := Int.emod_add_mul_ediv k n
      rwa [show n * -(k / n) = k % n - k by rw [Int.mul_neg]; omega] at this
    have : k % n ∈ axesZ n zs := by
      unfold axesZ axesP
      rw [List.mem_filter, List.mem_map]
      exact ⟨⟨(k % n).toNat, by rw [List.mem_range]; omega, by show ((k % n).toNat : Int) = _; omega⟩, by simp [eqB, hk2]⟩
    rw [h] at this
    cases this
end Go.Proofs.Ytcppmcacjjjjeaa.Rhy
