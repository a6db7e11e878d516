/-
  Helpers of the claims beside this text: plain mathematics: the twins of a rhythm in the order of their texts; four rhythms that the law on twins names.
-/
import Derived.Test.YtjgjcppkbfojpaaTwi
namespace Go.Proofs.Ytjgjcppkbfojpaa.Rhy
set_option linter.unusedVariables false

theorem bits_has {n m k : Nat} (hk : k < n) : hasB (bitsL n m) (k : Int) = true ↔ m / 2 ^ (n - 1 - k) % 2 = 1 := by
  rw [hasB_mem]
  unfold bitsL bitP
  rw [List.mem_map]
  constructor
  · rintro ⟨p, hp, e⟩
    have e2 : p = k := by omega
    subst e2
    simpa using (List.mem_filter.1 hp).2
  · intro h
    exact ⟨k, List.mem_filter.2 ⟨List.mem_range.2 hk, by simpa using h⟩, rfl⟩
theorem val_bits0 (n m : Nat) : ∀ f k, k + f = n → valF (bitsL n m) k f = m % 2 ^ f := by
  intro f
  induction f with
  | zero => intro k _; simp [valF, Nat.mod_one]
  | succ f ih =>
    intro k hk
    have e : n - 1 - k = f := by omega
    have hb := bits_has (m := m) (show k < n by omega)
    rw [e] at hb
    rw [Nat.mod_pow_succ]
    rcases Nat.mod_two_eq_zero_or_one (m / 2 ^ f) with h | h
    · have h2 : hasB (bitsL n m) (k : Int) = false := by
        cases hh : hasB (bitsL n m) (k : Int) with
        | false => rfl
        | true => have := hb.1 hh; omega
      rw [valF_no h2, ih (k + 1) (by omega), h]
      simp
    · rw [valF_yes (hb.2 h), ih (k + 1) (by omega), h]
      omega
theorem val_bits {n m : Nat} (hm : m < 2 ^ n) : valB n (bitsL n m) = m := by
  unfold valB
  rw [show ((n : Int)).toNat = n by omega, val_bits0 n m n 0 (by omega), Nat.mod_eq_of_lt hm]
theorem tw_pair (n : Nat) (zs : List Int) : (twZ n zs).Pairwise (fun x y => valB n y < valB n x) := by
  unfold twZ twJ
  refine List.Pairwise.filter _ ?_
  rw [List.pairwise_map]
  refine List.Pairwise.imp_of_mem ?_ List.pairwise_lt_range
  intro i j hi hj hij
  rw [List.mem_range] at hi hj
  rw [val_bits (by omega), val_bits (by omega)]
  omega
theorem tw_facts {n : Nat} {zs x : List Int} (ho : Ok n zs) (hx : x ∈ twZ n zs) : Ok n x ∧ x.length = zs.length ∧ vecZ n x = vecZ n zs ∧ formZ n x = x ∧ ¬ Form n zs x := by
  unfold twZ twJ at hx
  obtain ⟨h1, h2⟩ := List.mem_filter.1 hx
  rw [List.mem_map] at h1
  obtain ⟨i, hi, rfl⟩ := h1
  have hok : Ok n (bitsL n (2 ^ n - 1 - i)) := bits_ok (by have := ho.1; omega) (by have := ho.1; omega)
  unfold twQ at h2
  rw [Bool.and_eq_true, Bool.and_eq_true, Bool.and_eq_true] at h2
  obtain ⟨q1, q2, q3, q4⟩ := h2
  unfold eqB at q2 q3
  refine ⟨hok, of_decide_eq_true q1, of_decide_eq_true q2, of_decide_eq_true q3, fun hf => ?_⟩
  rw [(afor_form ho hok).2 hf] at q4
  cases q4
/-! four rhythms -/
theorem ok_dec {n : Nat} {zs : List Int} (h1 : 1 ≤ n ∧ n ≤ 24) (h2 : zs.Pairwise (· < ·)) (h3 : ∀ z ∈ zs, 0 ≤ z ∧ z < n) : Ok n zs := ok_of (by omega) (by omega) h2 h3
theorem ok_a : Ok (8 : Nat) [0, 1, 2, 5] := ok_dec (by decide) (by decide) (by decide)
theorem ok_b : Ok (8 : Nat) [0, 1, 3, 4] := ok_dec (by decide) (by decide) (by decide)
theorem ok_maj : Ok (12 : Nat) [0, 2, 4, 5, 7, 9, 11] := ok_dec (by decide) (by decide) (by decide)
theorem ok_fano : Ok (7 : Nat) [0, 1, 3] := ok_dec (by decide) (by decide) (by decide)
theorem ab_vec : vecZ (8 : Nat) [0, 1, 2, 5] = vecZ (8 : Nat) [0, 1, 3, 4] := by kernel_rfl
theorem ab_rot : ∀ k : Fin 8, rotZ (8 : Nat) [0, 1, 2, 5] 1 (k.val : Int) ≠ [0, 1, 3, 4] ∧ rotZ (8 : Nat) [0, 1, 2, 5] (-1) (k.val : Int) ≠ [0, 1, 3, 4] := by decide +kernel
theorem mir_mod {n : Int} {zs : List Int} (ho : Ok n zs) (k : Int) : rotZ n zs (-1) (k % n) = rotZ n zs (-1) k := by
  refine ok_ext (rot_ok ho.1 _ _) (rot_ok ho.1 _ _) fun x hx => ?_
  rw [mir_mem ho, mir_mem ho, em_sub]
theorem ab_not : ¬ Form (8 : Nat) [0, 1, 2, 5] [0, 1, 3, 4] := by
  rintro (⟨k, h⟩ | ⟨k, h⟩)
  · rw [← rot_mod ok_a] at h
    have hb := em_bd k (n := ((8 : Nat) : Int)) (by omega)
    have := (ab_rot ⟨(k % ((8 : Nat) : Int)).toNat, by omega⟩).1
    rw [show (((k % ((8 : Nat) : Int)).toNat : Nat) : Int) = k % ((8 : Nat) : Int) by omega] at this
    exact this h
  · rw [← mir_mod ok_a] at h
    have hb := em_bd k (n := ((8 : Nat) : Int)) (by omega)
    have := (ab_rot ⟨(k % ((8 : Nat) : Int)).toNat, by omega⟩).2
    rw [show (((k % ((8 : Nat) : Int)).toNat : Nat) : Int) = k % ((8 : Nat) : Int) by omega] at this
    exact this h
theorem maj_vec : vecZ (12 : Nat) [0, 2, 4, 5, 7, 9, 11] = [2, 5, 4, 3, 6, 1] := by kernel_rfl
theorem maj_deep : deepB (12 : Nat) [0, 2, 4, 5, 7, 9, 11] = true := by
  refine deepB_yes ⟨ok_maj, ?_⟩
  rw [maj_vec]
  intro j z hj hz _
  have hj6 : j < 6 := hj
  rcases j with _ | _ | _ | _ | _ | _ | j
  all_goals first | (simp at hz; subst hz; decide) | omega
theorem fano_dif : ∀ i : Fin 7, 2 ≤ i.val → difAt (7 : Nat) [0, 1, 3] (i.val : Int) = difAt (7 : Nat) [0, 1, 3] 1 := by decide +kernel
theorem fano_flat : flatB (7 : Nat) [0, 1, 3] = true :=
  flatB_yes ⟨ok_fano, fun i h1 h2 => fano_dif ⟨i, by simpa using h2⟩ h1⟩
end Go.Proofs.Ytjgjcppkbfojpaa.Rhy
