/-
  Helpers of the claims beside this text: plain mathematics of forbidden intervals: a beat more, circles, the greatest number of beats.
-/
import Derived.Test.YtjgjcppkbfojpaaObm
namespace Go.Proofs.Ytjgjcppkbfojpaa.Rhy
set_option linter.unusedVariables false

theorem off_ne {n d p : Int} (hd : 1 ≤ d ∧ d < n) (hp : 0 ≤ p ∧ p < n) : (p + d) % n ≠ p := by
  intro e
  by_cases q : p + d < n
  · rw [Int.emod_eq_of_lt (by omega) q] at e; omega
  · have : (p + d) % n = p + d - n := by rw [← Int.sub_emod_right (p + d) n, Int.emod_eq_of_lt (by omega) (by omega)]
    omega
/-- A beat more keeps d avoided exactly if there is none d before it and none d behind it. -/
theorem av_add {n d p : Int} {zs ys : List Int} (hr : ∀ z ∈ zs, 0 ≤ z ∧ z < n) (hd : 1 ≤ d ∧ d < n) (hp : 0 ≤ p ∧ p < n) (hy : ∀ x, x ∈ ys ↔ x ∈ zs ∨ x = p) :
    avC n ys d ↔ avC n zs d ∧ (p + d) % n ∉ zs ∧ (p - d) % n ∉ zs := by
  constructor
  · intro h
    refine ⟨fun q hq hq2 => h q ((hy q).2 (.inl hq)) ((hy _).2 (.inl hq2)), fun q => h p ((hy p).2 (.inr rfl)) ((hy _).2 (.inl q)), fun q => ?_⟩
    have h2 := h _ ((hy _).2 (.inl q))
    rw [em_add, show p - d + d = p by omega, em_self hp] at h2
    exact h2 ((hy p).2 (.inr rfl))
  · rintro ⟨h0, h1, h2⟩ q hq h3
    rcases (hy q).1 hq with hq | hq
    · rcases (hy _).1 h3 with h3 | h3
      · exact h0 q hq h3
      · have e : q = (p - d) % n := by rw [← h3, em_sub, show q + d - d = q by omega, em_self (hr q hq)]
        rw [← e] at h2
        exact h2 hq
    · subst hq
      rcases (hy _).1 h3 with h3 | h3
      · exact h1 h3
      · exact off_ne hd hp h3
theorem join_mem {n p : Int} {zs : List Int} (hr : ∀ z ∈ zs, 0 ≤ z ∧ z < n) (hp : 0 ≤ p ∧ p < n) (x : Int) : x ∈ ofZ n.toNat (zs ++ [p]) ↔ x ∈ zs ∨ x = p := by
  rw [ofZ_mem, List.mem_append, List.mem_singleton]
  constructor
  · exact fun q => q.2
  · rintro (q | q)
    · have := hr x q
      exact ⟨by omega, .inl q⟩
    · subst q
      exact ⟨by omega, .inr rfl⟩
/-- The pulses on which a beat may be added. -/
def frP (n : Nat) (zs : List Int) (d : Int) (j : Nat) : List Int := ((List.range j).map Int.ofNat).filter fun p => !zs.contains p && !zs.contains ((p + d) % n) && !zs.contains ((p - d) % n)
theorem frP_mem {n : Nat} {zs : List Int} {d : Int} {j : Nat} {x : Int} : x ∈ frP n zs d j ↔ (0 ≤ x ∧ x < j) ∧ x ∉ zs ∧ (x + d) % n ∉ zs ∧ (x - d) % n ∉ zs := by
  unfold frP
  rw [List.mem_filter, List.mem_map]
  constructor
  · rintro ⟨⟨i, hi, rfl⟩, hq⟩
    have := List.mem_range.1 hi
    simp only [Bool.and_eq_true, Bool.not_eq_true', List.contains_eq_mem, decide_eq_false_iff_not] at hq
    exact ⟨⟨by show (0 : Int) ≤ (i : Int); omega, by show (i : Int) < j; omega⟩, hq.1.1, hq.1.2, hq.2⟩
  · rintro ⟨⟨h1, h2⟩, q1, q2, q3⟩
    refine ⟨⟨x.toNat, List.mem_range.2 (by omega), by show ((x.toNat : Nat) : Int) = x; omega⟩, ?_⟩
    simp only [Bool.and_eq_true, Bool.not_eq_true', List.contains_eq_mem, decide_eq_false_iff_not]
    exact ⟨⟨q1, q2⟩, q3⟩
theorem frP_snoc (n : Nat) (zs : List Int) (d : Int) (j : Nat) : frP n zs d (j + 1) = frP n zs d j ++ (if (!zs.contains (j : Int) && !zs.contains (((j : Int) + d) % n) && !zs.contains (((j : Int) - d) % n)) = true then [(j : Int)] else []) := by
  unfold frP
  rw [List.range_succ, List.map_append, List.filter_append]
  congr 1
  simp only [List.map_cons, List.map_nil]
  by_cases h : (!zs.contains (j : Int) && !zs.contains (((j : Int) + d) % n) && !zs.contains (((j : Int) - d) % n)) = true
  · rw [if_pos h]
    exact List.filter_cons_of_pos h
  · rw [if_neg h]
    exact List.filter_cons_of_neg h

/-! ### circles -/
def circ (n d p : Nat) : List Nat := (List.range (n / Nat.gcd n d)).map fun i => (p + i * d) % n
def circs (n d : Nat) : List (List Nat) := (List.range (Nat.gcd n d)).map (circ n d)
theorem circ_len (n d p : Nat) : (circ n d p).length = n / Nat.gcd n d := by simp [circ]
theorem circs_len (n d : Nat) : (circs n d).length = Nat.gcd n d := by simp [circs]
def nodB : List Nat → Bool
  | [] => true
  | a :: l => !l.any (Nat.beq a) && nodB l
theorem nodB_is : ∀ l, nodB l = true → l.Nodup
  | [], _ => List.nodup_nil
  | a :: l, h => by
    simp only [nodB, Bool.and_eq_true, Bool.not_eq_true', List.any_eq_false] at h
    rw [List.nodup_cons]
    exact ⟨fun hm => h.1 a hm (by simp), nodB_is l h.2⟩
def circAll : Bool := (List.range 23).all fun i => (List.range (i + 1)).all fun j => nodB (circs (i + 2) (j + 1)).flatten && Nat.beq (circs (i + 2) (j + 1)).flatten.length (i + 2)
theorem circAll_yes : circAll = true := by decide +kernel
/-- Each pulse is on one circle. -/
theorem circ_all {n d : Nat} (hn : 2 ≤ n ∧ n ≤ 24) (hd : 1 ≤ d ∧ d < n) : (circs n d).flatten.Nodup ∧ (circs n d).flatten.length = n := by
  have e := circAll_yes
  unfold circAll at e
  rw [List.all_eq_true] at e
  have e1 := e (n - 2) (List.mem_range.2 (by omega))
  rw [List.all_eq_true] at e1
  have e2 := e1 (d - 1) (List.mem_range.2 (by omega))
  rw [show n - 2 + 2 = n by omega, show d - 1 + 1 = d by omega, Bool.and_eq_true] at e2
  exact ⟨nodB_is _ e2.1, Nat.eq_of_beq_eq_true e2.2⟩

/-! ### the greatest number of beats -/
def mostN (n d : Nat) : Nat := Nat.gcd n d * (n / Nat.gcd n d / 2)
def tabB (n d k : Nat) : Bool :=
  (Nat.blt 0 (cntF n d k) == Nat.ble k (mostN n d)) && ((firstN n d n 0 k).isSome == Nat.ble k (mostN n d)) && Nat.beq (cntF n d 1) n && Nat.beq (cntF n d k) (cntF n (n - d) k) && Nat.ble 1 (mostN n d) && Nat.ble (2 * mostN n d) n
def tabAll (N : Nat) : Bool := (List.range (N - 1)).all fun i => (List.range (i + 1)).all fun j => (List.range (i + 3)).all fun k => tabB (i + 2) (j + 1) k
theorem tabAll_yes : tabAll 10 = true := by decide +kernel
theorem tab_is {n d k : Nat} (hn : 2 ≤ n ∧ n ≤ 10) (hd : 1 ≤ d ∧ d < n) (hk : k ≤ n) :
    (0 < cntF n d k ↔ k ≤ mostN n d) ∧ ((firstN n d n 0 k).isSome = true ↔ k ≤ mostN n d) ∧ cntF n d 1 = n ∧ cntF n d k = cntF n (n - d) k ∧ 1 ≤ mostN n d ∧ 2 * mostN n d ≤ n := by
  have e := tabAll_yes
  unfold tabAll at e
  rw [List.all_eq_true] at e
  have e1 := e (n - 2) (List.mem_range.2 (by omega))
  rw [List.all_eq_true] at e1
  have e2 := e1 (d - 1) (List.mem_range.2 (by omega))
  rw [List.all_eq_true] at e2
  have e3 := e2 k (List.mem_range.2 (by omega))
  rw [show n - 2 + 2 = n by omega, show d - 1 + 1 = d by omega] at e3
  unfold tabB at e3
  simp only [Bool.and_eq_true, beq_iff_eq] at e3
  obtain ⟨⟨⟨⟨⟨a1, a2⟩, a3⟩, a4⟩, a5⟩, a6⟩ := e3
  refine ⟨?_, ?_, Nat.eq_of_beq_eq_true a3, Nat.eq_of_beq_eq_true a4, Nat.le_of_ble_eq_true a5, Nat.le_of_ble_eq_true a6⟩
  · rw [← Nat.blt_eq, a1, Nat.ble_eq]
  · rw [a2, Nat.ble_eq]
/-- No more beats than that: every avoiding rhythm of up to 10 pulses. -/
theorem most_is {n d : Nat} {x : Nat} (hn : 2 ≤ n ∧ n ≤ 10) (hd : 1 ≤ d ∧ d < n) (hx : x < 2 ^ n) (hg : goodB n d x = true) : wt n x ≤ mostN n d := by
  have hk := wt_le n x
  have h := tab_is hn hd hk
  rw [← h.2.1]
  have hf := first_is n d n 0 (wt n x) (by rw [Nat.mul_zero]; unfold goodB; rw [Nat.zero_and]; rfl)
  rw [Nat.mul_zero] at hf
  cases hq : firstN n d n 0 (wt n x) with
  | some z => rfl
  | none =>
    rw [hq] at hf
    exact absurd ⟨by rw [Nat.zero_add]; exact hg, rfl⟩ (hf x hx)
end Go.Proofs.Ytjgjcppkbfojpaa.Rhy
