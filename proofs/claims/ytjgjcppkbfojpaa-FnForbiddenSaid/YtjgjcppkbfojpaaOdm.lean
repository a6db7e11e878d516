/-
  Helpers of the claims beside this text: plain mathematics: the avoiding bars one after another, opposite pairs, circles.
-/
import Derived.Test.YtjgjcppkbfojpaaPos
import Derived.Test.YtjgjcppkbfojpaaOba
namespace Go.Proofs.Ytjgjcppkbfojpaa.Rhy
open Go.RowKit
set_option linter.unusedVariables false

/-! ### lists and what is left of them -/
theorem take_at {α : Type} {L : List α} {k : Nat} {x : α} (h : L[k]? = some x) : L.take (k + 1) = L.take k ++ [x] := by rw [List.take_add_one, h]; rfl
theorem filt_yes {α : Type} (q : α → Bool) {L : List α} {k : Nat} {x : α} (h : L[k]? = some x) (hq : q x = true) : (L.take (k + 1)).filter q = (L.take k).filter q ++ [x] := by
  rw [take_at h, List.filter_append, List.filter_cons_of_pos hq]; rfl
theorem filt_no {α : Type} (q : α → Bool) {L : List α} {k : Nat} {x : α} (h : L[k]? = some x) (hq : q x = false) : (L.take (k + 1)).filter q = (L.take k).filter q := by
  rw [take_at h, List.filter_append, List.filter_cons_of_neg (by rw [hq]; simp), List.filter_nil, List.append_nil]
theorem filt_at {α : Type} (q : α → Bool) {L : List α} {k : Nat} {x : α} (h : L[k]? = some x) (hq : q x = true) : (L.filter q)[((L.take k).filter q).length]? = some x := by
  have e : L = L.take (k + 1) ++ L.drop (k + 1) := (List.take_append_drop _ _).symm
  have e2 : L.filter q = (L.take k).filter q ++ ([x] ++ (L.drop (k + 1)).filter q) := by
    conv => lhs; rw [e]
    rw [List.filter_append, filt_yes q h hq, List.append_assoc]
  rw [e2, List.getElem?_append_right (Nat.le_refl _), Nat.sub_self]
  rfl
theorem at_lt {α : Type} {L : List α} {k : Nat} {x : α} (h : L[k]? = some x) : k < L.length := by
  rcases Nat.lt_or_ge k L.length with q | q
  · exact q
  · rw [List.getElem?_eq_none q] at h; cases h

/-! ### the avoiding bars, from the greatest one down -/
noncomputable def avdL (n d c : Nat) : List (List Int) := (wthJ n c (2 ^ n)).filter fun X => avB n X d
theorem avd_cnt {n d c : Nat} (hd : 1 ≤ d ∧ d < n) : ∀ j, j ≤ 2 ^ n → cntM n d c (2 ^ n - j) + ((wthJ n c j).filter fun X => avB n X d).length = cntM n d c (2 ^ n)
  | 0, _ => by simp [wthJ]
  | j + 1, h => by
    have ih := avd_cnt (c := c) hd j (by omega)
    obtain ⟨m, hm⟩ : ∃ m, 2 ^ n - 1 - j = m := ⟨_, rfl⟩
    have e : 2 ^ n - j = m + 1 := by omega
    have e2 : 2 ^ n - (j + 1) = m := by omega
    rw [e] at ih
    rw [e2]
    simp only [cntM] at ih
    have hml : m < 2 ^ n := by omega
    have hg := good_avoid (n := n) (d := d) (x := m) hd hml
    by_cases hl : (bitsL n m).length = c
    · rw [wthJ_yes hm hl, List.filter_append, List.length_append]
      by_cases ha : avC n (bitsL n m) d
      · rw [if_pos ⟨hg.2 ha, by rw [← bits_wt]; exact hl⟩] at ih
        rw [List.filter_cons_of_pos (by exact avB_yes ha)]
        simp only [List.filter_nil, List.length_cons, List.length_nil]
        omega
      · rw [if_neg (fun x => ha (hg.1 x.1))] at ih
        rw [List.filter_cons_of_neg (by rw [avB_no ha]; simp)]
        simp only [List.filter_nil, List.length_nil]
        omega
    · rw [wthJ_no hm hl]
      rw [if_neg (fun x => hl (by rw [bits_wt]; exact x.2))] at ih
      omega
theorem avdL_len {n d c : Nat} (hd : 1 ≤ d ∧ d < n) : (avdL n d c).length = cntV n d c := by
  have := avd_cnt (c := c) hd (2 ^ n) (Nat.le_refl _)
  rw [Nat.sub_self] at this
  simp only [cntM, Nat.zero_add] at this
  exact this
theorem wthJ_mem {n c j : Nat} {X : List Int} (h : X ∈ wthJ n c j) : ∃ i, i < j ∧ X = bitsL n (2 ^ n - 1 - i) ∧ X.length = c := by
  unfold wthJ at h
  rw [List.mem_filter, List.mem_map] at h
  obtain ⟨⟨i, hi, rfl⟩, hl⟩ := h
  exact ⟨i, List.mem_range.1 hi, rfl, by simpa using hl⟩
theorem good_zero (n d : Nat) : goodB n d 0 = true := by
  unfold goodB
  rw [Nat.zero_and]
  rfl
/-- The first one is the greatest one. -/
theorem avdL_none {n d c : Nat} (hd : 1 ≤ d ∧ d < n) (h : firstN n d n 0 c = none) : avdL n d c = [] := by
  have hf := first_is n d n 0 c (by rw [Nat.mul_zero]; exact good_zero n d)
  rw [Nat.mul_zero, h] at hf
  unfold avdL
  rw [List.filter_eq_nil_iff]
  intro X hX hq
  obtain ⟨i, hi, rfl, hl⟩ := wthJ_mem hX
  have hp : 2 ^ n - 1 - i < 2 ^ n := by omega
  refine hf _ hp ⟨?_, by rw [← bits_wt]; exact hl⟩
  rw [Nat.zero_add]
  by_cases ha : avC n (bitsL n (2 ^ n - 1 - i)) d
  · exact (good_avoid hd hp).2 ha
  · rw [avB_no ha] at hq; cases hq
theorem avdL_some {n d c z : Nat} (hd : 1 ≤ d ∧ d < n) (h : firstN n d n 0 c = some z) : (avdL n d c)[0]? = some (bitsL n z) ∧ z < 2 ^ n := by
  have hf := first_is n d n 0 c (by rw [Nat.mul_zero]; exact good_zero n d)
  rw [Nat.mul_zero, h] at hf
  obtain ⟨y, hy, hzy, hg, hw, hmx⟩ := hf
  rw [Nat.zero_add] at hzy
  subst hzy
  refine ⟨?_, hy⟩
  obtain ⟨i, hi⟩ : ∃ i, 2 ^ n - 1 - z = i := ⟨_, rfl⟩
  have h0 : (wthJ n c i).filter (fun X => avB n X d) = [] := by
    rw [List.filter_eq_nil_iff]
    intro X hX hq
    obtain ⟨j, hj, rfl, hl⟩ := wthJ_mem hX
    have hp : 2 ^ n - 1 - j < 2 ^ n := by omega
    refine hmx (2 ^ n - 1 - j) (by omega) hp ⟨?_, by rw [← bits_wt]; exact hl⟩
    rw [Nat.zero_add]
    by_cases ha : avC n (bitsL n (2 ^ n - 1 - j)) d
    · exact (good_avoid hd hp).2 ha
    · rw [avB_no ha] at hq; cases hq
  have h1 : (wthJ n c (i + 1)).filter (fun X => avB n X d) = [bitsL n z] := by
    rw [wthJ_yes (show 2 ^ n - 1 - i = z by omega) (by rw [bits_wt]; exact hw), List.filter_append, h0, List.filter_cons_of_pos (by exact avB_yes ((good_avoid hd hy).1 hg))]
    rfl
  have hpre := (wthJ_pre n c (show i + 1 ≤ 2 ^ n by omega)).filter (fun X => avB n X d)
  rw [h1] at hpre
  obtain ⟨t, ht⟩ := hpre
  unfold avdL
  rw [← ht]
  rfl
theorem avdL_ok {n d c k : Nat} {X : List Int} (h : (avdL n d c)[k]? = some X) (hn : 1 ≤ n ∧ n ≤ 24) : Ok n X := by
  have h1 := List.mem_of_getElem? h
  unfold avdL at h1
  rw [List.mem_filter] at h1
  obtain ⟨i, _, rfl, _⟩ := wthJ_mem h1.1
  exact bits_ok hn.1 hn.2

/-! ### opposite pairs -/
theorem asc_map (j : Nat) : ((List.range j).map Int.ofNat).Pairwise (· < ·) := by
  rw [List.pairwise_map]
  exact (List.pairwise_lt_range).imp (fun h => by show ((_ : Nat) : Int) < (_ : Nat); omega)
def opQ (n : Nat) (zs : List Int) (z : Int) : Bool := decide (z < (n / 2 : Nat)) && hasB zs (z + (n / 2 : Nat))
theorem opp_filter {n : Nat} {zs : List Int} (ho : Ok n zs) : zs.filter (opQ n zs) = opP n zs (n / 2) := by
  refine lt_uniq ((ok_sorted ho).filter _) ((asc_map _).filter _) fun x => ?_
  unfold opP
  rw [List.mem_filter, List.mem_filter, List.mem_map]
  constructor
  · rintro ⟨h1, h2⟩
    have hr := ok_range ho x h1
    unfold opQ at h2
    simp only [Bool.and_eq_true, decide_eq_true_eq] at h2
    refine ⟨⟨x.toNat, List.mem_range.2 (by omega), by show ((x.toNat : Nat) : Int) = x; omega⟩, ?_⟩
    unfold opT
    rw [Bool.and_eq_true]
    exact ⟨List.contains_iff_mem.2 h1, h2.2⟩
  · rintro ⟨⟨i, hi, rfl⟩, h2⟩
    unfold opT at h2
    rw [Bool.and_eq_true] at h2
    refine ⟨List.contains_iff_mem.1 h2.1, ?_⟩
    have := List.mem_range.1 hi
    unfold opQ
    simp only [Bool.and_eq_true, decide_eq_true_eq]
    exact ⟨by show (i : Int) < _; omega, h2.2⟩
theorem opp_yes {n : Nat} {zs : List Int} {k : Nat} {z : Int} (h : zs[k]? = some z) (h1 : z < (n / 2 : Nat)) (h2 : hasB zs (z + (n / 2 : Nat)) = true) : (zs.take (k + 1)).filter (opQ n zs) = (zs.take k).filter (opQ n zs) ++ [z] :=
  filt_yes _ h (by unfold opQ; rw [h2, decide_eq_true h1]; rfl)
theorem opp_no {n : Nat} {zs : List Int} {k : Nat} {z : Int} (h : zs[k]? = some z) (h1 : ¬ z < (n / 2 : Nat) ∨ hasB zs (z + (n / 2 : Nat)) = false) : (zs.take (k + 1)).filter (opQ n zs) = (zs.take k).filter (opQ n zs) :=
  filt_no _ h (by
    unfold opQ
    rcases h1 with q | q
    · rw [decide_eq_false q]; rfl
    · rw [q, Bool.and_false])

/-! ### free pulses -/
theorem free_iff {n : Nat} {p d : Int} {zs : List Int} (ho : Ok n zs) (hd : 1 ≤ d ∧ d < n) (hp : 0 ≤ p ∧ p < n) (ha : avC n zs d) : avC n (ofZ n (zs ++ [p])) d ↔ hasB zs ((p + d) % n) = false ∧ hasB zs ((p - d) % n) = false := by
  have hr := ok_range ho
  rw [av_add (zs := zs) hr hd hp (fun x => by have := join_mem (n := (n : Int)) hr hp x; rwa [Int.toNat_natCast] at this)]
  unfold hasB
  simp only [List.contains_eq_mem, decide_eq_false_iff_not]
  exact ⟨fun h => h.2, fun h => ⟨ha, h⟩⟩

/-! ### circles -/
theorem circ_at {n d p i : Nat} (h : i < n / Nat.gcd n d) : (circ n d p)[i]? = some ((p + i * d) % n) := by simp [circ, h]
theorem circ_take {n d p i : Nat} (h : i < n / Nat.gcd n d) : (circ n d p).take (i + 1) = (circ n d p).take i ++ [(p + i * d) % n] := take_at (circ_at h)
def bakB (n d i : Nat) : Bool := Nat.beq i 0 || !(Nat.beq (i * d % n) 0)
def bakAll : Bool := (List.range 23).all fun a => (List.range (a + 1)).all fun b => Nat.beq ((a + 2) / Nat.gcd (a + 2) (b + 1) * (b + 1) % (a + 2)) 0 && (List.range ((a + 2) / Nat.gcd (a + 2) (b + 1))).all fun i => bakB (a + 2) (b + 1) i
theorem bakAll_yes : bakAll = true := by decide +kernel
theorem bak_tab {n d : Nat} (hn : 2 ≤ n ∧ n ≤ 24) (hd : 1 ≤ d ∧ d < n) : n / Nat.gcd n d * d % n = 0 ∧ ∀ i, 0 < i → i < n / Nat.gcd n d → i * d % n ≠ 0 := by
  have e := bakAll_yes
  unfold bakAll at e
  rw [List.all_eq_true] at e
  have e1 := e (n - 2) (List.mem_range.2 (by omega))
  rw [List.all_eq_true] at e1
  have e2 := e1 (d - 1) (List.mem_range.2 (by omega))
  rw [show n - 2 + 2 = n by omega, show d - 1 + 1 = d by omega, Bool.and_eq_true, List.all_eq_true] at e2
  refine ⟨Nat.eq_of_beq_eq_true e2.1, fun i h0 hi hz => ?_⟩
  have e3 := e2.2 i (List.mem_range.2 hi)
  unfold bakB at e3
  rw [hz] at e3
  rw [Bool.or_eq_true] at e3
  rcases e3 with q | q
  · have := Nat.eq_of_beq_eq_true q; omega
  · cases q
theorem turn_back {n p x : Nat} (hp : p < n) : (p + x) % n = p ↔ x % n = 0 := by
  constructor
  · intro h
    have h1 : x % n < n := Nat.mod_lt _ (by omega)
    rw [Nat.add_mod, Nat.mod_eq_of_lt hp] at h
    by_cases q : p + x % n < n
    · rw [Nat.mod_eq_of_lt q] at h; omega
    · rw [Nat.mod_eq_sub_mod (by omega), Nat.mod_eq_of_lt (by omega)] at h; omega
  · intro h
    rw [Nat.add_mod, h, Nat.add_zero, Nat.mod_mod, Nat.mod_eq_of_lt hp]
theorem circ_back {n d p : Nat} (hn : 2 ≤ n ∧ n ≤ 24) (hd : 1 ≤ d ∧ d < n) (hp : p < n) : (p + n / Nat.gcd n d * d) % n = p := (turn_back hp).2 (bak_tab hn hd).1
theorem circ_on {n d p i : Nat} (hn : 2 ≤ n ∧ n ≤ 24) (hd : 1 ≤ d ∧ d < n) (hp : p < n) (h0 : 0 < i) (hi : i < n / Nat.gcd n d) : (p + i * d) % n ≠ p := fun h => (bak_tab hn hd).2 i h0 hi ((turn_back hp).1 h)
theorem circ_next {n d p i : Nat} (hn : 0 < n) : remB (((p + i * d) % n : Nat) + d) n = ((p + (i + 1) * d) % n : Nat) := by
  unfold remB
  rw [Nat.add_mul, Nat.one_mul, ← Nat.add_assoc]
  simp
theorem circs_at {n d k : Nat} (h : k < Nat.gcd n d) : (circs n d)[k]? = some (circ n d k) := by simp [circs, h]
theorem circ_pos {n d : Nat} (hn : 2 ≤ n) (hd : 1 ≤ d ∧ d < n) : 1 ≤ n / Nat.gcd n d := by
  have hg : Nat.gcd n d ≤ n := Nat.gcd_le_left _ (by omega)
  have hg1 : 0 < Nat.gcd n d := Nat.gcd_pos_of_pos_left _ (by omega)
  exact (Nat.le_div_iff_mul_le hg1).2 (by omega)
/-- A circle's pulses as the program's integers. -/
def cirZ (n d p : Nat) : List Int := (circ n d p).map Int.ofNat
def cirsZ (n d : Nat) : List (List Int) := (List.range (Nat.gcd n d)).map (cirZ n d)
theorem cirZ_len (n d p : Nat) : (cirZ n d p).length = n / Nat.gcd n d := by simp [cirZ, circ]
theorem cirsZ_len (n d : Nat) : (cirsZ n d).length = Nat.gcd n d := by simp [cirsZ]
theorem cirsZ_at {n d k : Nat} (h : k < Nat.gcd n d) : (cirsZ n d)[k]? = some (cirZ n d k) := by simp [cirsZ, h]
theorem cirsZ_take {n d k : Nat} (h : k < Nat.gcd n d) : (cirsZ n d).take (k + 1) = (cirsZ n d).take k ++ [cirZ n d k] := take_at (cirsZ_at h)
theorem cirZ_at {n d p i : Nat} (h : i < n / Nat.gcd n d) : (cirZ n d p)[i]? = some (((p + i * d) % n : Nat) : Int) := by
  unfold cirZ
  rw [List.getElem?_map, circ_at h]
  rfl
theorem cirZ_take {n d p i : Nat} (h : i < n / Nat.gcd n d) : (cirZ n d p).take (i + 1) = (cirZ n d p).take i ++ [(((p + i * d) % n : Nat) : Int)] := take_at (cirZ_at h)
theorem cirZ_bd {n d p : Nat} (hn : 0 < n) {x : Int} (h : x ∈ cirZ n d p) : 0 ≤ x ∧ x < n := by
  unfold cirZ circ at h
  rw [List.mem_map] at h
  obtain ⟨y, hy, rfl⟩ := h
  rw [List.mem_map] at hy
  obtain ⟨i, _, rfl⟩ := hy
  have : (p + i * d) % n < n := Nat.mod_lt _ hn
  exact ⟨by show (0 : Int) ≤ ((_ : Nat) : Int); omega, by show ((_ : Nat) : Int) < _; omega⟩
theorem cirZ_int {n d p : Nat} (hn : 0 < n ∧ n ≤ 24) : AllInt (cirZ n d p) := fun x hx => by
  have := cirZ_bd hn.1 hx
  omega
end Go.Proofs.Ytjgjcppkbfojpaa.Rhy
