/-
  Helpers of the claims beside this text: plain mathematics of the program's search for partners: sets of pulses as numbers.
-/
import Derived.Test.YtgmhdmhnedljcaaSma
import Derived.Test.YtgmhdmhnedljcaaObm
namespace Go.Proofs.Ytgmhdmhnedljcaa.Rhy
open Go.RowKit
set_option linter.unusedSimpArgs false
set_option linter.unusedVariables false

/-- A set of pulses as a number. -/
def mkN (n : Nat) (l : List Int) : Nat := l.foldl (fun m b => m ||| 2 ^ (n - 1 - b.toNat)) 0
theorem mkN_nil (n : Nat) : mkN n [] = 0 := rfl
theorem mkN_snoc (n : Nat) (l : List Int) (b : Int) : mkN n (l ++ [b]) = mkN n l ||| 2 ^ (n - 1 - b.toNat) := by unfold mkN; rw [List.foldl_append]; rfl
theorem mkN_bit (n : Nat) (j : Nat) (l : List Int) : (mkN n l).testBit j = true ↔ ∃ b ∈ l, n - 1 - b.toNat = j := by
  unfold mkN
  suffices h : ∀ m : Nat, (l.foldl (fun m b => m ||| 2 ^ (n - 1 - b.toNat)) m).testBit j = true ↔ (m.testBit j = true ∨ ∃ b ∈ l, n - 1 - b.toNat = j) by
    rw [h 0]; simp
  induction l with
  | nil => intro m; simp
  | cons a l ih =>
    intro m
    rw [List.foldl_cons, ih, Nat.testBit_or, Bool.or_eq_true, Nat.testBit_two_pow, decide_eq_true_iff]
    simp only [List.mem_cons, exists_eq_or_imp]
    rw [or_assoc]
/-- All its members are pulses. -/
def InN (n : Nat) (l : List Int) : Prop := ∀ b ∈ l, 0 ≤ b ∧ b < (n : Int)
theorem mkN_has {n : Nat} {l : List Int} (hl : InN n l) {p : Nat} (hp : p < n) : (mkN n l).testBit (n - 1 - p) = true ↔ (p : Int) ∈ l := by
  rw [mkN_bit]
  constructor
  · rintro ⟨b, hb, e⟩
    have := hl b hb
    have : b = (p : Int) := by omega
    rw [← this]; exact hb
  · intro h
    exact ⟨p, h, by omega⟩
theorem mkN_high {n : Nat} {l : List Int} (hn : 1 ≤ n) {j : Nat} (h : (mkN n l).testBit j = true) : j < n := by
  obtain ⟨b, _, e⟩ := (mkN_bit n j l).1 h
  omega
theorem mkN_lt {n : Nat} {l : List Int} (hn : 1 ≤ n) : mkN n l < 2 ^ n := by
  refine Nat.lt_pow_two_of_testBit _ fun j hj => ?_
  cases h : (mkN n l).testBit j with
  | false => rfl
  | true => exact absurd (mkN_high hn h) (by omega)
theorem low_ext {n a b : Nat} (ha : a < 2 ^ n) (hb : b < 2 ^ n) (h : ∀ p, p < n → (a.testBit (n - 1 - p) = true ↔ b.testBit (n - 1 - p) = true)) : a = b := by
  refine Nat.eq_of_testBit_eq fun j => ?_
  by_cases hj : j < n
  · have := h (n - 1 - j) (by omega)
    rw [show n - 1 - (n - 1 - j) = j by omega] at this
    exact Bool.eq_iff_iff.2 this
  · have e1 : 2 ^ n ≤ 2 ^ j := Nat.pow_le_pow_right (by omega) (by omega)
    rw [Nat.testBit_lt_two_pow (Nat.lt_of_lt_of_le ha e1), Nat.testBit_lt_two_pow (Nat.lt_of_lt_of_le hb e1)]
theorem mkN_ext {n : Nat} {l r : List Int} (hn : 1 ≤ n) (hl : InN n l) (hr : InN n r) (h : ∀ x, x ∈ l ↔ x ∈ r) : mkN n l = mkN n r :=
  low_ext (mkN_lt hn) (mkN_lt hn) fun p hp => by rw [mkN_has hl hp, mkN_has hr hp]; exact h _
theorem mkN_or {n : Nat} {l r s : List Int} (hn : 1 ≤ n) (hl : InN n l) (hr : InN n r) (hs : InN n s) (h : ∀ x, x ∈ s ↔ x ∈ l ∨ x ∈ r) : mkN n s = mkN n l ||| mkN n r :=
  low_ext (mkN_lt hn) (Nat.or_lt_two_pow (mkN_lt hn) (mkN_lt hn)) fun p hp => by rw [Nat.testBit_or, Bool.or_eq_true, mkN_has hl hp, mkN_has hr hp, mkN_has hs hp]; exact h _
theorem low_all {n a : Nat} (ha : a < 2 ^ n) : a = 2 ^ n - 1 ↔ ∀ p, p < n → a.testBit (n - 1 - p) = true := by
  constructor
  · rintro rfl p hp
    rw [Nat.testBit_two_pow_sub_one]
    exact decide_eq_true (by omega)
  · intro h
    refine low_ext ha (by have := Nat.two_pow_pos n; omega) fun p hp => ?_
    rw [Nat.testBit_two_pow_sub_one]
    exact ⟨fun _ => decide_eq_true (by omega), fun _ => h p hp⟩
theorem low_apart {n a b : Nat} (ha : a < 2 ^ n) : a &&& b = 0 ↔ ∀ p, p < n → a.testBit (n - 1 - p) = true → b.testBit (n - 1 - p) = false := by
  constructor
  · intro h p hp h1
    have := congrArg (fun z : Nat => z.testBit (n - 1 - p)) h
    simp only [Nat.testBit_and, h1, Bool.true_and, Nat.zero_testBit] at this
    exact this
  · intro h
    refine Nat.eq_of_testBit_eq fun j => ?_
    rw [Nat.testBit_and, Nat.zero_testBit]
    by_cases hj : j < n
    · have := h (n - 1 - j) (by omega)
      rw [show n - 1 - (n - 1 - j) = j by omega] at this
      cases h1 : a.testBit j with
      | false => rfl
      | true => rw [this h1]; rfl
    · have e1 : 2 ^ n ≤ 2 ^ j := Nat.pow_le_pow_right (by omega) (by omega)
      rw [Nat.testBit_lt_two_pow (Nat.lt_of_lt_of_le ha e1)]; rfl
theorem mkN_apart {n : Nat} {l r : List Int} (hn : 1 ≤ n) (hl : InN n l) (hr : InN n r) : mkN n l &&& mkN n r = 0 ↔ ∀ x, x ∈ l → x ∈ r → False := by
  rw [low_apart (mkN_lt hn)]
  constructor
  · intro h x h1 h2
    obtain ⟨p, rfl⟩ : ∃ p : Nat, x = (p : Int) := ⟨x.toNat, by have := hl x h1; omega⟩
    have hp : p < n := by have := hl _ h1; omega
    have := h p hp ((mkN_has hl hp).2 h1)
    rw [(mkN_has hr hp).2 h2] at this
    cases this
  · intro h p hp h1
    cases h2 : (mkN n r).testBit (n - 1 - p) with
    | false => rfl
    | true => exact (h _ ((mkN_has hl hp).1 h1) ((mkN_has hr hp).1 h2)).elim
theorem mkN_bits {n : Nat} {bs : List Int} (hn : 1 ≤ n ∧ n ≤ 24) (ho : Ok n bs) : bitsL n (mkN n bs) = bs := by
  have hi : InN n bs := ok_range ho
  refine lt_uniq (ok_sorted (bits_ok hn.1 hn.2)) (ok_sorted ho) fun x => ?_
  rw [bits_mem]
  constructor
  · rintro ⟨i, h1, rfl, h2⟩
    exact (mkN_has hi h1).1 h2
  · intro h
    have := hi x h
    exact ⟨x.toNat, by omega, by omega, (mkN_has hi (by omega)).2 (by rw [show ((x.toNat : Nat) : Int) = x by omega]; exact h)⟩
/-! ### the search -/
/-- The rhythm turned to a pulse. -/
def trnN (n : Nat) (xs : List Int) (k : Nat) : Nat := mkN n (xs.map fun x => (x + (k : Int)) % (n : Int))
theorem trn_in {n : Nat} (hn : 1 ≤ n) (xs : List Int) (k : Int) : InN n (xs.map fun x => (x + k) % (n : Int)) := by
  intro b hb
  obtain ⟨x, _, rfl⟩ := List.mem_map.1 hb
  exact ⟨Int.emod_nonneg _ (by omega), Int.emod_lt_of_pos _ (by omega)⟩
theorem sum_in {n : Nat} (hn : 1 ≤ n) (xs ys : List Int) : InN n (sumL n xs ys) := fun x hx => sumL_range (n := (n : Int)) (by omega) x hx
/-- What is covered. -/
def covN (n : Nat) (xs bs : List Int) : Nat := mkN n (sumL n xs bs)
theorem sumL_one (n : Int) (xs : List Int) (p : Int) : sumL n xs [p] = xs.map fun x => (x + p) % n := by
  unfold sumL
  induction xs with
  | nil => rfl
  | cons a xs ih => rw [List.flatMap_cons, ih]; rfl
theorem sum_mem_app {n : Int} {xs ys zs : List Int} {x : Int} : x ∈ sumL n xs (ys ++ zs) ↔ x ∈ sumL n xs ys ∨ x ∈ sumL n xs zs := by
  simp only [sumL_mem, List.mem_append]
  constructor
  · rintro ⟨p, hp, q, hq | hq, e⟩
    · exact .inl ⟨p, hp, q, hq, e⟩
    · exact .inr ⟨p, hp, q, hq, e⟩
  · rintro (⟨p, hp, q, hq, e⟩ | ⟨p, hp, q, hq, e⟩)
    · exact ⟨p, hp, q, .inl hq, e⟩
    · exact ⟨p, hp, q, .inr hq, e⟩
theorem sum_count_app (n : Int) (xs ys zs : List Int) (x : Int) : (sumL n xs (ys ++ zs)).count x = (sumL n xs ys).count x + (sumL n xs zs).count x := by
  unfold sumL
  induction xs with
  | nil => rfl
  | cons a xs ih => rw [List.flatMap_cons, List.flatMap_cons, List.flatMap_cons, List.count_append, List.count_append, List.count_append, List.map_append, List.count_append, ih]; omega
theorem cov_snoc {n : Nat} (hn : 1 ≤ n) (xs bs : List Int) (p : Nat) : covN n xs (bs ++ [(p : Int)]) = covN n xs bs ||| trnN n xs p :=
  mkN_or hn (sum_in hn _ _) (trn_in hn _ _) (sum_in hn _ _) fun x => by rw [sum_mem_app, sumL_one]
theorem cov_zero {n : Nat} (xs : List Int) : covN n xs [0] = trnN n xs 0 := by
  unfold covN trnN; rw [sumL_one]; rfl
theorem dir_shift {n : Nat} {xs : List Int} (ho : Ok n xs) (p : Int) : (sumL n xs [p]).Nodup := by
  rw [sumL_one]
  unfold List.Nodup
  rw [List.pairwise_map]
  have hr := ok_range ho
  refine List.Pairwise.imp_of_mem (fun {a b} ha hb hab e => ?_) (ok_sorted ho)
  have h1 := hr a ha
  have h2 := hr b hb
  have h3 := Int.emod_emod_of_dvd (a + p) (Int.dvd_refl (n : Int))
  have h4 : ((a + p) - (b + p)) % (n : Int) = 0 := Int.emod_eq_emod_iff_emod_sub_eq_zero.1 e
  have h5 : (b - a) % (n : Int) = 0 := by
    rw [show (a + p) - (b + p) = -(b - a) by omega] at h4
    exact Int.emod_eq_zero_of_dvd ((Int.dvd_neg).1 (Int.dvd_of_emod_eq_zero h4))
  rw [Int.emod_eq_of_lt (by omega) (by omega)] at h5
  omega
theorem dir_two {n : Nat} {xs bs : List Int} (ho : Ok n xs) (hd : dirC n xs bs) {p : Int} : dirC n xs (bs ++ [p]) ↔ ∀ x, x ∈ sumL n xs bs → x ∈ sumL n xs [p] → False := by
  rw [dir_count]
  constructor
  · intro h x h1 h2
    have h3 := h x
    rw [sum_count_app] at h3
    have := List.count_pos_iff.2 h1
    have := List.count_pos_iff.2 h2
    omega
  · intro h x
    rw [sum_count_app]
    by_cases h1 : x ∈ sumL n xs bs
    · rw [List.count_eq_zero.2 (h x h1)]
      exact dir_count.1 hd x
    · rw [List.count_eq_zero.2 h1, Nat.zero_add]
      exact List.nodup_iff_count.1 (dir_shift ho p) x
theorem fit_iff {n : Nat} {xs bs : List Int} (ho : Ok n xs) (hd : dirC n xs bs) (p : Nat) : covN n xs bs &&& trnN n xs p = 0 ↔ dirC n xs (bs ++ [(p : Int)]) := by
  have hn : 1 ≤ n := by have := ho.1; omega
  rw [dir_two ho hd]
  unfold covN trnN
  rw [mkN_apart hn (sum_in hn _ _) (trn_in hn _ _), sumL_one]
theorem cov_all {n : Nat} {xs bs : List Int} (hn : 1 ≤ n) : covN n xs bs = 2 ^ n - 1 ↔ gapZ n xs bs = [] := by
  unfold covN
  rw [low_all (mkN_lt hn), List.eq_nil_iff_forall_not_mem]
  constructor
  · intro h x hx
    have h1 := gap_mem.1 hx
    obtain ⟨p, rfl⟩ : ∃ p : Nat, x = (p : Int) := ⟨x.toNat, by omega⟩
    exact h1.2 ((mkN_has (sum_in hn _ _) (by omega)).1 (h p (by omega)))
  · intro h p hp
    rw [mkN_has (sum_in hn _ _) hp]
    refine Classical.byContradiction fun hc => h _ (gap_mem.2 ⟨⟨by omega, by omega⟩, hc⟩)
theorem all_iff {n : Nat} {xs bs : List Int} (hn : 1 ≤ n) (hd : dirC n xs bs) : covN n xs bs = 2 ^ n - 1 ↔ tileB n xs bs = true := by
  rw [cov_all hn]
  unfold tileB
  rw [Bool.and_eq_true, decide_eq_true_iff, List.isEmpty_iff]
  exact ⟨fun h => ⟨hd, h⟩, fun h => h.2⟩
/-- All later beats that have room. -/
def reachN (c : Nat) (ts : List Nat) (r : Nat) : Nat := ts.foldl (fun r t => if c &&& t = 0 then r ||| t else r) r
theorem reach_bit {c : Nat} {ts : List Nat} {j : Nat} : ∀ {r : Nat}, (reachN c ts r).testBit j = true ↔ r.testBit j = true ∨ ∃ t ∈ ts, c &&& t = 0 ∧ t.testBit j = true := by
  unfold reachN
  induction ts with
  | nil => intro r; simp
  | cons a ts ih =>
    intro r
    rw [List.foldl_cons, ih]
    by_cases h : c &&& a = 0
    · rw [if_pos h, Nat.testBit_or, Bool.or_eq_true, or_assoc]
      simp [h]
    · rw [if_neg h]
      simp [h]
theorem reach_lt {n c : Nat} {ts : List Nat} (ht : ∀ t ∈ ts, t < 2 ^ n) : ∀ {r : Nat}, r < 2 ^ n → reachN c ts r < 2 ^ n := by
  unfold reachN
  induction ts with
  | nil => intro r h; exact h
  | cons a ts ih =>
    intro r h
    rw [List.foldl_cons]
    refine ih (fun t h1 => ht t (List.mem_cons_of_mem _ h1)) ?_
    by_cases h1 : c &&& a = 0
    · rw [if_pos h1]; exact Nat.or_lt_two_pow h (ht a (by simp))
    · rw [if_neg h1]; exact h
/-- The turned ones from a pulse on. -/
def turnsN (n : Nat) (xs : List Int) : List Nat := (List.range n).map (trnN n xs)
theorem turns_len (n : Nat) (xs : List Int) : (turnsN n xs).length = n := by simp [turnsN]
theorem turns_at {n k : Nat} {xs : List Int} (hk : k < n) : (turnsN n xs)[k]? = some (trnN n xs k) := by simp [turnsN, hk]
theorem turns_drop {n p : Nat} {xs : List Int} {t : Nat} : t ∈ (turnsN n xs).drop p ↔ ∃ k, p ≤ k ∧ k < n ∧ t = trnN n xs k := by
  rw [List.mem_iff_getElem?]
  constructor
  · rintro ⟨i, h⟩
    rw [List.getElem?_drop] at h
    have hl : p + i < n := by
      have := (List.getElem?_eq_some_iff.1 h).1
      rwa [turns_len] at this
    rw [turns_at hl] at h
    exact ⟨p + i, by omega, hl, (Option.some.inj h).symm⟩
  · rintro ⟨k, h1, h2, rfl⟩
    exact ⟨k - p, by rw [List.getElem?_drop, show p + (k - p) = k by omega, turns_at h2]⟩
theorem bars_mem2 {n : Nat} : ∀ {m : Nat} {bs b : List Int}, m ≤ n → b ∈ barsL n m bs → ∃ t, b = bs ++ t ∧ ∀ q ∈ t, ((n - m : Nat) : Int) ≤ q ∧ q < (n : Int)
  | 0, bs, b, _, h => by
    have : b = bs := by simpa [barsL] using h
    exact ⟨[], by simp [this], by simp⟩
  | m + 1, bs, b, hm, h => by
    rw [barsL, List.mem_append] at h
    rcases h with h | h
    · obtain ⟨t, rfl, ht⟩ := bars_mem2 (by omega) h
      refine ⟨_ :: t, by rw [List.append_assoc]; rfl, fun q hq => ?_⟩
      rcases List.mem_cons.1 hq with rfl | hq
      · omega
      · have := ht q hq; omega
    · obtain ⟨t, rfl, ht⟩ := bars_mem2 (by omega) h
      exact ⟨t, rfl, fun q hq => by have := ht q hq; omega⟩
/-- Where a pulse can no longer be covered, there is no partner. -/
theorem may_no {n m : Nat} {xs bs : List Int} (ho : Ok n xs) (hm : m ≤ n) (hd : dirC n xs bs) (h : reachN (covN n xs bs) ((turnsN n xs).drop (n - m)) (covN n xs bs) ≠ 2 ^ n - 1) : (barsL n m bs).filter (tileB n xs) = [] := by
  have hn : 1 ≤ n := by have := ho.1; omega
  rw [List.filter_eq_nil_iff]
  intro b hb ht
  obtain ⟨t, rfl, hq⟩ := bars_mem2 hm hb
  unfold tileB at ht
  rw [Bool.and_eq_true, decide_eq_true_iff, List.isEmpty_iff] at ht
  obtain ⟨hd2, hg⟩ := ht
  refine h ((low_all (reach_lt (fun t h => ?_) (mkN_lt hn))).2 fun p hp => ?_)
  · obtain ⟨k, _, _, rfl⟩ := turns_drop.1 h
    exact mkN_lt hn
  · rw [reach_bit]
    have h1 := (low_all (mkN_lt (l := sumL n xs (bs ++ t)) hn)).1 ((cov_all hn).2 hg) p hp
    rw [mkN_has (sum_in hn _ _) hp, sum_mem_app] at h1
    rcases h1 with h1 | h1
    · exact .inl ((mkN_has (sum_in hn _ _) hp).2 h1)
    · obtain ⟨x, hx, q, hqt, e⟩ := sumL_mem.1 h1
      have hq1 := hq q hqt
      obtain ⟨k, rfl⟩ : ∃ k : Nat, q = (k : Int) := ⟨q.toNat, by omega⟩
      refine .inr ⟨trnN n xs k, turns_drop.2 ⟨k, by omega, by omega, rfl⟩, (fit_iff ho hd k).2 ?_, ?_⟩
      · rw [dir_count] at hd2 ⊢
        intro y
        have h2 := hd2 y
        rw [sum_count_app] at h2 ⊢
        obtain ⟨s1, s2, rfl⟩ := List.append_of_mem hqt
        rw [sum_count_app, show (k : Int) :: s2 = [(k : Int)] ++ s2 from rfl, sum_count_app] at h2
        omega
      · unfold trnN
        rw [mkN_has (trn_in hn _ _) hp]
        exact List.mem_map.2 ⟨x, hx, e⟩
/-- What the search finds from a pulse on. -/
def extL (n : Nat) (xs : List Int) (m : Nat) (bs : List Int) : List (List Int) := (barsL n m bs).filter (tileB n xs)
theorem ext_all {n m : Nat} {xs bs : List Int} (hn : 1 ≤ n) (hx : 1 ≤ xs.length) (hd : dirC n xs bs) (h : covN n xs bs = 2 ^ n - 1) : extL n xs m bs = [bs] :=
  bars_self hn hx ((all_iff hn hd).1 h) m
theorem ext_fit {n m p : Nat} {xs bs : List Int} (hp : n - (m + 1) = p) : extL n xs (m + 1) bs = extL n xs m (bs ++ [(p : Int)]) ++ extL n xs m bs := by
  unfold extL
  rw [barsL, List.filter_append, hp]
theorem ext_not {n m p : Nat} {xs bs : List Int} (ho : Ok n xs) (hp : n - (m + 1) = p) (hd : dirC n xs bs) (h : covN n xs bs &&& trnN n xs p ≠ 0) : extL n xs (m + 1) bs = extL n xs m bs := by
  rw [ext_fit hp, show extL n xs m (bs ++ [(p : Int)]) = [] from bars_none fun t ht => ?_, List.nil_append]
  rw [Bool.eq_false_iff]
  intro hc
  have hn : 1 ≤ n := by have := ho.1; omega
  exact h ((fit_iff ho hd p).2 (dir_less ((tile_len hn).1 hc).1))
theorem ext_part {n : Nat} {xs : List Int} : extL n xs (n - 1) [0] = partL n xs := rfl
theorem trn_pos {n : Nat} {xs : List Int} (hn : 1 ≤ n) (hx : xs ≠ []) (k : Nat) : trnN n xs k ≠ 0 := by
  intro h
  obtain ⟨x, l, rfl⟩ : ∃ x l, xs = x :: l := by cases xs with | nil => exact absurd rfl hx | cons x l => exact ⟨x, l, rfl⟩
  have : (trnN n (x :: l) k).testBit (n - 1 - ((x + k) % (n : Int)).toNat) = true := by
    unfold trnN
    rw [mkN_bit]
    exact ⟨_, List.mem_map.2 ⟨x, by simp, rfl⟩, rfl⟩
  rw [h, Nat.zero_testBit] at this
  cases this
end Go.Proofs.Ytgmhdmhnedljcaa.Rhy
