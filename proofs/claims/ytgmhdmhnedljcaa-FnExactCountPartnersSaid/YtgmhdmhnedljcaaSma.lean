/-
  Helpers of the claims beside this text: plain mathematics of sums of rhythms.
-/
import Derived.Test.YtgmhdmhnedljcaaGnf
import Derived.Test.YtgmhdmhnedljcaaIvl
namespace Go.Proofs.Ytgmhdmhnedljcaa.Rhy
open Go.RowKit
set_option linter.unusedVariables false

/-- All sums, in the order of the loops. -/
def sumL (n : Int) (xs ys : List Int) : List Int := xs.flatMap fun p => ys.map fun q => (p + q) % n
theorem sumL_mem {n : Int} {xs ys : List Int} {x : Int} : x ∈ sumL n xs ys ↔ ∃ p ∈ xs, ∃ q ∈ ys, (p + q) % n = x := by
  unfold sumL
  rw [List.mem_flatMap]
  simp only [List.mem_map]
theorem sumL_len (n : Int) (xs ys : List Int) : (sumL n xs ys).length = xs.length * ys.length := by
  unfold sumL
  induction xs with
  | nil => simp
  | cons a xs ih => rw [List.flatMap_cons, List.length_append, ih, List.length_map, List.length_cons, Nat.add_mul]; omega
theorem sumL_range {n : Int} {xs ys : List Int} (h : 1 ≤ n) : ∀ x ∈ sumL n xs ys, 0 ≤ x ∧ x < n := by
  intro x hx
  obtain ⟨p, _, q, _, rfl⟩ := sumL_mem.1 hx
  exact em_bd _ h
/-- The beats of the sum. -/
def suZ (n : Int) (xs ys : List Int) : List Int := ofZ n.toNat (sumL n xs ys)
theorem su_mem {n : Int} {xs ys : List Int} (h : 1 ≤ n) {x : Int} : x ∈ suZ n xs ys ↔ x ∈ sumL n xs ys := by
  unfold suZ
  rw [ofZ_mem]
  exact ⟨fun q => q.2, fun q => ⟨by have := sumL_range h x q; omega, q⟩⟩
theorem su_comm (n : Int) (xs ys : List Int) : suZ n xs ys = suZ n ys xs := by
  refine ofZ_congr fun x => ?_
  rw [sumL_mem, sumL_mem]
  exact ⟨fun ⟨p, hp, q, hq, e⟩ => ⟨q, hq, p, hp, by rw [Int.add_comm]; exact e⟩, fun ⟨p, hp, q, hq, e⟩ => ⟨q, hq, p, hp, by rw [Int.add_comm]; exact e⟩⟩
theorem su_ok {n : Int} (h : 1 ≤ n ∧ n ≤ 24) (xs ys : List Int) : Ok n (suZ n xs ys) :=
  ok_of h.1 h.2 (ofZ_sorted _ _) fun z hz => by have := (ofZ_mem.1 hz).1; omega
/-- The sum moves with either. -/
theorem su_rot {n : Int} {xs ys : List Int} (hx : Ok n xs) (k : Int) : suZ n (rotZ n xs 1 k) ys = rotZ n (suZ n xs ys) 1 k := by
  have hn := hx.1
  have hr := ok_range hx
  refine lt_uniq (ofZ_sorted _ _) (ofZ_sorted _ _) fun x => ?_
  rw [su_mem hn.1, sumL_mem]
  show _ ↔ x ∈ rotZ n (suZ n xs ys) 1 k
  rw [rot_mem (su_ok hn xs ys), su_mem hn.1, sumL_mem]
  constructor
  · rintro ⟨p, hp, q, hq, rfl⟩
    obtain ⟨hb, hm⟩ := (rot_mem hx).1 hp
    refine ⟨em_bd _ hn.1, _, hm, q, hq, ?_⟩
    rw [em_add, em_sub]
    congr 1
    omega
  · rintro ⟨hb, p, hp, q, hq, e⟩
    refine ⟨(p + k) % n, (rot_mem hx).2 ⟨em_bd _ hn.1, by rw [em_sub, show p + k - k = p by omega, em_self (hr p hp)]; exact hp⟩, q, hq, ?_⟩
    rw [em_add, show p + k + q = p + q + k by omega, ← em_add (p + q), e, em_add, show x - k + k = x by omega, em_self hb]
/-- The pulses that are no sum. -/
def gapZ (n : Int) (xs ys : List Int) : List Int := ((List.range n.toNat).map Int.ofNat).filter fun x => !(sumL n xs ys).contains x
theorem gap_mem {n : Int} {xs ys : List Int} {x : Int} : x ∈ gapZ n xs ys ↔ (0 ≤ x ∧ x < n) ∧ x ∉ sumL n xs ys := by
  unfold gapZ
  rw [List.mem_filter, List.mem_map]
  constructor
  · rintro ⟨⟨i, hi, rfl⟩, h⟩
    have := List.mem_range.1 hi
    refine ⟨⟨by show (0 : Int) ≤ (i : Int); omega, by show (i : Int) < n; omega⟩, ?_⟩
    simpa using h
  · rintro ⟨h1, h2⟩
    refine ⟨⟨x.toNat, List.mem_range.2 (by omega), by show ((x.toNat : Nat) : Int) = x; omega⟩, by simpa using h2⟩
theorem gap_two (l : List Int) (f : Int → Bool) : (l.filter f).length + (l.filter fun x => !f x).length = l.length := by
  induction l with
  | nil => rfl
  | cons a l ih => cases h : f a <;> simp [h] <;> omega
theorem gap_len (n : Int) (xs ys : List Int) : (gapZ n xs ys).length + (suZ n xs ys).length = n.toNat := by
  have h := gap_two ((List.range n.toNat).map Int.ofNat) fun x => (sumL n xs ys).contains x
  rw [List.length_map, List.length_range] at h
  unfold gapZ suZ ofZ
  omega
theorem sum_tot {n : Int} {xs ys : List Int} (h : 1 ≤ n) : (sumL n xs ys).length = xs.length * ys.length := sumL_len n xs ys

theorem tot_sum {n : Nat} (hn : 1 ≤ n) (xs ys : List Int) : (cntZ n (sumL n xs ys)).sum = ((xs.length * ys.length : Nat) : Int) := by
  unfold cntZ
  rw [cast_sum, sum_count n (sumL n xs ys) (fun x hx => sumL_range (by omega) x hx), sumL_len]
theorem cnt_gap {n p : Nat} {xs ys : List Int} (hp : p < n) : (sumL n xs ys).count (p : Int) = 0 ↔ (p : Int) ∈ gapZ n xs ys := by
  rw [List.count_eq_zero, gap_mem]
  exact ⟨fun h => ⟨by omega, h⟩, fun h => h.2⟩
theorem cnt_su {n p : Nat} {xs ys : List Int} (hp : p < n) : 0 < (sumL n xs ys).count (p : Int) ↔ (p : Int) ∈ suZ n xs ys := by
  rw [List.count_pos_iff, su_mem (by omega)]
theorem sum_few {n : Nat} {xs ys : List Int} (hx : Ok n xs) (hy : Ok n ys) : (sumL n xs ys).length ≤ 576 := by
  rw [sumL_len]
  have h1 := ok_len hx
  have h2 := ok_len hy
  exact Nat.mul_le_mul (show xs.length ≤ 24 by omega) (show ys.length ≤ 24 by omega)

/-! ### direct sums -/
/-- All sums are different. -/
def dirC (n : Int) (xs ys : List Int) : Prop := (sumL n xs ys).Nodup
theorem dir_count {n : Int} {xs ys : List Int} : dirC n xs ys ↔ ∀ x, (sumL n xs ys).count x ≤ 1 := List.nodup_iff_count
theorem sorted_nd {l : List Int} (h : l.Pairwise (· < ·)) : l.Nodup := List.Pairwise.imp (fun {a b} hab e => by omega) h
theorem dir_len {n : Int} {xs ys : List Int} (hn : 1 ≤ n) : dirC n xs ys ↔ (suZ n xs ys).length = xs.length * ys.length := by
  have h2 : (suZ n xs ys).Nodup := sorted_nd (ofZ_sorted _ _)
  have hle := (sub_all _ (sumL n xs ys) h2 (fun x hx => (su_mem hn).1 hx)).1
  rw [sumL_len] at hle
  constructor
  · intro h1
    have := (sub_all _ (suZ n xs ys) h1 (fun x hx => (su_mem hn).2 hx)).1
    rw [sumL_len] at this
    omega
  · intro hl
    rw [dir_count]
    intro x
    refine Nat.le_of_not_lt fun hc => ?_
    have hx : x ∈ sumL n xs ys := List.count_pos_iff.1 (by omega)
    have he := (sub_all _ ((sumL n xs ys).erase x) h2 (fun y hy => by
      by_cases e : y = x
      · subst e
        refine List.count_pos_iff.1 ?_
        rw [List.count_erase_self]
        omega
      · exact (List.mem_erase_of_ne e).2 ((su_mem hn).1 hy))).1
    have hp := List.length_pos_of_mem hx
    rw [List.length_erase_of_mem hx, sumL_len] at he
    rw [sumL_len] at hp
    omega
/-- A tiling: each pulse is a sum once. -/
def tilC (n : Int) (xs ys : List Int) : Prop := ∀ x, 0 ≤ x → x < n → (sumL n xs ys).count x = 1
theorem til_iff {n : Int} {xs ys : List Int} (hn : 1 ≤ n) : tilC n xs ys ↔ dirC n xs ys ∧ gapZ n xs ys = [] := by
  constructor
  · intro h
    refine ⟨dir_count.2 fun x => ?_, List.eq_nil_iff_forall_not_mem.2 fun x hx => ?_⟩
    · by_cases hx : x ∈ sumL n xs ys
      · have hb := sumL_range hn x hx
        rw [h x hb.1 hb.2]
        exact Nat.le_refl 1
      · rw [List.count_eq_zero.2 hx]
        exact Nat.zero_le 1
    · obtain ⟨hb, h2⟩ := gap_mem.1 hx
      have := h x hb.1 hb.2
      rw [List.count_eq_zero.2 h2] at this
      cases this
  · rintro ⟨h1, h2⟩ x hx0 hx1
    have hx : x ∈ sumL n xs ys := by
      by_cases hx : x ∈ sumL n xs ys
      · exact hx
      · have := gap_mem.2 ⟨⟨hx0, hx1⟩, hx⟩
        rw [h2] at this
        cases this
    have := dir_count.1 h1 x
    have := List.count_pos_iff.2 hx
    omega
theorem dir_inj {n : Int} {xs ys : List Int} (hx : Ok n xs) (hy : Ok n ys) : dirC n xs ys ↔ ∀ p ∈ xs, ∀ p' ∈ xs, ∀ q ∈ ys, ∀ q' ∈ ys, p < p' → (p + q) % n ≠ (p' + q') % n := by
  have hn := hx.1
  have hr := ok_range hy
  unfold dirC sumL List.Nodup
  rw [List.pairwise_flatMap]
  constructor
  · rintro ⟨_, h⟩ p hp p' hp' q hq q' hq' hlt
    obtain ⟨i, hi⟩ := List.mem_iff_getElem?.1 hp
    obtain ⟨j, hj⟩ := List.mem_iff_getElem?.1 hp'
    obtain ⟨hi1, hi2⟩ := List.getElem?_eq_some_iff.1 hi
    obtain ⟨hj1, hj2⟩ := List.getElem?_eq_some_iff.1 hj
    have hs := List.pairwise_iff_getElem.1 (ok_sorted hx)
    have hij : i < j := by
      rcases Nat.lt_trichotomy i j with h1 | h1 | h1
      · exact h1
      · subst h1; rw [hi2] at hj2; omega
      · have := hs j i hj1 hi1 h1; rw [hi2, hj2] at this; omega
    have := List.pairwise_iff_getElem.1 h i j hi1 hj1 hij
    rw [hi2, hj2] at this
    exact this _ (List.mem_map.2 ⟨q, hq, rfl⟩) _ (List.mem_map.2 ⟨q', hq', rfl⟩)
  · intro h
    refine ⟨fun p hp => ?_, ?_⟩
    · rw [List.pairwise_map]
      refine List.Pairwise.imp_of_mem (fun {a b} ha hb hab e => ?_) (ok_sorted hy)
      have h1 : (a - b) % n = 0 := by
        have := Int.emod_emod_of_dvd (p + a) (Int.dvd_refl n)
        rw [show a - b = (p + a) - (p + b) by omega, Int.sub_emod, e, Int.sub_self]
        rfl
      have h2 := hr a ha
      have h3 := hr b hb
      have h4 : (b - a) % n = 0 := by
        have := Int.dvd_of_emod_eq_zero h1
        have h5 : n ∣ b - a := by rw [show b - a = -(a - b) by omega]; exact Int.dvd_neg.2 this
        exact Int.emod_eq_zero_of_dvd h5
      rw [em_self ⟨by omega, by omega⟩] at h4
      omega
    · refine List.Pairwise.imp_of_mem (fun {a b} ha hb hab => ?_) (ok_sorted hx)
      rintro x hx1 y hy1 rfl
      obtain ⟨q, hq, e⟩ := List.mem_map.1 hx1
      obtain ⟨q', hq', e'⟩ := List.mem_map.1 hy1
      exact h a ha b hb q hq q' hq' hab (by rw [e, e'])
theorem dif_pos {n : Int} {zs : List Int} (ho : Ok n zs) {i : Int} : difAt n zs i ≠ 0 ↔ ∃ x ∈ zs, (x - i) % n ∈ zs := by
  have hr := ok_range ho
  unfold difAt comZ
  rw [Ne, List.length_eq_zero_iff, List.filter_eq_nil_iff]
  simp only [List.contains_eq_mem, decide_eq_true_eq]
  constructor
  · intro h
    by_cases hc : ∃ x ∈ zs, (x - i) % n ∈ zs
    · exact hc
    · exact absurd (fun x hx hm => hc ⟨x, hx, ((rot_mem ho).1 hm).2⟩) h
  · rintro ⟨x, hx, hm⟩ h
    exact h x hx ((rot_mem ho).2 ⟨hr x hx, hm⟩)
/-- A sum is direct exactly if no difference is common. -/
theorem dir_apart {n : Int} {xs ys : List Int} (hx : Ok n xs) (hy : Ok n ys) : dirC n xs ys ↔ ∀ i : Int, 1 ≤ i → i < n → difAt n xs i = 0 ∨ difAt n ys i = 0 := by
  have hn := hx.1
  have hrx := ok_range hx
  have hry := ok_range hy
  rw [dir_inj hx hy]
  constructor
  · intro h i h1 h2
    by_cases hz : difAt n xs i = 0
    · exact .inl hz
    · refine .inr ?_
      by_cases hw : difAt n ys i = 0
      · exact hw
      · exfalso
        obtain ⟨x, hx1, hx2⟩ := (dif_pos hx).1 hz
        obtain ⟨y, hy1, hy2⟩ := (dif_pos hy).1 hw
        have e : (x + (y - i) % n) % n = ((x - i) % n + y) % n := by
          rw [Int.add_comm x, em_add, em_add]
          congr 1
          omega
        rcases Int.lt_trichotomy x ((x - i) % n) with hl | hl | hl
        · exact h _ hx1 _ hx2 _ hy2 _ hy1 hl e
        · have h3 := hrx x hx1
          have h4 : (i : Int) % n = 0 := by
            have h5 : (x - (x - i) % n) % n = 0 := by rw [← hl, Int.sub_self]; rfl
            rwa [sub_em, show x - (x - i) = i by omega] at h5
          rw [em_self ⟨by omega, h2⟩] at h4
          omega
        · exact h _ hx2 _ hx1 _ hy1 _ hy2 hl e.symm
  · intro h p hp p' hp' q hq q' hq' hlt e
    have hp1 := hrx p hp
    have hp2 := hrx p' hp'
    have hq1 := hry q hq
    have hq2 := hry q' hq'
    rcases h (p' - p) (by omega) (by omega) with h1 | h1
    · exact absurd h1 ((dif_pos hx).2 ⟨p', hp', by rw [show p' - (p' - p) = p by omega, em_self hp1]; exact hp⟩)
    · refine absurd h1 ((dif_pos hy).2 ⟨q, hq, ?_⟩)
      have e2 : (q - (p' - p)) % n = q' := by
        rw [show q - (p' - p) = (p + q) - p' by omega, ← em_sub, e, em_sub, show p' + q' - p' = q' by omega, em_self hq2]
      rw [e2]
      exact hq'
end Go.Proofs.Ytgmhdmhnedljcaa.Rhy

/-
  Helpers of the claims beside this text: plain mathematics of partners: the search finds all of them, in order.
-/
namespace Go.Proofs.Ytgmhdmhnedljcaa.Rhy
open Go.RowKit
set_option linter.unusedVariables false

instance dirDec (n : Int) (xs ys : List Int) : Decidable (dirC n xs ys) := by unfold dirC; infer_instance
/-- Whether it is a tiling. -/
def tileB (n : Int) (xs ys : List Int) : Bool := decide (dirC n xs ys) && (gapZ n xs ys).isEmpty
theorem tile_iff {n : Int} {xs ys : List Int} (hn : 1 ≤ n) : tileB n xs ys = true ↔ tilC n xs ys := by
  unfold tileB
  rw [Bool.and_eq_true, decide_eq_true_iff, List.isEmpty_iff, til_iff hn]
theorem dir_le {n : Nat} {xs ys : List Int} (hn : 1 ≤ n) (h : dirC n xs ys) : xs.length * ys.length ≤ n := by
  rw [← (dir_len (n := (n : Int)) (by omega)).1 h]
  exact ofZ_len _ _
theorem tile_len {n : Nat} {xs ys : List Int} (hn : 1 ≤ n) : tileB n xs ys = true ↔ dirC n xs ys ∧ xs.length * ys.length = n := by
  have h1 : (1 : Int) ≤ (n : Int) := by omega
  have hg := gap_len n xs ys
  rw [Int.toNat_natCast] at hg
  unfold tileB
  rw [Bool.and_eq_true, decide_eq_true_iff, List.isEmpty_iff]
  constructor
  · rintro ⟨h, h2⟩
    refine ⟨h, ?_⟩
    rw [← (dir_len h1).1 h]
    rw [h2] at hg
    simpa using hg
  · rintro ⟨h, h2⟩
    refine ⟨h, List.eq_nil_of_length_eq_zero ?_⟩
    rw [(dir_len h1).1 h] at hg
    omega
/-- More beats are direct only if fewer are. -/
theorem dir_less {n : Int} {xs ys zs : List Int} (h : dirC n xs (ys ++ zs)) : dirC n xs ys := by
  rw [dir_count] at h ⊢
  intro x
  refine Nat.le_trans ?_ (h x)
  unfold sumL
  clear h
  induction xs with
  | nil => simp
  | cons a xs ih =>
    rw [List.flatMap_cons, List.flatMap_cons, List.count_append, List.count_append, List.map_append, List.count_append]
    omega
/-- All bars that go on from one, from pulse n - m on, those with an early beat first. -/
def barsL (n : Nat) : Nat → List Int → List (List Int)
  | 0, bs => [bs]
  | m + 1, bs => barsL n m (bs ++ [((n - (m + 1) : Nat) : Int)]) ++ barsL n m bs
theorem bars_mem {n : Nat} : ∀ {m : Nat} {bs b : List Int}, b ∈ barsL n m bs → ∃ t, b = bs ++ t ∧ t.length ≤ m
  | 0, bs, b, h => by
    have : b = bs := by simpa [barsL] using h
    exact ⟨[], by simp [this], by simp⟩
  | m + 1, bs, b, h => by
    rw [barsL, List.mem_append] at h
    rcases h with h | h
    · obtain ⟨t, rfl, ht⟩ := bars_mem h
      exact ⟨_ :: t, by rw [List.append_assoc]; rfl, by rw [List.length_cons]; omega⟩
    · obtain ⟨t, rfl, ht⟩ := bars_mem h
      exact ⟨t, rfl, by omega⟩
theorem bars_none {n m : Nat} {xs bs : List Int} (h : ∀ t, t.length ≤ m → tileB n xs (bs ++ t) = false) : (barsL n m bs).filter (tileB n xs) = [] := by
  rw [List.filter_eq_nil_iff]
  intro b hb
  obtain ⟨t, rfl, ht⟩ := bars_mem hb
  rw [h t ht]
  simp
theorem bars_self {n : Nat} {xs bs : List Int} (hn : 1 ≤ n) (hx : 1 ≤ xs.length) (h : tileB n xs bs = true) : ∀ m, (barsL n m bs).filter (tileB n xs) = [bs]
  | 0 => by simp [barsL, h]
  | m + 1 => by
    rw [barsL, List.filter_append, bars_self hn hx h m, bars_none (fun t _ => ?_)]
    · rfl
    · rw [Bool.eq_false_iff]
      intro hc
      have h1 := ((tile_len hn).1 h).2
      have h2 := ((tile_len hn).1 hc).2
      rw [List.length_append, List.length_append, Nat.mul_add, Nat.mul_add, h1] at h2
      have h3 : 1 ≤ xs.length * [((n - (m + 1) : Nat) : Int)].length := by simpa using hx
      omega
/-- The model's search, from pulse n - m on. -/
def fndL (n : Nat) (xs : List Int) : Nat → List Int → List (List Int)
  | 0, bs => if xs.length * bs.length = n then [bs] else []
  | m + 1, bs => if xs.length * bs.length = n then [bs] else if bs.length + (m + 1) < n / xs.length then [] else
    (if dirC n xs (bs ++ [((n - (m + 1) : Nat) : Int)]) then fndL n xs m (bs ++ [((n - (m + 1) : Nat) : Int)]) else []) ++ (if n - (m + 1) = 0 then [] else fndL n xs m bs)
theorem fnd_is {n : Nat} {xs : List Int} (hn : 1 ≤ n) (hx : 1 ≤ xs.length) (hdv : n % xs.length = 0) : ∀ m bs, m < n → dirC n xs bs → fndL n xs m bs = (barsL n m bs).filter (tileB n xs) := by
  have hdm : xs.length * (n / xs.length) = n := by have := Nat.div_add_mod n xs.length; omega
  intro m
  induction m with
  | zero =>
    intro bs _ hd
    unfold fndL
    by_cases he : xs.length * bs.length = n
    · rw [if_pos he, bars_self hn hx ((tile_len hn).2 ⟨hd, he⟩)]
    · rw [if_neg he, bars_none (fun t ht => ?_)]
      obtain rfl : t = [] := List.eq_nil_of_length_eq_zero (by omega)
      rw [List.append_nil, Bool.eq_false_iff]
      exact fun hc => he ((tile_len hn).1 hc).2
  | succ m ih =>
    intro bs hm hd
    rw [fndL]
    by_cases he : xs.length * bs.length = n
    · rw [if_pos he, bars_self hn hx ((tile_len hn).2 ⟨hd, he⟩)]
    · rw [if_neg he]
      by_cases hl : bs.length + (m + 1) < n / xs.length
      · rw [if_pos hl, bars_none (fun t ht => ?_)]
        rw [Bool.eq_false_iff]
        intro hc
        have h2 := ((tile_len hn).1 hc).2
        have h3 : (bs ++ t).length < n / xs.length := by rw [List.length_append]; omega
        have h4 := Nat.mul_lt_mul_of_pos_left h3 (show 0 < xs.length by omega)
        omega
      · have e0 : ¬ n - (m + 1) = 0 := by omega
        rw [if_neg hl, if_neg e0, barsL, List.filter_append, ih bs (by omega) hd]
        congr 1
        by_cases hc : dirC n xs (bs ++ [((n - (m + 1) : Nat) : Int)])
        · rw [if_pos hc, ih _ (by omega) hc]
        · rw [if_neg hc, bars_none (fun t _ => ?_)]
          rw [Bool.eq_false_iff]
          exact fun h => hc (dir_less ((tile_len hn).1 h).1)
theorem bars_len (n : Nat) : ∀ m bs, (barsL n m bs).length = 2 ^ m
  | 0, bs => rfl
  | m + 1, bs => by rw [barsL, List.length_append, bars_len n m, bars_len n m, Nat.pow_succ]; omega
/-- The first of two lists. -/
theorem take_one (A B : List (List Int)) : (A ++ B).take 1 = if A = [] then B.take 1 else A.take 1 := by
  cases A with
  | nil => simp
  | cons a A => simp
/-- What the bars are: valid, and ascending. -/
theorem bars_ok {n : Nat} (hn : 1 ≤ n ∧ n ≤ 24) : ∀ {m : Nat} {bs b : List Int}, m ≤ n → Ok n bs → (∀ x ∈ bs, x < (n : Int) - m) → b ∈ barsL n m bs → Ok n b
  | 0, bs, b, _, ho, _, h => by
    have : b = bs := by simpa [barsL] using h
    rw [this]
    exact ho
  | m + 1, bs, b, hm, ho, hlt, h => by
    rw [barsL, List.mem_append] at h
    have hr := ok_range ho
    rcases h with h | h
    · refine bars_ok hn (by omega) (ok_of (by omega) (by omega) ?_ fun z hz => ?_) (fun x hx => ?_) h
      · rw [List.pairwise_append]
        refine ⟨ok_sorted ho, List.pairwise_singleton _ _, fun x hx y hy => ?_⟩
        rw [List.mem_singleton] at hy
        have := hlt x hx
        omega
      · rw [List.mem_append, List.mem_singleton] at hz
        rcases hz with hz | hz
        · exact hr z hz
        · omega
      · rw [List.mem_append, List.mem_singleton] at hx
        rcases hx with hx | hx
        · have := hlt x hx; omega
        · omega
    · exact bars_ok hn (by omega) ho (fun x hx => by have := hlt x hx; omega) h
/-- All partners with a beat on pulse 0. -/
def partL (n : Nat) (xs : List Int) : List (List Int) := (barsL n (n - 1) [0]).filter (tileB n xs)
theorem dir_none (n : Int) (xs : List Int) : dirC n xs [] := by
  unfold dirC
  rw [List.eq_nil_of_length_eq_zero (show (sumL n xs []).length = 0 by rw [sumL_len]; simp)]
  exact List.nodup_nil
theorem dir_one {n : Int} {xs : List Int} (ho : Ok n xs) : dirC n xs [0] := by
  unfold dirC sumL List.Nodup
  have hr := ok_range ho
  rw [List.pairwise_flatMap]
  refine ⟨fun p _ => by simp, List.Pairwise.imp_of_mem (fun {a b} ha hb hab => ?_) (ok_sorted ho)⟩
  intro x hx y hy
  rw [List.map_singleton, List.mem_singleton, Int.add_zero, em_self (hr _ ‹_›)] at hx hy
  omega
theorem fnd_part {n : Nat} {xs : List Int} (ho : Ok n xs) (hx : 1 ≤ xs.length) (hdv : n % xs.length = 0) : fndL n xs n [] = partL n xs := by
  have hn : 1 ≤ n := by have := ho.1; omega
  obtain ⟨m, rfl⟩ : ∃ m, n = m + 1 := ⟨n - 1, by omega⟩
  rw [fndL, if_neg (by simp), if_neg (by
    have h1 : (m + 1) / xs.length ≤ m + 1 := Nat.div_le_self _ _
    simp only [List.length_nil]
    omega)]
  rw [show m + 1 - (m + 1) = 0 by omega, if_pos rfl, List.append_nil, List.nil_append, show ((0 : Nat) : Int) = 0 from rfl, if_pos (dir_one ho), fnd_is hn hx hdv m _ (by omega) (dir_one ho)]
  rfl
end Go.Proofs.Ytgmhdmhnedljcaa.Rhy
