/-
  Helpers of the claims beside this text: patterns laid on a line: plain mathematics, all patterns by computing.
-/
import Derived.Test.YtldpikcgeijkpaaMath
namespace Go.Proofs.Ytldpikcgeijkpaa.Rhy

/-- The strictly ascending lists of numbers from lo up to lo + k. -/
def tailsN : Nat → Nat → List (List Nat)
  | 0, _ => [[]]
  | k + 1, lo => tailsN k (lo + 1) ++ (tailsN k (lo + 1)).map (lo :: ·)
/-- All patterns. -/
def patsN : List (List Nat) := (tailsN 12 1).map (0 :: ·)
def zsN (l : List Nat) : List Int := l.map fun n : Nat => (n : Int)
def natL (zs : List Int) : List Nat := zs.map Int.toNat
theorem zsN_len (l : List Nat) : (zsN l).length = l.length := by simp [zsN]
theorem zsN_snoc (l : List Nat) (n : Nat) : zsN (l ++ [n]) = zsN l ++ [(n : Int)] := by simp [zsN]
theorem natL_zsN (l : List Nat) : natL (zsN l) = l := by
  unfold natL zsN
  rw [List.map_map]
  conv => rhs; rw [← List.map_id l]
  congr 1
theorem zsN_mem {l : List Nat} {z : Int} (h : z ∈ zsN l) : ∃ n ∈ l, z = (n : Int) := by
  obtain ⟨n, h1, h2⟩ := List.mem_map.1 h
  exact ⟨n, h1, h2.symm⟩
theorem zsN_has {l : List Nat} {n : Nat} : (n : Int) ∈ zsN l ↔ n ∈ l := by
  constructor
  · intro h
    obtain ⟨m, h1, h2⟩ := zsN_mem h
    rwa [show n = m by omega]
  · exact fun h => List.mem_map.2 ⟨n, h, rfl⟩
theorem zsN_at {l : List Nat} {j : Nat} {z : Int} (h : (zsN l)[j]? = some z) : ∃ n, l[j]? = some n ∧ z = (n : Int) := by
  unfold zsN at h
  rw [List.getElem?_map] at h
  cases hj : l[j]? with
  | none => rw [hj] at h; cases h
  | some n => rw [hj] at h; simp at h; exact ⟨n, rfl, h.symm⟩

/-- A pattern. -/
def PatC (zs : List Int) : Prop := zs[0]? = some 0 ∧ ∀ (j : Nat) (x y : Int), zs[j]? = some x → zs[j + 1]? = some y → x < y ∧ y ≤ 12

theorem tails_mem : ∀ (k lo : Nat) (l : List Int), l.Pairwise (· < ·) → (∀ z ∈ l, (lo : Int) ≤ z ∧ z < lo + k) → ∃ m ∈ tailsN k lo, l = zsN m
  | 0, lo, [], _, _ => ⟨[], by simp [tailsN], rfl⟩
  | 0, lo, z :: r, _, h => by have := h z (by simp); omega
  | k + 1, lo, [], _, _ => by
    obtain ⟨m, h1, h2⟩ := tails_mem k (lo + 1) [] (by simp) (by simp)
    exact ⟨m, by simp [tailsN, h1], h2⟩
  | k + 1, lo, z :: r, hp, h => by
    rw [List.pairwise_cons] at hp
    by_cases e : z = lo
    · obtain ⟨m, h1, h2⟩ := tails_mem k (lo + 1) r hp.2 (fun y hy => by have := hp.1 y hy; have := h y (by simp [hy]); omega)
      exact ⟨lo :: m, by simp [tailsN, h1], by rw [e, h2]; rfl⟩
    · have hz := h z (by simp)
      obtain ⟨m, h1, h2⟩ := tails_mem k (lo + 1) (z :: r) (List.pairwise_cons.2 hp) (fun y hy => by
        have := h y hy
        rcases List.mem_cons.1 hy with rfl | hy
        · omega
        · have := hp.1 y hy; omega)
      exact ⟨m, by simp [tailsN, h1], h2⟩
theorem pat_up {zs : List Int} (h : PatC zs) : ∀ (d j : Nat) (x y : Int), zs[j]? = some x → zs[j + 1 + d]? = some y → x < y ∧ y ≤ 12
  | 0, j, x, y, h1, h2 => h.2 j x y h1 h2
  | d + 1, j, x, y, h1, h2 => by
    have hl : j + 1 + d < zs.length := by
      rcases Nat.lt_or_ge (j + 1 + (d + 1)) zs.length with h3 | h3
      · omega
      · rw [List.getElem?_eq_none h3] at h2; cases h2
    have h3 : zs[j + 1 + d]? = some zs[j + 1 + d] := List.getElem?_eq_getElem hl
    have h4 := pat_up h d j x _ h1 h3
    have h5 := h.2 (j + 1 + d) _ y h3 h2
    omega
theorem pat_sorted {zs : List Int} (h : PatC zs) : zs.Pairwise (· < ·) := by
  rw [List.pairwise_iff_getElem]
  intro i j hi hj hij
  exact (pat_up h (j - i - 1) i _ _ (List.getElem?_eq_getElem hi) (by rw [show i + 1 + (j - i - 1) = j by omega]; exact List.getElem?_eq_getElem hj)).1
theorem pat_mem {zs : List Int} (h : PatC zs) : ∃ m ∈ patsN, zs = zsN m := by
  have hs := pat_sorted h
  cases zs with
  | nil => have := h.1; simp at this
  | cons z r =>
    have hz : z = 0 := by have := h.1; simpa using this
    rw [List.pairwise_cons] at hs
    obtain ⟨m, h1, h2⟩ := tails_mem 12 1 r hs.2 (fun y hy => by
      have h3 := hs.1 y hy
      obtain ⟨j, hj⟩ := List.mem_iff_getElem?.1 hy
      have h4 := pat_up h j 0 z y (by simp) (by rw [show 0 + 1 + j = j + 1 by omega]; simpa using hj)
      omega)
    exact ⟨0 :: m, by simp [patsN, h1], by rw [hz, h2]; rfl⟩

/-! ### the program's course -/
/-- All elements laid from t on, none if a time is taken. -/
def layN (t : Nat) : List Nat → List Nat → Option (List Nat)
  | L, [] => some L
  | L, x :: ys => if L.contains (t + x) then none else layN t (L ++ [t + x]) ys
def crsN (xs : List Nat) : Nat → Nat → List Nat → List Nat → Option (List Nat × Nat × Bool)
  | 0, _, _, _ => none
  | f + 1, t, L, es =>
    if Nat.beq t 0 || Nat.blt t L.length then
      (if L.contains t then crsN xs f (t + 1) L es
       else match layN t L xs with
        | none => some (es, t, false)
        | some L' => crsN xs f (t + 1) L' (es ++ [t]))
    else some (es, t, true)
def crsD (xs : List Nat) : List Nat × Nat × Bool := (crsN xs 40 0 [] []).getD ([], 0, false)

/-! ### the model's steps -/
def mskN : List Nat → Nat
  | [] => 0
  | x :: ys => 2 ^ x + mskN ys
def strN : Nat → Nat → Nat → Nat × Nat
  | 0, s, n => (s, n)
  | f + 1, s, n => if Nat.beq (s % 2) 1 then strN f (s / 2) (n + 1) else (s, n)
def stpN (m s : Nat) : Option (Nat × Nat) := if Nat.beq (s &&& m) 0 then some (strN 14 (s + m) 0) else none
/-- The state, the time and the entries behind k steps. -/
def entN (m : Nat) : Nat → Option (Nat × Nat × List Nat)
  | 0 => some (0, 0, [])
  | k + 1 => match entN m k with
    | none => none
    | some (s, t, l) => match stpN m s with
      | none => none
      | some (s', n) => some (s', t + n, l ++ [t])
/-- The first count entries out of those of a block. -/
def fstN (es : List Nat) (t c : Nat) : List Nat := (List.range c).map fun i => i / es.length * t + es[i % es.length]?.getD 0

def ck0 (xs es : List Nat) (t : Nat) : Bool := Nat.blt (mskN xs) 8192 && Nat.ble t 24 && Nat.blt 0 es.length && Nat.ble es.length 12 && Nat.ble xs.length 13
def ckE (m : Nat) (es : List Nat) (t : Nat) (g : Bool) : Bool :=
  match entN m es.length with
  | none => false
  | some (s, t', l) => (l == es) && Nat.beq t' t && (if g then Nat.beq s 0 && Nat.blt 0 t else (stpN m s).isNone)
def ckM (m : Nat) (es : List Nat) : Bool :=
  (List.range (es.length + 1)).all fun k => match entN m k with
  | none => false
  | some (s, t', l) => Nat.blt s 8192 && Nat.ble t' 1000 && (Nat.beq k 0 || Nat.beq k es.length || !Nat.beq s 0) && (l == es.take k)
def ckF (m : Nat) (es : List Nat) (t : Nat) (g : Bool) : Bool :=
  (List.range 41).all fun k => !(g || Nat.ble k es.length) || (match entN m k with
  | none => false
  | some (s, t', l) => Nat.blt s 8192 && Nat.ble t' 1000 && (l == fstN es t k))
def ckG (xs es : List Nat) (t : Nat) : Bool :=
  ((List.range t).all fun q => Nat.beq q 0 || !(Nat.beq (t % q) 0) || !(es.all fun e => es.contains ((e + q) % t))) &&
  (ofZ t (zsN xs) == zsN xs) && (ofZ t (zsN es) == zsN es)
/-- What holds of a pattern's course. -/
def chkN (xs : List Nat) : Bool :=
  match crsN xs 40 0 [] [] with
  | none => false
  | some (es, t, g) => ck0 xs es t && (es.all fun e => Nat.ble e 24) && ckE (mskN xs) es t g && ckM (mskN xs) es && ckF (mskN xs) es t g && (!g || ckG xs es t)
theorem chk_all : patsN.all chkN = true := by decide +kernel

/-- The course of a pattern, and what is known of it. -/
structure Crs (zs : List Int) (xs es : List Nat) (t : Nat) (g : Bool) : Prop where
  pat : zs = zsN xs
  run : crsN xs 40 0 [] [] = some (es, t, g)
  data : crsD (natL zs) = (es, t, g)
  msk : mskN xs < 8192
  tle : t ≤ 24
  one : 0 < es.length
  few : es.length ≤ 12
  len : xs.length ≤ 13
  mem : ∀ e ∈ es, e ≤ 24
  fin : ∃ s, entN (mskN xs) es.length = some (s, t, es) ∧ (g = true → s = 0 ∧ 0 < t) ∧ (g = false → stpN (mskN xs) s = none)
  mid : ∀ k, k ≤ es.length → ∃ s t', entN (mskN xs) k = some (s, t', es.take k) ∧ s < 8192 ∧ t' ≤ 1000 ∧ (0 < k → k < es.length → s ≠ 0)
  fst : ∀ k, k ≤ 40 → (g = true ∨ k ≤ es.length) → ∃ s t', entN (mskN xs) k = some (s, t', fstN es t k) ∧ s < 8192 ∧ t' ≤ 1000
  least : g = true → ∀ q, 0 < q → q < t → t % q = 0 → ∃ e ∈ es, ¬ (e + q) % t ∈ es
  ofX : g = true → ofZ t zs = zs
  ofE : g = true → ofZ t (zsN es) = zsN es
theorem crs_of {zs : List Int} (h : PatC zs) : ∃ xs es t g, Crs zs xs es t g := by
  obtain ⟨xs, hm, hz⟩ := pat_mem h
  have hc := List.all_eq_true.1 chk_all xs hm
  unfold chkN at hc
  cases hr : crsN xs 40 0 [] [] with
  | none => rw [hr] at hc; cases hc
  | some r =>
    obtain ⟨es, t, g⟩ := r
    rw [hr] at hc
    simp only [Bool.and_eq_true] at hc
    obtain ⟨⟨⟨⟨⟨h0, h1⟩, h2⟩, h3⟩, h4⟩, h5⟩ := hc
    unfold ck0 at h0
    simp only [Bool.and_eq_true, Nat.blt_eq, Nat.ble_eq] at h0
    obtain ⟨⟨⟨⟨a1, a2⟩, a3⟩, a4⟩, a5⟩ := h0
    refine ⟨xs, es, t, g, hz, hr, ?_, a1, a2, a3, a4, a5, ?_, ?_, ?_, ?_, ?_, ?_, ?_⟩
    · unfold crsD
      rw [hz, natL_zsN, hr]
      rfl
    · intro e he
      exact Nat.le_of_ble_eq_true (List.all_eq_true.1 h1 e he)
    · unfold ckE at h2
      cases he : entN (mskN xs) es.length with
      | none => rw [he] at h2; cases h2
      | some r =>
        obtain ⟨s, t', l⟩ := r
        rw [he] at h2
        simp only [Bool.and_eq_true, beq_iff_eq, Nat.beq_eq] at h2
        obtain ⟨⟨b1, b2⟩, b3⟩ := h2
        refine ⟨s, by rw [b1, b2], ?_, ?_⟩
        · intro hg; subst hg
          simpa using b3
        · intro hg; subst hg
          simpa using b3
    · intro k hk
      have h6 := List.all_eq_true.1 h3 k (List.mem_range.2 (by omega))
      cases he : entN (mskN xs) k with
      | none => rw [he] at h6; cases h6
      | some r =>
        obtain ⟨s, t', l⟩ := r
        rw [he] at h6
        simp only [Bool.and_eq_true, Bool.or_eq_true, Nat.blt_eq, Nat.ble_eq, beq_iff_eq, Nat.beq_eq, Bool.not_eq_true'] at h6
        obtain ⟨⟨⟨b1, b2⟩, b3⟩, b4⟩ := h6
        refine ⟨s, t', by rw [b4], b1, b2, fun c1 c2 => ?_⟩
        rcases b3 with (b3 | b3) | b3
        · omega
        · omega
        · intro e; rw [e] at b3; cases b3
    · intro k hk hg
      have h6 := List.all_eq_true.1 h4 k (List.mem_range.2 (by omega))
      have e1 : (g || Nat.ble k es.length) = true := by
        rcases hg with hg | hg
        · rw [hg]; rfl
        · rw [Nat.ble_eq_true_of_le hg]; simp
      rw [e1] at h6
      cases he : entN (mskN xs) k with
      | none => rw [he] at h6; cases h6
      | some r =>
        obtain ⟨s, t', l⟩ := r
        rw [he] at h6
        simp only [Bool.not_true, Bool.false_or, Bool.and_eq_true, Nat.blt_eq, Nat.ble_eq, beq_iff_eq] at h6
        obtain ⟨⟨b1, b2⟩, b3⟩ := h6
        exact ⟨s, t', by rw [b3], b1, b2⟩
    · intro hg q hq hqt hd
      rw [hg] at h5
      unfold ckG at h5
      simp only [Bool.not_true, Bool.false_or, Bool.and_eq_true] at h5
      have h6 := List.all_eq_true.1 h5.1.1 q (List.mem_range.2 hqt)
      simp only [Bool.or_eq_true, Nat.beq_eq, Bool.not_eq_true'] at h6
      rcases h6 with (h6 | h6) | h6
      · omega
      · rw [hd] at h6; cases h6
      · rw [List.all_eq_false] at h6
        obtain ⟨e, he, h7⟩ := h6
        exact ⟨e, he, by simpa using h7⟩
    · intro hg
      rw [hg] at h5
      unfold ckG at h5
      simp only [Bool.not_true, Bool.false_or, Bool.and_eq_true, beq_iff_eq] at h5
      rw [hz]; exact h5.1.2
    · intro hg
      rw [hg] at h5
      unfold ckG at h5
      simp only [Bool.not_true, Bool.false_or, Bool.and_eq_true, beq_iff_eq] at h5
      exact h5.2
end Go.Proofs.Ytldpikcgeijkpaa.Rhy
