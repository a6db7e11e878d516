/-
  Helpers of the claims beside this text: the polynomials of rhythms.
-/
import Derived.Test.YtdpcabiajhfllaaPlb
import Derived.Test.YtdpcabiajhfllaaRot
namespace Go.Proofs.Ytdpcabiajhfllaa.Rhy
set_option linter.unusedVariables false
set_option linter.unusedSimpArgs false

/-- 1 on a beat, 0 elsewhere. -/
def ind (zs : List Int) (i : Nat) : Int := if zs.contains (i : Int) then 1 else 0
def onesL (n : Nat) (zs : List Int) : List Int := plyF n (ind zs)
def polZ (n : Nat) (zs : List Int) : List Int := trimL (onesL n zs)
theorem ones_len (n : Nat) (zs : List Int) : (onesL n zs).length = n := by simp [onesL, plyF]
theorem ones_zero (n : Nat) : onesL n [] = List.replicate n 0 := by
  refine List.ext_getElem (by simp [ones_len]) fun i h1 h2 => ?_
  simp [onesL, plyF, ind]
theorem ones_snoc {n : Nat} {zs : List Int} {k : Nat} {z : Int} (h : zs[k]? = some z) (hz : 0 ≤ z ∧ z < n) : onesL n (zs.take (k + 1)) = (onesL n (zs.take k)).set z.toNat 1 := by
  refine List.ext_getElem (by simp [ones_len]) fun i h1 h2 => ?_
  rw [ones_len] at h1
  have ht : zs.take (k + 1) = zs.take k ++ [z] := by rw [List.take_add_one, h]; rfl
  simp only [ht]
  simp only [onesL, plyF, ind, List.getElem_map, List.getElem_range, List.getElem_set]
  by_cases e : z.toNat = i
  · rw [if_pos e, if_pos]
    rw [List.contains_iff_mem, List.mem_append]
    exact .inr (by simp; omega)
  · rw [if_neg e]
    congr 1
    rw [List.contains_iff_mem, List.contains_iff_mem, List.mem_append]
    simp only [List.mem_singleton, eq_iff_iff]
    exact ⟨fun q => q.elim id (fun x => absurd x (by omega)), .inl⟩
theorem ones_bd (n : Nat) (zs : List Int) : Bd 1 (onesL n zs) := fun p => by
  unfold onesL ind
  rw [co_plyF]
  split
  · split <;> omega
  · omega
theorem pol_len (n : Nat) (zs : List Int) : (polZ n zs).length ≤ n := Nat.le_trans (trim_len _) (by rw [ones_len]; exact Nat.le_refl n)
theorem bd_trim {M : Int} {l : List Int} (h : Bd M l) : Bd M (trimL l) := fun p => by rw [trim_eqv]; exact h p
theorem pol_bd (n : Nat) (zs : List Int) : Bd 1 (polZ n zs) := bd_trim (ones_bd n zs)
/-! ### Values -/
theorem ev_snoc (l : List Int) (c x : Int) : pEval (l ++ [c]) x = pEval l x + c * x ^ l.length := by
  induction l with
  | nil => simp
  | cons d l ih => rw [List.cons_append, ev_cons, ev_cons, ih, List.length_cons, Int.pow_succ, Int.mul_add, Int.mul_left_comm, Int.mul_comm (x ^ l.length) x, Int.add_assoc]
theorem ofZ_snoc (n : Nat) (zs : List Int) : ofZ (n + 1) zs = ofZ n zs ++ if zs.contains (n : Int) then [(n : Int)] else [] := by
  unfold ofZ
  rw [List.range_succ, List.map_append, List.filter_append]
  congr 1
  simp only [List.map_cons, List.map_nil, List.filter_cons, List.filter_nil]
  rfl
theorem ev_ones (n : Nat) (zs : List Int) (x : Int) : pEval (onesL n zs) x = ((ofZ n zs).map fun z => x ^ z.toNat).sum := by
  induction n with
  | zero => simp [onesL, plyF, ofZ]
  | succ n ih =>
    have e : onesL (n + 1) zs = onesL n zs ++ [ind zs n] := by simp [onesL, plyF, List.range_succ]
    rw [e, ev_snoc, ih, ofZ_snoc, List.map_append, List.sum_append, ones_len]
    unfold ind
    split <;> simp
theorem ev_pol {n : Nat} {zs : List Int} (h : Ok n zs) (x : Int) : pEval (polZ n zs) x = (zs.map fun z => x ^ z.toNat).sum := by
  rw [polZ, ev_eqv (trim_eqv _), ev_ones, ofZ_self (ok_sorted h) (fun x hx => ok_range h x hx)]
theorem ev_one {n : Nat} {zs : List Int} (h : Ok n zs) : pEval (polZ n zs) 1 = zs.length := by
  rw [ev_pol h]
  clear h
  induction zs with
  | nil => rfl
  | cons z zs ih => rw [List.map_cons, List.sum_cons, ih, Int.one_pow, List.length_cons]; omega
def oddZ (zs : List Int) : Int := (zs.map fun z => z % 2).sum
theorem pow_neg (k : Nat) : (-1 : Int) ^ k = 1 - 2 * ((k % 2 : Nat) : Int) := by
  induction k with
  | zero => rfl
  | succ k ih => rw [Int.pow_succ, ih]; omega
theorem ev_neg {n : Nat} {zs : List Int} (h : Ok n zs) : pEval (polZ n zs) (-1) = zs.length - 2 * oddZ zs := by
  rw [ev_pol h]
  have hr := fun x hx => ok_range h x hx
  clear h
  unfold oddZ
  induction zs with
  | nil => rfl
  | cons z zs ih =>
    have h1 := hr z List.mem_cons_self
    rw [List.map_cons, List.sum_cons, List.map_cons, List.sum_cons, ih (fun x hx => hr x (List.mem_cons_of_mem _ hx)), pow_neg, List.length_cons]
    omega
/-! ### At the order 2 -/
theorem vanish_two {a r : List Int} (h : IsRest a [1, 1] r) : (∀ i, co r i = 0) ↔ pEval a (-1) = 0 := by
  obtain ⟨⟨q, hq⟩, h2⟩ := h
  have e := ev_eqv hq (-1)
  rw [ev_mul, ev_add, ev_scale] at e
  have e1 : pEval [1, 1] (-1) = 0 := rfl
  rw [e1, Int.mul_zero] at e
  have e2 : pEval r (-1) = co r 0 := by
    cases r with
    | nil => rfl
    | cons c r => rw [ev_cons, ev_none (fun i => by have := h2 (i + 1) (by simp); simpa using this)]; simp
  rw [e2] at e
  constructor
  · intro hz
    have := hz 0
    omega
  · intro hz i
    cases i with
    | zero => omega
    | succ i => exact h2 (i + 1) (by simp)
/-! ### Rests -/
def restZ (n : Nat) (zs : List Int) (d : Nat) : List Int := trimL (dvR (polZ n zs) (cycL d) (steps (polZ n zs) (cycL d)))
theorem restZ_is {n : Nat} {zs : List Int} {d : Nat} (hd : 1 ≤ d ∧ d ≤ 24) : IsRest (polZ n zs) (cycL d) (restZ n zs d) := by
  obtain ⟨h1, h2, h3⟩ := cyc_facts hd
  exact dv_trim h1 h2
theorem restZ_len {n : Nat} {zs : List Int} {d : Nat} (hd : 1 ≤ d ∧ d ≤ 24) : (restZ n zs d).length ≤ totN d := rest_len (cyc_facts hd).1 (restZ_is hd) (trim_clean _)
theorem restZ_clean (n : Nat) (zs : List Int) (d : Nat) : Clean (restZ n zs d) := trim_clean _
theorem restZ_nil {n : Nat} {zs : List Int} {d : Nat} (hd : 1 ≤ d ∧ d ≤ 24) : restZ n zs d = [] ↔ PDvd (cycL d) (onesL n zs) := by
  obtain ⟨h1, h2, h3⟩ := cyc_facts hd
  rw [clean_nil_iff (restZ_clean n zs d), ← rest_dvd h1 h2 (restZ_is hd)]
  exact ⟨fun h => h.eqv (trim_eqv _), fun h => h.eqv (trim_eqv _).symm⟩
theorem restZ_two {n : Nat} {zs : List Int} (h : Ok n zs) : restZ n zs 2 = [] ↔ 2 * oddZ zs = zs.length := by
  have h1 : IsRest (polZ n zs) [1, 1] (restZ n zs 2) := restZ_is (d := 2) (by omega)
  rw [clean_nil_iff (restZ_clean n zs 2), vanish_two h1, ev_neg h]
  omega
/-! ### Rotations -/
theorem ind_has (zs : List Int) (i : Nat) : ind zs i = if hasB zs (i : Int) then 1 else 0 := rfl
theorem ones_rot {n : Nat} {zs : List Int} (h : Ok n zs) {k : Nat} (hk : k < n) : onesL n (rotZ n zs 1 k) = plyF n fun i => ind zs ((i + (n - k)) % n) := by
  refine List.ext_getElem (by simp [onesL, plyF]) fun i h1 h2 => ?_
  rw [ones_len] at h1
  simp only [onesL, plyF, List.getElem_map, List.getElem_range]
  have hn := h.1
  have e := has_rot h ((((i + (n - k)) % n : Nat) : Int)) (k : Int)
  rw [ind_has, ind_has]
  have e1 : remB ((((i + (n - k)) % n : Nat) : Int) + (k : Int)) (n : Int) = (i : Int) := by
    unfold remB
    rw [Int.natCast_emod, Int.emod_add_emod, ← Int.natCast_add, ← Int.natCast_emod, show i + (n - k) + k = i + n by omega, Nat.add_mod_right, Nat.mod_eq_of_lt h1]
  have e2 : remB ((((i + (n - k)) % n : Nat) : Int)) (n : Int) = (((i + (n - k)) % n : Nat) : Int) := by
    unfold remB
    rw [← Int.natCast_emod, Nat.mod_mod]
  rw [e1, e2] at e
  rw [e]
theorem restZ_rot {n : Nat} {zs : List Int} (h : Ok n zs) {k d : Nat} (hk : k < n) (hd : 1 ≤ d) (hnd : n % d = 0) : restZ n (rotZ n zs 1 k) d = [] ↔ restZ n zs d = [] := by
  have hn : 1 ≤ n ∧ n ≤ 24 := by have := h.1; omega
  have hdn : d ≤ n := Nat.le_of_dvd (by omega) (Nat.dvd_of_mod_eq_zero hnd)
  rw [restZ_nil ⟨hd, by omega⟩, restZ_nil ⟨hd, by omega⟩, ones_rot h hk]
  exact rot_iff hn.1 (cyc_dvd hn hd hnd) k hk
/-! ### The product of the cyclotomic ones -/
def prodL (n j : Nat) : List Int := ((divsL n).take j).foldl (fun p d => trimL (pMul p (cycL d))) [1]
theorem prod_succ {n j d : Nat} (h : (divsL n)[j]? = some d) : prodL n (j + 1) = trimL (pMul (prodL n j) (cycL d)) := by
  unfold prodL
  rw [List.take_add_one, h, List.foldl_append]
  rfl
theorem prod_tab : ((List.range' 1 24).all fun n => prodL n (divsL n).length == xn1 n && ((divsL n).map totN).sum == n && (List.range ((divsL n).length + 1)).all fun j => decide ((prodL n j).length ≤ 40) && (prodL n j).all (fun x => decide (-1000 ≤ x ∧ x ≤ 1000)) && !((prodL n j).getLastD 0 == 0)) = true := by decide +kernel
end Go.Proofs.Ytdpcabiajhfllaa.Rhy
