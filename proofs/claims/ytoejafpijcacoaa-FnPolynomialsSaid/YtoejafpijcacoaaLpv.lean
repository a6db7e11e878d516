/-
  Helpers of the claims beside this text: contracts of the polynomials in the words that the law's walk wants.
-/
import Derived.Test.YtoejafpijcacoaaPlm
import Derived.Test.YtoejafpijcacoaaPlf
import Derived.Test.YtoejafpijcacoaaLwy
namespace Go.Proofs.Ytoejafpijcacoaa.Rhy
open Go.RowKit
set_option linter.unusedVariables false
set_option linter.unusedSimpArgs false

/-- A slice of the integers l is returned. -/
def SlPost (m : Nat) (l : List Int) (w : World) (e : Ending) (w' : World) : Prop :=
  ∃ b c, e = .returned (.slice b m c) ∧ IntsAt w' b m l ∧ Below w.heap.size w w'
theorem sl_of {l : List Int} {m : Nat} {w w' : World} {e : Ending} (hm : l.length = m) (hi : AllInt l) (h : IPart l w e w') : SlPost m l w e w' := by
  obtain ⟨a, c, rfl, h1, h2⟩ := h
  subst hm
  exact ⟨a, c, rfl, h1.at hi, h2⟩
theorem v_divs (n : Nat) (L : List Int) (m : Nat) (w : World) (h1 : 1 ≤ n) (h2 : n ≤ 1000) (hL : divP n n = L) (hm : L.length = m) :
    Calls Try.prog 14 #[.int .i64 n] w (SlPost m L w) := by
  have e : divB n = L := by rw [divB, cZ_yes (show DivC (n : Int) from ⟨by omega, by omega⟩), Int.toNat_natCast, hL]
  refine (div_impl n w (by omega) (by omega)).mono fun x w' h => ?_
  rw [e] at h
  exact sl_of hm (by rw [← hL]; exact divP_int n n h2) (ipart_of h)
theorem v_cycl (d T : Nat) (C : List Int) (w : World) (h1 : 1 ≤ d) (h2 : d ≤ 24) (hC : cycL d = C) (hT : C.length = T + 1) :
    Calls Try.prog 15 #[.int .i64 d] w (SlPost (T + 1) C w) := by
  have e : cycB d = C := by rw [cycB, cZ_yes (show OrdC (d : Int) from ⟨by omega, by omega⟩), Int.toNat_natCast, hC]
  refine (cyc_impl d w (by omega) (by omega)).mono fun x w' h => ?_
  rw [e] at h
  exact sl_of hT (by rw [← hC]; exact cyc_int ⟨h1, h2⟩) h
theorem v_tots (d T : Nat) (w : World) (h1 : 1 ≤ d) (h2 : d ≤ 1000) (hT : totN d = T) :
    Calls Try.prog 16 #[.int .i64 d] w fun e w' => e = .returned (.int .i64 T) ∧ Below w.heap.size w w' := by
  have h := tot_spec d w (by omega) (by omega)
  rwa [totB_yes (show DivC (d : Int) from ⟨by omega, by omega⟩), totP_all, hT] at h
theorem v_toti (d T : Nat) (w : World) (h1 : 1 ≤ d) (h2 : d ≤ 1000) (hT : totN d = T) :
    Calls Try.prog 17 #[.int .i64 d] w fun e w' => e = .returned (.int .i64 T) ∧ Below w.heap.size w w' := by
  have h := tot_impl d w (by omega) (by omega)
  rwa [totB_yes (show DivC (d : Int) from ⟨by omega, by omega⟩), totP_all, hT] at h
theorem v_times (a : Option Addr) (la ca : Nat) (xs : List Int) (b : Option Addr) (lb cb : Nat) (ys Z : List Int) (w : World) (hx : IntsAt w a la xs) (hy : IntsAt w b lb ys) (px : PolC xs) (py : PolC ys) (hZ : mulZ xs ys = Z) :
    Calls Try.prog 18 #[.slice a la ca, .slice b lb cb] w fun e w' => ∃ b' c', e = .returned (.tuple #[.slice b' Z.length c', .bool true]) ∧ IntsAt w' b' Z.length Z ∧ Below w.heap.size w w' := by
  have e1 : timB xs ys = Z := by rw [timB, cZ_yes ⟨px, py⟩, hZ]
  have e2 : timQ xs ys = true := cB_yes ⟨px, py⟩
  refine (tim_impl a la ca xs b lb cb ys w hx (by have := px.1; omega) hy (by have := py.1; omega)).mono fun x w' h => ?_
  rw [e1, e2] at h
  obtain ⟨b', c', rfl, h1, h2⟩ := h
  exact ⟨b', c', rfl, h1.at (by rw [← hZ]; exact mulz_int px py), h2⟩
theorem v_restby (n : Nat) (a : Option Addr) (cap : Nat) (zs : List Int) (d : Nat) (R : List Int) (m : Nat) (w : World) (h : IntsAt w a zs.length zs) (ho : Ok n zs) (h1 : 1 ≤ d) (h2 : d ≤ 24) (hR : restZ n zs d = R) (hm : R.length = m) :
    Calls Try.prog 20 #[rhy n a zs.length cap, .int .i64 d] w (SlPost m R w) := by
  have e : resB n zs d = R := by rw [resB, cZ_yes (show ResC (n : Int) zs (d : Int) from ⟨ho, by unfold OrdC; omega⟩), Int.toNat_natCast, Int.toNat_natCast, hR]
  refine (res_impl n a zs.length cap zs d w h (by have := ok_len ho; omega) (by omega) (by omega)).mono fun x w' h => ?_
  rw [e] at h
  exact sl_of hm (by rw [← hR]; exact restZ_int (by have := ho.1; omega) ⟨h1, h2⟩) h
theorem v_poly (n : Nat) (a : Option Addr) (cap : Nat) (zs P : List Int) (m : Nat) (w : World) (h : IntsAt w a zs.length zs) (ho : Ok n zs) (hP : polZ n zs = P) (hm : P.length = m) :
    Calls Try.prog 22 #[rhy n a zs.length cap] w (SlPost m P w) := by
  have e : polB n zs = P := by rw [polB, cZ_yes ho, Int.toNat_natCast, hP]
  refine (pol_impl n a zs.length cap zs w h (by have := ok_len ho; omega)).mono fun x w' h => ?_
  rw [e] at h
  exact sl_of hm (by rw [← hP]; exact pol_int _ _) h
theorem v_value (a : Option Addr) (la ca : Nat) (P : List Int) (x V : Int) (w : World) (h : IntsAt w a la P) (hp : PolC P) (hl : P.length ≤ 25) (h1 : -2 ≤ x) (h2 : x ≤ 2) (hV : pEval P x = V) :
    Calls Try.prog 23 #[.slice a la ca, .int .i64 x] w fun e w' => e = .returned (.tuple #[.int .i64 V, .bool true]) ∧ Below w.heap.size w w' := by
  have h := plv_impl a la ca P x w h (by omega) (by omega) (by omega)
  rwa [plvB_yes ⟨hp, hl, h1, h2⟩, hV, show plvQ P x = true from cB_yes ⟨hp, hl, h1, h2⟩] at h
theorem v_vanish (n : Nat) (a : Option Addr) (cap : Nat) (zs : List Int) (d : Nat) (q : Bool) (w : World) (h : IntsAt w a zs.length zs) (ho : Ok n zs) (h1 : 1 ≤ d) (h2 : d ≤ 24) (hq : (restZ n zs d).isEmpty = q) :
    Calls Try.prog 24 #[rhy n a zs.length cap, .int .i64 d] w fun e w' => e = .returned (.bool q) ∧ Below w.heap.size w w' := by
  have h := vat_impl n a zs.length cap zs d w h (by have := ok_len ho; omega) (by omega) (by omega)
  rwa [vanB_val ⟨ho, by unfold OrdC; omega⟩, hq] at h
theorem v_orders (n : Nat) (a : Option Addr) (cap : Nat) (zs O : List Int) (m : Nat) (w : World) (h : IntsAt w a zs.length zs) (ho : Ok n zs) (hO : vanP n zs n = O) (hm : O.length = m) :
    Calls Try.prog 26 #[rhy n a zs.length cap] w (SlPost m O w) := by
  have e : vorB n zs = O := by rw [vorB, cZ_yes ho, Int.toNat_natCast, hO]
  refine (vor_impl n a zs.length cap zs w h (by have := ok_len ho; omega)).mono fun x w' h => ?_
  have hi := vorB_int n zs
  rw [e] at h hi
  exact sl_of hm hi (ipart_of h)
/-! ### What the law asks -/
theorem cyc_one {d : Nat} (h : 1 ≤ d ∧ d ≤ 24) : (cycL d)[totN d]? = some 1 := by
  obtain ⟨h1, h2, h3⟩ := cyc_facts h
  have hl : totN d < (cycL d).length := by omega
  rw [List.getElem?_eq_getElem hl, ← co_get hl, h2]
theorem cyc_pol {d : Nat} (h : 1 ≤ d ∧ d ≤ 24) : PolC (cycL d) := by
  refine ⟨by have := cyc_len25 h; omega, (clean_iff (cyc_facts h).1 (cyc_one h)).2 (by omega), fun z hz => ?_⟩
  obtain ⟨i, hi, rfl⟩ := List.getElem_of_mem hz
  have := cyc_bd h i
  rw [co_get hi] at this
  omega
theorem mul_prod {n j d : Nat} (h : (divsL n)[j]? = some d) : mulZ (prodL n j) (cycL d) = prodL n (j + 1) := by
  rw [prod_succ h]
  exact trim_one (muR_all _ _)
theorem prod_zero (n : Nat) : prodL n 0 = [1] := by simp [prodL]
theorem prod_all {n : Nat} (hn : 1 ≤ n ∧ n ≤ 24) : prodL n (divsL n).length = xn1 n := by
  have h := List.all_eq_true.1 prod_tab n (List.mem_range'_1.2 (by omega))
  simp only [Bool.and_eq_true, beq_iff_eq] at h
  exact h.1.1
theorem deg_all {n : Nat} (hn : 1 ≤ n ∧ n ≤ 24) : ((divsL n).map totN).sum = n := by
  have h := List.all_eq_true.1 prod_tab n (List.mem_range'_1.2 (by omega))
  simp only [Bool.and_eq_true, beq_iff_eq] at h
  exact h.1.2
theorem prod_pol {n : Nat} (hn : 1 ≤ n ∧ n ≤ 24) {j : Nat} (hj : j ≤ (divsL n).length) : PolC (prodL n j) := by
  have h := List.all_eq_true.1 prod_tab n (List.mem_range'_1.2 (by omega))
  simp only [Bool.and_eq_true] at h
  have h2 := List.all_eq_true.1 h.2 j (List.mem_range.2 (by omega))
  simp only [Bool.and_eq_true, decide_eq_true_eq, List.all_eq_true, Bool.not_eq_true', beq_eq_false_iff_ne] at h2
  obtain ⟨⟨h3, h4⟩, h5⟩ := h2
  refine ⟨h3, fun hne => ?_, h4⟩
  have e : (prodL n j).getLastD 0 = (prodL n j).getLast hne := by
    rw [List.getLastD_eq_getLast?, List.getLast?_eq_some_getLast hne]
    rfl
  rw [← e]
  exact h5
def degP (n j : Nat) : Nat := (((divsL n).take j).map totN).sum
theorem deg_next {n j d : Nat} (h : (divsL n)[j]? = some d) : degP n (j + 1) = degP n j + totN d := by
  unfold degP
  rw [List.take_add_one, h]
  simp
theorem deg_len {n : Nat} (hn : 1 ≤ n ∧ n ≤ 24) : degP n (divsL n).length = n := by unfold degP; rw [List.take_length, deg_all hn]
theorem deg_le {n : Nat} (hn : 1 ≤ n ∧ n ≤ 24) {j : Nat} (hj : j ≤ (divsL n).length) : degP n j ≤ 24 := by
  have h1 : degP n j ≤ ((divsL n).map totN).sum := by
    unfold degP
    have e : (divsL n).map totN = ((divsL n).take j).map totN ++ ((divsL n).drop j).map totN := by rw [← List.map_append, List.take_append_drop]
    rw [e, List.sum_append]
    omega
  rw [deg_all hn] at h1
  omega
theorem xn1_at {n i : Nat} (hn : 1 ≤ n) (hi : i < n + 1) : (xn1 n)[i]? = some (if i = 0 then -1 else if i = n then 1 else 0) := by
  have hl : i < (xn1 n).length := by rw [xn1_len hn]; exact hi
  rw [List.getElem?_eq_getElem hl, ← co_get hl, co_xn1 hn]
theorem pol_polc {n : Nat} {zs : List Int} (h : Ok n zs) : PolC (polZ n zs) := by
  refine ⟨by have := pol_len n zs; have := h.1; omega, trim_clean _, fun z hz => ?_⟩
  obtain ⟨i, hi, rfl⟩ := List.getElem_of_mem hz
  have := pol_bd n zs i
  rw [co_get hi] at this
  omega
theorem odd_next {zs : List Int} {k : Nat} {z : Int} (h : zs[k]? = some z) : oddZ (zs.take (k + 1)) = oddZ (zs.take k) + z % 2 := by
  unfold oddZ
  rw [take_snoc h]
  simp
theorem odd_bd (zs : List Int) : 0 ≤ oddZ zs ∧ oddZ zs ≤ zs.length := by
  unfold oddZ
  induction zs with
  | nil => simp
  | cons z zs ih => simp only [List.map_cons, List.sum_cons, List.length_cons]; omega
theorem has_two {n : Nat} {zs : List Int} (h : Ok n zs) (he : n % 2 = 0) : hasB (vanP n zs n) 2 = decide (2 * oddZ zs = zs.length) := by
  have hn := h.1
  have e : hasB (vanP n zs n) 2 = true ↔ 2 * oddZ zs = zs.length := by
    rw [hasB_mem, ← restZ_two h]
    unfold vanP
    rw [List.mem_map]
    constructor
    · rintro ⟨d, hd, e⟩
      obtain rfl : d = 2 := by omega
      have := (List.mem_filter.1 hd).2
      simp [vanF] at this
      exact this.2
    · intro hr
      refine ⟨2, List.mem_filter.2 ⟨List.mem_range'_1.2 (by omega), ?_⟩, rfl⟩
      simp [vanF, hr, he]
  by_cases hc : 2 * oddZ zs = zs.length
  · rw [e.2 hc, decide_eq_true hc]
  · rw [decide_eq_false hc]
    cases hq : hasB (vanP n zs n) 2
    · rfl
    · exact absurd (e.1 hq) hc
end Go.Proofs.Ytoejafpijcacoaa.Rhy
