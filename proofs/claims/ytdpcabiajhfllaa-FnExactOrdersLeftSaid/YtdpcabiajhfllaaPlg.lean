/-
  Helpers of the claims beside this text: the program's division of polynomials.
-/
import Derived.Test.YtdpcabiajhfllaaPle
import Derived.Laws.CopyOwn
import Derived.Deep.RegionHeld3
import Derived.IntWalk
namespace Go.Proofs.Ytdpcabiajhfllaa.Rhy
open Go.RowKit
set_option linter.unusedVariables false
set_option linter.unusedSimpArgs false

theorem co_take (l : List Int) (n i : Nat) : co (l.take n) i = if i < n then co l i else 0 := by
  unfold co
  simp only [List.getD_eq_getElem?_getD, List.getElem?_take]
  split <;> simp
/-- What the program keeps in one list: the rest below, the quotient above. -/
def dvP (a b : List Int) (m : Nat) : Nat → List Int
  | 0 => a
  | j + 1 => addK (dvP a b m j) (a.length - 1 - j - m) (-(co (dvP a b m j) (a.length - 1 - j))) (b.take m) m
theorem dvP_len (a b : List Int) (m j : Nat) : (dvP a b m j).length = a.length := by
  induction j with
  | zero => rfl
  | succ j ih => rw [dvP, addK_len, ih]
theorem dvQ_len (a b : List Int) (j : Nat) : (dvQ a b j).length = j := by
  induction j with
  | zero => rfl
  | succ j ih => rw [dvQ, List.length_cons, ih]
theorem bd_take {M : Int} {l : List Int} (h : Bd M l) (hM : 0 ≤ M) (n : Nat) : Bd M (l.take n) := fun p => by
  rw [co_take]
  split
  · exact h p
  · omega
theorem dvP_bd {a b : List Int} {M : Nat} (ha : Bd M a) (hb : Bd 1 b) (m j : Nat) : Bd ((M * 2 ^ j : Nat) : Int) (dvP a b m j) := by
  induction j with
  | zero => simpa [dvP] using ha
  | succ j ih =>
    rw [dvP]
    have h := addK_bd (X := ((M * 2 ^ j : Nat) : Int)) ih (bd_take hb (by omega) m) (x := -(co (dvP a b m j) (a.length - 1 - j))) (by have := ih (a.length - 1 - j); omega) (a.length - 1 - j - m) m
    refine h.mono ?_
    rw [Nat.pow_succ, Int.mul_one]
    have e : M * (2 ^ j * 2) = M * 2 ^ j + M * 2 ^ j := by rw [← Nat.mul_assoc]; omega
    rw [e]
    omega
theorem dvP_co {a b : List Int} {m : Nat} (hb : b.length = m + 1) (j : Nat) (hj : j + m ≤ a.length) (p : Nat) : co (dvP a b m j) p = if p < a.length - j then co (dvR a b j) p else co (dvQ a b j) (p - (a.length - j)) := by
  induction j generalizing p with
  | zero =>
    rw [dvP, dvR]
    split
    · rfl
    · rw [co_big (by omega)]; simp [dvQ]
  | succ j ih =>
    have ih := ih (by omega)
    have hx : co (dvP a b m j) (a.length - 1 - j) = co (dvR a b j) (a.length - 1 - j) := by rw [ih, if_pos (by omega)]
    rw [dvP, addK_co, dvP_len, hx]
    by_cases h1 : p < a.length - (j + 1)
    · rw [if_pos h1, dvR, addK_co, dvR_len, ih p, if_pos (show p < a.length - j by omega), show a.length - b.length - j = a.length - 1 - j - m by omega, co_take, hb]
      by_cases h2 : p < a.length ∧ a.length - 1 - j - m ≤ p ∧ p < a.length - 1 - j - m + m
      · rw [if_pos h2, if_pos (show p < a.length ∧ a.length - 1 - j - m ≤ p ∧ p < a.length - 1 - j - m + (m + 1) by omega), if_pos (show p - (a.length - 1 - j - m) < m by omega)]
      · rw [if_neg h2, if_neg (show ¬ (p < a.length ∧ a.length - 1 - j - m ≤ p ∧ p < a.length - 1 - j - m + (m + 1)) by omega)]
    · rw [if_neg h1, if_neg (show ¬ (p < a.length ∧ a.length - 1 - j - m ≤ p ∧ p < a.length - 1 - j - m + m) by omega), ih p, dvQ]
      by_cases h2 : p < a.length - j
      · rw [if_pos h2, show p = a.length - 1 - j by omega, show a.length - 1 - j - (a.length - (j + 1)) = 0 by omega, co_zero]
      · rw [if_neg h2, show p - (a.length - (j + 1)) = p - (a.length - j) + 1 by omega, co_succ]
theorem list_co {l m : List Int} (h : l.length = m.length) (hc : ∀ i, i < l.length → co l i = co m i) : l = m := by
  refine List.ext_getElem h fun i h1 h2 => ?_
  rw [← co_get h1, ← co_get h2]
  exact hc i h1
theorem co_drop (l : List Int) (n i : Nat) : co (l.drop n) i = co l (n + i) := by simp [co]
theorem dvP_drop {a b : List Int} {m : Nat} (hb : b.length = m + 1) {j : Nat} (hj : j + m ≤ a.length) : (dvP a b m j).drop (a.length - j) = dvQ a b j := by
  refine list_co (by rw [List.length_drop, dvP_len, dvQ_len]; omega) fun i hi => ?_
  rw [co_drop, dvP_co hb j hj, if_neg (by omega), show a.length - j + i - (a.length - j) = i by omega]
/-- What the division answers with. -/
def quoZ (a b : List Int) : List Int := dvQ a b (steps a b)
def remZ (a b : List Int) : List Int := trimL (dvR a b (steps a b))
theorem quo_drop {a b : List Int} {m : Nat} (hb : b.length = m + 1) : (dvP a b m (a.length - m)).drop (min m a.length) = quoZ a b := by
  unfold quoZ
  have e : steps a b = a.length - m := by unfold steps; omega
  by_cases h : m ≤ a.length
  · rw [e, show min m a.length = a.length - (a.length - m) by omega]
    exact dvP_drop hb (by omega)
  · rw [e, show a.length - m = 0 by omega, dvP, List.drop_of_length_le (by omega)]
    rfl
theorem rem_take {a b : List Int} {m : Nat} (hb : b.length = m + 1) (h1 : co b m = 1) : trimL ((dvP a b m (a.length - m)).take (min m a.length)) = remZ a b := by
  unfold remZ
  have e : steps a b = a.length - m := by unfold steps; omega
  refine trim_one fun i => ?_
  rw [co_take, e]
  by_cases h : m ≤ a.length
  · rw [show min m a.length = m by omega, dvP_co hb _ (by omega)]
    split
    · rw [if_pos (by omega)]
    · exact ((dvR_rest hb h1 (a := a) (j := a.length - m) (by omega)).2 i (by omega)).symm
  · rw [show a.length - m = 0 by omega, dvP, dvR, show min m a.length = a.length by omega]
    split
    · rfl
    · rw [co_big (by omega)]
/-- What a function that answers with a quotient and a rest leaves. -/
def QRPost (q r : List Int) (w : World) (e : Ending) (w' : World) : Prop :=
  ∃ a c b d, e = .returned (.tuple #[.slice a q.length c, .slice b r.length d]) ∧ PRow w' w.heap.size w'.heap.size a q.length c q ∧ PRow w' w.heap.size w'.heap.size b r.length d r ∧ Below w.heap.size w w' ∧ q.length ≤ c ∧ r.length ≤ d

set_option maxHeartbeats 400000 in
theorem sub_any (lo g off m N capp cb : Nat) (L ys : List Int) (f : Int) (b : Option Addr) (M : Int) (W : World) (hrow : W.ownsRow lo 3 1 (.slice (some ⟨g, 0, none⟩) N N) N (ints L)) (hy : ∀ W', Below g W W' → IntsAt W' b m ys) (hoff : off + m ≤ N) (hN : N ≤ 1048576) (hL : Bd M L) (hb1 : Bd 1 ys) (hf : -M ≤ f ∧ f ≤ M) (hM : M ≤ 1000000000000000) :
    Calls Try.prog 116 #[.slice (some ⟨g, off, none⟩) m capp, .int .i64 f, .slice b m cb] W fun e w' => e = .returned (.tuple #[]) ∧ w'.ownsRow lo 3 1 (.slice (some ⟨g, 0, none⟩) N N) N (ints (addK L off (-f) ys m)) ∧ Below g W w' := by
  have HR := Lib.hid hrow
  have HY := Lib.hid hy
  have HL := Lib.hid hL
  have HB1 := Lib.hid hb1
  have HLN := Lib.hid (own_len hrow)
  obtain ⟨hf1, hf2⟩ := hf
  clear hrow hy hL hb1
  go_enter Try.func116, Try.ntmps116
  go_wp2
  go_loopw [10] (fun i wr => ∃ k : Nat, k ≤ m ∧ i = .int .i64 k ∧ wr.ownsRow lo 3 1 (.slice (some ⟨g, 0, none⟩) N N) N (ints (addK L off (-f) ys k)) ∧ Below g W wr) (fun i _ => m - (intOf i).toNat)
  case atStart => exact ⟨0, by omega, rfl, by rw [addK_zero]; exact HR.out, Below.refl _ _⟩
  case round =>
    obtain ⟨k, hk, rfl, hat, hnx⟩ := hrel
    have HAT := Lib.hid hat
    have HNX := Lib.hid hnx
    have HJ : Hid (IntsAt wr b m ys) := Lib.hid (HY.out wr hnx)
    clear hat hnx
    by_cases hlt : k < m
    · obtain ⟨b', off', z, rfl, hb', hs, hc, hz1, hz2⟩ := HJ.out.at hlt
      have hcr := HAT.out.cellAt (off + k) (by omega)
      have hfr := HAT.out.frozenAt (off + k)
      have hll : off + k < (addK L off (-f) ys k).length := by rw [addK_len, HLN.out]; omega
      obtain ⟨c, hcc⟩ : ∃ c, co L (off + k) = c := ⟨_, rfl⟩
      have hcc2 : co (addK L off (-f) ys k) (off + k) = c := by rw [addK_co, if_neg (by omega), hcc]
      have hcv : wr.cell? ⟨g, off + k, none⟩ = some (.int .i64 c) := by
        rw [hcr, ints, List.getElem?_map, List.getElem?_eq_getElem hll, ← co_get hll, hcc2]
        rfl
      have hcb := HL.out (off + k)
      rw [hcc] at hcb
      obtain ⟨hcb1, hcb2⟩ := hcb
      have hzb := HB1.out k
      rw [co_some hs] at hzb
      obtain ⟨P, hP⟩ : ∃ P, f * z = P := ⟨_, rfl⟩
      have hPb : -M ≤ P ∧ P ≤ M := by
        have := cmul_bd ⟨hf1, hf2⟩ hzb
        rw [hP] at this
        omega
      obtain ⟨hPb1, hPb2⟩ := hPb
      have HCN := Lib.hid (show addK L off (-f) ys (k + 1) = (addK L off (-f) ys k).set (off + k) (c - P) by
        rw [addK_succ (by rw [HLN.out]; omega), hcc2, co_some hs, Int.neg_mul, hP]; rfl)
      clear hs hcr hcc hll hcc2 hzb
      go_wp2
      go_roundw
      case rel =>
        have hst := HAT.out.stored (off + k) (.int .i64 (c - P))
        rw [ints, ← List.map_set, ← HCN.out] at hst
        exact ⟨k + 1, by omega, by go_num, hst.1, HNX.out.setCell (Nat.le_refl _) _⟩
      case measure => simp [intOf]; omega
    · have e : k = m := by omega
      subst e
      go_wp2
      go_end0
      exact ⟨rfl, HAT.out, HNX.out⟩


set_option maxHeartbeats 6000000 in
set_option maxRecDepth 100000 in
theorem div_any (a : Option Addr) (la ca : Nat) (xs : List Int) (b : Option Addr) (lb cb : Nat) (ys : List Int) (w : World) (hxa : IntsAt w a la xs) (hyb : IntsAt w b lb ys) (m : Nat) (hl : ys.length = m + 1) (hm : 1 ≤ m) (hmm : m ≤ 1000) (hcb : lb ≤ cb) (h1 : co ys m = 1) (hx : Bd (1000 : Nat) xs) (hb1 : Bd 1 ys) (hla : la ≤ 25) :
    Calls Try.prog 111 #[.slice a la ca, .slice b lb cb] w (QRPost (quoZ xs ys) (remZ xs ys) w) := by
  have HS := Lib.hid hxa
  have HB1 := Lib.hid hb1
  have HLY := Lib.hid hl
  have HCO := Lib.hid h1
  have HLX := Lib.hid hxa.1
  obtain rfl : lb = m + 1 := by have := hyb.1; omega
  obtain ⟨bb, bo, rfl, hbl, hbc⟩ := hyb.2.2 (by omega)
  have HBD : Hid (∀ j, j ≤ 25 → Bd 1000000000000000 (dvP xs ys m j)) := Lib.hid (fun j hj => by
    refine (dvP_bd hx hb1 m j).mono ?_
    have := Nat.pow_le_pow_right (n := 2) (by omega) hj
    have h2 : 1000 * 2 ^ j ≤ 1000 * 2 ^ 25 := Nat.mul_le_mul_left _ this
    have h3 : (1000 * 2 ^ 25 : Nat) ≤ 1000000000000000 := by decide
    omega)
  have HYI := Lib.hid hyb
  obtain ⟨g, hg⟩ : ∃ g, g = w.heap.size := ⟨_, rfl⟩
  have HG := Lib.hid hg
  have HYT : Hid (∀ W, Below g w W → IntsAt W (some ⟨bb, bo, none⟩) m (ys.take m)) := Lib.hid (fun W hW => by
    have h2 := HYI.out.below (by rw [← HG.out]; exact hW)
    refine ⟨by rw [List.length_take, HLY.out]; omega, fun z hz => h2.2.1 z (List.mem_of_mem_take hz), fun hp => ?_⟩
    obtain ⟨b', o', e', hl', hc'⟩ := h2.2.2 (by omega)
    refine ⟨b', o', e', hl', fun j z hj => hc' j z ?_⟩
    rw [List.getElem?_take] at hj
    split at hj
    · exact hj
    · cases hj)
  clear hxa hyb hx hb1 hl h1 hg hbl hbc
  obtain ⟨i0, hi, hz0, hz1, hz2⟩ := info_parts infoInt
  have HI := Lib.hid (show _ ∧ _ ∧ _ ∧ _ from ⟨hi, hz0, hz1, hz2⟩)
  clear hi hz0 hz1 hz2
  go_enter Try.func111, Try.ntmps111
  go_wp2_with (at_make; refine wpList_make_full _ rfl _ _ 86 rfl g 3 i0 (.int .i64 0) 1 Try.underlying86 HI.out.1 HI.out.2.1 HI.out.2.2.1 .i64 .i64 la la la rfl rfl (by go_num) (by go_num) ?b2 ?b3 ?b4 ?_)
  case b2 => rw [HI.out.2.2.2]; omega
  case b3 => unfold maxLen; omega
  case b4 => have := HG.out; omega
  intro w1 hown hgrow
  have HOW := Lib.hid hown
  have HX : Hid (Below g w w1) := Lib.hid ((Below.refl g w).grown hgrow (by have := HG.out; omega) (by intro k hk; cases hk))
  clear hown hgrow
  rw [← HG.out]
  rw [← HG.out] at HOW
  have HZ : Hid (w1.heap[g]? = some (.cells (List.replicate la (Value.int .i64 0)).toArray 3 (0, 0)) ∧ g < w1.heap.size) := Lib.hid (by
    have h := HOW.out
    rw [toList_madeCells_one] at h
    have h2 := h.lt g rfl
    obtain ⟨e1, ⟨e2, _⟩ | ⟨g', cap', cur, e2, e3, e4, e5, e6, e7, e8⟩⟩ := h
    · cases e2
    · cases e2
      refine ⟨?_, h2.2⟩
      rw [e4]
      have : cur.toList = List.replicate la (Value.int .i64 0) := by
        rw [← e8, Nat.mul_one, List.take_of_length_le (by rw [Array.length_toList, e7]; omega)]
      rw [← this])
  have HJ1 : Hid (IntsAt w1 a la xs) := Lib.hid (HS.out.below (by rw [← HG.out]; exact HX.out))
  clear HOW
  go_wp2_with ((with_reducible show wpList _ _ _ _ _ _); refine wpList_copy_splice rfl _ _ 86 86 rfl 3 Try.underlying86 (by kernel_rfl) (some ⟨g, 0, none⟩) a la la la ca rfl rfl g 0 (List.replicate la (Value.int .i64 0)) 3 HZ.out.1 (ints xs) ?d1 ?d2 ?d3 ?d4 g w HX.out (Nat.le_refl _) ?_)
  case d1 => simp [ints, HLX.out]
  case d2 =>
    intro hp
    obtain ⟨b', o', rfl, _, hc'⟩ := HJ1.out.2.2 (by simp [ints, HLX.out] at hp; omega)
    refine ⟨_, rfl, fun j v hj => ?_⟩
    rw [ints, List.getElem?_map] at hj
    cases hq : xs[j]? with
    | none => rw [hq] at hj; cases hj
    | some z => rw [hq] at hj; cases hj; (rcases j with _ | j <;> simpa [Addr.add] using hc' _ z hq)
  case d3 => simp [ints, HLX.out]
  case d4 =>
    intro v hv
    rw [ints, List.mem_map] at hv
    obtain ⟨z, _, rfl⟩ := hv
    rfl
  intro w2 hcell hb2
  have HW2 : Hid (w2.ownsRow g 3 1 (.slice (some ⟨g, 0, none⟩) la la) la (ints (dvP xs ys m 0)) ∧ Below g w w2) := Lib.hid ⟨by
    refine ⟨by simp [ints, dvP, HLX.out], .inr ⟨g, la, (ints xs).toArray, rfl, Nat.le_refl _, ?_, Nat.le_refl _, by unfold maxLen; omega, by simp [ints, HLX.out], by rw [Nat.mul_one, List.take_of_length_le (by simp [ints, HLX.out])]; simp [dvP]⟩⟩
    have := hcell.out
    rw [splice] at this
    simpa [ints, HLX.out] using this, hb2⟩
  clear hcell hb2 HX HZ HJ1
  go_wp2
  go_loopw [8] (fun i wr => ∃ q j : Nat, q + j = la ∧ j ≤ la - m ∧ i = .int .i64 ((q : Int) - 1) ∧ wr.ownsRow g 3 1 (.slice (some ⟨g, 0, none⟩) la la) la (ints (dvP xs ys m j)) ∧ Below g w wr) (fun i _ => (intOf i + 1).toNat)
  case atStart => exact ⟨la, 0, by omega, by omega, by go_num, HW2.out⟩
  case round =>
    clear HW2
    obtain ⟨q, j, hqj, hj, rfl, hat, hnx⟩ := hrel
    have HAT := Lib.hid hat
    have HNX := Lib.hid hnx
    clear hat hnx
    by_cases hlt : m < q
    · obtain ⟨t, rfl⟩ : ∃ t, q = t + 1 := ⟨q - 1, by omega⟩
      obtain ⟨d, rfl⟩ : ∃ d, t = d + m := ⟨t - m, by omega⟩
      obtain ⟨t, ht⟩ : ∃ t, t = d + m := ⟨_, rfl⟩
      rw [← ht] at hqj hlt ⊢
      have HBD := Lib.hid (HBD.out j (by omega))
      have hcr := HAT.out.cellAt t (by omega)
      obtain ⟨c, hcc⟩ : ∃ c, co (dvP xs ys m j) t = c := ⟨_, rfl⟩
      have hll : t < (dvP xs ys m j).length := by rw [dvP_len, HLX.out]; omega
      have hcv : wr.cell? ⟨g, t, none⟩ = some (.int .i64 c) := by
        rw [hcr, ints, List.getElem?_map, List.getElem?_eq_getElem hll, ← co_get hll, hcc]
        rfl
      have hcb := HBD.out t
      rw [hcc] at hcb
      obtain ⟨hcb1, hcb2⟩ := hcb
      have HN : Hid (addK (dvP xs ys m j) d (-c) (ys.take m) m = dvP xs ys m (j + 1)) := Lib.hid (by
        rw [dvP, HLX.out, show la - 1 - j = t by omega, hcc, show t - m = d by omega])
      have HWR : Hid (IntKind.i64.wrap ((t : Int) - (m : Int)) = (d : Int)) := Lib.hid (by
        rw [show (t : Int) - (m : Int) = d by omega]
        exact IntWalk.i64_in _ ⟨by omega, by omega⟩)
      have k1 : (0 : Int) ≤ (d : Int) := by omega
      have k2 : (d : Int) ≤ (t : Int) := by omega
      have k3 : (t : Int) ≤ (la : Int) := by omega
      have k4 : (m : Int) ≤ (cb : Int) := by omega
      have k5 : t - d = m := by omega
      have k6 : ¬ t = d := by omega
      have k7 : d ≤ t := by omega
      have k8 : t < la := by omega
      clear hcr hcc hll ht
      go_wp2
      refine wp_region_held_drew (S := fun _ => True) (by kernel_rfl) trivial (fun hSS0 => ?_)
      refine wpAnyH_take (i := 0) (oi := ⟨some 27, _, _, _, _, _⟩) (v := .slice (some ⟨g, 0, none⟩) la la) rfl (by kernel_rfl) (by kernel_rfl) (by kernel_rfl) (fun _ _ _ h => h) (Or.inl ⟨by rfl, fun W hSw => by go_simp⟩) (by assumption) ?_
      try simp only [Act.put, List.setIfInBounds_toArray, List.set_cons_zero, List.set_cons_succ]
      refine wpAnyH_take (i := 1) (oi := ⟨some 28, _, _, _, _, _⟩) (v := .int .i64 t) rfl (by kernel_rfl) (by kernel_rfl) (by kernel_rfl) (fun _ _ _ h => h) (Or.inl ⟨by rfl, fun W hSw => by go_simp⟩) (by assumption) ?_
      try simp only [Act.put, List.setIfInBounds_toArray, List.set_cons_zero, List.set_cons_succ]
      refine wpAnyH_take (i := 2) (oi := ⟨some 29, _, _, _, _, _⟩) (v := .int .i64 m) rfl (by kernel_rfl) (by kernel_rfl) (by kernel_rfl) (fun _ _ _ h => h) (Or.inl ⟨by rfl, fun W hSw => by go_simp⟩) (by assumption) ?_
      try simp only [Act.put, List.setIfInBounds_toArray, List.set_cons_zero, List.set_cons_succ]
      refine wpAnyH_take (i := 3) (oi := ⟨some 30, _, _, _, _, _⟩) (v := .int .i64 d) rfl (by kernel_rfl) (by kernel_rfl) (by kernel_rfl) (fun _ _ _ h => h) (Or.inl ⟨by rfl, fun W hSw => by have hx := HWR.out; go_simp⟩) (by assumption) ?_
      try simp only [Act.put, List.setIfInBounds_toArray, List.set_cons_zero, List.set_cons_succ]
      refine wpAnyH_take (i := 4) (oi := ⟨some 31, _, _, _, _, _⟩) (v := .int .i64 t) rfl (by kernel_rfl) (by kernel_rfl) (by kernel_rfl) (fun _ _ _ h => h) (Or.inl ⟨by rfl, fun W hSw => by go_simp⟩) (by assumption) ?_
      try simp only [Act.put, List.setIfInBounds_toArray, List.set_cons_zero, List.set_cons_succ]
      refine wpAnyH_take (i := 5) (oi := ⟨some 32, _, _, _, _, _⟩) (v := .int .i64 t) rfl (by kernel_rfl) (by kernel_rfl) (by kernel_rfl) (fun _ _ _ h => h) (Or.inl ⟨by rfl, fun W hSw => by go_simp⟩) (by assumption) ?_
      try simp only [Act.put, List.setIfInBounds_toArray, List.set_cons_zero, List.set_cons_succ]
      refine wpAnyH_take (i := 6) (oi := ⟨some 33, _, _, _, _, _⟩) (v := .slice (some ⟨g, d, none⟩) m m) rfl (by kernel_rfl) (by kernel_rfl) (by kernel_rfl) (fun _ _ _ h => h) (Or.inl ⟨by rfl, fun W hSw => by go_simp⟩) (by assumption) ?_
      try simp only [Act.put, List.setIfInBounds_toArray, List.set_cons_zero, List.set_cons_succ]
      refine wpAnyH_take (i := 7) (oi := ⟨some 34, _, _, _, _, _⟩) (v := .slice (some ⟨g, 0, none⟩) la la) rfl (by kernel_rfl) (by kernel_rfl) (by kernel_rfl) (fun _ _ _ h => h) (Or.inl ⟨by rfl, fun W hSw => by go_simp⟩) (by assumption) ?_
      try simp only [Act.put, List.setIfInBounds_toArray, List.set_cons_zero, List.set_cons_succ]
      refine wpAnyH_take (i := 8) (oi := ⟨some 35, _, _, _, _, _⟩) (v := .int .i64 t) rfl (by kernel_rfl) (by kernel_rfl) (by kernel_rfl) (fun _ _ _ h => h) (Or.inl ⟨by rfl, fun W hSw => by go_simp⟩) (by assumption) ?_
      try simp only [Act.put, List.setIfInBounds_toArray, List.set_cons_zero, List.set_cons_succ]
      refine wpAnyH_take (i := 9) (oi := ⟨some 36, _, _, _, _, _⟩) (v := .pointer (some ⟨g, t, none⟩)) rfl (by kernel_rfl) (by kernel_rfl) (by kernel_rfl) (fun _ _ _ h => h) (Or.inl ⟨by rfl, fun W hSw => by go_simp⟩) (by assumption) ?_
      try simp only [Act.put, List.setIfInBounds_toArray, List.set_cons_zero, List.set_cons_succ]
      refine wpAnyH_take (i := 11) (oi := ⟨some 38, _, _, _, _, _⟩) (v := .slice (some ⟨bb, bo, none⟩) (m + 1) cb) rfl (by kernel_rfl) (by kernel_rfl) (by kernel_rfl) (fun _ _ _ h => h) (Or.inl ⟨by rfl, fun W hSw => by go_simp⟩) (by assumption) ?_
      try simp only [Act.put, List.setIfInBounds_toArray, List.set_cons_zero, List.set_cons_succ]
      refine wpAnyH_take (i := 12) (oi := ⟨some 39, _, _, _, _, _⟩) (v := .int .i64 m) rfl (by kernel_rfl) (by kernel_rfl) (by kernel_rfl) (fun _ _ _ h => h) (Or.inl ⟨by rfl, fun W hSw => by go_simp⟩) (by assumption) ?_
      try simp only [Act.put, List.setIfInBounds_toArray, List.set_cons_zero, List.set_cons_succ]
      refine wpAnyH_take (i := 13) (oi := ⟨some 40, _, _, _, _, _⟩) (v := .slice (some ⟨bb, bo, none⟩) m cb) rfl (by kernel_rfl) (by kernel_rfl) (by kernel_rfl) (fun _ _ _ h => h) (Or.inl ⟨by rfl, fun W hSw => by go_simp⟩) (by assumption) ?_
      try simp only [Act.put, List.setIfInBounds_toArray, List.set_cons_zero, List.set_cons_succ]
      refine wpAnyH_ready (rs := [10]) (by kernel_rfl) (by simp) ?_
      refine AllReadyH.cons rfl (fun K hKK => ?_) AllReadyH.nil
      go_simp
      refine hKK.out _ _ trivial (fun hSS1 => ?_)
      clear hKK K hSS0
      try simp only [Act.put, List.setIfInBounds_toArray, List.set_cons_zero, List.set_cons_succ]
      refine wpAnyH_ready (rs := [14]) (by kernel_rfl) (by simp) ?_
      refine AllReadyH.cons rfl (fun K hKK => ?_) AllReadyH.nil
      go_simp
      go_at_call 116
      refine (sub_any g g d m la m cb (dvP xs ys m j) (ys.take m) c (some ⟨bb, bo, none⟩) 1000000000000000 _ (own_below HAT.out (Below.refl _ _).drew) (fun W' hW' => HYT.out W' ((HNX.out.drew).trans hW')) (by omega) (by omega) HBD.out (bd_take HB1.out (by omega) m) ⟨hcb1, hcb2⟩ (by omega)).mono ?_
      rintro e w' ⟨rfl, hrow, hbel⟩
      have HRN := Lib.hid hrow
      have HBN := Lib.hid ((HNX.out.drew).trans hbel)
      clear hrow hbel
      refine hKK.out _ _ trivial (fun hSS2 => ?_)
      clear hKK K hSS1
      try simp only [Act.put, List.setIfInBounds_toArray, List.set_cons_zero, List.set_cons_succ]
      refine wpAnyH_done (by kernel_rfl) ?_ _
      go_wp2
      go_roundw
      case rel => exact ⟨t, j + 1, by omega, by omega, by go_num, by rw [← HN.out]; exact HRN.out, HBN.out⟩
      case measure => first | (simp [intOf]; done) | (simp [intOf]; omega)
    · have hj2 : j = xs.length - m := by have := HLX.out; omega
      subst hj2
      obtain ⟨cut, hcut⟩ : ∃ cut, cut = min m la := ⟨_, rfl⟩
      have HRT : Hid (IntsAt wr (some ⟨g, 0, none⟩) cut ((dvP xs ys m (xs.length - m)).take cut)) := Lib.hid (by
        have h2 := intsAt_own HAT.out (bd_int (HBD.out _ (by have := HLX.out; omega)) (by omega))
        refine ⟨by rw [List.length_take, dvP_len, HLX.out]; omega, fun z hz => h2.2.1 z (List.mem_of_mem_take hz), fun hp => ?_⟩
        obtain ⟨b', o', e', hl', hc'⟩ := h2.2.2 (by omega)
        refine ⟨b', o', e', hl', fun j z hj => hc' j z ?_⟩
        rw [List.getElem?_take] at hj
        split at hj
        · exact hj
        · cases hj)
      have HRE : Hid (trimL ((dvP xs ys m (xs.length - m)).take cut) = remZ xs ys) := Lib.hid (by rw [hcut, ← HLX.out]; exact rem_take HLY.out HCO.out)
      have HQU : Hid ((dvP xs ys m (xs.length - m)).drop cut = quoZ xs ys) := Lib.hid (by rw [hcut, ← HLX.out]; exact quo_drop HLY.out)
      have hcl : cut ≤ la := by omega
      have hc0 : (0 : Int) ≤ (cut : Int) := by omega
      have hc1 : (cut : Int) ≤ (la : Int) := by omega
      have HQL : Hid ((quoZ xs ys).length = la - cut) := Lib.hid (by rw [← HQU.out, List.length_drop, dvP_len, HLX.out])
      rcases Nat.lt_trichotomy m la with hlc | hlc | hlc
      · have hq2 : (m : Int) < (la : Int) := by omega
        obtain rfl : m = cut := by omega
        clear hcut hc0 hc1
        obtain ⟨D, hD⟩ : ∃ D, la - m = D := ⟨_, rfl⟩
        have HD := Lib.hid hD
        have j5 : ¬ la = m := by omega
        have j2 : m ≤ la := hcl
        have j4 : ¬ la < m := by omega
        have HHT : Hid (IntsAt wr.drew (some ⟨g, 0, none⟩) m ((dvP xs ys m (xs.length - m)).take m)) := Lib.hid (HRT.out.below (Below.refl _ _).drew)
        go_wp2
        refine wp_region_held_drew (S := fun _ => True) (by kernel_rfl) trivial (fun hSS0 => ?_)
        refine wpAnyH_take (i := 0) (oi := ⟨some 46, _, _, _, _, _⟩) (v := .slice (some ⟨g, 0, none⟩) la la) rfl (by kernel_rfl) (by kernel_rfl) (by kernel_rfl) (fun _ _ _ h => h) (Or.inl ⟨by rfl, fun W hSw => by go_simp⟩) (by assumption) ?_
        try simp only [Act.put, List.setIfInBounds_toArray, List.set_cons_zero, List.set_cons_succ]
        refine wpAnyH_take (i := 1) (oi := ⟨some 47, _, _, _, _, _⟩) (v := .int .i64 m) rfl (by kernel_rfl) (by kernel_rfl) (by kernel_rfl) (fun _ _ _ h => h) (Or.inl ⟨by rfl, fun W hSw => by go_simp⟩) (by assumption) ?_
        try simp only [Act.put, List.setIfInBounds_toArray, List.set_cons_zero, List.set_cons_succ]
        refine wpAnyH_take (i := 2) (oi := ⟨some 48, _, _, _, _, _⟩) (v := .slice (some ⟨g, m, none⟩) D D) rfl (by kernel_rfl) (by kernel_rfl) (by kernel_rfl) (fun _ _ _ h => h) (Or.inl ⟨by rfl, fun W hSw => by go_simp⟩) (by assumption) ?_
        try simp only [Act.put, List.setIfInBounds_toArray, List.set_cons_zero, List.set_cons_succ]
        refine wpAnyH_take (i := 3) (oi := ⟨some 49, _, _, _, _, _⟩) (v := .slice (some ⟨g, 0, none⟩) la la) rfl (by kernel_rfl) (by kernel_rfl) (by kernel_rfl) (fun _ _ _ h => h) (Or.inl ⟨by rfl, fun W hSw => by go_simp⟩) (by assumption) ?_
        try simp only [Act.put, List.setIfInBounds_toArray, List.set_cons_zero, List.set_cons_succ]
        refine wpAnyH_take (i := 4) (oi := ⟨some 50, _, _, _, _, _⟩) (v := .int .i64 m) rfl (by kernel_rfl) (by kernel_rfl) (by kernel_rfl) (fun _ _ _ h => h) (Or.inl ⟨by rfl, fun W hSw => by go_simp⟩) (by assumption) ?_
        try simp only [Act.put, List.setIfInBounds_toArray, List.set_cons_zero, List.set_cons_succ]
        refine wpAnyH_take (i := 5) (oi := ⟨some 51, _, _, _, _, _⟩) (v := .int .i64 m) rfl (by kernel_rfl) (by kernel_rfl) (by kernel_rfl) (fun _ _ _ h => h) (Or.inl ⟨by rfl, fun W hSw => by go_simp⟩) (by assumption) ?_
        try simp only [Act.put, List.setIfInBounds_toArray, List.set_cons_zero, List.set_cons_succ]
        refine wpAnyH_take (i := 6) (oi := ⟨some 52, _, _, _, _, _⟩) (v := .slice (some ⟨g, 0, none⟩) m m) rfl (by kernel_rfl) (by kernel_rfl) (by kernel_rfl) (fun _ _ _ h => h) (Or.inl ⟨by rfl, fun W hSw => by go_simp⟩) (by assumption) ?_
        try simp only [Act.put, List.setIfInBounds_toArray, List.set_cons_zero, List.set_cons_succ]
        refine wpAnyH_ready (rs := [7]) (by kernel_rfl) (by simp) ?_
        refine AllReadyH.cons rfl (fun K hKK => ?_) AllReadyH.nil
        go_simp
        go_at_call 115
        refine (trim_impl (some ⟨g, 0, none⟩) m m _ _ HHT.out (by omega) (Nat.le_refl _)).mono ?_
        rintro e w2 ⟨rfl, rfl⟩
        refine hKK.out _ _ trivial (fun hSS1 => ?_)
        clear hKK K hSS0
        try simp only [Act.put, List.setIfInBounds_toArray, List.set_cons_zero, List.set_cons_succ]
        refine wpAnyH_take (i := 8) (oi := ⟨some 4, _, _, _, _, _⟩) (v := .slice (some ⟨g, m, none⟩) D D) rfl (by kernel_rfl) (by kernel_rfl) (by kernel_rfl) (fun _ _ _ h => h) (Or.inl ⟨by rfl, fun W hSw => by go_simp⟩) (by assumption) ?_
        try simp only [Act.put, List.setIfInBounds_toArray, List.set_cons_zero, List.set_cons_succ]
        refine wpAnyH_take (i := 9) (oi := ⟨some 5, _, _, _, _, _⟩) (v := .slice (some ⟨g, 0, none⟩) (trimL (List.take m (dvP xs ys m (xs.length - m)))).length (trimL (List.take m (dvP xs ys m (xs.length - m)))).length) rfl (by kernel_rfl) (by kernel_rfl) (by kernel_rfl) (fun _ _ _ h => h) (Or.inl ⟨by rfl, fun W hSw => by go_simp⟩) (by assumption) ?_
        try simp only [Act.put, List.setIfInBounds_toArray, List.set_cons_zero, List.set_cons_succ]
        refine wpAnyH_done (by kernel_rfl) ?_ _
        go_wp2
        go_ret2
        rw [HRE.out, ← HD.out, ← HQL.out]
        have hgw : wr.drew.ownsRow g 3 1 (.slice (some ⟨g, 0, none⟩) la la) la (ints (dvP xs ys m (xs.length - m))) := own_below HAT.out (Below.refl _ _).drew
        refine ⟨_, _, _, _, rfl, ?_, ?_, ?_, Nat.le_refl _, Nat.le_refl _⟩
        · rw [← HG.out]
          exact prow_own hgw m _ _ (by rw [HQL.out]; omega) (by rw [HQU.out, List.take_length])
        · rw [← HG.out]
          exact prow_own hgw 0 _ _ (by have h1 := trim_len ((dvP xs ys m (xs.length - m)).take m); rw [HRE.out, List.length_take] at h1; omega) (by rw [List.drop_zero]; have h1 := trim_is_take ((dvP xs ys m (xs.length - m)).take m); rw [HRE.out, List.take_take, Nat.min_eq_left (by have h1 := trim_len ((dvP xs ys m (xs.length - m)).take m); rw [HRE.out, List.length_take] at h1; omega)] at h1; exact h1.symm)
        · rw [← HG.out]
          exact HNX.out.drew
      · subst hlc
        obtain rfl : m = cut := by omega
        clear hcut hc0 hc1
        have HQ0 : Hid ((quoZ xs ys).length = 0) := Lib.hid (by rw [HQL.out]; omega)
        have j2 : m ≤ m := hcl
        have j4 : ¬ m < m := by omega
        have HHT : Hid (IntsAt wr.drew (some ⟨g, 0, none⟩) m ((dvP xs ys m (xs.length - m)).take m)) := Lib.hid (HRT.out.below (Below.refl _ _).drew)
        go_wp2
        refine wp_region_held_drew (S := fun _ => True) (by kernel_rfl) trivial (fun hSS0 => ?_)
        refine wpAnyH_take (i := 0) (oi := ⟨some 46, _, _, _, _, _⟩) (v := .slice (some ⟨g, 0, none⟩) m m) rfl (by kernel_rfl) (by kernel_rfl) (by kernel_rfl) (fun _ _ _ h => h) (Or.inl ⟨by rfl, fun W hSw => by go_simp⟩) (by assumption) ?_
        try simp only [Act.put, List.setIfInBounds_toArray, List.set_cons_zero, List.set_cons_succ]
        refine wpAnyH_take (i := 1) (oi := ⟨some 47, _, _, _, _, _⟩) (v := .int .i64 m) rfl (by kernel_rfl) (by kernel_rfl) (by kernel_rfl) (fun _ _ _ h => h) (Or.inl ⟨by rfl, fun W hSw => by go_simp⟩) (by assumption) ?_
        try simp only [Act.put, List.setIfInBounds_toArray, List.set_cons_zero, List.set_cons_succ]
        refine wpAnyH_take (i := 2) (oi := ⟨some 48, _, _, _, _, _⟩) (v := .slice (some ⟨g, 0, none⟩) 0 0) rfl (by kernel_rfl) (by kernel_rfl) (by kernel_rfl) (fun _ _ _ h => h) (Or.inl ⟨by rfl, fun W hSw => by go_simp⟩) (by assumption) ?_
        try simp only [Act.put, List.setIfInBounds_toArray, List.set_cons_zero, List.set_cons_succ]
        refine wpAnyH_take (i := 3) (oi := ⟨some 49, _, _, _, _, _⟩) (v := .slice (some ⟨g, 0, none⟩) m m) rfl (by kernel_rfl) (by kernel_rfl) (by kernel_rfl) (fun _ _ _ h => h) (Or.inl ⟨by rfl, fun W hSw => by go_simp⟩) (by assumption) ?_
        try simp only [Act.put, List.setIfInBounds_toArray, List.set_cons_zero, List.set_cons_succ]
        refine wpAnyH_take (i := 4) (oi := ⟨some 50, _, _, _, _, _⟩) (v := .int .i64 m) rfl (by kernel_rfl) (by kernel_rfl) (by kernel_rfl) (fun _ _ _ h => h) (Or.inl ⟨by rfl, fun W hSw => by go_simp⟩) (by assumption) ?_
        try simp only [Act.put, List.setIfInBounds_toArray, List.set_cons_zero, List.set_cons_succ]
        refine wpAnyH_take (i := 5) (oi := ⟨some 51, _, _, _, _, _⟩) (v := .int .i64 m) rfl (by kernel_rfl) (by kernel_rfl) (by kernel_rfl) (fun _ _ _ h => h) (Or.inl ⟨by rfl, fun W hSw => by go_simp⟩) (by assumption) ?_
        try simp only [Act.put, List.setIfInBounds_toArray, List.set_cons_zero, List.set_cons_succ]
        refine wpAnyH_take (i := 6) (oi := ⟨some 52, _, _, _, _, _⟩) (v := .slice (some ⟨g, 0, none⟩) m m) rfl (by kernel_rfl) (by kernel_rfl) (by kernel_rfl) (fun _ _ _ h => h) (Or.inl ⟨by rfl, fun W hSw => by go_simp⟩) (by assumption) ?_
        try simp only [Act.put, List.setIfInBounds_toArray, List.set_cons_zero, List.set_cons_succ]
        refine wpAnyH_ready (rs := [7]) (by kernel_rfl) (by simp) ?_
        refine AllReadyH.cons rfl (fun K hKK => ?_) AllReadyH.nil
        go_simp
        go_at_call 115
        refine (trim_impl (some ⟨g, 0, none⟩) m m _ _ HHT.out (by omega) (Nat.le_refl _)).mono ?_
        rintro e w2 ⟨rfl, rfl⟩
        refine hKK.out _ _ trivial (fun hSS1 => ?_)
        clear hKK K hSS0
        try simp only [Act.put, List.setIfInBounds_toArray, List.set_cons_zero, List.set_cons_succ]
        refine wpAnyH_take (i := 8) (oi := ⟨some 4, _, _, _, _, _⟩) (v := .slice (some ⟨g, 0, none⟩) 0 0) rfl (by kernel_rfl) (by kernel_rfl) (by kernel_rfl) (fun _ _ _ h => h) (Or.inl ⟨by rfl, fun W hSw => by go_simp⟩) (by assumption) ?_
        try simp only [Act.put, List.setIfInBounds_toArray, List.set_cons_zero, List.set_cons_succ]
        refine wpAnyH_take (i := 9) (oi := ⟨some 5, _, _, _, _, _⟩) (v := .slice (some ⟨g, 0, none⟩) (trimL (List.take m (dvP xs ys m (xs.length - m)))).length (trimL (List.take m (dvP xs ys m (xs.length - m)))).length) rfl (by kernel_rfl) (by kernel_rfl) (by kernel_rfl) (fun _ _ _ h => h) (Or.inl ⟨by rfl, fun W hSw => by go_simp⟩) (by assumption) ?_
        try simp only [Act.put, List.setIfInBounds_toArray, List.set_cons_zero, List.set_cons_succ]
        refine wpAnyH_done (by kernel_rfl) ?_ _
        go_wp2
        go_ret2
        rw [HRE.out]
        have hgw : wr.drew.ownsRow g 3 1 (.slice (some ⟨g, 0, none⟩) m m) m (ints (dvP xs ys m (xs.length - m))) := own_below HAT.out (Below.refl _ _).drew
        refine ⟨some ⟨g, 0, none⟩, 0, some ⟨g, 0, none⟩, _, (by rw [HQ0.out]; rfl), ?_, ?_, ?_, by rw [HQ0.out]; exact Nat.le_refl _, Nat.le_refl _⟩
        · rw [← HG.out]
          exact ⟨rfl, Nat.le_refl _, fun h => by rw [HQ0.out] at h; omega⟩
        · rw [← HG.out]
          exact prow_own hgw 0 _ _ (by have h1 := trim_len ((dvP xs ys m (xs.length - m)).take m); rw [HRE.out, List.length_take] at h1; omega) (by rw [List.drop_zero]; have h1 := trim_is_take ((dvP xs ys m (xs.length - m)).take m); rw [HRE.out, List.take_take, Nat.min_eq_left (by have h1 := trim_len ((dvP xs ys m (xs.length - m)).take m); rw [HRE.out, List.length_take] at h1; omega)] at h1; exact h1.symm)
        · rw [← HG.out]
          exact HNX.out.drew
      · have hq2 : (la : Int) < (m : Int) := by omega
        obtain rfl : la = cut := by omega
        clear hcut hc0 hc1
        have HQ0 : Hid ((quoZ xs ys).length = 0) := Lib.hid (by rw [HQL.out]; omega)
        have j2 : la ≤ la := hcl
        have j4 : ¬ la < la := by omega
        have HHT : Hid (IntsAt wr.drew (some ⟨g, 0, none⟩) la ((dvP xs ys m (xs.length - m)).take la)) := Lib.hid (HRT.out.below (Below.refl _ _).drew)
        go_wp2
        refine wp_region_held_drew (S := fun _ => True) (by kernel_rfl) trivial (fun hSS0 => ?_)
        refine wpAnyH_take (i := 0) (oi := ⟨some 46, _, _, _, _, _⟩) (v := .slice (some ⟨g, 0, none⟩) la la) rfl (by kernel_rfl) (by kernel_rfl) (by kernel_rfl) (fun _ _ _ h => h) (Or.inl ⟨by rfl, fun W hSw => by go_simp⟩) (by assumption) ?_
        try simp only [Act.put, List.setIfInBounds_toArray, List.set_cons_zero, List.set_cons_succ]
        refine wpAnyH_take (i := 1) (oi := ⟨some 47, _, _, _, _, _⟩) (v := .int .i64 la) rfl (by kernel_rfl) (by kernel_rfl) (by kernel_rfl) (fun _ _ _ h => h) (Or.inl ⟨by rfl, fun W hSw => by go_simp⟩) (by assumption) ?_
        try simp only [Act.put, List.setIfInBounds_toArray, List.set_cons_zero, List.set_cons_succ]
        refine wpAnyH_take (i := 2) (oi := ⟨some 48, _, _, _, _, _⟩) (v := .slice (some ⟨g, 0, none⟩) 0 0) rfl (by kernel_rfl) (by kernel_rfl) (by kernel_rfl) (fun _ _ _ h => h) (Or.inl ⟨by rfl, fun W hSw => by go_simp⟩) (by assumption) ?_
        try simp only [Act.put, List.setIfInBounds_toArray, List.set_cons_zero, List.set_cons_succ]
        refine wpAnyH_take (i := 3) (oi := ⟨some 49, _, _, _, _, _⟩) (v := .slice (some ⟨g, 0, none⟩) la la) rfl (by kernel_rfl) (by kernel_rfl) (by kernel_rfl) (fun _ _ _ h => h) (Or.inl ⟨by rfl, fun W hSw => by go_simp⟩) (by assumption) ?_
        try simp only [Act.put, List.setIfInBounds_toArray, List.set_cons_zero, List.set_cons_succ]
        refine wpAnyH_take (i := 4) (oi := ⟨some 50, _, _, _, _, _⟩) (v := .int .i64 la) rfl (by kernel_rfl) (by kernel_rfl) (by kernel_rfl) (fun _ _ _ h => h) (Or.inl ⟨by rfl, fun W hSw => by go_simp⟩) (by assumption) ?_
        try simp only [Act.put, List.setIfInBounds_toArray, List.set_cons_zero, List.set_cons_succ]
        refine wpAnyH_take (i := 5) (oi := ⟨some 51, _, _, _, _, _⟩) (v := .int .i64 la) rfl (by kernel_rfl) (by kernel_rfl) (by kernel_rfl) (fun _ _ _ h => h) (Or.inl ⟨by rfl, fun W hSw => by go_simp⟩) (by assumption) ?_
        try simp only [Act.put, List.setIfInBounds_toArray, List.set_cons_zero, List.set_cons_succ]
        refine wpAnyH_take (i := 6) (oi := ⟨some 52, _, _, _, _, _⟩) (v := .slice (some ⟨g, 0, none⟩) la la) rfl (by kernel_rfl) (by kernel_rfl) (by kernel_rfl) (fun _ _ _ h => h) (Or.inl ⟨by rfl, fun W hSw => by go_simp⟩) (by assumption) ?_
        try simp only [Act.put, List.setIfInBounds_toArray, List.set_cons_zero, List.set_cons_succ]
        refine wpAnyH_ready (rs := [7]) (by kernel_rfl) (by simp) ?_
        refine AllReadyH.cons rfl (fun K hKK => ?_) AllReadyH.nil
        go_simp
        go_at_call 115
        refine (trim_impl (some ⟨g, 0, none⟩) la la _ _ HHT.out (by omega) (Nat.le_refl _)).mono ?_
        rintro e w2 ⟨rfl, rfl⟩
        refine hKK.out _ _ trivial (fun hSS1 => ?_)
        clear hKK K hSS0
        try simp only [Act.put, List.setIfInBounds_toArray, List.set_cons_zero, List.set_cons_succ]
        refine wpAnyH_take (i := 8) (oi := ⟨some 4, _, _, _, _, _⟩) (v := .slice (some ⟨g, 0, none⟩) 0 0) rfl (by kernel_rfl) (by kernel_rfl) (by kernel_rfl) (fun _ _ _ h => h) (Or.inl ⟨by rfl, fun W hSw => by go_simp⟩) (by assumption) ?_
        try simp only [Act.put, List.setIfInBounds_toArray, List.set_cons_zero, List.set_cons_succ]
        refine wpAnyH_take (i := 9) (oi := ⟨some 5, _, _, _, _, _⟩) (v := .slice (some ⟨g, 0, none⟩) (trimL (List.take la (dvP xs ys m (xs.length - m)))).length (trimL (List.take la (dvP xs ys m (xs.length - m)))).length) rfl (by kernel_rfl) (by kernel_rfl) (by kernel_rfl) (fun _ _ _ h => h) (Or.inl ⟨by rfl, fun W hSw => by go_simp⟩) (by assumption) ?_
        try simp only [Act.put, List.setIfInBounds_toArray, List.set_cons_zero, List.set_cons_succ]
        refine wpAnyH_done (by kernel_rfl) ?_ _
        go_wp2
        go_ret2
        rw [HRE.out]
        have hgw : wr.drew.ownsRow g 3 1 (.slice (some ⟨g, 0, none⟩) la la) la (ints (dvP xs ys m (xs.length - m))) := own_below HAT.out (Below.refl _ _).drew
        refine ⟨some ⟨g, 0, none⟩, 0, some ⟨g, 0, none⟩, _, (by rw [HQ0.out]; rfl), ?_, ?_, ?_, by rw [HQ0.out]; exact Nat.le_refl _, Nat.le_refl _⟩
        · rw [← HG.out]
          exact ⟨rfl, Nat.le_refl _, fun h => by rw [HQ0.out] at h; omega⟩
        · rw [← HG.out]
          exact prow_own hgw 0 _ _ (by have h1 := trim_len ((dvP xs ys m (xs.length - m)).take la); rw [HRE.out, List.length_take] at h1; omega) (by rw [List.drop_zero]; have h1 := trim_is_take ((dvP xs ys m (xs.length - m)).take la); rw [HRE.out, List.take_take, Nat.min_eq_left (by have h1 := trim_len ((dvP xs ys m (xs.length - m)).take la); rw [HRE.out, List.length_take] at h1; omega)] at h1; exact h1.symm)
        · rw [← HG.out]
          exact HNX.out.drew
end Go.Proofs.Ytdpcabiajhfllaa.Rhy
