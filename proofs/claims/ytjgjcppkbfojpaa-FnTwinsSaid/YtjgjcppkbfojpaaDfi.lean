/-
  Helpers of the claims beside this text: differences of the program, counted in a map.
-/
import Derived.Test.YtjgjcppkbfojpaaDif
import Derived.Test.YtjgjcppkbfojpaaIvl
import Derived.Test.YtjgjcppkbfojpaaMps
import Derived.Test.YtjgjcppkbfojpaaItm
namespace Go.Proofs.Ytjgjcppkbfojpaa.Rhy
open Go.RowKit Go.Maps
set_option linter.unusedVariables false

/-- The shorter way around. -/
def shB (n p : Nat) : Nat := min p (n - p)
theorem short_any (n p : Nat) (w : World) (hn1 : 1 ≤ n) (hn : n ≤ 24) (hp : p < n) :
    Calls Try.prog 79 #[difV n p] w fun e w' => e = .returned (.int .i64 (shB n p)) ∧ Below w.heap.size w w' := by
  obtain ⟨w1, hW⟩ : ∃ w1, w1 = w.alloc (.cells #[.int .i64 n, .int .i64 p] 77) := ⟨_, rfl⟩
  have HW := Lib.hid hW
  have HB := Lib.hid (show Below w.heap.size w w1 by rw [hW]; exact bel1 w _)
  have HT := Lib.hid (show Two w1 w.heap.size (.int .i64 n) (.int .i64 p) by rw [hW]; exact two_new w _ _ _)
  clear hW
  obtain ⟨t1, t1a, t1b⟩ := HT.out
  go_enter Try.func79, Try.ntmps79
  unfold difV
  go_wp2_with fail
  rw [← HW.out]
  go_wp2
  go_ret
  exact ⟨ret_int (by unfold shB; omega), HB.out⟩
/-! ### the map of the differences -/
/-- How often a number is in a list. -/
def cf (L : List Int) (q : Nat) : Nat := L.count (q : Int)
theorem cf_snoc (L : List Int) (r : Nat) : upd (cf L) r (cf L r + 1) = cf (L ++ [(r : Int)]) := by
  funext q
  unfold upd cf
  rw [List.count_append]
  by_cases e : q = r
  · subst e; simp
  · rw [if_neg e]
    have : List.count (q : Int) [(r : Int)] = 0 := List.count_eq_zero_of_not_mem (by simp; omega)
    omega
theorem box_grown {w w' : World} {g h : Nat} {v0 v1 : Value} {t : TypeId} (hb : Box w g v0 v1 t) (hg : w.grownBy w' (some h)) (hne : g ≠ h) : Box w' g v0 v1 t :=
  (hg.block g hb.lt (by simpa using hne)).trans hb
def DfmAt (g n m : Nat) (L : List Int) (a : Option Addr) (len cap : Nat) (w wr : World) : Prop :=
  Box wr g (.int .i64 n) (.slice a len cap) 25 ∧ Cnt n wr (g + 1) m 0 n (cf L) ∧ Below g w wr ∧ g + 2 ≤ wr.heap.size

set_option maxHeartbeats 2000000 in
theorem difs_any (n : Nat) (a : Option Addr) (len cap : Nat) (zs : List Int) (w : World) (h : IntsAt w a len zs) (hm : len ≤ 1048576) (ho : Ok n zs) :
    Calls Try.prog 129 #[rhy n a len cap] w fun e w' => ∃ b m, e = .returned (.map (some b)) ∧ w.heap.size ≤ b ∧ m ≤ 1000 ∧ Cnt n w' b m 0 n (fun i => difAt n zs i) ∧ Below w.heap.size w w' := by
  have HS := Lib.hid h
  have HO := Lib.hid ho
  have hn1 : 1 ≤ n := by have := ho.1.1; omega
  have hn24 : n ≤ 24 := by have := ho.1.2; omega
  have hnn : (0 : Int) ≤ n ∧ (n : Int) ≤ 1000 := by omega
  have hN1 : n ≤ 1000 := by omega
  have hlz : zs.length ≤ 24 := ok_len ho
  have hll : len = zs.length := HS.out.1.symm
  have HLL := Lib.hid hll
  have HLZ := Lib.hid hlz
  have hlen : len ≤ 24 := by omega
  clear h ho hll hlz
  obtain ⟨g, hg⟩ : ∃ g, g = w.heap.size := ⟨_, rfl⟩
  have HG := Lib.hid hg
  clear hg
  obtain ⟨W0, hW⟩ : ∃ W0, W0 = w.alloc (.cells #[.int .i64 n, .slice a len cap] 25) := ⟨_, rfl⟩
  have HW := Lib.hid hW
  clear hW
  have HSZ := Lib.hid (show W0.heap.size = g + 1 by rw [HW.out, HG.out]; simp)
  have HT0 := Lib.hid (show Box W0 g (.int .i64 n) (.slice a len cap) 25 by rw [HW.out, HG.out]; exact box_new w _ _ _)
  have HBW := Lib.hid (show Below g w W0 by rw [HW.out, HG.out]; exact bel1 w _)
  have hmm := @run_makeMap Try.prog
  have HA : Hid (DfmAt g n 0 (resP n zs 0) a len cap w (W0.alloc (.map #[] 0))) := Lib.hid (by
    have h1 := Cnt.made n W0 n
    rw [HSZ.out] at h1
    exact ⟨HT0.out.keep (bel1 _ _) HT0.out.lt, h1, HBW.out.alloc (by have := HSZ.out; omega) _, by have := HSZ.out; simp; omega⟩)
  have HA2 := HA
  obtain ⟨c0, c1, f0, f1⟩ := HA.out.1.facts
  go_enter Try.func129, Try.ntmps129
  go_wp2_with fail
  rw [← HW.out, ← HG.out]
  go_loopw [12] (fun i wr => ∃ k m : Nat, k ≤ len ∧ i = .int .i64 k ∧ m ≤ 24 * k ∧ DfmAt g n m (resP n zs k) a len cap w wr) (fun i _ => len - (intOf i).toNat)
  case atStart => exact ⟨0, 0, by omega, rfl, by omega, HA.out⟩
  case round =>
    clear HA HA2 c0 c1 f0 f1
    obtain ⟨k, m0, hk, rfl, hm0, hat⟩ := hrel
    have HAT := Lib.hid hat
    clear hat
    obtain ⟨c0, c1, f0, f1⟩ := HAT.out.1.facts
    have lt0 := HAT.out.1.lt
    have HJ : Hid (IntsAt wr a len zs) := Lib.hid (HS.out.below (by rw [← HG.out]; exact HAT.out.2.2.1))
    by_cases hlt : k < len
    · obtain ⟨b, off, z, rfl, hb, hs, hc, hz1, hz2⟩ := HJ.out.at hlt
      obtain ⟨hz0, hzn⟩ := ok_at HO.out hs
      have HPN := Lib.hid (resP_snoc (n := n) hs)
      have HAI : Hid (DfmAt g n m0 (resP n zs k ++ resQ n zs z 0) (some ⟨b, off, none⟩) len cap w wr) := Lib.hid (by rw [show resQ n zs z 0 = [] from rfl, List.append_nil]; exact HAT.out)
      clear hs
      go_wp2
      clear c0 c1 f0 f1 lt0 hc
      go_loopw [19] (fun i wr => ∃ j m : Nat, j ≤ len ∧ i = .int .i64 j ∧ m ≤ 24 * k + j ∧ DfmAt g n m (resP n zs k ++ resQ n zs z j) (some ⟨b, off, none⟩) len cap w wr) (fun i _ => len - (intOf i).toNat)
      case atStart => exact ⟨0, m0, by omega, rfl, by omega, HAI.out⟩
      case round =>
        clear HAT HJ HAI
        obtain ⟨j, m, hj, rfl, hmj, hat⟩ := hrel
        have HAT := Lib.hid hat
        clear hat
        obtain ⟨c0, c1, f0, f1⟩ := HAT.out.1.facts
        have lt0 := HAT.out.1.lt
        have HJ : Hid (IntsAt wr (some ⟨b, off, none⟩) len zs) := Lib.hid (HS.out.below (by rw [← HG.out]; exact HAT.out.2.2.1))
        by_cases hlt2 : j < len
        · obtain ⟨b', off', z', he, hb', hs, hc, hz1', hz2'⟩ := HJ.out.at hlt2
          cases he
          obtain ⟨hz0', hzn'⟩ := ok_at HO.out hs
          obtain ⟨r, hr⟩ : ∃ r : Nat, remB (z - z') n = r := ⟨(remB (z - z') n).toNat, by have := remB_bd (z - z') n (by omega); omega⟩
          have hrn : r < n := by have := remB_bd (z - z') n (by omega); omega
          have HQN := Lib.hid (show resP n zs k ++ resQ n zs z (j + 1) = (resP n zs k ++ resQ n zs z j) ++ [(r : Int)] by rw [resQ_snoc hs, hr, List.append_assoc])
          have HR := Lib.hid hr
          obtain ⟨c, hcc⟩ : ∃ c : Nat, cf (resP n zs k ++ resQ n zs z j) r = c := ⟨_, rfl⟩
          have hcb : c ≤ 1000 := by
            have h1 := List.count_le_length (a := (r : Int)) (l := resP n zs k ++ resQ n zs z j)
            have h2 := resP_len n zs k
            have h3 := resQ_len n zs z j
            have h4 := Nat.mul_le_mul (show k ≤ 24 by omega) HLZ.out
            rw [List.length_append] at h1
            have h5 := HLZ.out
            unfold cf at hcc
            omega
          have HCC := Lib.hid hcc
          clear hs hr hcc
          go_upto_region 8 with fail
          clear c0 c1 f0 f1 hc
          refine wp_region_held_drew (S := fun W' => W'.cell? ⟨g, 0, none⟩ = some (.int .i64 n) ∧ W'.cell? ⟨g, 1, none⟩ = some (.slice (some ⟨b, off, none⟩) len cap)) (by kernel_rfl) ⟨HAT.out.1.facts.1, HAT.out.1.facts.2.1⟩ (fun hSS0 => ?_)
          refine wpAnyH_take (i := 0) (oi := ⟨some 23, _, _, _, _, _⟩) (v := .map (some (g + 1))) rfl (by kernel_rfl) (by kernel_rfl) (by kernel_rfl) (fun _ _ _ h => h) (Or.inl ⟨by rfl, fun W hSw => by go_simp⟩) (by assumption) ?_
          try simp only [Act.put, List.setIfInBounds_toArray, List.set_cons_zero, List.set_cons_succ]
          refine wpAnyH_take (i := 1) (oi := ⟨some 24, _, _, _, _, _⟩) (v := .agg #[.int .i64 n, .slice (some ⟨b, off, none⟩) len cap]) rfl (by kernel_rfl) (by kernel_rfl) (by kernel_rfl) (fun _ _ _ h => h) (Or.inl ⟨by rfl, fun W hSw => by obtain ⟨q1, q2⟩ := hSw; go_simp⟩) (by assumption) ?_
          try simp only [Act.put, List.setIfInBounds_toArray, List.set_cons_zero, List.set_cons_succ]
          refine wpAnyH_take (i := 2) (oi := ⟨some 25, _, _, _, _, _⟩) (v := .int .i64 z) rfl (by kernel_rfl) (by kernel_rfl) (by kernel_rfl) (fun _ _ _ h => h) (Or.inl ⟨by rfl, fun W hSw => by go_simp⟩) (by assumption) ?_
          try simp only [Act.put, List.setIfInBounds_toArray, List.set_cons_zero, List.set_cons_succ]
          refine wpAnyH_take (i := 3) (oi := ⟨some 26, _, _, _, _, _⟩) (v := .int .i64 z') rfl (by kernel_rfl) (by kernel_rfl) (by kernel_rfl) (fun _ _ _ h => h) (Or.inl ⟨by rfl, fun W hSw => by go_simp⟩) (by assumption) ?_
          try simp only [Act.put, List.setIfInBounds_toArray, List.set_cons_zero, List.set_cons_succ]
          refine wpAnyH_ready (rs := [4]) (by kernel_rfl) (by simp) ?_
          refine AllReadyH.cons rfl (fun K hKK => ?_) AllReadyH.nil
          go_simp
          go_at_call 78
          refine (difOf_any n r _ len cap z z' _ hn1 hn24 ⟨hz0, hzn⟩ ⟨hz0', hzn'⟩ HR.out).mono ?_
          rintro e wk1 ⟨rfl, hc1⟩
          have hbb1 : Below wr.heap.size wr wk1 := (Below.refl _ _).drew.trans hc1
          clear hc1
          have HC1 := Lib.hid (HAT.out.2.1.below hbb1)
          have hl1 := lookup_cnt Try.underlying114 hnn hN1 hrn HC1.out
          rw [HCC.out] at hl1
          obtain ⟨v0, st, w4, hen, hc4, hg4, hst⟩ := entry_cnt Try.underlying114 hnn hN1 (show m ≤ 1000000 by omega) (Nat.zero_le _) hrn HC1.out
          have HC4 := Lib.hid hc4
          have HG4 := Lib.hid hg4
          have hl4 := lookup_cnt Try.underlying114 hnn hN1 hrn HC4.out
          rw [HCC.out] at hl4
          obtain ⟨w5, hes, hc5, hg5⟩ := hst w4 (c + 1) (by omega) rfl
          rw [show ((c + 1 : Nat) : Int) = (c : Int) + 1 by omega] at hes
          have HC5 := Lib.hid hc5
          have HG5 := Lib.hid hg5
          have HK1 := Lib.hid (show wk1.cell? ⟨g, 0, none⟩ = some (.int .i64 n) ∧ wk1.cell? ⟨g, 1, none⟩ = some (.slice (some ⟨b, off, none⟩) len cap) from ⟨(HAT.out.1.keep hbb1 lt0).facts.1, (HAT.out.1.keep hbb1 lt0).facts.2.1⟩)
          have HX4 := Lib.hid (box_grown (HAT.out.1.keep hbb1 lt0) hg4 (by omega))
          have HX5 := Lib.hid (box_grown HX4.out hg5 (by omega))
          have HB5 : Hid (Below g w w5 ∧ g + 2 ≤ w5.heap.size) := Lib.hid ⟨((HAT.out.2.2.1.trans (hbb1.mono (by have := HAT.out.2.2.2; omega))).grown hg4 (by have := hbb1.size; omega) (fun j e => by cases e; omega)).grown hg5 (by have := hbb1.size; have := hg4.size; omega) (fun j e => by cases e; omega), by have := HAT.out.2.2.2; have := hbb1.size; have := hg4.size; have := hg5.size; omega⟩
          clear hc4 hg4 hst hc5 hg5
          refine hKK.out _ _ HK1.out (fun hSS1 => ?_)
          clear hKK K hSS0
          try simp only [Act.put, List.setIfInBounds_toArray, List.set_cons_zero, List.set_cons_succ]
          refine wpAnyH_ready (rs := [5, 7]) (by kernel_rfl) (by simp) ?_
          refine AllReadyH.cons rfl (fun K hKK => ?_) (AllReadyH.cons rfl (fun K hKK => ?_) AllReadyH.nil)
          · go_simp
            refine hKK.out _ _ (by assumption) (fun _ => ?_)
            clear hKK K
            try simp only [Act.put, List.setIfInBounds_toArray, List.set_cons_zero, List.set_cons_succ]
            refine wpAnyH_take (i := 6) (oi := ⟨some 29, _, _, _, _, _⟩) (v := .int .i64 ((c + 1 : Nat) : Int)) rfl (by kernel_rfl) (by kernel_rfl) (by kernel_rfl) (fun _ _ _ h => h) (Or.inl ⟨by rfl, fun W hSw => by go_simp; exact (IntWalk.i64_in _ ⟨by omega, by omega⟩).trans (by omega)⟩) (by assumption) ?_
            try simp only [Act.put, List.setIfInBounds_toArray, List.set_cons_zero, List.set_cons_succ]
            refine wpAnyH_ready (rs := [7]) (by kernel_rfl) (by simp) ?_
            refine AllReadyH.cons rfl (fun K hKK => ?_) AllReadyH.nil
            go_simp
            refine hKK.out _ _ ⟨HX4.out.facts.1, HX4.out.facts.2.1⟩ (fun hSS4 => ?_)
            clear hKK K hSS1
            try simp only [Act.put, List.setIfInBounds_toArray, List.set_cons_zero, List.set_cons_succ]
            refine wpAnyH_take (i := 8) (oi := ⟨some 31, _, _, _, _, _⟩) (v := .int .i64 st) rfl (by kernel_rfl) (by kernel_rfl) (by kernel_rfl) (fun _ _ _ h => h) (Or.inl ⟨by rfl, fun W hSw => by go_simp⟩) (by assumption) ?_
            try simp only [Act.put, List.setIfInBounds_toArray, List.set_cons_zero, List.set_cons_succ]
            refine wpAnyH_ready (rs := [9]) (by kernel_rfl) (by simp) ?_
            refine AllReadyH.cons rfl (fun K hKK => ?_) AllReadyH.nil
            go_simp
            refine hKK.out _ _ ⟨HX5.out.facts.1, HX5.out.facts.2.1⟩ (fun hSS5 => ?_)
            clear hKK K hSS4
            try simp only [Act.put, List.setIfInBounds_toArray, List.set_cons_zero, List.set_cons_succ]
            refine wpAnyH_done (by kernel_rfl) ?_ _
            clear HK1 hSS5 hl1 hl4 hen hes
            go_wp2
            go_roundw
            case rel =>
              refine ⟨j + 1, m + 1, by omega, by go_num, by omega, HX5.out, ?_, HB5.out.1, HB5.out.2⟩
              rw [HQN.out, ← cf_snoc, HCC.out]
              exact HC5.out
            case measure => simp [intOf]; omega
          · go_simp
            refine hKK.out _ _ ⟨HX4.out.facts.1, HX4.out.facts.2.1⟩ (fun hSS4 => ?_)
            clear hKK K hSS1
            try simp only [Act.put, List.setIfInBounds_toArray, List.set_cons_zero, List.set_cons_succ]
            refine wpAnyH_take (i := 8) (oi := ⟨some 31, _, _, _, _, _⟩) (v := .int .i64 st) rfl (by kernel_rfl) (by kernel_rfl) (by kernel_rfl) (fun _ _ _ h => h) (Or.inl ⟨by rfl, fun W hSw => by go_simp⟩) (by assumption) ?_
            try simp only [Act.put, List.setIfInBounds_toArray, List.set_cons_zero, List.set_cons_succ]
            refine wpAnyH_ready (rs := [5]) (by kernel_rfl) (by simp) ?_
            refine AllReadyH.cons rfl (fun K hKK => ?_) AllReadyH.nil
            go_simp
            refine hKK.out _ _ (by assumption) (fun _ => ?_)
            clear hKK K
            try simp only [Act.put, List.setIfInBounds_toArray, List.set_cons_zero, List.set_cons_succ]
            refine wpAnyH_take (i := 6) (oi := ⟨some 29, _, _, _, _, _⟩) (v := .int .i64 ((c + 1 : Nat) : Int)) rfl (by kernel_rfl) (by kernel_rfl) (by kernel_rfl) (fun _ _ _ h => h) (Or.inl ⟨by rfl, fun W hSw => by go_simp; exact (IntWalk.i64_in _ ⟨by omega, by omega⟩).trans (by omega)⟩) (by assumption) ?_
            try simp only [Act.put, List.setIfInBounds_toArray, List.set_cons_zero, List.set_cons_succ]
            refine wpAnyH_ready (rs := [9]) (by kernel_rfl) (by simp) ?_
            refine AllReadyH.cons rfl (fun K hKK => ?_) AllReadyH.nil
            go_simp
            refine hKK.out _ _ ⟨HX5.out.facts.1, HX5.out.facts.2.1⟩ (fun hSS5 => ?_)
            clear hKK K hSS4
            try simp only [Act.put, List.setIfInBounds_toArray, List.set_cons_zero, List.set_cons_succ]
            refine wpAnyH_done (by kernel_rfl) ?_ _
            clear HK1 hSS5 hl1 hl4 hen hes
            go_wp2
            go_roundw
            case rel =>
              refine ⟨j + 1, m + 1, by omega, by go_num, by omega, HX5.out, ?_, HB5.out.1, HB5.out.2⟩
              rw [HQN.out, ← cf_snoc, HCC.out]
              exact HC5.out
            case measure => simp [intOf]; omega
        · have e : j = len := by omega
          subst e
          go_wp2
          go_roundw
          case rel => exact ⟨k + 1, m, by omega, by go_num, by omega, by rw [HPN.out, ← HLL.out]; exact HAT.out⟩
          case measure => simp [intOf]; omega
    · have e : k = zs.length := by have := HLL.out; omega
      have HE := Lib.hid e
      have hm1 : m0 ≤ 1000 := by omega
      clear e
      go_wp2
      go_ret
      have h1 := HAT.out
      rw [HE.out, resP_all] at h1
      obtain ⟨D, q1, q2, q3⟩ := h1.2.1
      refine ⟨g + 1, m0, rfl, by have := HG.out; omega, hm1, ⟨D, q1, fun p hp => ?_, q3⟩, ?_⟩
      · rw [q2 p hp]
        unfold cf
        rw [count_res HO.out (by omega)]
      · rw [← HG.out]
        exact h1.2.2.1
end Go.Proofs.Ytjgjcppkbfojpaa.Rhy

/-
  Helpers of the claims beside this text: DifferencesOf and VectorOf of the program.
-/
namespace Go.Proofs.Ytjgjcppkbfojpaa.Rhy
open Go.RowKit Go.Maps
set_option linter.unusedVariables false
set_option linter.unusedSimpArgs false

/-- What the numbers are while some differences are still to come. -/
def numL (n : Nat) (f : Nat → Nat) (lf : Nat → Bool) : List Int := (List.range n).map fun p => if lf p then 0 else (f p : Int)
theorem numL_len (n : Nat) (f : Nat → Nat) (lf : Nat → Bool) : (numL n f lf).length = n := by simp [numL]
theorem numL_at {n : Nat} {f : Nat → Nat} {lf : Nat → Bool} {p : Nat} (h : p < n) : (numL n f lf)[p]? = some (if lf p then 0 else (f p : Int)) := by simp [numL, h]
theorem numL_step {n : Nat} {f : Nat → Nat} {lf : Nat → Bool} {p : Nat} (h : p < n) : (numL n f lf).set p (f p) = numL n f (fun q => lf q && !decide (q = p)) := by
  apply List.ext_getElem?
  intro i
  rw [List.getElem?_set, numL_len]
  by_cases hi : i < n
  · rw [numL_at hi, numL_at hi]
    by_cases q : p = i
    · subst q; simp [h]
    · have : ¬ i = p := fun e => q e.symm
      simp [q, this]
  · rw [List.getElem?_eq_none (by rw [numL_len]; omega), List.getElem?_eq_none (by rw [numL_len]; omega)]
    by_cases q : p = i
    · omega
    · simp [q]
theorem numL_start {n : Nat} {f : Nat → Nat} {lf : Nat → Bool} (h : ∀ p, p < n → lf p = false → f p = 0) : numL n f lf = List.replicate n 0 := by
  apply List.ext_getElem
  · simp [numL]
  · intro i h1 h2
    simp only [numL_len] at h1
    simp only [numL, List.getElem_map, List.getElem_range, List.getElem_replicate]
    cases hq : lf i
    · simp [h i h1 hq]
    · simp
theorem numL_done {n : Nat} {f : Nat → Nat} {lf : Nat → Bool} (h : ∀ p, p < n → lf p = false) : numL n f lf = (List.range n).map fun p => (f p : Int) := by
  unfold numL
  refine List.map_congr_left fun p hp => ?_
  rw [h p (List.mem_range.1 hp)]
  simp

theorem own_grown' {w w' : World} {B : Nat} {e : TypeId} {size : Nat} {v : Value} {n : Nat} {xs : List Value} (h : w.ownsRow B e size v n xs) (hg : w.grownBy w' none) : w'.ownsRow B e size v n xs := by
  cases hv : v.ownBlock with
  | none => exact h.kept hg (.inl hv)
  | some g => exact h.kept hg (.inr (by rw [hv]; simp))
set_option maxHeartbeats 1000000 in
theorem counts_any (n : Nat) (a : Option Addr) (len cap : Nat) (zs : List Int) (w : World) (h : IntsAt w a len zs) (hm : len ≤ 1048576) (ho : Ok n zs) :
    Calls Try.prog 91 #[rhy n a len cap] w (IPost (difZ n zs) w) := by
  have HS := Lib.hid h
  have HO := Lib.hid ho
  have hn1 : 1 ≤ n := by have := ho.1.1; omega
  have hn24 : n ≤ 24 := by have := ho.1.2; omega
  have hnn : (0 : Int) ≤ n ∧ (n : Int) ≤ 1000 := by omega
  have hN1 : n ≤ 1000 := by omega
  clear h ho
  obtain ⟨i0, hi, hz0, hz1, hz2⟩ := info_parts infoInt
  have HI := Lib.hid (show _ ∧ _ ∧ _ ∧ _ from ⟨hi, hz0, hz1, hz2⟩)
  clear hi hz0 hz1 hz2
  obtain ⟨g, hg⟩ : ∃ g, g = w.heap.size := ⟨_, rfl⟩
  have HG := Lib.hid hg
  clear hg
  obtain ⟨W0, hW⟩ : ∃ W0, W0 = w.alloc (.cells #[.int .i64 n, .slice a len cap] 25) := ⟨_, rfl⟩
  have HW := Lib.hid hW
  clear hW
  have HSZ := Lib.hid (show W0.heap.size = g + 1 by rw [HW.out, HG.out]; simp)
  have HT0 := Lib.hid (show Box W0 g (.int .i64 n) (.slice a len cap) 25 by rw [HW.out, HG.out]; exact box_new w _ _ _)
  have HBW := Lib.hid (show Below g w W0 by rw [HW.out, HG.out]; exact bel1 w _)
  go_enter Try.func91, Try.ntmps91
  go_wp2_with (at_make; refine wpList_make_full _ rfl _ _ 23 rfl (g + 1) 3 i0 (.int .i64 0) 1 Try.underlying23 HI.out.1 HI.out.2.1 HI.out.2.2.1 .i64 .i64 n n n rfl rfl rfl rfl ?b2 ?b3 ?b4 ?_)
  case b2 => rw [HI.out.2.2.2]; omega
  case b3 => unfold maxLen; omega
  case b4 => have := HSZ.out; rw [HW.out] at this; omega
  rw [← HW.out]
  intro w1 hown hgrow
  have HX : Hid (Below (g + 1) W0 w1) := Lib.hid ((Below.refl (g + 1) W0).grown hgrow (by have := HSZ.out; omega) (by intro k hk; cases hk))
  rw [toList_madeCells_one, ← HG.out] at hown
  have HOW := Lib.hid hown
  have hsz1 := (HOW.out.lt (g + 1) rfl).2
  clear hown hgrow
  rw [← HG.out]
  have HB1 := Lib.hid (HBW.out.trans (HX.out.mono (by omega)))
  obtain ⟨c0, c1, f0, f1⟩ := (HT0.out.keep HX.out (by omega)).facts
  go_wp2_with fail
  refine (difs_any n a len cap zs w1 (HS.out.below (by rw [← HG.out]; exact HB1.out)) hm HO.out).mono ?_
  rintro e w2 ⟨b, m, rfl, hbg, hm1, hcn, hb2⟩
  obtain ⟨f, hf⟩ : ∃ f : Nat → Nat, (fun i : Nat => difAt n zs i) = f := ⟨_, rfl⟩
  rw [hf] at hcn
  have HF := Lib.hid hf
  have HCN := Lib.hid hcn
  have HB2 := Lib.hid hb2
  have hsz2 := hb2.size
  have HOW2 := Lib.hid (own_below HOW.out hb2)
  have HB3 := Lib.hid (HB1.out.trans (hb2.mono (by omega)))
  have hfb : ∀ p, f p ≤ 24 := fun p => by rw [← hf]; exact dif_le HO.out _
  clear hf hcn hb2 c0 c1 f0 f1
  obtain ⟨r, hr⟩ : ∃ r, r = w2.heap.size := ⟨_, rfl⟩
  go_wp2_with (at_range; refine wpList_range_cnt _ rfl _ _ rfl Try.underlying114 n b m 0 n f rfl HCN.out ?_; intro w3 lf cnt hrg hz hgr hsz)
  go_frame
  rw [← hr] at hrg hsz ⊢
  have HA : Hid (∃ (lf : Nat → Bool) (cnt : Nat), Rng n w3 b r m 0 n f lf cnt ∧ w3.ownsRow (g + 1) 3 1 (.slice (some ⟨g + 1, 0, none⟩) n n) n (ints (numL n f lf)) ∧ Below g w w3 ∧ r < w3.heap.size) := Lib.hid
    ⟨lf, cnt, hrg, by
      have h1 := own_grown' HOW2.out hgr
      rw [numL_start hz]
      simpa [ints] using h1, HB3.out.grown hgr (by omega) (fun j e => by cases e), by omega⟩
  have HRR := Lib.hid hr
  clear hrg hz hgr hsz hr
  go_loopw [12] (fun _ wr => ∃ (lf : Nat → Bool) (cnt : Nat), Rng n wr b r m 0 n f lf cnt ∧ wr.ownsRow (g + 1) 3 1 (.slice (some ⟨g + 1, 0, none⟩) n n) n (ints (numL n f lf)) ∧ Below g w wr ∧ r < wr.heap.size) (fun _ wr => wr.rangeLeft b r)
  case atStart => exact HA.out
  case round =>
    clear HA
    obtain ⟨lf, cnt, hrg, hown, hnx, hsz⟩ := hrel
    have HRG := Lib.hid hrg
    have HO1 := Lib.hid hown
    have HX1 := Lib.hid hnx
    clear hrg hown hnx
    go_wp2_with (at_next; refine wpList_next_cnt _ rfl _ rfl n hnn b r m 0 n hN1 f lf cnt rfl HRG.out ?_ ?_)
    · intro hd
      have HD := Lib.hid (numL_done (f := f) hd)
      clear hd
      go_wp2
      go_ret
      refine ⟨some ⟨g + 1, 0, none⟩, n, ?_, ?_, ?_⟩
      · rw [difZ_len]; simp
      · have h3 := HO1.out
        rw [HD.out, ← HF.out] at h3
        rw [difZ_len, show ((n : Int)).toNat = n by omega, ← HG.out]
        have h4 : ((List.range n).map fun p => ((difAt n zs ((p : Nat) : Int) : Nat) : Int)) = difZ n zs := by unfold difZ; rw [show ((n : Int)).toNat = n by omega]
        rw [h4] at h3
        exact own_base h3 (by omega)
      · rw [← HG.out]
        exact HX1.out
    · intro p w4 cnt' hp hlp hrg4 hlt hg4 hs4 hen
      have HR4 := Lib.hid hrg4
      have HG4 := Lib.hid hg4
      have HO4 := Lib.hid (own_grown HO1.out hg4 (fun k hk e => by have h1 : g + 1 = k := Option.some.inj hk; have h2 : r = k := Option.some.inj e; have := HRR.out; omega))
      have hpf := hfb p
      clear hrg4 hg4 hfb
      have HST := Lib.hid (numL_step (f := f) (lf := lf) hp)
      have lgr : g + 1 < wr.heap.size := by have := HRR.out; omega
      have hcr := HO4.out.cellAt p (by omega)
      rw [ints, List.getElem?_map, numL_at hp, hlp] at hcr
      simp only [Option.map_some, if_true] at hcr
      have hfr := HO4.out.frozenAt p
      have lg4 : g + 1 < w4.heap.size := (HO4.out.lt (g + 1) rfl).2
      have HS4 := Lib.hid hs4
      have hcr5 : ∀ o : Obj, (w4.alloc o).cell? ⟨g + 1, p, none⟩ = some (.int .i64 0) := fun o => ((bel1 w4 o).cell (p := ⟨g + 1, p, none⟩) lg4).trans hcr
      have hfr5 : ∀ o : Obj, (w4.alloc o).frozen? ⟨g + 1, p, none⟩ = false := fun o => ((bel1 w4 o).frozen (p := ⟨g + 1, p, none⟩) lg4).trans hfr
      simp only [difV] at hen ⊢
      clear hs4 hcr hfr
      go_wp2
      go_roundw
      case rel =>
        have hst := HO4.out.stored p (.int .i64 (f p))
        rw [ints, ← List.map_set, HST.out] at hst
        have h5 := HS4.out
        have h6 := HRR.out
        refine ⟨_, cnt', (HR4.out.kept hst.2 (by simp; omega) (by simp; omega)).below (bel1 _ _), own_below hst.1 (bel1 _ _), ?_, by simp; omega⟩
        exact ((HX1.out.grown HG4.out (by omega) (fun j e => by have h2 : r = j := Option.some.inj e; have := HRR.out; omega)).setCell (by show g ≤ g + 1; omega) _).alloc (by simp; omega) _
      case measure =>
        have h6 := HRR.out
        have h1 := ((HR4.out.kept (HO4.out.stored p (.int .i64 (f p))).2 (by simp; omega) (by simp; omega)).below (bel1 _ (.cells #[.int .i64 n, .int .i64 p] 77))).left_eq
        rw [h1, HRG.out.left_eq]
        exact hlt
end Go.Proofs.Ytjgjcppkbfojpaa.Rhy

/-
  Helpers of the claims beside this text: the vector of a rhythm as the program makes it.
-/
namespace Go.Proofs.Ytjgjcppkbfojpaa.Rhy
open Go.RowKit Go.Maps
set_option linter.unusedVariables false
set_option linter.unusedSimpArgs false

def hh (f : Nat → Nat) (lf : Nat → Bool) (p : Nat) : Nat := if lf p then 0 else f p
def prN (n : Nat) (f : Nat → Nat) (lf : Nat → Bool) (i : Nat) : Nat := hh f lf (i + 1) + if 2 * (i + 1) = n then 0 else hh f lf (n - (i + 1))
def prP (n m : Nat) (f : Nat → Nat) (lf : Nat → Bool) : List Nat := (List.range m).map fun i => prN n f lf i
def prL (n m : Nat) (f : Nat → Nat) (lf : Nat → Bool) : List Int := (prP n m f lf).map fun a : Nat => (a : Int)
theorem prL_len (n m : Nat) (f : Nat → Nat) (lf : Nat → Bool) : (prL n m f lf).length = m := by simp [prL, prP]
theorem prL_at {n m : Nat} {f : Nat → Nat} {lf : Nat → Bool} {i : Nat} (h : i < m) : (prL n m f lf)[i]? = some ((prN n f lf i : Nat) : Int) := by simp [prL, prP, h]
theorem hh_same {f : Nat → Nat} {lf : Nat → Bool} {p : Nat} (h : lf p = true) : hh f (fun q => lf q && !decide (q = p)) p = hh f lf p + f p := by simp [hh, h]
theorem hh_other {f : Nat → Nat} {lf : Nat → Bool} {p q : Nat} (h : q ≠ p) : hh f (fun q => lf q && !decide (q = p)) q = hh f lf q := by simp [hh, h]
theorem prL_step {n m : Nat} {f : Nat → Nat} {lf : Nat → Bool} {p i : Nat} (hm : m = n / 2) (hp1 : 1 ≤ p) (hp : p < n) (hlf : lf p = true) (hi : i + 1 = shB n p) :
    (prL n m f lf).set i ((prN n f lf i + f p : Nat) : Int) = prL n m f (fun q => lf q && !decide (q = p)) := by
  unfold shB at hi
  apply List.ext_getElem?
  intro j
  rw [List.getElem?_set, prL_len]
  by_cases hj : j < m
  · rw [prL_at hj, prL_at hj]
    by_cases q : i = j
    · subst q
      rw [if_pos rfl, if_pos hj]
      congr 2
      unfold prN
      by_cases c : 2 * (i + 1) = n
      · have : i + 1 = p := by omega
        rw [if_pos c, if_pos c, this, hh_same hlf]
        omega
      · rw [if_neg c, if_neg c]
        by_cases d : i + 1 = p
        · rw [d, hh_same hlf, hh_other (show n - p ≠ p by omega)]
          omega
        · have : n - (i + 1) = p := by omega
          rw [this, hh_same hlf, hh_other d]
          omega
    · rw [if_neg q]
      congr 2
      unfold prN
      rw [hh_other (show j + 1 ≠ p by omega)]
      by_cases c : 2 * (j + 1) = n
      · rw [if_pos c, if_pos c]
      · rw [if_neg c, if_neg c, hh_other (show n - (j + 1) ≠ p by omega)]
  · rw [List.getElem?_eq_none (by rw [prL_len]; omega), List.getElem?_eq_none (by rw [prL_len]; omega)]
    by_cases q : i = j
    · omega
    · simp [q]
theorem prL_start {n m : Nat} {f : Nat → Nat} {lf : Nat → Bool} (hm : m = n / 2) (h : ∀ p, p < n → lf p = false → f p = 0) : prL n m f lf = List.replicate m 0 := by
  have h0 : ∀ p, p < n → hh f lf p = 0 := fun p hp => by
    unfold hh
    cases hq : lf p
    · simp [h p hp hq]
    · simp
  apply List.ext_getElem
  · rw [prL_len]; simp
  · intro i h1 h2
    rw [prL_len] at h1
    have := prL_at (n := n) (f := f) (lf := lf) h1
    rw [List.getElem?_eq_getElem (by rw [prL_len]; exact h1)] at this
    rw [Option.some.inj this, List.getElem_replicate]
    unfold prN
    rw [h0 _ (by omega)]
    by_cases c : 2 * (i + 1) = n
    · rw [if_pos c]; rfl
    · rw [if_neg c, h0 _ (by omega)]; rfl
theorem prN_le {n : Nat} {f : Nat → Nat} {lf : Nat → Bool} (h : ∀ p, f p ≤ 24) (i : Nat) : prN n f lf i ≤ 48 := by
  have h1 : ∀ p, hh f lf p ≤ 24 := fun p => by
    unfold hh
    have := h p
    split <;> omega
  have h2 := h1 (i + 1)
  have h3 := h1 (n - (i + 1))
  unfold prN
  split <;> omega

/-- The numbers, the first k of them halved. -/
def halL (P : List Nat) (k : Nat) : List Int := (P.take k).map (fun a : Nat => ((a / 2 : Nat) : Int)) ++ (P.drop k).map (fun a : Nat => (a : Int))
theorem halL_zero (P : List Nat) : halL P 0 = P.map (fun a : Nat => (a : Int)) := by simp [halL]
theorem halL_all (P : List Nat) : halL P P.length = P.map (fun a : Nat => ((a / 2 : Nat) : Int)) := by simp [halL]
theorem halL_len (P : List Nat) (k : Nat) : (halL P k).length = P.length := by simp [halL]; omega
theorem halL_at {P : List Nat} {k a : Nat} (h : P[k]? = some a) : (halL P k)[k]? = some (a : Int) := by
  have hk : k < P.length := by
    rcases Nat.lt_or_ge k P.length with q | q
    · exact q
    · rw [List.getElem?_eq_none q] at h; cases h
  unfold halL
  rw [List.getElem?_append_right (by simp; omega)]
  simp [Nat.min_eq_left (show k ≤ P.length by omega), h]
theorem halL_step {P : List Nat} {k a : Nat} (h : P[k]? = some a) : (halL P k).set k ((a / 2 : Nat) : Int) = halL P (k + 1) := by
  have hk : k < P.length := by
    rcases Nat.lt_or_ge k P.length with q | q
    · exact q
    · rw [List.getElem?_eq_none q] at h; cases h
  have hd : P.drop k = a :: P.drop (k + 1) := by
    rw [List.drop_eq_getElem_cons hk]
    rw [List.getElem?_eq_getElem hk] at h
    rw [Option.some.inj h]
  unfold halL
  rw [hd, List.take_add_one, h]
  have h2 := set_mid ((P.take k).map (fun a : Nat => ((a / 2 : Nat) : Int))) ((P.drop (k + 1)).map (fun a : Nat => (a : Int))) (a : Int) ((a / 2 : Nat) : Int)
  rw [show ((P.take k).map (fun a : Nat => ((a / 2 : Nat) : Int))).length = k by simp; omega] at h2
  simpa using h2
theorem prP_len (n m : Nat) (f : Nat → Nat) (lf : Nat → Bool) : (prP n m f lf).length = m := by simp [prP]
theorem half_vec' {n : Nat} {zs : List Int} (ho : Ok n zs) {f : Nat → Nat} {lf : Nat → Bool} (hf : ∀ p, 1 ≤ p → f p = difAt n zs p) (hl : ∀ p, p < n → lf p = false) :
    (prP n (n / 2) f lf).map (fun a : Nat => ((a / 2 : Nat) : Int)) = vecZ n zs := by
  unfold prP vecZ
  rw [List.map_map, show ((n : Int)).toNat = n by omega]
  refine List.map_congr_left fun j hj => ?_
  rw [List.mem_range] at hj
  have h1 : ∀ p, p < n → 1 ≤ p → hh f lf p = difAt n zs p := fun p hp hp1 => by simp [hh, hl p hp, hf p hp1]
  show (((prN n f lf j) / 2 : Nat) : Int) = _
  unfold prN
  rw [h1 _ (by omega) (by omega)]
  by_cases c : 2 * (j + 1) = n
  · rw [if_pos c, if_pos c]
    simp
  · rw [if_neg c, if_neg c, h1 _ (by omega) (by omega), dif_nat_sub ho (i := n - (j + 1)) (j := j + 1) (by omega)]
    congr 1
    omega
set_option maxHeartbeats 1000000 in
theorem vector_any (n : Nat) (a : Option Addr) (len cap : Nat) (zs : List Int) (w : World) (h : IntsAt w a len zs) (hm : len ≤ 1048576) (ho : Ok n zs) :
    Calls Try.prog 120 #[rhy n a len cap] w (IPost (vecZ n zs) w) := by
  have HS := Lib.hid h
  have HO := Lib.hid ho
  have hn1 : 1 ≤ n := by have := ho.1.1; omega
  have hn24 : n ≤ 24 := by have := ho.1.2; omega
  have hnn : (0 : Int) ≤ n ∧ (n : Int) ≤ 1000 := by omega
  have hN1 : n ≤ 1000 := by omega
  clear h ho
  obtain ⟨i0, hi, hz0, hz1, hz2⟩ := info_parts infoInt
  have HI := Lib.hid (show _ ∧ _ ∧ _ ∧ _ from ⟨hi, hz0, hz1, hz2⟩)
  clear hi hz0 hz1 hz2
  obtain ⟨g, hg⟩ : ∃ g, g = w.heap.size := ⟨_, rfl⟩
  have HG := Lib.hid hg
  clear hg
  obtain ⟨q, hq⟩ : ∃ q, q = n / 2 := ⟨_, rfl⟩
  have HQ := Lib.hid hq
  have hq2 : 2 * q ≤ n := by omega
  have hqi : (n : Int) / 2 = (q : Int) := by omega
  clear hq
  obtain ⟨W0, hW⟩ : ∃ W0, W0 = w.alloc (.cells #[.int .i64 n, .slice a len cap] 25) := ⟨_, rfl⟩
  have HW := Lib.hid hW
  clear hW
  have HSZ := Lib.hid (show W0.heap.size = g + 1 by rw [HW.out, HG.out]; simp)
  have HT0 := Lib.hid (show Box W0 g (.int .i64 n) (.slice a len cap) 25 by rw [HW.out, HG.out]; exact box_new w _ _ _)
  have HBW := Lib.hid (show Below g w W0 by rw [HW.out, HG.out]; exact bel1 w _)
  have hlt0 := HT0.out.lt
  go_enter Try.func120, Try.ntmps120
  go_wp2_with fail
  rw [← HW.out, ← HG.out]
  refine (difs_any n a len cap zs W0 (HS.out.below (by rw [← HG.out]; exact HBW.out)) hm HO.out).mono ?_
  rintro e w1 ⟨b, m, rfl, hbg, hm1, hcn, hb1⟩
  obtain ⟨f0, hf⟩ : ∃ f0 : Nat → Nat, (fun i : Nat => difAt n zs i) = f0 := ⟨_, rfl⟩
  rw [hf] at hcn
  obtain ⟨f, hff⟩ : ∃ f : Nat → Nat, upd f0 0 0 = f := ⟨_, rfl⟩
  have hfb : ∀ p, f p ≤ 24 := fun p => by
    rw [← hff, ← hf]
    unfold upd
    split
    · omega
    · exact dif_le HO.out _
  have HF : Hid (∀ p, 1 ≤ p → f p = difAt n zs p) := Lib.hid (fun p hp => by
    rw [← hff, ← hf]
    unfold upd
    rw [if_neg (by omega)])
  have HFF := Lib.hid hff
  have HCN := Lib.hid hcn
  have hsz1 := hb1.size
  have HT1 := Lib.hid (HT0.out.keep hb1 hlt0)
  have HB1 := Lib.hid (HBW.out.trans (hb1.mono (by omega)))
  have hs0 := HSZ.out
  clear hf hcn hb1 hff
  obtain ⟨c0, c1, _, _⟩ := HT1.out.facts
  go_wp2_with (first
    | (at_delete; refine wpList_delete_cnt _ rfl _ _ _ rfl Try.underlying114 n hnn b m n hN1 f0 (by omega) rfl HCN.out rfl ?_; intro w2 hcn2 hg2; have HCN2 := Lib.hid hcn2; have hsz2 := hg2.size; have HG2 := Lib.hid hg2; have HT2 := Lib.hid (box_grown HT1.out hg2 (by omega)); clear hcn2 hg2 c0 c1; obtain ⟨c0, c1, _, _⟩ := HT2.out.facts)
    | (at_make; refine wpList_make_full _ rfl _ _ 23 rfl w2.heap.size 3 i0 (.int .i64 0) 1 Try.underlying23 HI.out.1 HI.out.2.1 HI.out.2.2.1 .i64 .i64 q q q rfl rfl rfl rfl ?b2 ?b3 ?b4 ?_))
  case b2 => rw [HI.out.2.2.2]; omega
  case b3 => unfold maxLen; omega
  case b4 => exact Nat.le_refl _
  intro w3 hown hgrow
  rw [HFF.out] at HCN2
  rw [toList_madeCells_one] at hown
  obtain ⟨d, hd⟩ : ∃ d, d = w2.heap.size := ⟨_, rfl⟩
  rw [← hd] at hown ⊢
  have HOW := Lib.hid hown
  have hbl : b < w2.heap.size := HCN2.out.lt
  have HCN3 := Lib.hid (HCN2.out.kept ⟨none, hgrow, by simp⟩)
  have HB3 := Lib.hid ((HB1.out.grown HG2.out (by omega) (fun j e => by have h2 : b = j := Option.some.inj e; omega)).grown hgrow (by omega) (fun j e => by cases e))
  have hsz3 := (HOW.out.lt d rfl).2
  have hbd : b < d ∧ g < d := by omega
  have HDD := Lib.hid hd
  clear hown hgrow c0 c1 hd
  obtain ⟨r, hr⟩ : ∃ r, r = w3.heap.size := ⟨_, rfl⟩
  go_wp2_with (at_range; refine wpList_range_cnt _ rfl _ _ rfl Try.underlying114 n b m 1 n f rfl HCN3.out ?_; intro w4 lf cnt hrg hz hgr hsz)
  go_frame
  rw [← hr] at hrg hsz ⊢
  have HA : Hid (∃ (lf : Nat → Bool) (cnt : Nat), Rng n w4 b r m 1 n f lf cnt ∧ w4.ownsRow d 3 1 (.slice (some ⟨d, 0, none⟩) q q) q (ints (prL n q f lf)) ∧ Below g w w4 ∧ r < w4.heap.size) := Lib.hid
    ⟨lf, cnt, hrg, by
      have h1 := own_grown' HOW.out hgr
      rw [prL_start HQ.out hz]
      simpa [ints] using h1, HB3.out.grown hgr (by omega) (fun j e => by cases e), by omega⟩
  have hrd : d < r := by omega
  have HRR := Lib.hid hr
  clear hrg hz hgr hsz hr
  go_loopw [20] (fun _ wr => ∃ (lf : Nat → Bool) (cnt : Nat), Rng n wr b r m 1 n f lf cnt ∧ wr.ownsRow d 3 1 (.slice (some ⟨d, 0, none⟩) q q) q (ints (prL n q f lf)) ∧ Below g w wr ∧ r < wr.heap.size) (fun _ wr => wr.rangeLeft b r)
  case atStart => exact HA.out
  case round =>
    clear HA
    obtain ⟨lf, cnt, hrg, hown, hnx, hsz⟩ := hrel
    have HRG := Lib.hid hrg
    have HO1 := Lib.hid hown
    have HX1 := Lib.hid hnx
    clear hrg hown hnx
    go_wp2_with (at_next; refine wpList_next_cnt _ rfl _ rfl n hnn b r m 1 n hN1 f lf cnt rfl HRG.out ?_ ?_)
    · intro hd
      obtain ⟨P, hP⟩ : ∃ P, prP n q f lf = P := ⟨_, rfl⟩
      have hPl : P.length = q := by rw [← hP]; exact prP_len _ _ _ _
      have HPL := Lib.hid hPl
      have HPB : Hid (∀ k x, P[k]? = some x → x ≤ 48) := Lib.hid (fun k x hx => by
        rw [← hP] at hx
        unfold prP at hx
        rw [List.getElem?_map] at hx
        obtain ⟨y, _, rfl⟩ := Option.map_eq_some_iff.1 hx
        exact prN_le hfb y)
      have HV : Hid (P.map (fun a : Nat => ((a / 2 : Nat) : Int)) = vecZ n zs) := Lib.hid (by
        have := half_vec' HO.out (f := f) (lf := lf) HF.out hd
        rw [← HQ.out, hP] at this
        exact this)
      have HO2 : Hid (wr.ownsRow d 3 1 (.slice (some ⟨d, 0, none⟩) q q) q (ints (halL P 0))) := Lib.hid (by
        have := HO1.out
        unfold prL at this
        rw [hP] at this
        rw [halL_zero]
        exact this)
      clear hd hP hPl HO1 HRG
      go_wp2
      go_loopw [36] (fun i wr => ∃ k : Nat, k ≤ q ∧ i = .int .i64 k ∧ wr.ownsRow d 3 1 (.slice (some ⟨d, 0, none⟩) q q) q (ints (halL P k)) ∧ Below g w wr) (fun i _ => q - (intOf i).toNat)
      case atStart => exact ⟨0, by omega, rfl, HO2.out, HX1.out⟩
      case round =>
        clear HO2 HX1
        obtain ⟨k, hk, rfl, hown, hnx⟩ := hrel
        have HO1 := Lib.hid hown
        have HX1 := Lib.hid hnx
        clear hown hnx
        by_cases hlt : k < q
        · obtain ⟨x, hx⟩ : ∃ x, P[k]? = some x := ⟨_, List.getElem?_eq_getElem (by rw [HPL.out]; exact hlt)⟩
          have hx48 := HPB.out k x hx
          have hcr := HO1.out.cellAt k (by omega)
          rw [ints, List.getElem?_map, halL_at hx] at hcr
          simp only [Option.map_some] at hcr
          have hfr := HO1.out.frozenAt k
          have HST := Lib.hid (halL_step hx)
          clear hx
          go_wp2
          go_roundw
          case rel =>
            have hst := HO1.out.stored k (.int .i64 ((x / 2 : Nat) : Int))
            rw [ints, ← List.map_set, HST.out] at hst
            refine ⟨k + 1, by omega, by go_num, ?_, ?_⟩
            · simpa [ints] using hst.1
            · exact HX1.out.setCell (by show g ≤ d; omega) _
          case measure => simp [intOf]; omega
        · have e : k = P.length := by have := HPL.out; omega
          have HE := Lib.hid e
          have hkq : k = q := by omega
          clear e
          go_wp2
          go_ret
          have h1 := HO1.out
          rw [HE.out, halL_all, HV.out] at h1
          refine ⟨some ⟨d, 0, none⟩, q, ?_, ?_, ?_⟩
          · rw [vec_len, HQ.out]; simp
          · rw [vec_len, show ((n : Int)).toNat / 2 = q by have := HQ.out; omega, ← HG.out]
            exact own_base h1 (by omega)
          · rw [← HG.out]
            exact HX1.out
    · intro p w5 cnt' hp1 hp hlp hrg5 hlt hg5 hs5 hen
      have hqq := HQ.out
      obtain ⟨i, hsi⟩ : ∃ i, shB n p = i + 1 := ⟨shB n p - 1, by unfold shB; omega⟩
      have hiq : i < q := by unfold shB at hsi; omega
      have HR5 := Lib.hid hrg5
      have HG5 := Lib.hid hg5
      have HO5 := Lib.hid (own_grown HO1.out hg5 (fun k hk e => by have h1 : d = k := Option.some.inj hk; have h2 : r = k := Option.some.inj e; omega))
      have HST := Lib.hid (prL_step (f := f) (lf := lf) hqq hp1 hp hlp hsi.symm)
      have hlen5 : d < w5.heap.size := (HO5.out.lt d rfl).2
      have HB5 := Lib.hid (HX1.out.grown hg5 (by omega) (fun j e => by have h2 : r = j := Option.some.inj e; omega))
      obtain ⟨A, hA⟩ : ∃ A, prN n f lf i = A := ⟨_, rfl⟩
      have hA48 : A ≤ 48 := by rw [← hA]; exact prN_le hfb i
      have HAA := Lib.hid hA
      obtain ⟨B, hB⟩ : ∃ B, f p = B := ⟨_, rfl⟩
      have hB24 : B ≤ 24 := by rw [← hB]; exact hfb p
      rw [hB] at hen ⊢
      rw [hA, hB] at HST
      have HS5 := Lib.hid hs5
      have HSI := Lib.hid hsi
      clear hrg5 hg5 hA hB hs5 hsi hqq
      simp only [difV] at hen ⊢
      go_wp2_with fail
      rw [show (Value.agg #[.int .i64 (n : Int), .int .i64 (p : Int)]) = difV n p from rfl]
      refine (short_any n p _ hn1 hn24 hp).mono ?_
      rw [HSI.out]
      rintro e w6 ⟨rfl, hb6⟩
      have HB6 := Lib.hid hb6
      have HW6 := Lib.hid ((bel1 w5 (.cells #[.int .i64 n, .int .i64 p] 77)).trans (hb6.mono (by simp)))
      have HO6 := Lib.hid (own_below HO5.out HW6.out)
      have HR6 := Lib.hid (HR5.out.below HW6.out)
      have hcr := HO6.out.cellAt i (by omega)
      rw [ints, List.getElem?_map, prL_at hiq, HAA.out] at hcr
      simp only [Option.map_some] at hcr
      have hfr := HO6.out.frozenAt i
      have hs6 := HW6.out.size
      have HB7 := Lib.hid (HB5.out.trans (HW6.out.mono (by omega)))
      clear hb6
      go_wp2
      go_roundw
      case rel =>
        have hst := HO6.out.stored i (.int .i64 ((A + B : Nat) : Int))
        rw [ints, ← List.map_set, HST.out] at hst
        have h5 := HS5.out
        have e1 : ((A + B : Nat) : Int) = (A : Int) + B := by omega
        rw [e1] at hst
        exact ⟨_, cnt', HR6.out.kept hst.2 (by simp; omega) (by simp; omega), hst.1, HB7.out.setCell (by show g ≤ d; omega) _, by simp; omega⟩
      case measure =>
        have h1 := (HR6.out.kept (HO6.out.stored i (.int .i64 ((A : Int) + B))).2 (by simp; omega) (by simp; omega)).left_eq
        rw [h1, HRG.out.left_eq]
        exact hlt
end Go.Proofs.Ytjgjcppkbfojpaa.Rhy
