/-
  Helpers of the claims beside this text: differences of the program, counted in a map.
-/
import Derived.Test.YtcppmcacjjjjeaaDfs
import Derived.Test.YtcppmcacjjjjeaaMps
namespace Go.Proofs.Ytcppmcacjjjjeaa.Rhy
open Go.RowKit Go.Maps
set_option linter.unusedVariables false

set_option maxHeartbeats 400000 in
theorem difOf_any (n r : Nat) (a : Option Addr) (len cap : Nat) (p q : Int) (w : World) (hn1 : 1 ≤ n) (hn : n ≤ 24) (hp : 0 ≤ p ∧ p < n) (hq : 0 ≤ q ∧ q < n) (hr : remB (p - q) n = r) :
    Calls Try.prog 78 #[rhy n a len cap, .int .i64 p, .int .i64 q] w fun e w' => e = .returned (difV n r) ∧ Below w.heap.size w w' := by
  have HR := Lib.hid hr
  clear hr
  obtain ⟨w1, hW⟩ : ∃ w1, w1 = (w.alloc (.cells #[.int .i64 n, .slice a len cap] 25)).alloc (.cells #[.int .i64 0, .int .i64 0] 69) := ⟨_, rfl⟩
  have HW := Lib.hid hW
  have HB := Lib.hid (show Below w.heap.size w w1 by rw [hW]; exact bel2 w _ _)
  have HT := Lib.hid (show Two w1 w.heap.size (.int .i64 n) (.slice a len cap) by rw [hW]; exact (two_new w _ _ _).keep (bel1 _ _))
  have HU := Lib.hid (show Box w1 (w.heap.size + 1) (.int .i64 0) (.int .i64 0) 69 by
    rw [hW]
    have := box_new (w.alloc (.cells #[.int .i64 n, .slice a len cap] 25)) (.int .i64 0) (.int .i64 0) 69
    simpa using this)
  clear hW
  obtain ⟨t1, t1a, t1b⟩ := HT.out
  obtain ⟨u1, u1a, u1b, u1c⟩ := HU.out.facts
  have lt1 := HU.out.lt
  go_enter Try.func78, Try.ntmps78
  go_wp2_with fail
  rw [← HW.out]
  have hsub : IntKind.i64.wrap (p - q) = p - q := IntWalk.i64_in _ ⟨by omega, by omega⟩
  have HA : ∀ W, Calls Try.prog 100 #[.int .i64 (p - q), .int .i64 n] W fun e w' => e = .returned (.int .i64 r) ∧ W = w' := fun W => by
    have := around_any (p - q) n W (by omega) (by omega) (by omega) (by omega)
    rwa [HR.out] at this
  go_region_with (go_at_call 100; refine (HA _).mono ?_; rintro e w' ⟨rfl, rfl⟩)
  all_goals (
    go_wp2
    refine bodyPost_ret (v := difV n r) (by simp [results, Try.results78, go_sem, difV, *]) rfl ⟨rfl, ?_⟩
    exact below_drewN ((HB.out.setCell (by simp) _).setCell (by simp) _) 1)

/-- The shorter way around. -/
def shB (n p : Nat) : Nat := min p (n - p)
theorem short_any (n p : Nat) (w : World) (hn1 : 1 ≤ n) (hn : n ≤ 24) (hp : p < n) :
    Calls Try.prog 79 #[difV n p] w fun e w' => e = .returned (.int .i64 (shB n p)) ∧ Below w.heap.size w w' := by
  obtain ⟨w1, hW⟩ : ∃ w1, w1 = w.alloc (.cells #[.int .i64 n, .int .i64 p] 69) := ⟨_, rfl⟩
  have HW := Lib.hid hW
  have HB := Lib.hid (show Below w.heap.size w w1 by rw [hW]; exact bel1 w _)
  have HT := Lib.hid (show Two w1 w.heap.size (.int .i64 n) (.int .i64 p) by rw [hW]; exact two_new w _ _ _)
  clear hW
  obtain ⟨t1, t1a, t1b⟩ := HT.out
  go_enter Try.func79, Try.ntmps79
  unfold difV
  go_wp2_with fail
  rw [← HW.out]
  go_wp2
  go_ret
  exact ⟨ret_int (by unfold shB; omega), HB.out⟩
/-! ### the map of the differences -/
/-- How often a number is in a list. -/
def cf (L : List Int) (q : Nat) : Nat := L.count (q : Int)
theorem cf_snoc (L : List Int) (r : Nat) : upd (cf L) r (cf L r + 1) = cf (L ++ [(r : Int)]) := by
  funext q
  unfold upd cf
  rw [List.count_append]
  by_cases e : q = r
  · subst e; simp
  · rw [if_neg e]
    have : List.count (q : Int) [(r : Int)] = 0 := List.count_eq_zero_of_not_mem (by simp; omega)
    omega
theorem box_grown {w w' : World} {g h : Nat} {v0 v1 : Value} {t : TypeId} (hb : Box w g v0 v1 t) (hg : w.grownBy w' (some h)) (hne : g ≠ h) : Box w' g v0 v1 t :=
  (hg.block g hb.lt (by simpa using hne)).trans hb
def DfmAt (g n m : Nat) (L : List Int) (a : Option Addr) (len cap : Nat) (w wr : World) : Prop :=
  Box wr g (.int .i64 n) (.slice a len cap) 25 ∧ Cnt n wr (g + 1) m 0 n (cf L) ∧ Below g w wr ∧ g + 2 ≤ wr.heap.size

set_option maxHeartbeats 2000000 in
theorem difs_any (n : Nat) (a : Option Addr) (len cap : Nat) (zs : List Int) (w : World) (h : IntsAt w a len zs) (hm : len ≤ 1048576) (ho : Ok n zs) :
    Calls Try.prog 99 #[rhy n a len cap] w fun e w' => ∃ b m, e = .returned (.map (some b)) ∧ w.heap.size ≤ b ∧ m ≤ 1000 ∧ Cnt n w' b m 0 n (fun i => difAt n zs i) ∧ Below w.heap.size w w' := by
  have HS := Lib.hid h
  have HO := Lib.hid ho
  have hn1 : 1 ≤ n := by have := ho.1.1; omega
  have hn24 : n ≤ 24 := by have := ho.1.2; omega
  have hnn : (0 : Int) ≤ n ∧ (n : Int) ≤ 1000 := by omega
  have hN1 : n ≤ 1000 := by omega
  have hlz : zs.length ≤ 24 := ok_len ho
  have hll : len = zs.length := HS.out.1.symm
  have HLL := Lib.hid hll
  have HLZ := Lib.hid hlz
  have hlen : len ≤ 24 := by omega
  clear h ho hll hlz
  obtain ⟨g, hg⟩ : ∃ g, g = w.heap.size := ⟨_, rfl⟩
  have HG := Lib.hid hg
  clear hg
  obtain ⟨W0, hW⟩ : ∃ W0, W0 = w.alloc (.cells #[.int .i64 n, .slice a len cap] 25) := ⟨_, rfl⟩
  have HW := Lib.hid hW
  clear hW
  have HSZ := Lib.hid (show W0.heap.size = g + 1 by rw [HW.out, HG.out]; simp)
  have HT0 := Lib.hid (show Box W0 g (.int .i64 n) (.slice a len cap) 25 by rw [HW.out, HG.out]; exact box_new w _ _ _)
  have HBW := Lib.hid (show Below g w W0 by rw [HW.out, HG.out]; exact bel1 w _)
  have hmm := @run_makeMap Try.prog
  have HA : Hid (DfmAt g n 0 (resP n zs 0) a len cap w (W0.alloc (.map #[] 0))) := Lib.hid (by
    have h1 := Cnt.made n W0 n
    rw [HSZ.out] at h1
    exact ⟨HT0.out.keep (bel1 _ _) HT0.out.lt, h1, HBW.out.alloc (by have := HSZ.out; omega) _, by have := HSZ.out; simp; omega⟩)
  have HA2 := HA
  obtain ⟨c0, c1, f0, f1⟩ := HA.out.1.facts
  go_enter Try.func99, Try.ntmps99
  go_wp2_with fail
  rw [← HW.out, ← HG.out]
  go_loopw [12] (fun i wr => ∃ k m : Nat, k ≤ len ∧ i = .int .i64 k ∧ m ≤ 24 * k ∧ DfmAt g n m (resP n zs k) a len cap w wr) (fun i _ => len - (intOf i).toNat)
  case atStart => exact ⟨0, 0, by omega, rfl, by omega, HA.out⟩
  case round =>
    clear HA HA2 c0 c1 f0 f1
    obtain ⟨k, m0, hk, rfl, hm0, hat⟩ := hrel
    have HAT := Lib.hid hat
    clear hat
    obtain ⟨c0, c1, f0, f1⟩ := HAT.out.1.facts
    have lt0 := HAT.out.1.lt
    have HJ : Hid (IntsAt wr a len zs) := Lib.hid (HS.out.below (by rw [← HG.out]; exact HAT.out.2.2.1))
    by_cases hlt : k < len
    · obtain ⟨b, off, z, rfl, hb, hs, hc, hz1, hz2⟩ := HJ.out.at hlt
      obtain ⟨hz0, hzn⟩ := ok_at HO.out hs
      have HPN := Lib.hid (resP_snoc (n := n) hs)
      have HAI : Hid (DfmAt g n m0 (resP n zs k ++ resQ n zs z 0) (some ⟨b, off, none⟩) len cap w wr) := Lib.hid (by rw [show resQ n zs z 0 = [] from rfl, List.append_nil]; exact HAT.out)
      clear hs
      go_wp2
      clear c0 c1 f0 f1 lt0 hc
      go_loopw [19] (fun i wr => ∃ j m : Nat, j ≤ len ∧ i = .int .i64 j ∧ m ≤ 24 * k + j ∧ DfmAt g n m (resP n zs k ++ resQ n zs z j) (some ⟨b, off, none⟩) len cap w wr) (fun i _ => len - (intOf i).toNat)
      case atStart => exact ⟨0, m0, by omega, rfl, by omega, HAI.out⟩
      case round =>
        clear HAT HJ HAI
        obtain ⟨j, m, hj, rfl, hmj, hat⟩ := hrel
        have HAT := Lib.hid hat
        clear hat
        obtain ⟨c0, c1, f0, f1⟩ := HAT.out.1.facts
        have lt0 := HAT.out.1.lt
        have HJ : Hid (IntsAt wr (some ⟨b, off, none⟩) len zs) := Lib.hid (HS.out.below (by rw [← HG.out]; exact HAT.out.2.2.1))
        by_cases hlt2 : j < len
        · obtain ⟨b', off', z', he, hb', hs, hc, hz1', hz2'⟩ := HJ.out.at hlt2
          cases he
          obtain ⟨hz0', hzn'⟩ := ok_at HO.out hs
          obtain ⟨r, hr⟩ : ∃ r : Nat, remB (z - z') n = r := ⟨(remB (z - z') n).toNat, by have := remB_bd (z - z') n (by omega); omega⟩
          have hrn : r < n := by have := remB_bd (z - z') n (by omega); omega
          have HQN := Lib.hid (show resP n zs k ++ resQ n zs z (j + 1) = (resP n zs k ++ resQ n zs z j) ++ [(r : Int)] by rw [resQ_snoc hs, hr, List.append_assoc])
          have HR := Lib.hid hr
          obtain ⟨c, hcc⟩ : ∃ c : Nat, cf (resP n zs k ++ resQ n zs z j) r = c := ⟨_, rfl⟩
          have hcb : c ≤ 1000 := by
            have h1 := List.count_le_length (a := (r : Int)) (l := resP n zs k ++ resQ n zs z j)
            have h2 := resP_len n zs k
            have h3 := resQ_len n zs z j
            have h4 := Nat.mul_le_mul (show k ≤ 24 by omega) HLZ.out
            rw [List.length_append] at h1
            have h5 := HLZ.out
            unfold cf at hcc
            omega
          have HCC := Lib.hid hcc
          clear hs hr hcc
          go_upto_region 8 with fail
          clear c0 c1 f0 f1 hc
          refine wp_region_held_drew (S := fun W' => W'.cell? ⟨g, 0, none⟩ = some (.int .i64 n) ∧ W'.cell? ⟨g, 1, none⟩ = some (.slice (some ⟨b, off, none⟩) len cap)) (by kernel_rfl) ⟨HAT.out.1.facts.1, HAT.out.1.facts.2.1⟩ (fun hSS0 => ?_)
          refine wpAnyH_take (i := 0) (oi := ⟨some 23, _, _, _, _, _⟩) (v := .map (some (g + 1))) rfl (by kernel_rfl) (by kernel_rfl) (by kernel_rfl) (fun _ _ _ h => h) (Or.inl ⟨by rfl, fun W hSw => by go_simp⟩) (by assumption) ?_
          try simp only [Act.put, List.setIfInBounds_toArray, List.set_cons_zero, List.set_cons_succ]
          refine wpAnyH_take (i := 1) (oi := ⟨some 24, _, _, _, _, _⟩) (v := .agg #[.int .i64 n, .slice (some ⟨b, off, none⟩) len cap]) rfl (by kernel_rfl) (by kernel_rfl) (by kernel_rfl) (fun _ _ _ h => h) (Or.inl ⟨by rfl, fun W hSw => by obtain ⟨q1, q2⟩ := hSw; go_simp⟩) (by assumption) ?_
          try simp only [Act.put, List.setIfInBounds_toArray, List.set_cons_zero, List.set_cons_succ]
          refine wpAnyH_take (i := 2) (oi := ⟨some 25, _, _, _, _, _⟩) (v := .int .i64 z) rfl (by kernel_rfl) (by kernel_rfl) (by kernel_rfl) (fun _ _ _ h => h) (Or.inl ⟨by rfl, fun W hSw => by go_simp⟩) (by assumption) ?_
          try simp only [Act.put, List.setIfInBounds_toArray, List.set_cons_zero, List.set_cons_succ]
          refine wpAnyH_take (i := 3) (oi := ⟨some 26, _, _, _, _, _⟩) (v := .int .i64 z') rfl (by kernel_rfl) (by kernel_rfl) (by kernel_rfl) (fun _ _ _ h => h) (Or.inl ⟨by rfl, fun W hSw => by go_simp⟩) (by assumption) ?_
          try simp only [Act.put, List.setIfInBounds_toArray, List.set_cons_zero, List.set_cons_succ]
          refine wpAnyH_ready (rs := [4]) (by kernel_rfl) (by simp) ?_
          refine AllReadyH.cons rfl (fun K hKK => ?_) AllReadyH.nil
          go_simp
          go_at_call 78
          refine (difOf_any n r _ len cap z z' _ hn1 hn24 ⟨hz0, hzn⟩ ⟨hz0', hzn'⟩ HR.out).mono ?_
          rintro e wk1 ⟨rfl, hc1⟩
          have hbb1 : Below wr.heap.size wr wk1 := (Below.refl _ _).drew.trans hc1
          clear hc1
          have HC1 := Lib.hid (HAT.out.2.1.below hbb1)
          have hl1 := lookup_cnt Try.underlying79 hnn hN1 hrn HC1.out
          rw [HCC.out] at hl1
          obtain ⟨v0, st, w4, hen, hc4, hg4, hst⟩ := entry_cnt Try.underlying79 hnn hN1 (show m ≤ 1000000 by omega) (Nat.zero_le _) hrn HC1.out
          have HC4 := Lib.hid hc4
          have HG4 := Lib.hid hg4
          have hl4 := lookup_cnt Try.underlying79 hnn hN1 hrn HC4.out
          rw [HCC.out] at hl4
          obtain ⟨w5, hes, hc5, hg5⟩ := hst w4 (c + 1) (by omega) rfl
          rw [show ((c + 1 : Nat) : Int) = (c : Int) + 1 by omega] at hes
          have HC5 := Lib.hid hc5
          have HG5 := Lib.hid hg5
          have HK1 := Lib.hid (show wk1.cell? ⟨g, 0, none⟩ = some (.int .i64 n) ∧ wk1.cell? ⟨g, 1, none⟩ = some (.slice (some ⟨b, off, none⟩) len cap) from ⟨(HAT.out.1.keep hbb1 lt0).facts.1, (HAT.out.1.keep hbb1 lt0).facts.2.1⟩)
          have HX4 := Lib.hid (box_grown (HAT.out.1.keep hbb1 lt0) hg4 (by omega))
          have HX5 := Lib.hid (box_grown HX4.out hg5 (by omega))
          have HB5 : Hid (Below g w w5 ∧ g + 2 ≤ w5.heap.size) := Lib.hid ⟨((HAT.out.2.2.1.trans (hbb1.mono (by have := HAT.out.2.2.2; omega))).grown hg4 (by have := hbb1.size; omega) (fun j e => by cases e; omega)).grown hg5 (by have := hbb1.size; have := hg4.size; omega) (fun j e => by cases e; omega), by have := HAT.out.2.2.2; have := hbb1.size; have := hg4.size; have := hg5.size; omega⟩
          clear hc4 hg4 hst hc5 hg5
          refine hKK.out _ _ HK1.out (fun hSS1 => ?_)
          clear hKK K hSS0
          try simp only [Act.put, List.setIfInBounds_toArray, List.set_cons_zero, List.set_cons_succ]
          refine wpAnyH_ready (rs := [5, 7]) (by kernel_rfl) (by simp) ?_
          refine AllReadyH.cons rfl (fun K hKK => ?_) (AllReadyH.cons rfl (fun K hKK => ?_) AllReadyH.nil)
          · go_simp
            refine hKK.out _ _ (by assumption) (fun _ => ?_)
            clear hKK K
            try simp only [Act.put, List.setIfInBounds_toArray, List.set_cons_zero, List.set_cons_succ]
            refine wpAnyH_take (i := 6) (oi := ⟨some 29, _, _, _, _, _⟩) (v := .int .i64 ((c + 1 : Nat) : Int)) rfl (by kernel_rfl) (by kernel_rfl) (by kernel_rfl) (fun _ _ _ h => h) (Or.inl ⟨by rfl, fun W hSw => by go_simp; exact (IntWalk.i64_in _ ⟨by omega, by omega⟩).trans (by omega)⟩) (by assumption) ?_
            try simp only [Act.put, List.setIfInBounds_toArray, List.set_cons_zero, List.set_cons_succ]
            refine wpAnyH_ready (rs := [7]) (by kernel_rfl) (by simp) ?_
            refine AllReadyH.cons rfl (fun K hKK => ?_) AllReadyH.nil
            go_simp
            refine hKK.out _ _ ⟨HX4.out.facts.1, HX4.out.facts.2.1⟩ (fun hSS4 => ?_)
            clear hKK K hSS1
            try simp only [Act.put, List.setIfInBounds_toArray, List.set_cons_zero, List.set_cons_succ]
            refine wpAnyH_take (i := 8) (oi := ⟨some 31, _, _, _, _, _⟩) (v := .int .i64 st) rfl (by kernel_rfl) (by kernel_rfl) (by kernel_rfl) (fun _ _ _ h => h) (Or.inl ⟨by rfl, fun W hSw => by go_simp⟩) (by assumption) ?_
            try simp only [Act.put, List.setIfInBounds_toArray, List.set_cons_zero, List.set_cons_succ]
            refine wpAnyH_ready (rs := [9]) (by kernel_rfl) (by simp) ?_
            refine AllReadyH.cons rfl (fun K hKK => ?_) AllReadyH.nil
            go_simp
            refine hKK.out _ _ ⟨HX5.out.facts.1, HX5.out.facts.2.1⟩ (fun hSS5 => ?_)
            clear hKK K hSS4
            try simp only [Act.put, List.setIfInBounds_toArray, List.set_cons_zero, List.set_cons_succ]
            refine wpAnyH_done (by kernel_rfl) ?_ _
            clear HK1 hSS5 hl1 hl4 hen hes
            go_wp2
            go_roundw
            case rel =>
              refine ⟨j + 1, m + 1, by omega, by go_num, by omega, HX5.out, ?_, HB5.out.1, HB5.out.2⟩
              rw [HQN.out, ← cf_snoc, HCC.out]
              exact HC5.out
            case measure => simp [intOf]; omega
          · go_simp
            refine hKK.out _ _ ⟨HX4.out.facts.1, HX4.out.facts.2.1⟩ (fun hSS4 => ?_)
            clear hKK K hSS1
            try simp only [Act.put, List.setIfInBounds_toArray, List.set_cons_zero, List.set_cons_succ]
            refine wpAnyH_take (i := 8) (oi := ⟨some 31, _, _, _, _, _⟩) (v := .int .i64 st) rfl (by kernel_rfl) (by kernel_rfl) (by kernel_rfl) (fun _ _ _ h => h) (Or.inl ⟨by rfl, fun W hSw => by go_simp⟩) (by assumption) ?_
            try simp only [Act.put, List.setIfInBounds_toArray, List.set_cons_zero, List.set_cons_succ]
            refine wpAnyH_ready (rs := [5]) (by kernel_rfl) (by simp) ?_
            refine AllReadyH.cons rfl (fun K hKK => ?_) AllReadyH.nil
            go_simp
            refine hKK.out _ _ (by assumption) (fun _ => ?_)
            clear hKK K
            try simp only [Act.put, List.setIfInBounds_toArray, List.set_cons_zero, List.set_cons_succ]
            refine wpAnyH_take (i := 6) (oi := ⟨some 29, _, _, _, _, _⟩) (v := .int .i64 ((c + 1 : Nat) : Int)) rfl (by kernel_rfl) (by kernel_rfl) (by kernel_rfl) (fun _ _ _ h => h) (Or.inl ⟨by rfl, fun W hSw => by go_simp; exact (IntWalk.i64_in _ ⟨by omega, by omega⟩).trans (by omega)⟩) (by assumption) ?_
            try simp only [Act.put, List.setIfInBounds_toArray, List.set_cons_zero, List.set_cons_succ]
            refine wpAnyH_ready (rs := [9]) (by kernel_rfl) (by simp) ?_
            refine AllReadyH.cons rfl (fun K hKK => ?_) AllReadyH.nil
            go_simp
            refine hKK.out _ _ ⟨HX5.out.facts.1, HX5.out.facts.2.1⟩ (fun hSS5 => ?_)
            clear hKK K hSS4
            try simp only [Act.put, List.setIfInBounds_toArray, List.set_cons_zero, List.set_cons_succ]
            refine wpAnyH_done (by kernel_rfl) ?_ _
            clear HK1 hSS5 hl1 hl4 hen hes
            go_wp2
            go_roundw
            case rel =>
              refine ⟨j + 1, m + 1, by omega, by go_num, by omega, HX5.out, ?_, HB5.out.1, HB5.out.2⟩
              rw [HQN.out, ← cf_snoc, HCC.out]
              exact HC5.out
            case measure => simp [intOf]; omega
        · have e : j = len := by omega
          subst e
          go_wp2
          go_roundw
          case rel => exact ⟨k + 1, m, by omega, by go_num, by omega, by rw [HPN.out, ← HLL.out]; exact HAT.out⟩
          case measure => simp [intOf]; omega
    · have e : k = zs.length := by have := HLL.out; omega
      have HE := Lib.hid e
      have hm1 : m0 ≤ 1000 := by omega
      clear e
      go_wp2
      go_ret
      have h1 := HAT.out
      rw [HE.out, resP_all] at h1
      obtain ⟨D, q1, q2, q3⟩ := h1.2.1
      refine ⟨g + 1, m0, rfl, by have := HG.out; omega, hm1, ⟨D, q1, fun p hp => ?_, q3⟩, ?_⟩
      · rw [q2 p hp]
        unfold cf
        rw [count_res HO.out (by omega)]
      · rw [← HG.out]
        exact h1.2.2.1
end Go.Proofs.Ytcppmcacjjjjeaa.Rhy
