/-
  Helpers of the claims beside this text: IsDeep of the program.
-/
import Derived.Test.YtcppmcacjjjjeaaIvc
namespace Go.Proofs.Ytcppmcacjjjjeaa.Rhy
open Go.RowKit Go.Maps
set_option linter.unusedVariables false
set_option linter.unusedSimpArgs false
set_option maxRecDepth 100000

theorem lookup_seen {w : World} {b m : Nat} {L : List Int} {z : Int} {t : TypeId} (ht : Try.prog.underlying t = some (.map 3 4)) (hz : -9223372036854775808 ≤ z ∧ z ≤ 9223372036854775807) (h : Seen w b m L) :
    (Instr.lookup t (.map (some b)) (.int .i64 z) false).run Try.prog w = .ok (.bool (decide (z ∈ L))) w := by
  obtain ⟨D, hown, h1⟩ := h
  obtain ⟨v, ps, hrun, hv⟩ := hown.lookup lawN ht (zeroB w) (plainElem_bool Try.underlying4 false) (keyOf_int_mk Try.underlying3 (wfi hz))
  rw [h1 z] at hv
  obtain ⟨x', rfl, hx'⟩ := plainElem_bool_inv Try.underlying4 hv
  have e : decide (z ∈ L) = x' := by
    injection hx' with e1 _; injection e1 with e2; injection e2
  rw [e]
  exact hrun
theorem vec_nonneg {n : Int} {zs : List Int} : ∀ z ∈ vecZ n zs, 0 ≤ z ∧ z ≤ 9223372036854775807 → 0 ≤ z := fun z _ h => h.1
theorem vec_bd {n : Int} {zs : List Int} (ho : Ok n zs) : ∀ z ∈ vecZ n zs, 0 ≤ z ∧ z ≤ 24 := by
  intro z hz
  unfold vecZ at hz
  rw [List.mem_map] at hz
  obtain ⟨j, _, rfl⟩ := hz
  have := dif_le ho ((j + 1 : Nat) : Int)
  split <;> omega
set_option maxHeartbeats 1000000 in
theorem deep_any (n : Nat) (a : Option Addr) (len cap : Nat) (zs : List Int) (q : Bool) (w : World) (h : IntsAt w a len zs) (hm : len ≤ 1048576) (ho : Ok n zs) (hq : deepB n zs = q) :
    Calls Try.prog 81 #[rhy n a len cap] w fun e w' => e = .returned (.bool q) ∧ Below w.heap.size w w' := by
  have HS := Lib.hid h
  have HO := Lib.hid ho
  obtain ⟨V, hV⟩ : ∃ V, vecZ n zs = V := ⟨_, rfl⟩
  have HVE := Lib.hid hV
  have HQ := Lib.hid hq
  have HVB : Hid (∀ z ∈ V, 0 ≤ z ∧ z ≤ 24) := Lib.hid (by rw [← hV]; exact vec_bd ho)
  obtain ⟨vl, hvl⟩ : ∃ vl, V.length = vl := ⟨_, rfl⟩
  have HVL := Lib.hid hvl
  have hvl24 : vl ≤ 24 := by rw [← hvl, ← hV, vec_len]; have := ho.1; omega
  have HYES : Hid (deepZ V → true = q) := Lib.hid (fun x => by rw [← hq, deepB_yes ⟨ho, by rw [hV]; exact x⟩])
  have HNO : Hid (¬ deepZ V → false = q) := Lib.hid (fun x => by rw [← hq, deepB_no (fun y => x (by rw [← hV]; exact y.2))])
  clear h ho hV hq hvl
  obtain ⟨g, hg⟩ : ∃ g, g = w.heap.size := ⟨_, rfl⟩
  have HG := Lib.hid hg
  clear hg
  obtain ⟨W0, hW⟩ : ∃ W0, W0 = (w.alloc (.cells #[.int .i64 n, .slice a len cap] 25)).alloc (.map #[] 0) := ⟨_, rfl⟩
  have HW := Lib.hid hW
  have HSZ := Lib.hid (show W0.heap.size = g + 2 by rw [hW, HG.out]; simp)
  have HB0 := Lib.hid (show Below g w W0 by rw [hW, HG.out]; exact bel2 w _ _)
  have HX0 : Hid (Box W0 g (.int .i64 n) (.slice a len cap) 25) := Lib.hid (by rw [hW, HG.out]; exact (box_new w _ _ _).keep (bel1 _ _) (by simp))
  have HM0 : Hid (Seen W0 (g + 1) 0 []) := Lib.hid (by rw [hW, HG.out]; have := Seen.made (w.alloc (.cells #[.int .i64 n, .slice a len cap] 25)); simpa using this)
  clear hW
  have hmm := @run_makeMap Try.prog
  obtain ⟨c0, c1, f0, f1⟩ := HX0.out.facts
  rw [HG.out] at c0 c1 f0 f1
  go_enter Try.func81, Try.ntmps81
  go_wp2_with fail
  rw [← HW.out, ← HG.out]
  rw [← HG.out] at c0 c1
  refine (vector_any n a len cap zs W0 (HS.out.below (by rw [← HG.out]; exact HB0.out)) hm HO.out).mono ?_
  rw [HVE.out]
  rintro e w1 ⟨b, c, rfl, hown, hb1⟩
  rw [HVL.out, HSZ.out] at hown
  rw [HVL.out]
  have HOW0 := Lib.hid hown
  have HS1 := Lib.hid (HM0.out.below hb1)
  have hz1 := hb1.size
  have hsz := HSZ.out
  have HB1 := Lib.hid (HB0.out.trans (hb1.mono (by omega)))
  clear hown hb1 c0 c1 f0 f1
  go_wp2
  go_loopw [10] (fun i wr => ∃ k : Nat, k ≤ vl ∧ i = .int .i64 k ∧ Seen wr (g + 1) k (V.take k) ∧ deepP V k ∧ wr.ownsRow (g + 2) 3 1 (.slice b vl c) vl (ints V) ∧ Below g w wr) (fun i _ => vl - (intOf i).toNat)
  case atStart => exact ⟨0, by omega, rfl, HS1.out, fun j z hj => by omega, HOW0.out, HB1.out⟩
  case round =>
    clear HOW0 HS1 HB1
    obtain ⟨k, hk, rfl, hse, hdp, hown, hnx⟩ := hrel
    have HSE := Lib.hid hse
    have HDP := Lib.hid hdp
    have HX := Lib.hid hnx
    have hsl := HSE.out.lt
    by_cases hlt : k < vl
    · have HIA := Lib.hid (intsAt_own hown (fun z hz => by have := HVB.out z hz; omega))
      obtain ⟨gb, off, z, rfl, hb, hs, hc, hz1', hz2'⟩ := HIA.out.at hlt
      obtain ⟨hz0, hz24⟩ := HVB.out z (List.mem_of_getElem? hs)
      have HOW := Lib.hid hown
      have HTK : Hid (V.take (k + 1) = V.take k ++ [z]) := Lib.hid (by rw [List.take_add_one, hs]; rfl)
      clear hse hdp hnx hown
      by_cases h0 : z = 0
      · have HDN : Hid (deepP V (k + 1)) := Lib.hid (deep_next HDP.out hs (fun h => by omega))
        have hzb : (z != 0) = false := by simp [h0]
        clear hs h0
        go_wp2_with (at_mapUpdate; refine wpList_store_seen _ rfl _ _ _ _ rfl Try.underlying95 (g + 1) k (by omega) (V.take k) z ⟨by omega, by omega⟩ rfl HSE.out rfl rfl ?_; intro w3 hse3 hg3; go_frame)
        go_roundw
        case rel =>
          refine ⟨k + 1, by omega, by go_num, ?_, HDN.out, own_grown HOW.out hg3 (fun j hj e => by have h1 := (HOW.out.lt j hj).1; have h2 : g + 1 = j := Option.some.inj e; omega), HX.out.grown hg3 (by omega) (fun j e => by have h2 : g + 1 = j := Option.some.inj e; omega)⟩
          rw [HTK.out]
          exact hse3
        case measure => simp [intOf]; omega
      · have hzb : (z != 0) = true := by simp [h0]
        have hlk := lookup_seen Try.underlying95 ⟨hz1', hz2'⟩ HSE.out
        by_cases hin : z ∈ V.take k
        · have HQF := Lib.hid (HNO.out (fun h => h k z (by rw [HVL.out]; omega) hs (by omega) hin))
          rw [decide_eq_true hin] at hlk
          clear hs hin
          go_wp2
          go_ret
          exact ⟨ret_bool HQF.out, by rw [← HG.out]; exact HX.out⟩
        · have HDN : Hid (deepP V (k + 1)) := Lib.hid (deep_next HDP.out hs (fun _ => hin))
          rw [decide_eq_false hin] at hlk
          clear hs hin h0
          go_wp2_with (at_mapUpdate; refine wpList_store_seen _ rfl _ _ _ _ rfl Try.underlying95 (g + 1) k (by omega) (V.take k) z ⟨by omega, by omega⟩ rfl HSE.out rfl rfl ?_; intro w3 hse3 hg3; go_frame)
          go_roundw
          case rel =>
            refine ⟨k + 1, by omega, by go_num, ?_, HDN.out, own_grown HOW.out hg3 (fun j hj e => by have h1 := (HOW.out.lt j hj).1; have h2 : g + 1 = j := Option.some.inj e; omega), HX.out.grown hg3 (by omega) (fun j e => by have h2 : g + 1 = j := Option.some.inj e; omega)⟩
            rw [HTK.out]
            exact hse3
          case measure => simp [intOf]; omega
    · have e : k = V.length := by have := HVL.out; omega
      have HQT := Lib.hid (HYES.out (show deepZ V by unfold deepZ; rw [← e]; exact HDP.out))
      clear e hse hdp hnx
      go_wp2
      go_ret
      exact ⟨ret_bool HQT.out, by rw [← HG.out]; exact HX.out⟩
theorem deep_impl (s : Int) (a : Option Addr) (len cap : Nat) (zs : List Int) (w : World) (h : IntsAt w a len zs) (hm : zs.length ≤ 1048576) :
    Calls Try.prog 36 #[rhy s a len cap] w fun e w' => e = .returned (.bool (deepB s zs)) ∧ Below w.heap.size w w' := by
  have HS := Lib.hid h
  have hl : len ≤ 1048576 := by have := h.1; omega
  clear h
  by_cases ho : Ok s zs
  · obtain ⟨n, rfl⟩ : ∃ n : Nat, s = n := ⟨s.toNat, by have := ho.1; omega⟩
    have HO := Lib.hid ho
    obtain ⟨q, hq⟩ : ∃ q, deepB n zs = q := ⟨_, rfl⟩
    have HQ := Lib.hid hq
    clear ho hq
    rw [HQ.out]
    go_enter Try.func36, Try.ntmps36
    go_wp2_with fail
    refine (valid_yes n a len cap zs _ (HS.out.below (bel1 w _)) hl HO.out).mono ?_
    rintro e w1 ⟨rfl, hb1⟩
    have HB := Lib.hid ((bel1 w (.cells #[.int .i64 n, .slice a len cap] 25)).trans (hb1.mono (by simp)))
    have HT := Lib.hid ((two_new w (.int .i64 n) (.slice a len cap) 25).keep hb1)
    obtain ⟨t1, t1a, t1b⟩ := HT.out
    clear hb1
    go_wp2_with fail
    refine (deep_any n a len cap zs q w1 (HS.out.below HB.out) hl HO.out HQ.out).mono ?_
    rintro e w2 ⟨rfl, hb⟩
    have HB2 := Lib.hid (HB.out.trans (hb.mono HB.out.size))
    clear hb
    go_wp2
    go_ret
    exact ⟨rfl, HB2.out⟩
  · have HO := Lib.hid ho
    have HE := Lib.hid (deepB_no (s := s) (zs := zs) (fun x => ho x.1))
    clear ho
    rw [HE.out]
    go_enter Try.func36, Try.ntmps36
    go_wp2_with fail
    refine (valid_no s a len cap zs _ (HS.out.below (bel1 w _)) hl HO.out).mono ?_
    rintro e w1 ⟨rfl, hb1⟩
    have HB := Lib.hid ((bel1 w (.cells #[.int .i64 s, .slice a len cap] 25)).trans (hb1.mono (by simp)))
    clear hb1
    go_wp2
    go_ret
    exact ⟨rfl, HB.out⟩

end Go.Proofs.Ytcppmcacjjjjeaa.Rhy
