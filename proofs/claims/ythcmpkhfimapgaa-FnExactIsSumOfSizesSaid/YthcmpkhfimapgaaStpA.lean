/-
  Helpers of the claims beside this text: the program's iterator over the steps of a rhythm.
-/
import Derived.Test.YthcmpkhfimapgaaStp
import Derived.Test.YthcmpkhfimapgaaPop
namespace Go.Proofs.Ythcmpkhfimapgaa.Rhy
open Go.RowKit
set_option linter.unusedVariables false

set_option maxHeartbeats 1000000 in
theorem after_any (s : Int) (a : Option Addr) (len cap : Nat) (zs : List Int) (i : Nat) (w : World) (h : IntsAt w a len zs) (hm : len ≤ 1048576) (ho : Ok s zs) (hi : i < len) :
    Calls Try.prog 115 #[rhy s a len cap, .int .i64 i] w fun e w' => e = .returned (.int .i64 (stepAt s zs i)) ∧ Below w.heap.size w w' := by
  have HS := Lib.hid h
  have HOK := Lib.hid ho
  obtain ⟨hs1, hs2⟩ := ho.1
  clear h ho
  obtain ⟨w1, hW⟩ : ∃ w1, w1 = w.alloc (.cells #[.int .i64 s, .slice a len cap] 26) := ⟨_, rfl⟩
  have HW := Lib.hid hW
  have B1 := Lib.hid (show Below w.heap.size w w1 by rw [hW]; exact bel1 w _)
  have T1 := Lib.hid (show Two w1 w.heap.size (.int .i64 s) (.slice a len cap) by rw [hW]; exact two_new w _ _ _)
  clear hW
  have HI : Hid (IntsAt w1 a len zs) := Lib.hid (HS.out.below B1.out)
  obtain ⟨x0, x1, x2⟩ := T1.out
  obtain ⟨b, off, z, rfl, hb, hs, hc, _, _⟩ := HI.out.at hi
  obtain ⟨b', off', z0, he', _, hs0, hc0, _, _⟩ := HI.out.at (show 0 < len by omega)
  obtain ⟨rfl, rfl⟩ : b = b' ∧ off = off' := by simpa using he'
  rw [Nat.add_zero] at hc0
  obtain ⟨q1, q2⟩ := ok_at HOK.out hs
  obtain ⟨r1, r2⟩ := ok_at HOK.out hs0
  have hi' := hi
  by_cases h1 : i + 1 < len
  · obtain ⟨b', off', z', he2, _, hs', hc', _, _⟩ := HI.out.at h1
    obtain ⟨rfl, rfl⟩ : b = b' ∧ off = off' := by simpa using he2
    obtain ⟨p1, p2⟩ := ok_at HOK.out hs'
    have HN : Hid (stepAt s zs i = z' - z) := Lib.hid (step_mid hs hs')
    have hi2 : ((i : Int) + 1).toNat = i + 1 := by omega
    clear hs hs0 hs' he' he2
    go_enter Try.func115, Try.ntmps115
    go_wp2_with fail
    rw [← HW.out]
    go_wp2
    go_quiet (fail)
    go_wp2
    go_ret
    exact ⟨ret_int (by rw [HN.out]), below_drewN B1.out _⟩
  · have HN : Hid (stepAt s zs i = z0 + s - z) := Lib.hid (step_last hs (by have := HS.out.len; omega) hs0)
    have hd : decide ((i : Int) + 1 < (len : Int)) = false := by simp; omega
    have hw1 : IntKind.i64.wrap (z0 + s) = z0 + s := IntWalk.i64_in _ (by omega)
    clear hs hs0 he'
    go_enter Try.func115, Try.ntmps115
    go_wp2_with fail
    rw [← HW.out]
    go_wp2
    go_quiet (fail)
    go_wp2
    go_ret
    exact ⟨ret_int (by rw [HN.out]), below_drewN B1.out _⟩

/-- The steps from place i on, k of them, around. -/
def turnsP (s : Int) (zs : List Int) (i k : Nat) : List Int := (List.range k).map fun j => stepAt s zs ((i + j) % zs.length)
theorem turnsP_len (s : Int) (zs : List Int) (i k : Nat) : (turnsP s zs i k).length = k := by simp [turnsP]
theorem turnsP_at (s : Int) (zs : List Int) (i k j : Nat) (h : j < k) : (turnsP s zs i k)[j]?.getD 0 = stepAt s zs ((i + j) % zs.length) := by simp [turnsP, h]
theorem turnsP_zero (s : Int) (zs : List Int) : turnsP s zs 0 zs.length = stepsZ s zs := by
  unfold turnsP stepsZ stepsP
  refine List.map_congr_left fun j hj => ?_
  rw [List.mem_range] at hj
  rw [Nat.zero_add, Nat.mod_eq_of_lt hj]

attribute [local go_sem] Oper.semAt_some wide_fn wide_depth

set_option maxHeartbeats 2000000 in
/-- The closure that gives the steps from place i on: its two variables lie in the blocks lo and lo + 1. -/
theorem stepsFrom_gives (s : Int) (a : Option Addr) (len cap : Nat) (zs : List Int) (i : Nat) (w0 w : World) (lo : Nat) (h : IntsAt w0 a len zs) (hb : Below w0.heap.size w0 w) (hm : len ≤ 1048576) (ho : 0 < len → Ok s zs ∧ i < len)
    (hT : Two w lo (.int .i64 s) (.slice a len cap)) (hI : w.cell? ⟨lo + 1, 0, none⟩ = some (.int .i64 i)) (hlo : lo + 2 ≤ w.heap.size) :
    Gives w0.heap.size lo (lo + 2) w 114 #[.pointer (some ⟨lo, 0, none⟩), .pointer (some ⟨lo + 1, 0, none⟩)] (turnsP s zs i len) := by
  intro m l J Jx W hW hJ hJx hY h0
  have HS := Lib.hid h
  have HHB := Lib.hid (hb.trans (hW.mono hb.size))
  have HO := Lib.hid ho
  have HT := Lib.hid (hT.keep hW)
  have HV := Lib.hid ((hW.cell (p := ⟨lo + 1, 0, none⟩) (by show lo + 1 < _; omega)).trans hI)
  have HJ := Lib.hid hJ
  have HY := Lib.hid hY
  have hlW : lo + 2 ≤ W.heap.size := by have := hW.size; omega
  have hmix : Try.prog.follows .mixedOrders = true := by kernel_rfl
  clear h hb ho hT hI hJ hJx hY hW
  obtain ⟨x0, x1, x2⟩ := HT.out
  have x3 := HV.out
  refine callsIn_of_wp Try.func114 rfl trivial ?_ rfl
  simp only [Try.ntmps114, List.size_toArray, List.length_cons, List.length_nil, Nat.reduceAdd, Nat.reduceSub, Array.replicate_succ, Array.replicate_zero, List.push_toArray, List.append_toArray, List.nil_append, List.cons_append]
  gi_wp2
  gi_loopw [8] (fun i wr => ∃ k : Nat, k ≤ len ∧ i = .int .i64 k ∧ J (List.range k) wr ∧ Kp w0.heap.size lo (lo + 2) W wr ∧ W.heap.size ≤ wr.heap.size) (fun i _ => len - (intOf i).toNat)
  case atStart => exact ⟨0, Nat.zero_le _, rfl, h0, Kp.refl _ _ _ _, Nat.le_refl _⟩
  case round =>
    obtain ⟨k, hk, rfl, hJs, hkp, hsz⟩ := hrel
    have HJS := Lib.hid hJs
    have HK := Lib.hid hkp
    have HZ := Lib.hid hsz
    have y0 : lo < wr.heap.size := by omega
    have y1 : wr.cell? ⟨lo, 0, none⟩ = some (.int .i64 s) := (hkp.cell (p := ⟨lo, 0, none⟩) (Nat.le_refl _) (by show lo < lo + 2; omega)).trans x1
    have y2 : wr.cell? ⟨lo, 1, none⟩ = some (.slice a len cap) := (hkp.cell (p := ⟨lo, 1, none⟩) (Nat.le_refl _) (by show lo < lo + 2; omega)).trans x2
    have y3 : wr.cell? ⟨lo + 1, 0, none⟩ = some (.int .i64 i) := (hkp.cell (p := ⟨lo + 1, 0, none⟩) (by show lo ≤ lo + 1; omega) (by show lo + 1 < lo + 2; omega)).trans x3
    clear hJs hkp hsz x0 x1 x2 x3 h0
    by_cases hlt : k < len
    · obtain ⟨HOK, hin⟩ := HO.out (by omega)
      have hlen : zs.length = len := HS.out.len
      have hl24 : len ≤ 24 := by have := ok_len HOK; omega
      have HR : Hid (remB ((i : Int) + k) len = ((i + k) % len : Nat)) := Lib.hid (by unfold remB; simp)
      have hmod : (i + k) % len < len := Nat.mod_lt _ (by omega)
      have HC := Lib.hid (after_any s a len cap zs ((i + k) % len) wr.drew (HS.out.below (HHB.out.trans (HK.out.1.trans (Below.refl _ _).drew))) hm HOK hmod)
      have HA := Lib.hid (around_any ((i : Int) + k) len wr.drew (by omega) (by omega) (by omega) (by omega))
      have HAT : Hid ((turnsP s zs i len)[k]?.getD 0 = stepAt s zs ((i + k) % len)) := Lib.hid (by rw [turnsP_at s zs i len k hlt, hlen])
      have HOKH := Lib.hid HOK
      clear HOK
      have HYY : Hid (∀ w2, Below wr.drew.heap.size wr.drew w2 → YieldAt Fence.wide (m - 1) Try.prog l #[.int .i64 (stepAt s zs ((i + k) % len))] w2 fun e W' => ∃ b, e = .returned (.bool b) ∧ (b = true → J (List.range (k + 1)) W' ∧ Kp w0.heap.size lo (lo + 2) W W' ∧ W.heap.size ≤ W'.heap.size) ∧ (b = false → Jx (List.range (k + 1)) W')) := by
        intro w2 hb2
        have hb3 : Below wr.heap.size wr w2 := (Below.refl wr.heap.size wr).drew.trans hb2
        have hn0 : w0.heap.size ≤ wr.heap.size := by have := HHB.out.size; have := HZ.out; omega
        have hy := HY.out (List.range k) k w2 (HJ.out _ wr w2 none HJS.out (grown_of_below hb3 none) (fun r e => by cases e)) (by rw [turnsP_len, List.length_range]; exact hlt)
        rw [HAT.out] at hy
        refine hy.mono ?_
        rintro e W' (⟨rfl, hj, hkp⟩ | ⟨rfl, hj⟩)
        · exact ⟨true, rfl, fun _ => ⟨by rw [List.range_succ]; exact hj, (HK.out.t (Kp.of_below hb3 hn0 (by have := HZ.out; omega))).t hkp, by have := HZ.out; have := hb3.size; have := hkp.1.size; omega⟩, fun h => by cases h⟩
        · exact ⟨false, rfl, (fun h => by cases h), fun _ => by rw [List.range_succ]; exact hj⟩
      have hw1 : IntKind.i64.wrap ((i : Int) + k) = i + k := IntWalk.i64_in _ (by omega)
      clear hmod hlen
      gi_wp2
      gi_region_with_o (first
        | (gi_at_call 52; refine (callsIn_wide.2 HA.out).mono ?_; rintro e w' ⟨rfl, rfl⟩; simp only [HR.out])
        | (gi_at_call 115; refine (callsIn_wide.2 HC.out).mono ?_; rintro e w2 ⟨rfl, hb2⟩; obtain ⟨fn, tmps, assign, body, hy, hR⟩ := HYY.out w2 hb2)
        | (refine hR.mono ?_; rintro e W3 ⟨b, rfl, hb⟩))
      all_goals (
        cases b
        · have hj := hb.2 rfl
          gi_wp2
          refine bodyPost_ret (results_none rfl _ _ _) rfl ?_
          exact ⟨⟨_, rfl⟩, .inr ⟨_, range_pre (by rw [turnsP_len]; omega), hj⟩⟩
        · obtain ⟨hj, hkp2, hsz2⟩ := hb.1 rfl
          gi_wp2
          go_roundw
          case rel => exact ⟨k + 1, by omega, by go_num, hj, hkp2, hsz2⟩
          case measure => simp [intOf]; omega)
    · obtain rfl : k = len := by omega
      gi_wp2
      go_end0
      exact ⟨⟨_, rfl⟩, .inl ⟨_, by rw [turnsP_len], HJS.out⟩⟩
end Go.Proofs.Ythcmpkhfimapgaa.Rhy
