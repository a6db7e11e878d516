/-
  Helpers of the claims beside this text: cutting zeros, small polynomials, values and products: both sides.
-/
import Derived.Test.YtoejafpijcacoaaPld
namespace Go.Proofs.Ytoejafpijcacoaa.Rhy
open Go.RowKit
set_option linter.unusedVariables false
set_option linter.unusedSimpArgs false


set_option maxHeartbeats 400000 in
theorem trim_spec (a : Option Addr) (n cap : Nat) (zs : List Int) (w : World) (h : IntsAt w a n zs) (hm : n ≤ 1048576) (hcap : n ≤ cap) :
    Calls Try.prog 65 #[.slice a n cap] w fun e w' => e = .returned (.slice a (trimL zs).length cap) ∧ w = w' := by
  have HS := Lib.hid h
  clear h
  go_enter Try.func65, Try.ntmps65
  go_wp2
  go_loop [3] (fun i => ∃ k : Nat, k ≤ n ∧ i = .int .i64 k ∧ Hid (trimL zs = trimL (zs.take k))) (fun i => (intOf i).toNat)
  case atStart => exact ⟨n, by omega, rfl, Lib.hid (by rw [List.take_of_length_le (by rw [HS.out.1]; exact Nat.le_refl _)])⟩
  case round =>
    obtain ⟨k, hk, rfl, HT⟩ := hrel
    by_cases h0 : 0 < k
    · obtain ⟨j, rfl⟩ : ∃ j, k = j + 1 := ⟨k - 1, by omega⟩
      obtain ⟨b, off, z, rfl, hb, hs, hc, hz1, hz2⟩ := HS.out.at (show j < n by omega)
      by_cases hz : z = 0
      · subst hz
        have HN : Hid (trimL zs = trimL (zs.take j)) := Lib.hid (by rw [HT.out, trim_yes hs])
        clear hs
        go_wp2
        go_round
        case rel => exact ⟨j, by omega, by go_num, HN⟩
        case measure => simp [intOf]
      · have HN : Hid (j + 1 = (trimL zs).length) := Lib.hid (by rw [HT.out, trim_no hs hz, List.length_take, HS.out.1]; omega)
        have hzb : (z == 0) = false := by simpa using hz
        clear hs
        go_wp2
        go_ret
        refine ⟨?_, rfl⟩
        rw [← HN.out]
        try simp
    · have e : k = 0 := by omega
      subst e
      have HN : Hid (0 = (trimL zs).length) := Lib.hid (by rw [HT.out]; simp [trimL])
      go_wp2
      go_ret
      refine ⟨?_, rfl⟩
      rw [← HN.out]
      try simp


set_option maxHeartbeats 400000 in
theorem trim_impl (a : Option Addr) (n cap : Nat) (zs : List Int) (w : World) (h : IntsAt w a n zs) (hm : n ≤ 1048576) (hcap : n ≤ cap) :
    Calls Try.prog 71 #[.slice a n cap] w fun e w' => e = .returned (.slice a (trimL zs).length (trimL zs).length) ∧ w = w' := by
  have HS := Lib.hid h
  clear h
  go_enter Try.func71, Try.ntmps71
  go_wp2
  go_loop [3] (fun i => ∃ k : Nat, k ≤ n ∧ i = .int .i64 k ∧ Hid (trimL zs = trimL (zs.take k))) (fun i => (intOf i).toNat)
  case atStart => exact ⟨n, by omega, rfl, Lib.hid (by rw [List.take_of_length_le (by rw [HS.out.1]; exact Nat.le_refl _)])⟩
  case round =>
    obtain ⟨k, hk, rfl, HT⟩ := hrel
    by_cases h0 : 0 < k
    · obtain ⟨j, rfl⟩ : ∃ j, k = j + 1 := ⟨k - 1, by omega⟩
      obtain ⟨b, off, z, rfl, hb, hs, hc, hz1, hz2⟩ := HS.out.at (show j < n by omega)
      by_cases hz : z = 0
      · subst hz
        have HN : Hid (trimL zs = trimL (zs.take j)) := Lib.hid (by rw [HT.out, trim_yes hs])
        clear hs
        go_wp2
        go_round
        case rel => exact ⟨j, by omega, by go_num, HN⟩
        case measure => simp [intOf]
      · have HN : Hid (j + 1 = (trimL zs).length) := Lib.hid (by rw [HT.out, trim_no hs hz, List.length_take, HS.out.1]; omega)
        have hzb : (z == 0) = false := by simpa using hz
        clear hs
        go_wp2
        go_ret
        refine ⟨?_, rfl⟩
        rw [← HN.out]
        try simp
    · have e : k = 0 := by omega
      subst e
      have HN : Hid (0 = (trimL zs).length) := Lib.hid (by rw [HT.out]; simp [trimL])
      go_wp2
      go_ret
      refine ⟨?_, rfl⟩
      rw [← HN.out]
      try simp


set_option maxHeartbeats 400000 in
theorem okp_spec (a : Option Addr) (n cap : Nat) (zs : List Int) (w : World) (h : IntsAt w a n zs) (hm : n ≤ 1048576) (q : Bool) (hq : (PolC zs → q = true) ∧ (¬ PolC zs → q = false)) :
    Calls Try.prog 64 #[.slice a n cap] w fun e w' => e = .returned (.bool q) ∧ w = w' := by
  have HS := Lib.hid h
  have HQ := Lib.hid hq
  clear h hq
  by_cases h40 : 40 < n
  · have HE : Hid (q = false) := Lib.hid (HQ.out.2 (fun hp => by have := hp.1; have := HS.out.1; omega))
    go_enter Try.func64, Try.ntmps64
    go_wp2
    go_ret
    exact ⟨ret_b HE.out.symm, rfl⟩
  rcases Nat.eq_zero_or_pos n with h0 | hp
  · subst h0
    have HE : Hid (q = true) := Lib.hid (HQ.out.1 (by
      have : zs = [] := List.length_eq_zero_iff.1 HS.out.1
      subst this
      exact ⟨by simp, clean_nil, fun z hz => by cases hz⟩))
    go_enter Try.func64, Try.ntmps64
    go_wp2
    go_loop [24] (fun i => i = .int .i64 0) (fun i => 0)
    case atStart => rfl
    case round =>
      subst hrel
      go_wp2
      go_ret
      exact ⟨ret_b HE.out.symm, rfl⟩
  obtain ⟨m, rfl⟩ : ∃ m, n = m + 1 := ⟨n - 1, by omega⟩
  obtain ⟨b0, off0, z0, rfl, hb0, hs0, hc0, hz01, hz02⟩ := HS.out.at (show m < m + 1 by omega)
  obtain ⟨n, hn⟩ : ∃ n, n = m + 1 := ⟨_, rfl⟩
  by_cases hz : z0 = 0
  · subst hz
    have HE : Hid (q = false) := Lib.hid (HQ.out.2 (fun hp => (clean_iff HS.out.1 hs0).1 hp.2.1 rfl))
    clear hs0 hn n
    go_enter Try.func64, Try.ntmps64
    go_wp2
    go_ret
    exact ⟨ret_b HE.out.symm, rfl⟩
  have HCL : Hid (Clean zs) := Lib.hid ((clean_iff HS.out.1 hs0).2 hz)
  have hzb : (z0 == 0) = false := by simpa using hz
  clear hs0 hn n hz
  go_enter Try.func64, Try.ntmps64
  go_wp2
  clear hc0 hz01 hz02 hzb
  go_loop [24] (fun i => ∃ k : Nat, k ≤ (m + 1) ∧ i = .int .i64 k ∧ Hid (∀ z ∈ zs.take k, -1000 ≤ z ∧ z ≤ 1000)) (fun i => (m + 1) - (intOf i).toNat)
  case atStart => exact ⟨0, by omega, rfl, Lib.hid (fun z hz => by simp at hz)⟩
  case round =>
    obtain ⟨k, hk, rfl, HT⟩ := hrel
    by_cases hlt : k < m + 1
    · obtain ⟨b, off, z, he, hb, hs, hc, hz1, hz2⟩ := HS.out.at hlt
      cases he
      by_cases hin : -1000 ≤ z ∧ z ≤ 1000
      · have HN : Hid (∀ y ∈ zs.take (k + 1), -1000 ≤ y ∧ y ≤ 1000) := Lib.hid (fun y hy => by
          rw [take_snoc hs, List.mem_append] at hy
          rcases hy with q | q
          · exact HT.out y q
          · rw [List.mem_singleton.1 q]; exact hin)
        clear hs
        go_wp2_with fail
        refine (in_yes z (-1000) 1000 _ hin.1 hin.2).mono ?_
        rintro e w' ⟨rfl, rfl⟩
        go_wp2
        go_round
        case rel => exact ⟨k + 1, by omega, by go_num, HN⟩
        case measure => simp [intOf]; omega
      · have HE : Hid (q = false) := Lib.hid (HQ.out.2 (fun hp => hin (hp.2.2 z (List.mem_of_getElem? hs))))
        clear hs
        go_wp2_with fail
        refine (in_no z (-1000) 1000 _ hin).mono ?_
        rintro e w' ⟨rfl, rfl⟩
        go_wp2
        go_ret
        exact ⟨ret_b HE.out.symm, rfl⟩
    · have e : k = (m + 1) := by omega
      have HE : Hid (q = true) := Lib.hid (HQ.out.1 ⟨by rw [HS.out.1]; omega, HCL.out, fun z hz => HT.out z (by rw [e, ← HS.out.1, List.take_length]; exact hz)⟩)
      go_wp2
      go_ret
      exact ⟨ret_b HE.out.symm, rfl⟩


set_option maxHeartbeats 400000 in
theorem okp_impl (a : Option Addr) (n cap : Nat) (zs : List Int) (w : World) (h : IntsAt w a n zs) (hm : n ≤ 1048576) (q : Bool) (hq : (PolC zs → q = true) ∧ (¬ PolC zs → q = false)) :
    Calls Try.prog 51 #[.slice a n cap] w fun e w' => e = .returned (.bool q) ∧ w = w' := by
  have HS := Lib.hid h
  have HQ := Lib.hid hq
  clear h hq
  by_cases h40 : 40 < n
  · have HE : Hid (q = false) := Lib.hid (HQ.out.2 (fun hp => by have := hp.1; have := HS.out.1; omega))
    go_enter Try.func51, Try.ntmps51
    go_wp2
    go_ret
    exact ⟨ret_b HE.out.symm, rfl⟩
  rcases Nat.eq_zero_or_pos n with h0 | hp
  · subst h0
    have HE : Hid (q = true) := Lib.hid (HQ.out.1 (by
      have : zs = [] := List.length_eq_zero_iff.1 HS.out.1
      subst this
      exact ⟨by simp, clean_nil, fun z hz => by cases hz⟩))
    go_enter Try.func51, Try.ntmps51
    go_wp2
    go_loop [24] (fun i => i = .int .i64 0) (fun i => 0)
    case atStart => rfl
    case round =>
      subst hrel
      go_wp2
      go_ret
      exact ⟨ret_b HE.out.symm, rfl⟩
  obtain ⟨m, rfl⟩ : ∃ m, n = m + 1 := ⟨n - 1, by omega⟩
  obtain ⟨b0, off0, z0, rfl, hb0, hs0, hc0, hz01, hz02⟩ := HS.out.at (show m < m + 1 by omega)
  obtain ⟨n, hn⟩ : ∃ n, n = m + 1 := ⟨_, rfl⟩
  by_cases hz : z0 = 0
  · subst hz
    have HE : Hid (q = false) := Lib.hid (HQ.out.2 (fun hp => (clean_iff HS.out.1 hs0).1 hp.2.1 rfl))
    clear hs0 hn n
    go_enter Try.func51, Try.ntmps51
    go_wp2
    go_ret
    exact ⟨ret_b HE.out.symm, rfl⟩
  have HCL : Hid (Clean zs) := Lib.hid ((clean_iff HS.out.1 hs0).2 hz)
  have hzb : (z0 == 0) = false := by simpa using hz
  clear hs0 hn n hz
  go_enter Try.func51, Try.ntmps51
  go_wp2
  clear hc0 hz01 hz02 hzb
  go_loop [24] (fun i => ∃ k : Nat, k ≤ (m + 1) ∧ i = .int .i64 k ∧ Hid (∀ z ∈ zs.take k, -1000 ≤ z ∧ z ≤ 1000)) (fun i => (m + 1) - (intOf i).toNat)
  case atStart => exact ⟨0, by omega, rfl, Lib.hid (fun z hz => by simp at hz)⟩
  case round =>
    obtain ⟨k, hk, rfl, HT⟩ := hrel
    by_cases hlt : k < m + 1
    · obtain ⟨b, off, z, he, hb, hs, hc, hz1, hz2⟩ := HS.out.at hlt
      cases he
      by_cases hin : -1000 ≤ z ∧ z ≤ 1000
      · have HN : Hid (∀ y ∈ zs.take (k + 1), -1000 ≤ y ∧ y ≤ 1000) := Lib.hid (fun y hy => by
          rw [take_snoc hs, List.mem_append] at hy
          rcases hy with q | q
          · exact HT.out y q
          · rw [List.mem_singleton.1 q]; exact hin)
        clear hs
        obtain ⟨hi1, hi2⟩ := hin
        go_wp2
        go_round
        case rel => exact ⟨k + 1, by omega, by go_num, HN⟩
        case measure => simp [intOf]; omega
      · have HE : Hid (q = false) := Lib.hid (HQ.out.2 (fun hp => hin (hp.2.2 z (List.mem_of_getElem? hs))))
        clear hs
        by_cases hi1 : z < -1000
        · go_wp2
          go_ret
          exact ⟨ret_b HE.out.symm, rfl⟩
        have hi2 : 1000 < z := by omega
        go_wp2
        go_ret
        exact ⟨ret_b HE.out.symm, rfl⟩
    · have e : k = (m + 1) := by omega
      have HE : Hid (q = true) := Lib.hid (HQ.out.1 ⟨by rw [HS.out.1]; omega, HCL.out, fun z hz => HT.out z (by rw [e, ← HS.out.1, List.take_length]; exact hz)⟩)
      go_wp2
      go_ret
      exact ⟨ret_b HE.out.symm, rfl⟩


theorem val_bd {zs : List Int} (h : PolC zs) (hl : zs.length ≤ 25) {x : Int} (hx : -2 ≤ x ∧ x ≤ 2) (k : Nat) : -33554431000 ≤ pEval (zs.drop k) x ∧ pEval (zs.drop k) x ≤ 33554431000 := by
  have := ev_bd (pol_bds h) hx 25 k (by omega)
  simpa using this
set_option maxHeartbeats 400000 in
theorem val_any (a : Option Addr) (n cap : Nat) (zs : List Int) (x : Int) (w : World) (h : IntsAt w a n zs) (hm : n ≤ 25) (hp : PolC zs) (hx : -2 ≤ x ∧ x ≤ 2) :
    Calls Try.prog 58 #[.slice a n cap, .int .i64 x] w fun e w' => e = .returned (.int .i64 (pEval zs x)) ∧ w = w' := by
  have HS := Lib.hid h
  have HPC := Lib.hid hp
  have HB := Lib.hid (val_bd hp (by rw [h.1]; exact hm) hx)
  have hx1 := hx.1
  have hx2 := hx.2
  clear h hp
  go_enter Try.func58, Try.ntmps58
  go_wp2
  go_loop [5, 6] (fun v i => ∃ k : Nat, k ≤ n ∧ i = .int .i64 ((k : Int) - 1) ∧ v = .int .i64 (pEval (zs.drop k) x)) (fun _ i => (intOf i + 1).toNat)
  case atStart => exact ⟨n, by omega, by go_num, by rw [List.drop_of_length_le (by rw [HS.out.1]; exact Nat.le_refl _)]; rfl⟩
  case round =>
    obtain ⟨k, hk, rfl, rfl⟩ := hrel
    obtain ⟨y, hy⟩ : ∃ y, pEval (zs.drop k) x = y := ⟨_, rfl⟩
    have HY := Lib.hid hy
    have hb := HB.out k
    rw [hy] at hb ⊢
    clear hy
    by_cases h0 : 0 < k
    · obtain ⟨j, rfl⟩ : ∃ j, k = j + 1 := ⟨k - 1, by omega⟩
      obtain ⟨b, off, z, rfl, hb', hs, hc, hz1, hz2⟩ := HS.out.at (show j < n by omega)
      have hzb := HPC.out.2.2 z (List.mem_of_getElem? hs)
      obtain ⟨P, hP⟩ : ∃ P, y * x = P := ⟨_, rfl⟩
      have hPb : -100000000000 ≤ P ∧ P ≤ 100000000000 := by
        have := cmul_bd hb hx
        rw [hP] at this
        omega
      have HN : Hid (P + z = pEval (zs.drop j) x) := Lib.hid (by
        rw [ev_drop (by rw [HS.out.1]; omega), co_some hs, HY.out, ← hP, Int.mul_comm x y]; omega)
      obtain ⟨hP1, hP2⟩ := hPb
      obtain ⟨hzb1, hzb2⟩ := hzb
      clear hs hb
      go_wp2
      go_round
      case rel => exact ⟨j, by omega, by go_num, by rw [← HN.out]⟩
      case measure => first | (simp [intOf]; done) | (simp [intOf]; omega)
    · have e : k = 0 := by omega
      subst e
      have HN : Hid (y = pEval zs x) := Lib.hid (by rw [← HY.out, List.drop_zero])
      clear hb
      go_wp2
      go_ret
      exact ⟨ret_i HN.out, rfl⟩

end Go.Proofs.Ytoejafpijcacoaa.Rhy
