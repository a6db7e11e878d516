/-
  Helpers of the claims beside this text: cutting zeros, small polynomials, values and products: both sides.
-/
import Derived.Test.YtdpcabiajhfllaaPld
namespace Go.Proofs.Ytdpcabiajhfllaa.Rhy
open Go.RowKit
set_option linter.unusedVariables false
set_option linter.unusedSimpArgs false


set_option maxHeartbeats 400000 in
theorem trim_spec (a : Option Addr) (n cap : Nat) (zs : List Int) (w : World) (h : IntsAt w a n zs) (hm : n ≤ 1048576) (hcap : n ≤ cap) :
    Calls Try.prog 114 #[.slice a n cap] w fun e w' => e = .returned (.slice a (trimL zs).length cap) ∧ w = w' := by
  have HS := Lib.hid h
  clear h
  go_enter Try.func114, Try.ntmps114
  go_wp2
  go_loop [3] (fun i => ∃ k : Nat, k ≤ n ∧ i = .int .i64 k ∧ Hid (trimL zs = trimL (zs.take k))) (fun i => (intOf i).toNat)
  case atStart => exact ⟨n, by omega, rfl, Lib.hid (by rw [List.take_of_length_le (by rw [HS.out.1]; exact Nat.le_refl _)])⟩
  case round =>
    obtain ⟨k, hk, rfl, HT⟩ := hrel
    by_cases h0 : 0 < k
    · obtain ⟨j, rfl⟩ : ∃ j, k = j + 1 := ⟨k - 1, by omega⟩
      obtain ⟨b, off, z, rfl, hb, hs, hc, hz1, hz2⟩ := HS.out.at (show j < n by omega)
      by_cases hz : z = 0
      · subst hz
        have HN : Hid (trimL zs = trimL (zs.take j)) := Lib.hid (by rw [HT.out, trim_yes hs])
        clear hs
        go_wp2
        go_round
        case rel => exact ⟨j, by omega, by go_num, HN⟩
        case measure => simp [intOf]
      · have HN : Hid (j + 1 = (trimL zs).length) := Lib.hid (by rw [HT.out, trim_no hs hz, List.length_take, HS.out.1]; omega)
        have hzb : (z == 0) = false := by simpa using hz
        clear hs
        go_wp2
        go_ret
        refine ⟨?_, rfl⟩
        rw [← HN.out]
        try simp
    · have e : k = 0 := by omega
      subst e
      have HN : Hid (0 = (trimL zs).length) := Lib.hid (by rw [HT.out]; simp [trimL])
      go_wp2
      go_ret
      refine ⟨?_, rfl⟩
      rw [← HN.out]
      try simp


set_option maxHeartbeats 400000 in
theorem trim_impl (a : Option Addr) (n cap : Nat) (zs : List Int) (w : World) (h : IntsAt w a n zs) (hm : n ≤ 1048576) (hcap : n ≤ cap) :
    Calls Try.prog 115 #[.slice a n cap] w fun e w' => e = .returned (.slice a (trimL zs).length (trimL zs).length) ∧ w = w' := by
  have HS := Lib.hid h
  clear h
  go_enter Try.func115, Try.ntmps115
  go_wp2
  go_loop [3] (fun i => ∃ k : Nat, k ≤ n ∧ i = .int .i64 k ∧ Hid (trimL zs = trimL (zs.take k))) (fun i => (intOf i).toNat)
  case atStart => exact ⟨n, by omega, rfl, Lib.hid (by rw [List.take_of_length_le (by rw [HS.out.1]; exact Nat.le_refl _)])⟩
  case round =>
    obtain ⟨k, hk, rfl, HT⟩ := hrel
    by_cases h0 : 0 < k
    · obtain ⟨j, rfl⟩ : ∃ j, k = j + 1 := ⟨k - 1, by omega⟩
      obtain ⟨b, off, z, rfl, hb, hs, hc, hz1, hz2⟩ := HS.out.at (show j < n by omega)
      by_cases hz : z = 0
      · subst hz
        have HN : Hid (trimL zs = trimL (zs.take j)) := Lib.hid (by rw [HT.out, trim_yes hs])
        clear hs
        go_wp2
        go_round
        case rel => exact ⟨j, by omega, by go_num, HN⟩
        case measure => simp [intOf]
      · have HN : Hid (j + 1 = (trimL zs).length) := Lib.hid (by rw [HT.out, trim_no hs hz, List.length_take, HS.out.1]; omega)
        have hzb : (z == 0) = false := by simpa using hz
        clear hs
        go_wp2
        go_ret
        refine ⟨?_, rfl⟩
        rw [← HN.out]
        try simp
    · have e : k = 0 := by omega
      subst e
      have HN : Hid (0 = (trimL zs).length) := Lib.hid (by rw [HT.out]; simp [trimL])
      go_wp2
      go_ret
      refine ⟨?_, rfl⟩
      rw [← HN.out]
      try simp




theorem val_bd {zs : List Int} (h : PolC zs) (hl : zs.length ≤ 25) {x : Int} (hx : -2 ≤ x ∧ x ≤ 2) (k : Nat) : -33554431000 ≤ pEval (zs.drop k) x ∧ pEval (zs.drop k) x ≤ 33554431000 := by
  have := ev_bd (pol_bds h) hx 25 k (by omega)
  simpa using this

end Go.Proofs.Ytdpcabiajhfllaa.Rhy
