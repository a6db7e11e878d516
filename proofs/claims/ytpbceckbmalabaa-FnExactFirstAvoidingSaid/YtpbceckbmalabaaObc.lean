/-
  Helpers of the claims beside this text: forbidden intervals of the model: l08Choose, l08Count.
-/
import Derived.Test.YtpbceckbmalabaaObn
import Derived.Test.YtpbceckbmalabaaGnm
namespace Go.Proofs.Ytpbceckbmalabaa.Rhy
open Go.RowKit
set_option linter.unusedVariables false
set_option linter.unusedSimpArgs false

def chzAll : Bool := (List.range 17).all fun n => (List.range (n + 1)).all fun k => (List.range (k + 1)).all fun i => Nat.blt (chz n k i) 65536
theorem chzAll_yes : chzAll = true := by decide +kernel
theorem chz_le {n k i : Nat} (hn : n ≤ 16) (hk : k ≤ n) (hi : i ≤ k) : chz n k i < 65536 := by
  have e := chzAll_yes
  unfold chzAll at e
  rw [List.all_eq_true] at e
  have e1 := e n (List.mem_range.2 (by omega))
  rw [List.all_eq_true] at e1
  have e2 := e1 k (List.mem_range.2 (by omega))
  rw [List.all_eq_true] at e2
  have e3 := e2 i (List.mem_range.2 (by omega))
  rwa [Nat.blt_eq] at e3
set_option maxHeartbeats 400000 in
theorem choose_spec (n k : Nat) (w : World) (hn : n ≤ 16) (hk : k ≤ n) :
    Calls Try.prog 87 #[.int .i64 n, .int .i64 k] w fun e w' => e = .returned (.int .i64 (chz n k k : Nat)) ∧ w = w' := by
  have e1 : decide ((n : Int) < (k : Int)) = false := by simp; omega
  have e2 : decide (n < k) = false := by simp; omega
  go_enter Try.func87, Try.ntmps87
  go_wp2
  go_loop [5, 6] (fun x i => ∃ j : Nat, j ≤ k ∧ i = .int .i64 ((j : Int) + 1) ∧ x = .int .i64 (chz n k j : Nat)) (fun _ i => k + 1 - (intOf i).toNat)
  case atStart => exact ⟨0, by omega, rfl, rfl⟩
  case round =>
    obtain ⟨j, hj, rfl, rfl⟩ := hrel
    by_cases hlt : j < k
    · obtain ⟨x, hx⟩ : ∃ x, chz n k j = x := ⟨_, rfl⟩
      have hxb : x < 65536 := by rw [← hx]; exact chz_le hn hk hj
      obtain ⟨m, hm⟩ : ∃ m, n - k + (j + 1) = m := ⟨_, rfl⟩
      have hmb : m ≤ 16 := by omega
      obtain ⟨p, hp⟩ : ∃ p, x * m = p := ⟨_, rfl⟩
      have hpb : p ≤ 65536 * 16 := by rw [← hp]; exact Nat.mul_le_mul (by omega) hmb
      have hmi : (n : Int) - (k : Int) + ((j : Int) + 1) = (m : Int) := by omega
      have hpi : (x : Int) * (m : Int) = (p : Int) := by rw [← hp]; simp
      have hw : wrap64 ((x : Int) * ((n : Int) - (k : Int) + ((j : Int) + 1))) = (p : Int) := by rw [hmi, hpi]; unfold wrap64; omega
      have HC : Hid ((p : Int) / ((j : Int) + 1) = ((chz n k (j + 1) : Nat) : Int)) := Lib.hid (by
        simp only [chz]
        rw [hx, hm, hp]
        simp)
      rw [hx]
      have hcmp : decide ((j : Int) + 1 ≤ (k : Int)) = true := by simp; omega
      have hcmp2 : decide (j + 1 ≤ k) = true := by simp; omega
      have hj0 : ¬ (j : Int) + 1 = 0 := by omega
      have hp0 : (0 : Int) ≤ (p : Int) := by omega
      have hp1 : (p : Int) ≤ 1048576 := by omega
      clear hx hm hp hmi hpi
      go_wp2
      go_round
      case rel => exact ⟨j + 1, by omega, by go_num, by
        rw [HC.out]
        have := chz_le hn hk (show j + 1 ≤ k by omega)
        congr 1
        unfold wrap64
        omega⟩
      case measure => simp [intOf]; omega
    · have e : j = k := by omega
      subst e
      have hcmp : decide ((j : Int) + 1 ≤ (j : Int)) = false := by simp; omega
      go_wp2
      go_ret
      exact ⟨rfl, rfl⟩
set_option maxHeartbeats 400000 in
theorem count0_spec (m k : Nat) (w : World) (hm : m ≤ 16) (hk : k ≤ 16) :
    Calls Try.prog 71 #[.int .i64 m, .int .i64 k] w fun e w' => e = .returned (.int .i64 (ccN m k : Nat)) ∧ w = w' := by
  by_cases hk0 : k = 0
  · subst hk0
    have HE : Hid (ccN m 0 = 1) := Lib.hid rfl
    rw [HE.out]
    go_enter Try.func71, Try.ntmps71
    go_wp2
    go_ret
    exact ⟨rfl, rfl⟩
  · have e0 : ((k : Int) == 0) = false := by simp; omega
    have e0' : (k == 0) = false := by simp; omega
    by_cases h2 : m < 2 * k
    · have e1 : decide ((m : Int) < 2 * (k : Int)) = true := by simp; omega
      have e2 : decide (m < 2 * k) = true := by simp; omega
      have HE : Hid (ccN m k = 0) := Lib.hid (by
        unfold ccN
        rw [e0', cond_false, show Nat.blt m (2 * k) = true by rw [Nat.blt_eq]; exact h2, cond_true])
      rw [HE.out]
      clear hk0 h2
      go_enter Try.func71, Try.ntmps71
      go_wp2
      go_ret
      exact ⟨rfl, rfl⟩
    · have e1 : decide ((m : Int) < 2 * (k : Int)) = false := by simp; omega
      have e2 : decide (m < 2 * k) = false := by simp; omega
      have hb := chz_le (n := m - k - 1) (k := k - 1) (i := k - 1) (by omega) (by omega) (Nat.le_refl _)
      obtain ⟨x, hx⟩ : ∃ x, chz (m - k - 1) (k - 1) (k - 1) = x := ⟨_, rfl⟩
      rw [hx] at hb
      obtain ⟨p, hp⟩ : ∃ p, x * m = p := ⟨_, rfl⟩
      have hpb : p ≤ 65536 * 16 := by rw [← hp]; exact Nat.mul_le_mul (by omega) hm
      have HE : Hid (ccN m k = p / k) := Lib.hid (by
        unfold ccN
        rw [e0', cond_false, show Nat.blt m (2 * k) = false by
          cases q : Nat.blt m (2 * k)
          · rfl
          · rw [Nat.blt_eq] at q; exact absurd q h2, cond_false, hx, hp])
      have HX := Lib.hid hx
      have hw : wrap64 ((x : Int) * (m : Int)) = (p : Int) := by rw [show (x : Int) * (m : Int) = (p : Int) by rw [← hp]; simp]; unfold wrap64; omega
      have hs1 : (m : Int) - (k : Int) - 1 = ((m - k - 1 : Nat) : Int) := by omega
      have hs2 : (k : Int) - 1 = ((k - 1 : Nat) : Int) := by omega
      have HS1 := Lib.hid hs1
      have HS2 := Lib.hid hs2
      have hkn0 : ¬ k = 0 := hk0
      have hp0 : (0 : Int) ≤ (p : Int) := by omega
      have hp1 : (p : Int) ≤ 1048576 := by omega
      have HD : Hid (wrap64 ((p : Int) / (k : Int)) = ((p / k : Nat) : Int)) := Lib.hid (by
        have h1 : ((p / k : Nat) : Int) = (p : Int) / (k : Int) := by simp
        have h2 : p / k ≤ p := Nat.div_le_self _ _
        rw [← h1]
        generalize p / k = z at h2
        unfold wrap64
        omega)
      have hch : k - 1 ≤ m - k - 1 := by omega
      have hch2 : m - k - 1 ≤ 16 := by omega
      have HCH := Lib.hid hch
      have HCH2 := Lib.hid hch2
      clear hch hch2
      rw [HE.out]
      clear hx hp hk0 h2 hs1 hs2
      go_enter Try.func71, Try.ntmps71
      go_wp2_with fail
      rw [HS1.out, HS2.out]
      refine (choose_spec (m - k - 1) (k - 1) _ HCH2.out HCH.out).mono ?_
      rintro e w2 ⟨rfl, rfl⟩
      rw [HX.out]
      go_wp2
      go_ret
      exact ⟨ret_int (by first | exact HD.out | simp), rfl⟩
end Go.Proofs.Ytpbceckbmalabaa.Rhy
