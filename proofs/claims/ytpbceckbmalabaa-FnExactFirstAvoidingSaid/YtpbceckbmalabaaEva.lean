/-
  Helpers of the claims beside this text: the program's even rhythms: haveRoom, evenRhythm, ShiftedEven, EvenRhythm, CountEven.
-/
import Derived.Test.YtpbceckbmalabaaEvn
import Derived.Test.YtpbceckbmalabaaIvs
import Derived.Deep.RegionLaw
namespace Go.Proofs.Ytpbceckbmalabaa.Rhy
open Go.RowKit
set_option linter.unusedVariables false
set_option linter.unusedSimpArgs false

theorem room_yes (k n : Int) (w : World) (h : EvC k n) :
    Calls Try.prog 77 #[.int .i64 k, .int .i64 n] w fun e w' => e = .returned (.bool true) ∧ w = w' := by
  obtain ⟨h1, h2, h3, h4⟩ := h
  have e1 : decide (1 ≤ n) = true := by simp; omega
  have e2 : decide (n ≤ 24) = true := by simp; omega
  have e3 : decide (0 ≤ k) = true := by simp; omega
  have e4 : decide (k ≤ n) = true := by simp; omega
  go_enter Try.func77, Try.ntmps77
  go_wp2
  go_ret
  exact ⟨rfl, rfl⟩
theorem room_no (k n : Int) (w : World) (h : ¬ EvC k n) :
    Calls Try.prog 77 #[.int .i64 k, .int .i64 n] w fun e w' => e = .returned (.bool false) ∧ w = w' := by
  have HN := Lib.hid h
  clear h
  by_cases h1 : 1 ≤ n
  · have e1 : decide (1 ≤ n) = true := by simp; omega
    by_cases h2 : n ≤ 24
    · have e2 : decide (n ≤ 24) = true := by simp; omega
      by_cases h3 : 0 ≤ k
      · have e3 : decide (0 ≤ k) = true := by simp; omega
        have e4 : decide (k ≤ n) = false := by
          simp
          have := HN.out
          unfold EvC at this
          omega
        go_enter Try.func77, Try.ntmps77
        go_wp2
        go_ret
        exact ⟨rfl, rfl⟩
      · have e3 : decide (0 ≤ k) = false := by simp; omega
        go_enter Try.func77, Try.ntmps77
        go_wp2
        go_ret
        exact ⟨rfl, rfl⟩
    · have e2 : decide (n ≤ 24) = false := by simp; omega
      go_enter Try.func77, Try.ntmps77
      go_wp2
      go_ret
      exact ⟨rfl, rfl⟩
  · have e1 : decide (1 ≤ n) = false := by simp; omega
    go_enter Try.func77, Try.ntmps77
    go_wp2
    go_ret
    exact ⟨rfl, rfl⟩





end Go.Proofs.Ytpbceckbmalabaa.Rhy
