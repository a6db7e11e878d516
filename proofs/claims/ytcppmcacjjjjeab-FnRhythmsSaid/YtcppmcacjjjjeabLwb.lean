/-
  Helpers of the claims beside this text: what the laws' own same and rhythms do; contracts at valid rhythms in the words that the laws' walks want.
-/
import Derived.Test.YtcppmcacjjjjeabMoves
import Derived.Test.YtcppmcacjjjjeabSmall
namespace Go.Proofs.Ytcppmcacjjjjeab.Rhy
open Go.RowKit
set_option linter.unusedVariables false

set_option maxHeartbeats 400000 in
theorem same_law (a b : Option Addr) (n ca cb : Nat) (l : List Int) (w : World) (ha : IntsAt w a n l) (hb : IntsAt w b n l) (hn : n ≤ 1048576) :
    Calls Try.prog 34 #[.slice a n ca, .slice b n cb] w fun e w' => e = .returned (.bool true) ∧ w = w' := by
  have FA := Lib.hid ha
  have FB := Lib.hid hb
  clear ha hb
  go_enter Try.func34, Try.ntmps34
  go_wp2
  go_loop [14] (fun i => ∃ k : Nat, k ≤ n ∧ i = .int .i64 k) (fun i => n - (intOf i).toNat)
  case atStart => exact ⟨0, by omega, rfl⟩
  case round =>
    obtain ⟨k, hk, rfl⟩ := hrel
    by_cases hlt : k < n
    · obtain ⟨ga, oa, z, rfl, la, hza, c1, _, _⟩ := FA.out.at hlt
      obtain ⟨gb, ob, z', rfl, lb, hzb, c2, _, _⟩ := FB.out.at hlt
      rw [hza] at hzb
      obtain rfl : z = z' := Option.some.inj hzb
      clear hza hzb
      go_wp2
      go_round
      case rel => exact ⟨k + 1, by omega, by go_num⟩
      case measure => simp [intOf]; omega
    · go_wp2
      go_ret
      exact ⟨rfl, rfl⟩
/-- Two equal rhythms. -/
theorem rhythms_law (s : Int) (a b : Option Addr) (ca cb : Nat) (l : List Int) (w : World) (ha : IntsAt w a l.length l) (hb : IntsAt w b l.length l) (hn : l.length ≤ 1048576) :
    Calls Try.prog 11 #[rhy s a l.length ca, rhy s b l.length cb] w fun e w' => e = .returned (.bool true) ∧ Below w.heap.size w w' := by
  have FA := Lib.hid ha
  have FB := Lib.hid hb
  clear ha hb
  go_enter Try.func11, Try.ntmps11
  go_wp2_with fail
  refine (same_law a b l.length ca cb l _ (FA.out.below (bel2 w _ _)) (FB.out.below (bel2 w _ _)) hn).mono ?_
  rintro e w1 ⟨rfl, rfl⟩
  go_wp2
  go_ret
  exact ⟨rfl, bel2 w _ _⟩

/-- A rhythm and true, of a function that has one. -/
theorem cpost_open {c : Prop} {s : Int} {l : List Int} {w w' : World} {e : Ending} (hc : c) (h : CPost c s l w e w') : RetPost s l true w e w' := by
  unfold CPost at h
  rwa [cS_yes hc, cZ_yes hc, cB_yes hc] at h
theorem cpost_shut {c : Prop} {s : Int} {l : List Int} {w w' : World} {e : Ending} (hc : ¬ c) (h : CPost c s l w e w') : RetPost 0 [] false w e w' := by
  unfold CPost at h
  rwa [cS_no hc, cZ_no hc, cB_no hc] at h
end Go.Proofs.Ytcppmcacjjjjeab.Rhy
