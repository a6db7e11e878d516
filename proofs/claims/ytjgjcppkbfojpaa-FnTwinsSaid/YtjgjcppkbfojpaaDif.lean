/-
  Helpers of the claims beside this text: the difference of two beats, as the program makes it.
-/
import Derived.Test.YtjgjcppkbfojpaaIvl
import Derived.Test.YtjgjcppkbfojpaaMps
import Derived.Test.YtjgjcppkbfojpaaItm
namespace Go.Proofs.Ytjgjcppkbfojpaa.Rhy
open Go.RowKit Go.Maps
set_option linter.unusedVariables false

set_option maxHeartbeats 400000 in
theorem difOf_any (n r : Nat) (a : Option Addr) (len cap : Nat) (p q : Int) (w : World) (hn1 : 1 ≤ n) (hn : n ≤ 24) (hp : 0 ≤ p ∧ p < n) (hq : 0 ≤ q ∧ q < n) (hr : remB (p - q) n = r) :
    Calls Try.prog 78 #[rhy n a len cap, .int .i64 p, .int .i64 q] w fun e w' => e = .returned (difV n r) ∧ Below w.heap.size w w' := by
  have HR := Lib.hid hr
  clear hr
  obtain ⟨w1, hW⟩ : ∃ w1, w1 = (w.alloc (.cells #[.int .i64 n, .slice a len cap] 25)).alloc (.cells #[.int .i64 0, .int .i64 0] 77) := ⟨_, rfl⟩
  have HW := Lib.hid hW
  have HB := Lib.hid (show Below w.heap.size w w1 by rw [hW]; exact bel2 w _ _)
  have HT := Lib.hid (show Two w1 w.heap.size (.int .i64 n) (.slice a len cap) by rw [hW]; exact (two_new w _ _ _).keep (bel1 _ _))
  have HU := Lib.hid (show Box w1 (w.heap.size + 1) (.int .i64 0) (.int .i64 0) 77 by
    rw [hW]
    have := box_new (w.alloc (.cells #[.int .i64 n, .slice a len cap] 25)) (.int .i64 0) (.int .i64 0) 77
    simpa using this)
  clear hW
  obtain ⟨t1, t1a, t1b⟩ := HT.out
  obtain ⟨u1, u1a, u1b, u1c⟩ := HU.out.facts
  have lt1 := HU.out.lt
  go_enter Try.func78, Try.ntmps78
  go_wp2_with fail
  rw [← HW.out]
  have hsub : IntKind.i64.wrap (p - q) = p - q := IntWalk.i64_in _ ⟨by omega, by omega⟩
  have HA : ∀ W, Calls Try.prog 110 #[.int .i64 (p - q), .int .i64 n] W fun e w' => e = .returned (.int .i64 r) ∧ W = w' := fun W => by
    have := around_any (p - q) n W (by omega) (by omega) (by omega) (by omega)
    rwa [HR.out] at this
  go_region_with (go_at_call 110; refine (HA _).mono ?_; rintro e w' ⟨rfl, rfl⟩)
  all_goals (
    go_wp2
    refine bodyPost_ret (v := difV n r) (by simp [results, Try.results78, go_sem, difV, *]) rfl ⟨rfl, ?_⟩
    exact below_drewN ((HB.out.setCell (by simp) _).setCell (by simp) _) 1)
end Go.Proofs.Ytjgjcppkbfojpaa.Rhy
