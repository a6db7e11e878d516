/-
  Helpers of the claims beside this text: RotateRhythm of the model and of the program.
-/
import Derived.Test.YtmlhpllppgcgkabMoves
namespace Go.Proofs.Ytmlhpllppgcgkab.Rhy
open Go.RowKit
set_option linter.unusedVariables false

def RotC (s : Int) (zs : List Int) (k : Int) : Prop := Ok s zs ∧ -1000 ≤ k ∧ k ≤ 1000
theorem gcd_one (s : Int) : Nat.gcd (1 : Int).natAbs s.natAbs = 1 := by simp
theorem gcd_mone (s : Int) : Nat.gcd (-1 : Int).natAbs s.natAbs = 1 := by simp


-- the program
theorem moved_of (s : Int) (a : Option Addr) (len cap : Nat) (zs : List Int) (u k : Int) (w : World) (h : IntsAt w a len zs) (hm : len ≤ 1048576) (ho : Ok s zs) (hu1 : -1000 ≤ u) (hu2 : u ≤ 1000) (hk1 : -1000 ≤ k) (hk2 : k ≤ 1000) (hc : Nat.gcd u.natAbs s.natAbs = 1) :
    Calls Try.prog 34 #[rhy s a len cap, .int .i64 u, .int .i64 k] w (RhyPost s (ofZ s.toNat (mapL s zs u k)) w) := by
  rw [← moved_eq ho hc]
  exact moved_any s a len cap zs u k w h hm ho hu1 hu2 hk1 hk2




end Go.Proofs.Ytmlhpllppgcgkab.Rhy
