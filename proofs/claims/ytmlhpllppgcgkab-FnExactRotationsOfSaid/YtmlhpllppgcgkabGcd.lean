import Derived.Test.YtmlhpllppgcgkabOth
namespace Go.Proofs.Ytmlhpllppgcgkab.Rhy
open Go.RowKit

-- stretch
/-- u is a unit of s. -/
def UC (s u : Int) : Prop := (1 ≤ u ∧ u ≤ max 1 (s - 1)) ∧ Nat.gcd u.natAbs s.natAbs = 1





end Go.Proofs.Ytmlhpllppgcgkab.Rhy
