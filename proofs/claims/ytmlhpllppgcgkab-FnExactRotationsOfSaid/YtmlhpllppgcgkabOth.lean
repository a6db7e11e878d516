/-
  Helpers of the claims beside this text: OtherRhythm of the model and of the program.
-/
import Derived.Test.YtmlhpllppgcgkabRot
namespace Go.Proofs.Ytmlhpllppgcgkab.Rhy
open Go.RowKit
set_option linter.unusedVariables false

/-- The numbers from 0 up to n that are not in a list. -/
def notZ (n : Nat) (l : List Int) : List Int := ((List.range n).map Int.ofNat).filter (fun x => !l.contains x)
theorem notZ_len (n : Nat) (l : List Int) : (notZ n l).length ≤ n := by
  unfold notZ
  refine Nat.le_trans (List.length_filter_le _ _) ?_
  simp
theorem notZ_zero (l : List Int) : notZ 0 l = [] := rfl
theorem notZ_no {k : Nat} {l : List Int} (h : l.contains (k : Int) = true) : notZ (k + 1) l = notZ k l := by
  unfold notZ
  rw [List.range_succ, List.map_append, List.filter_append]
  simp only [List.map_cons, List.map_nil, List.filter_cons, List.filter_nil]
  rw [show Int.ofNat k = (k : Int) from rfl, h]
  simp
theorem notZ_yes {k : Nat} {l : List Int} (h : l.contains (k : Int) = false) : notZ (k + 1) l = notZ k l ++ [(k : Int)] := by
  unfold notZ
  rw [List.range_succ, List.map_append, List.filter_append]
  simp only [List.map_cons, List.map_nil, List.filter_cons, List.filter_nil]
  rw [show Int.ofNat k = (k : Int) from rfl, h]
  simp
theorem notZ_int {n : Nat} {l : List Int} (h : n ≤ 1000) : AllInt (notZ n l) := by
  intro z hz
  unfold notZ at hz
  rw [List.mem_filter, List.mem_map] at hz
  obtain ⟨⟨a, ha, rfl⟩, _⟩ := hz
  rw [List.mem_range] at ha
  simp
  omega

def OthAt (s : Int) (k : Nat) (zs : List Int) (w1 wr : World) : Prop :=
  ∃ av cv, Box wr w1.heap.size (.int .i64 s) (.slice av (notZ k zs).length cv) 28 ∧ wr.ownsRow (w1.heap.size + 1) 3 1 (.slice av (notZ k zs).length cv) (notZ k zs).length (ints (notZ k zs)) ∧ Below w1.heap.size w1 wr ∧ w1.heap.size + 1 ≤ wr.heap.size
theorem oth_start (s : Int) (zs : List Int) (w1 : World) : OthAt s 0 zs w1 (w1.alloc (.cells #[.int .i64 s, .slice none 0 0] 28)) :=
  ⟨none, 0, box_new w1 _ _ _, World.ownsRow_nil _ _ _ _, bel1 w1 _, by simp⟩
theorem oth_keep {s : Int} {k : Nat} {zs : List Int} {w1 wr w2 : World} (h : OthAt s k zs w1 wr) (hb : Below wr.heap.size wr w2) : OthAt s k zs w1 w2 := by
  obtain ⟨av, cv, h1, h2, h3, h4⟩ := h
  exact ⟨av, cv, h1.keep hb h1.lt, own_below h2 hb, h3.trans (hb.mono (by omega)), Nat.le_trans h4 hb.size⟩


-- the program
theorem remB_self {k n : Int} (h0 : 0 ≤ k) (h1 : k < n) : remB k n = k := Int.emod_eq_of_lt h0 h1



end Go.Proofs.Ytmlhpllppgcgkab.Rhy
