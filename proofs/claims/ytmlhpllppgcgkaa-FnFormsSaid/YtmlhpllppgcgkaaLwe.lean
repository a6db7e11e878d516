/-
  Helpers of the claims beside this text: a rhythm in a new box; several bars of a valid rhythm.
-/
import Derived.Test.YtmlhpllppgcgkaaOkc
import Derived.Test.YtmlhpllppgcgkaaDrw
import Derived.Test.YtmlhpllppgcgkaaRhm
namespace Go.Proofs.Ytmlhpllppgcgkaa.Rhy
open Go.RowKit
set_option linter.unusedVariables false

theorem repL_succ (s : Int) (zs : List Int) (n : Nat) : repL s zs (n + 1) = repL s zs n ++ barL s zs n := by
  unfold repL
  rw [List.range_succ, List.flatMap_append]
  simp
theorem repN_bd {n : Int} {zs : List Int} (ho : Ok n zs) : ∀ k : Nat, (repL n zs k).Pairwise (· < ·) ∧ ∀ z ∈ repL n zs k, 0 ≤ z ∧ z < (k : Int) * n := by
  intro k
  induction k with
  | zero => exact ⟨by rw [repL_zero]; exact List.Pairwise.nil, fun z hz => by rw [repL_zero] at hz; simp at hz⟩
  | succ k ih =>
    have h1 := ho.1.1
    have hk : 0 ≤ (k : Int) * n := Int.mul_nonneg (by omega) (by omega)
    have e : ((k + 1 : Nat) : Int) * n = (k : Int) * n + n := by rw [Int.natCast_add, Int.add_mul]; simp
    rw [repL_succ, e]
    refine ⟨?_, fun z hz => ?_⟩
    · rw [List.pairwise_append]
      refine ⟨ih.1, ?_, fun a ha b hb => ?_⟩
      · unfold barL; rw [List.pairwise_map]; exact (ok_sorted ho).imp fun h => by omega
      · unfold barL at hb
        rw [List.mem_map] at hb
        obtain ⟨y, hy, rfl⟩ := hb
        have := ok_range ho y hy
        have := ih.2 a ha
        omega
    · rcases List.mem_append.1 hz with q | q
      · have := ih.2 z q; omega
      · unfold barL at q
        rw [List.mem_map] at q
        obtain ⟨y, hy, rfl⟩ := q
        have := ok_range ho y hy
        omega
theorem repN_ok {n : Int} {zs : List Int} (ho : Ok n zs) {k : Nat} (h1 : 1 ≤ k) (h : (k : Int) * n ≤ 24) : Ok ((k : Int) * n) (repL n zs k) := by
  have := Int.mul_le_mul (show (1 : Int) ≤ k by omega) (Int.le_refl n) (by have := ho.1.1; omega) (by omega)
  exact ok_of (by have := ho.1.1; omega) h (repN_bd ho k).1 (repN_bd ho k).2

/-- A new box that holds a rhythm. -/
abbrev putR (W : World) (s : Int) (a : Option Addr) (len cap : Nat) : World := W.alloc (.cells #[.int .i64 s, .slice a len cap] 25)
theorem putR_below (W : World) (s : Int) (a : Option Addr) (len cap : Nat) : Below W.heap.size W (putR W s a len cap) := bel1 W _
theorem putR_size (W : World) (s : Int) (a : Option Addr) (len cap : Nat) : (putR W s a len cap).heap.size = W.heap.size + 1 := by simp [putR]
theorem putR_two (W : World) (s : Int) (a : Option Addr) (len cap : Nat) : Two (putR W s a len cap) W.heap.size (.int .i64 s) (.slice a len cap) := two_new W _ _ _
theorem putR_box (W : World) (s : Int) (a : Option Addr) (len cap : Nat) : Box (putR W s a len cap) W.heap.size (.int .i64 s) (.slice a len cap) 25 := box_new W _ _ _
/-- What a box holds: a rhythm. -/
def RhAt (w : World) (b : Nat) (n : Nat) (a : Option Addr) (cap : Nat) (zs : List Int) : Prop := Box w b (.int .i64 n) (.slice a zs.length cap) 25 ∧ IntsAt w a zs.length zs
theorem RhAt.keep {w w' : World} {b n : Nat} {a : Option Addr} {cap : Nat} {zs : List Int} (h : RhAt w b n a cap zs) (hb : Below w.heap.size w w') : RhAt w' b n a cap zs := ⟨h.1.keep hb h.1.lt, h.2.below hb⟩
theorem rhAt_put {w' : World} {n : Nat} {a : Option Addr} {cap : Nat} {zs : List Int} {B : Nat} (h : w'.ownsRow B 3 1 (.slice a zs.length cap) zs.length (ints zs)) (hi : AllInt zs) : RhAt (putR w' n a zs.length cap) w'.heap.size n a cap zs :=
  ⟨putR_box _ _ _ _ _, (intsAt_own h hi).below (putR_below _ _ _ _ _)⟩
theorem ok_allInt {n : Int} {zs : List Int} (h : Ok n zs) : AllInt zs := fun z hz => by have := ok_range h z hz; have := h.1; omega
end Go.Proofs.Ytmlhpllppgcgkaa.Rhy
