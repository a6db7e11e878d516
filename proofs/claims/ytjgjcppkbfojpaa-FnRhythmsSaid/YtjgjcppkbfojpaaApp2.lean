/-
  Helpers of the claims beside this text: an append of a whole slice of integers; slices.Grow and slices.Concat.
-/
import Derived.Test.YtjgjcppkbfojpaaRot
import Derived.Test.YtjgjcppkbfojpaaGrow
import Derived.Test.YtjgjcppkbfojpaaStp
namespace Go.Proofs.Ytjgjcppkbfojpaa.Rhy
open Go.RowKit
set_option linter.unusedVariables false

/-- slices.Grow at nil. -/
theorem grow_nil (n : Nat) (w : World) (hn : n ≤ 4194304) :
    Calls Try.prog 111 #[.slice none 0 0, .int .i64 n] w fun e w' => ∃ a c, e = .returned (.slice a 0 c) ∧ w'.ownsRow w.heap.size 3 1 (.slice a 0 c) 0 [] ∧ Below w.heap.size w w' := by
  obtain ⟨i0, hi, hz0, hz1, hz2⟩ := info_parts infoInt
  by_cases h0 : n = 0
  · subst h0
    refine (Any8.slices_Grow_room Try.growI none 0 0 0 w (by omega) (by omega) (by omega) (by omega)).mono ?_
    rintro e w' ⟨rfl, rfl⟩
    exact ⟨none, 0, rfl, World.ownsRow_nil _ _ _ _, Below.refl _ _⟩
  · refine (Any8.slices_Grow_grow Try.growI i0 (.int .i64 0) hi hz0 (by omega) none 0 0 n [] w (by omega) (by omega) (by rw [hz2]; omega) (by omega) (by simp) (fun _ => rfl) (fun a h => by cases h)).mono ?_
    rintro e w' ⟨rfl, rfl⟩
    refine ⟨_, _, rfl, ?_, ((Below.refl w.heap.size w).drew).alloc (Nat.le_refl _) _⟩
    have hge := grownCap_ge w (0 + n) 0 (Try.growI_ren.t 25)
    have hle := grownCap_le_maxLen w (0 + n) 0 (Try.growI_ren.t 25) (by unfold maxLen; omega)
    have hge2 := hge
    rw [Nat.zero_add] at hge2
    exact World.ownsRow_made (base := w.heap.size) (e := 3) (size := 1) w.drew _ _ (Nat.le_refl _) hle (by
      simp only [Array.size_append, List.size_toArray, size_zeroCells]
      simp [Value.cells]
      omega)

/-- slices.Concat of two slices of integers. -/
theorem concat_any (N : Nat) (a b : Option Addr) (n m ca cb : Nat) (xs ys : List Int) (w : World) (hT : Two w N (.slice a n ca) (.slice b m cb)) (ha : IntsAt w a n xs) (hb : IntsAt w b m ys) (hn : n ≤ 1048576) (hm : m ≤ 1048576) :
    Calls Try.prog 64 #[.slice (some ⟨N, 0, none⟩) 2 2] w fun e w' => ∃ r c, e = .returned (.slice r (xs ++ ys).length c) ∧ w'.ownsRow w.heap.size 3 1 (.slice r (xs ++ ys).length c) (xs ++ ys).length (ints (xs ++ ys)) ∧ Below w.heap.size w w' := by
  have FA := Lib.hid ha
  have FB := Lib.hid hb
  have HT := Lib.hid hT
  obtain ⟨t0, ta, tb⟩ := hT
  have hnx := ha.1
  have hmy := hb.1
  clear ha hb
  have HL := Lib.hid (And.intro hnx hmy)
  clear hnx hmy
  go_enter Try.func64, Try.ntmps64
  go_wp2
  refine wp_loop_rounds 3 ?_; rw [rounds_succ]
  go_wp2
  rw [rounds_succ]
  go_wp2
  rw [rounds_succ]
  have HG := Lib.hid (show ∀ w, Calls Try.prog 111 #[.slice none 0 0, .int .i64 ((n : Int) + m)] w fun e w' => ∃ a c, e = .returned (.slice a 0 c) ∧ w'.ownsRow w.heap.size 3 1 (.slice a 0 c) 0 [] ∧ Below w.heap.size w w' from fun w => by
    have := grow_nil (n + m) w (by omega)
    rwa [Int.natCast_add] at this)
  go_wp2_with fail
  refine (HG.out w).mono ?_
  rintro e w1 ⟨r1, c1, rfl, hown1, hb1⟩
  have O1 := Lib.hid hown1
  have B1 := Lib.hid hb1
  have T1 := Lib.hid (HT.out.keep hb1)
  obtain ⟨u0, ua, ub⟩ := T1.out
  have hz1 := hb1.size
  clear hown1 hb1
  go_wp2
  refine wp_loop_rounds 3 ?_; rw [rounds_succ]
  go_wp2_with (at_builtin; refine wpList_app rfl _ _ rfl w.heap.size r1 c1 [] a n ca xs _ O1.out (FA.out.below B1.out) (by simp) (by omega) hz1 rfl rfl ?_; intro a2 c2 w2 hown2 hb2; have O2 := Lib.hid hown2; have B2 := Lib.hid (B1.out.trans hb2); have ud := hb2.cell (p := ⟨N, 1, none⟩) t0; have ue := hb2.cell (p := ⟨N, 0, none⟩) t0; have hz2 := Nat.le_trans hz1 hb2.size; clear hown2 hb2)
  rw [ub] at ud
  rw [ua] at ue
  rw [rounds_succ]
  have hxl : xs.length = n := HL.out.1
  have HXL := Lib.hid hxl
  clear hxl
  go_wp2_with (at_builtin; refine wpList_app rfl _ _ rfl w.heap.size a2 c2 ([] ++ xs) b m cb ys _ O2.out (FB.out.below B2.out) (by have := HXL.out; simp; omega) (by omega) hz2 rfl rfl ?_; intro a3 c3 w3 hown3 hb3; have O3 := Lib.hid hown3; have B3 := Lib.hid (B2.out.trans hb3); clear hown3 hb3)
  rw [rounds_succ]
  go_wp2
  go_ret
  exact ⟨a3, c3, show Ending.returned (.slice a3 (xs.length + ys.length) c3) = _ by rw [List.length_append], by simpa using O3.out, B3.out⟩
end Go.Proofs.Ytjgjcppkbfojpaa.Rhy
