import Derived.Test.YtgmhdmhnedljcaaLsi
namespace Go.Proofs.Ytgmhdmhnedljcaa.Rhy
open Go.RowKit

theorem two_cases {x y r : Item} {j : Nat} (h : [x, y][j]? = some r) : r = x ∨ r = y := by
  rcases j with _ | _ | j
  · exact .inl (by simpa using h.symm)
  · exact .inr (by simpa using h.symm)
  · simp at h
/-- Two rhythms in a slice that has just been laid. -/
theorem two_items (w : World) (n : Int) (b1 : Option Addr) (c1 : Nat) (l1 : List Int) (b2 : Option Addr) (c2 : Nat) (l2 : List Int) (h1 : IntsAt w b1 l1.length l1) (h2 : IntsAt w b2 l2.length l2) :
    ItemsAt (w.alloc (.cells #[.int .i64 n, .slice b1 l1.length c1, .int .i64 n, .slice b2 l2.length c2] 28)) (.slice (some ⟨w.heap.size, 0, none⟩) 2 2) [⟨n, b1, c1, l1⟩, ⟨n, b2, c2, l2⟩] := by
  refine ⟨_, 2, rfl, Nat.le_refl _, fun _ => ⟨w.heap.size, 0, rfl, by simp, fun i r hi => ?_⟩⟩
  have hn := heap_alloc_new w (.cells #[.int .i64 n, .slice b1 l1.length c1, .int .i64 n, .slice b2 l2.length c2] 28)
  rcases i with _ | _ | i
  · obtain rfl : (⟨n, b1, c1, l1⟩ : Item) = r := by simpa using hi
    exact ⟨by rw [cell_of_row _ _ _ _ _ _ hn]; rfl, by rw [cell_of_row _ _ _ _ _ _ hn]; rfl, h1.below (bel1 _ _)⟩
  · obtain rfl : (⟨n, b2, c2, l2⟩ : Item) = r := by simpa using hi
    exact ⟨by rw [cell_of_row _ _ _ _ _ _ hn]; rfl, by rw [cell_of_row _ _ _ _ _ _ hn]; rfl, h2.below (bel1 _ _)⟩
  · simp at hi


theorem form_yes {n : Nat} {zs : List Int} (h : afterB n (leastZ n (rotZ n zs (-1) 0)) (leastZ n zs) = true) : formZ n zs = leastZ n (rotZ n zs (-1) 0) := by unfold formZ; rw [Int.toNat_natCast, if_pos h]
theorem form_no {n : Nat} {zs : List Int} (h : afterB n (leastZ n (rotZ n zs (-1) 0)) (leastZ n zs) = false) : formZ n zs = leastZ n zs := by unfold formZ; rw [Int.toNat_natCast, if_neg (by rw [h]; simp)]

end Go.Proofs.Ytgmhdmhnedljcaa.Rhy
