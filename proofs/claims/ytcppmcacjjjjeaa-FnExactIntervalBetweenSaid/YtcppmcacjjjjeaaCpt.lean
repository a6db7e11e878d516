/-
  Helpers of the claims beside this text: the library's Compact at a slice of the call's own.
-/
import Derived.Test.YtcppmcacjjjjeaaCmp
import Derived.Test.YtcppmcacjjjjeaaSort
namespace Go.Proofs.Ytcppmcacjjjjeaa.Rhy
open Go.RowKit
set_option linter.unusedVariables false

theorem compact_own (B : Nat) (a : Option Addr) (n cap : Nat) (l : List Int) (w : World) (h : w.ownsRow B 3 1 (.slice a n cap) n (ints l)) (hn : n ≤ 4194304) (hB : B ≤ w.heap.size) :
    Calls Try.prog 103 #[.slice a n cap] w fun e w' => e = .returned (.slice a (Lib.compact l).length cap) ∧ w'.ownsRow B 3 1 (.slice a (Lib.compact l).length cap) (Lib.compact l).length (ints (Lib.compact l)) ∧ Below B w w' := by
  have hl : l.length = n := (own_shape h).1
  have hle := Lib.compact_length_le l
  by_cases h0 : n = 0
  · subst h0
    have e : l = [] := List.eq_nil_of_length_eq_zero hl
    refine (Try.slices_Compact_int_empty a cap w).mono ?_
    rintro e' w' ⟨rfl, rfl⟩
    subst e
    have hc : Lib.compact ([] : List Int) = [] := List.eq_nil_of_length_eq_zero (by simpa using hle)
    rw [hc]
    exact ⟨rfl, h, Below.refl _ _⟩
  · have hown := h
    obtain ⟨h1, ⟨hv, hn0⟩ | ⟨g, cap', cur, hv, hBg, hg, hnc, hm, hs, ht⟩⟩ := h
    · exact absurd hn0 h0
    · simp at hv
      obtain ⟨rfl, rfl⟩ := hv
      have ht' : cur.toList.take l.length = l.map (Value.int .i64) := by rw [hl]; simpa [ints] using ht
      subst hl
      refine (Try.slices_Compact_int g 0 cap l w (holds_of_blockI hg ht') (by omega) hnc).mono ?_
      rintro e' w' ⟨rfl, q, rfl⟩
      refine ⟨rfl, ?_, ?_⟩
      · have := Lib.ownsRow_putRow (enc := Value.int .i64) (q := q) (ys := Lib.compact l ++ List.replicate (l.length - (Lib.compact l).length) 0) (k := (Lib.compact l).length) hown (by simp; omega) hle
        rw [List.take_left] at this
        exact this
      · exact Lib.below_putRow (Below.refl B w) hBg

end Go.Proofs.Ytcppmcacjjjjeaa.Rhy
