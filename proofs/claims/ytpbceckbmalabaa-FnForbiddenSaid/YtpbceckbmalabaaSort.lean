/-
  Helpers of the claims beside this text: the library's sort at a slice of the call's own; the program's moved beats.
-/
import Derived.Test.YtpbceckbmalabaaOf
import Derived.Sort.OwnSortedInts
import Derived.Lib.OwnBridge
namespace Go.Proofs.Ytpbceckbmalabaa.Rhy
open Go.RowKit
set_option linter.unusedVariables false

def sortZ (l : List Int) : List Int := l.mergeSort fun x y => decide (x ≤ y)
theorem sortZ_len (l : List Int) : (sortZ l).length = l.length := List.length_mergeSort l

theorem sort_own (B : Nat) (a : Option Addr) (n cap : Nat) (l : List Int) (w : World) (h : w.ownsRow B 3 1 (.slice a n cap) n (ints l)) (hn : n ≤ 1048576) (hB : B ≤ w.heap.size) :
    Calls Try.prog 59 #[.slice a n cap] w fun e w' => e = .returned (.tuple #[]) ∧ w'.ownsRow B 3 1 (.slice a n cap) n (ints (sortZ l)) ∧ Below B w w' := by
  have hl : l.length = n := (own_shape h).1
  by_cases h0 : n = 0
  · subst h0
    have e : l = [] := List.eq_nil_of_length_eq_zero hl
    refine (Try.slices_Sort_int_none a cap w).mono ?_
    rintro e' w' ⟨rfl, rfl⟩
    subst e
    exact ⟨rfl, by rw [show sortZ [] = [] by simp [sortZ]]; exact h, Below.refl _ _⟩
  · obtain ⟨h1, ⟨hv, hn0⟩ | ⟨g, cap', cur, hv, hBg, hg, hnc, hm, hs, ht⟩⟩ := h
    · exact absurd hn0 h0
    · simp at hv
      obtain ⟨rfl, rfl⟩ := hv
      have ht' : cur.toList.take l.length = l.map (Value.int .i64) := by rw [hl]; simpa [ints] using ht
      subst hl
      refine (Try.slices_Sort_int g 0 cap l w (holds_of_blockI hg ht') (by have := (Array.getElem?_eq_some_iff.1 hg).1; exact this) (by omega)).mono ?_
      rintro e' w' ⟨rfl, q, os, rfl⟩
      refine ⟨rfl, ?_, ?_⟩
      · have := ownsRow_sortedI (n := q) (os := os) (ss := l) (ts := sortZ l) (sortZ_len l) hBg hg hnc hm (by simpa using hs)
        exact this
      · exact (Below.refl B w).grown (grownBy_sortedI _) hB (fun k hk => by cases hk; exact hBg)

theorem map_step (s : Int) (zs : List Int) (u k : Int) (n j : Nat) (z : Int) (hn : zs.length = n) (hs : zs[j]? = some z) :
    (ints (mapL s (zs.take j) u k) ++ List.replicate (n - j) (Value.int .i64 0)).set j (.int .i64 (remB (u * z + k) s)) = ints (mapL s (zs.take (j + 1)) u k) ++ List.replicate (n - (j + 1)) (Value.int .i64 0) := by
  have hk : j < zs.length := by
    rcases Nat.lt_or_ge j zs.length with h | h
    · exact h
    · rw [List.getElem?_eq_none h] at hs; cases hs
  have e : n - j = (n - (j + 1)) + 1 := by omega
  rw [e, List.replicate_succ, mapL_snoc hs]
  have h := set_mid (ints (mapL s (zs.take j) u k)) (List.replicate (n - (j + 1)) (Value.int .i64 0)) (.int .i64 0) (.int .i64 (remB (u * z + k) s))
  rw [show (ints (mapL s (zs.take j) u k)).length = j by simp [ints, mapL]; omega] at h
  rw [h]
  simp [ints]

def MovAt (g len j : Nat) (s : Int) (a : Option Addr) (cap : Nat) (zs : List Int) (u k : Int) (w wr : World) : Prop :=
  Box wr g (.int .i64 s) (.slice a len cap) 30 ∧ Box wr (g + 1) (.int .i64 0) (.slice none 0 0) 30 ∧
    wr.ownsRow (g + 2) 3 1 (.slice (some ⟨g + 1 + 1, 0, none⟩) len len) len (ints (mapL s (zs.take j) u k) ++ List.replicate (len - j) (Value.int .i64 0)) ∧ Below g w wr ∧ g + 2 ≤ wr.heap.size


end Go.Proofs.Ytpbceckbmalabaa.Rhy
