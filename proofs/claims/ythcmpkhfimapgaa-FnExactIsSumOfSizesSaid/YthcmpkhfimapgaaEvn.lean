/-
  Helpers of the claims beside this text: even rhythms: EvenRhythm, ShiftedEven, CountEven of the model.
-/
import Derived.Test.YthcmpkhfimapgaaRot
import Derived.Test.YthcmpkhfimapgaaVec
namespace Go.Proofs.Ythcmpkhfimapgaa.Rhy
open Go.RowKit
set_option linter.unusedVariables false
set_option linter.unusedSimpArgs false

def EvC (k n : Int) : Prop := 1 ≤ n ∧ n ≤ 24 ∧ 0 ≤ k ∧ k ≤ n
def EvM (k n m : Int) : Prop := EvC k n ∧ 0 ≤ m ∧ m < n ∧ ¬ (k = 0 ∧ 0 < m)
/-- The i-th beat. -/
def evT (k n m : Int) (i : Nat) : Int := ((i : Int) * n + m) / k
def evP (k n m : Int) (j : Nat) : List Int := (List.range j).map fun i => evT k n m i
def evZ (k n m : Int) : List Int := ofZ n.toNat (evP k n m k.toNat)
theorem evP_len (k n m : Int) (j : Nat) : (evP k n m j).length = j := by simp [evP]
theorem evP_snoc (k n m : Int) (j : Nat) : evP k n m (j + 1) = evP k n m j ++ [evT k n m j] := by simp [evP, List.range_succ]
theorem evT_bd {k n m : Int} {i : Nat} (h : EvC k n) (hm : 0 ≤ m ∧ m ≤ 24) (hi : (i : Int) < k) : 0 ≤ evT k n m i ∧ evT k n m i ≤ 600 ∧ 0 ≤ (i : Int) * n ∧ (i : Int) * n ≤ 576 := by
  have h1 : 0 ≤ (i : Int) * n := Int.mul_nonneg (by omega) (by have := h.1; omega)
  have h2 : (i : Int) * n ≤ 24 * 24 := Int.mul_le_mul (by have := h.2.2.2; have := h.2.1; omega) h.2.1 (by have := h.1; omega) (by omega)
  unfold evT
  have h3 : 0 ≤ ((i : Int) * n + m) / k := Int.ediv_nonneg (by omega) (by omega)
  have h4 : ((i : Int) * n + m) / k ≤ (i : Int) * n + m := Int.ediv_le_self _ (by omega)
  omega
theorem evP_int {k n m : Int} {j : Nat} (h : EvC k n) (hm : 0 ≤ m ∧ m ≤ 24) (hj : (j : Int) ≤ k) : AllInt (evP k n m j) := by
  intro z hz
  unfold evP at hz
  rw [List.mem_map] at hz
  obtain ⟨i, hi, rfl⟩ := hz
  have := List.mem_range.1 hi
  have := evT_bd (i := i) h hm (by omega)
  omega

theorem six_yes (k n : Int) (w : World) (h : EvC k n) :
    Calls Try.prog 69 #[.int .i64 k, .int .i64 n] w fun e w' => e = .returned (.bool true) ∧ w = w' := by
  obtain ⟨h1, h2, h3, h4⟩ := h
  go_enter Try.func69, Try.ntmps69
  go_wp2_with fail
  refine (in_yes _ _ _ _ h1 h2).mono ?_
  rintro e w' ⟨rfl, rfl⟩
  go_wp2_with fail
  refine (in_yes _ _ _ _ h3 h4).mono ?_
  rintro e w' ⟨rfl, rfl⟩
  go_wp2
  go_ret
  exact ⟨rfl, rfl⟩
theorem six_no (k n : Int) (w : World) (h : ¬ EvC k n) :
    Calls Try.prog 69 #[.int .i64 k, .int .i64 n] w fun e w' => e = .returned (.bool false) ∧ w = w' := by
  by_cases hn : 1 ≤ n ∧ n ≤ 24
  · have HK := Lib.hid (show ¬ (0 ≤ k ∧ k ≤ n) from fun q => h ⟨hn.1, hn.2, q.1, q.2⟩)
    clear h
    go_enter Try.func69, Try.ntmps69
    go_wp2_with fail
    refine (in_yes _ _ _ _ hn.1 hn.2).mono ?_
    rintro e w' ⟨rfl, rfl⟩
    go_wp2_with fail
    refine (in_no _ _ _ _ HK.out).mono ?_
    rintro e w' ⟨rfl, rfl⟩
    go_wp2
    go_ret
    exact ⟨rfl, rfl⟩
  · have HN := Lib.hid hn
    clear h hn
    go_enter Try.func69, Try.ntmps69
    go_wp2_with fail
    refine (in_no _ _ _ _ HN.out).mono ?_
    rintro e w' ⟨rfl, rfl⟩
    go_wp2
    go_ret
    exact ⟨rfl, rfl⟩

def EvAt (g j : Nat) (k n m : Int) (v : Value) (w wr : World) : Prop :=
  ∃ av cv, v = .slice av (evP k n m j).length cv ∧ Box wr g (.int .i64 0) (.slice none 0 0) 26 ∧
    wr.ownsRow (g + 1) 3 1 (.slice av (evP k n m j).length cv) (evP k n m j).length (ints (evP k n m j)) ∧ Below g w wr ∧ g + 1 ≤ wr.heap.size




theorem evZ_ok {k n m : Int} (h : EvC k n) : Ok n (evZ k n m) := by
  refine ok_of h.1 h.2.1 (ofZ_sorted _ _) fun z hz => ?_
  have := (ofZ_mem.1 hz).1
  have := h.1
  omega
theorem ok_int' {n : Int} {zs : List Int} (h : Ok n zs) : AllInt zs := fun z hz => by have := ok_range h z hz; have := h.1; omega
theorem ok_size {s : Int} {zs : List Int} (h : Ok s zs) : (zs.length : Int) ≤ s := by
  have h1 := h.1
  have e := ofZ_self (n := s.toNat) (ok_sorted h) (fun x hx => by have := ok_range h x hx; omega)
  have := ofZ_len s.toNat zs
  rw [e] at this
  omega

open Classical in
noncomputable def cevB (k n : Int) : Int := if EvC k n then ((n.toNat / Nat.gcd k.toNat n.toNat : Nat) : Int) else -1

end Go.Proofs.Ythcmpkhfimapgaa.Rhy
