/-
  Helpers of the claims beside this text: rhythms out of numbers, twins: the model's.
-/
import Derived.Test.YtgmhdmhnedljcaaIvs
import Derived.Test.YtgmhdmhnedljcaaLsk
namespace Go.Proofs.Ytgmhdmhnedljcaa.Rhy
open Go.RowKit
set_option linter.unusedVariables false
set_option linter.unusedSimpArgs false

/-- The pulses below k where a number of n bits has its bits, the highest bit first. -/
def bitP (n bits k : Nat) : List Int := ((List.range k).filter fun p => decide (bits / 2 ^ (n - 1 - p) % 2 = 1)).map fun p => ((p : Nat) : Int)
def bitsL (n bits : Nat) : List Int := bitP n bits n
theorem bitP_yes {n bits k : Nat} (h : bits / 2 ^ (n - 1 - k) % 2 = 1) : bitP n bits (k + 1) = bitP n bits k ++ [(k : Int)] := by
  unfold bitP
  rw [List.range_succ, List.filter_append, List.map_append]
  congr 1
  rw [List.filter_cons_of_pos (by simpa using h)]
  rfl
theorem bitP_no {n bits k : Nat} (h : ¬ bits / 2 ^ (n - 1 - k) % 2 = 1) : bitP n bits (k + 1) = bitP n bits k := by
  unfold bitP
  rw [List.range_succ, List.filter_append, List.map_append]
  rw [List.filter_cons_of_neg (by simpa using h)]
  simp
theorem bitP_len (n bits k : Nat) : (bitP n bits k).length ≤ k := by
  unfold bitP
  rw [List.length_map]
  exact Nat.le_trans (List.length_filter_le _ _) (by simp)

theorem and_one (x : Nat) (hx : x < 9223372036854775808) : bits .and .i64 (x : Int) 1 = ((x % 2 : Nat) : Int) := by
  have e : bits .and .i64 (x : Int) 1 = ((BitVec.ofInt 64 (x : Int) &&& BitVec.ofInt 64 (1 : Int)).toNat : Int) := by
    show IntKind.i64.wrap _ = _
    have h : ((BitVec.ofInt 64 (x : Int) &&& BitVec.ofInt 64 (1 : Int)).toNat) ≤ 1 := by
      rw [BitVec.toNat_and]
      exact Nat.le_trans Nat.and_le_right (by decide)
    exact IntWalk.i64_in _ ⟨by omega, by show ((BitVec.ofInt 64 (x : Int) &&& BitVec.ofInt 64 (1 : Int)).toNat : Int) ≤ _; omega⟩
  rw [e, BitVec.toNat_and, BitVec.toNat_ofInt]
  have h1 : ((x : Int) % ((2 ^ 64 : Nat) : Int)).toNat = x := by
    rw [Int.emod_eq_of_lt (by omega) (by omega)]; omega
  rw [h1, show (BitVec.ofInt 64 (1 : Int)).toNat = 1 by decide, Nat.and_one_is_mod]
theorem bit_val (b m : Nat) (hb : b < 16777216) : bits .and .i64 ((b : Int) / 2 ^ m) 1 = ((b / 2 ^ m % 2 : Nat) : Int) := by
  have e : (b : Int) / 2 ^ m = ((b / 2 ^ m : Nat) : Int) := by simp
  rw [e, and_one _ (Nat.lt_of_le_of_lt (Nat.div_le_self _ _) (by omega))]


/-! twins -/
/-- A twin of zs: as many beats, the same vector, the least of its forms, no form of zs. -/
noncomputable def twQ (n : Int) (zs x : List Int) : Bool := decide (x.length = zs.length) && (eqB (vecZ n x) (vecZ n zs) && (eqB (formZ n x) x && !aforB n zs n x))
noncomputable def twJ (n : Nat) (zs : List Int) (j : Nat) : List (List Int) := ((List.range j).map fun i => bitsL n (2 ^ n - 1 - i)).filter (twQ n zs)
noncomputable def twZ (n : Nat) (zs : List Int) : List (List Int) := twJ n zs (2 ^ n)
theorem twJ_yes {n : Nat} {zs : List Int} {j m : Nat} (hm : 2 ^ n - 1 - j = m) (h : twQ n zs (bitsL n m) = true) : twJ n zs (j + 1) = twJ n zs j ++ [bitsL n m] := by
  unfold twJ
  rw [List.range_succ, List.map_append, List.filter_append]
  simp only [List.map_cons, List.map_nil, hm]
  rw [List.filter_cons_of_pos h]
  rfl
theorem twJ_no {n : Nat} {zs : List Int} {j m : Nat} (hm : 2 ^ n - 1 - j = m) (h : twQ n zs (bitsL n m) = false) : twJ n zs (j + 1) = twJ n zs j := by
  unfold twJ
  rw [List.range_succ, List.map_append, List.filter_append]
  simp only [List.map_cons, List.map_nil, hm]
  rw [List.filter_cons_of_neg (by rw [h]; simp)]
  simp
theorem twJ_len (n : Nat) (zs : List Int) (j : Nat) : (twJ n zs j).length ≤ j := by
  unfold twJ
  exact Nat.le_trans (List.length_filter_le _ _) (by simp)
theorem bits_ok {n bits : Nat} (h1 : 1 ≤ n) (h2 : n ≤ 24) : Ok n (bitsL n bits) := by
  refine ok_of (by omega) (by omega) ?_ fun z hz => ?_
  · unfold bitsL bitP
    rw [List.pairwise_map]
    exact (List.pairwise_lt_range.filter _).imp fun h => by omega
  · unfold bitsL bitP at hz
    rw [List.mem_map] at hz
    obtain ⟨p, hp, rfl⟩ := hz
    have := List.mem_range.1 (List.mem_filter.1 hp).1
    omega
open Classical in
/-- What both answer. -/
noncomputable def twinsB (s : Int) (zs : List Int) : List (List Int) := if Ok s zs ∧ s ≤ 12 then twZ s.toNat zs else []
theorem twinsB_yes {n : Nat} {zs : List Int} (h : Ok n zs ∧ (n : Int) ≤ 12) : twinsB n zs = twZ n zs := by unfold twinsB; rw [if_pos h]; rfl
theorem twinsB_no {s : Int} {zs : List Int} (h : ¬ (Ok s zs ∧ s ≤ 12)) : twinsB s zs = [] := if_neg h
def TwAt (n : Nat) (zs : List Int) (j : Nat) (w1 wr : World) (v : Value) : Prop :=
  ∃ av cv q L, v = .slice av q cv ∧ L.length = q ∧ q ≤ j ∧ Items wr w1.heap.size (.slice av q cv) L ∧ vals L = (twJ n zs j).map (fun z => ((n : Int), z)) ∧ Below w1.heap.size w1 wr ∧ w1.heap.size ≤ wr.heap.size
theorem tw_snoc {n : Nat} {zs X : List Int} {j : Nat} {L : List Item} {r : Item} (h : vals L = (twJ n zs j).map (fun z => ((n : Int), z))) (e : twJ n zs (j + 1) = twJ n zs j ++ [X]) (hs : r.s = n) (hz : r.zs = X) : vals (L ++ [r]) = (twJ n zs (j + 1)).map (fun z => ((n : Int), z)) := by
  rw [e, List.map_append, ← h]
  simp [vals, hs, hz]
theorem cp_open {c : Prop} {s : Int} {l : List Int} {w w' : World} {e : Ending} (hc : c) (h : CPost c s l w e w') : RetPost s l true w e w' := by
  unfold CPost at h
  rwa [cS_yes hc, cZ_yes hc, cB_yes hc] at h
/-- A box that a rhythm of the program's was put into. -/
theorem rhi_put {w' : World} {n : Int} {a : Option Addr} {cap : Nat} {zs : List Int} {B : Nat} (h : w'.ownsRow B 3 1 (.slice a zs.length cap) zs.length (ints zs)) (hi : AllInt zs) : RhI (w'.alloc (.cells #[.int .i64 n, .slice a zs.length cap] 28)) w'.heap.size n a zs.length cap zs :=
  ⟨box_new _ _ _ _, (intsAt_own h hi).below (bel1 _ _)⟩


end Go.Proofs.Ytgmhdmhnedljcaa.Rhy
