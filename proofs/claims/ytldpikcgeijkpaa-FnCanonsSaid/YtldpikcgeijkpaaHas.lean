/-
  Helpers of the claims beside this text: whether a list has a number, and remainders: the model's and the program's.
-/
import Derived.Test.YtldpikcgeijkpaaOk
import Derived.Test.YtldpikcgeijkpaaShelf
import Derived.Deep.RegionHeld3
import Derived.IntWalk
namespace Go.Proofs.Ytldpikcgeijkpaa.Rhy
open Go.RowKit
set_option linter.unusedVariables false

def hasB (zs : List Int) (x : Int) : Bool := zs.contains x
theorem has_of (zs : List Int) (x : Int) (k : Nat) (h : zs[k]? = some x) : hasB zs x = true := by
  unfold hasB
  simpa using List.mem_of_getElem? h
theorem has_not (zs : List Int) (x : Int) (h : ∀ j, j < zs.length → zs[j]? ≠ some x) : hasB zs x = false := by
  unfold hasB
  rw [List.contains_eq_mem, decide_eq_false_iff_not]
  intro hm
  obtain ⟨j, hj⟩ := List.mem_iff_getElem?.1 hm
  have : j < zs.length := by
    rcases Nat.lt_or_ge j zs.length with h' | h'
    · exact h'
    · rw [List.getElem?_eq_none h'] at hj; cases hj
  exact h j this hj
theorem ret_bool {a b : Bool} (h : a = b) : Ending.returned (.bool a) = .returned (.bool b) := by rw [h]
theorem ret_int {k : IntKind} {a b : Int} (h : a = b) : Ending.returned (.int k a) = .returned (.int k b) := by rw [h]

theorem has_any (a : Option Addr) (len cap : Nat) (zs : List Int) (x : Int) (w : World) (h : IntsAt w a len zs) (hm : len ≤ 1073741824) :
    Calls Try.prog 91 #[.slice a len cap, .int .i64 x] w fun e w' => e = .returned (.bool (hasB zs x)) ∧ w = w' := by
  have HS := Lib.hid h
  clear h
  go_enter Try.func91, Try.ntmps91
  go_wp2
  go_loop [9] (fun i => ∃ (k : Nat), k ≤ len ∧ i = .int .i64 k ∧ Hid (∀ j, j < k → zs[j]? ≠ some x)) (fun i => len - (intOf i).toNat)
  case atStart => exact ⟨0, by omega, rfl, Lib.hid (fun j hj => by omega)⟩
  case round =>
    obtain ⟨k, hk, rfl, HN⟩ := hrel
    by_cases hlt : k < len
    · obtain ⟨b, off, z, rfl, hb, hs, hc, hz1, hz2⟩ := HS.out.at hlt
      by_cases he : x = z
      · have HB := Lib.hid (has_of zs x k (by rw [he]; exact hs))
        have hq : (x == z) = true := by simpa using he
        clear he hs
        go_wp2
        go_ret
        exact ⟨ret_bool HB.out.symm, rfl⟩
      · have HM : Hid (∀ j, j < k + 1 → zs[j]? ≠ some x) := Lib.hid (fun j hj => by
          by_cases e : j = k
          · rw [e, hs]; exact fun q => he (Option.some.inj q).symm
          · exact HN.out j (by omega))
        have hq : (x == z) = false := by simpa using he
        clear he hs
        go_wp2
        go_round
        case rel => exact ⟨k + 1, by omega, by go_num, HM⟩
        case measure => simp [intOf]; omega
    · have HB := Lib.hid (has_not zs x (fun j hj => HN.out j (by have := HS.out.1; omega)))
      go_wp2
      go_ret
      exact ⟨ret_bool HB.out.symm, rfl⟩

/-- slices.Contains, in the same words. -/
theorem contains_any (a : Option Addr) (len cap : Nat) (zs : List Int) (x : Int) (w : World) (h : IntsAt w a len zs) (hm : len ≤ 1073741824) :
    Calls Try.prog 87 #[.slice a len cap, .int .i64 x] w fun e w' => e = .returned (.bool (hasB zs x)) ∧ w' = w := by
  by_cases h0 : len = 0
  · subst h0
    have hz : zs = [] := List.eq_nil_of_length_eq_zero h.1
    rw [hz]
    exact Try.slices_Contains_int_empty a cap x w
  · obtain ⟨b, off, rfl, hb, hc⟩ := h.2.2 (by omega)
    have h1 := h.1
    refine (Try.slices_Contains_int b off len cap zs x w (by omega) (by omega) (fun j hj => ?_)).mono ?_
    · rw [hc j _ (List.getElem?_eq_getElem hj), List.getD_eq_getElem?_getD, List.getElem?_eq_getElem hj]
      rfl
    · rintro e w' ⟨rfl, rfl⟩
      exact ⟨by rw [List.take_of_length_le (by omega)]; rfl, rfl⟩

theorem tmod_fix (k n : Int) (h : 0 < n) : (k.tmod n + n).tmod n = k % n := by
  have h1 := Int.tmod_lt_of_pos k h
  have h2 := Int.lt_tmod_of_pos k h
  rw [Int.tmod_eq_emod_of_nonneg (by omega), Int.add_emod_right]
  have := Int.tmod_add_mul_tdiv k n
  conv => rhs; rw [← this]
  rw [Int.add_mul_emod_self_left]
theorem tmod_bd (k n : Int) (h : 0 < n) : -n < k.tmod n ∧ k.tmod n < n := ⟨Int.lt_tmod_of_pos k h, Int.tmod_lt_of_pos k h⟩

/-- A remainder from 0 on. -/
def remB (k n : Int) : Int := k % n
theorem remB_bd (k n : Int) (h : 0 < n) : 0 ≤ remB k n ∧ remB k n < n := ⟨Int.emod_nonneg _ (by omega), Int.emod_lt_of_pos _ h⟩


theorem around_any (k n : Int) (w : World) (h1 : 1 ≤ n) (h2 : n ≤ 1000) (h3 : -9223372036854775808 ≤ k) (h4 : k ≤ 9223372036854775807) :
    Calls Try.prog 88 #[.int .i64 k, .int .i64 n] w fun e w' => e = .returned (.int .i64 (remB k n)) ∧ w = w' := by
  have ht := tmod_bd k n (by omega)
  have hf := tmod_fix k n (by omega)
  have hz : (n == 0) = false := by simp; omega
  by_cases hs : k.tmod n < 0
  · have HR : Hid (k.tmod n + n = remB k n) := Lib.hid (by unfold remB; rw [← hf, Int.tmod_eq_emod_of_nonneg (a := k.tmod n + n) (by omega), Int.emod_eq_of_lt (a := k.tmod n + n) (by omega) (by omega)])
    clear hf
    go_enter Try.func88, Try.ntmps88
    go_wp2
    go_ret
    exact ⟨ret_int HR.out, rfl⟩
  · have HR : Hid (k.tmod n = remB k n) := Lib.hid (by unfold remB; rw [← hf, Int.tmod_eq_emod_of_nonneg (a := k.tmod n + n) (by omega), Int.add_emod_right, Int.emod_eq_of_lt (a := k.tmod n) (by omega) (by omega)])
    clear hf
    go_enter Try.func88, Try.ntmps88
    go_wp2
    go_ret
    exact ⟨ret_int HR.out, rfl⟩
end Go.Proofs.Ytldpikcgeijkpaa.Rhy

/-
  Helpers of the claims beside this text: whether a rhythm has a beat: the program's method.
-/
namespace Go.Proofs.Ytldpikcgeijkpaa.Rhy
open Go.RowKit
set_option linter.unusedVariables false

theorem same_of {P : Program} {f : Nat} {args : Array Value} {w : World} {v : Value} (h : Calls P f args w fun e w' => e = .returned v ∧ w' = w) : Calls P f args w fun e w' => e = .returned v ∧ w = w' :=
  h.mono fun e w' ⟨he, hw⟩ => ⟨he, hw.symm⟩

theorem hasBeat_any (s : Int) (a : Option Addr) (len cap : Nat) (zs : List Int) (k : Int) (w : World) (h : IntsAt w a len zs) (hm : len ≤ 1048576) (h1 : 1 ≤ s) (h2 : s ≤ 24) (h3 : -9223372036854775808 ≤ k) (h4 : k ≤ 9223372036854775807) :
    Calls Try.prog 64 #[rhy s a len cap, .int .i64 k] w fun e w' => e = .returned (.bool (hasB zs (remB k s))) ∧ Below w.heap.size w w' := by
  have HS := Lib.hid h
  have HB := Lib.hid (remB_bd k s (by omega))
  clear h
  go_enter Try.func64, Try.ntmps64
  go_wp2
  obtain ⟨W0, HW⟩ : ∃ W0, Hid (W0 = w.alloc (.cells #[.int .i64 s, .slice a len cap] 25)) := ⟨_, Lib.hid rfl⟩
  have HT : Hid (Two W0 w.heap.size (.int .i64 s) (.slice a len cap)) := Lib.hid (by rw [HW.out]; exact two_new w _ _ _)
  have B0 : Hid (Below w.heap.size w W0) := Lib.hid (by rw [HW.out]; exact bel1 w _)
  rw [← HW.out]
  obtain ⟨t, ta, tb⟩ := HT.out
  have HK : Hid (∀ W, Below W0.heap.size W0 W → W.cell? ⟨w.heap.size, 0, none⟩ = some (.int .i64 s) ∧ W.cell? ⟨w.heap.size, 1, none⟩ = some (.slice a len cap) ∧ Below W0.heap.size W0 W) :=
    Lib.hid (fun W hW => ⟨(HT.out.keep hW).2.1, (HT.out.keep hW).2.2, hW⟩)
  go_region_held3 (fun w' => w'.cell? ⟨w.heap.size, 0, none⟩ = some (.int .i64 s) ∧ w'.cell? ⟨w.heap.size, 1, none⟩ = some (.slice a len cap) ∧ Below W0.heap.size W0 w')
    (first | exact HK.out _ (Below.refl _ _).drew)
    ((first
      | (go_at_call 88; refine (around_any k s _ h1 (by omega) h3 h4).mono ?_; rintro e w2 ⟨rfl, rfl⟩)
      | (go_at_call 87; refine (same_of (contains_any a len cap zs _ _ ((HS.out.below B0.out).below (Below.refl _ _).drew) (by omega))).mono ?_; rintro e w3 ⟨rfl, rfl⟩)))
  rename_i hh
  have hb := hh.2.2
  clear hh HK
  go_wp2
  go_ret
  exact ⟨rfl, B0.out.trans (hb.mono B0.out.size)⟩
end Go.Proofs.Ytldpikcgeijkpaa.Rhy

/-
  Helpers of the claims beside this text: CountBeats and HasBeat of the model and of the program.
-/
namespace Go.Proofs.Ytldpikcgeijkpaa.Rhy
open Go.RowKit
set_option linter.unusedVariables false

open Classical in
noncomputable def okB (s : Int) (zs : List Int) : Bool := decide (Ok s zs)
theorem okB_yes {s : Int} {zs : List Int} (h : Ok s zs) : okB s zs = true := by simp [okB, h]
theorem okB_no {s : Int} {zs : List Int} (h : ¬ Ok s zs) : okB s zs = false := by simp [okB, h]

open Classical in
noncomputable def countB (s : Int) (zs : List Int) : Int := if Ok s zs then zs.length else -1
theorem countB_yes {s : Int} {zs : List Int} (h : Ok s zs) : countB s zs = zs.length := by simp [countB, h]
theorem countB_no {s : Int} {zs : List Int} (h : ¬ Ok s zs) : countB s zs = -1 := by simp [countB, h]



noncomputable def beatB (s : Int) (zs : List Int) (k : Int) : Bool := okB s zs && hasB zs (remB k s)
theorem beatB_yes {s : Int} {zs : List Int} {k : Int} (h : Ok s zs) : beatB s zs k = hasB zs (remB k s) := by simp [beatB, okB_yes h]
theorem beatB_no {s : Int} {zs : List Int} {k : Int} (h : ¬ Ok s zs) : beatB s zs k = false := by simp [beatB, okB_no h]

theorem beat_impl (s : Int) (a : Option Addr) (len cap : Nat) (zs : List Int) (k : Int) (w : World) (h : IntsAt w a len zs) (hm : zs.length ≤ 1048576) (h3 : -9223372036854775808 ≤ k) (h4 : k ≤ 9223372036854775807) :
    Calls Try.prog 23 #[rhy s a len cap, .int .i64 k] w fun e w' => e = .returned (.bool (beatB s zs k)) ∧ Below w.heap.size w w' := by
  have HS := Lib.hid h
  have hl : len ≤ 1048576 := by have := h.1; omega
  clear h
  by_cases ho : Ok s zs
  · have HO := Lib.hid ho
    have hs1 := ho.1.1
    have hs2 := ho.1.2
    have HE := Lib.hid (beatB_yes (k := k) ho)
    clear ho
    go_enter Try.func23, Try.ntmps23
    go_wp2_with fail
    refine (valid_yes s a len cap zs _ (HS.out.below (bel1 w _)) hl HO.out).mono ?_
    rintro e w1 ⟨rfl, hb⟩
    have HB := Lib.hid ((bel1 w (.cells #[.int .i64 s, .slice a len cap] 25)).trans (hb.mono (by simp)))
    obtain ⟨c1, f1⟩ := bcell hb
    clear hb
    go_wp2_with fail
    refine (hasBeat_any s a len cap zs k _ (HS.out.below HB.out) hl hs1 hs2 h3 h4).mono ?_
    rintro e w2 ⟨rfl, hb2⟩
    have HB2 := Lib.hid hb2
    clear hb2
    go_wp2
    go_ret
    exact ⟨ret_bool HE.out.symm, HB.out.trans (HB2.out.mono HB.out.size)⟩
  · have HO := Lib.hid ho
    have HE := Lib.hid (beatB_no (k := k) ho)
    clear ho
    go_enter Try.func23, Try.ntmps23
    go_wp2_with fail
    refine (valid_no s a len cap zs _ (HS.out.below (bel1 w _)) hl HO.out).mono ?_
    rintro e w1 ⟨rfl, hb⟩
    have HB := Lib.hid hb
    clear hb
    go_wp2
    go_ret
    exact ⟨ret_bool HE.out.symm, (bel1 w _).trans (HB.out.mono (by simp))⟩


end Go.Proofs.Ytldpikcgeijkpaa.Rhy
