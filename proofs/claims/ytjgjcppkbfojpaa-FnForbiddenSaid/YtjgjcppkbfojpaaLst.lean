/-
  Helpers of the claims beside this text: which of two rhythms of the model comes first.
-/
import Derived.Test.YtjgjcppkbfojpaaPer
namespace Go.Proofs.Ytjgjcppkbfojpaa.Rhy
open Go.RowKit
set_option linter.unusedVariables false

/-- At the first pulse from k on, of f pulses, at which they differ: has xs the beat? -/
def afterF (xs ys : List Int) (k : Nat) : Nat → Bool
  | 0 => false
  | f + 1 => if hasB xs k = hasB ys k then afterF xs ys (k + 1) f else hasB xs k
def afterB (n : Nat) (xs ys : List Int) : Bool := afterF xs ys 0 n
theorem after_eq {xs ys : List Int} {k n : Nat} (hk : k < n) (h : hasB xs k = hasB ys k) : afterF xs ys k (n - k) = afterF xs ys (k + 1) (n - (k + 1)) := by
  obtain ⟨f, hf⟩ : ∃ f, n - k = f + 1 := ⟨n - k - 1, by omega⟩
  rw [hf, show n - (k + 1) = f by omega]; simp [afterF, h]
theorem after_ne {xs ys : List Int} {k n : Nat} (hk : k < n) (h : hasB xs k ≠ hasB ys k) : afterF xs ys k (n - k) = hasB xs k := by
  obtain ⟨f, hf⟩ : ∃ f, n - k = f + 1 := ⟨n - k - 1, by omega⟩
  rw [hf]; simp [afterF, h]

set_option maxHeartbeats 400000 in
theorem after_spec (n : Nat) (a : Option Addr) (len cap : Nat) (xs : List Int) (t : Int) (b : Option Addr) (m cb : Nat) (ys : List Int) (w : World) (ha : IntsAt w a len xs) (hb : IntsAt w b m ys) (hl : len ≤ 1048576) (hm : m ≤ 1048576) (hn : n ≤ 24) :
    Calls Try.prog 133 #[rhy n a len cap, rhy t b m cb] w fun e w' => e = .returned (.bool (afterB n xs ys)) ∧ Below w.heap.size w w' := by
  have HA := Lib.hid ha
  have HB := Lib.hid hb
  clear ha hb
  obtain ⟨W0, hW⟩ : ∃ W0, W0 = (w.alloc (.cells #[.int .i64 n, .slice a len cap] 25)).alloc (.cells #[.int .i64 t, .slice b m cb] 25) := ⟨_, rfl⟩
  have HW := Lib.hid hW
  have BW := Lib.hid (show Below w.heap.size w W0 by rw [hW]; exact bel2 w _ _)
  have HT := Lib.hid (show Two W0 w.heap.size (.int .i64 n) (.slice a len cap) by rw [hW]; exact (two_new w _ _ _).keep (bel1 _ _))
  have HU := Lib.hid (show Box W0 (w.heap.size + 1) (.int .i64 t) (.slice b m cb) 25 by
    rw [hW]
    have := box_new (w.alloc (.cells #[.int .i64 n, .slice a len cap] 25)) (.int .i64 t) (.slice b m cb) 25
    simpa using this)
  have IA := Lib.hid (HA.out.below BW.out)
  have IB := Lib.hid (HB.out.below BW.out)
  clear hW
  obtain ⟨t1, t1a, t1b⟩ := HT.out
  obtain ⟨u0, u1, _, _⟩ := HU.out.facts
  go_enter Try.func133, Try.ntmps133
  go_wp2
  rw [← HW.out]
  go_loop [5] (fun i => ∃ k : Nat, k ≤ n ∧ i = .int .i64 k ∧ afterB n xs ys = afterF xs ys k (n - k)) (fun i => n - (intOf i).toNat)
  case atStart => exact ⟨0, by omega, rfl, rfl⟩
  case round =>
    obtain ⟨k, hk, rfl, hf⟩ := hrel
    have HF := Lib.hid hf
    clear hf
    have HCA := Lib.hid (has_any a len cap xs k _ IA.out (by omega))
    have HCB := Lib.hid (has_any b m cb ys k _ IB.out (by omega))
    by_cases hlt : k < n
    · by_cases he : hasB xs k = hasB ys k
      · have HN := Lib.hid (HF.out.trans (after_eq hlt he))
        obtain ⟨c, hc⟩ : ∃ c, c = hasB xs k := ⟨_, rfl⟩
        have hcy : hasB ys k = c := by rw [hc, he]
        have HX := Lib.hid hc.symm
        have HY := Lib.hid hcy
        clear he hc hcy
        go_wp2_with (first
          | (go_at_call 157; with_reducible refine (HCA.out).mono ?_; rintro e w' ⟨rfl, rfl⟩; rw [HX.out])
          | (go_at_call 157; with_reducible refine (HCB.out).mono ?_; rintro e w' ⟨rfl, rfl⟩; rw [HY.out]))
        go_round
        case rel => exact ⟨k + 1, by omega, by go_num, HN.out⟩
        case measure => simp [intOf]; omega
      · have HN := Lib.hid (HF.out.trans (after_ne hlt he))
        obtain ⟨c, hc⟩ : ∃ c, c = hasB xs k := ⟨_, rfl⟩
        have hcy : hasB ys k = !c := by rw [hc]; cases h1 : hasB xs k <;> cases h2 : hasB ys k <;> simp_all
        have HX := Lib.hid hc.symm
        have HY := Lib.hid hcy
        rw [← hc] at HN
        have hbn : (c != !c) = true := by cases c <;> rfl
        have hbe : (c == !c) = false := by cases c <;> rfl
        clear he hc hcy
        go_wp2_with (first
          | (go_at_call 157; with_reducible refine (HCA.out).mono ?_; rintro e w' ⟨rfl, rfl⟩; rw [HX.out])
          | (go_at_call 157; with_reducible refine (HCB.out).mono ?_; rintro e w' ⟨rfl, rfl⟩; rw [HY.out]))
        go_ret
        exact ⟨ret_bool HN.out.symm, BW.out⟩
    · have e : k = n := by omega
      subst e
      have HN : Hid (afterB k xs ys = false) := Lib.hid (by rw [HF.out, Nat.sub_self]; rfl)
      go_wp2
      go_ret
      exact ⟨ret_bool HN.out.symm, BW.out⟩
end Go.Proofs.Ytjgjcppkbfojpaa.Rhy
