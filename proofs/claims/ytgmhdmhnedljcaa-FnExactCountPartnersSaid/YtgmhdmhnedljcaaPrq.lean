/-
  Helpers of the claims beside this text: the program's bits of a rhythm.
-/
import Derived.Test.YtgmhdmhnedljcaaPrt
import Derived.Test.YtgmhdmhnedljcaaPop
namespace Go.Proofs.Ytgmhdmhnedljcaa.Rhy
open Go.RowKit
set_option linter.unusedVariables false
set_option linter.unusedSimpArgs false

theorem or_nat (a b : Nat) (ha : a < 16777216) (hb : b < 16777216) : Go.bits .or .i64 (a : Int) (b : Int) = ((a ||| b : Nat) : Int) := by
  have e : (BitVec.ofInt 64 (a : Int) ||| BitVec.ofInt 64 (b : Int)).toNat = a ||| b := by rw [BitVec.toNat_or, bv_of a (by omega), bv_of b (by omega)]
  show IntKind.i64.wrap ((BitVec.ofInt 64 (a : Int) ||| BitVec.ofInt 64 (b : Int)).toNat : Int) = _
  rw [e]
  have : a ||| b < 16777216 := Nat.or_lt_two_pow (n := 24) ha hb
  exact IntWalk.i64_in _ ⟨by omega, by omega⟩
set_option maxHeartbeats 1000000 in
theorem bits_any (n : Nat) (a : Option Addr) (len cap : Nat) (zs : List Int) (w : World) (h : IntsAt w a len zs) (hm : len ≤ 1048576) (ho : Ok n zs) :
    Calls Try.prog 37 #[rhy n a len cap] w fun e w' => e = .returned (.int .i64 ((mkN n zs : Nat) : Int)) ∧ Below w.heap.size w w' := by
  have hn : 1 ≤ n ∧ n ≤ 24 := by have := ho.1; omega
  have h24 : 2 ^ n ≤ 16777216 := Nat.pow_le_pow_right (n := 2) (by omega) hn.2
  have hl := h.1
  have HS := Lib.hid h
  have HO := Lib.hid ho
  clear h ho
  obtain ⟨W, hW⟩ : ∃ W, W = w.alloc (.cells #[.int .i64 n, .slice a len cap] 28) := ⟨_, rfl⟩
  have HW := Lib.hid hW
  have HB := Lib.hid (show Below w.heap.size w W by rw [hW]; exact bel1 w _)
  have HT := Lib.hid (show Two W w.heap.size (.int .i64 n) (.slice a len cap) by rw [hW]; exact two_new w _ _ _)
  clear hW
  go_enter Try.func37, Try.ntmps37
  go_wp2_with fail
  rw [← HW.out]
  obtain ⟨t1, t1a, t1b⟩ := HT.out
  go_wp2_with fail
  go_loopw [3, 9] (fun v i wr => ∃ j : Nat, j ≤ len ∧ i = .int .i64 j ∧ v = .int .i64 ((mkN n (zs.take j) : Nat) : Int) ∧ Below W.heap.size W wr) (fun _ i _ => len - (intOf i).toNat)
  case atStart => exact ⟨0, by omega, rfl, rfl, Below.refl _ _⟩
  case round =>
    obtain ⟨j, hj, rfl, rfl, hbl⟩ := hrel
    have HX := Lib.hid hbl
    have HBr := Lib.hid (HB.out.trans (hbl.mono HB.out.size))
    have HTr := Lib.hid (HT.out.keep hbl)
    obtain ⟨q1, q1a, q1b⟩ := HTr.out
    obtain ⟨V, hV⟩ : ∃ V, mkN n (zs.take j) = V := ⟨_, rfl⟩
    have hV2 : V < 16777216 := by rw [← hV]; exact Nat.lt_of_lt_of_le (mkN_lt hn.1) h24
    rw [hV]
    have HV := Lib.hid hV
    clear hbl hV
    by_cases hlt : j < len
    · obtain ⟨gb, off, z, rfl, hb, hs, hc, hzi⟩ := (HS.out.below HBr.out).at hlt
      have hz : zs[j]? = some z := by
        rw [List.getElem?_eq_getElem (by omega)] at hs ⊢
        simpa using hs
      have hr := ok_range HO.out z (List.mem_of_getElem? hz)
      obtain ⟨p, rfl⟩ : ∃ p : Nat, z = (p : Int) := ⟨z.toNat, by omega⟩
      have hpn : p < n := by omega
      have HN : Hid (mkN n (zs.take (j + 1)) = V ||| 2 ^ (n - 1 - p)) := Lib.hid (by
        rw [List.take_add_one, hz, show (some (p : Int)).toList = [(p : Int)] from rfl, mkN_snoc, HV.out, Int.toNat_natCast])
      have HP : Hid (∀ W, Calls Try.prog 39 #[.int .i64 n, .int .i64 p] W fun e w' => e = .returned (.int .i64 ((2 ^ (n - 1 - p) : Nat) : Int)) ∧ W = w') := Lib.hid fun W => pbit_any n p W hn.1 hn.2 hpn
      have hq2 : 2 ^ (n - 1 - p) < 16777216 := Nat.lt_of_lt_of_le (Nat.pow_lt_pow_right (by omega) (show n - 1 - p < 24 by omega)) (Nat.le_refl _)
      obtain ⟨q, hq⟩ : ∃ q, 2 ^ (n - 1 - p) = q := ⟨_, rfl⟩
      rw [hq] at HN HP hq2
      have hor := or_nat V q hV2 hq2
      clear hs hz hzi hr hq
      go_wp2_with (go_at_call 39; refine (HP.out _).mono ?_; rintro e w' ⟨rfl, rfl⟩)
      go_roundw
      case rel => exact ⟨j + 1, by omega, by go_num, by rw [HN.out], HX.out⟩
      case measure => simp [intOf]; omega
    · have HE : Hid (mkN n zs = V) := Lib.hid (by rw [← HV.out, List.take_of_length_le (by omega)])
      go_wp2
      go_ret
      exact ⟨by rw [HE.out]; rfl, HBr.out⟩
end Go.Proofs.Ytgmhdmhnedljcaa.Rhy
