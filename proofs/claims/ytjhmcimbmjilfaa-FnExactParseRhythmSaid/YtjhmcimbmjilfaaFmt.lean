/-
  Helpers of the claims beside this text: FormatRhythm of the model.
-/
import Derived.Test.YtjhmcimbmjilfaaRep
import Derived.Laws.Concat
import Derived.ShutString
namespace Go.Proofs.Ytjhmcimbmjilfaa.Rhy
open Go.RowKit
set_option linter.unusedVariables false

def mark8 (zs : List Int) (p : Nat) : UInt8 := if zs.contains (p : Int) then 120 else 46
def fmtL (n : Nat) (zs : List Int) : List UInt8 := (List.range n).map (mark8 zs)
def fmtT (n : Nat) (zs : List Int) : ByteArray := ⟨(fmtL n zs).toArray⟩
theorem fmtL_len (n : Nat) (zs : List Int) : (fmtL n zs).length = n := by simp [fmtL]
theorem fmtT_size (n : Nat) (zs : List Int) : (fmtT n zs).size = n := by
  show ((fmtL n zs).toArray).size = n
  simp [fmtL_len]
theorem fmtL_succ (n : Nat) (zs : List Int) : fmtL (n + 1) zs = fmtL n zs ++ [mark8 zs n] := by simp [fmtL, List.range_succ]
theorem fmtT_yes {n : Nat} {zs : List Int} (h : zs.contains (n : Int) = true) : fmtT n zs ++ (⟨#[120]⟩ : ByteArray) = fmtT (n + 1) zs := by
  have e : mark8 zs n = 120 := by unfold mark8; rw [if_pos h]
  apply ByteArray.ext
  simp [fmtT, fmtL_succ, e]
theorem fmtT_no {n : Nat} {zs : List Int} (h : zs.contains (n : Int) = false) : fmtT n zs ++ (⟨#[46]⟩ : ByteArray) = fmtT (n + 1) zs := by
  have e : mark8 zs n = 46 := by unfold mark8; rw [if_neg (by rw [h]; simp)]
  apply ByteArray.ext
  simp [fmtT, fmtL_succ, e]
theorem ret_str {a b : ByteArray} (h : a = b) : Ending.returned (.string a) = .returned (.string b) := by rw [h]

/-- What both answer. -/
noncomputable def fmtB (s : Int) (zs : List Int) : ByteArray := @ite _ (Ok s zs) (Classical.propDecidable _) (fmtT s.toNat zs) ByteArray.empty
theorem fmtB_yes {s : Int} {zs : List Int} (h : Ok s zs) : fmtB s zs = fmtT s.toNat zs := by simp [fmtB, h]
theorem fmtB_no {s : Int} {zs : List Int} (h : ¬ Ok s zs) : fmtB s zs = ByteArray.empty := by simp [fmtB, h]

set_option maxHeartbeats 400000 in
theorem fmt_spec (s : Int) (a : Option Addr) (len cap : Nat) (zs : List Int) (w : World) (h : IntsAt w a len zs) (hm : zs.length ≤ 1048576) :
    Calls Try.prog 40 #[rhy s a len cap] w fun e w' => e = .returned (.string (fmtB s zs)) ∧ Below w.heap.size w w' := by
  have HS := Lib.hid h
  have hl : len ≤ 1048576 := by have := h.1; omega
  clear h
  by_cases ho : Ok s zs
  · have HO := Lib.hid ho
    have HE := Lib.hid (fmtB_yes ho)
    obtain ⟨n, hn⟩ : ∃ n : Nat, s = n := ⟨s.toNat, by have := ho.1; omega⟩
    have hn24 : n ≤ 24 := by have := ho.1; omega
    have HN := Lib.hid hn
    clear ho hn
    go_enter Try.func40, Try.ntmps40
    go_wp2_with fail
    refine (ok_yes s a len cap zs _ (HS.out.below (bel1 w _)) hl HO.out).mono ?_
    rintro e w1 ⟨rfl, hb⟩
    have HB := Lib.hid ((bel1 w (.cells #[.int .i64 s, .slice a len cap] 27)).trans (hb.mono (by simp)))
    have HI := Lib.hid (HS.out.below HB.out)
    have T1 := Lib.hid ((two_new w (.int .i64 s) (.slice a len cap) 27).keep hb)
    obtain ⟨t1, t1a, t1b⟩ := T1.out
    clear hb
    go_wp2
    go_loop [3, 4] (fun t i => ∃ k : Nat, k ≤ n ∧ i = .int .i64 k ∧ t = .string (fmtT k zs)) (fun _ i => n - (intOf i).toNat)
    case atStart => exact ⟨0, by omega, rfl, rfl⟩
    case round =>
      obtain ⟨k, hk, rfl, rfl⟩ := hrel
      have hp := fmtT_size k zs
      obtain ⟨b, hb⟩ : ∃ b, b = fmtT k zs := ⟨_, rfl⟩
      rw [← hb] at hp ⊢
      have HP := Lib.hid hb
      have hle : b.size ≤ 3000 := by omega
      clear hp hb
      by_cases hlt : k < n
      · have hks : decide ((k : Int) < s) = true := by have := HN.out; simp; omega
        cases hc : zs.contains (k : Int)
        · have HC := Lib.hid hc
          clear hc
          go_wp2_with (go_at_call 49; refine (has_any a len cap zs _ _ HI.out (by omega)).mono ?_; rintro e w' ⟨rfl, rfl⟩; rw [show hasB zs (k : Int) = false from HC.out])
          go_round
          case rel => exact ⟨k + 1, by omega, by go_num, by rw [← fmtT_no HC.out, HP.out]⟩
          case measure => simp [intOf]; omega
        · have HC := Lib.hid hc
          clear hc
          go_wp2_with (go_at_call 49; refine (has_any a len cap zs _ _ HI.out (by omega)).mono ?_; rintro e w' ⟨rfl, rfl⟩; rw [show hasB zs (k : Int) = true from HC.out])
          go_round
          case rel => exact ⟨k + 1, by omega, by go_num, by rw [← fmtT_yes HC.out, HP.out]⟩
          case measure => simp [intOf]; omega
      · have hks : decide ((k : Int) < s) = false := by have := HN.out; simp; omega
        have e : k = s.toNat := by have := HN.out; omega
        go_wp2
        go_ret
        exact ⟨ret_str (by rw [HP.out, HE.out, e]), HB.out⟩
  · have HO := Lib.hid ho
    have HE := Lib.hid (fmtB_no ho)
    clear ho
    go_enter Try.func40, Try.ntmps40
    go_wp2_with fail
    refine (ok_no s a len cap zs _ (HS.out.below (bel1 w _)) hl HO.out).mono ?_
    rintro e w1 ⟨rfl, hb⟩
    have HB := Lib.hid ((bel1 w (.cells #[.int .i64 s, .slice a len cap] 27)).trans (hb.mono (by simp)))
    clear hb
    go_wp2
    go_ret
    exact ⟨ret_str HE.out.symm, HB.out⟩
end Go.Proofs.Ytjhmcimbmjilfaa.Rhy
