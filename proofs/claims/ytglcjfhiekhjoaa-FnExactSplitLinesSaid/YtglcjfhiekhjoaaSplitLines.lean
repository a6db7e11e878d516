/-
  'SplitLines' of the program answers, at every string, as its model does, in memory of its own, and leaves its argument as it was. No condition.
-/
import Derived.Test.YtglcjfhiekhjoaaSplit
import Derived.Test.YtglcjfhiekhjoaaMark
import Derived.Test.YtglcjfhiekhjoaaRows
import Derived.WalkKit
import Derived.WalkSpells
import Derived.WalkLawsBesides
import Derived.ProofKit
import Derived.OpenShut
import Derived.ShutString
import Derived.WalkSmall
import Derived.Lib.OthersKept
import Derived.Lib.DecodeN
import Derived.Lib.Hide
namespace Go.Proofs.Ytglcjfhiekhjoaa.fnExactSplitLines
open Go.ChangeShapes Go.WideShapes Go.ChangeAt Go.RowKit
open Go.ChangeMaps (open_string shut_string)
set_option linter.unusedVariables false

theorem own : ownKnob Try.prog.godebug = none := by kernel_rfl

def nl : ByteArray := ⟨#[10]⟩
theorem among_nl (c : UInt8) : among nl c = (c == 10) := by
  unfold among
  rw [show nl.data.toList = [10] from rfl]
  simp [List.contains, List.elem]
  by_cases h : c = 10
  · subst h; rfl
  · rw [beq_eq_false_iff_ne.2 h]
/-- The lines. -/
def lines (s : ByteArray) : List ByteArray := if (cut s (among nl) s.size).2 < s.size then parts s (among nl) else (cut s (among nl) s.size).1

theorem emp (x : ByteArray) : x.toList.isEmpty = decide (x.size = 0) := by
  obtain ⟨⟨l⟩⟩ := x
  rw [ByteArray.toList_mk]
  cases l <;> rfl
theorem extract_empty (s : ByteArray) (fr : Nat) (h : ¬ fr < s.size) : (s.extract fr s.size).toList.isEmpty = true := by
  rw [emp, ByteArray.size_extract]
  simp
  omega
theorem extract_not (s : ByteArray) (fr : Nat) (h : fr < s.size) : (s.extract fr s.size).toList.isEmpty = false := by
  rw [emp, ByteArray.size_extract]
  simp
  omega

theorem model (s : ByteArray) (w : World) (hs : s.size ≤ 1048576) :
    Calls Try.prog 18 #[.string s] w (Parts w.heap.size w (lines s)) := by
  have hlen := cut_len s (among nl) s.size
  obtain ⟨fr, hfr⟩ : ∃ fr, fr = (cut s (among nl) s.size).2 := ⟨_, rfl⟩
  obtain ⟨ls, hls⟩ : ∃ ls, ls = (cut s (among nl) s.size).1 := ⟨_, rfl⟩
  obtain ⟨x, hx⟩ : ∃ x, x = s.extract fr s.size := ⟨_, rfl⟩
  have hp : parts s (among nl) = ls ++ [x] := by rw [hls, hx, hfr]; rfl
  have hln : lines s = if fr < s.size then ls ++ [x] else ls := by rw [← hp, hls, hfr]; rfl
  rw [← hls, ← hfr] at hlen
  have HP := Lib.hid hp
  have HLN := Lib.hid hln
  have HX := Lib.hid hx
  have HLS := Lib.hid hls
  have HFR := Lib.hid hfr
  clear hp hln hls hfr
  go_enter Try.func18, Try.ntmps18
  go_wp2_with fail
  refine (model_split s nl w hs (by decide)).mono ?_
  rintro e w1 ⟨v, rfl, hown, hb⟩
  rw [HP.out] at hown
  have hshape : ∃ g cap, v = .slice (some ⟨g, 0, none⟩) (ls.length + 1) cap := by
    rcases hown.2 with ⟨_, h⟩ | ⟨g, cap, cur, h, _⟩
    · simp at h
    · exact ⟨g, cap, by rw [h]; simp⟩
  obtain ⟨g, cap, rfl⟩ := hshape
  have hcell : w1.cell? ⟨g, ls.length, none⟩ = some (.string x) := by
    rw [show ls.length + 1 = (ls ++ [x]).length by simp] at hown
    rw [hown.cellAt _ (by simp)]
    simp
  have hcap : ls.length + 1 ≤ cap ∧ cap ≤ 9223372036854775807 := by
    rcases hown.2 with ⟨h, _⟩ | ⟨g', cap', cur, h, _, _, hn, hm, _⟩
    · cases h
    · injection h with _ _ hc
      subst hc
      unfold maxLen at hm
      exact ⟨by simpa using hn, by omega⟩
  obtain ⟨hcap1, hcap2⟩ := hcap
  have HO := Lib.hid hown
  have HB := Lib.hid hb
  clear hown hb
  by_cases hlt : fr < s.size
  · have he : x.toList.isEmpty = false := by rw [hx]; exact extract_not s fr hlt
    clear hx
    go_wp2
    go_ret
    refine ⟨_, rfl, ?_, HB.out⟩
    rw [HLN.out, if_pos hlt]
    exact HO.out
  · have he : x.toList.isEmpty = true := by rw [hx]; exact extract_empty s fr hlt
    clear hx
    go_wp2
    go_ret
    refine ⟨_, rfl, ?_, HB.out⟩
    rw [HLN.out, if_neg hlt]
    have h := HO.out
    rw [show (ls ++ [x]).length = ls.length + 1 by simp, List.map_append] at h
    exact ownsRow_pop (by simp) h

/-! ### the runes -/
theorem decodeN_cont (n b0 b1 b2 b3 : Nat) (h : 128 ≤ b0) :
    (Lib.decodeN n b0 b1 b2 b3).2 = 1 ∨ ((Lib.decodeN n b0 b1 b2 b3).2 = 2 ∧ 1 < n ∧ 128 ≤ b1) ∨ ((Lib.decodeN n b0 b1 b2 b3).2 = 3 ∧ 2 < n ∧ 128 ≤ b1 ∧ 128 ≤ b2) ∨ ((Lib.decodeN n b0 b1 b2 b3).2 = 4 ∧ 3 < n ∧ 128 ≤ b1 ∧ 128 ≤ b2 ∧ 128 ≤ b3) := by
  unfold Lib.decodeN
  rw [if_neg (by omega)]
  split
  · split <;> simp <;> omega
  · split
    · split <;> simp <;> omega
    · split
      · split <;> simp <;> omega
      · simp

theorem get_byte (s : ByteArray) (j : Nat) (h : j < s.size) : s.get! j = s.data.toList.getD j 0 := by
  rw [byte_at s j h]
  simp [ByteArray.get!, getElem!_pos, h]
  rfl

theorem high_all (s : ByteArray) (pos : Nat) (h : pos < s.size) (ha : 128 ≤ s[pos].toNat) :
    pos + (Utf8.decode s pos).2 ≤ s.size ∧ ∀ j, pos ≤ j → j < pos + (Utf8.decode s pos).2 → 128 ≤ (s.data.toList.getD j 0).toNat := by
  rw [Lib.decode_at]
  have h0 : s.get! pos = s[pos] := by rw [get_byte s pos h, byte_at s pos h]
  have hc := decodeN_cont (s.size - pos) (s.get! pos).toNat (s.get! (pos + 1)).toNat (s.get! (pos + 2)).toNat (s.get! (pos + 3)).toNat (by rw [h0]; exact ha)
  generalize Lib.decodeN (s.size - pos) (s.get! pos).toNat (s.get! (pos + 1)).toNat (s.get! (pos + 2)).toNat (s.get! (pos + 3)).toNat = d at hc ⊢
  obtain ⟨r, d⟩ := d
  have e0 : 128 ≤ (s.data.toList.getD pos 0).toNat := by rw [byte_at s pos h]; exact ha
  rcases hc with hc | ⟨hc, hn, h1⟩ | ⟨hc, hn, h1, h2⟩ | ⟨hc, hn, h1, h2, h3⟩
  · simp only at hc ⊢
    subst hc
    exact ⟨by omega, fun j h1 h2 => by rw [show j = pos by omega]; exact e0⟩
  · simp only at hc ⊢
    subst hc
    rw [get_byte s _ (by omega)] at h1
    refine ⟨by omega, fun j g1 g2 => ?_⟩
    rcases (by omega : j = pos ∨ j = pos + 1) with rfl | rfl
    · exact e0
    · exact h1
  · simp only at hc ⊢
    subst hc
    rw [get_byte s _ (by omega)] at h1 h2
    refine ⟨by omega, fun j g1 g2 => ?_⟩
    rcases (by omega : j = pos ∨ j = pos + 1 ∨ j = pos + 2) with rfl | rfl | rfl
    · exact e0
    · exact h1
    · exact h2
  · simp only at hc ⊢
    subst hc
    rw [get_byte s _ (by omega)] at h1 h2 h3
    refine ⟨by omega, fun j g1 g2 => ?_⟩
    rcases (by omega : j = pos ∨ j = pos + 1 ∨ j = pos + 2 ∨ j = pos + 3) with rfl | rfl | rfl | rfl
    · exact e0
    · exact h1
    · exact h2
    · exact h3

theorem cut_skip (s : ByteArray) (p : UInt8 → Bool) (k : Nat) : ∀ d, (∀ j, k ≤ j → j < k + d → p (s.data.toList.getD j 0) = false) → cut s p (k + d) = cut s p k
  | 0, _ => rfl
  | d + 1, h => by
    rw [← Nat.add_assoc, cut, if_neg (by rw [h (k + d) (by omega) (by omega)]; simp)]
    exact cut_skip s p k d fun j h1 h2 => h j h1 (by omega)

/-- A rune that is no newline: no part ends in it. -/
theorem rune_skip (s : ByteArray) (pos : Nat) (h : pos < s.size) (hr : (Utf8.decode s pos).1 ≠ 10) :
    cut s (among nl) (pos + (Utf8.decode s pos).2) = cut s (among nl) pos ∧ pos + (Utf8.decode s pos).2 ≤ s.size ∧ 1 ≤ (Utf8.decode s pos).2 := by
  by_cases ha : s[pos].toNat < 128
  · have hd := decode_ascii s pos h ha
    rw [hd] at hr ⊢
    refine ⟨cut_miss s (among nl) pos h ?_, h, Nat.le_refl _⟩
    rw [among_nl, beq_eq_false_iff_ne]
    intro e
    exact hr (by rw [e]; rfl)
  · obtain ⟨h1, h2⟩ := high_all s pos h (by omega)
    refine ⟨cut_skip s (among nl) pos _ fun j g1 g2 => ?_, h1, (decode_high s pos h (by omega)).2⟩
    have := h2 j g1 g2
    rw [among_nl, beq_eq_false_iff_ne]
    intro e
    rw [e] at this
    exact absurd this (by decide)
/-- A newline: a part ends there. -/
theorem rune_hit (s : ByteArray) (pos : Nat) (h : pos < s.size) (hr : (Utf8.decode s pos).1 = 10) :
    (Utf8.decode s pos).2 = 1 ∧ cut s (among nl) (pos + 1) = ((cut s (among nl) pos).1 ++ [s.extract (cut s (among nl) pos).2 pos], pos + 1) := by
  by_cases ha : s[pos].toNat < 128
  · have hd := decode_ascii s pos h ha
    rw [hd] at hr ⊢
    refine ⟨rfl, cut_hit s (among nl) pos h ?_⟩
    rw [among_nl, beq_iff_eq]
    exact UInt8.toNat_inj.1 hr
  · have := (decode_high s pos h (by omega)).1
    omega

theorem next_step {w : World} {k : Nat} {s : ByteArray} {pos : Nat} {v : Value} {n : Nat} {xs : List Value} (hk : w.heap[k]? = some (.stringIter s pos)) (h : pos < s.size) (ho : w.ownsRow (k + 1) 9 1 v n xs) :
    ∃ w2, (∀ ty, (Instr.next (.pointer (some ⟨k, 0, none⟩)) true ty).run Try.prog w = .ok (.tuple #[.bool true, .int .i64 pos, .int .i32 (Utf8.decode s pos).1]) w2) ∧
      w2.heap[k]? = some (.stringIter s (pos + (Utf8.decode s pos).2)) ∧ Below k w w2 ∧ w2.ownsRow (k + 1) 9 1 v n xs ∧ w2.heap.size = w.heap.size :=
  ⟨w.iterAt k s (pos + (Utf8.decode s pos).2), fun ty => Lib.run_next_any_at w k s pos ty hk h, Lib.iterAt_heap w k s pos _ hk, Lib.below_iterAt (Below.refl _ _) (Nat.le_refl _) s _, ownsRow_iterAt ho (Nat.lt_succ_self k) s _, Lib.iterAt_size w k s _⟩

theorem own_base {w : World} {B B' : Nat} {e : TypeId} {size : Nat} {v : Value} {n : Nat} {xs : List Value} (h : w.ownsRow B e size v n xs) (hB : B' ≤ B) : w.ownsRow B' e size v n xs := by
  obtain ⟨h1, h2 | ⟨g, cap, cur, hv, hb, rest⟩⟩ := h
  · exact ⟨h1, .inl h2⟩
  · exact ⟨h1, .inr ⟨g, cap, cur, hv, by omega, rest⟩⟩

set_option maxHeartbeats 400000 in
theorem program (s : ByteArray) (w : World) (hs : s.size ≤ 1048576) :
    Calls Try.prog 19 #[.string s] w (Parts w.heap.size w (lines s)) := by
  obtain ⟨k, hk⟩ : ∃ k, k = w.heap.size := ⟨_, rfl⟩
  go_enter Try.func19, Try.ntmps19
  go_wp2
  rw [← hk]
  have HK := Lib.hid hk
  have h0 : (w.iter s 0).heap[k]? = some (.stringIter s 0) := by rw [hk]; exact World.iter_heap w s 0
  have b0 : Below k w (w.iter s 0) := by rw [hk]; exact (Below.refl _ w).alloc (Nat.le_refl _) _
  have z0 : k + 1 ≤ (w.iter s 0).heap.size := by rw [hk]; show w.heap.size + 1 ≤ (w.heap.push _).size; simp
  have H0 := Lib.hid (And.intro h0 (And.intro b0 z0))
  clear h0 b0 z0 hk
  go_loopw [3, 4, 5, 6] (fun v f _ _ wr => ∃ pos : Nat, pos ≤ s.size ∧ wr.heap[k]? = some (.stringIter s pos) ∧ f = .int .i64 (cut s (among nl) pos).2 ∧ wr.ownsRow (k + 1) 9 1 v (cut s (among nl) pos).1.length ((cut s (among nl) pos).1.map Value.string) ∧ Below k w wr ∧ k + 1 ≤ wr.heap.size) (fun _ _ _ _ wr => s.size - wr.iterPos k)
  case atStart => exact ⟨0, by omega, H0.out.1, rfl, World.ownsRow_nil _ _ _ _, H0.out.2.1, H0.out.2.2⟩
  case round =>
    obtain ⟨pos, hp, hI, rfl, hown, hnx, hsz⟩ := hrel
    have hcl := cut_len s (among nl) pos
    obtain ⟨fr, hfr⟩ : ∃ fr, fr = (cut s (among nl) pos).2 := ⟨_, rfl⟩
    obtain ⟨ls, hls⟩ : ∃ ls, ls = (cut s (among nl) pos).1 := ⟨_, rfl⟩
    rw [← hfr, ← hls] at hcl
    rw [← hls] at hown
    rw [← hfr]
    have HF := Lib.hid hfr
    have HL := Lib.hid hls
    clear hfr hls
    obtain ⟨hc1, hc2⟩ := hcl
    have ip : wr.iterPos k = pos := iterPos_of hI
    by_cases hlt : pos < s.size
    · obtain ⟨w2, hnext, hI2, hb2, hown2, hz2⟩ := next_step hI hlt hown
      have HI2 := Lib.hid hI2
      have HO2 := Lib.hid hown2
      have HB2 := Lib.hid (hnx.trans hb2)
      have HZ2 : Hid (k + 1 ≤ w2.heap.size) := Lib.hid (by omega)
      have HIP := Lib.hid ip
      clear hI hown hnx hI2 hb2 hown2 hz2 ip
      by_cases hr : (Utf8.decode s pos).1 = 10
      · obtain ⟨e1, e2⟩ := rune_hit s pos hlt hr
        rw [← HF.out, ← HL.out] at e2
        have hq : (((Utf8.decode s pos).1 : Int) == 10) = true := by rw [hr]; rfl
        have HE1 := Lib.hid e1
        have HE2 := Lib.hid e2
        clear hr e1 e2
        go_wp2_with (at_builtin; refine append_str rfl _ _ rfl (k + 1) _ ls _ _ HO2.out (by omega) HZ2.out _ rfl rfl rfl ?_; intro v' w' hown' hb')
        have HO3 := Lib.hid hown'
        have HB3 := Lib.hid hb'
        clear hown' hb'
        go_roundw
        case rel =>
          have hi3 : w'.heap[k]? = some (.stringIter s (pos + 1)) := by rw [HB3.out.block k (by omega), HI2.out, HE1.out]
          exact ⟨pos + 1, by omega, hi3, by rw [HE2.out]; go_num, by rw [HE2.out]; exact HO3.out, HB2.out.trans (HB3.out.mono (by omega)), Nat.le_trans HZ2.out HB3.out.size⟩
        case measure =>
          have hi3 : w'.iterPos k = pos + 1 := iterPos_of (by rw [HB3.out.block k (by omega), HI2.out, HE1.out])
          rw [hi3, HIP.out]
          omega
      · obtain ⟨e1, e2, e3⟩ := rune_skip s pos hlt hr
        have hq : (((Utf8.decode s pos).1 : Int) == 10) = false := by simp; omega
        have HE1 := Lib.hid e1
        have HE2 := Lib.hid e2
        have HE3 := Lib.hid e3
        clear hr e1 e2 e3
        go_wp2
        go_roundw
        case rel => exact ⟨_, HE2.out, HI2.out, by rw [HE1.out, ← HF.out], by rw [HE1.out, ← HL.out]; exact HO2.out, HB2.out, HZ2.out⟩
        case measure =>
          rw [iterPos_of HI2.out, HIP.out]
          have := HE3.out
          omega
    · have hnext : ∀ ty, (Instr.next (.pointer (some ⟨k, 0, none⟩)) true ty).run Try.prog wr = _ := fun ty => Lib.run_next_end_at wr k s pos ty hI hlt
      have e : pos = s.size := by omega
      have HO := Lib.hid hown
      have HX := Lib.hid hnx
      have HZ := Lib.hid hsz
      clear hI hown hnx hsz ip
      subst e
      by_cases hfl : fr < s.size
      · have HLN : Hid (lines s = ls ++ [s.extract fr s.size]) := Lib.hid (by unfold lines; rw [if_pos (by rw [← HF.out]; exact hfl), HL.out, HF.out]; rfl)
        go_wp2_with (at_builtin; refine append_str rfl _ _ rfl (k + 1) _ ls _ _ HO.out (by omega) HZ.out _ rfl rfl rfl ?_; intro v' w' hown' hb')
        have HO3 := Lib.hid hown'
        have HB3 := Lib.hid hb'
        clear hown' hb'
        go_ret
        rw [HLN.out, ← HK.out]
        exact ⟨_, rfl, own_base HO3.out (by omega), HX.out.trans (HB3.out.mono (by omega))⟩
      · have HLN : Hid (lines s = ls) := Lib.hid (by unfold lines; rw [if_neg (by rw [← HF.out]; exact hfl), HL.out])
        go_wp2
        go_ret
        rw [HLN.out, ← HK.out]
        exact ⟨_, rfl, own_base HO.out (by omega), HX.out⟩
theorem lines_len (s : ByteArray) : (lines s).length ≤ s.size + 1 := by
  have h1 := parts_len s (among nl)
  have h2 := (cut_len s (among nl) s.size).1
  unfold lines
  split <;> omega

theorem walk (a0 : ByteArray) (w0 : a0.size ≤ maxLen) (w : World) :
    Calls Try.prog 6 #[.string a0] w fun e w' => e = .returned (.bool true) ∧ Below w.heap.size w w' := by
  have hw := w0
  unfold maxLen at hw
  by_cases hl : 1048576 < a0.size
  · go_enter Try.func6, Try.ntmps6
    go_wp2
    go_ret
    exact ⟨rfl, Below.refl _ _⟩
  · have hs : a0.size ≤ 1048576 := by omega
    obtain ⟨l, hll⟩ : ∃ l, l = lines a0 := ⟨_, rfl⟩
    have hn : l.length ≤ 1073741000 := by have := lines_len a0; rw [hll]; omega
    have model := model a0 w hs
    have program := fun w => program a0 w hs
    rw [← hll] at model program
    have MODEL := Lib.hid model
    have PROGRAM := Lib.hid program
    clear model program hll
    go_enter Try.func6, Try.ntmps6
    go_wp2_with fail
    refine MODEL.out.mono ?_
    rintro e w1 ⟨v0, rfl, ho0, hb1⟩
    have HO0 := Lib.hid ho0
    have HB1 := Lib.hid hb1
    clear ho0 hb1
    go_wp2_with fail
    refine (PROGRAM.out w1).mono ?_
    rintro e w2 ⟨v1, rfl, ho1, hb2⟩
    have HO1 := Lib.hid ho1
    have C2 := Lib.hid hb2
    clear ho1 hb2
    go_wp2_with fail
    refine (eq_same _ _ v1 v0 _ l w2 HO1.out (own_below HO0.out C2.out) (by omega)).mono ?_
    rintro e w3 ⟨rfl, hb3⟩
    have HO3 := Lib.hid (own_below HO1.out hb3)
    have C3 := Lib.hid (C2.out.trans (hb3.mono C2.out.size))
    clear hb3
    go_wp2_with fail
    refine (mark_row _ v1 _ l w3 HO3.out hn).mono ?_
    rintro e w4 ⟨rfl, hm4, hb4⟩
    have HM4 := Lib.hid hm4
    have C4 := Lib.hid (C3.out.trans hb4)
    clear hm4 hb4
    go_wp2_with fail
    refine (held_marks _ v1 _ w4 HM4.out hn).mono ?_
    rintro e w5 ⟨rfl, hb5⟩
    have HM5 := Lib.hid (own_below HM4.out hb5)
    have C5 := Lib.hid (C4.out.trans (hb5.mono C4.out.size))
    clear hb5
    go_wp2_with fail
    refine (PROGRAM.out w5).mono ?_
    rintro e w6 ⟨v2, rfl, ho2, hb6⟩
    have HO2 := Lib.hid ho2
    have HM6 := Lib.hid (own_below HM5.out hb6)
    have C6 := Lib.hid (C5.out.trans (hb6.mono C5.out.size))
    clear ho2 hb6
    go_wp2_with fail
    refine (eq_same _ _ v2 v0 _ l w6 HO2.out (own_below HO0.out C6.out) (by omega)).mono ?_
    rintro e w7 ⟨rfl, hb7⟩
    have HM7 := Lib.hid (own_below HM6.out hb7)
    have C7 := Lib.hid (C6.out.trans (hb7.mono C6.out.size))
    clear hb7
    go_wp2_with fail
    refine (held_marks _ v1 _ w7 HM7.out hn).mono ?_
    rintro e w8 ⟨rfl, hb8⟩
    have C8 := Lib.hid (C7.out.trans (hb8.mono C7.out.size))
    clear hb8
    go_wp2
    go_ret
    exact ⟨rfl, HB1.out.trans (C8.out.mono HB1.out.size)⟩

set_option maxRecDepth 100000 in
theorem lifted (os : Os) (started : os.Started) (H : Type) (enc : TypeId × Value → H) :
    ReturnsInHanded {} Try.checked os 6 .any (Rows.fnExactSplitLinesSpec.pre6 enc Try.prog Try.f6 Rows.fnExactSplitLinesRow.domain false) (Rows.fnExactSplitLinesSpec.post enc Try.prog Try.f6 false true false false) := by
  refine returnsInHanded_of_change (C := Try.checked) own started (by kernel_rfl) Try.func6
    (ChangeSpec.witness6 (enc := enc) (C := Try.checked) false ⟨#[], #[.string ByteArray.empty], []⟩ 8 (by kernel_rfl) (by kernel_rfl) (by kernel_rfl) (by kernel_rfl)) ?_
  intro W base args ds gs before hval0 hW hcnd _
  have hval : ∀ (j : Nat) t v, Try.f6.params[j]? = some t → args[j]? = some v → Value.okWide Try.prog W .any base t v := hval0
  have hW' := hW
  obtain ⟨p, q, hA0, hV, rfl, hfz, hnd⟩ := hW
  have hA : DataW.TrodAll enc Try.prog W 0 (fun _ => true) true Try.f6.params.toList args.toList ds p := hA0
  rw [Try.params6] at hA hval
  obtain ⟨v0, vs0, d0, ds0, p0, q0, hargs, rfl, rfl, h0, r0⟩ := trodAll_cons hA
  obtain ⟨rfl, rfl, rfl⟩ := trodAll_nil r0
  obtain rfl : args = #[v0] := by cases args; simp_all
  obtain ⟨rfl, rfl⟩ := trodVars_none hV
  obtain ⟨a0, rfl, rfl, rfl, w0⟩ := open_string Try.underlying9 (hval 0 9 v0 rfl rfl) h0
  clear hA0 hval0
  simp only [List.append_nil] at hW'
  refine (walk a0 w0 W).mono fun e W' ⟨he, bel⟩ => ?_
  subst he
  exact ⟨_, rfl, _, _, _, [], [], [], hW', trodAll_mk1 (shut_bool Try.underlying4 _), (trodAll_cons_mk (shut_string Try.underlying9 w0) trodAll_mk0), rfl, bel.frame _, fun h => by cases h⟩

theorem proved : Rows.FnExactSplitLinesSaid :=
  OpenClaim.holds_of_wide 6 Try.f6 rfl rfl rfl rfl rfl rfl rfl ⟨rfl, rfl, rfl, rfl, rfl⟩ rfl rfl rfl rfl rfl (by kernel_rfl) Try.func6 (by kernel_rfl)
    (of_decide_eq_true (by kernel_rfl)) (by unfold Func.isWrapper; rw [if_neg (of_decide_eq_false (by kernel_rfl))]; exact ⟨rfl, rfl⟩)
    (fun os started H enc _ => lifted os started H enc)
#print axioms proved
end Go.Proofs.Ytglcjfhiekhjoaa.fnExactSplitLines
