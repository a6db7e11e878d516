/-
  Helpers of the claims beside this text: what SplitAny of the model answers.
-/
import Derived.Test.YtglcjfhiekhjoaaMark
import Derived.Test.YtglcjfhiekhjoaaRows
import Derived.WalkKit
import Derived.WalkSpells
import Derived.WalkLawsBesides
import Derived.Deep.QuietTactic
import Derived.BigQuiet
import Derived.Lib.Hide
namespace Go.Proofs.Ytglcjfhiekhjoaa
open Go.RowKit

theorem info9 : (Try.prog.info? 9).map (fun i => (i.zero, i.size, i.bytes)) = some (some (.string ByteArray.empty), 1, 16) := by kernel_rfl

/-- The parts that end ahead of byte k, and where the next one begins. -/
def cut (s : ByteArray) (p : UInt8 → Bool) : Nat → List ByteArray × Nat
  | 0 => ([], 0)
  | k + 1 => if p (s.data.toList.getD k 0) then ((cut s p k).1 ++ [s.extract (cut s p k).2 k], k + 1) else cut s p k
/-- All parts. -/
def parts (s : ByteArray) (p : UInt8 → Bool) : List ByteArray := (cut s p s.size).1 ++ [s.extract (cut s p s.size).2 s.size]

theorem byte_at (s : ByteArray) (k : Nat) (h : k < s.size) : s.data.toList.getD k 0 = s[k] := by
  rw [List.getD, List.getElem?_eq_getElem (by exact h)]
  rfl
theorem cut_hit (s : ByteArray) (p : UInt8 → Bool) (k : Nat) (h : k < s.size) (hp : p s[k] = true) : cut s p (k + 1) = ((cut s p k).1 ++ [s.extract (cut s p k).2 k], k + 1) := by
  rw [cut, byte_at s k h, if_pos hp]
theorem cut_miss (s : ByteArray) (p : UInt8 → Bool) (k : Nat) (h : k < s.size) (hp : p s[k] = false) : cut s p (k + 1) = cut s p k := by
  rw [cut, byte_at s k h, if_neg (by rw [hp]; simp)]
theorem cut_len (s : ByteArray) (p : UInt8 → Bool) : ∀ k, (cut s p k).1.length ≤ k ∧ (cut s p k).2 ≤ k
  | 0 => by simp [cut]
  | k + 1 => by
    have ih := cut_len s p k
    rw [cut]
    split
    · simp; omega
    · omega
theorem parts_len (s : ByteArray) (p : UInt8 → Bool) : (parts s p).length ≤ s.size + 1 := by
  have := cut_len s p s.size
  simp [parts]
  omega

/-- Is the byte one of those? -/
def among (b : ByteArray) (c : UInt8) : Bool := b.data.toList.contains c
theorem among_yes (b : ByteArray) (c : UInt8) (k : Nat) (h : k < b.size) (e : b[k] = c) : among b c = true := by
  unfold among
  rw [List.contains_iff_mem]
  rw [← e]
  exact List.getElem_mem _
theorem among_no (b : ByteArray) (c : UInt8) (h : ∀ k (h : k < b.size), b[k] ≠ c) : among b c = false := by
  unfold among
  rw [Bool.eq_false_iff]
  intro hc
  rw [List.contains_iff_mem] at hc
  obtain ⟨k, hk, e⟩ := List.mem_iff_getElem.1 hc
  exact h k hk e

def NotYet (b : ByteArray) (c : UInt8) (k : Nat) : Prop := ∀ j (h : j < b.size), j < k → b[j] ≠ c

def Parts (B : Nat) (w : World) (l : List ByteArray) (e : Ending) (w' : World) : Prop :=
  ∃ v : Value, e = .returned v ∧ w'.ownsRow B 9 1 v l.length (l.map Value.string) ∧ Below B w w'

theorem own_drewN {w : World} {B : Nat} {e : TypeId} {size : Nat} {v : Value} {n : Nat} {xs : List Value} (h : w.ownsRow B e size v n xs) (k : Nat) : (w.drewN k).ownsRow B e size v n xs :=
  own_below h (below_drewN (Below.refl _ _) k)

/-- 'out = append(out, t)' at a slice of strings of the call's own. -/
theorem append_str {ops : Array Oper} {rest : List Oper} {o : Oper} {a : Act} {Q : Exit → Act → World → Prop} (hgd : o.guard = none) (x y : Operand)
    (ho : o.op = .call { callee := .builtin .append, args := #[x, y], argTypes := #[23, 23] })
    (B : Nat) (v : Value) (l : List ByteArray) (t : ByteArray) (w0 : World) (hown : w0.ownsRow B 9 1 v l.length (l.map Value.string)) (hl : l.length ≤ 1048577) (hB : B ≤ w0.heap.size) (N : Nat) (hN : N = w0.heap.size)
    (hs : a.eval x = v) (hx : a.eval y = .slice (some ⟨N, 0, none⟩) 1 1)
    (h : ∀ v' w', w'.ownsRow B 9 1 v' (l ++ [t]).length ((l ++ [t]).map Value.string) → Below B w0 w' → wpList Try.prog ops Q rest (a.put o.dst v') w') :
    wpList Try.prog ops Q (o :: rest) a (w0.alloc (.cells #[.string t] 9)) := by
  obtain ⟨i0, hi, hz0, hz1, hz2⟩ := info_parts info9
  subst hN
  refine wpList_append_own _ hgd x y 23 ho B 9 i0 (.string ByteArray.empty) 1 16 Try.underlying23 hi hz0 hz1 hz2 rfl (by decide) v l.length (l.map Value.string) hs (hown.alloc _) ⟨w0.heap.size, 0, none⟩ 1 1 [.string t] hx rfl (cell_one_new _ _ _) ?_ ?_ ?_ ?_ ?_
  · intro u hu
    simp at hu
    subst hu
    rfl
  · unfold maxLen; omega
  · omega
  · exact Nat.le_trans hB (by show w0.heap.size ≤ (w0.heap.push _).size; simp)
  · intro v' w' ho' hg _
    refine h v' w' (by simpa using ho') ?_
    refine (((Below.refl B w0).alloc hB _).grown hg (Nat.le_trans hB (by show w0.heap.size ≤ (w0.heap.push _).size; simp)) fun k hk => (hown.lt k hk).1)

set_option maxHeartbeats 400000 in
theorem model_split (s b : ByteArray) (w : World) (hs : s.size ≤ 1048576) (hb : b.size ≤ 1048576) :
    Calls Try.prog 13 #[.string s, .string b] w (Parts w.heap.size w (parts s (among b))) := by
  obtain ⟨i0, hi, hz0, hz1, hz2⟩ := info_parts info9
  have HI := Lib.hid (show _ ∧ _ ∧ _ ∧ _ from ⟨hi, hz0, hz1, hz2⟩)
  clear hi hz0 hz1 hz2
  obtain ⟨B, hB⟩ : ∃ B, B = w.heap.size := ⟨_, rfl⟩
  rw [← hB]
  have HB := Lib.hid hB
  clear hB
  go_enter Try.func13, Try.ntmps13
  go_wp2
  go_loopw [5, 6, 7] (fun v f i wr => ∃ k : Nat, k ≤ s.size ∧ i = .int .i64 k ∧ f = .int .i64 (cut s (among b) k).2 ∧ wr.ownsRow B 9 1 v (cut s (among b) k).1.length ((cut s (among b) k).1.map Value.string) ∧ Below B w wr) (fun _ _ i _ => s.size - (intOf i).toNat)
  case atStart => exact ⟨0, by omega, rfl, rfl, World.ownsRow_made w #[] 0 (by rw [HB.out]; exact Nat.le_refl _) (by unfold maxLen; omega) rfl, (Below.refl B w).alloc (by rw [HB.out]; exact Nat.le_refl _) _⟩
  case round =>
    obtain ⟨k, hk, rfl, rfl, hown, hnx⟩ := hrel
    have HO := Lib.hid hown
    have HX := Lib.hid hnx
    clear hown hnx
    have hcl := cut_len s (among b) k
    obtain ⟨fr, hfr⟩ : ∃ fr, fr = (cut s (among b) k).2 := ⟨_, rfl⟩
    obtain ⟨ls, hls⟩ : ∃ ls, ls = (cut s (among b) k).1 := ⟨_, rfl⟩
    rw [← hfr, ← hls] at hcl
    rw [← hls] at HO
    rw [← hfr]
    have HF := Lib.hid hfr
    have HL := Lib.hid hls
    clear hfr hls
    obtain ⟨hc1, hc2⟩ := hcl
    by_cases hlt : k < s.size
    · go_wp2
      go_loopw [5, 6, 8] (fun v' f' j wi => ∃ j0 : Nat, j0 ≤ b.size ∧ j = .int .i64 j0 ∧ v' = u5 ∧ f' = .int .i64 fr ∧ wi.ownsRow B 9 1 u5 ls.length (ls.map Value.string) ∧ Below B w wi ∧ NotYet b s[k] j0) (fun _ _ j _ => b.size - (intOf j).toNat)
      case atStart => exact ⟨0, by omega, rfl, rfl, rfl, HO.out, HX.out, fun j _ h => by omega⟩
      case round =>
        obtain ⟨j, hj, rfl, rfl, rfl, hown, hnx, hny⟩ := hrel
        have HO1 := Lib.hid hown
        have HX1 := Lib.hid hnx
        have HN := Lib.hid hny
        clear hown hnx hny
        by_cases hjl : j < b.size
        · by_cases heq : b[j] = s[k]
          · have hq : ((s[k].toNat : Int) == (b[j].toNat : Int)) = true := by simp [heq]
            have HQ := Lib.hid heq
            clear heq
            go_wp2
            go_quiet (fail)
            have hm := cut_hit s (among b) k hlt (among_yes b _ j hjl HQ.out)
            rw [← HF.out, ← HL.out] at hm
            have HM := Lib.hid hm
            clear hm
            have hBs := HX1.out.size
            go_wp2_with (at_builtin; refine append_str rfl _ _ rfl B _ ls _ _ (own_drewN HO1.out _) (by omega) (by rw [HB.out]; exact hBs) _ rfl rfl rfl ?_; intro v' w' hown' hb')
            have HO2 := Lib.hid hown'
            have HX2 := Lib.hid hb'
            clear hown' hb'
            go_roundw
            case rel => exact ⟨k + 1, by omega, by go_num, by rw [HM.out]; go_num, by rw [HM.out]; exact HO2.out, (below_drewN HX1.out _).trans HX2.out⟩
            case measure => simp [intOf]; omega
          · have hq : ((s[k].toNat : Int) == (b[j].toNat : Int)) = false := by
              simp
              intro h
              exact heq (UInt8.toNat_inj.1 (by omega))
            have HQ := Lib.hid heq
            clear heq
            go_wp2
            go_quiet (fail)
            go_wp2
            go_roundw
            case rel => exact ⟨j + 1, by omega, by go_num, rfl, rfl, HO1.out, below_drewN HX1.out _, fun i hi h => by
              by_cases e : i = j
              · subst e; exact HQ.out
              · exact HN.out i hi (by omega)⟩
            case measure => simp [intOf]; omega
        · have hm := cut_miss s (among b) k hlt (among_no b _ (fun i hi => HN.out i hi (by omega)))
          have HM := Lib.hid hm
          clear hm
          go_wp2
          go_roundw
          case rel => exact ⟨k + 1, by omega, by go_num, by rw [HM.out, ← HF.out], by rw [HM.out, ← HL.out]; exact HO1.out, HX1.out⟩
          case measure => simp [intOf]; omega
    · have e : k = s.size := by omega
      have HP : Hid (parts s (among b) = ls ++ [s.extract fr s.size]) := Lib.hid (by rw [HL.out, HF.out, e]; rfl)
      have hBs := HX.out.size
      subst e
      go_wp2_with (at_builtin; refine append_str rfl _ _ rfl B _ ls _ _ HO.out (by omega) (by rw [HB.out]; exact hBs) _ rfl rfl rfl ?_; intro v' w' hown' hb')
      have HO2 := Lib.hid hown'
      have HX2 := Lib.hid hb'
      clear hown' hb'
      go_ret
      exact ⟨_, rfl, by rw [HP.out]; exact HO2.out, HX.out.trans HX2.out⟩
end Go.Proofs.Ytglcjfhiekhjoaa
