/-
  'IsDigits' of the program answers, at every string, as its model does, and leaves its argument as it was. No condition.
-/
import Derived.Test.YtglcjfhiekhjoaaRows
import Derived.WalkKit
import Derived.WalkSpells
import Derived.ProofKit
import Derived.OpenShut
import Derived.ShutString
import Derived.Lib.Hide
namespace Go.Proofs.Ytglcjfhiekhjoaa.fnExactIsDigits
open Go.ChangeShapes Go.WideShapes Go.ChangeAt Go.RowKit
open Go.ChangeMaps (open_string shut_string)
set_option linter.unusedVariables false

theorem own : ownKnob Try.prog.godebug = none := by kernel_rfl

def AllDig (s : ByteArray) (k : Nat) : Prop := ∀ i (h : i < s.size), i < k → 48 ≤ (s[i].toNat : Int) ∧ (s[i].toNat : Int) ≤ 57
noncomputable def digB (s : ByteArray) : Bool := @decide (0 < s.size ∧ AllDig s s.size) (Classical.propDecidable _)

theorem ret_bool {a b : Bool} (h : a = b) : Ending.returned (.bool a) = .returned (.bool b) := by rw [h]
theorem digB_no (s : ByteArray) (k : Nat) (h : k < s.size) (hk : ¬ (48 ≤ (s[k].toNat : Int) ∧ (s[k].toNat : Int) ≤ 57)) : digB s = false := by
  unfold digB
  rw [decide_eq_false_iff_not]
  rintro ⟨_, ha⟩
  exact hk (ha k h h)
theorem digB_end (s : ByteArray) (ha : AllDig s s.size) : decide (0 < s.size) = digB s := by
  unfold digB
  rw [Bool.eq_iff_iff]
  simp [ha]
theorem digB_end' (s : ByteArray) (ha : AllDig s s.size) : (!s.toList.isEmpty) = digB s := by
  rw [← digB_end s ha, Bool.eq_iff_iff]
  rw [ByteArray.toList_eq]
  obtain ⟨⟨l⟩⟩ := s
  cases l <;> simp [ByteArray.size]
theorem allDig_snoc (s : ByteArray) (k : Nat) (h : k < s.size) (ha : AllDig s k) (h1 : 48 ≤ (s[k].toNat : Int)) (h2 : (s[k].toNat : Int) ≤ 57) : AllDig s (k + 1) := by
  intro i hi hk
  by_cases e : i = k
  · subst e; exact ⟨h1, h2⟩
  · exact ha i hi (by omega)

theorem model (s : ByteArray) (w : World) (hs : s.size ≤ maxLen) :
    Calls Try.prog 9 #[.string s] w fun e w' => e = .returned (.bool (digB s)) ∧ w = w' := by
  unfold maxLen at hs
  go_enter Try.func9, Try.ntmps9
  go_wp2
  go_loop [3] (fun i => ∃ k : Nat, k ≤ s.size ∧ i = .int .i64 k ∧ AllDig s k) (fun i => s.size - (intOf i).toNat)
  case atStart => exact ⟨0, Nat.zero_le _, rfl, fun i _ h => by omega⟩
  case round =>
    obtain ⟨k, hk, rfl, ha⟩ := hrel
    have HA : Hid (AllDig s k) := Lib.hid ha
    clear ha
    by_cases hlt : k < s.size
    · by_cases hd : 48 ≤ (s[k].toNat : Int) ∧ (s[k].toNat : Int) ≤ 57
      · obtain ⟨h1, h2⟩ := hd
        go_wp2
        go_round
        case rel => exact ⟨k + 1, by omega, by go_num, allDig_snoc s k hlt HA.out h1 h2⟩
        case measure => simp [intOf]; omega
      · have hb := digB_no s k hlt hd
        have HB : Hid (digB s = false) := Lib.hid hb
        clear hb
        by_cases h1 : 48 ≤ (s[k].toNat : Int)
        · have h2 : 57 < (s[k].toNat : Int) := by omega
          clear hd
          go_wp2
          go_ret
          exact ⟨ret_bool HB.out.symm, rfl⟩
        · clear hd
          go_wp2
          go_ret
          exact ⟨ret_bool HB.out.symm, rfl⟩
    · go_wp2
      go_ret
      have e : k = s.size := by omega
      subst e
      exact ⟨ret_bool (digB_end s HA.out), rfl⟩

theorem digit_yes (r : Int) (w : World) (h1 : 48 ≤ r) (h2 : r ≤ 57) :
    Calls Try.prog 26 #[.int .i32 r] w fun e w' => e = .returned (.bool true) ∧ w = w' := by
  go_enter Try.func26, Try.ntmps26
  go_wp2
  go_ret
  exact ⟨rfl, rfl⟩
theorem digit_no (r : Int) (w : World) (h : r < 48 ∨ 57 < r) :
    Calls Try.prog 26 #[.int .i32 r] w fun e w' => e = .returned (.bool false) ∧ w = w' := by
  by_cases h1 : 48 ≤ r
  · have h2 : decide (r ≤ 57) = false := by simp; omega
    clear h
    go_enter Try.func26, Try.ntmps26
    go_wp2
    go_ret
    exact ⟨rfl, rfl⟩
  · clear h
    go_enter Try.func26, Try.ntmps26
    go_wp2
    go_ret
    exact ⟨rfl, rfl⟩

theorem high (s : ByteArray) (pos : Nat) (h : pos < s.size) (hd : ¬ (48 ≤ (s[pos].toNat : Int) ∧ (s[pos].toNat : Int) ≤ 57)) :
    ((Utf8.decode s pos).1 : Int) < 48 ∨ 57 < ((Utf8.decode s pos).1 : Int) := by
  by_cases ha : (s[pos]'h).toNat < 128
  · rw [decode_ascii s pos h ha]
    simp only
    omega
  · have := (decode_high s pos h (by omega)).1
    omega
theorem low (s : ByteArray) (pos : Nat) (h : pos < s.size) (h1 : 48 ≤ (s[pos].toNat : Int)) (h2 : (s[pos].toNat : Int) ≤ 57) :
    Utf8.decode s pos = (s[pos].toNat, 1) := decode_ascii s pos h (by omega)

def Iter (s : ByteArray) (w w' : World) : Prop := ∃ pos, w' = w.iter s pos

set_option maxRecDepth 100000 in
theorem program (s : ByteArray) (w : World) :
    Calls Try.prog 10 #[.string s] w fun e w' => e = .returned (.bool (digB s)) ∧ Iter s w w' := by
  go_enter Try.func10, Try.ntmps10
  go_wp2
  go_loopw [4] (fun c w' => ∃ pos : Nat, w' = w.iter s pos ∧ pos ≤ s.size ∧ AllDig s pos) (fun _ w' => s.size - w'.iterPos w.heap.size)
  case atStart => exact ⟨0, rfl, Nat.zero_le _, fun i _ h => by omega⟩
  case round =>
    obtain ⟨pos, rfl, hp, ha⟩ := hrel
    have HA : Hid (AllDig s pos) := Lib.hid ha
    clear ha
    by_cases hlt : pos < s.size
    · have hnx : ∀ ty, (Instr.next (.pointer (some ⟨w.heap.size, 0, none⟩)) true ty).run Try.prog (w.iter s pos) = _ := fun ty => run_next_any w s pos ty hlt
      by_cases hd : 48 ≤ (s[pos].toNat : Int) ∧ (s[pos].toNat : Int) ≤ 57
      · obtain ⟨h1, h2⟩ := hd
        rw [low s pos hlt h1 h2] at hnx
        go_wp2_with (go_at_call 26; refine (digit_yes _ _ h1 h2).mono ?_; rintro e w' ⟨rfl, rfl⟩)
        go_roundw
        case rel => exact ⟨pos + 1, rfl, by omega, allDig_snoc s pos hlt HA.out h1 h2⟩
        case measure => simp; omega
      · have hh := high s pos hlt hd
        have hb := digB_no s pos hlt hd
        have HB : Hid (digB s = false) := Lib.hid hb
        clear hb hd
        go_wp2_with (go_at_call 26; refine (digit_no _ _ hh).mono ?_; rintro e w' ⟨rfl, rfl⟩)
        go_ret
        exact ⟨ret_bool HB.out.symm, _, rfl⟩
    · have hnx : ∀ ty, (Instr.next (.pointer (some ⟨w.heap.size, 0, none⟩)) true ty).run Try.prog (w.iter s pos) = _ := fun ty => run_next_end w s pos ty hlt
      have e : pos = s.size := by omega
      subst e
      go_wp2
      go_ret
      exact ⟨ret_bool (digB_end' s HA.out), _, rfl⟩


theorem below_iter {s : ByteArray} {w w' : World} (h : Iter s w w') : Below w.heap.size w w' := by
  obtain ⟨pos, rfl⟩ := h
  exact (Below.refl _ _).alloc (Nat.le_refl _) _

theorem walk (a0 : ByteArray) (w0 : a0.size ≤ maxLen) (w : World) :
    Calls Try.prog 3 #[.string a0] w fun e w' => e = .returned (.bool true) ∧ Below w.heap.size w w' := by
  have w1 := w0
  unfold maxLen at w1
  by_cases hl : 1048576 < a0.size
  · go_enter Try.func3, Try.ntmps3
    go_wp2
    go_ret
    exact ⟨rfl, Below.refl _ _⟩
  · go_enter Try.func3, Try.ntmps3
    go_wp2_with (first | (go_at_call 9; refine (model _ _ w0).mono ?_; rintro e w' ⟨rfl, rfl⟩) | (go_at_call 10; refine (program _ _).mono ?_; rintro e w2 ⟨rfl, hI⟩))
    go_ret
    exact ⟨rfl, below_iter hI⟩

set_option maxRecDepth 100000 in
theorem lifted (os : Os) (started : os.Started) (H : Type) (enc : TypeId × Value → H) :
    ReturnsInHanded {} Try.checked os 3 .any (Rows.fnExactIsDigitsSpec.pre6 enc Try.prog Try.f3 Rows.fnExactIsDigitsRow.domain false) (Rows.fnExactIsDigitsSpec.post enc Try.prog Try.f3 false true false false) := by
  refine returnsInHanded_of_change (C := Try.checked) own started (by kernel_rfl) Try.func3
    (ChangeSpec.witness6 (enc := enc) (C := Try.checked) false ⟨#[], #[.string ByteArray.empty], []⟩ 8 (by kernel_rfl) (by kernel_rfl) (by kernel_rfl) (by kernel_rfl)) ?_
  intro W base args ds gs before hval0 hW hcnd _
  have hval : ∀ (j : Nat) t v, Try.f3.params[j]? = some t → args[j]? = some v → Value.okWide Try.prog W .any base t v := hval0
  have hW' := hW
  obtain ⟨p, q, hA0, hV, rfl, hfz, hnd⟩ := hW
  have hA : DataW.TrodAll enc Try.prog W 0 (fun _ => true) true Try.f3.params.toList args.toList ds p := hA0
  rw [Try.params3] at hA hval
  obtain ⟨v0, vs0, d0, ds0, p0, q0, hargs, rfl, rfl, h0, r0⟩ := trodAll_cons hA
  obtain ⟨rfl, rfl, rfl⟩ := trodAll_nil r0
  obtain rfl : args = #[v0] := by cases args; simp_all
  obtain ⟨rfl, rfl⟩ := trodVars_none hV
  obtain ⟨a0, rfl, rfl, rfl, w0⟩ := open_string Try.underlying9 (hval 0 9 v0 rfl rfl) h0
  clear hA0 hval0
  simp only [List.append_nil] at hW'
  refine (walk a0 w0 W).mono fun e W' ⟨he, bel⟩ => ?_
  subst he
  exact ⟨_, rfl, _, _, _, [], [], [], hW', trodAll_mk1 (shut_bool Try.underlying4 _), (trodAll_cons_mk (shut_string Try.underlying9 w0) trodAll_mk0), rfl, bel.frame _, fun h => by cases h⟩

theorem proved : Rows.FnExactIsDigitsSaid :=
  OpenClaim.holds_of_wide 3 Try.f3 rfl rfl rfl rfl rfl rfl rfl ⟨rfl, rfl, rfl, rfl, rfl⟩ rfl rfl rfl rfl rfl (by kernel_rfl) Try.func3 (by kernel_rfl)
    (of_decide_eq_true (by kernel_rfl)) (by unfold Func.isWrapper; rw [if_neg (of_decide_eq_false (by kernel_rfl))]; exact ⟨rfl, rfl⟩)
    (fun os started H enc _ => lifted os started H enc)
#print axioms proved
end Go.Proofs.Ytglcjfhiekhjoaa.fnExactIsDigits
