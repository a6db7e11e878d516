/-
  'IsName' of the program answers, at every string, as its model does, and leaves its argument as it was. No condition.
-/
import Derived.Test.YtglcjfhiekhjoaaRows
import Derived.WalkKit
import Derived.WalkSpells
import Derived.ProofKit
import Derived.OpenShut
import Derived.ShutString
import Derived.Lib.Hide
namespace Go.Proofs.Ytglcjfhiekhjoaa.fnExactIsName
open Go.ChangeShapes Go.WideShapes Go.ChangeAt Go.RowKit
open Go.ChangeMaps (open_string shut_string)
set_option linter.unusedVariables false

theorem own : ownKnob Try.prog.godebug = none := by kernel_rfl

def Fits (i : Nat) (c : Int) : Prop := (97 ≤ c ∧ c ≤ 122) ∨ (0 < i ∧ 48 ≤ c ∧ c ≤ 57)
def AllFit (s : ByteArray) (k : Nat) : Prop := ∀ i (h : i < s.size), i < k → Fits i (s[i].toNat : Int)
noncomputable def nameB (s : ByteArray) : Bool := @decide (0 < s.size ∧ s.size ≤ 8 ∧ AllFit s s.size) (Classical.propDecidable _)

theorem ret_bool {a b : Bool} (h : a = b) : Ending.returned (.bool a) = .returned (.bool b) := by rw [h]
theorem name_no (s : ByteArray) (k : Nat) (h : k < s.size) (hk : ¬ Fits k (s[k].toNat : Int)) : nameB s = false := by
  unfold nameB
  rw [decide_eq_false_iff_not]
  rintro ⟨_, _, ha⟩
  exact hk (ha k h h)
theorem name_end (s : ByteArray) (ha : AllFit s s.size) : nameB s = (decide (1 ≤ s.size) && decide (s.size ≤ 8)) := by
  unfold nameB
  rw [Bool.eq_iff_iff]
  simp [ha]
  omega
theorem name_size (s : ByteArray) (h : ¬ (1 ≤ s.size ∧ s.size ≤ 8)) : nameB s = false := by
  unfold nameB
  rw [decide_eq_false_iff_not]
  rintro ⟨h1, h2, _⟩
  omega
theorem name_yes (s : ByteArray) (h1 : 1 ≤ s.size) (h2 : s.size ≤ 8) (ha : AllFit s s.size) : nameB s = true := by
  rw [name_end s ha]; simp; omega
theorem allFit_snoc (s : ByteArray) (k : Nat) (h : k < s.size) (ha : AllFit s k) (hf : Fits k (s[k].toNat : Int)) : AllFit s (k + 1) := by
  intro i hi hk
  by_cases e : i = k
  · subst e; exact hf
  · exact ha i hi (by omega)

theorem in_yes (n : Int) (w : World) (h1 : 1 ≤ n) (h2 : n ≤ 8) :
    Calls Try.prog 27 #[.int .i64 n, .int .i64 1, .int .i64 8] w fun e w' => e = .returned (.bool true) ∧ w = w' := by
  go_enter Try.func27, Try.ntmps27
  go_wp2
  go_ret
  exact ⟨rfl, rfl⟩
theorem in_no (n : Int) (w : World) (h : ¬ (1 ≤ n ∧ n ≤ 8)) :
    Calls Try.prog 27 #[.int .i64 n, .int .i64 1, .int .i64 8] w fun e w' => e = .returned (.bool false) ∧ w = w' := by
  by_cases h1 : 1 ≤ n
  · have h2 : decide (n ≤ 8) = false := by simp; omega
    clear h
    go_enter Try.func27, Try.ntmps27
    go_wp2
    go_ret
    exact ⟨rfl, rfl⟩
  · clear h
    go_enter Try.func27, Try.ntmps27
    go_wp2
    go_ret
    exact ⟨rfl, rfl⟩

theorem model (s : ByteArray) (w : World) (hs : s.size ≤ maxLen) :
    Calls Try.prog 11 #[.string s] w fun e w' => e = .returned (.bool (nameB s)) ∧ w = w' := by
  unfold maxLen at hs
  go_enter Try.func11, Try.ntmps11
  go_wp2
  go_loop [3] (fun i => ∃ k : Nat, k ≤ s.size ∧ i = .int .i64 k ∧ AllFit s k) (fun i => s.size - (intOf i).toNat)
  case atStart => exact ⟨0, Nat.zero_le _, rfl, fun i _ h => by omega⟩
  case round =>
    obtain ⟨k, hk, rfl, ha⟩ := hrel
    have HA : Hid (AllFit s k) := Lib.hid ha
    clear ha
    by_cases hlt : k < s.size
    · by_cases hf : Fits k (s[k].toNat : Int)
      · have HN := Lib.hid (allFit_snoc s k hlt HA.out hf)
        clear HA
        by_cases hl : 97 ≤ (s[k].toNat : Int)
        · have hu : (s[k].toNat : Int) ≤ 122 := by unfold Fits at hf; omega
          clear hf
          go_wp2
          go_round
          case rel => exact ⟨k + 1, by omega, by go_num, HN.out⟩
          case measure => simp [intOf]; omega
        · have h0 : 0 < k := by unfold Fits at hf; omega
          have hz : ((k : Int) == 0) = false := by simp; omega
          have h1 : 48 ≤ (s[k].toNat : Int) := by unfold Fits at hf; omega
          have h2 : (s[k].toNat : Int) ≤ 57 := by unfold Fits at hf; omega
          clear hf
          go_wp2
          go_round
          case rel => exact ⟨k + 1, by omega, by go_num, HN.out⟩
          case measure => simp [intOf]; omega
      · have HB := Lib.hid (name_no s k hlt hf)
        clear HA
        unfold Fits at hf
        by_cases hl : 97 ≤ (s[k].toNat : Int)
        · have hu : ¬ (s[k].toNat : Int) ≤ 122 := by omega
          have hu' : decide ((s[k].toNat : Int) ≤ 122) = false := by simpa using hu
          by_cases h0 : k = 0
          · subst h0
            clear hf
            go_wp2
            go_ret
            exact ⟨ret_bool HB.out.symm, rfl⟩
          · have hz : ((k : Int) == 0) = false := by simp; omega
            have h2 : 57 < (s[k].toNat : Int) := by omega
            clear hf h0
            go_wp2
            go_ret
            exact ⟨ret_bool HB.out.symm, rfl⟩
        · by_cases h0 : k = 0
          · subst h0
            clear hf
            go_wp2
            go_ret
            exact ⟨ret_bool HB.out.symm, rfl⟩
          · have hz : ((k : Int) == 0) = false := by simp; omega
            by_cases h1 : 48 ≤ (s[k].toNat : Int)
            · have h2 : 57 < (s[k].toNat : Int) := by omega
              clear hf h0
              go_wp2
              go_ret
              exact ⟨ret_bool HB.out.symm, rfl⟩
            · clear hf h0
              go_wp2
              go_ret
              exact ⟨ret_bool HB.out.symm, rfl⟩
    · have e : k = s.size := by omega
      subst e
      by_cases h8 : 1 ≤ s.size ∧ s.size ≤ 8
      · have HB := Lib.hid (name_yes s h8.1 h8.2 HA.out)
        clear HA
        have hh : 1 ≤ (s.size : Int) ∧ (s.size : Int) ≤ 8 := by omega
        clear h8
        go_wp2_with (go_at_call 27; refine (in_yes _ _ hh.1 hh.2).mono ?_; rintro e w' ⟨rfl, rfl⟩)
        go_ret
        exact ⟨ret_bool HB.out.symm, rfl⟩
      · have HB := Lib.hid (name_size s h8)
        clear HA
        have hh : ¬ (1 ≤ (s.size : Int) ∧ (s.size : Int) ≤ 8) := by omega
        have HH := Lib.hid hh
        clear h8 hh
        go_wp2_with (go_at_call 27; refine (in_no _ _ HH.out).mono ?_; rintro e w' ⟨rfl, rfl⟩)
        go_ret
        exact ⟨ret_bool HB.out.symm, rfl⟩

theorem digit_yes (r : Int) (w : World) (h1 : 48 ≤ r) (h2 : r ≤ 57) :
    Calls Try.prog 26 #[.int .i32 r] w fun e w' => e = .returned (.bool true) ∧ w = w' := by
  go_enter Try.func26, Try.ntmps26
  go_wp2
  go_ret
  exact ⟨rfl, rfl⟩
theorem digit_no (r : Int) (w : World) (h : ¬ (48 ≤ r ∧ r ≤ 57)) :
    Calls Try.prog 26 #[.int .i32 r] w fun e w' => e = .returned (.bool false) ∧ w = w' := by
  by_cases h1 : 48 ≤ r
  · have h2 : decide (r ≤ 57) = false := by simp; omega
    clear h
    go_enter Try.func26, Try.ntmps26
    go_wp2
    go_ret
    exact ⟨rfl, rfl⟩
  · clear h
    go_enter Try.func26, Try.ntmps26
    go_wp2
    go_ret
    exact ⟨rfl, rfl⟩
theorem letter_yes (r : Int) (w : World) (h1 : 97 ≤ r) (h2 : r ≤ 122) :
    Calls Try.prog 28 #[.int .i32 r] w fun e w' => e = .returned (.bool true) ∧ w = w' := by
  go_enter Try.func28, Try.ntmps28
  go_wp2
  go_ret
  exact ⟨rfl, rfl⟩
theorem letter_no (r : Int) (w : World) (h : ¬ (97 ≤ r ∧ r ≤ 122)) :
    Calls Try.prog 28 #[.int .i32 r] w fun e w' => e = .returned (.bool false) ∧ w = w' := by
  by_cases h1 : 97 ≤ r
  · have h2 : decide (r ≤ 122) = false := by simp; omega
    clear h
    go_enter Try.func28, Try.ntmps28
    go_wp2
    go_ret
    exact ⟨rfl, rfl⟩
  · clear h
    go_enter Try.func28, Try.ntmps28
    go_wp2
    go_ret
    exact ⟨rfl, rfl⟩

/-- The rune at pos fits as its byte does; where it fits it is one byte wide. -/
theorem fits_rune (s : ByteArray) (pos : Nat) (h : pos < s.size) (hf : Fits pos (s[pos].toNat : Int)) : Utf8.decode s pos = (s[pos].toNat, 1) :=
  decode_ascii s pos h (by unfold Fits at hf; omega)
theorem rune_not (s : ByteArray) (pos : Nat) (h : pos < s.size) (hf : ¬ Fits pos (s[pos].toNat : Int)) : ¬ Fits pos ((Utf8.decode s pos).1 : Int) := by
  by_cases ha : (s[pos]'h).toNat < 128
  · rw [decode_ascii s pos h ha]
    exact hf
  · have := (decode_high s pos h (by omega)).1
    unfold Fits
    omega

def Iter (s : ByteArray) (w w' : World) : Prop := w' = w ∨ ∃ pos, w' = w.iter s pos

set_option maxRecDepth 100000 in
theorem program (s : ByteArray) (w : World) (hs : s.size ≤ maxLen) :
    Calls Try.prog 12 #[.string s] w fun e w' => e = .returned (.bool (nameB s)) ∧ Iter s w w' := by
  unfold maxLen at hs
  by_cases h8 : 1 ≤ s.size ∧ s.size ≤ 8
  · obtain ⟨h1, h2⟩ := h8
    have hemp : s.toList.isEmpty = false := by
      rw [ByteArray.toList_eq]
      obtain ⟨⟨l⟩⟩ := s
      cases l <;> simp [ByteArray.size] at h1 ⊢
    have H8 := Lib.hid (And.intro h1 h2)
    have hgt : decide (8 < s.size) = false := by simp; omega
    go_enter Try.func12, Try.ntmps12
    go_wp2
    go_loopw [3, 4] (fun i c w' => ∃ pos : Nat, w' = w.iter s pos ∧ pos ≤ s.size ∧ AllFit s pos) (fun _ _ w' => s.size - w'.iterPos w.heap.size)
    case atStart => exact ⟨0, rfl, Nat.zero_le _, fun i _ h => by omega⟩
    case round =>
      obtain ⟨pos, rfl, hp, ha⟩ := hrel
      have HA : Hid (AllFit s pos) := Lib.hid ha
      clear ha
      by_cases hlt : pos < s.size
      · have hnx : ∀ ty, (Instr.next (.pointer (some ⟨w.heap.size, 0, none⟩)) true ty).run Try.prog (w.iter s pos) = _ := fun ty => run_next_any w s pos ty hlt
        by_cases hf : Fits pos (s[pos].toNat : Int)
        · rw [fits_rune s pos hlt hf] at hnx
          have HN := Lib.hid (allFit_snoc s pos hlt HA.out hf)
          by_cases hl : 97 ≤ (s[pos].toNat : Int) ∧ (s[pos].toNat : Int) ≤ 122
          · clear hf
            obtain ⟨l1, l2⟩ := hl
            go_wp2_with (go_at_call 28; refine (letter_yes _ _ l1 l2).mono ?_; rintro e w' ⟨rfl, rfl⟩)
            go_roundw
            case rel => exact ⟨pos + 1, rfl, by omega, HN.out⟩
            case measure => simp; omega
          · have hz : ((pos : Int) == 0) = false := by unfold Fits at hf; simp; omega
            have d1 : 48 ≤ (s[pos].toNat : Int) := by unfold Fits at hf; omega
            have d2 : (s[pos].toNat : Int) ≤ 57 := by unfold Fits at hf; omega
            have HL := Lib.hid hl
            clear hf hl
            go_wp2_with (first | (go_at_call 28; refine (letter_no _ _ HL.out).mono ?_; rintro e w' ⟨rfl, rfl⟩) | (go_at_call 26; refine (digit_yes _ _ d1 d2).mono ?_; rintro e w' ⟨rfl, rfl⟩))
            go_roundw
            case rel => exact ⟨pos + 1, rfl, by omega, HN.out⟩
            case measure => simp; omega
        · have HB := Lib.hid (name_no s pos hlt hf)
          have hr := rune_not s pos hlt hf
          have HL : Hid (¬ (97 ≤ ((Utf8.decode s pos).1 : Int) ∧ ((Utf8.decode s pos).1 : Int) ≤ 122)) := Lib.hid (by unfold Fits at hr; omega)
          by_cases h0 : pos = 0
          · subst h0
            clear hf hr
            go_wp2_with (go_at_call 28; refine (letter_no _ _ HL.out).mono ?_; rintro e w' ⟨rfl, rfl⟩)
            go_ret
            exact ⟨ret_bool HB.out.symm, .inr ⟨_, rfl⟩⟩
          · have hz : ((pos : Int) == 0) = false := by simp; omega
            have HD : Hid (¬ (48 ≤ ((Utf8.decode s pos).1 : Int) ∧ ((Utf8.decode s pos).1 : Int) ≤ 57)) := Lib.hid (by unfold Fits at hr; omega)
            clear hf hr h0
            go_wp2_with (first | (go_at_call 28; refine (letter_no _ _ HL.out).mono ?_; rintro e w' ⟨rfl, rfl⟩) | (go_at_call 26; refine (digit_no _ _ HD.out).mono ?_; rintro e w' ⟨rfl, rfl⟩))
            go_ret
            exact ⟨ret_bool HB.out.symm, .inr ⟨_, rfl⟩⟩
      · have hnx : ∀ ty, (Instr.next (.pointer (some ⟨w.heap.size, 0, none⟩)) true ty).run Try.prog (w.iter s pos) = _ := fun ty => run_next_end w s pos ty hlt
        have e : pos = s.size := by omega
        subst e
        go_wp2
        go_ret
        exact ⟨ret_bool (name_yes s H8.out.1 H8.out.2 HA.out).symm, .inr ⟨_, rfl⟩⟩
  · have HB := Lib.hid (name_size s h8)
    by_cases h0 : s.size = 0
    · have hemp : s.toList.isEmpty = true := by
        rw [ByteArray.toList_eq]
        obtain ⟨⟨l⟩⟩ := s
        cases l <;> simp [ByteArray.size] at h0 ⊢
      clear h8 h0
      go_enter Try.func12, Try.ntmps12
      go_wp2
      go_ret
      exact ⟨ret_bool HB.out.symm, .inl rfl⟩
    · have hemp : s.toList.isEmpty = false := by
        rw [ByteArray.toList_eq]
        obtain ⟨⟨l⟩⟩ := s
        cases l <;> simp [ByteArray.size] at h0 ⊢
      have hgt : 8 < s.size := by omega
      clear h8 h0
      go_enter Try.func12, Try.ntmps12
      go_wp2
      go_ret
      exact ⟨ret_bool HB.out.symm, .inl rfl⟩

theorem below_iter {s : ByteArray} {w w' : World} (h : Iter s w w') : Below w.heap.size w w' := by
  rcases h with rfl | ⟨pos, rfl⟩
  · exact Below.refl _ _
  · exact (Below.refl _ _).alloc (Nat.le_refl _) _

theorem walk (a0 : ByteArray) (w0 : a0.size ≤ maxLen) (w : World) :
    Calls Try.prog 4 #[.string a0] w fun e w' => e = .returned (.bool true) ∧ Below w.heap.size w w' := by
  have w1 := w0
  unfold maxLen at w1
  by_cases hl : 1048576 < a0.size
  · go_enter Try.func4, Try.ntmps4
    go_wp2
    go_ret
    exact ⟨rfl, Below.refl _ _⟩
  · go_enter Try.func4, Try.ntmps4
    go_wp2_with (first | (go_at_call 11; refine (model _ _ w0).mono ?_; rintro e w' ⟨rfl, rfl⟩) | (go_at_call 12; refine (program _ _ w0).mono ?_; rintro e w2 ⟨rfl, hI⟩))
    go_ret
    exact ⟨rfl, below_iter hI⟩

set_option maxRecDepth 100000 in
theorem lifted (os : Os) (started : os.Started) (H : Type) (enc : TypeId × Value → H) :
    ReturnsInHanded {} Try.checked os 4 .any (Rows.fnExactIsNameSpec.pre6 enc Try.prog Try.f4 Rows.fnExactIsNameRow.domain false) (Rows.fnExactIsNameSpec.post enc Try.prog Try.f4 false true false false) := by
  refine returnsInHanded_of_change (C := Try.checked) own started (by kernel_rfl) Try.func4
    (ChangeSpec.witness6 (enc := enc) (C := Try.checked) false ⟨#[], #[.string ByteArray.empty], []⟩ 8 (by kernel_rfl) (by kernel_rfl) (by kernel_rfl) (by kernel_rfl)) ?_
  intro W base args ds gs before hval0 hW hcnd _
  have hval : ∀ (j : Nat) t v, Try.f4.params[j]? = some t → args[j]? = some v → Value.okWide Try.prog W .any base t v := hval0
  have hW' := hW
  obtain ⟨p, q, hA0, hV, rfl, hfz, hnd⟩ := hW
  have hA : DataW.TrodAll enc Try.prog W 0 (fun _ => true) true Try.f4.params.toList args.toList ds p := hA0
  rw [Try.params4] at hA hval
  obtain ⟨v0, vs0, d0, ds0, p0, q0, hargs, rfl, rfl, h0, r0⟩ := trodAll_cons hA
  obtain ⟨rfl, rfl, rfl⟩ := trodAll_nil r0
  obtain rfl : args = #[v0] := by cases args; simp_all
  obtain ⟨rfl, rfl⟩ := trodVars_none hV
  obtain ⟨a0, rfl, rfl, rfl, w0⟩ := open_string Try.underlying9 (hval 0 9 v0 rfl rfl) h0
  clear hA0 hval0
  simp only [List.append_nil] at hW'
  refine (walk a0 w0 W).mono fun e W' ⟨he, bel⟩ => ?_
  subst he
  exact ⟨_, rfl, _, _, _, [], [], [], hW', trodAll_mk1 (shut_bool Try.underlying4 _), (trodAll_cons_mk (shut_string Try.underlying9 w0) trodAll_mk0), rfl, bel.frame _, fun h => by cases h⟩

theorem proved : Rows.FnExactIsNameSaid :=
  OpenClaim.holds_of_wide 4 Try.f4 rfl rfl rfl rfl rfl rfl rfl ⟨rfl, rfl, rfl, rfl, rfl⟩ rfl rfl rfl rfl rfl (by kernel_rfl) Try.func4 (by kernel_rfl)
    (of_decide_eq_true (by kernel_rfl)) (by unfold Func.isWrapper; rw [if_neg (of_decide_eq_false (by kernel_rfl))]; exact ⟨rfl, rfl⟩)
    (fun os started H enc _ => lifted os started H enc)
#print axioms proved
end Go.Proofs.Ytglcjfhiekhjoaa.fnExactIsName
