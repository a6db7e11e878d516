/-
  'PadZeros' of the program answers, at every string and every integer, as its model does, and leaves its arguments as they were. No condition.
-/
import Derived.Test.YtglcjfhiekhjoaaShelf
import Derived.Test.YtglcjfhiekhjoaaRows
import Derived.WalkKit
import Derived.WalkSpells
import Derived.WalkLawsBesides
import Derived.ProofKit
import Derived.OpenShut
import Derived.ShutString
import Derived.Laws.Concat
import Derived.Lib.Hide
namespace Go.Proofs.Ytglcjfhiekhjoaa.fnExactPadZeros
open Go.ChangeShapes Go.WideShapes Go.ChangeAt Go.RowKit
open Go.ChangeMaps (open_string shut_string)
set_option linter.unusedVariables false

theorem own : ownKnob Try.prog.godebug = none := by kernel_rfl

/-- j zeros ahead of s. -/
def padded (s : ByteArray) (j : Nat) : ByteArray := ⟨(List.replicate j 48 ++ s.data.toList).toArray⟩
theorem padded_size (s : ByteArray) (j : Nat) : (padded s j).size = j + s.size := by
  show ((List.replicate j 48 ++ s.data.toList).toArray).size = _
  rw [List.size_toArray, List.length_append, List.length_replicate]
  rfl
theorem padded_zero (s : ByteArray) : padded s 0 = s := by
  obtain ⟨⟨l⟩⟩ := s
  simp [padded]
theorem padded_succ (s : ByteArray) (j : Nat) : ((⟨#[48]⟩ : ByteArray) ++ padded s j) = padded s (j + 1) := by
  apply ByteArray.ext
  simp [padded, List.replicate_succ]
theorem ret_str {a b : ByteArray} (h : a = b) : Ending.returned (.string a) = .returned (.string b) := by rw [h]
def lenOf : Value → Nat | .string b => b.size | _ => 0
/-- What both answer. -/
def outOf (s : ByteArray) (n : Int) : ByteArray := if 2000 < n then s else padded s (n - s.size).toNat
theorem out_big (s : ByteArray) (n : Int) (h : 2000 < n) : outOf s n = s := by simp [outOf, h]
theorem out_long (s : ByteArray) (n : Int) (h : n ≤ s.size) : outOf s n = s := by
  unfold outOf
  split
  · rfl
  · rw [show (n - s.size).toNat = 0 by omega, padded_zero]

theorem model (s : ByteArray) (n : Int) (w : World) (hs : s.size ≤ 1048576) :
    Calls Try.prog 24 #[.string s, .int .i64 n] w fun e w' => e = .returned (.string (outOf s n)) ∧ w = w' := by
  by_cases hn : 2000 < n
  · have HB := Lib.hid (out_big s n hn)
    go_enter Try.func24, Try.ntmps24
    go_wp2
    go_ret
    exact ⟨ret_str HB.out.symm, rfl⟩
  · by_cases hl : n ≤ s.size
    · have HB := Lib.hid (out_long s n hl)
      have hlt : ¬ (s.size : Int) < n := by omega
      go_enter Try.func24, Try.ntmps24
      go_wp2
      refine wp_loop_rounds 1 ?_; rw [rounds_succ]
      go_wp2
      go_ret
      exact ⟨ret_str HB.out.symm, rfl⟩
    · have HB : Hid (outOf s n = padded s (n - s.size).toNat) := Lib.hid (by simp [outOf, hn])
      go_enter Try.func24, Try.ntmps24
      go_wp2
      go_loop [0] (fun t => ∃ j : Nat, (j : Int) + s.size ≤ n ∧ t = .string (padded s j)) (fun t => n.toNat - lenOf t)
      case atStart => exact ⟨0, by omega, by rw [padded_zero]⟩
      case round =>
        obtain ⟨j, hj, rfl⟩ := hrel
        have hp := padded_size s j
        obtain ⟨b, hb⟩ : ∃ b, b = padded s j := ⟨_, rfl⟩
        rw [← hb] at hp ⊢
        have h1 := padded_succ s j
        rw [← hb] at h1
        have H1 := Lib.hid h1
        have HP := Lib.hid hb
        have hle : b.size ≤ 3000 := by omega
        clear h1 hb
        by_cases hlt : (b.size : Int) < n
        · have HQ := Lib.hid hp
          clear hp
          go_wp2
          go_round
          case rel => exact ⟨j + 1, by have := HQ.out; omega, by rw [H1.out]⟩
          case measure =>
            have hsz : ((⟨#[48]⟩ : ByteArray) ++ b).size = b.size + 1 := by rw [H1.out, padded_size, HQ.out]; omega
            show n.toNat - ((⟨#[48]⟩ : ByteArray) ++ b).size < n.toNat - b.size
            rw [hsz]
            omega
        · have hj' : j = (n - s.size).toNat := by omega
          have HJ := Lib.hid hj'
          clear hj' hp
          go_wp2
          go_ret
          exact ⟨ret_str (by rw [HB.out, HP.out, ← HJ.out]), rfl⟩

theorem replicate_repeat (c : Nat) : Lib.repeatL [48] c = List.replicate c 48 := by
  induction c with
  | zero => rfl
  | succ c ih => rw [Lib.repeatL, ih, List.replicate_succ]; rfl

theorem join_two (x y : List UInt8) : Lib.join [x, y] [] = x ++ y := by
  rw [Lib.join_cons]
  simp [Lib.joinTail]

/-- The two texts joined by nothing. -/
theorem joined (s r : ByteArray) (g : Nat) (w : World) (hs : s.size ≤ 1048576) (hr : r.size ≤ 1048576) (hg : g < w.heap.size)
    (h0 : w.cell? ⟨g, 0, none⟩ = some (.string r)) (h1 : w.cell? ⟨g, 1, none⟩ = some (.string s)) :
    Calls Try.prog 31 #[.string ⟨#[]⟩, .slice (some ⟨g, 0, none⟩) 2 2] w fun e w' => e = .returned (.string ⟨(r.data.toList ++ s.data.toList).toArray⟩) ∧ Below w.heap.size w w' := by
  have hj : Lib.join ([r, s].map (·.data.toList)) (⟨#[]⟩ : ByteArray).data.toList = r.data.toList ++ s.data.toList := join_two _ _
  have hc := Try.strings_Join g 0 2 [r, s] ⟨#[]⟩ w (by
    intro j x hj
    match j, hj with
    | 0, hj => simp at hj; subst hj; exact h0
    | 1, hj => simp at hj; subst hj; exact h1) hg (by simp) (by simp) (by
    rw [hj, List.length_append]
    have e1 : r.data.toList.length = r.size := rfl
    have e2 : s.data.toList.length = s.size := rfl
    omega)
  rw [hj] at hc
  have HC := Lib.hid hc
  clear hc hj h0 h1
  go_enter Try.func31, Try.ntmps31
  go_wp2_with (go_at_call 33; refine HC.out.mono ?_; rintro e w' ⟨rfl, hb⟩)
  go_ret
  exact ⟨rfl, by assumption⟩

theorem joined_new (s r : ByteArray) (w : World) (hs : s.size ≤ 1048576) (hr : r.size ≤ 1048576) :
    Calls Try.prog 31 #[.string ⟨#[]⟩, .slice (some ⟨w.heap.size, 0, none⟩) 2 2] (w.alloc (.cells #[.string r, .string s] 9)) fun e w' => e = .returned (.string ⟨(r.data.toList ++ s.data.toList).toArray⟩) ∧ Below w.heap.size w w' := by
  refine (joined s r w.heap.size (w.alloc (.cells #[.string r, .string s] 9)) hs hr ?_ ?_ ?_).mono ?_
  · show w.heap.size < (w.heap.push _).size
    simp
  · simp
  · simp
  · rintro e w' ⟨rfl, hb⟩
    refine ⟨rfl, ((Below.refl _ w).alloc (Nat.le_refl _) _).trans (hb.mono ?_)⟩
    show w.heap.size ≤ (w.heap.push _).size
    simp

theorem zeros (c : Nat) (w : World) (hc : c ≤ 2000) :
    Calls Try.prog 32 #[.string ⟨#[48]⟩, .int .i64 c] w fun e w' => e = .returned (.string ⟨(List.replicate c 48).toArray⟩) ∧ Below w.heap.size w w' := by
  have h := Try.strings_Repeat ⟨#[48]⟩ c w (by omega) (by show 1 * c ≤ _; omega)
  rw [show (⟨#[48]⟩ : ByteArray).data.toList = [48] from rfl, replicate_repeat] at h
  exact h

theorem program (s : ByteArray) (n : Int) (w : World) (hs : s.size ≤ 1048576) (hn1 : -9223372036854775808 ≤ n) (hn2 : n ≤ 9223372036854775807) :
    Calls Try.prog 25 #[.string s, .int .i64 n] w fun e w' => e = .returned (.string (outOf s n)) ∧ Below w.heap.size w w' := by
  by_cases hl : n ≤ s.size
  · have HB := Lib.hid (out_long s n hl)
    go_enter Try.func25, Try.ntmps25
    go_wp2
    go_ret
    exact ⟨ret_str HB.out.symm, Below.refl _ _⟩
  · by_cases hn : 2000 < n
    · have HB := Lib.hid (out_big s n hn)
      go_enter Try.func25, Try.ntmps25
      go_wp2
      go_ret
      exact ⟨ret_str HB.out.symm, Below.refl _ _⟩
    · obtain ⟨c, hc⟩ : ∃ c : Nat, n = (s.size : Int) + c := ⟨(n - s.size).toNat, by omega⟩
      have HB : Hid (outOf s n = padded s c) := Lib.hid (by unfold outOf; rw [if_neg hn, show (n - s.size).toNat = c by omega])
      have hg : decide (2000 < n) = false := by simpa using hn
      have hd : n - (s.size : Int) = c := by omega
      have hc2 : c ≤ 2000 := by omega
      have HC := Lib.hid hc
      clear hc
      go_enter Try.func25, Try.ntmps25
      go_wp2_with (first | (go_at_call 32; refine (zeros c _ hc2).mono ?_; rintro e w1 ⟨rfl, hb1⟩; have HB1 := Lib.hid hb1; clear hb1) | (go_at_call 31; refine (joined_new s ⟨(List.replicate c 48).toArray⟩ _ hs ?_).mono ?_; (show (List.replicate c 48).toArray.size ≤ _; simp; omega); rintro e w2 ⟨rfl, hb2⟩))
      go_ret
      refine ⟨ret_str ?_, HB1.out.trans ((by assumption : Below w1.heap.size w1 _).mono HB1.out.size)⟩
      rw [HB.out]
      rfl

theorem walk (a0 : ByteArray) (a1 : Int) (w0 : a0.size ≤ maxLen) (w1 : (Lit.int .i64 a1).wf = true) (w : World) :
    Calls Try.prog 8 #[.string a0, .int .i64 a1] w fun e w' => e = .returned (.bool true) ∧ Below w.heap.size w w' := by
  have hw := w0
  unfold maxLen at hw
  have hb := bounds_i64 w1
  by_cases hl : 1048576 < a0.size
  · go_enter Try.func8, Try.ntmps8
    go_wp2
    go_ret
    exact ⟨rfl, Below.refl _ _⟩
  · have hl' : a0.size ≤ 1048576 := by omega
    go_enter Try.func8, Try.ntmps8
    go_wp2_with (first | (go_at_call 24; refine (model _ _ _ hl').mono ?_; rintro e w' ⟨rfl, rfl⟩) | (go_at_call 25; refine (program _ _ _ hl' hb.1 hb.2).mono ?_; rintro e w2 ⟨rfl, hI⟩))
    go_ret
    exact ⟨rfl, by assumption⟩

set_option maxRecDepth 100000 in
theorem lifted (os : Os) (started : os.Started) (H : Type) (enc : TypeId × Value → H) :
    ReturnsInHanded {} Try.checked os 8 .any (Rows.fnExactPadZerosSpec.pre6 enc Try.prog Try.f8 Rows.fnExactPadZerosRow.domain false) (Rows.fnExactPadZerosSpec.post enc Try.prog Try.f8 false true false false) := by
  refine returnsInHanded_of_change (C := Try.checked) own started (by kernel_rfl) Try.func8
    (ChangeSpec.witness6 (enc := enc) (C := Try.checked) false ⟨#[], #[.string ByteArray.empty, .int .i64 0], []⟩ 8 (by kernel_rfl) (by kernel_rfl) (by kernel_rfl) (by kernel_rfl)) ?_
  intro W base args ds gs before hval0 hW hcnd _
  have hval : ∀ (j : Nat) t v, Try.f8.params[j]? = some t → args[j]? = some v → Value.okWide Try.prog W .any base t v := hval0
  have hW' := hW
  obtain ⟨p, q, hA0, hV, rfl, hfz, hnd⟩ := hW
  have hA : DataW.TrodAll enc Try.prog W 0 (fun _ => true) true Try.f8.params.toList args.toList ds p := hA0
  rw [Try.params8] at hA hval
  obtain ⟨v0, vs0, d0, ds0, p0, q0, hargs, rfl, rfl, h0, r0⟩ := trodAll_cons hA
  obtain ⟨v1, vs1, d1, ds1, p1, q1, rfl, rfl, rfl, h1, r1⟩ := trodAll_cons r0
  obtain ⟨rfl, rfl, rfl⟩ := trodAll_nil r1
  obtain rfl : args = #[v0, v1] := by cases args; simp_all
  obtain ⟨rfl, rfl⟩ := trodVars_none hV
  obtain ⟨a0, rfl, rfl, rfl, w0⟩ := open_string Try.underlying9 (hval 0 9 v0 rfl rfl) h0
  obtain ⟨a1, rfl, rfl, rfl, w1⟩ := open_int Try.underlying3 (hval 1 3 v1 rfl rfl) h1
  clear hA0 hval0
  simp only [List.append_nil] at hW'
  refine (walk a0 a1 w0 w1 W).mono fun e W' ⟨he, bel⟩ => ?_
  subst he
  exact ⟨_, rfl, _, _, _, [], [], [], hW', trodAll_mk1 (shut_bool Try.underlying4 _), (trodAll_cons_mk (shut_string Try.underlying9 w0) (trodAll_cons_mk (shut_int Try.underlying3 w1) trodAll_mk0)), rfl, bel.frame _, fun h => by cases h⟩

theorem proved : Rows.FnExactPadZerosSaid :=
  OpenClaim.holds_of_wide 8 Try.f8 rfl rfl rfl rfl rfl rfl rfl ⟨rfl, rfl, rfl, rfl, rfl⟩ rfl rfl rfl rfl rfl (by kernel_rfl) Try.func8 (by kernel_rfl)
    (of_decide_eq_true (by kernel_rfl)) (by unfold Func.isWrapper; rw [if_neg (of_decide_eq_false (by kernel_rfl))]; exact ⟨rfl, rfl⟩)
    (fun os started H enc _ => lifted os started H enc)
#print axioms proved
end Go.Proofs.Ytglcjfhiekhjoaa.fnExactPadZeros
