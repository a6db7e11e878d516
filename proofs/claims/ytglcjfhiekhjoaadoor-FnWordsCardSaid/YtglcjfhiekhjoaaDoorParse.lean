/-
  Helpers of the claims beside this text: what ParseInt of the program and of the model answer.
-/
import Derived.Test.YtglcjfhiekhjoaaDoorNum
import Derived.Test.YtglcjfhiekhjoaaDoorFormat
import Derived.Test.YtglcjfhiekhjoaaDoorShelf
import Derived.Test.YtglcjfhiekhjoaaDoorRows
import Derived.WalkKit
import Derived.WalkSpells
import Derived.WalkLawsBesides
import Derived.WalkSmall
import Derived.Stop.LaidErr
import Derived.LaidLaws
import Derived.Lib.LaidTab
import Derived.Lib.AtoiErrMem
import Derived.LaidSub
import Derived.Lib.Hide
namespace Go.Proofs.YtglcjfhiekhjoaaDoor
open Go.RowKit

/-! ### what the listed variables of the library's give -/
theorem gPow : Tryd.prog.globalNamed "internal/strconv.uint64pow10" = some 2 := by kernel_rfl
theorem gSyn : Tryd.prog.globalNamed "strconv.ErrSyntax" = some 0 := by kernel_rfl
theorem gRng : Tryd.prog.globalNamed "strconv.ErrRange" = some 1 := by kernel_rfl
structure Facts (w : World) : Prop where
  pow : Lib.TabIs Tryd.prog w "internal/strconv.uint64pow10" .u64 Lib.pow10Tab
  syn : ∃ p, w.var? Tryd.prog "strconv.ErrSyntax" = some #[.iface 79 p]
  rng : ∃ p, w.var? Tryd.prog "strconv.ErrRange" = some #[.iface 79 p]
theorem var_lt {w : World} {n : String} {g : Nat} {cs : Array Value} (hg : Tryd.prog.globalNamed n = some g) (h : w.var? Tryd.prog n = some cs) : g < w.heap.size := by
  unfold World.var? at h
  rw [hg] at h
  rcases Nat.lt_or_ge g w.heap.size with h2 | h2
  · exact h2
  · simp [Array.getElem?_eq_none h2] at h
theorem Facts.below {w w' : World} (h : Facts w) (hb : Below w.heap.size w w') : Facts w' := by
  obtain ⟨h1, ⟨p, h2⟩, ⟨q, h3⟩⟩ := h
  exact ⟨var?_below hb gPow (var_lt gPow h1) h1, ⟨p, var?_below hb gSyn (var_lt gSyn h2) h2⟩, ⟨q, var?_below hb gRng (var_lt gRng h3) h3⟩⟩
theorem star : "*" ++ "errors.errorString" = "*errors.errorString" := by decide
theorem row79 (u : TypeId) (h : Tryd.prog.typeName? 3 u = some "*errors.errorString") : u = 79 :=
  typeName_ptr_named (nm := "errors.errorString") (by rw [star]; kernel_rfl) (by kernel_rfl) (by decide) u (by rw [star]; exact h)
def laidL : List (String × DataW Unit) := [("math/bits.deBruijn32tab", Rows.laid_math_bits_deBruijn32tab), ("math/bits.deBruijn64tab", Rows.laid_math_bits_deBruijn64tab), ("internal/strconv.uint64pow10", Rows.laid_internal_strconv_uint64pow10), ("strconv.ErrRange", Rows.laid_strconv_ErrRange), ("strconv.ErrSyntax", Rows.laid_strconv_ErrSyntax)]
theorem facts_of {W : World} (h : laidMet Tryd.prog laidL W) : Facts W := by
  have h1 := Go.laidMet.filter (fun x => x.1 == "internal/strconv.uint64pow10") h
  have h2 := Go.laidMet.filter (fun x => x.1 == "strconv.ErrSyntax") h
  have h3 := Go.laidMet.filter (fun x => x.1 == "strconv.ErrRange") h
  have e1 : (laidL.filter fun x => x.1 == "internal/strconv.uint64pow10") = [("internal/strconv.uint64pow10", Lib.tabData .u64 Lib.pow10Tab)] := by kernel_rfl
  have e2 : (laidL.filter fun x => x.1 == "strconv.ErrSyntax") = [("strconv.ErrSyntax", Rows.laid_strconv_ErrSyntax)] := by kernel_rfl
  have e3 : (laidL.filter fun x => x.1 == "strconv.ErrRange") = [("strconv.ErrRange", Rows.laid_strconv_ErrRange)] := by kernel_rfl
  rw [e1] at h1
  rw [e2] at h2
  rw [e3] at h3
  obtain ⟨a0, s0, hv0, -, -, -⟩ := laid_sentinel h2 gSyn (ti := 39) (by kernel_rfl) Tryd.underlying39 row79 Tryd.underlying79 Tryd.underlying81 rfl rfl Tryd.underlying9 (by kernel_rfl) (by kernel_rfl)
  obtain ⟨a1, s1, hv1, -, -, -⟩ := laid_sentinel h3 gRng (ti := 39) (by kernel_rfl) Tryd.underlying39 row79 Tryd.underlying79 Tryd.underlying81 rfl rfl Tryd.underlying9 (by kernel_rfl) (by kernel_rfl)
  exact ⟨Lib.tabIs_of_head gPow (t := 84) (e := 65) (n := 20) (by kernel_rfl) (by kernel_rfl) (by kernel_rfl) (by kernel_rfl) (by kernel_rfl) h1, ⟨_, hv0⟩, ⟨_, hv1⟩⟩

/-! ### the program -/
def Fits (v : Int) : Prop := -9223372036854775808 ≤ v ∧ v ≤ 9223372036854775807
/-- How a parse of s may end: with the integer whose text s is, and true; or, where s is the text of none, with 0 and false. -/
def Ends (s : ByteArray) (w : World) (e : Ending) (w' : World) : Prop :=
  ((∃ v, Fits v ∧ text v = s ∧ e = .returned (.tuple #[.int .i64 v, .bool true])) ∨ ((∀ v, Fits v → text v ≠ s) ∧ e = .returned (.tuple #[.int .i64 0, .bool false]))) ∧ Below w.heap.size w w'

theorem text_bytes (v : Int) (s : ByteArray) (h : text v = s) : Lib.itoa v = s.data.toList := by rw [← h]; rfl

theorem neq_toList {a b : ByteArray} (h : ¬ a = b) : (a.toList == b.toList) = false := by
  rw [beq_eq_false_iff_ne]
  intro e
  rw [ByteArray.toList_eq, ByteArray.toList_eq] at e
  exact h (by
    obtain ⟨⟨x⟩⟩ := a
    obtain ⟨⟨y⟩⟩ := b
    simp only at e
    rw [e])

theorem program_parse (s : ByteArray) (w : World) (hs : s.size ≤ 1048576) (hF : Facts w) : Calls Tryd.prog 7 #[.string s] w (Ends s w) := by
  have HF := Lib.hid hF
  clear hF
  rcases hA : Lib.atoiAll s.data.toList with v | _ | _
  · have hv := Lib.atoiAll_bounds hA
    have HV := Lib.hid hv
    have HA := Lib.hid hA
    have hno : ∀ v', Fits v' → text v' = s → v' = v := fun v' h1 h2 => by
      have h3 := atoi_itoa v' h1.1 h1.2
      rw [text_bytes v' s h2, HA.out] at h3
      injection h3 with h3
      exact h3.symm
    have HN := Lib.hid hno
    clear hv hA hno
    go_enter Tryd.func7, Tryd.ntmps7
    go_wp2_with fail
    refine (Tryd.strconv_Atoi_ok s (by omega) v HA.out w).mono ?_
    rintro e w1 ⟨rfl, hw⟩
    have HB1 : Hid (Below w.heap.size w w1) := Lib.hid (by
      rcases hw with rfl | ⟨t, rfl⟩
      · exact Below.refl _ _
      · exact Lib.bytesWorld_below w 5 t)
    clear hw
    go_wp2_with fail
    refine (program_format v w1 HV.out.1 HV.out.2 (HF.out.below HB1.out).pow).mono ?_
    rintro e w2 ⟨rfl, hb2⟩
    have HB2 := Lib.hid (HB1.out.trans (hb2.mono HB1.out.size))
    clear hb2
    by_cases heq : text v = s
    · subst heq
      go_wp2
      go_ret2
      exact ⟨.inl ⟨v, HV.out, rfl, rfl⟩, HB2.out⟩
    · have hne := neq_toList heq
      have HE := Lib.hid heq
      clear heq
      go_wp2
      go_ret2
      exact ⟨.inr ⟨fun v' h1 h2 => HE.out (by rw [← HN.out v' h1 h2]; exact h2), rfl⟩, HB2.out⟩
  · have HN : Hid (∀ v', Fits v' → text v' ≠ s) := Lib.hid (fun v' h1 h2 => by
      have h3 := atoi_itoa v' h1.1 h1.2
      rw [text_bytes v' s h2, hA] at h3
      cases h3)
    obtain ⟨p, hp⟩ := HF.out.syn
    have HC := Lib.hid (Any.strconv_Atoi_syntax_var Tryd.laysC172 s (by omega) hA 79 p w hp)
    clear hA hp
    go_enter Tryd.func7, Tryd.ntmps7
    go_wp2_with fail
    refine HC.out.mono ?_
    rintro e w1 ⟨N, rfl, _, _, hb1⟩
    have HB1 := Lib.hid hb1
    clear hb1
    go_wp2
    go_ret2
    exact ⟨.inr ⟨HN.out, rfl⟩, HB1.out⟩
  · have HN : Hid (∀ v', Fits v' → text v' ≠ s) := Lib.hid (fun v' h1 h2 => by
      have h3 := atoi_itoa v' h1.1 h1.2
      rw [text_bytes v' s h2, hA] at h3
      cases h3)
    obtain ⟨p, hp⟩ := HF.out.rng
    have HC := Lib.hid (Any.strconv_Atoi_range_var Tryd.laysC172 s (by omega) hA 79 p w hp)
    clear hA hp
    go_enter Tryd.func7, Tryd.ntmps7
    go_wp2_with fail
    refine HC.out.mono ?_
    rintro e w1 ⟨N, rfl, _, _, hb1⟩
    have HB1 := Lib.hid hb1
    clear hb1
    go_wp2
    go_ret2
    exact ⟨.inr ⟨HN.out, rfl⟩, HB1.out⟩

/-! ### the model -/
noncomputable def digB (s : ByteArray) : Bool := @decide (0 < s.size ∧ AllD s.data.toList) (Classical.propDecidable _)
theorem byte_mem (s : ByteArray) (k : Nat) (h : k < s.size) : s[k] ∈ s.data.toList := List.getElem_mem (l := s.data.toList) h
theorem byte_some (s : ByteArray) (k : Nat) (h : k < s.size) : s.data.toList[k]? = some s[k] := List.getElem?_eq_getElem (l := s.data.toList) h
theorem ret_bool {a b : Bool} (h : a = b) : Ending.returned (.bool a) = .returned (.bool b) := by rw [h]
def Ahead (s : ByteArray) (k : Nat) : Prop := ∀ i (h : i < s.size), i < k → 48 ≤ s[i].toNat ∧ s[i].toNat ≤ 57
theorem digB_no (s : ByteArray) (k : Nat) (h : k < s.size) (hk : ¬ (48 ≤ (s[k].toNat : Int) ∧ (s[k].toNat : Int) ≤ 57)) : digB s = false := by
  unfold digB
  rw [decide_eq_false_iff_not]
  rintro ⟨_, ha⟩
  have := ha _ (byte_mem s k h)
  omega
theorem digB_end (s : ByteArray) (ha : Ahead s s.size) : decide (0 < s.size) = digB s := by
  unfold digB
  rw [Bool.eq_iff_iff]
  simp only [decide_eq_true_eq]
  refine ⟨fun h => ⟨h, fun c hc => ?_⟩, fun h => h.1⟩
  obtain ⟨i, hi, rfl⟩ := List.mem_iff_getElem.1 hc
  exact ha i hi hi

theorem digits_any (s : ByteArray) (w : World) (hs : s.size ≤ 1048576) :
    Calls Tryd.prog 27 #[.string s] w fun e w' => e = .returned (.bool (digB s)) ∧ w = w' := by
  go_enter Tryd.func27, Tryd.ntmps27
  go_wp2
  go_loop [3] (fun i => ∃ k : Nat, k ≤ s.size ∧ i = .int .i64 k ∧ Ahead s k) (fun i => s.size - (intOf i).toNat)
  case atStart => exact ⟨0, Nat.zero_le _, rfl, fun i _ h => by omega⟩
  case round =>
    obtain ⟨k, hk, rfl, ha⟩ := hrel
    have HA : Hid (Ahead s k) := Lib.hid ha
    clear ha
    by_cases hlt : k < s.size
    · by_cases hd : 48 ≤ (s[k].toNat : Int) ∧ (s[k].toNat : Int) ≤ 57
      · obtain ⟨h1, h2⟩ := hd
        go_wp2
        go_round
        case rel => exact ⟨k + 1, by omega, by go_num, fun i hi h => by
          by_cases e : i = k
          · subst e; omega
          · exact HA.out i hi (by omega)⟩
        case measure => simp [intOf]; omega
      · have hb := digB_no s k hlt hd
        have HB : Hid (digB s = false) := Lib.hid hb
        clear hb
        by_cases h1 : 48 ≤ (s[k].toNat : Int)
        · have h2 : 57 < (s[k].toNat : Int) := by omega
          clear hd
          go_wp2
          go_ret
          exact ⟨ret_bool HB.out.symm, rfl⟩
        · clear hd
          go_wp2
          go_ret
          exact ⟨ret_bool HB.out.symm, rfl⟩
    · go_wp2
      go_ret
      have e : k = s.size := by omega
      subst e
      exact ⟨ret_bool (digB_end s HA.out), rfl⟩

/-- The text of v, by its sign. -/
theorem text_neg (v : Int) (s : ByteArray) (h : text v = s) (hv : v < 0) : s.data.toList = 45 :: Lib.decDigits v.natAbs := by
  rw [← text_bytes v s h]
  unfold Lib.itoa
  rw [if_pos hv]
theorem text_pos (v : Int) (s : ByteArray) (h : text v = s) (hv : ¬ v < 0) : s.data.toList = Lib.decDigits v.toNat := by
  rw [← text_bytes v s h]
  unfold Lib.itoa
  rw [if_neg hv]
theorem dec_first (u : Nat) (c : UInt8) (r : List UInt8) (h : Lib.decDigits u = c :: r) : c ≠ 45 := by
  intro e
  have := dec_all u u (Nat.le_refl u) c (by rw [h]; simp)
  rw [e] at this
  exact absurd this (by decide)

/-- What is left to say of s when its sign is known: 'neg' and the digits t. -/
structure Split (s : ByteArray) (neg : Bool) (t : ByteArray) : Prop where
  yes : ∀ v, Fits v → text v = s → (neg = true → v < 0) ∧ (neg = false → 0 ≤ v) ∧ t.data.toList = Lib.decDigits v.natAbs

theorem split_neg (s : ByteArray) (h : 0 < s.size) (hc : s[0] = 45) : Split s true (s.extract 1 s.size) := by
  refine ⟨fun v hv ht => ?_⟩
  have h0 := byte_some s 0 h
  rw [hc] at h0
  by_cases hn : v < 0
  · have hb := text_neg v s ht hn
    refine ⟨fun _ => hn, fun h => (by cases h), ?_⟩
    rw [Lib.extract_data]
    have e : s.data.toList.length = s.size := rfl
    rw [← e, hb]
    simp
  · have hb := text_pos v s ht hn
    rw [hb] at h0
    cases hd : Lib.decDigits v.toNat with
    | nil => exact absurd hd (dec_ne _)
    | cons c r =>
      rw [hd] at h0
      simp at h0
      exact absurd h0 (dec_first _ c r hd)
theorem split_pos (s : ByteArray) (h : 0 < s.size) (hc : ¬ s[0] = 45) : Split s false s := by
  refine ⟨fun v hv ht => ?_⟩
  have h0 := byte_some s 0 h
  by_cases hn : v < 0
  · have hb := text_neg v s ht hn
    rw [hb] at h0
    simp at h0
    exact absurd h0.symm hc
  · have hb := text_pos v s ht hn
    refine ⟨fun h => (by cases h), fun _ => by omega, ?_⟩
    rw [hb, show v.natAbs = v.toNat by omega]

theorem none_empty (s : ByteArray) (h : s.size = 0) : ∀ v, Fits v → text v ≠ s := fun v hv ht => by
  have h1 := text_bytes v s ht
  have h2 : s.data.toList = [] := List.eq_nil_of_length_eq_zero h
  rw [h2] at h1
  unfold Lib.itoa at h1
  split at h1
  · cases h1
  · exact dec_ne _ h1
theorem none_digits {s t : ByteArray} {neg : Bool} (hS : Split s neg t) (hd : digB t = false) : ∀ v, Fits v → text v ≠ s := fun v hv ht => by
  obtain ⟨_, _, h3⟩ := hS.yes v hv ht
  unfold digB at hd
  rw [decide_eq_false_iff_not] at hd
  refine hd ⟨?_, ?_⟩
  · have := dec_ne v.natAbs
    rw [← h3] at this
    exact List.length_pos_iff.2 this
  · rw [h3]
    exact dec_all _ _ (Nat.le_refl _)
theorem none_long {s t : ByteArray} {neg : Bool} (hS : Split s neg t) (hl : 19 < t.size) : ∀ v, Fits v → text v ≠ s := fun v hv ht => by
  obtain ⟨_, _, h3⟩ := hS.yes v hv ht
  have h4 := dec_short 18 v.natAbs (by
    have e : (10 : Nat) ^ (18 + 1) = 10000000000000000000 := by decide
    have h5 := hv.1
    have h6 := hv.2
    omega)
  rw [← h3] at h4
  have h5 : t.data.toList.length = t.size := rfl
  omega
theorem none_over {s t : ByteArray} {neg : Bool} (hS : Split s neg t) (k : Nat) (hl : 9223372036854775808 < valF 0 (t.data.toList.take k)) : ∀ v, Fits v → text v ≠ s := fun v hv ht => by
  obtain ⟨_, _, h3⟩ := hS.yes v hv ht
  have h4 := valF_take t.data.toList k
  rw [h3] at h4 hl
  rw [dec_val v.natAbs v.natAbs (Nat.le_refl _)] at h4
  have h5 := hv.1
  have h6 := hv.2
  omega
/-- Where s is the text of v, the digits' value is v's. -/
theorem whole_val {s t : ByteArray} {neg : Bool} (hS : Split s neg t) (v : Int) (hv : Fits v) (ht : text v = s) : valF 0 t.data.toList = v.natAbs ∧ (neg = true → v < 0) ∧ (neg = false → 0 ≤ v) := by
  obtain ⟨h1, h2, h3⟩ := hS.yes v hv ht
  exact ⟨by rw [h3]; exact dec_val _ _ (Nat.le_refl _), h1, h2⟩

theorem over_test (m d : Nat) (hd : d ≤ 9) : (-(m : Int) < (-9223372036854775808 + (48 + (d : Int) - 48)).tdiv 10) ↔ 9223372036854775808 < m * 10 + d := by
  have e : (-9223372036854775808 + (48 + (d : Int) - 48)) = -((9223372036854775808 - d : Nat) : Int) := by omega
  rw [e, Int.neg_tdiv, Int.tdiv_eq_ediv_of_nonneg (by omega)]
  omega
theorem digB_all {t : ByteArray} (h : digB t = true) : AllD t.data.toList := by
  unfold digB at h
  exact (@of_decide_eq_true _ (Classical.propDecidable _) h).2

set_option maxHeartbeats 1000000 in
theorem model_parse (s : ByteArray) (w : World) (hs : s.size ≤ 1048576) : Calls Tryd.prog 15 #[.string s] w (Ends s w) := by
  by_cases h0 : s.size = 0
  · have HN := Lib.hid (none_empty s h0)
    have hd : digB s = false := by unfold digB; rw [decide_eq_false_iff_not]; omega
    have hz : ¬ (0 : Int) < s.size := by omega
    clear h0
    go_enter Tryd.func15, Tryd.ntmps15
    go_wp2_with (go_at_call 27; refine (digits_any s _ hs).mono ?_; rintro e w' ⟨rfl, rfl⟩)
    go_ret2
    exact ⟨.inr ⟨HN.out, rfl⟩, Below.refl _ _⟩
  · have hp : 0 < s.size := by omega
    clear h0
    by_cases h45 : s[0] = 45
    · have HS := Lib.hid (split_neg s hp h45)
      have hq : ((s[0].toNat : Int) == 45) = true := by rw [h45]; rfl
      clear h45
      go_enter Tryd.func15, Tryd.ntmps15
      go_wp2_with fail
      have hts : (s.extract 1 s.size).size ≤ 1048576 := by rw [ByteArray.size_extract]; omega
      obtain ⟨t, ht⟩ : ∃ t, t = s.extract 1 s.size := ⟨_, rfl⟩
      rw [← ht] at hts HS ⊢
      clear ht
      refine (digits_any t w hts).mono ?_
      rintro e w' ⟨rfl, rfl⟩
      by_cases hd : digB t = true
      · by_cases h19 : 19 < t.size
        · have HN := Lib.hid (none_long HS.out h19)
          go_wp2
          go_ret2
          exact ⟨.inr ⟨HN.out, rfl⟩, Below.refl _ _⟩
        · have HD := Lib.hid hd
          go_wp2
          go_loop [6, 7, 8] (fun n i _ => ∃ k m : Nat, k ≤ t.size ∧ i = .int .i64 k ∧ n = .int .i64 (-(m : Int)) ∧ m = valF 0 (t.data.toList.take k) ∧ m ≤ 9223372036854775808) (fun _ i _ => t.size - (intOf i).toNat)
          case atStart => exact ⟨0, 0, by omega, rfl, rfl, rfl, by omega⟩
          case round =>
            obtain ⟨k, m, hk, rfl, rfl, hm, hmb⟩ := hrel
            have HM := Lib.hid hm
            clear hm
            by_cases hlt : k < t.size
            · have hdg : 48 ≤ (t[k].toNat : Int) ∧ (t[k].toNat : Int) ≤ 57 := by
                have h2 := (digB_all HD.out) _ (byte_mem t k hlt)
                omega
              have hsn := valF_snoc t.data.toList k t[k] (byte_some t k hlt)
              rw [← HM.out] at hsn
              obtain ⟨d, hc⟩ : ∃ d : Nat, (t[k].toNat : Int) = 48 + d := ⟨t[k].toNat - 48, by omega⟩
              have hd9 : d ≤ 9 := by omega
              rw [show t[k].toNat - 48 = d by omega] at hsn
              have HSN := Lib.hid hsn
              clear hsn hdg
              by_cases hov : 9223372036854775808 < m * 10 + d
              · have htest := (over_test m d hd9).2 hov
                have HN := Lib.hid (none_over HS.out (k + 1) (by rw [HSN.out]; exact hov))
                go_wp2
                go_ret2
                exact ⟨.inr ⟨HN.out, rfl⟩, Below.refl _ _⟩
              · have htest := fun h => hov ((over_test m d hd9).1 h)
                have hle : m * 10 + d ≤ 9223372036854775808 := by omega
                clear hov
                go_wp2
                go_round
                case rel => exact ⟨k + 1, m * 10 + d, by omega, by go_num, by go_num, HSN.out.symm, hle⟩
                case measure => simp [intOf]; omega
            · have e : k = t.size := by omega
              have HV : Hid (m = valF 0 t.data.toList) := Lib.hid (by rw [HM.out, List.take_of_length_le (by show t.size ≤ k; omega)])
              subst e
              have hfit : Fits (-(m : Int)) := ⟨by omega, by omega⟩
              have HM2 := Lib.hid (model_format (-(m : Int)) w hfit.1 hfit.2)
              have HFit := Lib.hid hfit
              clear hfit
              by_cases heq : text (-(m : Int)) = s
              · have HE := Lib.hid heq
                have hne : (s.toList == s.toList) = true := by simp
                go_wp2_with (go_at_call 14; refine HM2.out.mono ?_; rintro e w' ⟨rfl, hb⟩; rw [heq])
                go_ret2
                exact ⟨.inl ⟨_, HFit.out, HE.out, rfl⟩, by assumption⟩
              · have hne := neq_toList heq
                have HN : Hid (∀ v, Fits v → text v ≠ s) := Lib.hid (fun v h1 h2 => by
                  obtain ⟨g1, g2, g3⟩ := whole_val HS.out v h1 h2
                  have g4 := g2 rfl
                  have g5 := HV.out
                  exact heq (by rw [show (-(m : Int)) = v by omega]; exact h2))
                clear heq
                go_wp2_with (go_at_call 14; refine HM2.out.mono ?_; rintro e w' ⟨rfl, hb⟩)
                go_ret2
                exact ⟨.inr ⟨HN.out, rfl⟩, by assumption⟩
      · have hd' : digB t = false := by simpa using hd
        have HN := Lib.hid (none_digits HS.out hd')
        clear hd
        go_wp2
        go_ret2
        exact ⟨.inr ⟨HN.out, rfl⟩, Below.refl _ _⟩
    · have HS := Lib.hid (split_pos s hp h45)
      have hq : ((s[0].toNat : Int) == 45) = false := by
        rw [beq_eq_false_iff_ne]
        intro e
        exact h45 (UInt8.toNat_inj.1 (by show s[0].toNat = 45; omega))
      clear h45
      go_enter Tryd.func15, Tryd.ntmps15
      go_wp2_with fail
      refine (digits_any s w hs).mono ?_
      rintro e w' ⟨rfl, rfl⟩
      by_cases hd : digB s = true
      · by_cases h19 : 19 < s.size
        · have HN := Lib.hid (none_long HS.out h19)
          go_wp2
          go_ret2
          exact ⟨.inr ⟨HN.out, rfl⟩, Below.refl _ _⟩
        · have HD := Lib.hid hd
          go_wp2
          go_loop [6, 7, 8] (fun n i _ => ∃ k m : Nat, k ≤ s.size ∧ i = .int .i64 k ∧ n = .int .i64 (-(m : Int)) ∧ m = valF 0 (s.data.toList.take k) ∧ m ≤ 9223372036854775808) (fun _ i _ => s.size - (intOf i).toNat)
          case atStart => exact ⟨0, 0, by omega, rfl, rfl, rfl, by omega⟩
          case round =>
            obtain ⟨k, m, hk, rfl, rfl, hm, hmb⟩ := hrel
            have HM := Lib.hid hm
            clear hm
            by_cases hlt : k < s.size
            · have hdg : 48 ≤ (s[k].toNat : Int) ∧ (s[k].toNat : Int) ≤ 57 := by
                have h2 := (digB_all HD.out) _ (byte_mem s k hlt)
                omega
              have hsn := valF_snoc s.data.toList k s[k] (byte_some s k hlt)
              rw [← HM.out] at hsn
              obtain ⟨d, hc⟩ : ∃ d : Nat, (s[k].toNat : Int) = 48 + d := ⟨s[k].toNat - 48, by omega⟩
              have hd9 : d ≤ 9 := by omega
              rw [show s[k].toNat - 48 = d by omega] at hsn
              have HSN := Lib.hid hsn
              clear hsn hdg
              by_cases hov : 9223372036854775808 < m * 10 + d
              · have htest := (over_test m d hd9).2 hov
                have HN := Lib.hid (none_over HS.out (k + 1) (by rw [HSN.out]; exact hov))
                go_wp2
                go_ret2
                exact ⟨.inr ⟨HN.out, rfl⟩, Below.refl _ _⟩
              · have htest := fun h => hov ((over_test m d hd9).1 h)
                have hle : m * 10 + d ≤ 9223372036854775808 := by omega
                clear hov
                go_wp2
                go_round
                case rel => exact ⟨k + 1, m * 10 + d, by omega, by go_num, by go_num, HSN.out.symm, hle⟩
                case measure => simp [intOf]; omega
            · have e : k = s.size := by omega
              have HV : Hid (m = valF 0 s.data.toList) := Lib.hid (by rw [HM.out, List.take_of_length_le (by show s.size ≤ k; omega)])
              subst e
              by_cases hmax : m = 9223372036854775808
              · have HN : Hid (∀ v, Fits v → text v ≠ s) := Lib.hid (fun v h1 h2 => by
                  obtain ⟨g1, g2, g3⟩ := whole_val HS.out v h1 h2
                  have g4 := g3 rfl
                  have g5 := HV.out
                  have g6 := h1.2
                  omega)
                have hmq : (-(m : Int) == -9223372036854775808) = true := by rw [hmax]; rfl
                clear hmax
                go_wp2
                go_ret2
                exact ⟨.inr ⟨HN.out, rfl⟩, Below.refl _ _⟩
              · have hmq : (-(m : Int) == -9223372036854775808) = false := by rw [beq_eq_false_iff_ne]; omega
                have hm2 : m ≤ 9223372036854775807 := by omega
                clear hmax
                have hfit : Fits (m : Int) := ⟨by omega, by omega⟩
                have HM2 := Lib.hid (model_format (m : Int) w hfit.1 hfit.2)
                have HFit := Lib.hid hfit
                clear hfit
                by_cases heq : text (m : Int) = s
                · have HE := Lib.hid heq
                  have hne : (s.toList == s.toList) = true := by simp
                  go_wp2_with (go_at_call 14; refine HM2.out.mono ?_; rintro e w' ⟨rfl, hb⟩; rw [heq])
                  go_ret2
                  exact ⟨.inl ⟨_, HFit.out, HE.out, rfl⟩, by assumption⟩
                · have hne := neq_toList heq
                  have HN : Hid (∀ v, Fits v → text v ≠ s) := Lib.hid (fun v h1 h2 => by
                    obtain ⟨g1, g2, g3⟩ := whole_val HS.out v h1 h2
                    have g4 := g3 rfl
                    have g5 := HV.out
                    exact heq (by rw [show (m : Int) = v by omega]; exact h2))
                  clear heq
                  go_wp2_with (go_at_call 14; refine HM2.out.mono ?_; rintro e w' ⟨rfl, hb⟩)
                  go_ret2
                  exact ⟨.inr ⟨HN.out, rfl⟩, by assumption⟩
      · have hd' : digB s = false := by simpa using hd
        have HN := Lib.hid (none_digits HS.out hd')
        clear hd
        go_wp2
        go_ret2
        exact ⟨.inr ⟨HN.out, rfl⟩, Below.refl _ _⟩
end Go.Proofs.YtglcjfhiekhjoaaDoor
