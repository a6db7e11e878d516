/-
  'SplitAny' of the program answers, at every two strings, as its model does, in memory of its own, and leaves its arguments as they were. No condition.
-/
import Derived.Test.YtglcjfhiekhjoaaSet
import Derived.Test.YtglcjfhiekhjoaaSplit
import Derived.Test.YtglcjfhiekhjoaaMark
import Derived.Test.YtglcjfhiekhjoaaRows
import Derived.WalkKit
import Derived.WalkSpells
import Derived.WalkLawsBesides
import Derived.ProofKit
import Derived.OpenShut
import Derived.ShutString
import Derived.WalkSmall
import Derived.Laws.Rows
import Derived.Laws.Tables
import Derived.Lib.AsciiSet
import Derived.Deep.WholeRow
import Derived.Lib.Hide
namespace Go.Proofs.Ytglcjfhiekhjoaa.fnExactSplitAny
open Go.ChangeShapes Go.WideShapes Go.ChangeAt Go.RowKit
open Go.ChangeMaps (open_string shut_string)
set_option linter.unusedVariables false

theorem own : ownKnob Try.prog.godebug = none := by kernel_rfl

theorem own_base {w : World} {B B' : Nat} {e : TypeId} {size : Nat} {v : Value} {n : Nat} {xs : List Value} (h : w.ownsRow B e size v n xs) (hB : B' ≤ B) : w.ownsRow B' e size v n xs := by
  obtain ⟨h1, h2 | ⟨g, cap, cur, hv, hb, rest⟩⟩ := h
  · exact ⟨h1, .inl h2⟩
  · exact ⟨h1, .inr ⟨g, cap, cur, hv, by omega, rest⟩⟩

theorem table_cell {w : World} {g : Nat} {b : ByteArray} (h : w.heap[g]? = some (.cells (Lib.setCells b.data.toList) 36 (0, 0))) (x : UInt8) : w.cell? ⟨g, x.toNat, none⟩ = some (.bool (among b x)) := by
  rw [cell_of_row w g x.toNat _ 36 (0, 0) h]
  exact Lib.setCells_at _ x

set_option maxHeartbeats 1000000 in
set_option maxRecDepth 1000000 in
theorem program (s b : ByteArray) (w : World) (hs : s.size ≤ 1048576) (hb : b.size ≤ 1048576) :
    Calls Try.prog 14 #[.string s, .string b] w (Parts w.heap.size w (parts s (among b))) := by
  have hz := zero36
  go_enter Try.func14, Try.ntmps14
  go_wp2_with fail
  refine (set_any b w hb).mono ?_
  rintro e w1 ⟨rfl, hb1⟩
  have HB1 := Lib.hid hb1
  clear hb1
  go_wp2_with (refine wpList_store_row rfl 36 _ _ rfl w1.heap.size (Lib.setCells b.data.toList) rfl rfl 36 (Array.replicate 256 (.bool false)) (heap_alloc_last w1 _) (set_size _) (by rw [Lib.setCells_size]; simp) (Lib.setCells_one _) ?_)
  rw [World.setRow_alloc_new]
  clear hz
  obtain ⟨g, hg⟩ : ∃ g, g = w1.heap.size := ⟨_, rfl⟩
  rw [← hg]
  obtain ⟨W1, hW1⟩ : ∃ W1, W1 = w1.alloc (.cells (Lib.setCells b.data.toList) 36) := ⟨_, rfl⟩
  rw [← hW1]
  have h0 : W1.heap[g]? = some (.cells (Lib.setCells b.data.toList) 36 (0, 0)) := by rw [hW1, hg]; exact heap_alloc_last w1 _
  have b0 : Below w.heap.size w W1 := by rw [hW1]; exact HB1.out.alloc HB1.out.size _
  have z0 : g + 1 ≤ W1.heap.size := by rw [hW1, hg]; show w1.heap.size + 1 ≤ (w1.heap.push _).size; simp
  have hgs : w.heap.size ≤ g := by rw [hg]; exact HB1.out.size
  have H0 := Lib.hid (And.intro h0 (And.intro b0 z0))
  have HGS := Lib.hid hgs
  clear h0 b0 z0 hg hW1 hgs
  go_loopw [6, 7, 8, 13] (fun v f _ i wr => ∃ k : Nat, k ≤ s.size ∧ i = .int .i64 k ∧ f = .int .i64 (cut s (among b) k).2 ∧ wr.ownsRow (g + 1) 9 1 v (cut s (among b) k).1.length ((cut s (among b) k).1.map Value.string) ∧ Below w.heap.size w wr ∧ wr.heap[g]? = some (.cells (Lib.setCells b.data.toList) 36 (0, 0)) ∧ g + 1 ≤ wr.heap.size) (fun _ _ _ i _ => s.size - (intOf i).toNat)
  case atStart => exact ⟨0, by omega, rfl, rfl, World.ownsRow_nil _ _ _ _, H0.out.2.1, H0.out.1, H0.out.2.2⟩
  case round =>
    obtain ⟨k, hk, rfl, rfl, hown, hnx, hT, hsz⟩ := hrel
    have hcl := cut_len s (among b) k
    obtain ⟨fr, hfr⟩ : ∃ fr, fr = (cut s (among b) k).2 := ⟨_, rfl⟩
    obtain ⟨ls, hls⟩ : ∃ ls, ls = (cut s (among b) k).1 := ⟨_, rfl⟩
    rw [← hfr, ← hls] at hcl
    rw [← hls] at hown
    rw [← hfr]
    have HF := Lib.hid hfr
    have HL := Lib.hid hls
    have HO := Lib.hid hown
    have HX := Lib.hid hnx
    have HT := Lib.hid hT
    have HZ := Lib.hid hsz
    clear hfr hls hown hnx hT hsz
    obtain ⟨hc1, hc2⟩ := hcl
    by_cases hlt : k < s.size
    · have hx256 : (s[k].toNat : Int) < 256 := by have := UInt8.toNat_lt s[k]; omega
      have hcell := table_cell HT.out s[k]
      by_cases hin : among b s[k] = true
      · rw [hin] at hcell
        have hm := cut_hit s (among b) k hlt hin
        rw [← HF.out, ← HL.out] at hm
        have HM := Lib.hid hm
        have HI := Lib.hid hin
        clear hm hin
        go_wp2_with (at_builtin; refine append_str rfl _ _ rfl (g + 1) _ ls _ _ HO.out (by omega) HZ.out _ rfl rfl rfl ?_; intro v' w' hown' hb')
        have HO2 := Lib.hid hown'
        have HX2 := Lib.hid hb'
        clear hown' hb'
        go_roundw
        case rel => exact ⟨k + 1, by omega, by go_num, by rw [HM.out]; go_num, by rw [HM.out]; exact HO2.out, HX.out.trans (HX2.out.mono (by have := HGS.out; omega)), by rw [HX2.out.block g (by omega)]; exact HT.out, Nat.le_trans HZ.out HX2.out.size⟩
        case measure => simp [intOf]; omega
      · have hin' : among b s[k] = false := by simpa using hin
        rw [hin'] at hcell
        have hm := cut_miss s (among b) k hlt hin'
        have HM := Lib.hid hm
        clear hm hin hin'
        go_wp2
        go_roundw
        case rel => exact ⟨k + 1, by omega, by go_num, by rw [HM.out, ← HF.out], by rw [HM.out, ← HL.out]; exact HO.out, HX.out, HT.out, HZ.out⟩
        case measure => simp [intOf]; omega
    · have e : k = s.size := by omega
      have HP : Hid (parts s (among b) = ls ++ [s.extract fr s.size]) := Lib.hid (by rw [HL.out, HF.out, e]; rfl)
      subst e
      go_wp2_with (at_builtin; refine append_str rfl _ _ rfl (g + 1) _ ls _ _ HO.out (by omega) HZ.out _ rfl rfl rfl ?_; intro v' w' hown' hb')
      have HO2 := Lib.hid hown'
      have HX2 := Lib.hid hb'
      clear hown' hb'
      go_ret
      exact ⟨_, rfl, by rw [HP.out]; exact own_base HO2.out (by have := HGS.out; omega), HX.out.trans (HX2.out.mono (by have := HGS.out; omega))⟩

theorem walk (a0 : ByteArray) (a1 : ByteArray) (w0 : a0.size ≤ maxLen) (w1 : a1.size ≤ maxLen) (w : World) :
    Calls Try.prog 5 #[.string a0, .string a1] w fun e w' => e = .returned (.bool true) ∧ Below w.heap.size w w' := by
  have hw := w0
  unfold maxLen at hw
  have hw1 := w1
  unfold maxLen at hw1
  by_cases hl : 1048576 < a0.size
  · go_enter Try.func5, Try.ntmps5
    go_wp2
    go_ret
    exact ⟨rfl, Below.refl _ _⟩
  by_cases hl1 : 1048576 < a1.size
  · go_enter Try.func5, Try.ntmps5
    go_wp2
    go_ret
    exact ⟨rfl, Below.refl _ _⟩
  · have hs : a0.size ≤ 1048576 := by omega
    have hb : a1.size ≤ 1048576 := by omega
    obtain ⟨l, hll⟩ : ∃ l, l = parts a0 (among a1) := ⟨_, rfl⟩
    have hn : l.length ≤ 1073741000 := by have := parts_len a0 (among a1); rw [hll]; omega
    have model := model_split a0 a1 w hs hb
    have program := fun w => program a0 a1 w hs hb
    rw [← hll] at model
    have program : ∀ w, Calls Try.prog 14 #[.string a0, .string a1] w (Parts w.heap.size w l) := fun w => by rw [hll]; exact program w
    have MODEL := Lib.hid model
    have PROGRAM := Lib.hid program
    clear model program hll
    go_enter Try.func5, Try.ntmps5
    go_wp2_with fail
    refine MODEL.out.mono ?_
    rintro e w1 ⟨v0, rfl, ho0, hb1⟩
    have HO0 := Lib.hid ho0
    have HB1 := Lib.hid hb1
    clear ho0 hb1
    go_wp2_with fail
    refine (PROGRAM.out w1).mono ?_
    rintro e w2 ⟨v1, rfl, ho1, hb2⟩
    have HO1 := Lib.hid ho1
    have C2 := Lib.hid hb2
    clear ho1 hb2
    go_wp2_with fail
    refine (eq_same _ _ v1 v0 _ l w2 HO1.out (own_below HO0.out C2.out) (by omega)).mono ?_
    rintro e w3 ⟨rfl, hb3⟩
    have HO3 := Lib.hid (own_below HO1.out hb3)
    have C3 := Lib.hid (C2.out.trans (hb3.mono C2.out.size))
    clear hb3
    go_wp2_with fail
    refine (mark_row _ v1 _ l w3 HO3.out hn).mono ?_
    rintro e w4 ⟨rfl, hm4, hb4⟩
    have HM4 := Lib.hid hm4
    have C4 := Lib.hid (C3.out.trans hb4)
    clear hm4 hb4
    go_wp2_with fail
    refine (held_marks _ v1 _ w4 HM4.out hn).mono ?_
    rintro e w5 ⟨rfl, hb5⟩
    have HM5 := Lib.hid (own_below HM4.out hb5)
    have C5 := Lib.hid (C4.out.trans (hb5.mono C4.out.size))
    clear hb5
    go_wp2_with fail
    refine (PROGRAM.out w5).mono ?_
    rintro e w6 ⟨v2, rfl, ho2, hb6⟩
    have HO2 := Lib.hid ho2
    have HM6 := Lib.hid (own_below HM5.out hb6)
    have C6 := Lib.hid (C5.out.trans (hb6.mono C5.out.size))
    clear ho2 hb6
    go_wp2_with fail
    refine (eq_same _ _ v2 v0 _ l w6 HO2.out (own_below HO0.out C6.out) (by omega)).mono ?_
    rintro e w7 ⟨rfl, hb7⟩
    have HM7 := Lib.hid (own_below HM6.out hb7)
    have C7 := Lib.hid (C6.out.trans (hb7.mono C6.out.size))
    clear hb7
    go_wp2_with fail
    refine (held_marks _ v1 _ w7 HM7.out hn).mono ?_
    rintro e w8 ⟨rfl, hb8⟩
    have C8 := Lib.hid (C7.out.trans (hb8.mono C7.out.size))
    clear hb8
    go_wp2
    go_ret
    exact ⟨rfl, HB1.out.trans (C8.out.mono HB1.out.size)⟩

set_option maxRecDepth 100000 in
theorem lifted (os : Os) (started : os.Started) (H : Type) (enc : TypeId × Value → H) :
    ReturnsInHanded {} Try.checked os 5 .any (Rows.fnExactSplitAnySpec.pre6 enc Try.prog Try.f5 Rows.fnExactSplitAnyRow.domain false) (Rows.fnExactSplitAnySpec.post enc Try.prog Try.f5 false true false false) := by
  refine returnsInHanded_of_change (C := Try.checked) own started (by kernel_rfl) Try.func5
    (ChangeSpec.witness6 (enc := enc) (C := Try.checked) false ⟨#[], #[.string ByteArray.empty, .string ByteArray.empty], []⟩ 8 (by kernel_rfl) (by kernel_rfl) (by kernel_rfl) (by kernel_rfl)) ?_
  intro W base args ds gs before hval0 hW hcnd _
  have hval : ∀ (j : Nat) t v, Try.f5.params[j]? = some t → args[j]? = some v → Value.okWide Try.prog W .any base t v := hval0
  have hW' := hW
  obtain ⟨p, q, hA0, hV, rfl, hfz, hnd⟩ := hW
  have hA : DataW.TrodAll enc Try.prog W 0 (fun _ => true) true Try.f5.params.toList args.toList ds p := hA0
  rw [Try.params5] at hA hval
  obtain ⟨v0, vs0, d0, ds0, p0, q0, hargs, rfl, rfl, h0, r0⟩ := trodAll_cons hA
  obtain ⟨v1, vs1, d1, ds1, p1, q1, rfl, rfl, rfl, h1, r1⟩ := trodAll_cons r0
  obtain ⟨rfl, rfl, rfl⟩ := trodAll_nil r1
  obtain rfl : args = #[v0, v1] := by cases args; simp_all
  obtain ⟨rfl, rfl⟩ := trodVars_none hV
  obtain ⟨a0, rfl, rfl, rfl, w0⟩ := open_string Try.underlying9 (hval 0 9 v0 rfl rfl) h0
  obtain ⟨a1, rfl, rfl, rfl, w1⟩ := open_string Try.underlying9 (hval 1 9 v1 rfl rfl) h1
  clear hA0 hval0
  simp only [List.append_nil] at hW'
  refine (walk a0 a1 w0 w1 W).mono fun e W' ⟨he, bel⟩ => ?_
  subst he
  exact ⟨_, rfl, _, _, _, [], [], [], hW', trodAll_mk1 (shut_bool Try.underlying4 _), (trodAll_cons_mk (shut_string Try.underlying9 w0) (trodAll_cons_mk (shut_string Try.underlying9 w1) trodAll_mk0)), rfl, bel.frame _, fun h => by cases h⟩

theorem proved : Rows.FnExactSplitAnySaid :=
  OpenClaim.holds_of_wide 5 Try.f5 rfl rfl rfl rfl rfl rfl rfl ⟨rfl, rfl, rfl, rfl, rfl⟩ rfl rfl rfl rfl rfl (by kernel_rfl) Try.func5 (by kernel_rfl)
    (of_decide_eq_true (by kernel_rfl)) (by unfold Func.isWrapper; rw [if_neg (of_decide_eq_false (by kernel_rfl))]; exact ⟨rfl, rfl⟩)
    (fun os started H enc _ => lifted os started H enc)
#print axioms proved
end Go.Proofs.Ytglcjfhiekhjoaa.fnExactSplitAny
