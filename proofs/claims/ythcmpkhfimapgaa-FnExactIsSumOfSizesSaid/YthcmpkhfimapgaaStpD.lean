/-
  Helpers of the claims beside this text: the program's SpanOf, StepSizes and SpanSizes.
-/
import Derived.Test.YthcmpkhfimapgaaStpC
import Derived.Test.YthcmpkhfimapgaaStp6
import Derived.Test.YthcmpkhfimapgaaCmp
namespace Go.Proofs.Ythcmpkhfimapgaa.Rhy
open Go.RowKit
set_option linter.unusedVariables false
attribute [local go_sem] Oper.semAt_some wide_fn wide_depth

theorem stepsZ_len (s : Int) (zs : List Int) : (stepsZ s zs).length = zs.length := stepsP_len _ _ _
theorem stepsZ_at (s : Int) (zs : List Int) (k : Nat) (h : k < zs.length) : (stepsZ s zs).getD k 0 = stepAt s zs k := by
  simp [stepsZ, stepsP, List.getD_eq_getElem?_getD, h]
theorem turns_span (s : Int) (zs : List Int) (i len : Nat) (hl : zs.length = len) (h0 : 0 < len) : ∀ k, k ≤ len → ((turnsP s zs i len).take k).sum = spanL (stepsZ s zs) i k := by
  intro k
  induction k with
  | zero => intro _; rfl
  | succ k ih =>
    intro hk
    have e : (turnsP s zs i len)[k]? = some (stepAt s zs ((i + k) % zs.length)) := by simp [turnsP, show k < len by omega]
    rw [sum_snoc e, ih (by omega)]
    simp only [spanL]
    rw [stepsZ_len, stepsZ_at s zs _ (Nat.mod_lt _ (by omega))]

/-- When SpanOf is a span. -/
def SpC (s : Int) (zs : List Int) (i k : Int) : Prop := SpanOk s zs k ∧ 0 ≤ i ∧ i < zs.length
theorem spanB_yes {s : Int} {zs : List Int} {i k : Nat} (h : SpC s zs i k) : spanB s zs i k = ((turnsP s zs i zs.length).take k).sum := by
  obtain ⟨⟨ho, h0, hk0, hk⟩, hi0, hi⟩ := h
  unfold spanB
  rw [stB_yes ho, stepsZ_len, if_pos ⟨⟨hi0, hi⟩, hk0, hk⟩, turns_span s zs i zs.length rfl h0 k (by omega)]
  simp
theorem spanB_no {s : Int} {zs : List Int} {i k : Int} (h : ¬ SpC s zs i k) : spanB s zs i k = 0 := by
  unfold spanB
  rw [if_neg]
  rintro ⟨⟨h1, h2⟩, h3, h4⟩
  by_cases ho : Ok s zs
  · rw [stB_yes ho, stepsZ_len] at h2 h4
    exact h ⟨⟨ho, by omega, h3, h4⟩, h1, h2⟩
  · rw [stB_no ho] at h2
    simp at h2
    omega


set_option maxHeartbeats 400000 in
theorem sorted_any (n lo hi g : Nat) (lb : Array Value) (l : List Int) (w : World) (hG : Gives n lo hi w g lb l) (hE : Enters g) (hn : n ≤ w.heap.size) (hh : hi ≤ w.heap.size) (hl : l.length ≤ 1048576) :
    Calls Try.prog 89 #[.func (.func g) #[] lb] w (IPost (sortZ l) w) := by
  have HC := Lib.hid (collect_any n lo hi g lb l w hG hE hn hh hl)
  have hsl := sortZ_len l
  clear hG hE hn hh
  go_enter Try.func89, Try.ntmps89
  go_wp2_with fail
  refine (HC.out).mono ?_
  rintro e w1 ⟨b, c, rfl, hown, hb⟩
  have HO := Lib.hid hown
  have HB := Lib.hid hb
  clear hown hb
  go_wp2_with fail
  refine (sort_own w.heap.size b l.length c l w1 HO.out hl HB.out.size).mono ?_
  rintro e w2 ⟨rfl, hown, hb⟩
  have HO2 := Lib.hid hown
  have HB2 := Lib.hid hb
  clear hown hb
  go_wp2
  go_ret
  unfold IPost
  rw [hsl]
  exact ⟨b, c, rfl, HO2.out, HB.out.trans HB2.out⟩

theorem compact_to (m B : Nat) (a : Option Addr) (n cap : Nat) (l : List Int) (w : World) (hr : ∀ x ∈ l, 0 ≤ x ∧ x < (m : Nat)) (h : w.ownsRow B 3 1 (.slice a n cap) n (ints (sortZ l))) (hn : n ≤ 4194304) (hB : B ≤ w.heap.size) :
    Calls Try.prog 88 #[.slice a n cap] w fun e w' => e = .returned (.slice a (ofZ m l).length cap) ∧ w'.ownsRow B 3 1 (.slice a (ofZ m l).length cap) (ofZ m l).length (ints (ofZ m l)) ∧ Below B w w' := by
  have h := compact_own B a n cap (sortZ l) w h hn hB
  have e : Lib.compact (sortZ l) = ofZ m l := compact_sort hr
  rw [e] at h
  exact h

set_option maxHeartbeats 400000 in
theorem different_any (m n lo hi g : Nat) (lb : Array Value) (l : List Int) (w : World) (hG : Gives n lo hi w g lb l) (hE : Enters g) (hn : n ≤ w.heap.size) (hh : hi ≤ w.heap.size) (hl : l.length ≤ 1048576) (hr : ∀ x ∈ l, 0 ≤ x ∧ x < (m : Nat)) :
    Calls Try.prog 67 #[.func (.func g) #[] lb] w (IPost (ofZ m l) w) := by
  have HC := Lib.hid (sorted_any n lo hi g lb l w hG hE hn hh hl)
  have HR := Lib.hid hr
  have HSL := Lib.hid (sortZ_len l)
  clear hG hE hn hh hr
  go_enter Try.func67, Try.ntmps67
  go_wp2_with fail
  refine (HC.out).mono ?_
  rintro e w1 ⟨b, c, rfl, hown, hb⟩
  have HO := Lib.hid hown
  have HB := Lib.hid hb
  clear hown hb
  go_wp2_with fail
  refine (compact_to m w.heap.size b (sortZ l).length c l w1 HR.out HO.out (by have := HSL.out; omega) HB.out.size).mono ?_
  rintro e w2 ⟨rfl, hown, hb⟩
  have HO2 := Lib.hid hown
  have HB2 := Lib.hid hb
  clear hown hb
  go_wp2
  go_ret
  exact ⟨b, c, rfl, HO2.out, HB.out.trans HB2.out⟩

set_option maxHeartbeats 400000 in
theorem sizes_impl (s : Int) (a : Option Addr) (len cap : Nat) (zs : List Int) (w : World) (h : IntsAt w a len zs) (hm : zs.length ≤ 1048576) :
    Calls Try.prog 31 #[rhy s a len cap] w (IPost (sizeB s zs) w) := by
  have HS := Lib.hid h
  have hl' : len ≤ 1048576 := by have := h.1; omega
  clear h
  obtain ⟨l, hl⟩ : ∃ l, l = stB s zs := ⟨_, rfl⟩
  have HC := Lib.hid (fun w2 hb => iter_any s a len cap zs w w2 HS.out hb hl')
  have HV := Lib.hid (show sizeB s zs = ofZ 25 l by rw [hl]; rfl)
  have hlen : l.length ≤ 24 := by rw [hl]; exact stB_len s zs
  have HBD := Lib.hid (show ∀ x ∈ l, 0 ≤ x ∧ x < (25 : Nat) by rw [hl]; intro x hx; have := stB_bd s zs x hx; omega)
  rw [← hl] at HC
  rw [HV.out]
  clear hl
  go_enter Try.func31, Try.ntmps31
  go_wp2_with fail
  have B0 := Lib.hid (bel1 w (.cells #[.int .i64 s, .slice a len cap] 26))
  refine (HC.out _ B0.out).mono ?_
  rintro e w1 ⟨lo, rfl, h1, h2, h3, h4⟩
  have B1 := Lib.hid (B0.out.trans (h3.mono B0.out.size))
  have HG := Lib.hid (different_any 25 w.heap.size lo (lo + 2) _ _ l w1 h4 enters_steps B1.out.size h2 (by omega) HBD.out)
  clear h1 h2 h3 h4
  go_wp2_with fail
  refine HG.out.mono ?_
  rintro e w2 ⟨b, c, rfl, hown, hb⟩
  have HO := Lib.hid hown
  have HB := Lib.hid hb
  clear hown hb
  go_wp2
  go_ret
  exact ⟨b, c, rfl, own_base HO.out B1.out.size, B1.out.trans (HB.out.mono B1.out.size)⟩
end Go.Proofs.Ythcmpkhfimapgaa.Rhy
