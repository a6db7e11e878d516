/-
  Helpers of the claims beside this text: the program's rests and spans.
-/
import Derived.Test.YthcmpkhfimapgaaStpB
import Derived.Test.YthcmpkhfimapgaaStp3
namespace Go.Proofs.Ythcmpkhfimapgaa.Rhy
open Go.RowKit
set_option linter.unusedVariables false
attribute [local go_sem] Oper.semAt_some wide_fn wide_depth

theorem restsL_app (l : List Int) (x : Int) : restsL (l ++ [x]) = restsL l + (if 1 < x then 1 else 0) := by
  unfold restsL
  by_cases h : 1 < x
  · simp [List.filter_append, h]
  · simp [List.filter_append, h]


/-- When a rhythm has spans of k steps. -/
def SpanOk (s : Int) (zs : List Int) (k : Int) : Prop := Ok s zs ∧ 0 < zs.length ∧ 0 ≤ k ∧ k ≤ zs.length

set_option maxHeartbeats 400000 in
theorem has_spans (s : Int) (a : Option Addr) (len cap : Nat) (zs : List Int) (k : Int) (w : World) (h : IntsAt w a len zs) (hm : len ≤ 1048576) (hk1 : -9223372036854775808 ≤ k) (hk2 : k ≤ 9223372036854775807) :
    Calls Try.prog 111 #[rhy s a len cap, .int .i64 k] w fun e w' => e = .returned (.bool (cB (SpanOk s zs k))) ∧ Below w.heap.size w w' := by
  have HS := Lib.hid h
  have hlen := h.len
  clear h
  by_cases ho : Ok s zs
  · have HO := Lib.hid ho
    have HC : Hid (∀ b : Bool, (b = true ↔ 0 < zs.length ∧ 0 ≤ k ∧ k ≤ zs.length) → b = cB (SpanOk s zs k)) := Lib.hid (by
      intro b hb
      by_cases hc : SpanOk s zs k
      · rw [cB_yes hc]; exact hb.2 hc.2
      · rw [cB_no hc]
        cases b with
        | false => rfl
        | true => exact absurd ⟨HO.out, hb.1 rfl⟩ hc)
    rw [hlen] at HC
    clear ho hlen
    go_enter Try.func111, Try.ntmps111
    go_wp2_with fail
    refine (valid_yes s a len cap zs _ (HS.out.below (bel1 w _)) hm HO.out).mono ?_
    rintro e w1 ⟨rfl, hb1⟩
    have B1 := Lib.hid ((bel1 w (.cells #[.int .i64 s, .slice a len cap] 26)).trans (hb1.mono (by simp)))
    have T1 := Lib.hid ((two_new w (.int .i64 s) (.slice a len cap) 26).keep hb1)
    obtain ⟨t1, t1a, t1b⟩ := T1.out
    clear hb1
    go_wp2
    all_goals (go_ret; exact ⟨ret_bool (HC.out _ (by simp; try omega)), B1.out⟩)
  · have HO := Lib.hid ho
    have HE := Lib.hid (show cB (SpanOk s zs k) = false from cB_no (fun q => ho q.1))
    clear ho
    go_enter Try.func111, Try.ntmps111
    go_wp2_with fail
    refine (valid_no s a len cap zs _ (HS.out.below (bel1 w _)) hm HO.out).mono ?_
    rintro e w1 ⟨rfl, hb1⟩
    have B1 := Lib.hid ((bel1 w (.cells #[.int .i64 s, .slice a len cap] 26)).trans (hb1.mono (by simp)))
    clear hb1
    go_wp2
    go_ret
    exact ⟨ret_bool HE.out.symm, B1.out⟩

set_option maxHeartbeats 1000000 in
theorem span_any (s : Int) (a : Option Addr) (len cap : Nat) (zs : List Int) (i k : Nat) (w0 w : World) (h : IntsAt w0 a len zs) (hb : Below w0.heap.size w0 w) (hm : len ≤ 1048576) (ho : Ok s zs) (hi : i < len) (hk : k ≤ len) :
    Calls Try.prog 126 #[rhy s a len cap, .int .i64 i, .int .i64 k] w fun e w' => e = .returned (.int .i64 ((turnsP s zs i len).take k).sum) ∧ Below w.heap.size w w' := by
  have hl24 : len ≤ 24 := by have := ok_len ho; have := h.len; omega
  have HC := Lib.hid (fun w2 hb2 => stepsFrom_any s a len cap zs i w w2 (h.below hb) hb2 hm (fun _ => ⟨ho, hi⟩))
  obtain ⟨l, hl⟩ : ∃ l, l = turnsP s zs i len := ⟨_, rfl⟩
  have HBD := Lib.hid (show ∀ x, (x ∈ l ∨ x = 0) → 0 ≤ x ∧ x ≤ 24 by
    rintro x (hx | rfl)
    · rw [hl] at hx
      unfold turnsP at hx
      rw [List.mem_map] at hx
      obtain ⟨j, hj, rfl⟩ := hx
      have := step_bd ho (k := (i + j) % zs.length) (Nat.mod_lt _ (by have := h.len; omega))
      have := ho.1
      omega
    · omega)
  have hll : l.length = len := by rw [hl]; exact turnsP_len s zs i len
  rw [← hl] at HC ⊢
  clear hl h hb ho
  refine (callsIn_wide (n := 9)).1 ?_
  refine callsIn_of_wp_marks Try.func126 rfl trivial ?_ rfl
  simp only [Try.ntmps126, List.size_toArray, List.length_cons, List.length_nil, Nat.reduceAdd, Nat.reduceSub, Array.replicate_succ, Array.replicate_zero, List.push_toArray, List.append_toArray, List.nil_append, List.cons_append]
  gi_wp2_with fail
  obtain ⟨g, hg⟩ : ∃ g, g = w.heap.size := ⟨_, rfl⟩
  obtain ⟨W0, hW⟩ : ∃ W0, W0 = ((w.alloc (.cells #[.int .i64 s, .slice a len cap] 26)).alloc (.cells #[.int .i64 0] 3)).alloc (.cells #[.int .i64 k] 3) := ⟨_, rfl⟩
  rw [← hW]
  have B0 := Lib.hid (show Below w.heap.size w W0 by rw [hW]; exact bel3 w _ _ _)
  have V0 := Lib.hid (show Boxed W0 (g + 1) 3 (.int .i64 0) by rw [hW, hg]; simpa using (Boxed.new (w.alloc (.cells #[.int .i64 s, .slice a len cap] 26)) 3 (.int .i64 0)).alloc (.cells #[.int .i64 k] 3))
  have U0 := Lib.hid (show Boxed W0 (g + 2) 3 (.int .i64 k) by rw [hW, hg]; simpa using Boxed.new ((w.alloc (.cells #[.int .i64 s, .slice a len cap] 26)).alloc (.cells #[.int .i64 0] 3)) 3 (.int .i64 k))
  have HG0 := Lib.hid hg
  rw [← hg]
  clear hW hg
  refine (callsIn_wide.2 (HC.out W0 B0.out)).mono ?_
  rintro e w1 ⟨lo, rfl, h1, h2, h3, h4⟩
  have H2 := Lib.hid h2
  have B1 := Lib.hid (B0.out.trans (h3.mono B0.out.size))
  have V1 := Lib.hid (V0.out.kept (grown_of_below h3 none) (by simp))
  have U1 := Lib.hid (U0.out.kept (grown_of_below h3 none) (by simp))
  have HG := Lib.hid h4
  have hlo : g + 2 < lo := by have := U0.out.lt; omega
  have hgw : w.heap.size ≤ g := by have := HG0.out; omega
  clear h1 h2 h3 h4
  gi_wp2
  refine wp_range (n := w.heap.size) (lo := lo) (hi := lo + 2) (by omega) rfl enters_steps HG.out B1.out.size H2.out
    (fun pre W => ((Boxed W (g + 1) 3 (.int .i64 pre.sum) ∧ Boxed W (g + 2) 3 (.int .i64 ((k : Int) - pre.length))) ∧ pre.length ≤ k ∧ ∀ y ∈ pre, 0 ≤ y ∧ y ≤ 24) ∧ Below w.heap.size w W)
    (fun c pre W => ((c = .exit 0 ∧ k < pre.length) ∧ Boxed W (g + 1) 3 (.int .i64 (pre.take k).sum)) ∧ Below w.heap.size w W)
    (OwnFrom.and (OwnFrom.and (OwnFrom.and (Own.from (boxed_own _ _ (fun pre : List Int => .int .i64 pre.sum)) _) (Own.from (boxed_own _ _ (fun pre : List Int => .int .i64 ((k : Int) - pre.length))) _)) (ownFrom_pure _ (fun pre : List Int => pre.length ≤ k ∧ ∀ y ∈ pre, 0 ≤ y ∧ y ≤ 24))) (ownFrom_below (Nat.le_refl _) B1.out.size))
    (fun c => OwnFrom.and (OwnFrom.and (ownFrom_pure _ (fun pre : List Int => c = .exit 0 ∧ k < pre.length)) (Own.from (boxed_own _ _ (fun pre : List Int => .int .i64 (pre.take k).sum)) _)) (ownFrom_below (Nat.le_refl _) B1.out.size))
    ⟨⟨⟨V1.out, by simpa using U1.out⟩, by simp, by simp⟩, B1.out⟩
    (fun x => { tmps := #[rhy s a len cap, .int .i64 i, .int .i64 k, .pointer (some ⟨g, 0, none⟩), undef, undef, .int .i64 0, .pointer (some ⟨g + 1, 0, none⟩), .pointer (some ⟨g + 1 + 1, 0, none⟩), .int .i64 x, .int .i64 k, .agg #[.int .i64 s, .slice a len cap], .int .i64 i, .func (.func 114) #[] #[.pointer (some ⟨lo, 0, none⟩), .pointer (some ⟨lo + 1, 0, none⟩)], .int .i64 x, undef, undef, undef, undef, undef, undef, undef, undef], defers := [] }) ?assign ?body ?done ?stop
  case assign =>
    intro q x W K hK
    gi_wp2
    exact hK
  case body =>
    rintro q pre x W ⟨⟨⟨hv, hu⟩, hpk, hbd⟩, hB⟩ hlt hx
    obtain ⟨hx1, hx2⟩ := HBD.out x hx
    have hc := hv.cell
    have hf := hv.frozen
    have hc2 := hu.cell
    have hf2 := hu.frozen
    have HB := Lib.hid hbd
    have hsb := sum_bd hbd pre.length (Nat.le_refl _)
    rw [List.take_length] at hsb
    obtain ⟨hs1, hs2⟩ := hsb
    obtain ⟨n, hn⟩ : ∃ n, n = (k : Int) - pre.length := ⟨_, rfl⟩
    have HN := Lib.hid hn
    have HV := Lib.hid hv
    have HU := Lib.hid hu
    rw [← hn] at hc2
    clear hx hbd hv hu hn
    by_cases h0 : pre.length = k
    · have hq : (n == 0) = true := by have := HN.out; simp; omega
      have HE := Lib.hid (show (((pre ++ [x]).take k).sum : Int) = pre.sum by rw [← h0, List.take_left])
      gi_wp2
      exact ⟨KeepsFrom.refl _ _, ⟨⟨rfl, by simp; omega⟩, by rw [HE.out]; exact HV.out⟩, hB⟩
    · have hq : (n == 0) = false := by have := HN.out; simp; omega
      have HE := Lib.hid (show ((pre ++ [x]).sum : Int) = pre.sum + x by simp)
      have HL := Lib.hid (show (k : Int) - (pre ++ [x]).length = n - 1 by have := HN.out; simp; omega)
      have hnb : 0 ≤ n ∧ n ≤ 24 := by have := HN.out; omega
      obtain ⟨hn1, hn2⟩ := hnb
      obtain ⟨S, hS⟩ : ∃ S, S = pre.sum := ⟨_, rfl⟩
      rw [← hS] at hs1 hs2 hc HE HV
      have HPK := Lib.hid (show (pre ++ [x]).length ≤ k by simp; omega)
      have HBX := Lib.hid (show ∀ y ∈ pre ++ [x], 0 ≤ y ∧ y ≤ 24 by intro y hy; rw [List.mem_append] at hy; rcases hy with hy | hy; exact HB.out y hy; have : y = x := (by simpa using hy); omega)
      have hlen24 : (pre.length : Int) ≤ 24 := by omega
      clear hS
      gi_wp2
      refine ⟨((KeepsOthers.setCell _ _ _).trans (KeepsOthers.setCell _ _ _)).from _, (Kp.set W (g + 1) (by omega) (.inl (by omega)) 0 _).t (Kp.set _ (g + 2) (by omega) (.inl (by omega)) 0 _), ⟨⟨?_, ?_⟩, HPK.out, HBX.out⟩, ?_⟩
      · rw [HE.out]
        exact (HV.out.set _).other (by omega) _
      · rw [HL.out]
        exact (HU.out.other (B' := g + 1) (by omega) _).set _
      · exact (hB.setCell (p := ⟨g + 1, 0, none⟩) (by show w.heap.size ≤ g + 1; omega) _).setCell (p := ⟨g + 1 + 1, 0, none⟩) (by show w.heap.size ≤ g + 1 + 1; omega) _
  case done =>
    rintro D W hD ⟨⟨⟨hv, hu⟩, hpk, hbd⟩, hB⟩ hK
    have hc := hv.cell
    have hB2 := hB.trans (belowK_b (w := w) (Nat.le_refl _) W D _ (.deferred none) (by have := B1.out.size; omega) hK rfl rfl)
    have HE := Lib.hid (show (l.take k).sum = l.sum by rw [List.take_of_length_le (by omega)])
    gi_wp2
    rw [HE.out]
    exact leave_mark _ hK (results_tmp rfl _ _ _) ⟨rfl, hB2⟩
  case stop =>
    rintro D c pre W hD hpre ⟨⟨⟨rfl, hlt⟩, hv⟩, hB⟩ hK
    have hc := hv.cell
    have hB2 := hB.trans (belowK_b (w := w) (Nat.le_refl _) W D _ (.deferred none) (by have := B1.out.size; omega) hK rfl rfl)
    have HE := Lib.hid (show pre.take k = l.take k by
      obtain ⟨t, rfl⟩ := hpre
      rw [List.take_append_of_le_length (by omega)])
    rw [HE.out] at hc
    gi_wp2
    exact leave_mark _ hK (results_tmp rfl _ _ _) ⟨rfl, hB2⟩
end Go.Proofs.Ythcmpkhfimapgaa.Rhy
