/-
  Helpers of the claims beside this text: the program's SpanSizes.
-/
import Derived.Test.YthcmpkhfimapgaaStpD
namespace Go.Proofs.Ythcmpkhfimapgaa.Rhy
open Go.RowKit
set_option linter.unusedVariables false
attribute [local go_sem] Oper.semAt_some wide_fn wide_depth

/-- The spans of k steps, one for each beat. -/
def spansT (s : Int) (zs : List Int) (k n : Nat) : List Int := (List.range n).map fun i => ((turnsP s zs i zs.length).take k).sum
theorem spansT_len (s : Int) (zs : List Int) (k n : Nat) : (spansT s zs k n).length = n := by simp [spansT]
theorem spansT_at (s : Int) (zs : List Int) (k n i : Nat) (h : i < n) : (spansT s zs k n)[i]?.getD 0 = ((turnsP s zs i zs.length).take k).sum := by simp [spansT, h]
theorem spansT_eq {s : Int} {zs : List Int} (ho : Ok s zs) (h0 : 0 < zs.length) {k : Nat} (hk : k ≤ zs.length) : spansT s zs k zs.length = spansL (stB s zs) k (stB s zs).length := by
  rw [stB_yes ho, stepsZ_len]
  unfold spansT spansL
  refine List.map_congr_left fun i hi => ?_
  exact turns_span s zs i zs.length rfl h0 k hk

set_option maxHeartbeats 2000000 in
theorem spans_gives (s : Int) (a : Option Addr) (len cap : Nat) (zs : List Int) (k : Nat) (w0 w : World) (lo : Nat) (h : IntsAt w0 a len zs) (hb : Below w0.heap.size w0 w) (hm : len ≤ 1048576) (ho : Ok s zs) (hk : k ≤ len)
    (hT : Two w lo (.int .i64 s) (.slice a len cap)) (hI : w.cell? ⟨lo + 1, 0, none⟩ = some (.int .i64 k)) (hlo : lo + 2 ≤ w.heap.size) :
    Gives w0.heap.size lo (lo + 2) w 125 #[.pointer (some ⟨lo, 0, none⟩), .pointer (some ⟨lo + 1, 0, none⟩)] (spansT s zs k len) := by
  intro m l J Jx W hW hJ hJx hY h0
  have HS := Lib.hid h
  have hlen := h.len
  have hl24 : len ≤ 24 := by have := ok_len ho; omega
  have HHB := Lib.hid (hb.trans (hW.mono hb.size))
  have HO := Lib.hid ho
  have HT := Lib.hid (hT.keep hW)
  have HV := Lib.hid ((hW.cell (p := ⟨lo + 1, 0, none⟩) (by show lo + 1 < _; omega)).trans hI)
  have HJ := Lib.hid hJ
  have HY := Lib.hid hY
  have hlW : lo + 2 ≤ W.heap.size := by have := hW.size; omega
  clear h hb ho hT hI hJ hJx hY hW
  obtain ⟨x0, x1, x2⟩ := HT.out
  have x3 := HV.out
  refine callsIn_of_wp Try.func125 rfl trivial ?_ rfl
  simp only [Try.ntmps125, List.size_toArray, List.length_cons, List.length_nil, Nat.reduceAdd, Nat.reduceSub, Array.replicate_succ, Array.replicate_zero, List.push_toArray, List.append_toArray, List.nil_append, List.cons_append]
  gi_wp2
  gi_loopw [8] (fun i wr => ∃ j : Nat, j ≤ len ∧ i = .int .i64 j ∧ J (List.range j) wr ∧ Kp w0.heap.size lo (lo + 2) W wr ∧ W.heap.size ≤ wr.heap.size) (fun i _ => len - (intOf i).toNat)
  case atStart => exact ⟨0, Nat.zero_le _, rfl, h0, Kp.refl _ _ _ _, Nat.le_refl _⟩
  case round =>
    obtain ⟨j, hj, rfl, hJs, hkp, hsz⟩ := hrel
    have HJS := Lib.hid hJs
    have HK := Lib.hid hkp
    have HZ := Lib.hid hsz
    have y0 : lo < wr.heap.size := by omega
    have y1 : wr.cell? ⟨lo, 0, none⟩ = some (.int .i64 s) := (hkp.cell (p := ⟨lo, 0, none⟩) (Nat.le_refl _) (by show lo < lo + 2; omega)).trans x1
    have y2 : wr.cell? ⟨lo, 1, none⟩ = some (.slice a len cap) := (hkp.cell (p := ⟨lo, 1, none⟩) (Nat.le_refl _) (by show lo < lo + 2; omega)).trans x2
    have y3 : wr.cell? ⟨lo + 1, 0, none⟩ = some (.int .i64 k) := (hkp.cell (p := ⟨lo + 1, 0, none⟩) (by show lo ≤ lo + 1; omega) (by show lo + 1 < lo + 2; omega)).trans x3
    clear hJs hkp hsz x0 x1 x2 x3 h0
    by_cases hlt : j < len
    · have HC := Lib.hid (span_any s a len cap zs j k w0 wr HS.out (HHB.out.trans HK.out.1) hm HO.out hlt hk)
      have HAT : Hid ((spansT s zs k len)[j]?.getD 0 = ((turnsP s zs j len).take k).sum) := Lib.hid (by rw [spansT_at s zs k len j hlt, hlen])
      have HYY : Hid (∀ w2, Below wr.heap.size wr w2 → YieldAt Fence.wide (m - 1) Try.prog l #[.int .i64 ((turnsP s zs j len).take k).sum] w2 fun e W' => ∃ b, e = .returned (.bool b) ∧ (b = true → J (List.range (j + 1)) W' ∧ Kp w0.heap.size lo (lo + 2) W W' ∧ W.heap.size ≤ W'.heap.size) ∧ (b = false → Jx (List.range (j + 1)) W')) := by
        intro w2 hb3
        have hn0 : w0.heap.size ≤ wr.heap.size := by have := HHB.out.size; have := HZ.out; omega
        have hy := HY.out (List.range j) j w2 (HJ.out _ wr w2 none HJS.out (grown_of_below hb3 none) (fun r e => by cases e)) (by rw [spansT_len, List.length_range]; exact hlt)
        rw [HAT.out] at hy
        refine hy.mono ?_
        rintro e W' (⟨rfl, hj, hkp⟩ | ⟨rfl, hj⟩)
        · exact ⟨true, rfl, fun _ => ⟨by rw [List.range_succ]; exact hj, (HK.out.t (Kp.of_below hb3 hn0 (by have := HZ.out; omega))).t hkp, by have := HZ.out; have := hb3.size; have := hkp.1.size; omega⟩, fun h => by cases h⟩
        · exact ⟨false, rfl, (fun h => by cases h), fun _ => by rw [List.range_succ]; exact hj⟩
      clear hlen
      gi_wp2_with (first
        | (gi_at_call 126; refine (callsIn_wide.2 HC.out).mono ?_; rintro e w2 ⟨rfl, hb2⟩; obtain ⟨fn, tmps, assign, body, hy, hR⟩ := HYY.out w2 hb2)
        | (refine hR.mono ?_; rintro e W3 ⟨b, rfl, hb⟩; cases b))
      · have hj := hb.2 trivial
        refine bodyPost_ret (results_none rfl _ _ _) rfl ?_
        exact ⟨⟨_, rfl⟩, .inr ⟨_, range_pre (by rw [spansT_len]; omega), hj⟩⟩
      · obtain ⟨hj, hkp2, hsz2⟩ := hb.1 trivial
        go_roundw
        case rel => exact ⟨j + 1, by omega, by go_num, hj, hkp2, hsz2⟩
        case measure => simp [intOf]; omega
    · obtain rfl : j = len := by omega
      gi_wp2
      go_end0
      exact ⟨⟨_, rfl⟩, .inl ⟨_, by rw [spansT_len], HJS.out⟩⟩

theorem enters_spans : Enters 125 := enters_of Try.func125 (by kernel_rfl) rfl

theorem spansIter_any (s : Int) (a : Option Addr) (len cap : Nat) (zs : List Int) (k : Nat) (w0 w : World) (h : IntsAt w0 a len zs) (hb : Below w0.heap.size w0 w) (hm : len ≤ 1048576) (ho : Ok s zs) (hk : k ≤ len) :
    Calls Try.prog 112 #[rhy s a len cap, .int .i64 k] w fun e w' => ∃ lo, e = .returned (.func (.func 125) #[] #[.pointer (some ⟨lo, 0, none⟩), .pointer (some ⟨lo + 1, 0, none⟩)]) ∧ lo + 2 ≤ w'.heap.size ∧ Below w.heap.size w w' ∧
      Gives w0.heap.size lo (lo + 2) w' 125 #[.pointer (some ⟨lo, 0, none⟩), .pointer (some ⟨lo + 1, 0, none⟩)] (spansT s zs k len) := by
  have HS := Lib.hid h
  have HB := Lib.hid hb
  have HO := Lib.hid ho
  clear h hb ho
  go_enter Try.func112, Try.ntmps112
  go_wp2
  go_ret
  have b2 := bel2 w (.cells #[.int .i64 s, .slice a len cap] 26) (.cells #[.int .i64 k] 3)
  refine ⟨w.heap.size, rfl, by simp, b2, ?_⟩
  refine spans_gives s a len cap zs k w0 _ w.heap.size HS.out (HB.out.trans (b2.mono HB.out.size)) hm HO.out hk ((two_new w _ _ _).keep (bel1 _ _)) ?_ (by simp)
  simp

set_option maxHeartbeats 400000 in
theorem spans_impl (s : Int) (a : Option Addr) (len cap : Nat) (zs : List Int) (k : Int) (w : World) (h : IntsAt w a len zs) (hm : zs.length ≤ 1048576) (hk1 : -9223372036854775808 ≤ k) (hk2 : k ≤ 9223372036854775807) :
    Calls Try.prog 87 #[rhy s a len cap, .int .i64 k] w (IPost (spansB s zs k) w) := by
  have HS := Lib.hid h
  have hl' : len ≤ 1048576 := by have := h.1; omega
  have hlen := h.len
  clear h
  by_cases hc : SpanOk s zs k
  · have HC := Lib.hid hc
    obtain ⟨ho, h0, hk0, hkn⟩ := hc
    obtain ⟨q, rfl⟩ : ∃ q : Nat, k = q := ⟨k.toNat, by omega⟩
    obtain ⟨l, hl⟩ : ∃ l, l = spansT s zs q len := ⟨_, rfl⟩
    have HE := Lib.hid (show spansB s zs q = ofZ 577 l by
      unfold spansB
      rw [cZ_yes ⟨by rw [stB_yes ho, stepsZ_len]; exact h0, hk0, by rw [stB_yes ho, stepsZ_len]; exact hkn⟩, hl, ← hlen, spansT_eq ho h0 (by omega)]
      rfl)
    have HI := Lib.hid (fun w2 hb => spansIter_any s a len cap zs q w w2 HS.out hb hl' ho (by omega))
    have HBD := Lib.hid (show ∀ x ∈ l, 0 ≤ x ∧ x < (577 : Nat) by
      rw [hl, ← hlen, spansT_eq ho h0 (by omega)]
      exact spansL_bd (stB_bd s zs) (by have := ok_len ho; omega))
    have hll : l.length ≤ 24 := by rw [hl, spansT_len]; have := ok_len ho; omega
    rw [← hl] at HI
    rw [HE.out]
    clear ho hlen hl
    go_enter Try.func87, Try.ntmps87
    go_wp2_with fail
    refine (has_spans s a len cap zs q _ (HS.out.below (bel1 w _)) hl' hk1 hk2).mono ?_
    rintro e w1 ⟨rfl, hb1⟩
    rw [cB_yes HC.out]
    have B1 := Lib.hid ((bel1 w (.cells #[.int .i64 s, .slice a len cap] 26)).trans (hb1.mono (by simp)))
    have T1 := Lib.hid ((two_new w (.int .i64 s) (.slice a len cap) 26).keep hb1)
    obtain ⟨t1, t1a, t1b⟩ := T1.out
    clear hb1
    go_wp2_with fail
    refine (HI.out w1 B1.out).mono ?_
    rintro e w2 ⟨lo, rfl, h2, h3, h4⟩
    have B2 := Lib.hid (B1.out.trans (h3.mono B1.out.size))
    have HG := Lib.hid (different_any 577 w.heap.size lo (lo + 2) _ _ l w2 h4 enters_spans B2.out.size h2 (by omega) HBD.out)
    clear h2 h3 h4
    go_wp2_with fail
    refine HG.out.mono ?_
    rintro e w3 ⟨b, c, rfl, hown, hb⟩
    have HO := Lib.hid hown
    have HB := Lib.hid hb
    clear hown hb
    go_wp2
    go_ret
    exact ⟨b, c, rfl, own_base HO.out B2.out.size, B2.out.trans (HB.out.mono B2.out.size)⟩
  · have HC := Lib.hid hc
    have HE := Lib.hid (show spansB s zs k = [] by
      unfold spansB
      refine cZ_no ?_
      rintro ⟨h1, h2, h3⟩
      by_cases ho : Ok s zs
      · rw [stB_yes ho, stepsZ_len] at h1 h3
        exact hc ⟨ho, h1, h2, h3⟩
      · rw [stB_no ho] at h1
        simp at h1)
    rw [HE.out]
    clear hc hlen
    go_enter Try.func87, Try.ntmps87
    go_wp2_with fail
    refine (has_spans s a len cap zs k _ (HS.out.below (bel1 w _)) hl' hk1 hk2).mono ?_
    rintro e w1 ⟨rfl, hb1⟩
    rw [cB_no HC.out]
    have B1 := Lib.hid ((bel1 w (.cells #[.int .i64 s, .slice a len cap] 26)).trans (hb1.mono (by simp)))
    clear hb1
    go_wp2
    go_ret
    exact ⟨none, 0, rfl, World.ownsRow_nil _ _ _ _, B1.out⟩
end Go.Proofs.Ythcmpkhfimapgaa.Rhy
