/-
  Helpers of the claims beside this text: the law on CountPartners, as goroutine 0 runs it.
-/
import Derived.Test.YtgmhdmhnedljcaaGpr
import Derived.Test.YtgmhdmhnedljcaaFnd
import Derived.Test.YtgmhdmhnedljcaaOpen
namespace Go.Proofs.Ytgmhdmhnedljcaa.Co
open Go Go.Conc Go.RowKit Rhy
set_option linter.unusedVariables false
set_option linter.unusedSimpArgs false
set_option maxRecDepth 100000
theorem intsAt_keep {w w' : World} {a : Option Addr} {len : Nat} {zs : List Int} (h : IntsAt w a len zs) (hb : KeepW w w') (T : Nat → Question → Nat) : IntsAt (tp w' T 0) a len zs := intsAt_same h (keepW_tp hb T 0)
set_option maxHeartbeats 4000000 in
theorem cou_walk {Post : Value → World → Prop} {F : FuncId → Bool} (hP : PlainFns Try.prog F) (hFs : F 32 = true) (hFh : F 24 = true) (hF1 : F 6 = true) (hF2 : F 8 = true) (hF3 : F 15 = true) (hF4 : F 11 = true)
    (s0 : Int) (a0 : Option Addr) (len0 cap0 : Nat) (z0 : List Int) (w : World) (w0 : Opened w s0 a0 len0 z0) (hp : NoPend Try.prog w) (hG : ∀ r, Try.prog.stepOf r ≠ none → r < w.heap.size)
    (K : ∀ (fr : Frame) (w' : World), StopAt Try.prog 4 (fun v _ => v = .bool true) fr w' → KeepW w w' → w'.tape = w.tape → NoPend Try.prog w' → Run Try.prog Post (G fr []) w') :
    Run Try.prog Post (G (Frame.enter Try.prog 4 #[rhy s0 a0 len0 cap0] .normal) []) w := by
  have hB := bodied hP
  obtain ⟨i0, m0, sl0, su0⟩ := w0
  have HS0 := Lib.hid i0
  clear i0
  rw [enter_at _ Try.func4 rfl]
  simp only [Try.ntmps4, List.size_toArray, List.length_cons, List.length_nil, Nat.reduceAdd, Nat.reduceSub, Array.replicate_succ, Array.replicate_zero, List.push_toArray, List.append_toArray, List.nil_append, List.cons_append]
  obtain ⟨w1, hw1⟩ : ∃ w1, w1 = w.alloc (.cells #[.int .i64 s0, .slice a0 len0 cap0] 24) := ⟨_, rfl⟩
  have HW1 := Lib.hid hw1
  clear hw1
  have HK1 := Lib.hid (show KeepW w w1 by rw [HW1.out]; exact keepW_alloc w _)
  have HU1 := Lib.hid (show Rhy.Two w1 w.heap.size (.int .i64 s0) (.slice a0 len0 cap0) by rw [HW1.out]; exact two_new w _ _ _)
  have HT1 := Lib.hid (show w1.tape = w.tape by rw [HW1.out]; rfl)
  obtain ⟨t0, t1, t2⟩ := HU1.out
  repeat refine Run.seq ?_
  refine Run.region ?_
  simp only [List.size_toArray, List.length_cons, List.length_nil, Nat.reduceAdd, Nat.zero_add, List.range, List.range.loop]
  refine Run.val hB (.pointer (some ⟨w.heap.size, 0, none⟩)) w1 rfl (by rfl) (by simp [base]) rfl hp (fun d => by rw [HW1.out]; go_simp; exact ⟨rfl, rfl⟩) (fun hp => ?_)
  walk_nrm
  refine Run.val hB (.bool false) w1 rfl (by rfl) (by simp [base]) rfl hp (fun d => by go_simp) (fun hp => ?_)
  walk_nrm
  refine Run.regionEnd ?_
  repeat refine Run.seq ?_
  refine Run.region ?_
  simp only [List.size_toArray, List.length_cons, List.length_nil, Nat.reduceAdd, Nat.zero_add, List.range, List.range.loop]
  refine Run.val hB (.int .i64 1048576) w1 rfl (by rfl) (by simp [base]) rfl hp (fun d => by go_simp) (fun hp => ?_)
  walk_nrm
  refine Run.regionEnd ?_
  repeat refine Run.seq ?_
  refine Run.region ?_
  simp only [List.size_toArray, List.length_cons, List.length_nil, Nat.reduceAdd, Nat.zero_add, List.range, List.range.loop]
  refine Run.val hB (rhy s0 a0 len0 cap0) w1 rfl (by rfl) (by simp [base]) rfl hp (fun d => by
      have x0' : (w1.at d).cell? ⟨w.heap.size, 0, none⟩ = some (.int .i64 s0) := t1
      have x1' : (w1.at d).cell? ⟨w.heap.size, 1, none⟩ = some (.slice a0 len0 cap0) := t2
      go_simp) (fun hp => ?_)
  walk_nrm
  refine Run.val hB (.int .i64 1048576) w1 rfl (by rfl) (by simp [base]) rfl hp (fun d => by go_simp) (fun hp => ?_)
  walk_nrm
  refine Run.plain hP (f := 6) (args := #[rhy s0 a0 len0 cap0, .int .i64 1048576]) rfl (by rfl) (by simp [base]) hF1 hF1 hp (fun d => by go_simp) (fun v _ => ∃ r : Int, v = .int .i64 r ∧ (r < 0 ∨ (0 ≤ r ∧ len0 ≤ 1048576))) (fun _ _ _ _ h => h) (fun T => (size_rhythm s0 1048576 a0 len0 cap0 (tp w1 T 0) m0 (by omega) (by omega)).mono fun e w' he => by
    obtain ⟨⟨r, h1, h2, _⟩, h3⟩ := he
    exact ⟨_, h1, ⟨r, rfl, by omega⟩, h3⟩) (fun v w2 hv hk2 hT2 hp => ?_)
  obtain ⟨r0, rfl, hr⟩ := hv
  have HK2 := Lib.hid (HK1.out.trans hk2)
  have HT2 := Lib.hid (hT2.trans HT1.out)
  have HU2 := Lib.hid (hk2.two HU1.out)
  clear hk2 hT2 t0 t1 t2
  obtain ⟨t0, t1, t2⟩ := HU2.out
  walk_nrm
  refine Run.val hB (.int .i64 r0) w2 rfl (by rfl) (by simp [base]) rfl hp (fun d => by go_simp) (fun hp => ?_)
  walk_nrm
  refine Run.regionEnd ?_
  repeat refine Run.seq ?_
  refine Run.region ?_
  simp only [List.size_toArray, List.length_cons, List.length_nil, Nat.reduceAdd, Nat.zero_add, List.range, List.range.loop]
  refine Run.val hB (.int .i64 r0) w2 rfl (by rfl) (by simp [base]) rfl hp (fun d => by go_simp) (fun hp => ?_)
  walk_nrm
  refine Run.val hB (.bool (decide (r0 < 0))) w2 rfl (by rfl) (by simp [base]) rfl hp (fun d => by go_simp) (fun hp => ?_)
  walk_nrm
  refine Run.regionEnd ?_
  refine Run.cond (t := decide (r0 < 0)) (by go_simp) ?_
  by_cases hr0 : r0 < 0
  · rw [show decide (r0 < 0) = true by simpa using hr0]
    simp only [if_true]
    repeat refine Run.seq ?_
    refine Run.region ?_
    simp only [List.size_toArray, List.length_cons, List.length_nil, Nat.reduceAdd, Nat.zero_add, List.range, List.range.loop]
    refine Run.val hB (.bool true) w2 rfl (by rfl) (by simp [base]) rfl hp (fun d => by go_simp) (fun hp => ?_)
    walk_nrm
    refine Run.regionEnd ?_
    refine Run.ret ?_
    refine K _ w2 ⟨rfl, .bool true, rfl, rfl, rfl, rfl, _, Try.func4, ?_⟩ HK2.out HT2.out hp
    simp [results, Try.results4, go_sem, Frame.at]
  · rw [show decide (r0 < 0) = false by simpa using hr0]
    simp only [Bool.false_eq_true, if_false]
    refine Run.skip ?_
    have le0 : len0 ≤ 1048576 := by omega
    have lz0 : z0.length ≤ 1048576 := by have := HS0.out.1; omega
    clear hr
    repeat refine Run.seq ?_
    refine Run.region ?_
    simp only [List.size_toArray, List.length_cons, List.length_nil, Nat.reduceAdd, Nat.zero_add, List.range, List.range.loop]
    refine Run.val hB (rhy s0 a0 len0 cap0) w2 rfl (by rfl) (by simp [base]) rfl hp (fun d => by
        have x0' : (w2.at d).cell? ⟨w.heap.size, 0, none⟩ = some (.int .i64 s0) := t1
        have x1' : (w2.at d).cell? ⟨w.heap.size, 1, none⟩ = some (.slice a0 len0 cap0) := t2
        go_simp) (fun hp => ?_)
    walk_nrm
    refine Run.plain hP (f := 8) (args := #[rhy s0 a0 len0 cap0]) rfl (by rfl) (by simp [base]) hF2 hF2 hp (fun d => by go_simp) (fun v w' => ∃ a cap, v = rhy s0 a z0.length cap ∧ w'.ownsRow w2.heap.size 3 1 (.slice a z0.length cap) z0.length (ints z0)) (fun _ _ _ _ h => h) (fun T => (to_rhythm s0 a0 len0 cap0 z0 (tp w2 T 0) (intsAt_keep HS0.out HK2.out T) le0).mono fun e w' he => by
      obtain ⟨a, cap, h1, h2, h3⟩ := he
      exact ⟨_, h1, ⟨a, cap, rfl, h2⟩, h3⟩) (fun v w3 hv hk3 hT3 hp => ?_)
    obtain ⟨a3, c3, rfl, hown3⟩ := hv
    have HK3 := Lib.hid (HK2.out.trans hk3)
    have HT3 := Lib.hid (hT3.trans HT2.out)
    have HU3 := Lib.hid (hk3.two HU2.out)
    have HO3 := Lib.hid (intsAt_own hown3 HS0.out.int)
    clear hk3 hT3 t0 t1 t2 hown3
    obtain ⟨t0, t1, t2⟩ := HU3.out
    walk_nrm
    refine Run.plain hP (f := 15) (args := #[rhy s0 a3 z0.length c3]) rfl (by rfl) (by simp [base]) hF3 hF3 hp (fun d => by go_simp) (fun v _ => v = .int .i64 (couV s0 z0)) (fun _ _ _ _ h => h) (fun T => (cou_spec s0 a3 z0.length c3 z0 (tp w3 T 0) (intsAt_keep HO3.out (KeepW.refl w3) T) lz0 sl0 su0).mono fun e w' he => ⟨_, he.1, rfl, he.2⟩) (fun v w4 hv hk4 hT4 hp => ?_)
    subst hv
    have HK4 := Lib.hid (HK3.out.trans hk4)
    have HT4 := Lib.hid (hT4.trans HT3.out)
    have HU4 := Lib.hid (hk4.two HU3.out)
    clear hk4 hT4 t0 t1 t2
    obtain ⟨t0, t1, t2⟩ := HU4.out
    walk_nrm
    refine Run.val hB (.int .i64 (couV s0 z0)) w4 rfl (by rfl) (by simp [base]) rfl hp (fun d => by go_simp) (fun hp => ?_)
    walk_nrm
    refine Run.regionEnd ?_
    repeat refine Run.seq ?_
    refine Run.region ?_
    simp only [List.size_toArray, List.length_cons, List.length_nil, Nat.reduceAdd, Nat.zero_add, List.range, List.range.loop]
    refine Run.val hB (rhy s0 a0 len0 cap0) w4 rfl (by rfl) (by simp [base]) rfl hp (fun d => by
        have x0' : (w4.at d).cell? ⟨w.heap.size, 0, none⟩ = some (.int .i64 s0) := t1
        have x1' : (w4.at d).cell? ⟨w.heap.size, 1, none⟩ = some (.slice a0 len0 cap0) := t2
        go_simp) (fun hp => ?_)
    walk_nrm
    refine Run.plain hP (f := 8) (args := #[rhy s0 a0 len0 cap0]) rfl (by rfl) (by simp [base]) hF2 hF2 hp (fun d => by go_simp) (fun v w' => ∃ a cap, v = rhy s0 a z0.length cap ∧ w'.ownsRow w4.heap.size 3 1 (.slice a z0.length cap) z0.length (ints z0)) (fun _ _ _ _ h => h) (fun T => (to_rhythm s0 a0 len0 cap0 z0 (tp w4 T 0) (intsAt_keep HS0.out HK4.out T) le0).mono fun e w' he => by
      obtain ⟨a, cap, h1, h2, h3⟩ := he
      exact ⟨_, h1, ⟨a, cap, rfl, h2⟩, h3⟩) (fun v w5 hv hk5 hT5 hp => ?_)
    obtain ⟨a5, c5, rfl, hown5⟩ := hv
    have HK5 := Lib.hid (HK4.out.trans hk5)
    have HT5 := Lib.hid (hT5.trans HT4.out)
    have HU5 := Lib.hid (hk5.two HU4.out)
    have HO5 := Lib.hid (intsAt_own hown5 HS0.out.int)
    clear hk5 hT5 t0 t1 t2 hown5
    obtain ⟨t0, t1, t2⟩ := HU5.out
    walk_nrm
    obtain ⟨w6, hw6⟩ : ∃ w6, w6 = w5.alloc (.cells #[.int .i64 0, .slice none 0 0] 28) := ⟨_, rfl⟩
    have HW6 := Lib.hid hw6
    clear hw6
    refine Run.val hB (.pointer (some ⟨w5.heap.size, 0, none⟩)) w6 rfl (by rfl) (by simp [base]) rfl hp (fun d => by rw [HW6.out]; go_simp; exact ⟨rfl, rfl⟩) (fun hp => ?_)
    walk_nrm
    have HX6 := Lib.hid (show Box w6 w5.heap.size (.int .i64 0) (.slice none 0 0) 28 by rw [HW6.out]; exact box_new w5 _ _ _)
    obtain ⟨x0, x1, x2, x3⟩ := HX6.out.facts
    obtain ⟨w7, hw7⟩ : ∃ w7, w7 = (w6.setCell ⟨w5.heap.size, 0, none⟩ (.int .i64 s0)).setCell ⟨w5.heap.size, 1, none⟩ (.slice a5 z0.length c5) := ⟨_, rfl⟩
    have HW7 := Lib.hid hw7
    clear hw7
    refine Run.none hB w7 rfl (by rfl) (by simp [base]) rfl hp (fun d => by
      have x0' : (w6.at d).cell? ⟨w5.heap.size, 0, none⟩ = some (.int .i64 0) := x0
      have x1' : (w6.at d).cell? ⟨w5.heap.size, 1, none⟩ = some (.slice none 0 0) := x1
      have x2' : (w6.at d).frozen? ⟨w5.heap.size, 0, none⟩ = false := x2
      have x3' : (w6.at d).frozen? ⟨w5.heap.size, 1, none⟩ = false := x3
      rw [HW7.out]
      go_simp
      first | done | rfl | exact ⟨rfl, rfl⟩ | (simp [go_sem, x2', x3']; done) | (simp [go_sem, x2', x3']; rfl)) (fun hp => ?_)
    walk_nrm
    refine Run.regionEnd ?_
    have HX7 := Lib.hid (show Box w7 w5.heap.size (.int .i64 s0) (.slice a5 z0.length c5) 28 by rw [HW7.out]; exact (HX6.out.set0 _).set1 _)
    have hk57 : KeepW w5 w7 := by rw [HW7.out, HW6.out]; exact ((keepW_alloc w5 _).set (c := none) _ (Nat.le_refl _)).set (c := none) _ (Nat.le_refl _)
    have HK7 := Lib.hid (HK5.out.trans hk57)
    have HT7 := Lib.hid (show w7.tape = w.tape by rw [HW7.out, HW6.out]; exact HT5.out)
    have HU7 := Lib.hid (hk57.two HU5.out)
    have HO7 := Lib.hid (intsAt_same HO5.out hk57)
    clear x0 x1 x2 x3 t0 t1 t2 hk57
    obtain ⟨x0, x1, x2, x3⟩ := HX7.out.facts
    obtain ⟨t0, t1, t2⟩ := HU7.out
    repeat refine Run.seq ?_
    refine Run.region ?_
    simp only [List.size_toArray, List.length_cons, List.length_nil, Nat.reduceAdd, Nat.zero_add, List.range, List.range.loop]
    refine Run.val hB (rhy s0 a5 z0.length c5) w7 rfl (by rfl) (by simp [base]) rfl hp (fun d => by
        have x0' : (w7.at d).cell? ⟨w5.heap.size, 0, none⟩ = some (.int .i64 s0) := x0
        have x1' : (w7.at d).cell? ⟨w5.heap.size, 1, none⟩ = some (.slice a5 z0.length c5) := x1
        go_simp) (fun hp => ?_)
    walk_nrm
    refine Run.goes (bodied_one 16 (by decide +kernel)) (f := 16) (args := #[rhy s0 a5 z0.length c5]) rfl (by rfl) (by simp [base]) (by simp [plainOp]) hp (fun d => by go_simp) ?_
    refine cpo_run hP hFs hFh s0 a5 z0.length c5 z0 w7 HO7.out lz0 (@decide _ (Classical.propDecidable (Ok s0 z0 ∧ s0 ≤ 12))) (@decide_eq_true_iff _ (Classical.propDecidable _)) hp (fun r hr => Nat.lt_of_lt_of_le (hG r hr) HK7.out.size) _ _ (fun lv w8 hv hk8 hT8 hp => ?_)
    have hlv : lv = .int .i64 (couV s0 z0) := by
      rw [hv]
      by_cases hc : Ok s0 z0 ∧ s0 ≤ 12
      · rw [couV_yes hc]; simp [hc]
      · rw [couV_no hc]; simp [hc]
    clear hv
    subst hlv
    have HK8 := Lib.hid (HK7.out.trans hk8)
    have HT8 := Lib.hid (hT8.trans HT7.out)
    have HU8 := Lib.hid (hk8.two HU7.out)
    have HX8 := Lib.hid (hk8.box HX7.out)
    have HO8 := Lib.hid (intsAt_same HO7.out hk8)
    clear hk8 hT8 t0 t1 t2 x0 x1 x2 x3
    obtain ⟨t0, t1, t2⟩ := HU8.out
    obtain ⟨x0, x1, x2, x3⟩ := HX8.out.facts
    rw [finish_dst rfl]
    walk_nrm
    refine Run.val hB (.int .i64 (couV s0 z0)) w8 rfl (by rfl) (by simp [base]) rfl hp (fun d => by go_simp) (fun hp => ?_)
    walk_nrm
    refine Run.regionEnd ?_
    repeat refine Run.seq ?_
    refine Run.region ?_
    simp only [List.size_toArray, List.length_cons, List.length_nil, Nat.reduceAdd, Nat.zero_add, List.range, List.range.loop]
    refine Run.val hB (.int .i64 (couV s0 z0)) w8 rfl (by rfl) (by simp [base]) rfl hp (fun d => by go_simp) (fun hp => ?_)
    walk_nrm
    refine Run.val hB (.int .i64 (couV s0 z0)) w8 rfl (by rfl) (by simp [base]) rfl hp (fun d => by go_simp) (fun hp => ?_)
    walk_nrm
    refine Run.val hB (.bool false) w8 rfl (by rfl) (by simp [base]) rfl hp (fun d => by go_simp) (fun hp => ?_)
    walk_nrm
    refine Run.regionEnd ?_
    refine Run.cond (t := false) (by go_simp) ?_
    simp only [Bool.false_eq_true, if_false]
    refine Run.skip ?_
    repeat refine Run.seq ?_
    refine Run.region_any rfl (fun nd => ?_)
    obtain ⟨w9, hw9⟩ : ∃ w9, w9 = w8.at nd := ⟨_, rfl⟩
    rw [← hw9]
    have HK9 := Lib.hid (show KeepW w w9 by rw [hw9]; exact ⟨HK8.out.1, HK8.out.2, HK8.out.3, HK8.out.4⟩)
    have HT9 := Lib.hid (show w9.tape = w.tape by rw [hw9]; exact HT8.out)
    have HU9 := Lib.hid (show Rhy.Two w9 w.heap.size (.int .i64 s0) (.slice a0 len0 cap0) by rw [hw9]; exact HU8.out)
    have HX9 := Lib.hid (show Box w9 w5.heap.size (.int .i64 s0) (.slice a5 z0.length c5) 28 by rw [hw9]; exact HX8.out)
    have HO9 := Lib.hid (show IntsAt w9 a5 z0.length z0 by rw [hw9]; exact HO8.out)
    replace hp : NoPend Try.prog w9 := by rw [hw9]; exact hp
    clear hw9 t0 t1 t2 x0 x1 x2 x3
    obtain ⟨t0, t1, t2⟩ := HU9.out
    obtain ⟨x0, x1, x2, x3⟩ := HX9.out.facts
    refine anyR_two (n := 4) 0 1 (by decide +kernel) (fun rest hrest => ?_) (fun rest hrest => ?_)
    · refine Run.val hB (rhy s0 a5 z0.length c5) w9 rfl (by rfl) (by simp [base]) rfl hp (fun d => by
          have x0' : (w9.at d).cell? ⟨w5.heap.size, 0, none⟩ = some (.int .i64 s0) := x0
          have x1' : (w9.at d).cell? ⟨w5.heap.size, 1, none⟩ = some (.slice a5 z0.length c5) := x1
          go_simp) (fun hp => ?_)
      walk_nrm
      refine hrest _ _ ?_
      refine anyR_one (n := 3) 1 (by decide +kernel) fun rest hrest => ?_
      refine Run.val hB (rhy s0 a0 len0 cap0) w9 rfl (by rfl) (by simp [base]) rfl hp (fun d => by
          have x0' : (w9.at d).cell? ⟨w.heap.size, 0, none⟩ = some (.int .i64 s0) := t1
          have x1' : (w9.at d).cell? ⟨w.heap.size, 1, none⟩ = some (.slice a0 len0 cap0) := t2
          go_simp) (fun hp => ?_)
      walk_nrm
      refine hrest _ _ ?_
      refine anyR_one (n := 2) 2 (by decide +kernel) fun rest hrest => ?_
      refine Run.plain hP (f := 8) (args := #[rhy s0 a0 len0 cap0]) rfl (by rfl) (by simp [base]) hF2 hF2 hp (fun d => by go_simp) (fun v w' => ∃ a cap, v = rhy s0 a z0.length cap ∧ w'.ownsRow w9.heap.size 3 1 (.slice a z0.length cap) z0.length (ints z0)) (fun _ _ _ _ h => h) (fun T => (to_rhythm s0 a0 len0 cap0 z0 (tp w9 T 0) (intsAt_keep HS0.out HK9.out T) le0).mono fun e w' he => by
        obtain ⟨a, cap, h1, h2, h3⟩ := he
        exact ⟨_, h1, ⟨a, cap, rfl, h2⟩, h3⟩) (fun v w10 hv hk10 hT10 hp => ?_)
      obtain ⟨a10, c10, rfl, hown10⟩ := hv
      have HK10 := Lib.hid (HK9.out.trans hk10)
      have HT10 := Lib.hid (hT10.trans HT9.out)
      have HX10 := Lib.hid (hk10.box HX9.out)
      have HO10 := Lib.hid (intsAt_own hown10 HS0.out.int)
      have HP10 := Lib.hid (intsAt_same HO9.out hk10)
      clear hk10 hT10 t0 t1 t2 x0 x1 x2 x3 hown10
      obtain ⟨x0, x1, x2, x3⟩ := HX10.out.facts
      walk_nrm
      refine hrest _ _ ?_
      refine anyR_one (n := 1) 3 (by decide +kernel) fun rest hrest => ?_
      refine Run.plain hP (f := 11) (args := #[rhy s0 a5 z0.length c5, rhy s0 a10 z0.length c10]) rfl (by rfl) (by simp [base]) hF4 hF4 hp (fun d => by go_simp) (fun v _ => v = .bool true) (fun _ _ _ _ h => h) (fun T => (eq_rhythm s0 a5 a10 c5 c10 z0.length z0 (tp w10 T 0) (intsAt_keep HP10.out (KeepW.refl w10) T) (intsAt_keep HO10.out (KeepW.refl w10) T) (by omega)).mono fun e w' he => ⟨_, he.1, rfl, he.2⟩) (fun v w11 hv hk11 hT11 hp => ?_)
      subst hv
      have HK11 := Lib.hid (HK10.out.trans hk11)
      have HT11 := Lib.hid (hT11.trans HT10.out)
      walk_nrm
      refine hrest _ _ ?_
      refine anyR_one (n := 0) 4 (by decide +kernel) fun rest hrest => ?_
      refine Run.val hB (.bool false) w11 rfl (by rfl) (by simp [base]) rfl hp (fun d => by go_simp) (fun hp => ?_)
      walk_nrm
      refine hrest _ _ ?_
      refine anyR_zero ?_
      refine Run.regionEnd ?_
      refine Run.cond (t := false) (by go_simp) ?_
      simp only [Bool.false_eq_true, if_false]
      refine Run.skip ?_
      repeat refine Run.seq ?_
      refine Run.region ?_
      simp only [List.size_toArray, List.length_cons, List.length_nil, Nat.reduceAdd, Nat.zero_add, List.range, List.range.loop]
      refine Run.val hB (.bool true) w11 rfl (by rfl) (by simp [base]) rfl hp (fun d => by go_simp) (fun hp => ?_)
      walk_nrm
      refine Run.regionEnd ?_
      refine Run.ret ?_
      refine K _ w11 ⟨rfl, .bool true, rfl, rfl, rfl, rfl, _, Try.func4, ?_⟩ HK11.out HT11.out hp
      simp [results, Try.results4, go_sem, Frame.at]
    · refine Run.val hB (rhy s0 a0 len0 cap0) w9 rfl (by rfl) (by simp [base]) rfl hp (fun d => by
          have x0' : (w9.at d).cell? ⟨w.heap.size, 0, none⟩ = some (.int .i64 s0) := t1
          have x1' : (w9.at d).cell? ⟨w.heap.size, 1, none⟩ = some (.slice a0 len0 cap0) := t2
          go_simp) (fun hp => ?_)
      walk_nrm
      refine hrest _ _ ?_
      refine anyR_two (n := 3) 0 2 (by decide +kernel) (fun rest hrest => ?_) (fun rest hrest => ?_)
      · refine Run.val hB (rhy s0 a5 z0.length c5) w9 rfl (by rfl) (by simp [base]) rfl hp (fun d => by
            have x0' : (w9.at d).cell? ⟨w5.heap.size, 0, none⟩ = some (.int .i64 s0) := x0
            have x1' : (w9.at d).cell? ⟨w5.heap.size, 1, none⟩ = some (.slice a5 z0.length c5) := x1
            go_simp) (fun hp => ?_)
        walk_nrm
        refine hrest _ _ ?_
        refine anyR_one (n := 2) 2 (by decide +kernel) fun rest hrest => ?_
        refine Run.plain hP (f := 8) (args := #[rhy s0 a0 len0 cap0]) rfl (by rfl) (by simp [base]) hF2 hF2 hp (fun d => by go_simp) (fun v w' => ∃ a cap, v = rhy s0 a z0.length cap ∧ w'.ownsRow w9.heap.size 3 1 (.slice a z0.length cap) z0.length (ints z0)) (fun _ _ _ _ h => h) (fun T => (to_rhythm s0 a0 len0 cap0 z0 (tp w9 T 0) (intsAt_keep HS0.out HK9.out T) le0).mono fun e w' he => by
          obtain ⟨a, cap, h1, h2, h3⟩ := he
          exact ⟨_, h1, ⟨a, cap, rfl, h2⟩, h3⟩) (fun v w10 hv hk10 hT10 hp => ?_)
        obtain ⟨a10, c10, rfl, hown10⟩ := hv
        have HK10 := Lib.hid (HK9.out.trans hk10)
        have HT10 := Lib.hid (hT10.trans HT9.out)
        have HX10 := Lib.hid (hk10.box HX9.out)
        have HO10 := Lib.hid (intsAt_own hown10 HS0.out.int)
        have HP10 := Lib.hid (intsAt_same HO9.out hk10)
        clear hk10 hT10 t0 t1 t2 x0 x1 x2 x3 hown10
        obtain ⟨x0, x1, x2, x3⟩ := HX10.out.facts
        walk_nrm
        refine hrest _ _ ?_
        refine anyR_one (n := 1) 3 (by decide +kernel) fun rest hrest => ?_
        refine Run.plain hP (f := 11) (args := #[rhy s0 a5 z0.length c5, rhy s0 a10 z0.length c10]) rfl (by rfl) (by simp [base]) hF4 hF4 hp (fun d => by go_simp) (fun v _ => v = .bool true) (fun _ _ _ _ h => h) (fun T => (eq_rhythm s0 a5 a10 c5 c10 z0.length z0 (tp w10 T 0) (intsAt_keep HP10.out (KeepW.refl w10) T) (intsAt_keep HO10.out (KeepW.refl w10) T) (by omega)).mono fun e w' he => ⟨_, he.1, rfl, he.2⟩) (fun v w11 hv hk11 hT11 hp => ?_)
        subst hv
        have HK11 := Lib.hid (HK10.out.trans hk11)
        have HT11 := Lib.hid (hT11.trans HT10.out)
        walk_nrm
        refine hrest _ _ ?_
        refine anyR_one (n := 0) 4 (by decide +kernel) fun rest hrest => ?_
        refine Run.val hB (.bool false) w11 rfl (by rfl) (by simp [base]) rfl hp (fun d => by go_simp) (fun hp => ?_)
        walk_nrm
        refine hrest _ _ ?_
        refine anyR_zero ?_
        refine Run.regionEnd ?_
        refine Run.cond (t := false) (by go_simp) ?_
        simp only [Bool.false_eq_true, if_false]
        refine Run.skip ?_
        repeat refine Run.seq ?_
        refine Run.region ?_
        simp only [List.size_toArray, List.length_cons, List.length_nil, Nat.reduceAdd, Nat.zero_add, List.range, List.range.loop]
        refine Run.val hB (.bool true) w11 rfl (by rfl) (by simp [base]) rfl hp (fun d => by go_simp) (fun hp => ?_)
        walk_nrm
        refine Run.regionEnd ?_
        refine Run.ret ?_
        refine K _ w11 ⟨rfl, .bool true, rfl, rfl, rfl, rfl, _, Try.func4, ?_⟩ HK11.out HT11.out hp
        simp [results, Try.results4, go_sem, Frame.at]
      · refine Run.plain hP (f := 8) (args := #[rhy s0 a0 len0 cap0]) rfl (by rfl) (by simp [base]) hF2 hF2 hp (fun d => by go_simp) (fun v w' => ∃ a cap, v = rhy s0 a z0.length cap ∧ w'.ownsRow w9.heap.size 3 1 (.slice a z0.length cap) z0.length (ints z0)) (fun _ _ _ _ h => h) (fun T => (to_rhythm s0 a0 len0 cap0 z0 (tp w9 T 0) (intsAt_keep HS0.out HK9.out T) le0).mono fun e w' he => by
          obtain ⟨a, cap, h1, h2, h3⟩ := he
          exact ⟨_, h1, ⟨a, cap, rfl, h2⟩, h3⟩) (fun v w10 hv hk10 hT10 hp => ?_)
        obtain ⟨a10, c10, rfl, hown10⟩ := hv
        have HK10 := Lib.hid (HK9.out.trans hk10)
        have HT10 := Lib.hid (hT10.trans HT9.out)
        have HX10 := Lib.hid (hk10.box HX9.out)
        have HO10 := Lib.hid (intsAt_own hown10 HS0.out.int)
        have HP10 := Lib.hid (intsAt_same HO9.out hk10)
        clear hk10 hT10 t0 t1 t2 x0 x1 x2 x3 hown10
        obtain ⟨x0, x1, x2, x3⟩ := HX10.out.facts
        walk_nrm
        refine hrest _ _ ?_
        refine anyR_one (n := 2) 0 (by decide +kernel) fun rest hrest => ?_
        refine Run.val hB (rhy s0 a5 z0.length c5) w10 rfl (by rfl) (by simp [base]) rfl hp (fun d => by
            have x0' : (w10.at d).cell? ⟨w5.heap.size, 0, none⟩ = some (.int .i64 s0) := x0
            have x1' : (w10.at d).cell? ⟨w5.heap.size, 1, none⟩ = some (.slice a5 z0.length c5) := x1
            go_simp) (fun hp => ?_)
        walk_nrm
        refine hrest _ _ ?_
        refine anyR_one (n := 1) 3 (by decide +kernel) fun rest hrest => ?_
        refine Run.plain hP (f := 11) (args := #[rhy s0 a5 z0.length c5, rhy s0 a10 z0.length c10]) rfl (by rfl) (by simp [base]) hF4 hF4 hp (fun d => by go_simp) (fun v _ => v = .bool true) (fun _ _ _ _ h => h) (fun T => (eq_rhythm s0 a5 a10 c5 c10 z0.length z0 (tp w10 T 0) (intsAt_keep HP10.out (KeepW.refl w10) T) (intsAt_keep HO10.out (KeepW.refl w10) T) (by omega)).mono fun e w' he => ⟨_, he.1, rfl, he.2⟩) (fun v w11 hv hk11 hT11 hp => ?_)
        subst hv
        have HK11 := Lib.hid (HK10.out.trans hk11)
        have HT11 := Lib.hid (hT11.trans HT10.out)
        walk_nrm
        refine hrest _ _ ?_
        refine anyR_one (n := 0) 4 (by decide +kernel) fun rest hrest => ?_
        refine Run.val hB (.bool false) w11 rfl (by rfl) (by simp [base]) rfl hp (fun d => by go_simp) (fun hp => ?_)
        walk_nrm
        refine hrest _ _ ?_
        refine anyR_zero ?_
        refine Run.regionEnd ?_
        refine Run.cond (t := false) (by go_simp) ?_
        simp only [Bool.false_eq_true, if_false]
        refine Run.skip ?_
        repeat refine Run.seq ?_
        refine Run.region ?_
        simp only [List.size_toArray, List.length_cons, List.length_nil, Nat.reduceAdd, Nat.zero_add, List.range, List.range.loop]
        refine Run.val hB (.bool true) w11 rfl (by rfl) (by simp [base]) rfl hp (fun d => by go_simp) (fun hp => ?_)
        walk_nrm
        refine Run.regionEnd ?_
        refine Run.ret ?_
        refine K _ w11 ⟨rfl, .bool true, rfl, rfl, rfl, rfl, _, Try.func4, ?_⟩ HK11.out HT11.out hp
        simp [results, Try.results4, go_sem, Frame.at]
end Go.Proofs.Ytgmhdmhnedljcaa.Co

/-
  Helpers of the claims beside this text: from the run of goroutine 0 to the row's end: no waiting variable, the last step, the functions that are plain.
-/
namespace Go.Proofs.Ytgmhdmhnedljcaa.Co
open Go Go.Conc Go.RowKit Rhy
open Go.ConcN (sumTo upd sumTo_upd upd_ne upd_same)
set_option linter.unusedVariables false
set_option linter.unusedSimpArgs false
set_option maxRecDepth 100000
theorem noReadies : (Try.prog.funcs.all fun f => ((f.body.map readies).map (·.isEmpty)).getD true) = true := by decide +kernel
theorem no_step (r : Nat) : Try.prog.stepOf r = none := by
  unfold Program.stepOf
  rw [Array.findIdx?_eq_none_iff]
  intro f hf
  have h := Array.all_eq_true_iff_forall_mem.1 noReadies f hf
  cases hb : f.body with
  | none => rfl
  | some x =>
    rw [hb] at h
    simp at h
    simp [h]
theorem noPend (w : World) : NoPend Try.prog w := fun r c e hs => absurd (no_step r) hs
section
variable {P : Program} {Post : Value → World → Prop} {w : World}
/-- The last step. -/
theorem run_end {f : FuncId} {R : Value → World → Prop} {fr : Frame} (hi : P.inits.idxOf? f = none) (hS : StopAt P f R fr w) (h : ∀ v d, R v w → Post v (w.at d)) : Run P Post (G fr []) w := by
  obtain ⟨hf, v, hv, hm, hd, hk, fn, hfn, hr⟩ := hS
  have hc : Calm P (fun _ => True) (results fn fr.tmps) := calm_results fn fr.tmps
  have hrun : ∀ d, ∃ es, (results fn fr.tmps).runT P (w.at d) #[] = (.ok v (w.at d), es) ∧ ∀ e ∈ es, LowL w.heap.size e.loc := fun d => by
    obtain ⟨n, k1, k2, k3⟩ := same_run _ hc w #[]
    have hl := left_run _ hc w #[]
    have h2 : ((results fn fr.tmps).runT P w #[]).1 = .ok v w := by rw [Sem.runT_fst]; exact hr
    generalize hx : (results fn fr.tmps).runT P w #[] = x at *
    obtain ⟨x, es⟩ := x
    obtain rfl : x = .ok v w := h2
    have hn : n = 0 := by simp only [wOf] at k1; omega
    subst hn
    exact ⟨es, k3 w.tape d (fun i q hi => by omega), fun e he => (hl.evs e he).resolve_left (by simp)⟩
  refine Run.done fun d => ?_
  obtain ⟨es, h1, hes⟩ := hrun d
  have h2 : (results fn fr.tmps).run P (w.at d) = .ok v (w.at d) := by rw [← Sem.runT_fst (es := #[]), h1]
  have h3 : (results fn fr.tmps).events P (w.at d) #[] = es := congrArg Prod.snd h1
  have hi' : P.inits.idxOf? fr.fn = none := by rw [hf]; exact hi
  refine ⟨rfl, v, seen P fr.fn es, ?_, fun e he => evL_of_low (hes e (mem_seen he)), h v d hv⟩
  simp [G, stepG, unwind, doReturn, hm, hd, hk, hfn, h2, h3, hi', GStep.after]
/-- From the run of goroutine 0, alone at the start. -/
theorem leavers_one (a : Goroutine) : Leavers P #[] #[a] (fun _ => 0) := by
  constructor
  · intro i g hi hg
    obtain ⟨h1, _⟩ := Array.getElem?_eq_some_iff.1 hg
    simp at h1
    omega
  · intro j hj
    rfl
theorem run_solo {a : Goroutine} (h : Run P Post a w) : EndsWell P Post (solo a w) #[] :=
  h w.drawn #[a] none #[] (fun _ => 0) rfl (leavers_one a) (past_nil.mono (Nat.zero_le _))
end
end Go.Proofs.Ytgmhdmhnedljcaa.Co
