/-
  Helpers of the claims beside this text: the program's iterator over the avoiding rhythms, CountAvoiding, FirstAvoiding.
-/
import Derived.Test.YtjgjcppkbfojpaaOdm
import Derived.Test.YtjgjcppkbfojpaaOca
import Derived.Test.YtjgjcppkbfojpaaOce
namespace Go.Proofs.Ytjgjcppkbfojpaa.Rhy
open Go.RowKit
set_option linter.unusedVariables false
set_option linter.unusedSimpArgs false
set_option maxRecDepth 100000

theorem keeps_same {B lo : Nat} {U V X : World} (hb : Below U.heap.size U V) (hs : Same lo V.heap.size V X) (hB : lo ≤ B) (hz : lo < V.heap.size) : KeepsFrom B U X := by
  have h1 := hb.size
  have h2 : V.heap.size ≤ X.heap.size := by
    have h3 := hs (V.heap.size - 1) (by omega) (by omega)
    rw [Array.getElem?_eq_getElem (show V.heap.size - 1 < V.heap.size by omega)] at h3
    have := (Array.getElem?_eq_some_iff.1 h3).1
    omega
  refine ⟨by omega, fun k o hk ho _ => ?_⟩
  have hlt := (Array.getElem?_eq_some_iff.1 ho).1
  exact (hs k (by omega) (by omega)).trans ((hb.block k hlt).trans ho)
theorem enters_with : Enters 149 := enters_of Try.func149 (by kernel_rfl) rfl
theorem enters_avd : Enters 127 := enters_of Try.func127 (by kernel_rfl) rfl

theorem avd_any (n d c : Int) (w : World) :
    Calls Try.prog 86 #[.int .i64 n, .int .i64 d, .int .i64 c] w fun e w' => e = .returned (.func (.func 127) #[] #[.pointer (some ⟨w.heap.size, 0, none⟩), .pointer (some ⟨w.heap.size + 2, 0, none⟩), .pointer (some ⟨w.heap.size + 1, 0, none⟩)]) ∧
      w' = ((w.alloc (.cells #[.int .i64 n] 3)).alloc (.cells #[.int .i64 d] 3)).alloc (.cells #[.int .i64 c] 3) := by
  go_enter Try.func86, Try.ntmps86
  go_wp2
  go_ret
  exact ⟨rfl, rfl⟩

theorem in_fn (q : Nat) (f : FuncId) : (Fence.wide.inRound q).fn f = True := rfl
theorem in_depth (q : Nat) : (Fence.wide.inRound q).depth = none := rfl
attribute [local go_sem] Oper.semAt_some wide_fn wide_depth in_fn in_depth

set_option maxHeartbeats 600000 in
theorem avd_gives (n d c : Nat) (w : World) (lo : Nat) (hn1 : 1 ≤ n) (hn : n ≤ 16) (hd : d ≤ 24) (hc : c ≤ 1000)
    (nn : Nat) (hnn : nn ≤ lo) (h1 : w.cell? ⟨lo, 0, none⟩ = some (.int .i64 n)) (h2 : w.cell? ⟨lo + 1, 0, none⟩ = some (.int .i64 d)) (h3 : w.cell? ⟨lo + 2, 0, none⟩ = some (.int .i64 c)) (hlo : lo + 3 ≤ w.heap.size) :
    GivesS nn lo (lo + 3) w 127 #[.pointer (some ⟨lo, 0, none⟩), .pointer (some ⟨lo + 2, 0, none⟩), .pointer (some ⟨lo + 1, 0, none⟩)] n (avdL n d c) := by
  obtain ⟨LL, hLL⟩ : ∃ LL, wthJ n c (2 ^ n) = LL := ⟨_, rfl⟩
  have HLL := Lib.hid hLL
  have hAV : avdL n d c = LL.filter (fun X => avB n X d) := by rw [← hLL]; rfl
  rw [hAV]
  clear hLL hAV
  intro q J Jx W hW hJ hJx hY h0
  have HJ := Lib.hid hJ
  have HJX := Lib.hid hJx
  have HY := Lib.hid hY
  have HV1 := Lib.hid ((hW.cell (p := ⟨lo, 0, none⟩) (by show lo < _; omega)).trans h1)
  have HV2 := Lib.hid ((hW.cell (p := ⟨lo + 1, 0, none⟩) (by show lo + 1 < _; omega)).trans h2)
  have HV3 := Lib.hid ((hW.cell (p := ⟨lo + 2, 0, none⟩) (by show lo + 2 < _; omega)).trans h3)
  have hlW : lo + 3 ≤ W.heap.size := by have := hW.size; omega
  have H0 := Lib.hid h0
  clear hW hJ hJx hY h0 h1 h2 h3
  obtain ⟨W0, hW0⟩ : ∃ W0, W0 = W.alloc (.cells #[.func (.yield q) #[] #[]] 36) := ⟨_, rfl⟩
  have HW0 := Lib.hid hW0
  have B0 := Lib.hid (show Below W.heap.size W W0 by rw [hW0]; exact bel1 W _)
  have HZ0 := Lib.hid (show W0.heap.size = W.heap.size + 1 by rw [hW0]; simp)
  have HYB := Lib.hid (show Boxed W0 W.heap.size 36 (.func (.yield q) #[] #[]) by rw [hW0]; exact Boxed.new W _ _)
  have x1 : (W.alloc (.cells #[.func (.yield q) #[] #[]] 36)).cell? ⟨lo, 0, none⟩ = some (.int .i64 n) := by rw [← hW0]; exact (B0.out.cell (p := ⟨lo, 0, none⟩) (by show lo < _; omega)).trans HV1.out
  have x3 : (W.alloc (.cells #[.func (.yield q) #[] #[]] 36)).cell? ⟨lo + 2, 0, none⟩ = some (.int .i64 c) := by rw [← hW0]; exact (B0.out.cell (p := ⟨lo + 2, 0, none⟩) (by show lo + 2 < _; omega)).trans HV3.out
  have hl0 : lo < W.heap.size := by omega
  have hl2 : lo + 2 < W.heap.size := by omega
  refine (callsIn_wide (n := 9)).1 ?_
  refine callsIn_of_wp_marks Try.func127 rfl trivial ?_ rfl
  simp only [Try.ntmps127, List.size_toArray, List.length_cons, List.length_nil, Nat.reduceAdd, Nat.reduceSub, Array.replicate_succ, Array.replicate_zero, List.push_toArray, List.append_toArray, List.nil_append, List.cons_append]
  gi_wp2_with fail
  rw [← HW0.out]
  refine (callsIn_wide.2 (with_any n c W0)).mono ?_
  rintro e w1 ⟨rfl, hw1⟩
  have hbw : Below W0.heap.size W0 w1 := by rw [hw1]; exact bel2 W0 _ _
  have hs1 : w1.heap.size = W0.heap.size + 2 := by rw [hw1]; simp
  have hv1 : w1.cell? ⟨W0.heap.size, 0, none⟩ = some (.int .i64 n) := by
    rw [hw1]
    exact ((bel1 _ _).cell (p := ⟨W0.heap.size, 0, none⟩) (by simp)).trans (by simp)
  have hv2 : w1.cell? ⟨W0.heap.size + 1, 0, none⟩ = some (.int .i64 c) := by
    rw [hw1]
    simp
  have HBW := Lib.hid hbw
  have hgv := with_givesS n c nn w1 W0.heap.size hn1 hn hc hv1 hv2 (by omega) (by have := HZ0.out; omega)
  rw [HLL.out] at hgv
  have HGV := Lib.hid hgv
  clear hgv
  have hz0 := HZ0.out
  have HYB1 : Hid (Boxed w1 W.heap.size 36 (.func (.yield q) #[] #[])) := Lib.hid ((hbw.block W.heap.size (by omega)).trans HYB.out)
  have HD1 : Hid (w1.cell? ⟨lo + 1, 0, none⟩ = some (.int .i64 d)) := Lib.hid ((hbw.cell (p := ⟨lo + 1, 0, none⟩) (by show lo + 1 < _; omega)).trans ((B0.out.cell (p := ⟨lo + 1, 0, none⟩) (by show lo + 1 < _; omega)).trans HV2.out))
  have HJ1 : Hid (J ((LL.take 0).filter (fun X => avB n X d)).length w1) := Lib.hid (by rw [List.take_zero, List.filter_nil, List.length_nil]; exact HJ.out 0 W w1 none H0.out (grown_of_below (B0.out.trans (hbw.mono (by omega))) none) (fun r e => by cases e))
  have hzA : W.heap.size + 1 ≤ W0.heap.size := by omega
  have hzB : W0.heap.size + 2 ≤ w1.heap.size := by omega
  clear hw1 hbw hv1 hv2 x1 x3 hl0 hl2 hz0 hs1 hW0
  gi_wp2
  refine wp_rangeS (n := nn) (lo := W0.heap.size) (hi := W0.heap.size + 2) (sz := n) (L := LL) (by omega) rfl enters_with HGV.out (by omega) (by omega)
    (fun k Wr => J ((LL.take k).filter (fun X => avB n X d)).length Wr ∧ (Same lo (lo + 3) w1 Wr ∧ Same W.heap.size w1.heap.size w1 Wr) ∧ w1.heap.size ≤ Wr.heap.size)
    (fun cd k Wr => cd = .ret ∧ Jx ((LL.take k).filter (fun X => avB n X d)).length Wr ∧ ((LL.take k).filter (fun X => avB n X d)).length < (LL.filter (fun X => avB n X d)).length)
    ?hI ?hIx ⟨HJ1.out, ⟨Same.refl _ _ _, Same.refl _ _ _⟩, Nat.le_refl _⟩
    (fun ax lx cx b => { tmps := #[.func (.yield q) #[] #[], .pointer (some ⟨lo, 0, none⟩), .pointer (some ⟨lo + 2, 0, none⟩), .pointer (some ⟨lo + 1, 0, none⟩), .pointer (some ⟨W.heap.size, 0, none⟩), .pointer (some ⟨b, 0, none⟩), .int .i64 n, .int .i64 c,
        .func (.func 149) #[] #[.pointer (some ⟨W0.heap.size, 0, none⟩), .pointer (some ⟨W0.heap.size + 1, 0, none⟩)], rhy n ax lx cx, undef, undef, undef, undef, undef, undef, undef, undef, undef], defers := [] })
    (fun ax lx cx b Wr => Box Wr b (.int .i64 n) (.slice ax lx cx) 25)
    (fun ax lx cx b Wr l o o' h _ _ hl => (World.putObj_heap_other (by omega)).trans h) ?assign ?body ?done ?stop
  case hI =>
    intro s A B row hs hg hr
    have hr' : ∀ r, row = some r → W.heap.size ≤ r ∧ ∃ o : Obj, A.heap[r]? = some o ∧ o.isCells = false := fun r e => ⟨by have := (hr r e).1; omega, (hr r e).2⟩
    refine ⟨HJ.out _ A B row hs.1 hg hr', ⟨fun k h1 h2 => ?_, fun k h1 h2 => ?_⟩, by have := hg.size; have := hs.2.2; omega⟩
    · exact (hg.block k (by have := hs.2.2; omega) (fun e => by have := (hr k e.symm).1; omega)).trans (hs.2.1.1 k h1 h2)
    · exact (hg.block k (by have := hs.2.2; omega) (fun e => by have := (hr k e.symm).1; omega)).trans (hs.2.1.2 k h1 h2)
  case hIx =>
    intro cd s A B row hs hg hr
    have hr' : ∀ r, row = some r → W.heap.size ≤ r ∧ ∃ o : Obj, A.heap[r]? = some o ∧ o.isCells = false := fun r e => ⟨by have := (hr r e).1; omega, (hr r e).2⟩
    exact ⟨hs.1, HJX.out _ A B row hs.2.1 hg hr', hs.2.2⟩
  case assign =>
    intro q2 ax lx cx Wr K hK
    gi_wp2
    exact hK _ _ (bel1 _ _) (Nat.le_refl _) (box_new _ _ _ _)
  case body =>
    rintro q2 k X ax cx b U Wb hX ⟨hj, ⟨hsa, hsb⟩, hz⟩ hU hUW hb hbx hown
    obtain ⟨i, hi9, hXE, hl9⟩ := wthJ_mem (n := n) (c := c) (j := 2 ^ n) (by rw [HLL.out]; exact List.mem_of_getElem? hX)
    have hxo : Ok n X := by rw [hXE]; exact bits_ok hn1 (by omega)
    have HXO := Lib.hid hxo
    have hxl24 := ok_len hxo
    have HX := Lib.hid hX
    have HJK := Lib.hid hj
    have HSA := Lib.hid hsa
    have HSB := Lib.hid hsb
    have HUW := Lib.hid hUW
    have HOW := Lib.hid hown
    have hUz := hUW.size
    have HIX := Lib.hid (intsAt_own hown (ok_int hxo))
    have HBX := Lib.hid hbx
    have HSA2 : Hid (Same lo (lo + 3) w1 Wb) := Lib.hid (hsa.trans (Same.of_below hUW (by omega)))
    have HSB2 : Hid (Same W.heap.size w1.heap.size w1 Wb) := Lib.hid (hsb.trans (Same.of_below hUW (by omega)))
    have d1 : Wb.cell? ⟨lo + 1, 0, none⟩ = some (.int .i64 d) := (World.cell?_of_block (HSA2.out (lo + 1) (by omega) (by omega))).trans HD1.out
    obtain ⟨c0, c1, _, _⟩ := hbx.facts
    clear hi9 hl9 hXE hX hj hsa hsb hUW hown hbx hxo
    obtain ⟨y, hy⟩ : ∃ y, avB n X d = y := ⟨_, rfl⟩
    have HQ := Lib.hid hy
    clear hy
    gi_wp2_with fail
    refine (CallsIn.inRound q2 (callsIn_wide.2 (avoids_any n ax X.length cx X d Wb HIX.out HXO.out (by omega) (by omega)))).mono ?_
    rintro e w2 ⟨rfl, hb2⟩
    rw [HQ.out]
    have HB2 := Lib.hid hb2
    have hz2 := hb2.size
    clear hb2 d1 c0 c1
    cases y
    · gi_wp2
      refine ⟨(others_below HB2.out).from _, Kp.of_below HB2.out (by omega) (by omega), Same.of_below HB2.out (Nat.le_refl _), ?_, ⟨HSA2.out.trans (Same.of_below HB2.out (by omega)), HSB2.out.trans (Same.of_below HB2.out (by omega))⟩, by omega⟩
      rw [filt_no _ HX.out HQ.out]
      exact HJ.out _ U w2 none HJK.out (grown_of_below (HUW.out.trans (HB2.out.mono (by omega))) none) (fun r e => by cases e)
    · have y1 : w2.cell? ⟨W.heap.size, 0, none⟩ = some (.func (.yield q) #[] #[]) := (World.cell?_of_block (HB2.out.block W.heap.size (by omega))).trans ((World.cell?_of_block (HSB2.out W.heap.size (Nat.le_refl _) (by omega))).trans HYB1.out.cell)
      obtain ⟨c0, c1, _, _⟩ := (HBX.out.keep HB2.out HBX.out.lt).facts
      have HFX := Lib.hid (filt_at (fun X => avB n X d) HX.out HQ.out)
      have HFL := Lib.hid (at_lt HFX.out)
      obtain ⟨fn, tmps, assign, body, hy, hR⟩ := HY.out _ X ax cx U w2 HFX.out HJK.out (HUW.out.trans (HB2.out.mono (by omega))) (own_below HOW.out HB2.out)
      gi_wp2_with fail
      refine ((roundIn_any hR).mono ?_)
      rintro e w3 (⟨rfl, hj3, hkp3, hsm3⟩ | ⟨rfl, hx3, hsm3⟩)
      · have HKF := Lib.hid (keeps_same (B := w1.heap.size) HB2.out hsm3 (by omega) (by omega))
        have HJ3 := Lib.hid hj3
        have HK3 := Lib.hid hkp3
        have HS3 := Lib.hid hsm3
        have hz3 := hkp3.1.size
        clear hj3 hkp3 hsm3 c0 c1 y1 hR hy
        gi_wp2
        refine ⟨HKF.out, (Kp.of_below HB2.out (by omega) (by omega)).t ⟨HK3.out.1, fun x h1 h2 => HS3.out x (by omega) (by omega)⟩, (Same.of_below HB2.out (Nat.le_refl _)).trans (fun x h1 h2 => HS3.out x (by omega) (by omega)), ?_, ⟨(HSA2.out.trans (Same.of_below HB2.out (by omega))).trans HK3.out.2, (HSB2.out.trans (Same.of_below HB2.out (by omega))).trans (fun x h1 h2 => HS3.out x h1 (by omega))⟩, by omega⟩
        rw [filt_yes _ HX.out HQ.out, List.length_append]
        exact HJ3.out
      · have HKF := Lib.hid (keeps_same (B := w1.heap.size) HB2.out hsm3 (by omega) (by omega))
        have HX3 := Lib.hid hx3
        have HS3 := Lib.hid hsm3
        clear hx3 hsm3 c0 c1 y1 hR hy
        gi_wp2
        exact ⟨HKF.out, (Same.of_below HB2.out (Nat.le_refl _)).trans (fun x h1 h2 => HS3.out x (by omega) (by omega)), rfl, HX3.out, HFL.out⟩
  case done =>
    rintro D Wd hD ⟨hj, -, -⟩ hK
    rw [List.take_length] at hj
    have HJD := Lib.hid (HJ.out.putObj (.deferred none) hj (show W.heap.size ≤ D by omega) hK rfl)
    clear hj
    gi_wp2
    exact leave_mark _ hK (results_none rfl _ _ _) ⟨⟨_, rfl⟩, .inl HJD.out⟩
  case stop =>
    rintro D cd k Wd hD hk ⟨rfl, hx, hlt⟩ hK
    have HXD := Lib.hid (HJX.out.putObj (.deferred none) hx (show W.heap.size ≤ D by omega) hK rfl)
    have HLT := Lib.hid hlt
    clear hx hlt
    gi_wp2
    exact leave_mark _ hK (results_none rfl _ _ _) ⟨⟨_, rfl⟩, .inr ⟨_, HLT.out, HXD.out⟩⟩
end Go.Proofs.Ytjgjcppkbfojpaa.Rhy

/-
  Helpers of the claims beside this text: CountAvoiding and FirstAvoiding of the program.
-/
namespace Go.Proofs.Ytjgjcppkbfojpaa.Rhy
open Go.RowKit
set_option linter.unusedVariables false
set_option linter.unusedSimpArgs false
set_option maxRecDepth 100000

theorem arec_yes (n d k : Int) (w : World) (h : CoC n d k) : Calls Try.prog 85 #[.int .i64 n, .int .i64 d, .int .i64 k] w fun e w' => e = .returned (.bool true) ∧ w = w' := by
  have HD : Hid (1 ≤ d ∧ d < n) := Lib.hid (by have := h.2.1; omega)
  have HR : Hid (EvC k n) := Lib.hid ⟨by have := h.1; omega, by have := h.1; omega, h.2.2.1, h.2.2.2⟩
  have hn : n ≤ 16 := h.1.2
  clear h
  go_enter Try.func85, Try.ntmps85
  go_wp2_with fail
  refine (isint_yes d n _ HD.out.1 HD.out.2).mono ?_
  rintro e w' ⟨rfl, rfl⟩
  go_wp2_with fail
  refine (room_yes k n _ HR.out).mono ?_
  rintro e w' ⟨rfl, rfl⟩
  go_wp2
  go_ret
  exact ⟨rfl, rfl⟩
theorem arec_no (n d k : Int) (w : World) (h : ¬ CoC n d k) : Calls Try.prog 85 #[.int .i64 n, .int .i64 d, .int .i64 k] w fun e w' => e = .returned (.bool false) ∧ w = w' := by
  by_cases hn : n ≤ 16
  · by_cases hd : 1 ≤ d ∧ d < n
    · have HD := Lib.hid hd
      have HR : Hid (¬ EvC k n) := Lib.hid (fun x => h ⟨by omega, by omega, x.2.2.1, x.2.2.2⟩)
      clear h hd
      go_enter Try.func85, Try.ntmps85
      go_wp2_with fail
      refine (isint_yes d n _ HD.out.1 HD.out.2).mono ?_
      rintro e w' ⟨rfl, rfl⟩
      go_wp2_with fail
      refine (room_no k n _ HR.out).mono ?_
      rintro e w' ⟨rfl, rfl⟩
      go_wp2
      go_ret
      exact ⟨rfl, rfl⟩
    · have HD := Lib.hid hd
      clear h hd
      go_enter Try.func85, Try.ntmps85
      go_wp2_with fail
      refine (isint_no d n _ HD.out).mono ?_
      rintro e w' ⟨rfl, rfl⟩
      go_wp2
      go_ret
      exact ⟨rfl, rfl⟩
  · clear h
    go_enter Try.func85, Try.ntmps85
    go_wp2
    go_ret
    exact ⟨rfl, rfl⟩

/-- What the iterator over the avoiding rhythms captured. -/
theorem avd_at {W0 w1 : World} {n d c : Nat} (hw1 : w1 = ((W0.alloc (.cells #[.int .i64 n] 3)).alloc (.cells #[.int .i64 d] 3)).alloc (.cells #[.int .i64 c] 3)) :
    w1.cell? ⟨W0.heap.size, 0, none⟩ = some (.int .i64 n) ∧ w1.cell? ⟨W0.heap.size + 1, 0, none⟩ = some (.int .i64 d) ∧ w1.cell? ⟨W0.heap.size + 2, 0, none⟩ = some (.int .i64 c) ∧ Below W0.heap.size W0 w1 ∧ w1.heap.size = W0.heap.size + 3 := by
  have h1 := (((Boxed.new W0 3 (.int .i64 n)).alloc (.cells #[.int .i64 d] 3)).alloc (.cells #[.int .i64 c] 3)).cell
  have h2 := ((Boxed.new (W0.alloc (.cells #[.int .i64 n] 3)) 3 (.int .i64 d)).alloc (.cells #[.int .i64 c] 3)).cell
  have h3 := (Boxed.new ((W0.alloc (.cells #[.int .i64 n] 3)).alloc (.cells #[.int .i64 d] 3)) 3 (.int .i64 c)).cell
  rw [World.size_alloc] at h2
  rw [World.size_alloc, World.size_alloc] at h3
  subst hw1
  exact ⟨h1, h2, h3, (bel2 W0 _ _).trans ((bel1 _ _).mono (by simp; omega)), by simp⟩

attribute [local go_sem] Oper.semAt_some wide_fn wide_depth in_fn in_depth

set_option maxHeartbeats 600000 in
theorem coa_impl (n d k : Int) (w : World) (h1 : -9223372036854775808 ≤ n) (h2 : n ≤ 9223372036854775807) (h3 : -9223372036854775808 ≤ d) (h4 : d ≤ 9223372036854775807) (h5 : -9223372036854775808 ≤ k) (h6 : k ≤ 9223372036854775807) :
    Calls Try.prog 36 #[.int .i64 n, .int .i64 d, .int .i64 k] w fun e w' => e = .returned (.int .i64 (coaB n d k)) ∧ Below w.heap.size w w' := by
  by_cases hc : CoC n d k
  · obtain ⟨N, rfl⟩ : ∃ N : Nat, n = N := ⟨n.toNat, by have := hc.1; omega⟩
    obtain ⟨D, rfl⟩ : ∃ D : Nat, d = D := ⟨d.toNat, by have := hc.2.1; omega⟩
    obtain ⟨C, rfl⟩ : ∃ C : Nat, k = C := ⟨k.toNat, by have := hc.2.2; omega⟩
    have HC := Lib.hid hc
    obtain ⟨L, hL⟩ : ∃ L, avdL N D C = L := ⟨_, rfl⟩
    have hn16 : N ≤ 16 := by have := hc.1; omega
    have hn2 : 2 ≤ N := by have := hc.1; omega
    have hd1 : 1 ≤ D := by have := hc.2.1; omega
    have hdn : D < N := by have := hc.2.1; omega
    have hcn : C ≤ N := by have := hc.2.2; omega
    have hLl : L.length = cntV N D C := by rw [← hL]; exact avdL_len ⟨hd1, hdn⟩
    have HV : Hid (coaB N D C = (L.length : Nat)) := Lib.hid (by rw [coaB_yes hc, Int.toNat_natCast, Int.toNat_natCast, Int.toNat_natCast, cntF_is ⟨hn2, hn16⟩ ⟨hd1, hdn⟩ hcn, hLl])
    have hl6 : L.length ≤ 65536 := by
      rw [hLl]
      have e1 := cntM_le N D C (2 ^ N)
      have e2 : 2 ^ N ≤ 2 ^ 16 := Nat.pow_le_pow_right (by omega) hn16
      have e3 : (2 : Nat) ^ 16 = 65536 := rfl
      show cntM N D C (2 ^ N) ≤ 65536
      omega
    have HL := Lib.hid hL
    clear hc hL hLl
    rw [HV.out]
    refine (callsIn_wide (n := 9)).1 ?_
    refine callsIn_of_wp_marks Try.func36 rfl trivial ?_ rfl
    simp only [Try.ntmps36, List.size_toArray, List.length_cons, List.length_nil, Nat.reduceAdd, Nat.reduceSub, Array.replicate_succ, Array.replicate_zero, List.push_toArray, List.append_toArray, List.nil_append, List.cons_append]
    gi_wp2_with fail
    refine (callsIn_wide.2 (arec_yes N D C _ HC.out)).mono ?_
    rintro e w' ⟨rfl, rfl⟩
    gi_wp2_with fail
    obtain ⟨W0, hW0⟩ : ∃ W0, W0 = w.alloc (.cells #[.int .i64 0] 3) := ⟨_, rfl⟩
    rw [← hW0]
    have HB0 := Lib.hid (show Below w.heap.size w W0 by rw [hW0]; exact bel1 w _)
    have HK0 := Lib.hid (show Boxed W0 w.heap.size 3 (.int .i64 0) by rw [hW0]; exact Boxed.new w _ _)
    have hz0 : w.heap.size + 1 ≤ W0.heap.size := by rw [hW0]; simp
    clear hW0
    refine (callsIn_wide.2 (avd_any N D C W0)).mono ?_
    rintro e w1 ⟨rfl, hw1⟩
    obtain ⟨x1, x2, x3, hbw, hs1⟩ := avd_at hw1
    have hgv := avd_gives N D C w1 W0.heap.size (by omega) hn16 (by omega) (by omega) w.heap.size (by omega) x1 x2 x3 (by omega)
    rw [HL.out] at hgv
    have HGV := Lib.hid hgv
    have hz1 : W0.heap.size + 3 ≤ w1.heap.size := by omega
    have HB1 : Hid (Below w.heap.size w w1) := Lib.hid (HB0.out.trans (hbw.mono (by omega)))
    have HK1 : Hid (Boxed w1 w.heap.size 3 (.int .i64 ((0 : Nat) : Int))) := Lib.hid ((hbw.block _ (by omega)).trans HK0.out)
    clear hw1 x1 x2 x3 hbw hs1 hgv
    gi_wp2
    refine wp_rangeS (n := w.heap.size) (lo := W0.heap.size) (hi := W0.heap.size + 3) (sz := N) (L := L) (by omega) rfl enters_avd HGV.out (by omega) (by omega)
      (fun j Wr => Boxed Wr w.heap.size 3 (.int .i64 ((j : Nat) : Int)) ∧ Below w.heap.size w Wr ∧ w1.heap.size ≤ Wr.heap.size)
      (fun _ _ _ => False) ?hI (fun _ _ _ _ _ hs _ _ => hs.elim) ⟨HK1.out, HB1.out, Nat.le_refl _⟩
      (fun ax lx cx b => { tmps := #[.int .i64 N, .int .i64 D, .int .i64 C, undef, undef, undef, .int .i64 0, .pointer (some ⟨w.heap.size, 0, none⟩), .int .i64 N, .int .i64 D, .int .i64 C, .bool true, .bool false, .int .i64 N, .int .i64 D, .int .i64 C,
          .func (.func 127) #[] #[.pointer (some ⟨W0.heap.size, 0, none⟩), .pointer (some ⟨W0.heap.size + 2, 0, none⟩), .pointer (some ⟨W0.heap.size + 1, 0, none⟩)], rhy N ax lx cx, undef, undef, undef], defers := [] })
      (fun _ _ _ _ _ => True) (fun _ _ _ _ _ _ _ _ _ _ _ _ => trivial) ?assign ?body ?done ?stop
    case hI =>
      intro s A B row hs hg hr
      refine ⟨(hg.block _ (by have := hs.2.2; omega) (fun e => by have := (hr _ e.symm).1; omega)).trans hs.1, hs.2.1.grown hg (by have := hs.2.2; omega) (fun r e => by have := (hr r e).1; omega), by have := hg.size; have := hs.2.2; omega⟩
    case assign =>
      intro q2 ax lx cx Wr K hK
      gi_wp2
      exact hK _ Wr.heap.size (Below.refl _ _) (Nat.le_refl _) trivial
    case body =>
      rintro q2 j X ax cx b U Wb hX ⟨hbk, hbl, hz⟩ hU hUW hb hbx hown
      have hj := at_lt hX
      have hUz := hUW.size
      have HBK : Hid (Boxed Wb w.heap.size 3 (.int .i64 ((j : Nat) : Int))) := Lib.hid ((hUW.block _ (by omega)).trans hbk)
      have HBL := Lib.hid (hbl.trans (hUW.mono (by omega)))
      have c0 := HBK.out.cell
      have c1 := HBK.out.frozen
      clear hX hbk hbl hUW hbx hown
      gi_wp2
      refine ⟨(KeepsOthers.setCell _ _ _).from _, Kp.set Wb w.heap.size (Nat.le_refl _) (Or.inl (by omega)) 0 _, (Same.refl _ _ _).setCell w.heap.size (Or.inl (by omega)) 0 _, ?_, HBL.out.setCell (Nat.le_refl _) _, by simp; omega⟩
      have := HBK.out.set (.int .i64 ((j : Int) + 1))
      simpa using this
    case done =>
      rintro E Wd hE ⟨hbk, hbl, hz⟩ hK
      have HBL := Lib.hid hbl
      have c0 := hbk.cell
      clear hbk hbl
      gi_wp2
      refine leave_mark _ hK (results_tmp rfl _ _ _) ⟨rfl, ?_⟩
      exact HBL.out.grown (grownBy_putObj' Wd E _) (by omega) (fun j e => by cases e; omega)
    case stop =>
      rintro E cd j Wd _ _ hx _
      exact hx.elim
  · have HC := Lib.hid hc
    have HE := Lib.hid (coaB_no hc)
    clear hc
    rw [HE.out]
    refine (callsIn_wide (n := 9)).1 ?_
    refine callsIn_of_wp_marks Try.func36 rfl trivial ?_ rfl
    simp only [Try.ntmps36, List.size_toArray, List.length_cons, List.length_nil, Nat.reduceAdd, Nat.reduceSub, Array.replicate_succ, Array.replicate_zero, List.push_toArray, List.append_toArray, List.nil_append, List.cons_append]
    gi_wp2_with fail
    refine (callsIn_wide.2 (arec_no n d k _ HC.out)).mono ?_
    rintro e w' ⟨rfl, rfl⟩
    gi_wp2
    exact ⟨_, results_tmp rfl _ _ _, rfl, Below.refl _ _⟩
end Go.Proofs.Ytjgjcppkbfojpaa.Rhy

/-
  Helpers of the claims beside this text: FirstAvoiding of the program.
-/
namespace Go.Proofs.Ytjgjcppkbfojpaa.Rhy
open Go.RowKit
set_option linter.unusedVariables false
set_option linter.unusedSimpArgs false
set_option maxRecDepth 100000

theorem own_obj {w : World} {B : Nat} {e : TypeId} {size : Nat} {v : Value} {n : Nat} {xs : List Value} (h : w.ownsRow B e size v n xs) {k : Nat} (hk : v.ownBlock = some k) : ∃ o : Obj, w.heap[k]? = some o ∧ o.isCells = true := by
  obtain ⟨_, ⟨rfl, _⟩ | ⟨g, cap, cur, rfl, _, hg, _⟩⟩ := h
  · cases hk
  · obtain rfl : g = k := Option.some.inj hk
    exact ⟨_, hg, rfl⟩
theorem box_two {w : World} {b : Nat} {v0 v1 : Value} {t : TypeId} (h : Box w b v0 v1 t) (u0 u1 : Value) : Box ((w.setCell ⟨b, 0, none⟩ u0).setCell ⟨b, 1, none⟩ u1) b u0 u1 t := (h.set0 u0).set1 u1
/-- What FirstAvoiding answers. -/
def fiC (n d k : Int) : Prop := CoC n d k ∧ (firstN n.toNat d.toNat n.toNat 0 k.toNat).isSome = true
def fiZ (n d k : Int) : List Int := bitsL n.toNat ((firstN n.toNat d.toNat n.toNat 0 k.toNat).getD 0)

attribute [local go_sem] Oper.semAt_some wide_fn wide_depth in_fn in_depth

/-- The answer lies in its two boxes. -/
def FstAt (w : World) (n : Nat) (L : List (List Int)) (Wr : World) : Prop :=
  ∃ X ax cx, L[0]? = some X ∧ Box Wr w.heap.size (.int .i64 n) (.slice ax X.length cx) 25 ∧ Boxed Wr (w.heap.size + 1) 4 (.bool true) ∧
    Wr.ownsRow w.heap.size 3 1 (.slice ax X.length cx) X.length (ints X) ∧ Below w.heap.size w Wr ∧ w.heap.size + 5 ≤ Wr.heap.size
theorem fst_own {w : World} {n B : Nat} {L : List (List Int)} (hB : w.heap.size + 2 ≤ B) : OwnFrom B (fun (_ : Nat) Wr => FstAt w n L Wr) := by
  rintro s A C row ⟨X, ax, cx, h1, h2, h3, h4, h5, h6⟩ hg hr
  have hne : ∀ k, k < B → row ≠ some k := fun k hk e => by have := (hr k e).1; omega
  refine ⟨X, ax, cx, h1, (hg.block _ (by omega) (fun e => hne _ (by omega) e.symm)).trans h2, (hg.block _ (by omega) (fun e => hne _ (by omega) e.symm)).trans h3, own_grown h4 hg (fun k hk e => ?_), h5.grown hg (by omega) (fun k e => by have := (hr k e).1; omega), by have := hg.size; omega⟩
  obtain ⟨o, ho, hc⟩ := own_obj h4 hk
  obtain ⟨_, o', ho', hc'⟩ := hr k e
  rw [ho] at ho'
  rw [← Option.some.inj ho', hc] at hc'
  cases hc'

set_option maxHeartbeats 600000 in
theorem first_impl (n d k : Int) (w : World) (h1 : -9223372036854775808 ≤ n) (h2 : n ≤ 9223372036854775807) (h3 : -9223372036854775808 ≤ d) (h4 : d ≤ 9223372036854775807) (h5 : -9223372036854775808 ≤ k) (h6 : k ≤ 9223372036854775807) :
    Calls Try.prog 35 #[.int .i64 n, .int .i64 d, .int .i64 k] w (CPost (fiC n d k) n (fiZ n d k) w) := by
  by_cases hc : CoC n d k
  · obtain ⟨N, rfl⟩ : ∃ N : Nat, n = N := ⟨n.toNat, by have := hc.1; omega⟩
    obtain ⟨D, rfl⟩ : ∃ D : Nat, d = D := ⟨d.toNat, by have := hc.2.1; omega⟩
    obtain ⟨C, rfl⟩ : ∃ C : Nat, k = C := ⟨k.toNat, by have := hc.2.2; omega⟩
    have HC := Lib.hid hc
    obtain ⟨L, hL⟩ : ∃ L, avdL N D C = L := ⟨_, rfl⟩
    have hn16 : N ≤ 16 := by have := hc.1; omega
    have hn2 : 2 ≤ N := by have := hc.1; omega
    have hd1 : 1 ≤ D := by have := hc.2.1; omega
    have hdn : D < N := by have := hc.2.1; omega
    have hcn : C ≤ N := by have := hc.2.2; omega
    have HYES : Hid (∀ X : List Int, L[0]? = some X → fiC N D C ∧ fiZ N D C = X) := Lib.hid (fun X hX => by
      unfold fiC fiZ
      simp only [Int.toNat_natCast]
      cases hf : firstN N D N 0 C with
      | none =>
        have := avdL_none (c := C) ⟨hd1, hdn⟩ hf
        rw [← hL, this] at hX
        cases hX
      | some z =>
        have := (avdL_some (c := C) ⟨hd1, hdn⟩ hf).1
        rw [hL, hX] at this
        exact ⟨⟨hc, rfl⟩, (Option.some.inj this).symm⟩)
    have HNO : Hid (L.length = 0 → ¬ fiC N D C) := Lib.hid (fun h0 hx => by
      have h2 := hx.2
      simp only [Int.toNat_natCast] at h2
      cases hf : firstN N D N 0 C with
      | none => rw [hf] at h2; cases h2
      | some z =>
        have := (avdL_some (c := C) ⟨hd1, hdn⟩ hf).1
        rw [hL, List.eq_nil_of_length_eq_zero h0] at this
        cases this)
    have HOKL : Hid (∀ X : List Int, L[0]? = some X → Ok N X) := Lib.hid (fun X hX => avdL_ok (by rw [hL]; exact hX) ⟨by omega, by omega⟩)
    have HL := Lib.hid hL
    clear hc hL
    refine (callsIn_wide (n := 9)).1 ?_
    refine callsIn_of_wp_marks Try.func35 rfl trivial ?_ rfl
    simp only [Try.ntmps35, List.size_toArray, List.length_cons, List.length_nil, Nat.reduceAdd, Nat.reduceSub, Array.replicate_succ, Array.replicate_zero, List.push_toArray, List.append_toArray, List.nil_append, List.cons_append]
    gi_wp2_with fail
    obtain ⟨W0, hW0⟩ : ∃ W0, W0 = (w.alloc (.cells #[.int .i64 0, .slice none 0 0] 25)).alloc (.cells #[.bool false] 4) := ⟨_, rfl⟩
    rw [← hW0]
    have HB0 := Lib.hid (show Below w.heap.size w W0 by rw [hW0]; exact bel2 w _ _)
    have HR0 := Lib.hid (show Box W0 w.heap.size (.int .i64 0) (.slice none 0 0) 25 by rw [hW0]; exact (box_new w _ _ _).keep (bel1 _ _) (by simp))
    have HK0 := Lib.hid (show Boxed W0 (w.heap.size + 1) 4 (.bool false) by
      rw [hW0]
      have := Boxed.new (w.alloc (.cells #[.int .i64 0, .slice none 0 0] 25)) 4 (.bool false)
      simpa using this)
    have hz0 : w.heap.size + 2 ≤ W0.heap.size := by rw [hW0]; simp
    clear hW0
    refine (callsIn_wide.2 (arec_yes N D C _ HC.out)).mono ?_
    rintro e w' ⟨rfl, rfl⟩
    gi_wp2_with fail
    refine (callsIn_wide.2 (avd_any N D C W0)).mono ?_
    rintro e w1 ⟨rfl, hw1⟩
    obtain ⟨x1, x2, x3, hbw, hs1⟩ := avd_at hw1
    have hgv := avd_gives N D C w1 W0.heap.size (by omega) hn16 (by omega) (by omega) w.heap.size (by omega) x1 x2 x3 (by omega)
    rw [HL.out] at hgv
    have HGV := Lib.hid hgv
    have hz1 : W0.heap.size + 3 ≤ w1.heap.size := by omega
    have HB1 : Hid (Below w.heap.size w w1) := Lib.hid (HB0.out.trans (hbw.mono (by omega)))
    have HR1 : Hid (Box w1 w.heap.size (.int .i64 0) (.slice none 0 0) 25) := Lib.hid ((hbw.block _ (by omega)).trans HR0.out)
    have HK1 : Hid (Boxed w1 (w.heap.size + 1) 4 (.bool false)) := Lib.hid ((hbw.block _ (by omega)).trans HK0.out)
    clear hw1 x1 x2 x3 hbw hs1 hgv
    gi_wp2
    refine wp_rangeS (n := w.heap.size) (lo := W0.heap.size) (hi := W0.heap.size + 3) (sz := N) (L := L) (by omega) rfl enters_avd HGV.out (by omega) (by omega)
      (fun j Wr => j = 0 ∧ Box Wr w.heap.size (.int .i64 0) (.slice none 0 0) 25 ∧ Boxed Wr (w.heap.size + 1) 4 (.bool false) ∧ Below w.heap.size w Wr ∧ w1.heap.size ≤ Wr.heap.size)
      (fun cd _ Wr => cd = .ret ∧ FstAt w N L Wr) ?hI ?hIx ⟨rfl, HR1.out, HK1.out, HB1.out, Nat.le_refl _⟩
      (fun ax lx cx b => { tmps := #[.int .i64 N, .int .i64 D, .int .i64 C, undef, undef, undef, .pointer (some ⟨w.heap.size, 0, none⟩), .pointer (some ⟨w.heap.size + 1, 0, none⟩), .pointer (some ⟨b, 0, none⟩), .int .i64 N, .int .i64 D, .int .i64 C, .bool true, .bool false, undef, .int .i64 N, .int .i64 D, .int .i64 C,
          .func (.func 127) #[] #[.pointer (some ⟨W0.heap.size, 0, none⟩), .pointer (some ⟨W0.heap.size + 2, 0, none⟩), .pointer (some ⟨W0.heap.size + 1, 0, none⟩)], rhy N ax lx cx, undef, undef], defers := [] })
      (fun ax lx cx b Wr => Box Wr b (.int .i64 N) (.slice ax lx cx) 25)
      (fun ax lx cx b Wr l o o' h _ _ hl => (World.putObj_heap_other (by omega)).trans h) ?assign ?body ?done ?stop
    case hI =>
      rintro s A B row ⟨h0, hs1, hs2, hs3, hs4⟩ hg hr
      exact ⟨h0, (hg.block _ (by omega) (fun e => by have := (hr _ e.symm).1; omega)).trans hs1, (hg.block _ (by omega) (fun e => by have := (hr _ e.symm).1; omega)).trans hs2, hs3.grown hg (by omega) (fun r e => by have := (hr r e).1; omega), by have := hg.size; omega⟩
    case hIx =>
      rintro cd s A B row ⟨h0, hs⟩ hg hr
      exact ⟨h0, fst_own (B := w1.heap.size) (by omega) s A B row hs hg hr⟩
    case assign =>
      intro q2 ax lx cx Wr K hK
      gi_wp2
      exact hK _ _ (bel1 _ _) (Nat.le_refl _) (box_new _ _ _ _)
    case body =>
      rintro q2 j X ax cx b U Wb hX ⟨rfl, hbr, hbk, hbl, hz⟩ hU hUW hb hbx hown
      have hUz := hUW.size
      have HX := Lib.hid hX
      have HBR : Hid (Box Wb w.heap.size (.int .i64 0) (.slice none 0 0) 25) := Lib.hid ((hUW.block _ (by omega)).trans hbr)
      have HBK : Hid (Boxed Wb (w.heap.size + 1) 4 (.bool false)) := Lib.hid ((hUW.block _ (by omega)).trans hbk)
      have HBL := Lib.hid (hbl.trans (hUW.mono (by omega)))
      have HOW := Lib.hid hown
      have HBX := Lib.hid hbx
      obtain ⟨c0, c1, c2, c3⟩ := HBR.out.facts
      obtain ⟨d0, d1, _, _⟩ := hbx.facts
      have e0 := HBK.out.cell
      have e1 := HBK.out.frozen
      have hne : ¬ w.heap.size + 1 = w.heap.size := by omega
      clear hX hbr hbk hbl hUW hbx hown
      gi_wp2
      refine ⟨(((KeepsOthers.setCell _ _ _).trans (KeepsOthers.setCell _ _ _)).trans (KeepsOthers.setCell _ _ _)).from _, (((Same.refl _ _ _).setCell w.heap.size (Or.inl (by omega)) 0 _).setCell w.heap.size (Or.inl (by omega)) 1 _).setCell (w.heap.size + 1) (Or.inl (by omega)) 0 _, rfl, X, ax, cx, HX.out, ?_, ?_, ?_, ?_, by simp; omega⟩
      · exact (box_two HBR.out _ _).other _ (by omega)
      · refine Boxed.set (v := .bool false) _ ?_
        exact (heap_setCell_other _ _ _ _ (show w.heap.size + 1 ≠ w.heap.size by omega)).trans ((heap_setCell_other _ _ _ _ (show w.heap.size + 1 ≠ w.heap.size by omega)).trans HBK.out)
      · exact own_base (ownsRow_setCell_below (ownsRow_setCell_below (ownsRow_setCell_below HOW.out (by show w.heap.size < _; omega) _) (by show w.heap.size < _; omega) _) (by show w.heap.size + 1 < _; omega) _) (by omega)
      · exact ((HBL.out.setCell (Nat.le_refl _) _).setCell (Nat.le_refl _) _).setCell (by show w.heap.size ≤ w.heap.size + 1; omega) _
    case done =>
      rintro E Wd hE ⟨hj, hbr, hbk, hbl, hz⟩ hK
      have HN := Lib.hid (HNO.out hj)
      have HBL := Lib.hid hbl
      have HBR := Lib.hid hbr
      have HBK := Lib.hid hbk
      have HKK := Lib.hid hK
      obtain ⟨c0, c1, c2, c3⟩ := hbr.facts
      have e0 := hbk.cell
      have e1 := hbk.frozen
      have hne : ¬ w.heap.size + 1 = w.heap.size := by omega
      clear hj hbr hbk hbl hK
      gi_wp2
      obtain ⟨Wf, hWf⟩ : ∃ Wf, Wf = ((Wd.setCell ⟨w.heap.size, 0, none⟩ (.int .i64 0)).setCell ⟨w.heap.size, 1, none⟩ (.slice none 0 0)).setCell ⟨w.heap.size + 1, 0, none⟩ (.bool false) := ⟨_, rfl⟩
      have hbx : Box Wf w.heap.size (.int .i64 0) (.slice none 0 0) 25 := by rw [hWf]; exact (box_two HBR.out _ _).other _ (by omega)
      have hbk : Boxed Wf (w.heap.size + 1) 4 (.bool false) := by
        rw [hWf]
        refine Boxed.set (v := .bool false) _ ?_
        exact (heap_setCell_other _ _ _ _ (show w.heap.size + 1 ≠ w.heap.size by omega)).trans ((heap_setCell_other _ _ _ _ (show w.heap.size + 1 ≠ w.heap.size by omega)).trans HBK.out)
      have hbf : Below w.heap.size w Wf := by rw [hWf]; exact ((HBL.out.setCell (Nat.le_refl _) _).setCell (Nat.le_refl _) _).setCell (by show w.heap.size ≤ w.heap.size + 1; omega) _
      have hKf : Wf.heap[E]? = some (.deferred (some [])) := by
        rw [hWf]
        exact (heap_setCell_other _ _ _ _ (show E ≠ w.heap.size + 1 by omega)).trans ((heap_setCell_other _ _ _ _ (show E ≠ w.heap.size by omega)).trans ((heap_setCell_other _ _ _ _ (show E ≠ w.heap.size by omega)).trans HKK.out))
      rw [← hWf]
      clear c0 c1 c2 c3 e0 e1 hWf
      have hbx2 : Box (Wf.putObj E (.deferred none)) w.heap.size (.int .i64 0) (.slice none 0 0) 25 := (World.putObj_heap_other (by omega)).trans hbx
      have hbk2 : Boxed (Wf.putObj E (.deferred none)) (w.heap.size + 1) 4 (.bool false) := (World.putObj_heap_other (by omega)).trans hbk
      have HBF := Lib.hid (hbf.grown (grownBy_putObj' Wf E (.deferred none)) (by have := hbx.lt; omega) (fun j e => by cases e; omega))
      obtain ⟨c0, c1, _, _⟩ := hbx2.facts
      have e0 := hbk2.cell
      refine leave_mark (.tuple #[rhy 0 none 0 0, .bool false]) hKf (by simp [results, Try.results35, go_sem, *]) ?_
      exact cpost_no HN.out HBF.out
    case stop =>
      rintro E cd j Wd hE _ ⟨rfl, X, ax, cx, hX, hbx, hbk, how, hbl, hz⟩ hK
      obtain ⟨hC, hZ⟩ := HYES.out X hX
      have HCZ := Lib.hid hC
      have HZZ := Lib.hid hZ
      have hbx2 : Box (Wd.putObj E (.deferred none)) w.heap.size (.int .i64 N) (.slice ax X.length cx) 25 := (World.putObj_heap_other (by omega)).trans hbx
      have hbk2 : Boxed (Wd.putObj E (.deferred none)) (w.heap.size + 1) 4 (.bool true) := (World.putObj_heap_other (by omega)).trans hbk
      have HOW := Lib.hid (ownsRow_putObj how (.deferred none) hK rfl)
      have HBL := Lib.hid (hbl.grown (grownBy_putObj' Wd E (.deferred none)) (by omega) (fun j e => by cases e; omega))
      have HKK := Lib.hid hK
      obtain ⟨c0, c1, _, _⟩ := hbx2.facts
      have e0 := hbk2.cell
      clear hC hZ hX hbx hbk how hbl hK hbx2 hbk2
      gi_wp2
      refine leave_mark (.tuple #[rhy N ax X.length cx, .bool true]) HKK.out (by simp [results, Try.results35, go_sem, *]) ?_
      rw [HZZ.out]
      exact cpost_yes HCZ.out rfl HOW.out HBL.out
  · have HC := Lib.hid hc
    have HN : Hid (¬ fiC n d k) := Lib.hid (fun x => hc x.1)
    clear hc
    refine (callsIn_wide (n := 9)).1 ?_
    refine callsIn_of_wp_marks Try.func35 rfl trivial ?_ rfl
    simp only [Try.ntmps35, List.size_toArray, List.length_cons, List.length_nil, Nat.reduceAdd, Nat.reduceSub, Array.replicate_succ, Array.replicate_zero, List.push_toArray, List.append_toArray, List.nil_append, List.cons_append]
    gi_wp2_with fail
    obtain ⟨W0, hW0⟩ : ∃ W0, W0 = (w.alloc (.cells #[.int .i64 0, .slice none 0 0] 25)).alloc (.cells #[.bool false] 4) := ⟨_, rfl⟩
    rw [← hW0]
    have HB0 := Lib.hid (show Below w.heap.size w W0 by rw [hW0]; exact bel2 w _ _)
    have HR0 := Lib.hid (show Box W0 w.heap.size (.int .i64 0) (.slice none 0 0) 25 by rw [hW0]; exact (box_new w _ _ _).keep (bel1 _ _) (by simp))
    have HK0 := Lib.hid (show Boxed W0 (w.heap.size + 1) 4 (.bool false) by
      rw [hW0]
      have := Boxed.new (w.alloc (.cells #[.int .i64 0, .slice none 0 0] 25)) 4 (.bool false)
      simpa using this)
    have hz0 : w.heap.size + 2 ≤ W0.heap.size := by rw [hW0]; simp
    clear hW0
    refine (callsIn_wide.2 (arec_no n d k _ HC.out)).mono ?_
    rintro e w' ⟨rfl, rfl⟩
    obtain ⟨c0, c1, c2, c3⟩ := HR0.out.facts
    have e0 := HK0.out.cell
    have e1 := HK0.out.frozen
    have hne : ¬ w.heap.size + 1 = w.heap.size := by omega
    gi_wp2
    obtain ⟨Wf, hWf⟩ : ∃ Wf, Wf = ((W0.setCell ⟨w.heap.size, 0, none⟩ (.int .i64 0)).setCell ⟨w.heap.size, 1, none⟩ (.slice none 0 0)).setCell ⟨w.heap.size + 1, 0, none⟩ (.bool false) := ⟨_, rfl⟩
    have hbx : Box Wf w.heap.size (.int .i64 0) (.slice none 0 0) 25 := by rw [hWf]; exact (box_two HR0.out _ _).other _ (by omega)
    have hbk : Boxed Wf (w.heap.size + 1) 4 (.bool false) := by
      rw [hWf]
      refine Boxed.set (v := .bool false) _ ?_
      exact (heap_setCell_other _ _ _ _ (show w.heap.size + 1 ≠ w.heap.size by omega)).trans ((heap_setCell_other _ _ _ _ (show w.heap.size + 1 ≠ w.heap.size by omega)).trans HK0.out)
    have hbf : Below w.heap.size w Wf := by rw [hWf]; exact ((HB0.out.setCell (Nat.le_refl _) _).setCell (Nat.le_refl _) _).setCell (by show w.heap.size ≤ w.heap.size + 1; omega) _
    rw [← hWf]
    clear c0 c1 c2 c3 e0 e1 hWf
    obtain ⟨c0, c1, _, _⟩ := hbx.facts
    have e0 := hbk.cell
    exact ⟨.tuple #[rhy 0 none 0 0, .bool false], by simp [results, Try.results35, go_sem, *], cpost_no HN.out hbf⟩
end Go.Proofs.Ytjgjcppkbfojpaa.Rhy
