/-
  Helpers of the claims beside this text: the program's iterator over the avoiding rhythms, CountAvoiding, FirstAvoiding.
-/
import Derived.Test.YtpbceckbmalabaaOdm
import Derived.Test.YtpbceckbmalabaaOca
import Derived.Test.YtpbceckbmalabaaEva
import Derived.Test.YtpbceckbmalabaaOce
namespace Go.Proofs.Ytpbceckbmalabaa.Rhy
open Go.RowKit
set_option linter.unusedVariables false
set_option linter.unusedSimpArgs false
set_option maxRecDepth 100000

theorem keeps_same {B lo : Nat} {U V X : World} (hb : Below U.heap.size U V) (hs : Same lo V.heap.size V X) (hB : lo ≤ B) (hz : lo < V.heap.size) : KeepsFrom B U X := by
  have h1 := hb.size
  have h2 : V.heap.size ≤ X.heap.size := by
    have h3 := hs (V.heap.size - 1) (by omega) (by omega)
    rw [Array.getElem?_eq_getElem (show V.heap.size - 1 < V.heap.size by omega)] at h3
    have := (Array.getElem?_eq_some_iff.1 h3).1
    omega
  refine ⟨by omega, fun k o hk ho _ => ?_⟩
  have hlt := (Array.getElem?_eq_some_iff.1 ho).1
  exact (hs k (by omega) (by omega)).trans ((hb.block k hlt).trans ho)
theorem enters_with : Enters 91 := enters_of Try.func91 (by kernel_rfl) rfl
theorem enters_avd : Enters 78 := enters_of Try.func78 (by kernel_rfl) rfl

theorem avd_any (n d c : Int) (w : World) :
    Calls Try.prog 52 #[.int .i64 n, .int .i64 d, .int .i64 c] w fun e w' => e = .returned (.func (.func 78) #[] #[.pointer (some ⟨w.heap.size, 0, none⟩), .pointer (some ⟨w.heap.size + 2, 0, none⟩), .pointer (some ⟨w.heap.size + 1, 0, none⟩)]) ∧
      w' = ((w.alloc (.cells #[.int .i64 n] 3)).alloc (.cells #[.int .i64 d] 3)).alloc (.cells #[.int .i64 c] 3) := by
  go_enter Try.func52, Try.ntmps52
  go_wp2
  go_ret
  exact ⟨rfl, rfl⟩

theorem in_fn (q : Nat) (f : FuncId) : (Fence.wide.inRound q).fn f = True := rfl
theorem in_depth (q : Nat) : (Fence.wide.inRound q).depth = none := rfl
attribute [local go_sem] Oper.semAt_some wide_fn wide_depth in_fn in_depth

set_option maxHeartbeats 600000 in
theorem avd_gives (n d c : Nat) (w : World) (lo : Nat) (hn1 : 1 ≤ n) (hn : n ≤ 16) (hd : d ≤ 24) (hc : c ≤ 1000)
    (nn : Nat) (hnn : nn ≤ lo) (h1 : w.cell? ⟨lo, 0, none⟩ = some (.int .i64 n)) (h2 : w.cell? ⟨lo + 1, 0, none⟩ = some (.int .i64 d)) (h3 : w.cell? ⟨lo + 2, 0, none⟩ = some (.int .i64 c)) (hlo : lo + 3 ≤ w.heap.size) :
    GivesS nn lo (lo + 3) w 78 #[.pointer (some ⟨lo, 0, none⟩), .pointer (some ⟨lo + 2, 0, none⟩), .pointer (some ⟨lo + 1, 0, none⟩)] n (avdL n d c) := by
  obtain ⟨LL, hLL⟩ : ∃ LL, wthJ n c (2 ^ n) = LL := ⟨_, rfl⟩
  have HLL := Lib.hid hLL
  have hAV : avdL n d c = LL.filter (fun X => avB n X d) := by rw [← hLL]; rfl
  rw [hAV]
  clear hLL hAV
  intro q J Jx W hW hJ hJx hY h0
  have HJ := Lib.hid hJ
  have HJX := Lib.hid hJx
  have HY := Lib.hid hY
  have HV1 := Lib.hid ((hW.cell (p := ⟨lo, 0, none⟩) (by show lo < _; omega)).trans h1)
  have HV2 := Lib.hid ((hW.cell (p := ⟨lo + 1, 0, none⟩) (by show lo + 1 < _; omega)).trans h2)
  have HV3 := Lib.hid ((hW.cell (p := ⟨lo + 2, 0, none⟩) (by show lo + 2 < _; omega)).trans h3)
  have hlW : lo + 3 ≤ W.heap.size := by have := hW.size; omega
  have H0 := Lib.hid h0
  clear hW hJ hJx hY h0 h1 h2 h3
  obtain ⟨W0, hW0⟩ : ∃ W0, W0 = W.alloc (.cells #[.func (.yield q) #[] #[]] 40) := ⟨_, rfl⟩
  have HW0 := Lib.hid hW0
  have B0 := Lib.hid (show Below W.heap.size W W0 by rw [hW0]; exact bel1 W _)
  have HZ0 := Lib.hid (show W0.heap.size = W.heap.size + 1 by rw [hW0]; simp)
  have HYB := Lib.hid (show Boxed W0 W.heap.size 40 (.func (.yield q) #[] #[]) by rw [hW0]; exact Boxed.new W _ _)
  have x1 : (W.alloc (.cells #[.func (.yield q) #[] #[]] 40)).cell? ⟨lo, 0, none⟩ = some (.int .i64 n) := by rw [← hW0]; exact (B0.out.cell (p := ⟨lo, 0, none⟩) (by show lo < _; omega)).trans HV1.out
  have x3 : (W.alloc (.cells #[.func (.yield q) #[] #[]] 40)).cell? ⟨lo + 2, 0, none⟩ = some (.int .i64 c) := by rw [← hW0]; exact (B0.out.cell (p := ⟨lo + 2, 0, none⟩) (by show lo + 2 < _; omega)).trans HV3.out
  have hl0 : lo < W.heap.size := by omega
  have hl2 : lo + 2 < W.heap.size := by omega
  refine (callsIn_wide (n := 9)).1 ?_
  refine callsIn_of_wp_marks Try.func78 rfl trivial ?_ rfl
  simp only [Try.ntmps78, List.size_toArray, List.length_cons, List.length_nil, Nat.reduceAdd, Nat.reduceSub, Array.replicate_succ, Array.replicate_zero, List.push_toArray, List.append_toArray, List.nil_append, List.cons_append]
  gi_wp2_with fail
  rw [← HW0.out]
  refine (callsIn_wide.2 (with_any n c W0)).mono ?_
  rintro e w1 ⟨rfl, hw1⟩
  have hbw : Below W0.heap.size W0 w1 := by rw [hw1]; exact bel2 W0 _ _
  have hs1 : w1.heap.size = W0.heap.size + 2 := by rw [hw1]; simp
  have hv1 : w1.cell? ⟨W0.heap.size, 0, none⟩ = some (.int .i64 n) := by
    rw [hw1]
    exact ((bel1 _ _).cell (p := ⟨W0.heap.size, 0, none⟩) (by simp)).trans (by simp)
  have hv2 : w1.cell? ⟨W0.heap.size + 1, 0, none⟩ = some (.int .i64 c) := by
    rw [hw1]
    simp
  have HBW := Lib.hid hbw
  have hgv := with_givesS n c nn w1 W0.heap.size hn1 hn hc hv1 hv2 (by omega) (by have := HZ0.out; omega)
  rw [HLL.out] at hgv
  have HGV := Lib.hid hgv
  clear hgv
  have hz0 := HZ0.out
  have HYB1 : Hid (Boxed w1 W.heap.size 40 (.func (.yield q) #[] #[])) := Lib.hid ((hbw.block W.heap.size (by omega)).trans HYB.out)
  have HD1 : Hid (w1.cell? ⟨lo + 1, 0, none⟩ = some (.int .i64 d)) := Lib.hid ((hbw.cell (p := ⟨lo + 1, 0, none⟩) (by show lo + 1 < _; omega)).trans ((B0.out.cell (p := ⟨lo + 1, 0, none⟩) (by show lo + 1 < _; omega)).trans HV2.out))
  have HJ1 : Hid (J ((LL.take 0).filter (fun X => avB n X d)).length w1) := Lib.hid (by rw [List.take_zero, List.filter_nil, List.length_nil]; exact HJ.out 0 W w1 none H0.out (grown_of_below (B0.out.trans (hbw.mono (by omega))) none) (fun r e => by cases e))
  have hzA : W.heap.size + 1 ≤ W0.heap.size := by omega
  have hzB : W0.heap.size + 2 ≤ w1.heap.size := by omega
  clear hw1 hbw hv1 hv2 x1 x3 hl0 hl2 hz0 hs1 hW0
  gi_wp2
  refine wp_rangeS (n := nn) (lo := W0.heap.size) (hi := W0.heap.size + 2) (sz := n) (L := LL) (by omega) rfl enters_with HGV.out (by omega) (by omega)
    (fun k Wr => J ((LL.take k).filter (fun X => avB n X d)).length Wr ∧ (Same lo (lo + 3) w1 Wr ∧ Same W.heap.size w1.heap.size w1 Wr) ∧ w1.heap.size ≤ Wr.heap.size)
    (fun cd k Wr => cd = .ret ∧ Jx ((LL.take k).filter (fun X => avB n X d)).length Wr ∧ ((LL.take k).filter (fun X => avB n X d)).length < (LL.filter (fun X => avB n X d)).length)
    ?hI ?hIx ⟨HJ1.out, ⟨Same.refl _ _ _, Same.refl _ _ _⟩, Nat.le_refl _⟩
    (fun ax lx cx b => { tmps := #[.func (.yield q) #[] #[], .pointer (some ⟨lo, 0, none⟩), .pointer (some ⟨lo + 2, 0, none⟩), .pointer (some ⟨lo + 1, 0, none⟩), .pointer (some ⟨W.heap.size, 0, none⟩), .pointer (some ⟨b, 0, none⟩), .int .i64 n, .int .i64 c,
        .func (.func 91) #[] #[.pointer (some ⟨W0.heap.size, 0, none⟩), .pointer (some ⟨W0.heap.size + 1, 0, none⟩)], rhy n ax lx cx, undef, undef, undef, undef, undef, undef, undef, undef, undef], defers := [] })
    (fun ax lx cx b Wr => Box Wr b (.int .i64 n) (.slice ax lx cx) 30)
    (fun ax lx cx b Wr l o o' h _ _ hl => (World.putObj_heap_other (by omega)).trans h) ?assign ?body ?done ?stop
  case hI =>
    intro s A B row hs hg hr
    have hr' : ∀ r, row = some r → W.heap.size ≤ r ∧ ∃ o : Obj, A.heap[r]? = some o ∧ o.isCells = false := fun r e => ⟨by have := (hr r e).1; omega, (hr r e).2⟩
    refine ⟨HJ.out _ A B row hs.1 hg hr', ⟨fun k h1 h2 => ?_, fun k h1 h2 => ?_⟩, by have := hg.size; have := hs.2.2; omega⟩
    · exact (hg.block k (by have := hs.2.2; omega) (fun e => by have := (hr k e.symm).1; omega)).trans (hs.2.1.1 k h1 h2)
    · exact (hg.block k (by have := hs.2.2; omega) (fun e => by have := (hr k e.symm).1; omega)).trans (hs.2.1.2 k h1 h2)
  case hIx =>
    intro cd s A B row hs hg hr
    have hr' : ∀ r, row = some r → W.heap.size ≤ r ∧ ∃ o : Obj, A.heap[r]? = some o ∧ o.isCells = false := fun r e => ⟨by have := (hr r e).1; omega, (hr r e).2⟩
    exact ⟨hs.1, HJX.out _ A B row hs.2.1 hg hr', hs.2.2⟩
  case assign =>
    intro q2 ax lx cx Wr K hK
    gi_wp2
    exact hK _ _ (bel1 _ _) (Nat.le_refl _) (box_new _ _ _ _)
  case body =>
    rintro q2 k X ax cx b U Wb hX ⟨hj, ⟨hsa, hsb⟩, hz⟩ hU hUW hb hbx hown
    obtain ⟨i, hi9, hXE, hl9⟩ := wthJ_mem (n := n) (c := c) (j := 2 ^ n) (by rw [HLL.out]; exact List.mem_of_getElem? hX)
    have hxo : Ok n X := by rw [hXE]; exact bits_ok hn1 (by omega)
    have HXO := Lib.hid hxo
    have hxl24 := ok_len hxo
    have HX := Lib.hid hX
    have HJK := Lib.hid hj
    have HSA := Lib.hid hsa
    have HSB := Lib.hid hsb
    have HUW := Lib.hid hUW
    have HOW := Lib.hid hown
    have hUz := hUW.size
    have HIX := Lib.hid (intsAt_own hown (ok_int hxo))
    have HBX := Lib.hid hbx
    have HSA2 : Hid (Same lo (lo + 3) w1 Wb) := Lib.hid (hsa.trans (Same.of_below hUW (by omega)))
    have HSB2 : Hid (Same W.heap.size w1.heap.size w1 Wb) := Lib.hid (hsb.trans (Same.of_below hUW (by omega)))
    have d1 : Wb.cell? ⟨lo + 1, 0, none⟩ = some (.int .i64 d) := (World.cell?_of_block (HSA2.out (lo + 1) (by omega) (by omega))).trans HD1.out
    obtain ⟨c0, c1, _, _⟩ := hbx.facts
    clear hi9 hl9 hXE hX hj hsa hsb hUW hown hbx hxo
    obtain ⟨y, hy⟩ : ∃ y, avB n X d = y := ⟨_, rfl⟩
    have HQ := Lib.hid hy
    clear hy
    gi_wp2_with fail
    refine (CallsIn.inRound q2 (callsIn_wide.2 (avoids_any n ax X.length cx X d Wb HIX.out HXO.out (by omega) (by omega)))).mono ?_
    rintro e w2 ⟨rfl, hb2⟩
    rw [HQ.out]
    have HB2 := Lib.hid hb2
    have hz2 := hb2.size
    clear hb2 d1 c0 c1
    cases y
    · gi_wp2
      refine ⟨(others_below HB2.out).from _, Kp.of_below HB2.out (by omega) (by omega), Same.of_below HB2.out (Nat.le_refl _), ?_, ⟨HSA2.out.trans (Same.of_below HB2.out (by omega)), HSB2.out.trans (Same.of_below HB2.out (by omega))⟩, by omega⟩
      rw [filt_no _ HX.out HQ.out]
      exact HJ.out _ U w2 none HJK.out (grown_of_below (HUW.out.trans (HB2.out.mono (by omega))) none) (fun r e => by cases e)
    · have y1 : w2.cell? ⟨W.heap.size, 0, none⟩ = some (.func (.yield q) #[] #[]) := (World.cell?_of_block (HB2.out.block W.heap.size (by omega))).trans ((World.cell?_of_block (HSB2.out W.heap.size (Nat.le_refl _) (by omega))).trans HYB1.out.cell)
      obtain ⟨c0, c1, _, _⟩ := (HBX.out.keep HB2.out HBX.out.lt).facts
      have HFX := Lib.hid (filt_at (fun X => avB n X d) HX.out HQ.out)
      have HFL := Lib.hid (at_lt HFX.out)
      obtain ⟨fn, tmps, assign, body, hy, hR⟩ := HY.out _ X ax cx U w2 HFX.out HJK.out (HUW.out.trans (HB2.out.mono (by omega))) (own_below HOW.out HB2.out)
      gi_wp2_with fail
      refine ((roundIn_any hR).mono ?_)
      rintro e w3 (⟨rfl, hj3, hkp3, hsm3⟩ | ⟨rfl, hx3, hsm3⟩)
      · have HKF := Lib.hid (keeps_same (B := w1.heap.size) HB2.out hsm3 (by omega) (by omega))
        have HJ3 := Lib.hid hj3
        have HK3 := Lib.hid hkp3
        have HS3 := Lib.hid hsm3
        have hz3 := hkp3.1.size
        clear hj3 hkp3 hsm3 c0 c1 y1 hR hy
        gi_wp2
        refine ⟨HKF.out, (Kp.of_below HB2.out (by omega) (by omega)).t ⟨HK3.out.1, fun x h1 h2 => HS3.out x (by omega) (by omega)⟩, (Same.of_below HB2.out (Nat.le_refl _)).trans (fun x h1 h2 => HS3.out x (by omega) (by omega)), ?_, ⟨(HSA2.out.trans (Same.of_below HB2.out (by omega))).trans HK3.out.2, (HSB2.out.trans (Same.of_below HB2.out (by omega))).trans (fun x h1 h2 => HS3.out x h1 (by omega))⟩, by omega⟩
        rw [filt_yes _ HX.out HQ.out, List.length_append]
        exact HJ3.out
      · have HKF := Lib.hid (keeps_same (B := w1.heap.size) HB2.out hsm3 (by omega) (by omega))
        have HX3 := Lib.hid hx3
        have HS3 := Lib.hid hsm3
        clear hx3 hsm3 c0 c1 y1 hR hy
        gi_wp2
        exact ⟨HKF.out, (Same.of_below HB2.out (Nat.le_refl _)).trans (fun x h1 h2 => HS3.out x (by omega) (by omega)), rfl, HX3.out, HFL.out⟩
  case done =>
    rintro D Wd hD ⟨hj, -, -⟩ hK
    rw [List.take_length] at hj
    have HJD := Lib.hid (HJ.out.putObj (.deferred none) hj (show W.heap.size ≤ D by omega) hK rfl)
    clear hj
    gi_wp2
    exact leave_mark _ hK (results_none rfl _ _ _) ⟨⟨_, rfl⟩, .inl HJD.out⟩
  case stop =>
    rintro D cd k Wd hD hk ⟨rfl, hx, hlt⟩ hK
    have HXD := Lib.hid (HJX.out.putObj (.deferred none) hx (show W.heap.size ≤ D by omega) hK rfl)
    have HLT := Lib.hid hlt
    clear hx hlt
    gi_wp2
    exact leave_mark _ hK (results_none rfl _ _ _) ⟨⟨_, rfl⟩, .inr ⟨_, HLT.out, HXD.out⟩⟩
end Go.Proofs.Ytpbceckbmalabaa.Rhy
