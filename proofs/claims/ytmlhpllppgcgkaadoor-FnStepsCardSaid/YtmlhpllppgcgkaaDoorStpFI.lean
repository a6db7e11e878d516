/-
  Helpers of the claims beside this text: the program's FormatSteps.
-/
import Derived.Test.YtmlhpllppgcgkaaDoorStpF
import Derived.Test.YtmlhpllppgcgkaaDoorTab
import Derived.Test.YtmlhpllppgcgkaaDoorStpI
namespace Go.Proofs.YtmlhpllppgcgkaaDoor.Rhy
open Go.RowKit
set_option linter.unusedVariables false
attribute [local go_sem] Oper.semAt_some wide_fn wide_depth

theorem boxed_below {W W' : World} {B : Nat} {t : TypeId} {v : Value} (h : Boxed W B t v) (hb : Below W.heap.size W W') : Boxed W' B t v := h.kept (grown_of_below hb none) (by simp)

/-- 'out = append(out, ..)' where out's box lies below m, and its row from m on: what lay below n, and between lo and hi, stays. -/
theorem box_appended {w2 w3 : World} {tmp : Obj} {n m lo hi B : Nat} {t e : TypeId} {v v' : Value} {k k' : Nat} {xs ys : List Value} (hv : Boxed w2 B t v) (hr : w2.ownsRow m e 1 v k xs) (hm : m ≤ w2.heap.size) (hB : B < m) (hn : n ≤ B) (hlo : B < lo) (hhi : hi ≤ m)
    (ho : w3.ownsRow m e 1 v' k' ys) (hg : (w2.alloc tmp).grownBy w3 v.ownBlock) :
    Boxed w3 B t v ∧ Boxed (w3.setCell ⟨B, 0, none⟩ v') B t v' ∧ (w3.setCell ⟨B, 0, none⟩ v').ownsRow m e 1 v' k' ys ∧ KeepsOthers w2 (w3.setCell ⟨B, 0, none⟩ v') ∧ Kp n lo hi w2 (w3.setCell ⟨B, 0, none⟩ v') := by
  have hrow : ∀ j, v.ownBlock = some j → m ≤ j := fun j hj => (hr.lt j hj).1
  have hv3 : Boxed w3 B t v := (hv.alloc tmp).kept hg (fun e => by have := hrow B e.symm; omega)
  refine ⟨hv3, hv3.set v', ownsRow_setCell_below ho (by show B < m; exact hB) _, ?_, ?_⟩
  · refine ((KeepsOthers.alloc w2 tmp).trans (KeepsOthers.of_grownBy hg fun j o ej hj => ?_)).trans (KeepsOthers.setCell _ _ _)
    rcases (hr.alloc tmp).2 with ⟨rfl, _⟩ | ⟨g, cap, cur, rfl, _, hgb, _⟩
    · simp [Value.ownBlock] at ej
    · obtain rfl : g = j := by simpa [Value.ownBlock] using ej
      rw [hgb] at hj; cases hj; rfl
  · have hsz : (w2.alloc tmp).heap.size = w2.heap.size + 1 := by simp
    refine ⟨(((Below.refl n w2).alloc (by omega) tmp).grown hg (by omega) fun j ej => by have := hrow j ej; omega).setCell (p := ⟨B, 0, none⟩) hn _, ?_⟩
    refine Same.setCell (fun i h1 h2 => ?_) B (.inl hlo) 0 _
    rw [hg.block i (by omega) (fun e => by have := hrow i e.symm; omega)]
    exact Below.heap_alloc w2 tmp i (by omega)

/-- 'append' at a slice of the call's own, as one step of a region that draws its order, in a round of a loop over an iterator. -/
theorem step_append_in {F : Fence} {n : Nat} {ops : Array Oper} {o : Oper} {a : Act} {w : World} {K : Act → World → Prop} {Q : Exit → Act → World → Prop} {E : Prop}
    (hg : o.guard = none) (x y : Operand) (hop : o.op = .call { callee := .builtin .append, args := #[x, y], argTypes := #[48, 48] })
    (B : Nat) (v : Value) (k : Nat) (xs : List Value) (t : ByteArray) (hown : w.ownsRow B 9 1 v k xs) (hk : k ≤ 1048576) (hB : B ≤ w.heap.size) (N : Nat) (hs : a.eval x = v) (hx : a.eval y = .slice (some ⟨N, 0, none⟩) 1 1) (hc : w.cell? ⟨N, 0, none⟩ = some (.string t))
    (hK : ∀ v' w', w'.ownsRow B 9 1 v' (k + 1) (xs ++ [.string t]) → w.grownBy w' v.ownBlock → K (a.put o.dst v') w') :
    if Region.wanted o (yielded ops a.tmps) = true then Oper.wpIn F n Tryd.prog o a w K Q else E := by
  have hw : Region.wanted o (yielded ops a.tmps) = true := by simp [Region.wanted, hg]
  rw [if_pos hw]
  obtain ⟨i0, hi0, hz0, hz1, hz2⟩ := info_parts Strs.infoStr
  obtain ⟨v', w', hrun, r1, r2, _⟩ := run_append_own (P := Tryd.prog) w B 48 o.type 9 i0 (.string ByteArray.empty) 1 16 Tryd.underlying48 hi0 hz0 hz1 hz2 rfl (by decide) v k xs hown ⟨N, 0, none⟩ 1 1 [.string t] rfl
    (fun j u hj => by
      cases j with
      | zero => simp at hj; subst hj; exact hc
      | succ j => simp at hj) (fun u hu => by simp at hu; subst hu; rfl) (by unfold maxLen; omega) (by omega) hB
  unfold Oper.wpIn
  refine ⟨?_, ?_⟩
  · simp [Oper.about, hop, resolve, Target.leads, Sem.run_pure]
  · rw [Oper.semAt_plain F _ _ (by rw [hop]; intro c hc'; cases hc')]
    simp [execOp, hop, resolve, invoke, builtin, hs, hx, hrun, Result.andThen]
    exact hK v' w' r1 r2

set_option maxHeartbeats 2000000 in
theorem fmtsteps_impl (s : Int) (a : Option Addr) (len cap : Nat) (zs : List Int) (w : World) (h : IntsAt w a len zs) (hm : zs.length ≤ 1048576) (hF : Fact w) :
    Calls Tryd.prog 8 #[rhy s a len cap] w fun e w' => e = .returned (.string (stepsText s zs)) ∧ Below w.heap.size w w' := by
  have HS := Lib.hid h
  have HFA := Lib.hid hF
  have hl' : len ≤ 1048576 := by have := h.1; omega
  clear h hF
  obtain ⟨l, hl⟩ : ∃ l, l = stB s zs := ⟨_, rfl⟩
  have HC := Lib.hid (fun w2 hb => iter_any s a len cap zs w w2 HS.out hb hl')
  have HV := Lib.hid (show stepsText s zs = Strs.str (Strs.joined (l.map text) plus) by rw [hl]; rfl)
  have hlen : l.length ≤ 24 := by rw [hl]; exact stB_len s zs
  have HI := Lib.hid (show AllInt l by rw [hl]; exact stB_int s zs)
  rw [← hl] at HC
  rw [HV.out]
  clear hl
  obtain ⟨i0, hi0, hz0, hz1, hz2⟩ := info_parts Strs.infoStr
  have HIS := Lib.hid (show _ ∧ _ ∧ _ ∧ _ from ⟨hi0, hz0, hz1, hz2⟩)
  clear hi0 hz0 hz1 hz2
  have hmix : Tryd.prog.follows .mixedOrders = true := by kernel_rfl
  refine (callsIn_wide (n := 9)).1 ?_
  refine callsIn_of_wp_marks Tryd.func8 rfl trivial ?_ rfl
  simp only [Tryd.ntmps8, List.size_toArray, List.length_cons, List.length_nil, Nat.reduceAdd, Nat.reduceSub, Array.replicate_succ, Array.replicate_zero, List.push_toArray, List.append_toArray, List.nil_append, List.cons_append]
  gi_wp2_with fail
  obtain ⟨W0, hW⟩ : ∃ W0, W0 = (w.alloc (.cells #[.int .i64 s, .slice a len cap] 25)).alloc (.cells #[.slice none 0 0] 48) := ⟨_, rfl⟩
  rw [← hW]
  have B0 := Lib.hid (show Below w.heap.size w W0 by rw [hW]; exact bel2 w _ _)
  have V0 := Lib.hid (show Boxed W0 (w.heap.size + 1) 48 (.slice none 0 0) by rw [hW]; simpa using Boxed.new (w.alloc (.cells #[.int .i64 s, .slice a len cap] 25)) 48 (.slice none 0 0))
  clear hW
  refine (callsIn_wide.2 (HC.out W0 B0.out)).mono ?_
  rintro e w1 ⟨lo, rfl, h1, h2, h3, h4⟩
  have H2 := Lib.hid h2
  have B1 := Lib.hid (B0.out.trans (h3.mono B0.out.size))
  have V1 := Lib.hid (V0.out.kept (grown_of_below h3 none) (by simp))
  have HG := Lib.hid h4
  have hlo : w.heap.size + 1 < lo := by have := V0.out.lt; omega
  clear h1 h2 h3 h4
  gi_wp2
  refine wp_range (n := w.heap.size) (lo := lo) (hi := lo + 2) (by omega) rfl enters_steps HG.out B1.out.size H2.out
    (fun pre W => (∃ v, Boxed W (w.heap.size + 1) 48 v ∧ W.ownsRow w1.heap.size 9 1 v pre.length ((pre.map text).map Value.string) ∧ True) ∧ (Below w.heap.size w W ∧ w1.heap.size ≤ W.heap.size)) (fun _ _ _ => False)
    (OwnFrom.and (Own.from (holdsRow_own w1.heap.size (w.heap.size + 1) 48 9 1 (fun pre : List Int => pre.length) (fun pre => (pre.map text).map Value.string) (fun _ _ => True)) _) (OwnFrom.and (ownFrom_below (Nat.le_refl _) B1.out.size) (fun s A B row hs hg hr => Nat.le_trans hs hg.size)))
    (fun _ _ _ _ _ hs _ _ => hs) ⟨⟨_, V1.out, World.ownsRow_nil _ _ _ _, trivial⟩, B1.out, Nat.le_refl _⟩
    (fun x => { tmps := #[rhy s a len cap, .pointer (some ⟨w.heap.size, 0, none⟩), .string ByteArray.empty, .pointer (some ⟨w.heap.size + 1, 0, none⟩), .int .i64 x, .agg #[.int .i64 s, .slice a len cap], .func (.func 51) #[] #[.pointer (some ⟨lo, 0, none⟩), .pointer (some ⟨lo + 1, 0, none⟩)], .int .i64 x, undef, undef, undef, undef, undef, undef, undef], defers := [] }) ?assign ?body ?done ?stop
  case assign =>
    intro q x W K hK
    gi_wp2
    exact hK
  case body =>
    rintro q pre x W ⟨⟨v, hv, hrow, -⟩, hB, hsz⟩ hlt hx
    have hxb : -9223372036854775808 ≤ x ∧ x ≤ 9223372036854775807 := by
      rcases hx with hx | rfl
      · exact HI.out x hx
      · omega
    have HFC := Lib.hid (program_format x W.drew hxb.1 hxb.2 (HFA.out.below (hB.trans (Below.refl _ _).drew)))
    have hc := hv.cell
    have hf := hv.frozen
    have HVX := Lib.hid hv
    have HR := Lib.hid hrow
    have HSZ := Lib.hid hsz
    clear hx hv hrow hsz
    have hBm : w.heap.size + 1 < w1.heap.size := by have := H2.out; omega
    gi_wp2
    refine wpIn_region_any hmix ?_
    try (change wpAnyIn _ _ _ _ _ _ _ _ _ (World.drew _))
    refine wpAnyIn_ready (rs := [0, 1]) (by kernel_rfl) (by simp) ?_
    refine AllReadyIn.cons rfl (fun K hK => ?_) ?_
    · go_simp; refine hK _ _ ?_; clear hK K
      refine wpAnyIn_ready (rs := [1]) (by kernel_rfl) (by simp) ?_
      refine AllReadyIn.cons rfl (fun K hK => ?_) ?_
      · go_simp; refine hK _ _ ?_; clear hK K
        refine wpAnyIn_ready (rs := [2]) (by kernel_rfl) (by simp) ?_
        refine AllReadyIn.cons rfl (fun K hK => ?_) ?_
        · go_simp; refine (CallsIn.inRound q (callsIn_wide.2 HFC.out)).mono ?_; rintro e w2 ⟨rfl, hb2⟩; have HB2 := Lib.hid (show Below W.heap.size W w2 from (Below.refl W.heap.size W).drew.trans hb2); have HV2 := Lib.hid (boxed_below HVX.out HB2.out); have HR2 := Lib.hid (Strs.own_below HR.out HB2.out); have hc2 := HV2.out.cell; have hl2 := HV2.out.lt; clear hb2; go_simp; refine hK _ _ ?_; clear hK K
          refine wpAnyIn_ready (rs := [3]) (by kernel_rfl) (by simp) ?_
          refine AllReadyIn.cons rfl (fun K hK => ?_) ?_
          · go_simp; refine hK _ _ ?_; clear hK K
            refine wpAnyIn_ready (rs := [4]) (by kernel_rfl) (by simp) ?_
            refine AllReadyIn.cons rfl (fun K hK => ?_) ?_
            · refine step_append_in rfl _ _ rfl w1.heap.size v pre.length _ (text x) (HR2.out.alloc _) (by omega) (by have := HSZ.out; have := HB2.out.size; simp; omega) w2.heap.size rfl rfl (by simp) ?_; intro v2 w3 ho3 hg3; obtain ⟨g3, c3, rfl⟩ := ownsRow_succ ho3; obtain ⟨hv3, hv4, hr4, hk4, hb4⟩ := box_appended (n := w.heap.size) (lo := lo) (hi := lo + 2) HV2.out HR2.out (by have := HSZ.out; have := HB2.out.size; omega) hBm (by omega) hlo H2.out ho3 hg3; have HV4 := Lib.hid hv4; have HR4 := Lib.hid hr4; have HK4 := Lib.hid hk4; have HB4 := Lib.hid hb4; have hc3 := hv3.cell; have hf3 := hv3.frozen; clear ho3 hg3 hv3 hv4 hr4 hk4 hb4; (try go_simp); refine hK _ _ ?_; clear hK K
              refine wpAnyIn_ready (rs := [5]) (by kernel_rfl) (by simp) ?_
              refine AllReadyIn.cons rfl (fun K hK => ?_) ?_
              · go_simp; refine hK _ _ ?_; clear hK K
                refine wpAnyIn_done (by kernel_rfl) ?_ _
                refine ⟨((others_below HB2.out).trans HK4.out).from _, (Kp.of_below HB2.out hB.size (by have := H2.out; have := HSZ.out; omega)).t HB4.out, ⟨_, HV4.out, by simpa using HR4.out, trivial⟩, (hB.trans (HB2.out.mono hB.size)).trans HB4.out.1, ?_⟩
                have h5 := HB4.out.1.size
                have h6 := HB2.out.size
                have h7 := HSZ.out
                exact Nat.le_trans h7 (Nat.le_trans h6 h5)
              exact AllReadyIn.nil
            exact AllReadyIn.nil
          exact AllReadyIn.nil
        exact AllReadyIn.nil
      exact AllReadyIn.nil
    refine AllReadyIn.cons rfl (fun K hK => ?_) ?_
    · go_simp; refine hK _ _ ?_; clear hK K
      refine wpAnyIn_ready (rs := [0, 2]) (by kernel_rfl) (by simp) ?_
      refine AllReadyIn.cons rfl (fun K hK => ?_) ?_
      · go_simp; refine hK _ _ ?_; clear hK K
        refine wpAnyIn_ready (rs := [2]) (by kernel_rfl) (by simp) ?_
        refine AllReadyIn.cons rfl (fun K hK => ?_) ?_
        · go_simp; refine (CallsIn.inRound q (callsIn_wide.2 HFC.out)).mono ?_; rintro e w2 ⟨rfl, hb2⟩; have HB2 := Lib.hid (show Below W.heap.size W w2 from (Below.refl W.heap.size W).drew.trans hb2); have HV2 := Lib.hid (boxed_below HVX.out HB2.out); have HR2 := Lib.hid (Strs.own_below HR.out HB2.out); have hc2 := HV2.out.cell; have hl2 := HV2.out.lt; clear hb2; go_simp; refine hK _ _ ?_; clear hK K
          refine wpAnyIn_ready (rs := [3]) (by kernel_rfl) (by simp) ?_
          refine AllReadyIn.cons rfl (fun K hK => ?_) ?_
          · go_simp; refine hK _ _ ?_; clear hK K
            refine wpAnyIn_ready (rs := [4]) (by kernel_rfl) (by simp) ?_
            refine AllReadyIn.cons rfl (fun K hK => ?_) ?_
            · refine step_append_in rfl _ _ rfl w1.heap.size v pre.length _ (text x) (HR2.out.alloc _) (by omega) (by have := HSZ.out; have := HB2.out.size; simp; omega) w2.heap.size rfl rfl (by simp) ?_; intro v2 w3 ho3 hg3; obtain ⟨g3, c3, rfl⟩ := ownsRow_succ ho3; obtain ⟨hv3, hv4, hr4, hk4, hb4⟩ := box_appended (n := w.heap.size) (lo := lo) (hi := lo + 2) HV2.out HR2.out (by have := HSZ.out; have := HB2.out.size; omega) hBm (by omega) hlo H2.out ho3 hg3; have HV4 := Lib.hid hv4; have HR4 := Lib.hid hr4; have HK4 := Lib.hid hk4; have HB4 := Lib.hid hb4; have hc3 := hv3.cell; have hf3 := hv3.frozen; clear ho3 hg3 hv3 hv4 hr4 hk4 hb4; (try go_simp); refine hK _ _ ?_; clear hK K
              refine wpAnyIn_ready (rs := [5]) (by kernel_rfl) (by simp) ?_
              refine AllReadyIn.cons rfl (fun K hK => ?_) ?_
              · go_simp; refine hK _ _ ?_; clear hK K
                refine wpAnyIn_done (by kernel_rfl) ?_ _
                refine ⟨((others_below HB2.out).trans HK4.out).from _, (Kp.of_below HB2.out hB.size (by have := H2.out; have := HSZ.out; omega)).t HB4.out, ⟨_, HV4.out, by simpa using HR4.out, trivial⟩, (hB.trans (HB2.out.mono hB.size)).trans HB4.out.1, ?_⟩
                have h5 := HB4.out.1.size
                have h6 := HB2.out.size
                have h7 := HSZ.out
                exact Nat.le_trans h7 (Nat.le_trans h6 h5)
              exact AllReadyIn.nil
            exact AllReadyIn.nil
          exact AllReadyIn.nil
        exact AllReadyIn.nil
      refine AllReadyIn.cons rfl (fun K hK => ?_) ?_
      · go_simp; refine (CallsIn.inRound q (callsIn_wide.2 HFC.out)).mono ?_; rintro e w2 ⟨rfl, hb2⟩; have HB2 := Lib.hid (show Below W.heap.size W w2 from (Below.refl W.heap.size W).drew.trans hb2); have HV2 := Lib.hid (boxed_below HVX.out HB2.out); have HR2 := Lib.hid (Strs.own_below HR.out HB2.out); have hc2 := HV2.out.cell; have hl2 := HV2.out.lt; clear hb2; go_simp; refine hK _ _ ?_; clear hK K
        refine wpAnyIn_ready (rs := [0, 3]) (by kernel_rfl) (by simp) ?_
        refine AllReadyIn.cons rfl (fun K hK => ?_) ?_
        · go_simp; refine hK _ _ ?_; clear hK K
          refine wpAnyIn_ready (rs := [3]) (by kernel_rfl) (by simp) ?_
          refine AllReadyIn.cons rfl (fun K hK => ?_) ?_
          · go_simp; refine hK _ _ ?_; clear hK K
            refine wpAnyIn_ready (rs := [4]) (by kernel_rfl) (by simp) ?_
            refine AllReadyIn.cons rfl (fun K hK => ?_) ?_
            · refine step_append_in rfl _ _ rfl w1.heap.size v pre.length _ (text x) (HR2.out.alloc _) (by omega) (by have := HSZ.out; have := HB2.out.size; simp; omega) w2.heap.size rfl rfl (by simp) ?_; intro v2 w3 ho3 hg3; obtain ⟨g3, c3, rfl⟩ := ownsRow_succ ho3; obtain ⟨hv3, hv4, hr4, hk4, hb4⟩ := box_appended (n := w.heap.size) (lo := lo) (hi := lo + 2) HV2.out HR2.out (by have := HSZ.out; have := HB2.out.size; omega) hBm (by omega) hlo H2.out ho3 hg3; have HV4 := Lib.hid hv4; have HR4 := Lib.hid hr4; have HK4 := Lib.hid hk4; have HB4 := Lib.hid hb4; have hc3 := hv3.cell; have hf3 := hv3.frozen; clear ho3 hg3 hv3 hv4 hr4 hk4 hb4; (try go_simp); refine hK _ _ ?_; clear hK K
              refine wpAnyIn_ready (rs := [5]) (by kernel_rfl) (by simp) ?_
              refine AllReadyIn.cons rfl (fun K hK => ?_) ?_
              · go_simp; refine hK _ _ ?_; clear hK K
                refine wpAnyIn_done (by kernel_rfl) ?_ _
                refine ⟨((others_below HB2.out).trans HK4.out).from _, (Kp.of_below HB2.out hB.size (by have := H2.out; have := HSZ.out; omega)).t HB4.out, ⟨_, HV4.out, by simpa using HR4.out, trivial⟩, (hB.trans (HB2.out.mono hB.size)).trans HB4.out.1, ?_⟩
                have h5 := HB4.out.1.size
                have h6 := HB2.out.size
                have h7 := HSZ.out
                exact Nat.le_trans h7 (Nat.le_trans h6 h5)
              exact AllReadyIn.nil
            exact AllReadyIn.nil
          exact AllReadyIn.nil
        refine AllReadyIn.cons rfl (fun K hK => ?_) ?_
        · go_simp; refine hK _ _ ?_; clear hK K
          refine wpAnyIn_ready (rs := [0]) (by kernel_rfl) (by simp) ?_
          refine AllReadyIn.cons rfl (fun K hK => ?_) ?_
          · go_simp; refine hK _ _ ?_; clear hK K
            refine wpAnyIn_ready (rs := [4]) (by kernel_rfl) (by simp) ?_
            refine AllReadyIn.cons rfl (fun K hK => ?_) ?_
            · refine step_append_in rfl _ _ rfl w1.heap.size v pre.length _ (text x) (HR2.out.alloc _) (by omega) (by have := HSZ.out; have := HB2.out.size; simp; omega) w2.heap.size rfl rfl (by simp) ?_; intro v2 w3 ho3 hg3; obtain ⟨g3, c3, rfl⟩ := ownsRow_succ ho3; obtain ⟨hv3, hv4, hr4, hk4, hb4⟩ := box_appended (n := w.heap.size) (lo := lo) (hi := lo + 2) HV2.out HR2.out (by have := HSZ.out; have := HB2.out.size; omega) hBm (by omega) hlo H2.out ho3 hg3; have HV4 := Lib.hid hv4; have HR4 := Lib.hid hr4; have HK4 := Lib.hid hk4; have HB4 := Lib.hid hb4; have hc3 := hv3.cell; have hf3 := hv3.frozen; clear ho3 hg3 hv3 hv4 hr4 hk4 hb4; (try go_simp); refine hK _ _ ?_; clear hK K
              refine wpAnyIn_ready (rs := [5]) (by kernel_rfl) (by simp) ?_
              refine AllReadyIn.cons rfl (fun K hK => ?_) ?_
              · go_simp; refine hK _ _ ?_; clear hK K
                refine wpAnyIn_done (by kernel_rfl) ?_ _
                refine ⟨((others_below HB2.out).trans HK4.out).from _, (Kp.of_below HB2.out hB.size (by have := H2.out; have := HSZ.out; omega)).t HB4.out, ⟨_, HV4.out, by simpa using HR4.out, trivial⟩, (hB.trans (HB2.out.mono hB.size)).trans HB4.out.1, ?_⟩
                have h5 := HB4.out.1.size
                have h6 := HB2.out.size
                have h7 := HSZ.out
                exact Nat.le_trans h7 (Nat.le_trans h6 h5)
              exact AllReadyIn.nil
            exact AllReadyIn.nil
          exact AllReadyIn.nil
        exact AllReadyIn.nil
      exact AllReadyIn.nil
    exact AllReadyIn.nil
  case done =>
    rintro D W hD ⟨⟨v, hv, hrow, -⟩, hB, hsz⟩ hK
    have hc := hv.cell
    obtain ⟨_, a5, c5, rfl, _⟩ := Strs.own_shape hrow
    have HA : Hid (Strs.StrsAt W a5 l.length (l.map text)) := Lib.hid (Strs.strsAt_own hrow)
    have hcap := Strs.own_cap hrow
    have HTOT := Lib.hid (texts_tot HI.out)
    have HJ := Lib.hid (Strs.join_any a5 l.length c5 (l.map text) plus W HA.out hcap (by omega) (by have := HTOT.out; omega) (by show 1 ≤ 1048576; omega))
    have HBW := Lib.hid hB
    have hDW : w.heap.size ≤ D := by have := B1.out.size; omega
    have HK := Lib.hid hK
    clear hv hrow hB hK
    gi_wp2_with fail
    refine (callsIn_wide.2 HJ.out).mono ?_
    rintro e w2 ⟨rfl, hb2⟩
    have hK2 : w2.heap[D]? = some (.deferred (some [])) := (hb2.block D (Array.getElem?_eq_some_iff.1 HK.out).1).trans HK.out
    have hB2 := (HBW.out.trans (hb2.mono HBW.out.size)).trans (belowK_b (w := w) (Nat.le_refl _) w2 D _ (.deferred none) hDW hK2 rfl rfl)
    clear hb2
    gi_wp2
    exact leave_mark _ hK2 (results_tmp rfl _ _ _) ⟨rfl, hB2⟩
  case stop =>
    rintro D c pre W _ _ h _
    exact h.elim
end Go.Proofs.YtmlhpllppgcgkaaDoor.Rhy
