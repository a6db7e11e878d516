/-
  Helpers of the claims beside this text: the program's steps, the longest and the shortest one, rests.
-/
import Derived.Test.YtmlhpllppgcgkaaDoorStpI
import Derived.Test.YtmlhpllppgcgkaaDoorClc
import Derived.Test.YtmlhpllppgcgkaaDoorStp
namespace Go.Proofs.YtmlhpllppgcgkaaDoor.Rhy
open Go.RowKit
set_option linter.unusedVariables false
attribute [local go_sem] Oper.semAt_some wide_fn wide_depth

theorem maxL_app (l : List Int) (x : Int) : maxL (l ++ [x]) = max (maxL l) x := by simp [maxL]

set_option maxHeartbeats 1000000 in
theorem long_impl (s : Int) (a : Option Addr) (len cap : Nat) (zs : List Int) (w : World) (h : IntsAt w a len zs) (hm : zs.length ≤ 1048576) :
    Calls Tryd.prog 6 #[rhy s a len cap] w fun e w' => e = .returned (.int .i64 (maxL (stB s zs))) ∧ Below w.heap.size w w' := by
  have HS := Lib.hid h
  have hl' : len ≤ 1048576 := by have := h.1; omega
  clear h
  obtain ⟨l, hl⟩ : ∃ l, l = stB s zs := ⟨_, rfl⟩
  have HC := Lib.hid (fun w2 hb => iter_any s a len cap zs w w2 HS.out hb hl')
  rw [← hl] at HC ⊢
  clear hl
  refine (callsIn_wide (n := 9)).1 ?_
  refine callsIn_of_wp_marks Tryd.func6 rfl trivial ?_ rfl
  simp only [Tryd.ntmps6, List.size_toArray, List.length_cons, List.length_nil, Nat.reduceAdd, Nat.reduceSub, Array.replicate_succ, Array.replicate_zero, List.push_toArray, List.append_toArray, List.nil_append, List.cons_append]
  gi_wp2_with fail
  obtain ⟨W0, hW⟩ : ∃ W0, W0 = (w.alloc (.cells #[.int .i64 s, .slice a len cap] 25)).alloc (.cells #[.int .i64 0] 3) := ⟨_, rfl⟩
  rw [← hW]
  have B0 := Lib.hid (show Below w.heap.size w W0 by rw [hW]; exact bel2 w _ _)
  have V0 := Lib.hid (show Boxed W0 (w.heap.size + 1) 3 (.int .i64 0) by rw [hW]; simpa using Boxed.new (w.alloc (.cells #[.int .i64 s, .slice a len cap] 25)) 3 (.int .i64 0))
  clear hW
  refine (callsIn_wide.2 (HC.out W0 B0.out)).mono ?_
  rintro e w1 ⟨lo, rfl, h1, h2, h3, h4⟩
  have H2 := Lib.hid h2
  have B1 := Lib.hid (B0.out.trans (h3.mono B0.out.size))
  have V1 := Lib.hid (V0.out.kept (grown_of_below h3 none) (by simp))
  have HG := Lib.hid h4
  have hlo : w.heap.size + 1 < lo := by have := V0.out.lt; omega
  clear h1 h2 h3 h4
  gi_wp2
  refine wp_range (n := w.heap.size) (lo := lo) (hi := lo + 2) (by omega) rfl enters_steps HG.out B1.out.size H2.out
    (fun pre W => Boxed W (w.heap.size + 1) 3 (.int .i64 (maxL pre)) ∧ Below w.heap.size w W) (fun _ _ _ => False)
    (OwnFrom.and (Own.from (boxed_own _ _ (fun pre => .int .i64 (maxL pre))) _) (ownFrom_below (Nat.le_refl _) B1.out.size)) (fun _ _ _ _ _ hs _ _ => hs) ⟨V1.out, B1.out⟩
    (fun x => { tmps := #[rhy s a len cap, .pointer (some ⟨w.heap.size, 0, none⟩), .int .i64 0, .pointer (some ⟨w.heap.size + 1, 0, none⟩), .int .i64 x, .agg #[.int .i64 s, .slice a len cap], .func (.func 51) #[] #[.pointer (some ⟨lo, 0, none⟩), .pointer (some ⟨lo + 1, 0, none⟩)], .int .i64 x, undef, undef, undef, undef], defers := [] }) ?assign ?body ?done ?stop
  case assign =>
    intro q x W K hK
    gi_wp2
    exact hK
  case body =>
    rintro q pre x W ⟨hv, hB⟩ hlt hx
    have hc := hv.cell
    have hf := hv.frozen
    gi_wp2
    exact ⟨(KeepsOthers.setCell _ _ _).from _, Kp.set W _ (by omega) (.inl (by omega)) 0 _, by rw [maxL_app]; exact hv.set _, hB.setCell (p := ⟨w.heap.size + 1, 0, none⟩) (by simp) _⟩
  case done =>
    rintro D W hD ⟨hv, hB⟩ hK
    have hc := hv.cell
    have hB2 := hB.trans (belowK_b (w := w) (Nat.le_refl _) W D _ (.deferred none) (by have := B1.out.size; omega) hK rfl rfl)
    gi_wp2
    exact leave_mark _ hK (results_tmp rfl _ _ _) ⟨rfl, hB2⟩
  case stop =>
    rintro D c pre W _ _ h _
    exact h.elim

set_option maxHeartbeats 400000 in
theorem steps_impl (s : Int) (a : Option Addr) (len cap : Nat) (zs : List Int) (w : World) (h : IntsAt w a len zs) (hm : zs.length ≤ 1048576) :
    Calls Tryd.prog 5 #[rhy s a len cap] w (IPost (stB s zs) w) := by
  have HS := Lib.hid h
  have hl' : len ≤ 1048576 := by have := h.1; omega
  clear h
  obtain ⟨l, hl⟩ : ∃ l, l = stB s zs := ⟨_, rfl⟩
  have HC := Lib.hid (fun w2 hb => iter_any s a len cap zs w w2 HS.out hb hl')
  have hlen : l.length ≤ 24 := by rw [hl]; exact stB_len s zs
  rw [← hl] at HC ⊢
  clear hl
  go_enter Tryd.func5, Tryd.ntmps5
  go_wp2_with fail
  have B0 := Lib.hid (bel1 w (.cells #[.int .i64 s, .slice a len cap] 25))
  refine (HC.out _ B0.out).mono ?_
  rintro e w1 ⟨lo, rfl, h1, h2, h3, h4⟩
  have B1 := Lib.hid (B0.out.trans (h3.mono B0.out.size))
  have HG := Lib.hid (collect_any w.heap.size lo (lo + 2) _ _ l w1 h4 enters_steps B1.out.size h2 (by omega))
  clear h1 h2 h3 h4
  go_wp2_with fail
  refine HG.out.mono ?_
  rintro e w2 ⟨b, c, rfl, hown, hb⟩
  have HO := Lib.hid hown
  have HB := Lib.hid hb
  clear hown hb
  go_wp2
  go_ret
  exact ⟨b, c, rfl, own_base HO.out B1.out.size, B1.out.trans (HB.out.mono B1.out.size)⟩

def minQ (l : List Int) : Int := l.foldl (fun m x => if m = 0 ∨ x < m then x else m) 0
theorem minQ_app (l : List Int) (x : Int) : minQ (l ++ [x]) = if minQ l = 0 ∨ x < minQ l then x else minQ l := by
  unfold minQ
  rw [List.foldl_append]
  rfl
theorem minQ_all {l : List Int} (h : ∀ x ∈ l, 1 ≤ x) : ∀ k, k ≤ l.length → minQ (l.take k) = minP l k ∧ (0 < k → 1 ≤ minP l k) := by
  intro k
  induction k with
  | zero => intro _; exact ⟨rfl, fun q => absurd q (by omega)⟩
  | succ k ih =>
    intro hk
    obtain ⟨e, hp⟩ := ih (by omega)
    have hq := List.getElem?_eq_getElem (show k < l.length by omega)
    have hx := h _ (List.mem_of_getElem? hq)
    have hd : l.getD k 0 = l[k] := by rw [List.getD_eq_getElem?_getD, hq]; rfl
    have e1 : minQ (l.take (k + 1)) = if minP l k = 0 ∨ l[k] < minP l k then l[k] else minP l k := by
      rw [List.take_add_one, hq, show (some l[k]).toList = [l[k]] from rfl, minQ_app, e]
    have e2 : minP l (k + 1) = if k = 0 ∨ l[k] < minP l k then l[k] else minP l k := by simp only [minP, hd]
    by_cases h0 : k = 0
    · subst h0
      rw [e1, e2]
      simp [minP]
      exact hx
    · have := hp (by omega)
      rw [e1, e2]
      have h1 : ¬ minP l k = 0 := by omega
      simp only [h0, h1, false_or]
      exact ⟨trivial, fun _ => by split <;> omega⟩
theorem minQ_L {l : List Int} (h : ∀ x ∈ l, 1 ≤ x) : minQ l = minL l := by
  have := (minQ_all h l.length (Nat.le_refl _)).1
  rwa [List.take_length] at this

set_option maxHeartbeats 1000000 in
theorem short_impl (s : Int) (a : Option Addr) (len cap : Nat) (zs : List Int) (w : World) (h : IntsAt w a len zs) (hm : zs.length ≤ 1048576) :
    Calls Tryd.prog 19 #[rhy s a len cap] w fun e w' => e = .returned (.int .i64 (minL (stB s zs))) ∧ Below w.heap.size w w' := by
  have HS := Lib.hid h
  have hl' : len ≤ 1048576 := by have := h.1; omega
  clear h
  obtain ⟨l, hl⟩ : ∃ l, l = stB s zs := ⟨_, rfl⟩
  have HC := Lib.hid (fun w2 hb => iter_any s a len cap zs w w2 HS.out hb hl')
  have HE := Lib.hid (show minQ l = minL (stB s zs) by rw [hl]; exact minQ_L (fun x hx => (stB_bd s zs x hx).1))
  rw [← hl] at HC
  rw [← HE.out]
  clear hl
  refine (callsIn_wide (n := 9)).1 ?_
  refine callsIn_of_wp_marks Tryd.func19 rfl trivial ?_ rfl
  simp only [Tryd.ntmps19, List.size_toArray, List.length_cons, List.length_nil, Nat.reduceAdd, Nat.reduceSub, Array.replicate_succ, Array.replicate_zero, List.push_toArray, List.append_toArray, List.nil_append, List.cons_append]
  gi_wp2_with fail
  obtain ⟨W0, hW⟩ : ∃ W0, W0 = (w.alloc (.cells #[.int .i64 s, .slice a len cap] 25)).alloc (.cells #[.int .i64 0] 3) := ⟨_, rfl⟩
  rw [← hW]
  have B0 := Lib.hid (show Below w.heap.size w W0 by rw [hW]; exact bel2 w _ _)
  have V0 := Lib.hid (show Boxed W0 (w.heap.size + 1) 3 (.int .i64 0) by rw [hW]; simpa using Boxed.new (w.alloc (.cells #[.int .i64 s, .slice a len cap] 25)) 3 (.int .i64 0))
  clear hW
  refine (callsIn_wide.2 (HC.out W0 B0.out)).mono ?_
  rintro e w1 ⟨lo, rfl, h1, h2, h3, h4⟩
  have H2 := Lib.hid h2
  have B1 := Lib.hid (B0.out.trans (h3.mono B0.out.size))
  have V1 := Lib.hid (V0.out.kept (grown_of_below h3 none) (by simp))
  have HG := Lib.hid h4
  have hlo : w.heap.size + 1 < lo := by have := V0.out.lt; omega
  clear h1 h2 h3 h4
  gi_wp2
  refine wp_range (n := w.heap.size) (lo := lo) (hi := lo + 2) (by omega) rfl enters_steps HG.out B1.out.size H2.out
    (fun pre W => Boxed W (w.heap.size + 1) 3 (.int .i64 (minQ pre)) ∧ Below w.heap.size w W) (fun _ _ _ => False)
    (OwnFrom.and (Own.from (boxed_own _ _ (fun pre => .int .i64 (minQ pre))) _) (ownFrom_below (Nat.le_refl _) B1.out.size)) (fun _ _ _ _ _ hs _ _ => hs) ⟨V1.out, B1.out⟩
    (fun x => { tmps := #[rhy s a len cap, .pointer (some ⟨w.heap.size, 0, none⟩), .int .i64 0, .pointer (some ⟨w.heap.size + 1, 0, none⟩), .int .i64 x, .agg #[.int .i64 s, .slice a len cap], .func (.func 51) #[] #[.pointer (some ⟨lo, 0, none⟩), .pointer (some ⟨lo + 1, 0, none⟩)], .int .i64 x, undef, undef, undef, undef, undef, undef, undef, undef, undef], defers := [] }) ?assign ?body ?done ?stop
  case assign =>
    intro q x W K hK
    gi_wp2
    exact hK
  case body =>
    rintro q pre x W ⟨hv, hB⟩ hlt hx
    have hc := hv.cell
    have hf := hv.frozen
    have HN := Lib.hid (minQ_app pre x)
    obtain ⟨m, hmm⟩ : ∃ m, m = minQ pre := ⟨_, rfl⟩
    rw [← hmm] at hv hc HN
    clear hmm
    have fin : ∀ v, minQ (pre ++ [x]) = v → KeepsFrom w1.heap.size W (W.setCell ⟨w.heap.size + 1, 0, none⟩ (.int .i64 v)) ∧ Kp w.heap.size lo (lo + 2) W (W.setCell ⟨w.heap.size + 1, 0, none⟩ (.int .i64 v)) ∧ Boxed (W.setCell ⟨w.heap.size + 1, 0, none⟩ (.int .i64 v)) (w.heap.size + 1) 3 (.int .i64 (minQ (pre ++ [x]))) ∧ Below w.heap.size w (W.setCell ⟨w.heap.size + 1, 0, none⟩ (.int .i64 v)) := by
      intro v e
      rw [e]
      exact ⟨(KeepsOthers.setCell _ _ _).from _, Kp.set W _ (by omega) (.inl (by omega)) 0 _, hv.set _, hB.setCell (p := ⟨w.heap.size + 1, 0, none⟩) (by simp) _⟩
    have FIN := Lib.hid fin
    clear fin
    by_cases h0 : m = 0
    · have hq : (m == 0) = true := by simpa using h0
      have HE := Lib.hid (show minQ (pre ++ [x]) = x by rw [HN.out, if_pos (.inl h0)])
      have HV := Lib.hid hv
      clear h0 hv
      gi_wp2
      exact FIN.out x HE.out
    · have hq : (m == 0) = false := by simpa using h0
      by_cases hz : x < m
      · have HE := Lib.hid (show minQ (pre ++ [x]) = x by rw [HN.out, if_pos (.inr hz)])
        have HV := Lib.hid hv
        clear h0 hv
        gi_wp2
        exact FIN.out x HE.out
      · have HE := Lib.hid (show minQ (pre ++ [x]) = m by rw [HN.out, if_neg (by omega)])
        have HV := Lib.hid hv
        have hd : decide (x < m) = false := by simpa using hz
        clear h0 hv
        gi_wp2
        exact ⟨KeepsFrom.refl _ _, Kp.refl _ _ _ _, by rw [HE.out]; exact HV.out, hB⟩
  case done =>
    rintro D W hD ⟨hv, hB⟩ hK
    have hc := hv.cell
    have hB2 := hB.trans (belowK_b (w := w) (Nat.le_refl _) W D _ (.deferred none) (by have := B1.out.size; omega) hK rfl rfl)
    gi_wp2
    exact leave_mark _ hK (results_tmp rfl _ _ _) ⟨rfl, hB2⟩
  case stop =>
    rintro D c pre W _ _ h _
    exact h.elim
end Go.Proofs.YtmlhpllppgcgkaaDoor.Rhy
