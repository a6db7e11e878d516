/-
  Helpers of the claims beside this text: TwinsOf of the program.
-/
import Derived.Test.YtjgjcppkbfojpaaPop
import Derived.Test.YtjgjcppkbfojpaaIva
namespace Go.Proofs.Ytjgjcppkbfojpaa.Rhy
open Go.RowKit
set_option linter.unusedVariables false
set_option linter.unusedSimpArgs false
set_option linter.unnecessarySimpa false

theorem own_cells {w : World} {B : Nat} {e : TypeId} {size : Nat} {v : Value} {n : Nat} {xs : List Value} (h : w.ownsRow B e size v n xs) {k : Nat} (hk : v.ownBlock = some k) : ∃ o : Obj, w.heap[k]? = some o ∧ o.isCells = true := by
  obtain ⟨_, ⟨rfl, _⟩ | ⟨g, cap, cur, rfl, _, hg, _⟩⟩ := h
  · cases hk
  · obtain rfl : g = k := Option.some.inj hk
    exact ⟨_, hg, rfl⟩
/-- A block that is no cells may turn. -/
theorem own_turned {A B : World} {row : Option Nat} {lo : Nat} {e : TypeId} {size : Nat} {v : Value} {n : Nat} {xs : List Value} (h : A.ownsRow lo e size v n xs) (hg : A.grownBy B row) (hr : ∀ r, row = some r → ∃ o : Obj, A.heap[r]? = some o ∧ o.isCells = false) : B.ownsRow lo e size v n xs :=
  own_grown h hg fun k hk e => by
    obtain ⟨o, ho, hc⟩ := own_cells h hk
    obtain ⟨o', ho', hc'⟩ := hr k e
    rw [ho] at ho'
    rw [← Option.some.inj ho', hc] at hc'
    cases hc'
theorem Items.turned {A B : World} {row : Option Nat} {lo : Nat} {v : Value} {L : List Item} (h : Items A lo v L) (hg : A.grownBy B row) (hr : ∀ r, row = some r → ∃ o : Obj, A.heap[r]? = some o ∧ o.isCells = false) : Items B lo v L :=
  ⟨own_turned h.outer hg hr, fun i r hi => own_turned (h.each i r hi) hg hr, h.apart, h.off⟩
theorem Items.set {w : World} {lo : Nat} {v : Value} {L : List Item} (h : Items w lo v L) {g : Nat} (hg : g < lo) (j : Nat) (u : Value) : Items (w.setCell ⟨g, j, none⟩ u) lo v L :=
  ⟨ownsRow_setCell_below h.outer hg _, fun i r hi => ownsRow_setCell_below (h.each i r hi) hg _, h.apart, h.off⟩

/-- 'out = append(out, r)' in a round, at a slice of rhythms of the call's own. -/
theorem append_rhy_in {F : Fence} {n : Nat} {ops : Array Oper} {rest : List Oper} {o : Oper} {a : Act} {Q : Exit → Act → World → Prop} (hgd : o.guard = none) (x y : Operand)
    (ho : o.op = .call { callee := .builtin .append, args := #[x, y], argTypes := #[38, 38] })
    (lo : Nat) (v : Value) (L : List Item) (r : Item) (wr w2 : World) (h : Items wr lo v L) (hb : Below wr.heap.size wr w2) (hlo : lo ≤ wr.heap.size) (hl : L.length ≤ 1048577)
    (hr : w2.ownsRow wr.heap.size 3 1 r.slc r.zs.length (ints r.zs)) (N : Nat) (hN : N = w2.heap.size)
    (hs : a.eval x = v) (hx : a.eval y = .slice (some ⟨N, 0, none⟩) 1 1)
    (hK : ∀ a' c' w3, Items w3 lo (.slice a' (L.length + 1) c') (L ++ [r]) → Below lo w2 w3 → (w2.alloc (.cells #[.int .i64 r.s, r.slc] 25)).grownBy w3 v.ownBlock →
      wpListIn F n Try.prog ops Q rest (a.put o.dst (.slice a' (L.length + 1) c')) w3) :
    wpListIn F n Try.prog ops Q (o :: rest) a (w2.alloc (.cells #[.int .i64 r.s, r.slc] 25)) := by
  obtain ⟨i0, hi, hz, hsz, hby⟩ := info_parts' infoR
  subst hN
  have hw := hb.size
  refine wpListIn_plain hgd fun K hK' => ?_
  obtain ⟨v', w', hrun, r1, hg, _, hat⟩ := run_append_own_at (P := Try.prog) (w := w2.alloc (.cells #[.int .i64 r.s, r.slc] 25)) lo 38 o.type 25 i0 (.agg #[.int .i64 0, .slice none 0 0]) 2 32 Try.underlying38 hi hz hsz hby rfl (by decide) v L.length (itemCells L) ((own_below h.outer hb).alloc _) ⟨w2.heap.size, 0, none⟩ 1 1 r.cells rfl
    (fun j u hu => by
      have hn := heap_alloc_new w2 (.cells #[.int .i64 r.s, r.slc] 25)
      have hadd : (⟨w2.heap.size, 0, none⟩ : Addr).add j = ⟨w2.heap.size, j, none⟩ := by unfold Addr.add; split <;> simp_all
      rw [hadd, cell_of_row _ _ _ _ _ _ hn]
      rw [← hu, List.getElem?_toArray]; rfl)
    (fun u hu => by
      simp only [Item.cells, List.mem_cons, List.not_mem_nil, or_false] at hu
      rcases hu with rfl | rfl <;> rfl) (by unfold maxLen; omega) (by omega) (by simp; omega)
  unfold Oper.wpIn
  refine ⟨?_, ?_⟩
  · simp [Oper.about, ho, resolve, Target.leads, Sem.run_pure]
  · rw [Oper.semAt_plain F _ _ (by rw [ho]; intro c hc'; cases hc')]
    simp [execOp, ho, resolve, invoke, builtin, hs, hx, hrun, Result.andThen]
    have ho2 : w'.ownsRow lo 25 2 v' (L.length + 1) (itemCells L ++ r.cells) := r1
    obtain ⟨_, hsh⟩ := r1
    rcases hsh with ⟨_, h0⟩ | ⟨g, cap, cur, rfl, _⟩
    · omega
    · exact hK' _ _ (hK _ cap w' (items_snoc h hb hlo hr ho2 hg hat) ((((Below.refl lo w2).alloc (by omega) _).grown hg (by simp; omega) fun k hk => (h.outer.lt k hk).1)) hg)

/-! twins, out of the rhythms with as many beats -/
theorem wth_mem {n c j : Nat} {X : List Int} (h1 : 1 ≤ n) (h2 : n ≤ 24) (h : X ∈ wthJ n c j) : Ok n X ∧ X.length = c := by
  unfold wthJ at h
  obtain ⟨hm, hl⟩ := List.mem_filter.1 h
  obtain ⟨i, _, rfl⟩ := List.mem_map.1 hm
  exact ⟨bits_ok h1 h2, by simpa using hl⟩
noncomputable def twK (n : Nat) (zs : List Int) (k : Nat) : List (List Int) := ((wthJ n zs.length (2 ^ n)).take k).filter (twQ n zs)
theorem twK_all (n : Nat) (zs : List Int) : twK n zs (wthJ n zs.length (2 ^ n)).length = twZ n zs := by
  unfold twK twZ twJ
  rw [List.take_length]
  unfold wthJ
  rw [List.filter_filter]
  refine List.filter_congr fun X _ => ?_
  cases h : twQ n zs X
  · rfl
  · unfold twQ at h
    rw [Bool.and_eq_true] at h
    rw [h.1]; rfl
theorem twK_yes {n : Nat} {zs X : List Int} {k : Nat} (h : (wthJ n zs.length (2 ^ n))[k]? = some X) (hq : twQ n zs X = true) : twK n zs (k + 1) = twK n zs k ++ [X] := by
  unfold twK
  rw [List.take_add_one, h, List.filter_append]
  simp only [Option.toList_some]
  rw [List.filter_cons_of_pos hq]
  rfl
theorem twK_no {n : Nat} {zs X : List Int} {k : Nat} (h : (wthJ n zs.length (2 ^ n))[k]? = some X) (hq : twQ n zs X = false) : twK n zs (k + 1) = twK n zs k := by
  unfold twK
  rw [List.take_add_one, h, List.filter_append]
  simp only [Option.toList_some]
  rw [List.filter_cons_of_neg (by rw [hq]; simp)]
  simp
theorem twQ_is {n : Nat} {zs X : List Int} (ho : Ok n zs) (hx : Ok n X) (hl : X.length = zs.length) : twQ n zs X = (twB n zs n X && eqB (formZ n X) X) := by
  unfold twQ twB
  rw [svB_yes ho hx, decide_eq_true hl, Bool.true_and]
  have e : eqB (vecZ n zs) (vecZ n X) = eqB (vecZ n X) (vecZ n zs) := by
    unfold eqB
    rw [decide_eq_decide]
    exact ⟨Eq.symm, Eq.symm⟩
  rw [e]
  cases eqB (vecZ n X) (vecZ n zs) <;> cases eqB (formZ n X) X <;> cases aforB n zs n X <;> rfl

/-- Between two rounds. -/
def TwnAt (n : Nat) (a : Option Addr) (len cap : Nat) (zs : List Int) (g : Nat) (w : World) (k : Nat) (W : World) : Prop :=
  ∃ av cv q L, Boxed W (g + 1) 38 (.slice av q cv) ∧ L.length = q ∧ q ≤ k ∧ Items W (g + 4) (.slice av q cv) L ∧ vals L = (twK n zs k).map (fun z => ((n : Int), z)) ∧
    Box W g (.int .i64 n) (.slice a len cap) 25 ∧ Below g w W ∧ g + 4 ≤ W.heap.size
theorem twn_own (n : Nat) (a : Option Addr) (len cap : Nat) (zs : List Int) (g : Nat) (w : World) : OwnFrom (g + 4) (TwnAt n a len cap zs g w) := by
  rintro k A B row ⟨av, cv, q, L, hbx, hl, hq, hit, hv, hr, hb, hsz⟩ hg hrow
  refine ⟨av, cv, q, L, ?_, hl, hq, hit.turned hg (fun r e => (hrow r e).2), hv, ?_, hb.grown hg (by omega) (fun j e => by have := (hrow j e).1; omega), by have := hg.size; omega⟩
  · exact (hg.block (g + 1) (by omega) (fun e => by have := (hrow (g + 1) e.symm).1; omega)).trans hbx
  · exact (hg.block g (by omega) (fun e => by have := (hrow g e.symm).1; omega)).trans hr
theorem twn_snoc {n : Nat} {zs X : List Int} {k : Nat} {L : List Item} {r : Item} (h : vals L = (twK n zs k).map (fun z => ((n : Int), z))) (e : twK n zs (k + 1) = twK n zs k ++ [X]) (hs : r.s = n) (hz : r.zs = X) : vals (L ++ [r]) = (twK n zs (k + 1)).map (fun z => ((n : Int), z)) := by
  rw [e, List.map_append, ← h]
  simp [vals, hs, hz]

theorem Items.keep' {w w' : World} {lo : Nat} {v : Value} {L : List Item} {B : Nat} (h : Items w lo v L) (hb : Below B w w') (hB : w.heap.size ≤ B) : Items w' lo v L := h.keep (hb.mono hB)
theorem own_below' {w w' : World} {B : Nat} {e : TypeId} {size : Nat} {v : Value} {n : Nat} {xs : List Value} {C : Nat} (h : w.ownsRow B e size v n xs) (hb : Below C w w') (hC : w.heap.size ≤ C) : w'.ownsRow B e size v n xs := own_below h (hb.mono hC)
theorem boxed_keep {w w' : World} {b B : Nat} {t : TypeId} {v : Value} (h : Boxed w b t v) (hb : Below B w w') (hB : b < B) : Boxed w' b t v := (hb.block b hB).trans h

attribute [local go_sem] Oper.semAt_some wide_fn wide_depth

set_option maxHeartbeats 2000000 in
set_option maxRecDepth 100000 in
theorem twins0_any (n : Nat) (a : Option Addr) (len cap : Nat) (zs : List Int) (w : World) (h : IntsAt w a len zs) (ho : Ok n zs) (h12 : n ≤ 12) :
    Calls Try.prog 71 #[rhy n a len cap] w (RSPost n (twZ n zs) w) := by
  have HS := Lib.hid h
  have HO := Lib.hid ho
  have hn1 : 1 ≤ n := by have := ho.1.1; omega
  have hlz : zs.length ≤ 24 := ok_len ho
  have hll : len = zs.length := h.1.symm
  subst hll
  clear h ho
  obtain ⟨g, hg⟩ : ∃ g, g = w.heap.size := ⟨_, rfl⟩
  have HG := Lib.hid hg
  clear hg
  refine (callsIn_wide (n := 9)).1 ?_
  refine callsIn_of_wp_marks Try.func71 rfl trivial ?_ rfl
  simp only [Try.ntmps71, List.size_toArray, List.length_cons, List.length_nil, Nat.reduceAdd, Nat.reduceSub, Array.replicate_succ, Array.replicate_zero, List.push_toArray, List.append_toArray, List.nil_append, List.cons_append]
  gi_wp2_with fail
  refine (callsIn_wide.2 (with_any n zs.length _)).mono ?_
  rintro e w1 ⟨rfl, hw1⟩
  obtain ⟨W0, hW0⟩ : ∃ W0, W0 = (w.alloc (.cells #[.int .i64 n, .slice a zs.length cap] 25)).alloc (.cells #[.slice none 0 0] 38) := ⟨_, rfl⟩
  rw [← hW0] at hw1 ⊢
  have hs0 : W0.heap.size = g + 2 := by rw [hW0, HG.out]; simp
  have HB0 := Lib.hid (show Below g w W0 by rw [hW0, HG.out]; exact bel2 w _ _)
  have HX0 : Hid (Box W0 g (.int .i64 n) (.slice a zs.length cap) 25) := Lib.hid (by rw [hW0, HG.out]; exact (box_new w _ _ _).keep (bel1 _ _) (by simp))
  have HT0 : Hid (Boxed W0 (g + 1) 38 (.slice none 0 0)) := Lib.hid (by
    rw [hW0, HG.out]
    have := Boxed.new (w.alloc (.cells #[.int .i64 n, .slice a zs.length cap] 25)) 38 (.slice none 0 0)
    simpa using this)
  have hbw : Below W0.heap.size W0 w1 := by rw [hw1]; exact bel2 W0 _ _
  have hs1 : w1.heap.size = g + 4 := by rw [hw1]; simp; omega
  have HB1 := Lib.hid (HB0.out.trans (hbw.mono (by omega)))
  have HX1 := Lib.hid (HX0.out.keep hbw (by omega))
  have HT1 : Hid (Boxed w1 (g + 1) 38 (.slice none 0 0)) := Lib.hid ((hbw.block (g + 1) (by omega)).trans HT0.out)
  have hv1 : w1.cell? ⟨g + 2, 0, none⟩ = some (.int .i64 n) := by
    rw [hw1, ← hs0]
    exact ((bel1 _ _).cell (p := ⟨W0.heap.size, 0, none⟩) (by simp)).trans (by simp)
  have hv2 : w1.cell? ⟨g + 2 + 1, 0, none⟩ = some (.int .i64 zs.length) := by
    rw [hw1, ← hs0]
    have hnew : ∀ (U : World) (v : Value) (t : TypeId), (U.alloc (.cells #[v] t)).cell? ⟨U.heap.size, 0, none⟩ = some v := fun U v t => by simp
    have := hnew (W0.alloc (.cells #[.int .i64 n] 3)) (.int .i64 zs.length) 3
    simpa using this
  have HGV : Hid (GivesR g (g + 2) (g + 4) w1 149 #[.pointer (some ⟨g + 2, 0, none⟩), .pointer (some ⟨g + 2 + 1, 0, none⟩)] n (wthJ n zs.length (2 ^ n))) := Lib.hid (by
    have := with_gives n zs.length w w1 (g + 2) (by rw [← HG.out]; exact HB1.out) hn1 (by omega) (by omega) hv1 hv2 (by omega) (by rw [← HG.out]; omega)
    rw [← HG.out] at this
    exact this)
  have HA : Hid (TwnAt n a zs.length cap zs g w 0 w1) := Lib.hid ⟨none, 0, 0, [], HT1.out, rfl, by omega, items_nil _ _, rfl, HX1.out, HB1.out, by omega⟩
  clear hw1 hW0 hbw hv1 hv2
  rw [hs0]
  rw [← HG.out]
  gi_wp2
  refine wp_rangeR (n := g) (lo := g + 2) (hi := g + 4) (sz := n) (L := wthJ n zs.length (2 ^ n)) (by omega) rfl (enters_of Try.func149 (by kernel_rfl) rfl) HGV.out (by omega) (by omega)
    (TwnAt n a zs.length cap zs g w) (by rw [hs1]; exact twn_own n a zs.length cap zs g w) HA.out
    (fun ax lx cx b => { tmps := #[rhy n a zs.length cap, .pointer (some ⟨g, 0, none⟩), .slice none 0 0, .pointer (some ⟨g + 1, 0, none⟩), .pointer (some ⟨b, 0, none⟩), .pointer (some ⟨g, 0, none⟩), .int .i64 n, .pointer (some ⟨g, 1, none⟩), .slice a zs.length cap, .int .i64 zs.length,
        .func (.func 149) #[] #[.pointer (some ⟨g + 2, 0, none⟩), .pointer (some ⟨g + 2 + 1, 0, none⟩)], rhy n ax lx cx, undef, undef, undef, undef, undef, undef, undef, undef, undef, undef, undef, undef], defers := [] }) ?assign ?body ?done
  case assign =>
    intro q ax lx cx W K hK
    gi_wp2
    exact hK
  case body =>
    rintro q k X ax cx b U W hX ⟨av, cv, p, L, hbt, hl, hp, hit, hvl, hbr, hbl, hsz⟩ hUs hUW hbU hbx hown
    obtain ⟨hxo, hxl⟩ := wth_mem hn1 (by omega) (List.mem_of_getElem? hX)
    have hxl24 : X.length ≤ 24 := by omega
    have HXO := Lib.hid hxo
    have hk4 : k ≤ 4096 := by
      have h1 : k < (wthJ n zs.length (2 ^ n)).length := by
        rcases Nat.lt_or_ge k (wthJ n zs.length (2 ^ n)).length with q1 | q1
        · exact q1
        · rw [List.getElem?_eq_none q1] at hX; cases hX
      have h2 : (wthJ n zs.length (2 ^ n)).length ≤ 2 ^ n := by
        unfold wthJ
        exact Nat.le_trans (List.length_filter_le _ _) (by simp)
      have h3 : 2 ^ n ≤ 2 ^ 12 := Nat.pow_le_pow_right (by omega) h12
      omega
    have HIT := Lib.hid hit
    have HVL := Lib.hid hvl
    have HLE := Lib.hid hl
    have HUW := Lib.hid hUW
    have HOW := Lib.hid hown
    have HBX := Lib.hid hbx
    have HBL := Lib.hid hbl
    have hUz := hUW.size
    have HBR : Hid (∀ W' : World, Below W.heap.size W W' → Box W' g (.int .i64 n) (.slice a zs.length cap) 25) := Lib.hid (fun W' h => (hbr.keep hUW (by omega)).keep h (by omega))
    have HBT : Hid (∀ W' : World, Below W.heap.size W W' → Boxed W' (g + 1) 38 (.slice av p cv)) := Lib.hid (fun W' h => (h.block (g + 1) (by omega)).trans ((hUW.block (g + 1) (by omega)).trans hbt))
    have HBB : Hid (∀ W' : World, Below W.heap.size W W' → Box W' b (.int .i64 n) (.slice ax X.length cx) 25) := Lib.hid (fun W' h => hbx.keep h hbx.lt)
    have HIX : Hid (∀ W' : World, Below W.heap.size W W' → IntsAt W' ax X.length X) := Lib.hid (fun W' h => (intsAt_own hown (ok_int hxo)).below h)
    have HIR : Hid (∀ W' : World, Below W.heap.size W W' → IntsAt W' a zs.length zs) := Lib.hid (fun W' h => HS.out.below (by
      rw [← HG.out]
      exact (hbl.trans (hUW.mono (by omega))).trans (h.mono (by omega))))
    obtain ⟨q1, hq1⟩ : ∃ q1, twB n zs n X = q1 := ⟨_, rfl⟩
    obtain ⟨q2, hq2⟩ : ∃ q2, eqB (formZ n X) X = q2 := ⟨_, rfl⟩
    have HQ1 := Lib.hid hq1
    have HQ2 := Lib.hid hq2
    have HTQ : Hid (twQ n zs X = (q1 && q2)) := Lib.hid (by rw [twQ_is HO.out hxo hxl, hq1, hq2])
    have HXA := Lib.hid hX
    have hpk : p ≤ 4096 := by omega
    clear hxl hX hbt hl hit hvl hbr hbl hUW hbx hown hxo hq1 hq2
    have skip : ∀ (W' : World) (act : Act), twQ n zs X = false → Below W.heap.size W W' → EndsR (g + 4) g (g + 2) (g + 4) (TwnAt n a zs.length cap zs g w) (k + 1) W .normal act W' := fun W' act hq hb => by
      refine ⟨(others_below hb).from _, Kp.of_below hb (by omega) (by omega), av, cv, p, L, HBT.out _ hb, HLE.out, by omega, (HIT.out.keep HUW.out).keep' hb (by omega), ?_, HBR.out _ hb, HBL.out.trans ((HUW.out.trans (hb.mono (by omega))).mono (by omega)), ?_⟩
      · rw [twK_no HXA.out hq]; exact HVL.out
      · have := hb.size; omega
    obtain ⟨c0, c1, _, _⟩ := (HBR.out W (Below.refl _ _)).facts
    obtain ⟨d0, d1, _, _⟩ := (HBB.out W (Below.refl _ _)).facts
    gi_wp2_with fail
    refine (CallsIn.inRound q (callsIn_wide.2 (twins_impl n a zs.length cap zs n ax X.length cx X W (HIR.out _ (Below.refl _ _)) (by omega) (HIX.out _ (Below.refl _ _)) (by omega)))).mono ?_
    rintro e w2 ⟨rfl, hb2⟩
    rw [HQ1.out]
    have HB2 := Lib.hid hb2
    clear hb2 c0 c1 d0 d1
    cases q1
    · have HS1 := Lib.hid (skip w2 · (by rw [HTQ.out]; rfl) HB2.out)
      gi_wp2
      first | exact HS1.out _ | (rw [hs1]; exact HS1.out _)
    · obtain ⟨d0, d1, _, _⟩ := (HBB.out w2 HB2.out).facts
      gi_wp2_with fail
      refine (CallsIn.inRound q (callsIn_wide.2 (isForm_any n ax X.length cx X q2 w2 (HIX.out _ HB2.out) (by omega) HXO.out HQ2.out))).mono ?_
      rintro e w3 ⟨rfl, hb3⟩
      have HB3 := Lib.hid (HB2.out.trans (hb3.mono HB2.out.size))
      clear hb3 d0 d1
      cases q2
      · have HS1 := Lib.hid (skip w3 · (by rw [HTQ.out]; rfl) HB3.out)
        gi_wp2
        first | exact HS1.out _ | (rw [hs1]; exact HS1.out _)
      · obtain ⟨d0, d1, _, _⟩ := (HBB.out w3 HB3.out).facts
        have e0 := (HBT.out w3 HB3.out).cell
        have hb3s := HB3.out.size
        have HU3 := Lib.hid (HUW.out.trans (HB3.out.mono (by omega)))
        gi_wp2_with (gi_at_builtin; refine append_rhy_in rfl _ _ rfl (g + 4) (.slice av p cv) L ⟨n, ax, cx, X⟩ U w3 HIT.out HU3.out (by omega) (by rw [HLE.out]; omega) (own_below' HOW.out HB3.out (by omega)) w3.heap.size rfl rfl rfl ?_; intro a' c' w4 hit4 hb4 hg4; have HI4 := Lib.hid hit4; have HB4 := Lib.hid hb4; have HG4 := Lib.hid hg4; have HT4 := Lib.hid (boxed_keep (HBT.out w3 HB3.out) hb4 (by omega)); have e4 := HT4.out.cell; have f4 := HT4.out.frozen; clear hit4 hb4 hg4)
        have hb4s := HB4.out.size
        have hown := fun (j : Nat) (o : Obj) (e : (Value.slice av p cv).ownBlock = some j) (ho : (w3.alloc (.cells #[.int .i64 n, (⟨n, ax, cx, X⟩ : Item).slc] 25)).heap[j]? = some o) => (by
          obtain ⟨o', ho', hc'⟩ := own_cells ((own_below HIT.out.outer HU3.out).alloc (.cells #[.int .i64 n, (⟨n, ax, cx, X⟩ : Item).slc] 25)) e
          rw [ho] at ho'
          rw [Option.some.inj ho']
          exact hc' : o.isCells = true)
        refine ⟨((((others_below HB3.out).trans (KeepsOthers.alloc _ _)).trans (KeepsOthers.of_grownBy HG4.out hown)).trans (KeepsOthers.setCell _ _ _)).from _, ?_, a', c', L.length + 1, _, HT4.out.set _, by simp, by rw [HLE.out]; omega, HI4.out.set (by omega) _ _,
          twn_snoc HVL.out (twK_yes HXA.out (by rw [HTQ.out]; rfl)) rfl rfl, ((HBR.out w3 HB3.out).keep HB4.out (by omega)).other _ (by omega), ?_, by simp; omega⟩
        · have hk4 : Kp g (g + 2) (g + 4) w3 w4 := ⟨HB4.out.mono (by omega), fun k h1 h2 => HB4.out.block k (by omega)⟩
          exact ((Kp.of_below HB3.out (by omega) (by omega)).t hk4).t (Kp.set w4 (g + 1) (by omega) (Or.inl (by omega)) 0 _)
        · exact (((HBL.out.trans ((HUW.out.trans (HB3.out.mono (by omega))).mono (by omega))).trans (HB4.out.mono (by omega)))).setCell (by show g ≤ g + 1; omega) _
  case done =>
    rintro D W hD ⟨av, cv, p, L, hbt, hl, hp, hit, hvl, hbr, hbl, hsz⟩ hK
    have hc := hbt.cell
    have HIT := Lib.hid hit
    have HB := Lib.hid hbl
    have hlen : (twZ n zs).length = p := by
      rw [← twK_all, ← hl]
      have := vals_len hvl
      rw [List.length_map] at this
      exact this.symm
    have HVL : Hid (vals L = (twZ n zs).map (fun z => ((n : Int), z))) := Lib.hid (by rw [← twK_all]; exact hvl)
    have HLN := Lib.hid hlen
    clear hbt hl hp hit hvl hbr hbl hlen
    gi_wp2
    refine leave_mark _ hK (results_tmp rfl _ _ _) ⟨av, cv, L, ?_, ?_, HVL.out, ?_⟩
    · rw [HLN.out]; rfl
    · rw [HLN.out, ← HG.out]
      exact (HIT.out.turned (grownBy_putObj' W D _) (fun r e => by cases e; exact ⟨_, hK, rfl⟩)).base (by omega)
    · rw [← HG.out]
      exact HB.out.grown (grownBy_putObj' W D _) (by omega) (fun j e => by cases e; omega)
/-! the function itself -/
set_option maxHeartbeats 400000 in
theorem twinsOf_impl (s : Int) (a : Option Addr) (len cap : Nat) (zs : List Int) (w : World) (h : IntsAt w a len zs) (hm : zs.length ≤ 1048576) :
    Calls Try.prog 24 #[rhy s a len cap] w (RSPost s (twinsB s zs) w) := by
  have HS := Lib.hid h
  have hl : len ≤ 1048576 := by have := h.1; omega
  clear h
  by_cases ho : Ok s zs
  · obtain ⟨n, rfl⟩ : ∃ n : Nat, s = n := ⟨s.toNat, by have := ho.1; omega⟩
    have HO := Lib.hid ho
    by_cases h12 : n ≤ 12
    · have h12b : decide ((12 : Int) < (n : Int)) = false := by simp; omega
      have HE := Lib.hid (twinsB_yes ⟨ho, by omega⟩)
      clear ho
      rw [HE.out]
      go_enter Try.func24, Try.ntmps24
      go_wp2_with fail
      refine (valid_yes n a len cap zs _ (HS.out.below (bel1 w _)) hl HO.out).mono ?_
      rintro e w1 ⟨rfl, hb1⟩
      have HB := Lib.hid ((bel1 w (.cells #[.int .i64 n, .slice a len cap] 25)).trans (hb1.mono (by simp)))
      have HT := Lib.hid ((two_new w (.int .i64 n) (.slice a len cap) 25).keep hb1)
      obtain ⟨t1, t1a, t1b⟩ := HT.out
      clear hb1
      go_wp2_with fail
      refine (twins0_any n a len cap zs w1 (HS.out.below HB.out) HO.out h12).mono ?_
      rintro e w2 ⟨b, c, L, rfl, hit, hvl, hb⟩
      have HI := Lib.hid hit
      have HVL := Lib.hid hvl
      have HB2 := Lib.hid hb
      clear hit hvl hb
      go_wp2
      go_ret
      exact ⟨b, c, L, rfl, HI.out.base HB.out.size, HVL.out, HB.out.trans (HB2.out.mono HB.out.size)⟩
    · have h12b : decide ((12 : Int) < (n : Int)) = true := by simp; omega
      have HE := Lib.hid (twinsB_no (s := (n : Int)) (zs := zs) (fun q => h12 (by have := q.2; omega)))
      clear ho
      rw [HE.out]
      go_enter Try.func24, Try.ntmps24
      go_wp2_with fail
      refine (valid_yes n a len cap zs _ (HS.out.below (bel1 w _)) hl HO.out).mono ?_
      rintro e w1 ⟨rfl, hb1⟩
      have HB := Lib.hid ((bel1 w (.cells #[.int .i64 n, .slice a len cap] 25)).trans (hb1.mono (by simp)))
      have HT := Lib.hid ((two_new w (.int .i64 n) (.slice a len cap) 25).keep hb1)
      obtain ⟨t1, t1a, t1b⟩ := HT.out
      clear hb1
      go_wp2
      go_ret
      exact ⟨none, 0, [], rfl, items_nil _ _, rfl, HB.out⟩
  · have HO := Lib.hid ho
    have HE := Lib.hid (twinsB_no (s := s) (zs := zs) (fun q => ho q.1))
    clear ho
    rw [HE.out]
    go_enter Try.func24, Try.ntmps24
    go_wp2_with fail
    refine (valid_no s a len cap zs _ (HS.out.below (bel1 w _)) hl HO.out).mono ?_
    rintro e w1 ⟨rfl, hb1⟩
    have HB := Lib.hid ((bel1 w (.cells #[.int .i64 s, .slice a len cap] 25)).trans (hb1.mono (by simp)))
    have HT := Lib.hid ((two_new w (.int .i64 s) (.slice a len cap) 25).keep hb1)
    obtain ⟨t1, t1a, t1b⟩ := HT.out
    clear hb1
    go_wp2
    go_ret
    exact ⟨none, 0, [], rfl, items_nil _ _, rfl, HB.out⟩

end Go.Proofs.Ytjgjcppkbfojpaa.Rhy
