/-
  Helpers of the claims beside this text: FirstAvoiding of the program.
-/
import Derived.Test.YtpbceckbmalabaaOdc
namespace Go.Proofs.Ytpbceckbmalabaa.Rhy
open Go.RowKit
set_option linter.unusedVariables false
set_option linter.unusedSimpArgs false
set_option maxRecDepth 100000

theorem own_obj {w : World} {B : Nat} {e : TypeId} {size : Nat} {v : Value} {n : Nat} {xs : List Value} (h : w.ownsRow B e size v n xs) {k : Nat} (hk : v.ownBlock = some k) : ∃ o : Obj, w.heap[k]? = some o ∧ o.isCells = true := by
  obtain ⟨_, ⟨rfl, _⟩ | ⟨g, cap, cur, rfl, _, hg, _⟩⟩ := h
  · cases hk
  · obtain rfl : g = k := Option.some.inj hk
    exact ⟨_, hg, rfl⟩
theorem box_two {w : World} {b : Nat} {v0 v1 : Value} {t : TypeId} (h : Box w b v0 v1 t) (u0 u1 : Value) : Box ((w.setCell ⟨b, 0, none⟩ u0).setCell ⟨b, 1, none⟩ u1) b u0 u1 t := (h.set0 u0).set1 u1
/-- What FirstAvoiding answers. -/
def fiC (n d k : Int) : Prop := CoC n d k ∧ (firstN n.toNat d.toNat n.toNat 0 k.toNat).isSome = true
def fiZ (n d k : Int) : List Int := bitsL n.toNat ((firstN n.toNat d.toNat n.toNat 0 k.toNat).getD 0)

attribute [local go_sem] Oper.semAt_some wide_fn wide_depth in_fn in_depth

/-- The answer lies in its two boxes. -/
def FstAt (w : World) (n : Nat) (L : List (List Int)) (Wr : World) : Prop :=
  ∃ X ax cx, L[0]? = some X ∧ Box Wr w.heap.size (.int .i64 n) (.slice ax X.length cx) 30 ∧ Boxed Wr (w.heap.size + 1) 4 (.bool true) ∧
    Wr.ownsRow w.heap.size 3 1 (.slice ax X.length cx) X.length (ints X) ∧ Below w.heap.size w Wr ∧ w.heap.size + 5 ≤ Wr.heap.size
theorem fst_own {w : World} {n B : Nat} {L : List (List Int)} (hB : w.heap.size + 2 ≤ B) : OwnFrom B (fun (_ : Nat) Wr => FstAt w n L Wr) := by
  rintro s A C row ⟨X, ax, cx, h1, h2, h3, h4, h5, h6⟩ hg hr
  have hne : ∀ k, k < B → row ≠ some k := fun k hk e => by have := (hr k e).1; omega
  refine ⟨X, ax, cx, h1, (hg.block _ (by omega) (fun e => hne _ (by omega) e.symm)).trans h2, (hg.block _ (by omega) (fun e => hne _ (by omega) e.symm)).trans h3, own_grown h4 hg (fun k hk e => ?_), h5.grown hg (by omega) (fun k e => by have := (hr k e).1; omega), by have := hg.size; omega⟩
  obtain ⟨o, ho, hc⟩ := own_obj h4 hk
  obtain ⟨_, o', ho', hc'⟩ := hr k e
  rw [ho] at ho'
  rw [← Option.some.inj ho', hc] at hc'
  cases hc'

set_option maxHeartbeats 600000 in
theorem first_impl (n d k : Int) (w : World) (h1 : -9223372036854775808 ≤ n) (h2 : n ≤ 9223372036854775807) (h3 : -9223372036854775808 ≤ d) (h4 : d ≤ 9223372036854775807) (h5 : -9223372036854775808 ≤ k) (h6 : k ≤ 9223372036854775807) :
    Calls Try.prog 17 #[.int .i64 n, .int .i64 d, .int .i64 k] w (CPost (fiC n d k) n (fiZ n d k) w) := by
  by_cases hc : CoC n d k
  · obtain ⟨N, rfl⟩ : ∃ N : Nat, n = N := ⟨n.toNat, by have := hc.1; omega⟩
    obtain ⟨D, rfl⟩ : ∃ D : Nat, d = D := ⟨d.toNat, by have := hc.2.1; omega⟩
    obtain ⟨C, rfl⟩ : ∃ C : Nat, k = C := ⟨k.toNat, by have := hc.2.2; omega⟩
    have HC := Lib.hid hc
    obtain ⟨L, hL⟩ : ∃ L, avdL N D C = L := ⟨_, rfl⟩
    have hn16 : N ≤ 16 := by have := hc.1; omega
    have hn2 : 2 ≤ N := by have := hc.1; omega
    have hd1 : 1 ≤ D := by have := hc.2.1; omega
    have hdn : D < N := by have := hc.2.1; omega
    have hcn : C ≤ N := by have := hc.2.2; omega
    have HYES : Hid (∀ X : List Int, L[0]? = some X → fiC N D C ∧ fiZ N D C = X) := Lib.hid (fun X hX => by
      unfold fiC fiZ
      simp only [Int.toNat_natCast]
      cases hf : firstN N D N 0 C with
      | none =>
        have := avdL_none (c := C) ⟨hd1, hdn⟩ hf
        rw [← hL, this] at hX
        cases hX
      | some z =>
        have := (avdL_some (c := C) ⟨hd1, hdn⟩ hf).1
        rw [hL, hX] at this
        exact ⟨⟨hc, rfl⟩, (Option.some.inj this).symm⟩)
    have HNO : Hid (L.length = 0 → ¬ fiC N D C) := Lib.hid (fun h0 hx => by
      have h2 := hx.2
      simp only [Int.toNat_natCast] at h2
      cases hf : firstN N D N 0 C with
      | none => rw [hf] at h2; cases h2
      | some z =>
        have := (avdL_some (c := C) ⟨hd1, hdn⟩ hf).1
        rw [hL, List.eq_nil_of_length_eq_zero h0] at this
        cases this)
    have HOKL : Hid (∀ X : List Int, L[0]? = some X → Ok N X) := Lib.hid (fun X hX => avdL_ok (by rw [hL]; exact hX) ⟨by omega, by omega⟩)
    have HL := Lib.hid hL
    clear hc hL
    refine (callsIn_wide (n := 9)).1 ?_
    refine callsIn_of_wp_marks Try.func17 rfl trivial ?_ rfl
    simp only [Try.ntmps17, List.size_toArray, List.length_cons, List.length_nil, Nat.reduceAdd, Nat.reduceSub, Array.replicate_succ, Array.replicate_zero, List.push_toArray, List.append_toArray, List.nil_append, List.cons_append]
    gi_wp2_with fail
    obtain ⟨W0, hW0⟩ : ∃ W0, W0 = (w.alloc (.cells #[.int .i64 0, .slice none 0 0] 30)).alloc (.cells #[.bool false] 4) := ⟨_, rfl⟩
    rw [← hW0]
    have HB0 := Lib.hid (show Below w.heap.size w W0 by rw [hW0]; exact bel2 w _ _)
    have HR0 := Lib.hid (show Box W0 w.heap.size (.int .i64 0) (.slice none 0 0) 30 by rw [hW0]; exact (box_new w _ _ _).keep (bel1 _ _) (by simp))
    have HK0 := Lib.hid (show Boxed W0 (w.heap.size + 1) 4 (.bool false) by
      rw [hW0]
      have := Boxed.new (w.alloc (.cells #[.int .i64 0, .slice none 0 0] 30)) 4 (.bool false)
      simpa using this)
    have hz0 : w.heap.size + 2 ≤ W0.heap.size := by rw [hW0]; simp
    clear hW0
    refine (callsIn_wide.2 (arec_yes N D C _ HC.out)).mono ?_
    rintro e w' ⟨rfl, rfl⟩
    gi_wp2_with fail
    refine (callsIn_wide.2 (avd_any N D C W0)).mono ?_
    rintro e w1 ⟨rfl, hw1⟩
    obtain ⟨x1, x2, x3, hbw, hs1⟩ := avd_at hw1
    have hgv := avd_gives N D C w1 W0.heap.size (by omega) hn16 (by omega) (by omega) w.heap.size (by omega) x1 x2 x3 (by omega)
    rw [HL.out] at hgv
    have HGV := Lib.hid hgv
    have hz1 : W0.heap.size + 3 ≤ w1.heap.size := by omega
    have HB1 : Hid (Below w.heap.size w w1) := Lib.hid (HB0.out.trans (hbw.mono (by omega)))
    have HR1 : Hid (Box w1 w.heap.size (.int .i64 0) (.slice none 0 0) 30) := Lib.hid ((hbw.block _ (by omega)).trans HR0.out)
    have HK1 : Hid (Boxed w1 (w.heap.size + 1) 4 (.bool false)) := Lib.hid ((hbw.block _ (by omega)).trans HK0.out)
    clear hw1 x1 x2 x3 hbw hs1 hgv
    gi_wp2
    refine wp_rangeS (n := w.heap.size) (lo := W0.heap.size) (hi := W0.heap.size + 3) (sz := N) (L := L) (by omega) rfl enters_avd HGV.out (by omega) (by omega)
      (fun j Wr => j = 0 ∧ Box Wr w.heap.size (.int .i64 0) (.slice none 0 0) 30 ∧ Boxed Wr (w.heap.size + 1) 4 (.bool false) ∧ Below w.heap.size w Wr ∧ w1.heap.size ≤ Wr.heap.size)
      (fun cd _ Wr => cd = .ret ∧ FstAt w N L Wr) ?hI ?hIx ⟨rfl, HR1.out, HK1.out, HB1.out, Nat.le_refl _⟩
      (fun ax lx cx b => { tmps := #[.int .i64 N, .int .i64 D, .int .i64 C, undef, undef, undef, .pointer (some ⟨w.heap.size, 0, none⟩), .pointer (some ⟨w.heap.size + 1, 0, none⟩), .pointer (some ⟨b, 0, none⟩), .int .i64 N, .int .i64 D, .int .i64 C, .bool true, .bool false, undef, .int .i64 N, .int .i64 D, .int .i64 C,
          .func (.func 78) #[] #[.pointer (some ⟨W0.heap.size, 0, none⟩), .pointer (some ⟨W0.heap.size + 2, 0, none⟩), .pointer (some ⟨W0.heap.size + 1, 0, none⟩)], rhy N ax lx cx, undef, undef], defers := [] })
      (fun ax lx cx b Wr => Box Wr b (.int .i64 N) (.slice ax lx cx) 30)
      (fun ax lx cx b Wr l o o' h _ _ hl => (World.putObj_heap_other (by omega)).trans h) ?assign ?body ?done ?stop
    case hI =>
      rintro s A B row ⟨h0, hs1, hs2, hs3, hs4⟩ hg hr
      exact ⟨h0, (hg.block _ (by omega) (fun e => by have := (hr _ e.symm).1; omega)).trans hs1, (hg.block _ (by omega) (fun e => by have := (hr _ e.symm).1; omega)).trans hs2, hs3.grown hg (by omega) (fun r e => by have := (hr r e).1; omega), by have := hg.size; omega⟩
    case hIx =>
      rintro cd s A B row ⟨h0, hs⟩ hg hr
      exact ⟨h0, fst_own (B := w1.heap.size) (by omega) s A B row hs hg hr⟩
    case assign =>
      intro q2 ax lx cx Wr K hK
      gi_wp2
      exact hK _ _ (bel1 _ _) (Nat.le_refl _) (box_new _ _ _ _)
    case body =>
      rintro q2 j X ax cx b U Wb hX ⟨rfl, hbr, hbk, hbl, hz⟩ hU hUW hb hbx hown
      have hUz := hUW.size
      have HX := Lib.hid hX
      have HBR : Hid (Box Wb w.heap.size (.int .i64 0) (.slice none 0 0) 30) := Lib.hid ((hUW.block _ (by omega)).trans hbr)
      have HBK : Hid (Boxed Wb (w.heap.size + 1) 4 (.bool false)) := Lib.hid ((hUW.block _ (by omega)).trans hbk)
      have HBL := Lib.hid (hbl.trans (hUW.mono (by omega)))
      have HOW := Lib.hid hown
      have HBX := Lib.hid hbx
      obtain ⟨c0, c1, c2, c3⟩ := HBR.out.facts
      obtain ⟨d0, d1, _, _⟩ := hbx.facts
      have e0 := HBK.out.cell
      have e1 := HBK.out.frozen
      have hne : ¬ w.heap.size + 1 = w.heap.size := by omega
      clear hX hbr hbk hbl hUW hbx hown
      gi_wp2
      refine ⟨(((KeepsOthers.setCell _ _ _).trans (KeepsOthers.setCell _ _ _)).trans (KeepsOthers.setCell _ _ _)).from _, (((Same.refl _ _ _).setCell w.heap.size (Or.inl (by omega)) 0 _).setCell w.heap.size (Or.inl (by omega)) 1 _).setCell (w.heap.size + 1) (Or.inl (by omega)) 0 _, rfl, X, ax, cx, HX.out, ?_, ?_, ?_, ?_, by simp; omega⟩
      · exact (box_two HBR.out _ _).other _ (by omega)
      · refine Boxed.set (v := .bool false) _ ?_
        exact (heap_setCell_other _ _ _ _ (show w.heap.size + 1 ≠ w.heap.size by omega)).trans ((heap_setCell_other _ _ _ _ (show w.heap.size + 1 ≠ w.heap.size by omega)).trans HBK.out)
      · exact own_base (ownsRow_setCell_below (ownsRow_setCell_below (ownsRow_setCell_below HOW.out (by show w.heap.size < _; omega) _) (by show w.heap.size < _; omega) _) (by show w.heap.size + 1 < _; omega) _) (by omega)
      · exact ((HBL.out.setCell (Nat.le_refl _) _).setCell (Nat.le_refl _) _).setCell (by show w.heap.size ≤ w.heap.size + 1; omega) _
    case done =>
      rintro E Wd hE ⟨hj, hbr, hbk, hbl, hz⟩ hK
      have HN := Lib.hid (HNO.out hj)
      have HBL := Lib.hid hbl
      have HBR := Lib.hid hbr
      have HBK := Lib.hid hbk
      have HKK := Lib.hid hK
      obtain ⟨c0, c1, c2, c3⟩ := hbr.facts
      have e0 := hbk.cell
      have e1 := hbk.frozen
      have hne : ¬ w.heap.size + 1 = w.heap.size := by omega
      clear hj hbr hbk hbl hK
      gi_wp2
      obtain ⟨Wf, hWf⟩ : ∃ Wf, Wf = ((Wd.setCell ⟨w.heap.size, 0, none⟩ (.int .i64 0)).setCell ⟨w.heap.size, 1, none⟩ (.slice none 0 0)).setCell ⟨w.heap.size + 1, 0, none⟩ (.bool false) := ⟨_, rfl⟩
      have hbx : Box Wf w.heap.size (.int .i64 0) (.slice none 0 0) 30 := by rw [hWf]; exact (box_two HBR.out _ _).other _ (by omega)
      have hbk : Boxed Wf (w.heap.size + 1) 4 (.bool false) := by
        rw [hWf]
        refine Boxed.set (v := .bool false) _ ?_
        exact (heap_setCell_other _ _ _ _ (show w.heap.size + 1 ≠ w.heap.size by omega)).trans ((heap_setCell_other _ _ _ _ (show w.heap.size + 1 ≠ w.heap.size by omega)).trans HBK.out)
      have hbf : Below w.heap.size w Wf := by rw [hWf]; exact ((HBL.out.setCell (Nat.le_refl _) _).setCell (Nat.le_refl _) _).setCell (by show w.heap.size ≤ w.heap.size + 1; omega) _
      have hKf : Wf.heap[E]? = some (.deferred (some [])) := by
        rw [hWf]
        exact (heap_setCell_other _ _ _ _ (show E ≠ w.heap.size + 1 by omega)).trans ((heap_setCell_other _ _ _ _ (show E ≠ w.heap.size by omega)).trans ((heap_setCell_other _ _ _ _ (show E ≠ w.heap.size by omega)).trans HKK.out))
      rw [← hWf]
      clear c0 c1 c2 c3 e0 e1 hWf
      have hbx2 : Box (Wf.putObj E (.deferred none)) w.heap.size (.int .i64 0) (.slice none 0 0) 30 := (World.putObj_heap_other (by omega)).trans hbx
      have hbk2 : Boxed (Wf.putObj E (.deferred none)) (w.heap.size + 1) 4 (.bool false) := (World.putObj_heap_other (by omega)).trans hbk
      have HBF := Lib.hid (hbf.grown (grownBy_putObj' Wf E (.deferred none)) (by have := hbx.lt; omega) (fun j e => by cases e; omega))
      obtain ⟨c0, c1, _, _⟩ := hbx2.facts
      have e0 := hbk2.cell
      refine leave_mark (.tuple #[rhy 0 none 0 0, .bool false]) hKf (by simp [results, Try.results17, go_sem, *]) ?_
      exact cpost_no HN.out HBF.out
    case stop =>
      rintro E cd j Wd hE _ ⟨rfl, X, ax, cx, hX, hbx, hbk, how, hbl, hz⟩ hK
      obtain ⟨hC, hZ⟩ := HYES.out X hX
      have HCZ := Lib.hid hC
      have HZZ := Lib.hid hZ
      have hbx2 : Box (Wd.putObj E (.deferred none)) w.heap.size (.int .i64 N) (.slice ax X.length cx) 30 := (World.putObj_heap_other (by omega)).trans hbx
      have hbk2 : Boxed (Wd.putObj E (.deferred none)) (w.heap.size + 1) 4 (.bool true) := (World.putObj_heap_other (by omega)).trans hbk
      have HOW := Lib.hid (ownsRow_putObj how (.deferred none) hK rfl)
      have HBL := Lib.hid (hbl.grown (grownBy_putObj' Wd E (.deferred none)) (by omega) (fun j e => by cases e; omega))
      have HKK := Lib.hid hK
      obtain ⟨c0, c1, _, _⟩ := hbx2.facts
      have e0 := hbk2.cell
      clear hC hZ hX hbx hbk how hbl hK hbx2 hbk2
      gi_wp2
      refine leave_mark (.tuple #[rhy N ax X.length cx, .bool true]) HKK.out (by simp [results, Try.results17, go_sem, *]) ?_
      rw [HZZ.out]
      exact cpost_yes HCZ.out rfl HOW.out HBL.out
  · have HC := Lib.hid hc
    have HN : Hid (¬ fiC n d k) := Lib.hid (fun x => hc x.1)
    clear hc
    refine (callsIn_wide (n := 9)).1 ?_
    refine callsIn_of_wp_marks Try.func17 rfl trivial ?_ rfl
    simp only [Try.ntmps17, List.size_toArray, List.length_cons, List.length_nil, Nat.reduceAdd, Nat.reduceSub, Array.replicate_succ, Array.replicate_zero, List.push_toArray, List.append_toArray, List.nil_append, List.cons_append]
    gi_wp2_with fail
    obtain ⟨W0, hW0⟩ : ∃ W0, W0 = (w.alloc (.cells #[.int .i64 0, .slice none 0 0] 30)).alloc (.cells #[.bool false] 4) := ⟨_, rfl⟩
    rw [← hW0]
    have HB0 := Lib.hid (show Below w.heap.size w W0 by rw [hW0]; exact bel2 w _ _)
    have HR0 := Lib.hid (show Box W0 w.heap.size (.int .i64 0) (.slice none 0 0) 30 by rw [hW0]; exact (box_new w _ _ _).keep (bel1 _ _) (by simp))
    have HK0 := Lib.hid (show Boxed W0 (w.heap.size + 1) 4 (.bool false) by
      rw [hW0]
      have := Boxed.new (w.alloc (.cells #[.int .i64 0, .slice none 0 0] 30)) 4 (.bool false)
      simpa using this)
    have hz0 : w.heap.size + 2 ≤ W0.heap.size := by rw [hW0]; simp
    clear hW0
    refine (callsIn_wide.2 (arec_no n d k _ HC.out)).mono ?_
    rintro e w' ⟨rfl, rfl⟩
    obtain ⟨c0, c1, c2, c3⟩ := HR0.out.facts
    have e0 := HK0.out.cell
    have e1 := HK0.out.frozen
    have hne : ¬ w.heap.size + 1 = w.heap.size := by omega
    gi_wp2
    obtain ⟨Wf, hWf⟩ : ∃ Wf, Wf = ((W0.setCell ⟨w.heap.size, 0, none⟩ (.int .i64 0)).setCell ⟨w.heap.size, 1, none⟩ (.slice none 0 0)).setCell ⟨w.heap.size + 1, 0, none⟩ (.bool false) := ⟨_, rfl⟩
    have hbx : Box Wf w.heap.size (.int .i64 0) (.slice none 0 0) 30 := by rw [hWf]; exact (box_two HR0.out _ _).other _ (by omega)
    have hbk : Boxed Wf (w.heap.size + 1) 4 (.bool false) := by
      rw [hWf]
      refine Boxed.set (v := .bool false) _ ?_
      exact (heap_setCell_other _ _ _ _ (show w.heap.size + 1 ≠ w.heap.size by omega)).trans ((heap_setCell_other _ _ _ _ (show w.heap.size + 1 ≠ w.heap.size by omega)).trans HK0.out)
    have hbf : Below w.heap.size w Wf := by rw [hWf]; exact ((HB0.out.setCell (Nat.le_refl _) _).setCell (Nat.le_refl _) _).setCell (by show w.heap.size ≤ w.heap.size + 1; omega) _
    rw [← hWf]
    clear c0 c1 c2 c3 e0 e1 hWf
    obtain ⟨c0, c1, _, _⟩ := hbx.facts
    have e0 := hbk.cell
    exact ⟨.tuple #[rhy 0 none 0 0, .bool false], by simp [results, Try.results17, go_sem, *], cpost_no HN.out hbf⟩
end Go.Proofs.Ytpbceckbmalabaa.Rhy
