/-
  Helpers of the claims beside this text: the library's Collect and AppendSeq over an iterator of numbers.
-/
import Derived.Test.YthcmpkhfimapgaaPop
namespace Go.Proofs.Ythcmpkhfimapgaa.Rhy
open Go.RowKit
set_option linter.unusedVariables false
attribute [local go_sem] Oper.semAt_some

set_option maxHeartbeats 1000000 in
theorem appendseq_any (n lo hi g : Nat) (lb : Array Value) (l : List Int) (w : World) (hG : Gives n lo hi w g lb l) (hE : Enters g) (hn : n ≤ w.heap.size) (hh : hi ≤ w.heap.size) (hl : l.length ≤ 1048576) :
    Calls Try.prog 127 #[.slice none 0 0, .func (.func g) #[] lb] w (IPost l w) := by
  obtain ⟨i0, hi0, hz0, hz1, hz2⟩ := info_parts infoInt
  have HI := Lib.hid (show _ ∧ _ ∧ _ ∧ _ from ⟨hi0, hz0, hz1, hz2⟩)
  clear hi0 hz0 hz1 hz2
  refine (callsIn_wide (n := 9)).1 ?_
  refine callsIn_of_wp_marks Try.func127 rfl trivial ?_ rfl
  simp only [Try.ntmps127, List.size_toArray, List.length_cons, List.length_nil, Nat.reduceAdd, Nat.reduceSub, Array.replicate_succ, Array.replicate_zero, List.push_toArray, List.append_toArray, List.nil_append, List.cons_append]
  gi_wp2
  have bS := Boxed.new w 24 (.slice none 0 0)
  refine wp_range (n := n) (lo := lo) (hi := hi) (by omega) rfl hE (hG.later (bel1 w _)) (by simp; omega) (by simp; omega)
    (fun pre W => (∃ v, Boxed W w.heap.size 24 v ∧ W.ownsRow w.heap.size 3 1 v pre.length (ints pre) ∧ True) ∧ Below w.heap.size w W) (fun _ _ _ => False)
    (OwnFrom.and (Own.from (holdsRow_own w.heap.size w.heap.size 24 3 1 (fun pre => pre.length) (fun pre => ints pre) (fun _ _ => True)) _) (ownFrom_below (Nat.le_refl _) (by simp)))
    (fun _ _ _ _ _ hs _ _ => hs) ⟨⟨_, bS, World.ownsRow_nil _ _ _ _, trivial⟩, bel1 w _⟩
    (fun x => { tmps := #[.slice none 0 0, .func (.func g) #[] lb, .pointer (some ⟨w.heap.size, 0, none⟩), undef, .slice none 0 0, .int .i64 x, .func (.func g) #[] lb, .int .i64 x, undef, undef, undef, undef, undef], defers := [] }) ?assign ?body ?done ?stop
  case assign =>
    intro q x W K hK
    gi_wp2
    exact hK
  case body =>
    rintro q pre x W ⟨⟨v, hv, hrow, -⟩, hB⟩ hlt -
    have hc := hv.cell
    gi_wp2_with (gi_at_builtin; refine wpListIn_append_own _ rfl _ _ 24 rfl w.heap.size 3 i0 (.int .i64 0) 1 8 Try.underlying24 HI.out.1 HI.out.2.1 HI.out.2.2.1 HI.out.2.2.2 rfl (by decide) _ _ _ rfl (hrow.alloc _) ⟨W.heap.size, 0, none⟩ 1 1 [.int .i64 x] rfl rfl (cell_one_new _ _ _) (by simp [Value.oneCell']) (by unfold maxLen; omega) (by omega) (by have := hB.size; simp; omega) ?_; intro v' w1 hown' hgrow _; obtain ⟨g', cap', rfl⟩ := ownsRow_succ hown'; obtain ⟨hv1, hv2, hr2, hk2, hb2⟩ := hv.appended (by decide) hrow hB.size (Nat.le_refl _) hown' hgrow; have hc1 := hv1.cell; have hf1 := hv1.frozen)
    exact ⟨hk2.from _, ⟨hb2.mono hn, Same.of_below hb2 hh⟩, ⟨_, hv2, by simpa [ints] using hr2, trivial⟩, hB.trans hb2⟩
  case done =>
    rintro D W hD ⟨⟨v, hv, hrow, -⟩, hB⟩ hK
    have hc := hv.cell
    have hB2 := hB.trans (belowK_b (w := w) (Nat.le_refl _) W D _ (.deferred none) (by simp at hD; omega) hK rfl rfl)
    have hrow2 := ownsRow_putObj hrow (.deferred none) hK rfl
    gi_wp2
    obtain ⟨_, b, c, rfl, _⟩ := own_shape hrow
    exact leave_mark _ hK (results_tmp rfl _ _ _) ⟨b, c, rfl, hrow2, hB2⟩
  case stop =>
    rintro D c pre W _ _ h _
    exact h.elim

theorem collect_any (n lo hi g : Nat) (lb : Array Value) (l : List Int) (w : World) (hG : Gives n lo hi w g lb l) (hE : Enters g) (hn : n ≤ w.heap.size) (hh : hi ≤ w.heap.size) (hl : l.length ≤ 1048576) :
    Calls Try.prog 113 #[.func (.func g) #[] lb] w (IPost l w) := by
  have HC := Lib.hid (appendseq_any n lo hi g lb l w hG hE hn hh hl)
  clear hG hE hn hh
  go_enter Try.func113, Try.ntmps113
  go_wp2_with fail
  refine (HC.out).mono ?_
  rintro e w1 ⟨b, c, rfl, hown, hb⟩
  have HO := Lib.hid hown
  have HB := Lib.hid hb
  clear hown hb
  go_wp2
  go_ret
  exact ⟨b, c, rfl, HO.out, HB.out⟩
end Go.Proofs.Ythcmpkhfimapgaa.Rhy
