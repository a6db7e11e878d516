/-
  Helpers of the claims beside this text: the program's form of a rhythm, made.
-/
import Derived.Test.YtcppmcacjjjjeaaFma
namespace Go.Proofs.Ytcppmcacjjjjeaa.Rhy
open Go.RowKit
set_option linter.unusedVariables false

/-- Behind k beats: the argument's box, the result's, the form's own. -/
def FrmAt (s : Int) (a : Option Addr) (len cap : Nat) (zs : List Int) (k : Nat) (w wr : World) : Prop :=
  Two wr w.heap.size (.int .i64 s) (.slice a len cap) ∧ wr.heap[w.heap.size + 1]? = some (.cells (formA 0 []) 103 (0, 0)) ∧
    wr.heap[w.heap.size + 1 + 1]? = some (.cells (formA s (zs.take k)) 103 (0, 0)) ∧ Below w.heap.size w wr
theorem frm_lt {s : Int} {a : Option Addr} {len cap : Nat} {zs : List Int} {k : Nat} {w wr : World} (h : FrmAt s a len cap zs k w wr) : w.heap.size + 1 + 1 < wr.heap.size := by
  rcases Nat.lt_or_ge (w.heap.size + 1 + 1) wr.heap.size with q | q
  · exact q
  · have := h.2.2.1
    rw [Array.getElem?_eq_none q] at this; cases this
theorem below_setRow {B : Nat} {a w : World} (h : Below B a w) {g : Nat} (hg : B ≤ g) (cs : Array Value) : Below B a (w.setRow g cs) :=
  h.trans ⟨rfl, rfl, rfl, by simp, fun k hk => setRow_other w g k cs (by omega)⟩
theorem two_setRow {w : World} {b : Nat} {v0 v1 : Value} (h : Two w b v0 v1) {g : Nat} (hg : b ≠ g) (cs : Array Value) : Two (w.setRow g cs) b v0 v1 :=
  ⟨by simpa using h.1, by rw [cell_setRow_other w g cs _ hg]; exact h.2.1, by rw [cell_setRow_other w g cs _ hg]; exact h.2.2⟩
theorem frm_world (s : Int) (a : Option Addr) (len cap : Nat) (w : World) :
    (((w.alloc (.cells #[.int .i64 s, .slice a len cap] 25)).alloc (.cells (formA 0 []) 103)).alloc (.cells (formA 0 []) 103)).heap[w.heap.size + 1 + 1]? = some (.cells (formA 0 []) 103 (0, 0)) := by
  have := heap_alloc_new ((w.alloc (.cells #[.int .i64 s, .slice a len cap] 25)).alloc (.cells (formA 0 []) 103)) (.cells (formA 0 []) 103)
  simpa using this
theorem frm_start (s : Int) (a : Option Addr) (len cap : Nat) (zs : List Int) (w W : World) (hW : (((w.alloc (.cells #[.int .i64 s, .slice a len cap] 25)).alloc (.cells (formA 0 []) 103)).alloc (.cells (formA 0 []) 103)).setRow (w.heap.size + 1 + 1) (formA s []) = W) :
    FrmAt s a len cap zs 0 w W := by
  subst hW
  refine ⟨?_, ?_, ?_, ?_⟩
  · exact two_setRow (((two_new w _ _ _).keep (bel1 _ _)).keep (bel1 _ _)) (by omega) _
  · rw [setRow_other _ _ _ _ (by omega), heap_alloc_old _ _ (by simp)]
    have := heap_alloc_new (w.alloc (.cells #[.int .i64 s, .slice a len cap] 25)) (.cells (formA 0 []) 103)
    simpa using this
  · exact setRow_heap _ _ _ _ _ _ (frm_world s a len cap w)
  · exact below_setRow (bel3 w _ _ _) (by omega) _

theorem frm_step {s : Int} {a : Option Addr} {len cap : Nat} {zs : List Int} {k z : Nat} {w wr : World} (h : FrmAt s a len cap zs k w wr) (hz : zs[k]? = some (z : Int)) (hlt : z < 24) :
    FrmAt s a len cap zs (k + 1) w (wr.setCell ⟨w.heap.size + 1 + 1, 1 + z, none⟩ (.bool true)) := by
  have hl := frm_lt h
  refine ⟨?_, ?_, ?_, ?_⟩
  · have := two_setRow h.1 (show w.heap.size ≠ w.heap.size + 1 + 1 by omega) ((formA s (zs.take k)).setIfInBounds (1 + z) (.bool true))
    rwa [← setCell_eq_setRow wr _ _ _ _ _ _ h.2.2.1] at this
  · rw [heap_setCell_other _ _ _ _ (by show w.heap.size + 1 ≠ w.heap.size + 1 + 1; omega)]; exact h.2.1
  · rw [heap_setCell_same _ _ _ _ _ _ h.2.2.1, formA_set hz hlt]
  · exact h.2.2.2.setCell (by show w.heap.size ≤ w.heap.size + 1 + 1; omega) _

set_option maxHeartbeats 400000 in
set_option maxRecDepth 100000 in
theorem form_any (s : Int) (a : Option Addr) (len cap : Nat) (zs : List Int) (w : World) (h : IntsAt w a len zs) (hm : len ≤ 1048576) (ho : Ok s zs) :
    Calls Try.prog 122 #[rhy s a len cap] w fun e w' => e = .returned (formV s zs) ∧ Below w.heap.size w w' := by
  have HS := Lib.hid h
  have HOK := Lib.hid ho
  clear h ho
  go_enter Try.func122, Try.ntmps122
  go_wp2_with (refine wpList_store_row rfl 103 (.tmp 3) (.tmp 8) rfl (w.heap.size + 1 + 1) (formA s []) rfl rfl 103 (formA 0 []) (frm_world s a len cap w) (by rw [infoF, formA_size]) (by rw [formA_size, formA_size]) (formA_one s []) ?_; generalize hW : World.setRow _ _ _ = W; have HF := Lib.hid (frm_start s a len cap zs w W hW); clear hW; obtain ⟨x0, x1, x2⟩ := HF.out.1)
  go_loopw [12] (fun i wr => ∃ k : Nat, k ≤ len ∧ i = .int .i64 k ∧ FrmAt s a len cap zs k w wr) (fun i _ => len - (intOf i).toNat)
  case atStart => exact ⟨0, by omega, rfl, HF.out⟩
  case round =>
    clear x0 x1 x2
    obtain ⟨k, hk, rfl, hr⟩ := hrel
    have HR := Lib.hid hr
    clear hr
    by_cases hlt : k < len
    · obtain ⟨b, off, z, rfl, hb, hs, hc, hz1, hz2⟩ := (HS.out.below HR.out.2.2.2).at hlt
      have hz := ok_at HOK.out hs
      have hs24 := HOK.out.1.2
      obtain ⟨zn, rfl⟩ : ∃ zn : Nat, z = zn := ⟨z.toNat, by omega⟩
      have hzn : zn < 24 := by omega
      have hcell : wr.cell? ⟨w.heap.size + 1 + 1, 1 + zn, none⟩ = some (.bool ((zs.take k).contains (zn : Int))) := by rw [cell_of_row _ _ _ _ _ _ HR.out.2.2.1, formA_at, if_pos hzn]
      have hfz := frozen_of_row wr (w.heap.size + 1 + 1) (1 + zn) _ _ HR.out.2.2.1
      have HST := Lib.hid (frm_step HR.out hs hzn)
      clear hs hz
      go_wp2
      go_roundw
      case rel => exact ⟨k + 1, by omega, by go_num, HST.out⟩
      case measure => simp [intOf]; omega
    · have e : k = len := by omega
      have HT : Hid (zs.take k = zs) := Lib.hid (List.take_of_length_le (by have := HS.out.len; omega))
      clear e
      have HB2 : Hid (wr.heap[w.heap.size + 1 + 1]? = some (.cells (formA s zs) 103 (0, 0))) := Lib.hid (by have := HR.out.2.2.1; rwa [HT.out] at this)
      go_wp2_with (first
        | (refine wpList_load_row rfl 103 (.tmp 3) rfl (w.heap.size + 1 + 1) rfl 103 (formA s zs) (0, 0) _ HB2.out underF rfl (by rw [infoF, formA_size]) ?_)
        | (refine wpList_store_row rfl 103 (.tmp 2) (.tmp 20) rfl (w.heap.size + 1) (formA s zs) rfl rfl 103 (formA 0 []) HR.out.2.1 (by rw [infoF, formA_size]) (by rw [formA_size, formA_size]) (formA_one s zs) ?_))
      refine bodyPost_ret (v := formV s zs) (results_cell_row Try.results122 _ _ (w.heap.size + 1) 103 (formA s zs) (0, 0) _ rfl (setRow_heap _ _ _ _ _ _ HR.out.2.1) underF rfl (by rw [infoF, formA_size])) rfl ⟨rfl, ?_⟩
      exact below_setRow HR.out.2.2.2 (by omega) _
end Go.Proofs.Ytcppmcacjjjjeaa.Rhy
