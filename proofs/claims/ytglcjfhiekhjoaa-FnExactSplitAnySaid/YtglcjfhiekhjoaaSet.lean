/-
  Helpers of the claims beside this text: what bytesOf of the program answers.
-/
import Derived.Test.YtglcjfhiekhjoaaSplit
import Derived.Test.YtglcjfhiekhjoaaRows
import Derived.WalkKit
import Derived.WalkSpells
import Derived.WalkLawsBesides
import Derived.Laws.Rows
import Derived.Laws.Tables
import Derived.Lib.AsciiSet
import Derived.Deep.WholeRow
import Derived.Laws.ResultCell
import Derived.Lib.Strings
import Derived.Lib.Hide
namespace Go.Proofs.Ytglcjfhiekhjoaa
open Go.RowKit
theorem zero36 (w : World) : (zeroValue 36).run Try.prog w = .ok (.agg (Array.replicate 256 (.bool false))) w := by kernel_rfl
theorem size36 : (Try.prog.info? 36).map (·.size) = some 256 := by kernel_rfl

theorem set_size (l : List UInt8) : (Try.prog.info? 36).map (·.size) = some (Lib.setCells l).size := by rw [Lib.setCells_size]; exact size36

set_option maxHeartbeats 1000000 in
set_option maxRecDepth 1000000 in
theorem set_any (s : ByteArray) (w : World) (hs : s.size ≤ 1048576) :
    Calls Try.prog 29 #[.string s] w fun e w' => e = .returned (.agg (Lib.setCells s.data.toList)) ∧ Below w.heap.size w w' := by
  have hz := zero36
  go_enter Try.func29, Try.ntmps29
  go_wp2
  rw [← Lib.setCells_nil]
  have HZ := Lib.hid hz
  clear hz
  obtain ⟨W0, hW0⟩ : ∃ W0, W0 = w.alloc (.cells (Lib.setCells []) 36) := ⟨_, rfl⟩
  rw [← hW0]
  have hs0 : W0.heap.size = w.heap.size + 1 := by rw [hW0]; show (w.heap.push _).size = _; simp
  rw [← hs0]
  have HW0 := Lib.hid hW0
  have HS0 := Lib.hid hs0
  clear hW0 hs0
  go_loopw [4, 7] (fun _ i wx => ∃ k : Nat, k ≤ s.size ∧ i = .int .i64 k ∧ wx = W0.alloc (.cells (Lib.setCells (s.data.toList.take k)) 36)) (fun _ i _ => s.size - (intOf i).toNat)
  case atStart => exact ⟨0, by omega, rfl, rfl⟩
  case round =>
    obtain ⟨k, hk, rfl, rfl⟩ := hrel
    by_cases hlt : k < s.size
    · obtain ⟨x, hx⟩ : ∃ x : UInt8, s[k]'hlt = x := ⟨_, rfl⟩
      have hxl : s.data.toList[k]? = some x := by rw [← hx]; exact Lib.data_getElem? s k hlt
      have hx256 : (x.toNat : Int) < 256 := by have := UInt8.toNat_lt x; omega
      have hcell := Lib.setCells_at (s.data.toList.take k) x
      have HX := Lib.hid hxl
      clear hxl
      go_wp2
      go_roundw
      case rel => exact ⟨k + 1, by omega, by go_num, by rw [List.take_add_one, HX.out]; simp only [Option.toList]; rw [Lib.setCells_snoc]⟩
      case measure => simp [intOf]; omega
    · have htk : s.data.toList.take k = s.data.toList := List.take_of_length_le (by show s.size ≤ k; omega)
      rw [htk]
      clear htk
      have H1 := Lib.hid (heap_alloc_last W0 (.cells (Lib.setCells s.data.toList) 36))
      have H2 : Hid ((W0.alloc (.cells (Lib.setCells s.data.toList) 36)).heap[w.heap.size]? = some (.cells (Lib.setCells []) 36 (0, 0))) := Lib.hid (by
        have h1 : w.heap.size < W0.heap.size := by have := HS0.out; omega
        rw [heap_alloc_old W0 _ h1, HW0.out]
        exact heap_alloc_last w _)
      go_wp2_with (first | (refine wpList_load_row rfl 36 _ rfl W0.heap.size rfl 36 (Lib.setCells s.data.toList) (0, 0) _ H1.out Try.underlying36 rfl (set_size _) ?_) | (refine wpList_store_row rfl 36 _ _ rfl w.heap.size (Lib.setCells s.data.toList) rfl rfl 36 (Lib.setCells []) H2.out (set_size _) (by rw [Lib.setCells_size, Lib.setCells_size]) (Lib.setCells_one _) ?_))
      have H3 := Lib.hid (setRow_heap (W0.alloc (.cells (Lib.setCells s.data.toList) 36)) w.heap.size (Lib.setCells []) (Lib.setCells s.data.toList) 36 (0, 0) H2.out)
      refine bodyPost_ret (v := .agg (Lib.setCells s.data.toList)) ?_ rfl ⟨rfl, ?_⟩
      · exact results_cell_row rfl _ _ w.heap.size 36 _ (0, 0) _ rfl H3.out Try.underlying36 rfl (set_size _)
      · refine ⟨?_, ?_, ?_, ?_, fun i hi => ?_⟩
        · show W0.os = w.os
          rw [HW0.out]; rfl
        · show W0.tape = w.tape
          rw [HW0.out]; rfl
        · show W0.output = w.output
          rw [HW0.out]; rfl
        · rw [size_setRow]
          show w.heap.size ≤ (W0.heap.push _).size
          have := HS0.out
          simp
          omega
        · have h1 : i < W0.heap.size := by have := HS0.out; omega
          rw [setRow_other _ _ _ _ (by omega), heap_alloc_old W0 _ h1, HW0.out, heap_alloc_old w _ hi]
end Go.Proofs.Ytglcjfhiekhjoaa
