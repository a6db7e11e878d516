/-
  Helpers of the claims beside this text: the program's links: their blocks, leadTo, opened.
-/
import Derived.Test.YthcmpkhfimapgaaOk
namespace Go.Proofs.Ythcmpkhfimapgaa.Rhy
open Go.RowKit
set_option linter.unusedVariables false
set_option linter.unusedSimpArgs false

/-- A link in block b: its beat, what is before it, what is after it. -/
def Lnk (w : World) (b : Nat) (z : Int) (p q : Option Addr) : Prop := w.heap[b]? = some (.cells #[.int .i64 z, .pointer p, .pointer q] 82 (0, 0))
theorem Lnk.lt {w : World} {b : Nat} {z : Int} {p q : Option Addr} (h : Lnk w b z p q) : b < w.heap.size := by
  rcases Nat.lt_or_ge b w.heap.size with h' | h'
  · exact h'
  · unfold Lnk at h
    rw [Array.getElem?_eq_none h'] at h
    cases h
theorem Lnk.facts {w : World} {b : Nat} {z : Int} {p q : Option Addr} (h : Lnk w b z p q) :
    (w.cell? ⟨b, 0, none⟩ = some (.int .i64 z) ∧ w.cell? ⟨b, 1, none⟩ = some (.pointer p) ∧ w.cell? ⟨b, 2, none⟩ = some (.pointer q)) ∧
      w.frozen? ⟨b, 0, none⟩ = false ∧ w.frozen? ⟨b, 1, none⟩ = false ∧ w.frozen? ⟨b, 2, none⟩ = false := by
  unfold Lnk at h
  refine ⟨⟨?_, ?_, ?_⟩, ?_, ?_, ?_⟩ <;> simp [World.cell?, World.frozen?, h]
theorem lnk_new (w : World) (z : Int) (p q : Option Addr) : Lnk (w.alloc (.cells #[.int .i64 z, .pointer p, .pointer q] 82)) w.heap.size z p q := heap_alloc_new w _
theorem Lnk.keep {w w' : World} {b B : Nat} {z : Int} {p q : Option Addr} (h : Lnk w b z p q) (hb : Below B w w') (hB : b < B) : Lnk w' b z p q := by
  unfold Lnk
  rw [hb.block b hB]
  exact h
theorem Lnk.same {w w' : World} {b : Nat} {z : Int} {p q : Option Addr} (h : Lnk w b z p q) (hb : w'.heap[b]? = w.heap[b]?) : Lnk w' b z p q := by
  unfold Lnk
  rw [hb]
  exact h
theorem Lnk.set1 {w : World} {b : Nat} {z : Int} {p q : Option Addr} (h : Lnk w b z p q) (r : Option Addr) : Lnk (w.setCell ⟨b, 1, none⟩ (.pointer r)) b z r q := heap_setCell_same w b 1 _ _ _ h
theorem Lnk.set2 {w : World} {b : Nat} {z : Int} {p q : Option Addr} (h : Lnk w b z p q) (r : Option Addr) : Lnk (w.setCell ⟨b, 2, none⟩ (.pointer r)) b z p r := heap_setCell_same w b 2 _ _ _ h
theorem Lnk.other {w : World} {b c o : Nat} {z : Int} {p q : Option Addr} (h : Lnk w b z p q) (v : Value) (hc : c ≠ b) : Lnk (w.setCell ⟨c, o, none⟩ v) b z p q := by
  unfold Lnk
  rw [Below.heap_setCell _ _ _ _ (by show b ≠ c; omega)]
  exact h

theorem lead_nil (b : Nat) (w : World) :
    Calls Try.prog 123 #[.pointer (some ⟨b, 0, none⟩), .pointer none] w fun e w' => e = .returned (.tuple #[]) ∧ w = w' := by
  go_enter Try.func123, Try.ntmps123
  go_wp2
  go_end0
  exact ⟨rfl, rfl⟩
theorem lead_next (b c : Nat) (z z' : Int) (p q p' q' : Option Addr) (w : World) (h : Lnk w b z p q) (h' : Lnk w c z' p' q') (hbc : c ≠ b) :
    Calls Try.prog 123 #[.pointer (some ⟨b, 0, none⟩), .pointer (some ⟨c, 0, none⟩)] w
      fun e w' => e = .returned (.tuple #[]) ∧ w' = (w.setCell ⟨b, 2, none⟩ (.pointer (some ⟨c, 0, none⟩))).setCell ⟨c, 1, none⟩ (.pointer (some ⟨b, 0, none⟩)) := by
  have H := Lib.hid h
  have H' := Lib.hid h'
  obtain ⟨⟨_, _, c2⟩, _, _, f2⟩ := h.facts
  obtain ⟨⟨_, d1, _⟩, _, e1, _⟩ := (h'.other (o := 2) (.pointer (some ⟨c, 0, none⟩)) (show b ≠ c by omega)).facts
  clear h h'
  go_enter Try.func123, Try.ntmps123
  go_wp2
  go_end0
  exact ⟨rfl, rfl⟩
theorem opened_any (b c : Nat) (z z' : Int) (q p' q' : Option Addr) (w : World) (h : Lnk w b z (some ⟨c, 0, none⟩) q) (h' : Lnk w c z' p' q') (hbc : c ≠ b) :
    Calls Try.prog 107 #[.pointer (some ⟨b, 0, none⟩)] w
      fun e w' => e = .returned (.pointer (some ⟨b, 0, none⟩)) ∧ w' = (w.setCell ⟨c, 2, none⟩ (.pointer none)).setCell ⟨b, 1, none⟩ (.pointer none) := by
  have H := Lib.hid h
  have H' := Lib.hid h'
  obtain ⟨⟨_, c1, _⟩, _, _, _⟩ := h.facts
  obtain ⟨⟨_, _, d2⟩, _, _, e2⟩ := h'.facts
  obtain ⟨⟨_, c1', _⟩, _, f1', _⟩ := (h.other (o := 2) (.pointer none) hbc).facts
  clear h h'
  go_enter Try.func107, Try.ntmps107
  go_wp2
  go_ret
  exact ⟨rfl, rfl⟩
end Go.Proofs.Ythcmpkhfimapgaa.Rhy
