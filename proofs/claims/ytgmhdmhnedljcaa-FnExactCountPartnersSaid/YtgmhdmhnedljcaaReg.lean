/-
  Helpers of the claims beside this text: a region that draws its order, with calls and one new box.
-/
import Derived.Test.YtgmhdmhnedljcaaApp
import Derived.Deep.RegionHeld3
import Derived.Deep.DeepCutAuto
namespace Go.Proofs.Ytgmhdmhnedljcaa.Rhy
open Go.RowKit
set_option linter.unusedVariables false

theorem belS {cur W w' : World} (hc : Below W.heap.size W w') (h : Below cur.heap.size cur W) : Below cur.heap.size cur w' := h.trans (hc.mono h.size)
theorem sizeS {cur W w' : World} (hc : Below W.heap.size W w') (h : Below cur.heap.size cur W) : cur.heap.size ≤ W.heap.size := h.size
theorem kept_box {W w' : World} {v0 v1 : Value} {t : TypeId} (hc : Below (W.alloc (.cells #[v0, v1] t)).heap.size (W.alloc (.cells #[v0, v1] t)) w') : Box w' W.heap.size v0 v1 t := (box_new W v0 v1 t).keep hc (by simp)
theorem kept_boxD {W w' : World} {v0 v1 : Value} {t : TypeId} (hc : Below (W.alloc (.cells #[v0, v1] t)).drew.heap.size (W.alloc (.cells #[v0, v1] t)).drew w') : Box w' W.heap.size v0 v1 t :=
  Box.keep (w := (W.alloc (.cells #[v0, v1] t)).drew) (show Box (W.alloc (.cells #[v0, v1] t)) W.heap.size v0 v1 t from box_new W v0 v1 t) hc (show W.heap.size < (W.alloc (.cells #[v0, v1] t)).heap.size by simp)
theorem kept_box2 {W w' : World} {b : Nat} {v0 v1 : Value} {t : TypeId} (h : Box W b v0 v1 t) (hc : Below W.heap.size W w') : Box w' b v0 v1 t := h.keep hc h.lt
theorem kept_row {W w' : World} {lo hi : Nat} {a : Option Addr} {n cap : Nat} {l : List Int} (h : Row W lo hi a n cap l) (hc : Below W.heap.size W w') : Row w' lo hi a n cap l := h.keep hc
theorem kept_row2 {W w' : World} {o : Obj} {lo hi : Nat} {a : Option Addr} {n cap : Nat} {l : List Int} (h : Row W lo hi a n cap l) (hc : Below (W.alloc o).heap.size (W.alloc o) w') : Row w' lo hi a n cap l := (h.keep (bel1 W o)).keep hc
theorem lt_alloc {W w' : World} {o : Obj} (hc : Below (W.alloc o).heap.size (W.alloc o) w') : W.heap.size < (W.alloc o).heap.size := by simp
theorem Box.two {w : World} {b : Nat} {v0 v1 : Value} {t : TypeId} (h : Box w b v0 v1 t) : Two w b v0 v1 := ⟨h.lt, h.facts.1, h.facts.2.1⟩
theorem below_set2 {B N o p : Nat} {w w' : World} {u v : Value} (h : Below B w w') (hN : B ≤ N) : Below B w ((w'.setCell ⟨N, o, none⟩ u).setCell ⟨N, p, none⟩ v) := (h.setCell (p := ⟨N, o, none⟩) hN u).setCell (p := ⟨N, p, none⟩) hN v
theorem box_set {w : World} {N : Nat} {v0 v1 u v : Value} {t : TypeId} (h : Box w N v0 v1 t) : Two ((w.setCell ⟨N, 0, none⟩ u).setCell ⟨N, 1, none⟩ v) N u v := ((h.set0 u).set1 v).two
theorem row_set {w : World} {B lo N n cap : Nat} {a : Option Addr} {l : List Int} {u v : Value} (h : w.ownsRow B 3 1 (.slice a n cap) n (ints l)) (hN : N < B) (hl : lo ≤ B) :
    Row ((w.setCell ⟨N, 0, none⟩ u).setCell ⟨N, 1, none⟩ v) lo ((w.setCell ⟨N, 0, none⟩ u).setCell ⟨N, 1, none⟩ v).heap.size a n cap l :=
  row_of (own_base (ownsRow_setCell_below (ownsRow_setCell_below h (by show N < B; exact hN) _) (by show N < B; exact hN) _) hl)
theorem row_alloc {w : World} {B lo n cap : Nat} {a : Option Addr} {l : List Int} (o : Obj) (h : w.ownsRow B 3 1 (.slice a n cap) n (ints l)) (hl : lo ≤ B) : Row (w.alloc o) lo (w.alloc o).heap.size a n cap l :=
  row_of (own_base (h.alloc o) hl)
end Go.Proofs.Ytgmhdmhnedljcaa.Rhy
