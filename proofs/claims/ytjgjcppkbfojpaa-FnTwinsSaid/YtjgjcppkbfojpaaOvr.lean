import Derived.Test.YtjgjcppkbfojpaaDif
import Derived.Test.YtjgjcppkbfojpaaIvs
import Derived.Test.YtjgjcppkbfojpaaCmp
import Derived.Test.YtjgjcppkbfojpaaLsi
import Derived.Lib.LazyBuf
namespace Go.Proofs.Ytjgjcppkbfojpaa.Rhy
open Go.RowKit
theorem mid_at (l : List Int) (n k : Nat) (hl : l.length = n) (hk : k < n) : (ints (l.take k) ++ List.replicate (n - k) (Value.int .i64 0))[k]? = some (.int .i64 0) := by
  have e : (ints (l.take k)).length = k := by simp [ints]; omega
  rw [List.getElem?_append_right (by omega), e, Nat.sub_self, List.getElem?_replicate, if_pos (by omega)]
theorem overP_at (n : Int) (xs ys : List Int) {k m : Nat} (h : k < m) : (overP n xs ys m)[k]? = some ((comZ xs (rotZ n ys 1 (k : Int)) : Nat) : Int) := by simp [overP, h]
theorem cell_set_ne' (w : World) (c o b p : Nat) (v : Value) (h : c ≠ b) : (w.setCell ⟨c, o, none⟩ v).cell? ⟨b, p, none⟩ = w.cell? ⟨b, p, none⟩ :=
  World.cell?_of_block (Below.heap_setCell _ _ _ _ (by show b ≠ c; omega))

end Go.Proofs.Ytjgjcppkbfojpaa.Rhy
