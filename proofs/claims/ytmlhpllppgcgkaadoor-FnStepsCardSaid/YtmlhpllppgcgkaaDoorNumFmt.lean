import Derived.Test.YtmlhpllppgcgkaaDoorShelf
import Derived.Test.YtmlhpllppgcgkaaDoorRows
import Derived.WalkKit
import Derived.WalkSpells
import Derived.WalkLawsBesides
import Derived.Laws.BytesString
import Derived.Laws.Concat
import Derived.Lib.ItoaNum
import Derived.Lib.Hide
import Derived.IntWalk
import Derived.Deep.RegionWith
namespace Go.Proofs.YtmlhpllppgcgkaaDoor
open Go.RowKit
theorem app_bytes (a b : List UInt8) : ((⟨a.toArray⟩ : ByteArray) ++ ⟨b.toArray⟩) = ⟨(a ++ b).toArray⟩ := by
  apply ByteArray.ext
  simp
theorem ret_str {a b : ByteArray} (h : a = b) : Ending.returned (.string a) = .returned (.string b) := by rw [h]

def text (n : Int) : ByteArray := ⟨(Lib.itoa n).toArray⟩

theorem dec_small (u : Nat) (h : u < 10) : Lib.decDigits u = [UInt8.ofNat (48 + u)] := by rw [Lib.decDigits, dif_pos h]
theorem dec_big (u : Nat) (h : 10 ≤ u) : Lib.decDigits u = Lib.decDigits (u / 10) ++ [UInt8.ofNat (48 + u % 10)] := by rw [Lib.decDigits, dif_neg (by omega)]
theorem dec_len (u : Nat) (k : Nat) : u < 10 ^ k → (Lib.decDigits u).length ≤ k + 1 := by
  induction k generalizing u with
  | zero => intro h; rw [dec_small u (by simp at h; omega)]; simp
  | succ k ih =>
    intro h
    by_cases hs : u < 10
    · rw [dec_small u hs]; simp
    · rw [dec_big u (by omega), List.length_append]
      have := ih (u / 10) (by rw [Nat.pow_succ] at h; omega)
      simp
      omega
theorem text_size (n : Int) (h1 : -9223372036854775808 ≤ n) (h2 : n ≤ 9223372036854775807) : (text n).size ≤ 100 := by
  show (Lib.itoa n).length ≤ 100
  unfold Lib.itoa
  split
  · have := dec_len n.natAbs 20 (by have : (10 : Nat) ^ 20 = 100000000000000000000 := by decide
                                    omega)
    simp; omega
  · have := dec_len n.toNat 20 (by have : (10 : Nat) ^ 20 = 100000000000000000000 := by decide
                                   omega)
    omega
theorem text_neg_small (n : Int) (h1 : -10 < n) (h2 : n < 0) : text n = (⟨#[45]⟩ : ByteArray) ++ ⟨#[UInt8.ofNat (48 - n).toNat]⟩ := by
  unfold text Lib.itoa
  rw [if_pos h2, dec_small _ (by omega), show (48 - n).toNat = 48 + n.natAbs by omega]
  exact (app_bytes [45] [_]).symm
theorem text_neg_big (n q r : Int) (h : n ≤ -10) (hq : n = 10 * q + r) (h1 : -9 ≤ r) (h2 : r ≤ 0) : text n = text q ++ ⟨#[UInt8.ofNat (48 - r).toNat]⟩ := by
  have hq0 : q < 0 := by omega
  unfold text Lib.itoa
  rw [if_pos (by omega), if_pos hq0, dec_big _ (by omega), show n.natAbs / 10 = q.natAbs by omega, show 48 + n.natAbs % 10 = (48 - r).toNat by omega]
  rw [← List.cons_append]
  exact (app_bytes _ [_]).symm

theorem kept_new {w0 w' : World} {v : Value} {t : TypeId} (hb : Below ((w0.alloc (.cells #[v] t)).drew).heap.size (w0.alloc (.cells #[v] t)).drew w') : w'.cell? ⟨w0.heap.size, 0, none⟩ = some v :=
  (hb.cell (p := ⟨w0.heap.size, 0, none⟩) (by show w0.heap.size < (w0.heap.push _).size; simp)).trans (by simp)

theorem after_alloc {w w' : World} {o : Obj} (hb : Below ((w.alloc o).drew).heap.size (w.alloc o).drew w') : Below w.heap.size w w' :=
  (((Below.refl _ w).alloc (Nat.le_refl _) o).drew).trans (hb.mono (by show w.heap.size ≤ (w.heap.push _).size; simp))
theorem before_alloc {w w' : World} {o : Obj} (hb : Below w.drew.heap.size w.drew w') : Below w.heap.size w (w'.alloc o) :=
  ((Below.refl _ w).drew.trans hb).alloc hb.size o




theorem below_grow {w : World} (k : Nat) (os : Array Obj) : Below w.heap.size w (Go.Sort.grow (w.drewN k) os) :=
  ⟨rfl, rfl, rfl, by show w.heap.size ≤ (w.heap ++ os).size; simp, fun i hi => by show (w.heap ++ os)[i]? = w.heap[i]?; rw [Array.getElem?_append_left hi]⟩

theorem program_format (n : Int) (w : World) (h1 : -9223372036854775808 ≤ n) (h2 : n ≤ 9223372036854775807) (htab : Lib.TabIs Tryd.prog w "internal/strconv.uint64pow10" .u64 Lib.pow10Tab) :
    Calls Tryd.prog 27 #[.int .i64 n] w fun e w' => e = .returned (.string (text n)) ∧ Below w.heap.size w w' := by
  have hc := (Tryd.strconv_Itoa n h1 h2 w htab).mono (fun e w' h => (show e = .returned (.string (text n)) ∧ Below w.heap.size w w' from ⟨h.1, by
    obtain ⟨_, k, os, rfl⟩ := h
    exact below_grow k os⟩))
  have HC := Lib.hid hc
  clear hc htab
  go_enter Tryd.func27, Tryd.ntmps27
  go_wp2_with (go_at_call 42; refine HC.out.mono ?_; rintro e w' ⟨rfl, hb⟩)
  go_ret
  exact ⟨rfl, by assumption⟩
end Go.Proofs.YtmlhpllppgcgkaaDoor
