/-
  Helpers of the claims beside this text: the cursor over bytes by which the laws draw numbers and texts: it ends, and what it draws lies in its bounds.
-/
import Derived.Test.YtcppmcacjjjjeaaRows
import Derived.WalkKit
import Derived.WalkSpells
import Derived.WalkLawsBesides
import Derived.WalkSmall
import Derived.RegionTactic
import Derived.ChangeAlike
import Derived.Deep.QuietTactic
import Derived.BigQuiet
import Derived.IntWalk
import Derived.Laws.Rows
import Derived.OpenShut
import Derived.Lib.Hide
namespace Go.Proofs.Ytcppmcacjjjjeaa.Cur
open Go.RowKit
set_option linter.unusedVariables false

theorem and_mask (x : Int) (m : Nat) (hm : m < 9223372036854775808) : 0 ≤ bits .and .i64 x m ∧ bits .and .i64 x m ≤ m := by
  have h : ((BitVec.ofInt 64 x &&& BitVec.ofInt 64 (m : Int)).toNat) ≤ m := by
    rw [BitVec.toNat_and]
    refine Nat.le_trans Nat.and_le_right ?_
    rw [BitVec.toNat_ofInt]
    omega
  have e : bits .and .i64 x m = ((BitVec.ofInt 64 x &&& BitVec.ofInt 64 (m : Int)).toNat : Int) := by
    show IntKind.i64.wrap _ = _
    exact IntWalk.i64_in _ ⟨by omega, by
      show ((BitVec.ofInt 64 x &&& BitVec.ofInt 64 (m : Int)).toNat : Int) ≤ _
      omega⟩
  rw [e]
  omega

theorem and_le (x m : Int) (h0 : 0 ≤ m) (hm : m < 9223372036854775808) : 0 ≤ bits .and .i64 x m ∧ bits .and .i64 x m ≤ m := by
  obtain ⟨k, rfl⟩ := Int.eq_ofNat_of_zero_le h0
  exact and_mask x k (by omega)

/-- A slice of bytes as it lies in memory, below block B. -/
def BytesAt (B : Nat) (w : World) (a : Option Addr) (len : Nat) : Prop :=
  len ≤ 1048576 ∧ (0 < len → ∃ b off, a = some ⟨b, off, none⟩ ∧ b < B ∧ ∀ j, j < len → ∃ z : Int, w.cell? ⟨b, off + j, none⟩ = some (.int .u8 z) ∧ 0 ≤ z ∧ z ≤ 255)
theorem BytesAt.below {B : Nat} {w w' : World} {a : Option Addr} {len : Nat} (h : BytesAt B w a len) (hb : Below B w w') : BytesAt B w' a len := by
  refine ⟨h.1, fun hp => ?_⟩
  obtain ⟨b, off, rfl, hlt, hc⟩ := h.2 hp
  refine ⟨b, off, rfl, hlt, fun j hj => ?_⟩
  obtain ⟨z, hz, h1, h2⟩ := hc j hj
  exact ⟨z, by rw [hb.cell (p := ⟨b, off + j, none⟩) hlt]; exact hz, h1, h2⟩

def Made (a : Option Addr) (len cap : Nat) (w : World) (e : Ending) (w' : World) : Prop :=
  ∃ h : Int, e = .returned (.pointer (some ⟨w.heap.size, 0, none⟩)) ∧ 0 ≤ h ∧ h ≤ 1073741823 ∧ w' = w.alloc (.cells #[.slice a len cap, .int .i64 0, .int .i64 h] 93)

set_option maxRecDepth 100000 in
theorem new_any (a : Option Addr) (len cap : Nat) (w : World) (B : Nat) (hc : BytesAt B w a len) : Calls Try.prog 98 #[.slice a len cap] w (Made a len cap w) := by
  have hl := hc.1
  have HC := Lib.hid hc
  clear hc
  go_enter Try.func98, Try.ntmps98
  go_wp2
  go_loop [3, 4] (fun h i => ∃ k : Nat, ∃ n : Int, k ≤ len ∧ i = .int .i64 k ∧ h = .int .i64 n ∧ 0 ≤ n ∧ n ≤ 1073741823) (fun _ i => len - (intOf i).toNat)
  case atStart => exact ⟨0, _, by omega, rfl, rfl, by omega, by omega⟩
  case round =>
    obtain ⟨k, n, hk, rfl, rfl, h0, h1⟩ := hrel
    by_cases hlt : k < len
    · by_cases h4 : k < 4000
      · obtain ⟨b, off, rfl, hb, hcell⟩ := HC.out.2 (by omega)
        obtain ⟨z, hz, z0, z1⟩ := hcell k hlt
        have hm := and_le (n * 157 + z + 7) 1073741823 (by omega) (by omega)
        obtain ⟨hm0, hm1⟩ := hm
        clear hcell
        go_wp2
        go_round
        case rel => exact ⟨k + 1, _, by omega, by go_num, rfl, hm0, hm1⟩
        case measure => simp [intOf]; omega
      · have h4' : decide ((k : Int) < 4000) = false := by simp; omega
        go_wp2
        go_ret
        exact ⟨n, rfl, h0, h1, rfl⟩
    · go_wp2
      go_ret
      exact ⟨n, rfl, h0, h1, rfl⟩

/-- The cursor in block g, over the bytes of a. -/
def CurAt (B g : Nat) (a : Option Addr) (len cap : Nat) (w : World) : Prop :=
  B ≤ g ∧ ∃ (k : Nat) (h : Int), k ≤ len ∧ -9223372036854775808 ≤ h ∧ h ≤ 9223372036854775807 ∧ w.heap[g]? = some (.cells #[.slice a len cap, .int .i64 k, .int .i64 h] 93 (0, 0))
def Drawn (m : Int) (B g : Nat) (a : Option Addr) (len cap : Nat) (w : World) (e : Ending) (w' : World) : Prop :=
  ∃ r : Int, e = .returned (.int .i64 r) ∧ 0 ≤ r ∧ r ≤ m ∧ CurAt B g a len cap w' ∧ w.grownBy w' (some g)

theorem store2 {w : World} {g : Nat} {s i h : Value} (hr : w.heap[g]? = some (.cells #[s, i, h] 93 (0, 0))) (v : Value) :
    (w.setCell ⟨g, 2, none⟩ v).heap[g]? = some (.cells #[s, i, v] 93 (0, 0)) ∧ w.grownBy (w.setCell ⟨g, 2, none⟩ v) (some g) := by
  refine ⟨by rw [heap_setCell_same w g 2 _ _ v hr]; rfl, ⟨rfl, rfl, rfl, by simp [World.setCell], fun k hk hne => heap_setCell_other w _ k v (by simpa [eq_comm] using hne)⟩⟩
theorem store1 {w : World} {g : Nat} {s i h : Value} (hr : w.heap[g]? = some (.cells #[s, i, h] 93 (0, 0))) (v : Value) :
    (w.setCell ⟨g, 1, none⟩ v).heap[g]? = some (.cells #[s, v, h] 93 (0, 0)) ∧ w.grownBy (w.setCell ⟨g, 1, none⟩ v) (some g) := by
  refine ⟨by rw [heap_setCell_same w g 1 _ _ v hr]; rfl, ⟨rfl, rfl, rfl, by simp [World.setCell], fun k hk hne => heap_setCell_other w _ k v (by simpa [eq_comm] using hne)⟩⟩

theorem grown_trans {a b c : World} {row : Option Nat} (h : a.grownBy b row) (k : b.grownBy c row) : a.grownBy c row :=
  ⟨k.os.trans h.os, k.tape.trans h.tape, k.output.trans h.output, Nat.le_trans h.size k.size, fun i hi hne => (k.block i (Nat.lt_of_lt_of_le hi h.size) hne).trans (h.block i hi hne)⟩
theorem grown_draw {a b : World} {row : Option Nat} (h : a.grownBy b row) (n : Nat) : a.grownBy (b.drewN n) row :=
  ⟨h.os, h.tape, h.output, h.size, h.block⟩

theorem byte_any (B g : Nat) (a : Option Addr) (len cap : Nat) (w : World) (hc : CurAt B g a len cap w) (hb : BytesAt B w a len) :
    Calls Try.prog 76 #[.pointer (some ⟨g, 0, none⟩)] w (Drawn 255 B g a len cap w) := by
  obtain ⟨hg, k, h, hk, hh0, hh1, hrow⟩ := hc
  have hl := hb.1
  have c0 : w.cell? ⟨g, 0, none⟩ = some (.slice a len cap) := by rw [cell_of_row w g 0 _ 93 (0, 0) hrow]; rfl
  have c1 : w.cell? ⟨g, 1, none⟩ = some (.int .i64 k) := by rw [cell_of_row w g 1 _ 93 (0, 0) hrow]; rfl
  have c2 : w.cell? ⟨g, 2, none⟩ = some (.int .i64 h) := by rw [cell_of_row w g 2 _ 93 (0, 0) hrow]; rfl
  have f1 := frozen_of_row w g 1 _ _ hrow
  have f2 := frozen_of_row w g 2 _ _ hrow
  have HR := Lib.hid hrow
  have HBT := Lib.hid hb
  have HG := Lib.hid hg
  clear hrow hb hg
  by_cases hlt : k < len
  · obtain ⟨b, off, rfl, hbB, hcell⟩ := HBT.out.2 (by omega)
    obtain ⟨z, hz, z0, z1⟩ := hcell k hlt
    have hne : b ≠ g := by have := HG.out; omega
    clear hcell
    go_enter Try.func76, Try.ntmps76
    go_wp2
    obtain ⟨h2, hh2⟩ : ∃ h2, h2 = wrap64 (wrap64 (h * 6364136223846793005) + 1442695040888963407) := ⟨_, rfl⟩
    rw [← hh2]
    have hb2 := bounds_i64 (n := h2) (by rw [hh2]; exact wrap64_wf _)
    clear hh2
    obtain ⟨hb20, hb21⟩ := hb2
    obtain ⟨W, hW⟩ : ∃ W, W = w.setCell ⟨g, 2, none⟩ (.int .i64 h2) := ⟨_, rfl⟩
    rw [← hW]
    obtain ⟨hrW, hgW⟩ := store2 HR.out (.int .i64 h2)
    rw [← hW] at hrW hgW
    clear c0 c1 c2 f1 f2
    have c0 : W.cell? ⟨g, 0, none⟩ = some (.slice (some ⟨b, off, none⟩) len cap) := by rw [cell_of_row W g 0 _ 93 (0, 0) hrW]; rfl
    have c1 : W.cell? ⟨g, 1, none⟩ = some (.int .i64 k) := by rw [cell_of_row W g 1 _ 93 (0, 0) hrW]; rfl
    have c2 : W.cell? ⟨g, 2, none⟩ = some (.int .i64 h2) := by rw [cell_of_row W g 2 _ 93 (0, 0) hrW]; rfl
    have f1 := frozen_of_row W g 1 _ _ hrW
    have hzW : W.cell? ⟨b, off + k, none⟩ = some (.int .u8 z) := by rw [hW, World.cell?_setCell_other _ _ _ _ (by simp)]; exact hz
    have HRW := Lib.hid hrW
    have HGW := Lib.hid hgW
    clear hrW hgW hW hz
    go_quiet (fail)
    go_wp2
    go_quiet (fail)
    go_wp2
    go_quiet (fail)
    go_wp2
    go_ret
    refine ⟨_, rfl, (and_le _ 255 (by omega) (by omega)).1, (and_le _ 255 (by omega) (by omega)).2, ?_, ?_⟩
    · exact ⟨HG.out, k + 1, h2, by omega, hb20, hb21, by rw [show ((k + 1 : Nat) : Int) = (k : Int) + 1 by omega]; exact (store1 (w := W.drewN _) HRW.out _).1⟩
    · exact grown_trans (grown_draw HGW.out _) (store1 (w := W.drewN _) HRW.out _).2
  · have c1' := c1
    go_enter Try.func76, Try.ntmps76
    go_wp2
    obtain ⟨h2, hh2⟩ : ∃ h2, h2 = wrap64 (wrap64 (h * 6364136223846793005) + 1442695040888963407) := ⟨_, rfl⟩
    rw [← hh2]
    have hb2 := bounds_i64 (n := h2) (by rw [hh2]; exact wrap64_wf _)
    clear hh2
    obtain ⟨hb20, hb21⟩ := hb2
    obtain ⟨W, hW⟩ : ∃ W, W = w.setCell ⟨g, 2, none⟩ (.int .i64 h2) := ⟨_, rfl⟩
    rw [← hW]
    obtain ⟨hrW, hgW⟩ := store2 HR.out (.int .i64 h2)
    rw [← hW] at hrW hgW
    clear c0 c1 c2 f1 f2 c1'
    have c0 : W.cell? ⟨g, 0, none⟩ = some (.slice a len cap) := by rw [cell_of_row W g 0 _ 93 (0, 0) hrW]; rfl
    have c1 : W.cell? ⟨g, 1, none⟩ = some (.int .i64 k) := by rw [cell_of_row W g 1 _ 93 (0, 0) hrW]; rfl
    have c2 : W.cell? ⟨g, 2, none⟩ = some (.int .i64 h2) := by rw [cell_of_row W g 2 _ 93 (0, 0) hrW]; rfl
    have f1 := frozen_of_row W g 1 _ _ hrW
    have HRW := Lib.hid hrW
    have HGW := Lib.hid hgW
    clear hrW hgW hW
    go_quiet (fail)
    go_wp2
    go_quiet (fail)
    go_wp2
    go_ret
    refine ⟨_, rfl, (and_le _ 255 (by omega) (by omega)).1, (and_le _ 255 (by omega) (by omega)).2, ?_, ?_⟩
    · exact ⟨HG.out, k, h2, by omega, hb20, hb21, HRW.out⟩
    · exact grown_draw (grown_draw HGW.out _) _

theorem CurAt.lt {B g : Nat} {a : Option Addr} {len cap : Nat} {w : World} (h : CurAt B g a len cap w) : B ≤ g ∧ g < w.heap.size := by
  obtain ⟨h1, k, x, _, _, _, hr⟩ := h
  refine ⟨h1, ?_⟩
  rcases Nat.lt_or_ge g w.heap.size with h2 | h2
  · exact h2
  · rw [Array.getElem?_eq_none h2] at hr; cases hr
theorem CurAt.alloc {B g : Nat} {a : Option Addr} {len cap : Nat} {w : World} (h : CurAt B g a len cap w) (o : Obj) : CurAt B g a len cap (w.alloc o) := by
  have hl := h.lt.2
  obtain ⟨h1, k, x, g1, g2, g3, hr⟩ := h
  exact ⟨h1, k, x, g1, g2, g3, by rw [heap_alloc_old w o hl]; exact hr⟩
theorem below_of_own {B g : Nat} {w w' : World} (hg : B ≤ g) (hw : B ≤ w.heap.size) (h : w.grownBy w' (some g)) : Below B w w' :=
  ⟨h.os, h.tape, h.output, h.size, fun k hk => h.block k (by omega) (by simp; omega)⟩

theorem below_any (m : Nat) (B g : Nat) (a : Option Addr) (len cap : Nat) (w : World) (hc : CurAt B g a len cap w) (hb : BytesAt B w a len) (h1 : 1 ≤ m) (h2 : m ≤ 256) :
    Calls Try.prog 96 #[.pointer (some ⟨g, 0, none⟩), .int .i64 m] w (Drawn ((m : Int) - 1) B g a len cap w) := by
  have HC := Lib.hid (byte_any B g a len cap w hc hb)
  clear hc hb
  go_enter Try.func96, Try.ntmps96
  go_wp2_with fail
  refine HC.out.mono ?_
  rintro e w' ⟨r, rfl, hr0, hr1, hcur, hgr⟩
  have HH := Lib.hid (And.intro hcur hgr)
  clear hcur hgr
  have hm0 : 0 ≤ r % (m : Int) := Int.emod_nonneg _ (by omega)
  have hm1 : r % (m : Int) < m := Int.emod_lt_of_pos _ (by omega)
  go_wp2
  go_ret
  exact ⟨_, rfl, hm0, by omega, HH.out.1, HH.out.2⟩

theorem made_cur {B : Nat} {a : Option Addr} {len cap : Nat} {w : World} (hB : B ≤ w.heap.size) (h : Int) (h0 : 0 ≤ h) (h1 : h ≤ 1073741823) : CurAt B w.heap.size a len cap (w.alloc (.cells #[.slice a len cap, .int .i64 0, .int .i64 h] 93)) :=
  ⟨hB, 0, h, by omega, by omega, by omega, heap_alloc_new w _⟩

def Num (w : World) (e : Ending) (w' : World) : Prop := ∃ n : Int, e = .returned (.int .i64 n) ∧ 0 ≤ n ∧ n ≤ 65535 ∧ Below w.heap.size w w'
def MadeAt (a : Option Addr) (len cap : Nat) (w : World) (e : Ending) (w' : World) : Prop :=
  e = .returned (.pointer (some ⟨w.heap.size, 0, none⟩)) ∧ CurAt w.heap.size w.heap.size a len cap w' ∧ Below w.heap.size w w'

/-- The cursor behind n drawn bytes. -/
theorem skip_any (a : Option Addr) (len cap n : Nat) (w : World) (hb : BytesAt w.heap.size w a len) (hn : n ≤ 1048576) :
    Calls Try.prog 58 #[.slice a len cap, .int .i64 n] w (MadeAt a len cap w) := by
  have HN := Lib.hid (new_any a len cap w _ hb)
  have HBT := Lib.hid hb
  clear hb
  obtain ⟨g, hg⟩ : ∃ g, g = w.heap.size := ⟨_, rfl⟩
  have HG := Lib.hid hg
  clear hg
  go_enter Try.func58, Try.ntmps58
  go_wp2_with fail
  refine HN.out.mono ?_
  rintro e w' ⟨h, rfl, h0, h1, hw⟩
  have hcur : CurAt g g a len cap w' := by rw [hw, HG.out]; exact made_cur (Nat.le_refl _) h h0 h1
  have hbel : Below g w w' := by rw [hw, HG.out]; exact (Below.refl _ _).alloc (Nat.le_refl _) _
  have HC1 := Lib.hid hcur
  have HB1 := Lib.hid hbel
  clear hcur hbel hw
  rw [← HG.out]
  go_wp2
  go_loopw [6] (fun i wr => ∃ k : Nat, k ≤ n ∧ i = .int .i64 k ∧ CurAt g g a len cap wr ∧ Below g w wr) (fun i _ => n - (intOf i).toNat)
  case atStart => exact ⟨0, by omega, rfl, HC1.out, HB1.out⟩
  case round =>
    obtain ⟨k, hk, rfl, hcur, hbel⟩ := hrel
    have HC := Lib.hid hcur
    have HB := Lib.hid hbel
    clear hcur hbel
    by_cases hlt : k < n
    · go_wp2_with fail
      refine (byte_any g g a len cap wr HC.out (by have h2 := HBT.out; rw [← HG.out] at h2; exact h2.below HB.out)).mono ?_
      rintro e w3 ⟨r, rfl, _, _, hcur3, hgr3⟩
      have HC3 := Lib.hid hcur3
      have HB3 := Lib.hid (HB.out.trans (below_of_own (Nat.le_refl g) (Nat.le_of_lt HC.out.lt.2) hgr3))
      clear hcur3 hgr3
      go_wp2
      go_roundw
      case rel => exact ⟨k + 1, by omega, by go_num, HC3.out, HB3.out⟩
      case measure => simp [intOf]; omega
    · go_wp2
      go_ret
      have h1 := HC.out
      have h2 := HB.out
      rw [HG.out] at h1 h2
      exact ⟨by rw [← HG.out]; rfl, h1, h2⟩

theorem num_any (a : Option Addr) (len cap n : Nat) (w : World) (hb : BytesAt w.heap.size w a len) (hn : n ≤ 1048576) :
    Calls Try.prog 33 #[.slice a len cap, .int .i64 n] w (Num w) := by
  have HN := Lib.hid (skip_any a len cap n w hb hn)
  have HBT := Lib.hid hb
  clear hb
  go_enter Try.func33, Try.ntmps33
  go_wp2_with fail
  refine HN.out.mono ?_
  rintro e w1 ⟨rfl, hcur1, hb1⟩
  have HC1 := Lib.hid hcur1
  have HB1 := Lib.hid hb1
  clear hcur1 hb1
  go_wp2_with fail
  refine (byte_any _ _ a len cap w1 HC1.out (HBT.out.below HB1.out)).mono ?_
  rintro e w2 ⟨r, rfl, r0, r1, hcur2, hgr2⟩
  have HC2 := Lib.hid hcur2
  have HB2 := Lib.hid (HB1.out.trans (below_of_own (Nat.le_refl _) HB1.out.size hgr2))
  clear hcur2 hgr2
  go_wp2_with fail
  refine (byte_any _ _ a len cap w2 HC2.out (HBT.out.below HB2.out)).mono ?_
  rintro e w3 ⟨q, rfl, q0, q1, hcur3, hgr3⟩
  have HB3 := Lib.hid (HB2.out.trans (below_of_own (Nat.le_refl _) HB2.out.size hgr3))
  clear hcur3 hgr3
  go_wp2
  go_ret
  exact ⟨_, rfl, by omega, by omega, HB3.out⟩
end Go.Proofs.Ytcppmcacjjjjeaa.Cur
