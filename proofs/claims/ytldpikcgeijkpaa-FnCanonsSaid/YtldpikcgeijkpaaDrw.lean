/-
  Helpers of the claims beside this text: the cursor over bytes by which the laws draw numbers and texts: it ends, and what it draws lies in its bounds.
-/
import Derived.Test.YtldpikcgeijkpaaRows
import Derived.WalkKit
import Derived.WalkSpells
import Derived.WalkLawsBesides
import Derived.WalkSmall
import Derived.RegionTactic
import Derived.ChangeAlike
import Derived.Deep.QuietTactic
import Derived.BigQuiet
import Derived.IntWalk
import Derived.Laws.Rows
import Derived.OpenShut
import Derived.Lib.Hide
import Derived.Test.YtldpikcgeijkpaaMoves
import Derived.Maps.AppendAt
import Derived.Test.YtldpikcgeijkpaaOut
namespace Go.Proofs.Ytldpikcgeijkpaa.Cur
open Go.RowKit
set_option linter.unusedVariables false

theorem and_mask (x : Int) (m : Nat) (hm : m < 9223372036854775808) : 0 ≤ bits .and .i64 x m ∧ bits .and .i64 x m ≤ m := by
  have h : ((BitVec.ofInt 64 x &&& BitVec.ofInt 64 (m : Int)).toNat) ≤ m := by
    rw [BitVec.toNat_and]
    refine Nat.le_trans Nat.and_le_right ?_
    rw [BitVec.toNat_ofInt]
    omega
  have e : bits .and .i64 x m = ((BitVec.ofInt 64 x &&& BitVec.ofInt 64 (m : Int)).toNat : Int) := by
    show IntKind.i64.wrap _ = _
    exact IntWalk.i64_in _ ⟨by omega, by
      show ((BitVec.ofInt 64 x &&& BitVec.ofInt 64 (m : Int)).toNat : Int) ≤ _
      omega⟩
  rw [e]
  omega

theorem and_le (x m : Int) (h0 : 0 ≤ m) (hm : m < 9223372036854775808) : 0 ≤ bits .and .i64 x m ∧ bits .and .i64 x m ≤ m := by
  obtain ⟨k, rfl⟩ := Int.eq_ofNat_of_zero_le h0
  exact and_mask x k (by omega)

/-- A slice of bytes as it lies in memory, below block B. -/
def BytesAt (B : Nat) (w : World) (a : Option Addr) (len : Nat) : Prop :=
  len ≤ 1048576 ∧ (0 < len → ∃ b off, a = some ⟨b, off, none⟩ ∧ b < B ∧ ∀ j, j < len → ∃ z : Int, w.cell? ⟨b, off + j, none⟩ = some (.int .u8 z) ∧ 0 ≤ z ∧ z ≤ 255)
theorem BytesAt.below {B : Nat} {w w' : World} {a : Option Addr} {len : Nat} (h : BytesAt B w a len) (hb : Below B w w') : BytesAt B w' a len := by
  refine ⟨h.1, fun hp => ?_⟩
  obtain ⟨b, off, rfl, hlt, hc⟩ := h.2 hp
  refine ⟨b, off, rfl, hlt, fun j hj => ?_⟩
  obtain ⟨z, hz, h1, h2⟩ := hc j hj
  exact ⟨z, by rw [hb.cell (p := ⟨b, off + j, none⟩) hlt]; exact hz, h1, h2⟩

def Made (a : Option Addr) (len cap : Nat) (w : World) (e : Ending) (w' : World) : Prop :=
  ∃ h : Int, e = .returned (.pointer (some ⟨w.heap.size, 0, none⟩)) ∧ 0 ≤ h ∧ h ≤ 1073741823 ∧ w' = w.alloc (.cells #[.slice a len cap, .int .i64 0, .int .i64 h] 101)

set_option maxRecDepth 100000 in
theorem new_any (a : Option Addr) (len cap : Nat) (w : World) (B : Nat) (hc : BytesAt B w a len) : Calls Try.prog 82 #[.slice a len cap] w (Made a len cap w) := by
  have hl := hc.1
  have HC := Lib.hid hc
  clear hc
  go_enter Try.func82, Try.ntmps82
  go_wp2
  go_loop [3, 4] (fun h i => ∃ k : Nat, ∃ n : Int, k ≤ len ∧ i = .int .i64 k ∧ h = .int .i64 n ∧ 0 ≤ n ∧ n ≤ 1073741823) (fun _ i => len - (intOf i).toNat)
  case atStart => exact ⟨0, _, by omega, rfl, rfl, by omega, by omega⟩
  case round =>
    obtain ⟨k, n, hk, rfl, rfl, h0, h1⟩ := hrel
    by_cases hlt : k < len
    · by_cases h4 : k < 4000
      · obtain ⟨b, off, rfl, hb, hcell⟩ := HC.out.2 (by omega)
        obtain ⟨z, hz, z0, z1⟩ := hcell k hlt
        have hm := and_le (n * 157 + z + 7) 1073741823 (by omega) (by omega)
        obtain ⟨hm0, hm1⟩ := hm
        clear hcell
        go_wp2
        go_round
        case rel => exact ⟨k + 1, _, by omega, by go_num, rfl, hm0, hm1⟩
        case measure => simp [intOf]; omega
      · have h4' : decide ((k : Int) < 4000) = false := by simp; omega
        go_wp2
        go_ret
        exact ⟨n, rfl, h0, h1, rfl⟩
    · go_wp2
      go_ret
      exact ⟨n, rfl, h0, h1, rfl⟩

/-- The cursor in block g, over the bytes of a. -/
def CurAt (B g : Nat) (a : Option Addr) (len cap : Nat) (w : World) : Prop :=
  B ≤ g ∧ ∃ (k : Nat) (h : Int), k ≤ len ∧ -9223372036854775808 ≤ h ∧ h ≤ 9223372036854775807 ∧ w.heap[g]? = some (.cells #[.slice a len cap, .int .i64 k, .int .i64 h] 101 (0, 0))
def Drawn (m : Int) (B g : Nat) (a : Option Addr) (len cap : Nat) (w : World) (e : Ending) (w' : World) : Prop :=
  ∃ r : Int, e = .returned (.int .i64 r) ∧ 0 ≤ r ∧ r ≤ m ∧ CurAt B g a len cap w' ∧ w.grownBy w' (some g)

theorem store2 {w : World} {g : Nat} {s i h : Value} (hr : w.heap[g]? = some (.cells #[s, i, h] 101 (0, 0))) (v : Value) :
    (w.setCell ⟨g, 2, none⟩ v).heap[g]? = some (.cells #[s, i, v] 101 (0, 0)) ∧ w.grownBy (w.setCell ⟨g, 2, none⟩ v) (some g) := by
  refine ⟨by rw [heap_setCell_same w g 2 _ _ v hr]; rfl, ⟨rfl, rfl, rfl, by simp [World.setCell], fun k hk hne => heap_setCell_other w _ k v (by simpa [eq_comm] using hne)⟩⟩
theorem store1 {w : World} {g : Nat} {s i h : Value} (hr : w.heap[g]? = some (.cells #[s, i, h] 101 (0, 0))) (v : Value) :
    (w.setCell ⟨g, 1, none⟩ v).heap[g]? = some (.cells #[s, v, h] 101 (0, 0)) ∧ w.grownBy (w.setCell ⟨g, 1, none⟩ v) (some g) := by
  refine ⟨by rw [heap_setCell_same w g 1 _ _ v hr]; rfl, ⟨rfl, rfl, rfl, by simp [World.setCell], fun k hk hne => heap_setCell_other w _ k v (by simpa [eq_comm] using hne)⟩⟩

theorem grown_trans {a b c : World} {row : Option Nat} (h : a.grownBy b row) (k : b.grownBy c row) : a.grownBy c row :=
  ⟨k.os.trans h.os, k.tape.trans h.tape, k.output.trans h.output, Nat.le_trans h.size k.size, fun i hi hne => (k.block i (Nat.lt_of_lt_of_le hi h.size) hne).trans (h.block i hi hne)⟩
theorem grown_draw {a b : World} {row : Option Nat} (h : a.grownBy b row) (n : Nat) : a.grownBy (b.drewN n) row :=
  ⟨h.os, h.tape, h.output, h.size, h.block⟩

theorem byte_any (B g : Nat) (a : Option Addr) (len cap : Nat) (w : World) (hc : CurAt B g a len cap w) (hb : BytesAt B w a len) :
    Calls Try.prog 57 #[.pointer (some ⟨g, 0, none⟩)] w (Drawn 255 B g a len cap w) := by
  obtain ⟨hg, k, h, hk, hh0, hh1, hrow⟩ := hc
  have hl := hb.1
  have c0 : w.cell? ⟨g, 0, none⟩ = some (.slice a len cap) := by rw [cell_of_row w g 0 _ 101 (0, 0) hrow]; rfl
  have c1 : w.cell? ⟨g, 1, none⟩ = some (.int .i64 k) := by rw [cell_of_row w g 1 _ 101 (0, 0) hrow]; rfl
  have c2 : w.cell? ⟨g, 2, none⟩ = some (.int .i64 h) := by rw [cell_of_row w g 2 _ 101 (0, 0) hrow]; rfl
  have f1 := frozen_of_row w g 1 _ _ hrow
  have f2 := frozen_of_row w g 2 _ _ hrow
  have HR := Lib.hid hrow
  have HBT := Lib.hid hb
  have HG := Lib.hid hg
  clear hrow hb hg
  by_cases hlt : k < len
  · obtain ⟨b, off, rfl, hbB, hcell⟩ := HBT.out.2 (by omega)
    obtain ⟨z, hz, z0, z1⟩ := hcell k hlt
    have hne : b ≠ g := by have := HG.out; omega
    clear hcell
    go_enter Try.func57, Try.ntmps57
    go_wp2
    obtain ⟨h2, hh2⟩ : ∃ h2, h2 = wrap64 (wrap64 (h * 6364136223846793005) + 1442695040888963407) := ⟨_, rfl⟩
    rw [← hh2]
    have hb2 := bounds_i64 (n := h2) (by rw [hh2]; exact wrap64_wf _)
    clear hh2
    obtain ⟨hb20, hb21⟩ := hb2
    obtain ⟨W, hW⟩ : ∃ W, W = w.setCell ⟨g, 2, none⟩ (.int .i64 h2) := ⟨_, rfl⟩
    rw [← hW]
    obtain ⟨hrW, hgW⟩ := store2 HR.out (.int .i64 h2)
    rw [← hW] at hrW hgW
    clear c0 c1 c2 f1 f2
    have c0 : W.cell? ⟨g, 0, none⟩ = some (.slice (some ⟨b, off, none⟩) len cap) := by rw [cell_of_row W g 0 _ 101 (0, 0) hrW]; rfl
    have c1 : W.cell? ⟨g, 1, none⟩ = some (.int .i64 k) := by rw [cell_of_row W g 1 _ 101 (0, 0) hrW]; rfl
    have c2 : W.cell? ⟨g, 2, none⟩ = some (.int .i64 h2) := by rw [cell_of_row W g 2 _ 101 (0, 0) hrW]; rfl
    have f1 := frozen_of_row W g 1 _ _ hrW
    have hzW : W.cell? ⟨b, off + k, none⟩ = some (.int .u8 z) := by rw [hW, World.cell?_setCell_other _ _ _ _ (by simp)]; exact hz
    have HRW := Lib.hid hrW
    have HGW := Lib.hid hgW
    clear hrW hgW hW hz
    go_quiet (fail)
    go_wp2
    go_quiet (fail)
    go_wp2
    go_quiet (fail)
    go_wp2
    go_ret
    refine ⟨_, rfl, (and_le _ 255 (by omega) (by omega)).1, (and_le _ 255 (by omega) (by omega)).2, ?_, ?_⟩
    · exact ⟨HG.out, k + 1, h2, by omega, hb20, hb21, by rw [show ((k + 1 : Nat) : Int) = (k : Int) + 1 by omega]; exact (store1 (w := W.drewN _) HRW.out _).1⟩
    · exact grown_trans (grown_draw HGW.out _) (store1 (w := W.drewN _) HRW.out _).2
  · have c1' := c1
    go_enter Try.func57, Try.ntmps57
    go_wp2
    obtain ⟨h2, hh2⟩ : ∃ h2, h2 = wrap64 (wrap64 (h * 6364136223846793005) + 1442695040888963407) := ⟨_, rfl⟩
    rw [← hh2]
    have hb2 := bounds_i64 (n := h2) (by rw [hh2]; exact wrap64_wf _)
    clear hh2
    obtain ⟨hb20, hb21⟩ := hb2
    obtain ⟨W, hW⟩ : ∃ W, W = w.setCell ⟨g, 2, none⟩ (.int .i64 h2) := ⟨_, rfl⟩
    rw [← hW]
    obtain ⟨hrW, hgW⟩ := store2 HR.out (.int .i64 h2)
    rw [← hW] at hrW hgW
    clear c0 c1 c2 f1 f2 c1'
    have c0 : W.cell? ⟨g, 0, none⟩ = some (.slice a len cap) := by rw [cell_of_row W g 0 _ 101 (0, 0) hrW]; rfl
    have c1 : W.cell? ⟨g, 1, none⟩ = some (.int .i64 k) := by rw [cell_of_row W g 1 _ 101 (0, 0) hrW]; rfl
    have c2 : W.cell? ⟨g, 2, none⟩ = some (.int .i64 h2) := by rw [cell_of_row W g 2 _ 101 (0, 0) hrW]; rfl
    have f1 := frozen_of_row W g 1 _ _ hrW
    have HRW := Lib.hid hrW
    have HGW := Lib.hid hgW
    clear hrW hgW hW
    go_quiet (fail)
    go_wp2
    go_quiet (fail)
    go_wp2
    go_ret
    refine ⟨_, rfl, (and_le _ 255 (by omega) (by omega)).1, (and_le _ 255 (by omega) (by omega)).2, ?_, ?_⟩
    · exact ⟨HG.out, k, h2, by omega, hb20, hb21, HRW.out⟩
    · exact grown_draw (grown_draw HGW.out _) _

theorem CurAt.lt {B g : Nat} {a : Option Addr} {len cap : Nat} {w : World} (h : CurAt B g a len cap w) : B ≤ g ∧ g < w.heap.size := by
  obtain ⟨h1, k, x, _, _, _, hr⟩ := h
  refine ⟨h1, ?_⟩
  rcases Nat.lt_or_ge g w.heap.size with h2 | h2
  · exact h2
  · rw [Array.getElem?_eq_none h2] at hr; cases hr
theorem CurAt.alloc {B g : Nat} {a : Option Addr} {len cap : Nat} {w : World} (h : CurAt B g a len cap w) (o : Obj) : CurAt B g a len cap (w.alloc o) := by
  have hl := h.lt.2
  obtain ⟨h1, k, x, g1, g2, g3, hr⟩ := h
  exact ⟨h1, k, x, g1, g2, g3, by rw [heap_alloc_old w o hl]; exact hr⟩
theorem below_of_own {B g : Nat} {w w' : World} (hg : B ≤ g) (hw : B ≤ w.heap.size) (h : w.grownBy w' (some g)) : Below B w w' :=
  ⟨h.os, h.tape, h.output, h.size, fun k hk => h.block k (by omega) (by simp; omega)⟩

theorem below_any (m : Nat) (B g : Nat) (a : Option Addr) (len cap : Nat) (w : World) (hc : CurAt B g a len cap w) (hb : BytesAt B w a len) (h1 : 1 ≤ m) (h2 : m ≤ 256) :
    Calls Try.prog 79 #[.pointer (some ⟨g, 0, none⟩), .int .i64 m] w (Drawn ((m : Int) - 1) B g a len cap w) := by
  have HC := Lib.hid (byte_any B g a len cap w hc hb)
  clear hc hb
  go_enter Try.func79, Try.ntmps79
  go_wp2_with fail
  refine HC.out.mono ?_
  rintro e w' ⟨r, rfl, hr0, hr1, hcur, hgr⟩
  have HH := Lib.hid (And.intro hcur hgr)
  clear hcur hgr
  have hm0 : 0 ≤ r % (m : Int) := Int.emod_nonneg _ (by omega)
  have hm1 : r % (m : Int) < m := Int.emod_lt_of_pos _ (by omega)
  go_wp2
  go_ret
  exact ⟨_, rfl, hm0, by omega, HH.out.1, HH.out.2⟩

theorem made_cur {B : Nat} {a : Option Addr} {len cap : Nat} {w : World} (hB : B ≤ w.heap.size) (h : Int) (h0 : 0 ≤ h) (h1 : h ≤ 1073741823) : CurAt B w.heap.size a len cap (w.alloc (.cells #[.slice a len cap, .int .i64 0, .int .i64 h] 101)) :=
  ⟨hB, 0, h, by omega, by omega, by omega, heap_alloc_new w _⟩

def Num (w : World) (e : Ending) (w' : World) : Prop := ∃ n : Int, e = .returned (.int .i64 n) ∧ 0 ≤ n ∧ n ≤ 65535 ∧ Below w.heap.size w w'
def MadeAt (a : Option Addr) (len cap : Nat) (w : World) (e : Ending) (w' : World) : Prop :=
  e = .returned (.pointer (some ⟨w.heap.size, 0, none⟩)) ∧ CurAt w.heap.size w.heap.size a len cap w' ∧ Below w.heap.size w w'

/-- The cursor behind n drawn bytes. -/
theorem skip_any (a : Option Addr) (len cap n : Nat) (w : World) (hb : BytesAt w.heap.size w a len) (hn : n ≤ 1048576) :
    Calls Try.prog 53 #[.slice a len cap, .int .i64 n] w (MadeAt a len cap w) := by
  have HN := Lib.hid (new_any a len cap w _ hb)
  have HBT := Lib.hid hb
  clear hb
  obtain ⟨g, hg⟩ : ∃ g, g = w.heap.size := ⟨_, rfl⟩
  have HG := Lib.hid hg
  clear hg
  go_enter Try.func53, Try.ntmps53
  go_wp2_with fail
  refine HN.out.mono ?_
  rintro e w' ⟨h, rfl, h0, h1, hw⟩
  have hcur : CurAt g g a len cap w' := by rw [hw, HG.out]; exact made_cur (Nat.le_refl _) h h0 h1
  have hbel : Below g w w' := by rw [hw, HG.out]; exact (Below.refl _ _).alloc (Nat.le_refl _) _
  have HC1 := Lib.hid hcur
  have HB1 := Lib.hid hbel
  clear hcur hbel hw
  rw [← HG.out]
  go_wp2
  go_loopw [6] (fun i wr => ∃ k : Nat, k ≤ n ∧ i = .int .i64 k ∧ CurAt g g a len cap wr ∧ Below g w wr) (fun i _ => n - (intOf i).toNat)
  case atStart => exact ⟨0, by omega, rfl, HC1.out, HB1.out⟩
  case round =>
    obtain ⟨k, hk, rfl, hcur, hbel⟩ := hrel
    have HC := Lib.hid hcur
    have HB := Lib.hid hbel
    clear hcur hbel
    by_cases hlt : k < n
    · go_wp2_with fail
      refine (byte_any g g a len cap wr HC.out (by have h2 := HBT.out; rw [← HG.out] at h2; exact h2.below HB.out)).mono ?_
      rintro e w3 ⟨r, rfl, _, _, hcur3, hgr3⟩
      have HC3 := Lib.hid hcur3
      have HB3 := Lib.hid (HB.out.trans (below_of_own (Nat.le_refl g) (Nat.le_of_lt HC.out.lt.2) hgr3))
      clear hcur3 hgr3
      go_wp2
      go_roundw
      case rel => exact ⟨k + 1, by omega, by go_num, HC3.out, HB3.out⟩
      case measure => simp [intOf]; omega
    · go_wp2
      go_ret
      have h1 := HC.out
      have h2 := HB.out
      rw [HG.out] at h1 h2
      exact ⟨by rw [← HG.out]; rfl, h1, h2⟩

theorem num_any (a : Option Addr) (len cap n : Nat) (w : World) (hb : BytesAt w.heap.size w a len) (hn : n ≤ 1048576) :
    Calls Try.prog 15 #[.slice a len cap, .int .i64 n] w (Num w) := by
  have HN := Lib.hid (skip_any a len cap n w hb hn)
  have HBT := Lib.hid hb
  clear hb
  go_enter Try.func15, Try.ntmps15
  go_wp2_with fail
  refine HN.out.mono ?_
  rintro e w1 ⟨rfl, hcur1, hb1⟩
  have HC1 := Lib.hid hcur1
  have HB1 := Lib.hid hb1
  clear hcur1 hb1
  go_wp2_with fail
  refine (byte_any _ _ a len cap w1 HC1.out (HBT.out.below HB1.out)).mono ?_
  rintro e w2 ⟨r, rfl, r0, r1, hcur2, hgr2⟩
  have HC2 := Lib.hid hcur2
  have HB2 := Lib.hid (HB1.out.trans (below_of_own (Nat.le_refl _) HB1.out.size hgr2))
  clear hcur2 hgr2
  go_wp2_with fail
  refine (byte_any _ _ a len cap w2 HC2.out (HBT.out.below HB2.out)).mono ?_
  rintro e w3 ⟨q, rfl, q0, q1, hcur3, hgr3⟩
  have HB3 := Lib.hid (HB2.out.trans (below_of_own (Nat.le_refl _) HB2.out.size hgr3))
  clear hcur3 hgr3
  go_wp2
  go_ret
  exact ⟨_, rfl, by omega, by omega, HB3.out⟩
end Go.Proofs.Ytldpikcgeijkpaa.Cur

/-
  Helpers of the claims beside this text: the rhythms that the laws draw from their code: each is valid and no longer than asked.
-/
namespace Go.Proofs.Ytldpikcgeijkpaa.Rhy
open Go.RowKit
open Go.Proofs.Ytldpikcgeijkpaa.Cur
set_option linter.unusedVariables false

theorem once_any (m : Nat) (B g : Nat) (a : Option Addr) (len cap : Nat) (w : World) (hc : CurAt B g a len cap w) (hb : BytesAt B w a len) (h1 : 1 ≤ m) (h2 : m ≤ 256) :
    Calls Try.prog 68 #[.pointer (some ⟨g, 0, none⟩), .int .i64 m] w fun e w' => (∃ b : Bool, e = .returned (.bool b)) ∧ (CurAt B g a len cap w' ∧ w.grownBy w' (some g)) := by
  have HC := Lib.hid (below_any m B g a len cap w hc hb h1 h2)
  clear hc hb
  go_enter Try.func68, Try.ntmps68
  go_wp2_with fail
  refine HC.out.mono ?_
  rintro e w' ⟨r, rfl, hr0, hr1, hcur, hgr⟩
  have HH := Lib.hid (And.intro hcur hgr)
  clear hcur hgr
  go_wp2
  go_ret
  exact ⟨⟨_, rfl⟩, HH.out⟩

/-- A drawn rhythm: valid, of at most m pulses. -/
def DrawnR (m : Nat) (B g : Nat) (a : Option Addr) (len cap : Nat) (w : World) (e : Ending) (w' : World) : Prop :=
  ∃ (n : Nat) (b : Option Addr) (c : Nat) (zs : List Int), e = .returned (rhy n b zs.length c) ∧ Ok n zs ∧ n ≤ m ∧ w'.ownsRow w.heap.size 3 1 (.slice b zs.length c) zs.length (ints zs) ∧ CurAt B g a len cap w' ∧ w.grownBy w' (some g)
/-- Numbers below k that go up. -/
def Upto (k : Nat) (zs : List Int) : Prop := zs.Pairwise (· < ·) ∧ (∀ z ∈ zs, 0 ≤ z ∧ z < k) ∧ zs.length ≤ k
theorem upto_nil : Upto 0 [] := ⟨List.Pairwise.nil, (fun z h => by simp at h), Nat.le_refl _⟩
theorem upto_same {k : Nat} {zs : List Int} (h : Upto k zs) : Upto (k + 1) zs := ⟨h.1, fun z hz => by have := h.2.1 z hz; omega, Nat.le_succ_of_le h.2.2⟩
theorem upto_snoc {k : Nat} {zs : List Int} (h : Upto k zs) : Upto (k + 1) (zs ++ [(k : Int)]) := by
  refine ⟨?_, fun z hz => ?_, by simp; exact h.2.2⟩
  · rw [List.pairwise_append]
    refine ⟨h.1, by simp, fun x hx y hy => ?_⟩
    have := h.2.1 x hx
    simp at hy
    omega
  · rcases List.mem_append.1 hz with q | q
    · have := h.2.1 z q; omega
    · simp at q; omega
theorem upto_int {k : Nat} {zs : List Int} (h : Upto k zs) (hk : k ≤ 1000) : AllInt zs := fun z hz => by have := h.2.1 z hz; omega

/-- The rhythm in its box so far; its row lies neither in the cursor's block nor in the boxes. -/
def DrwAt (n k B g gb : Nat) (a : Option Addr) (len cap : Nat) (w w0 wr : World) : Prop :=
  ∃ (zs : List Int) (av : Option Addr) (cv : Nat), Upto k zs ∧ Box wr gb (.int .i64 n) (.slice av zs.length cv) 25 ∧ Box wr w.heap.size (.int .i64 0) (.slice none 0 0) 25 ∧
    wr.ownsRow (gb + 1) 3 1 (.slice av zs.length cv) zs.length (ints zs) ∧ CurAt B g a len cap wr ∧ BytesAt B wr a len ∧ w.grownBy wr (some g) ∧ gb + 1 ≤ wr.heap.size
theorem own_grownN {w w' : World} {g B : Nat} {v : Value} {n : Nat} {xs : List Value} {e : TypeId} {size : Nat} (h : w.ownsRow B e size v n xs) (hg : w.grownBy w' (some g)) (hB : g < B) : w'.ownsRow B e size v n xs := by
  cases hv : v.ownBlock with
  | none => exact h.kept hg (.inl hv)
  | some x => exact h.kept hg (.inr (by rw [hv]; intro q; have := (h.lt x hv).1; have := Option.some.inj q; omega))
theorem grown_below {g B : Nat} {w wr w' : World} (h : w.grownBy wr (some g)) (hb : Below B wr w') (hB : w.heap.size ≤ B) : w.grownBy w' (some g) :=
  ⟨hb.os.trans h.os, hb.tape.trans h.tape, hb.output.trans h.output, Nat.le_trans h.size hb.size, fun k hk hne => (hb.block k (by omega)).trans (h.block k hk hne)⟩
theorem cur_below {B g B' : Nat} {a : Option Addr} {len cap : Nat} {w w' : World} (h : CurAt B g a len cap w) (hb : Below B' w w') (hg : g < B') : CurAt B g a len cap w' := by
  obtain ⟨h1, k, x, h2, h3, h4, h5⟩ := h
  exact ⟨h1, k, x, h2, h3, h4, by rw [hb.block g hg]; exact h5⟩


/-- A drawn rhythm, seen from where the code lies. -/
def RhyMade (m : Nat) (w : World) (e : Ending) (w' : World) : Prop :=
  ∃ (n : Nat) (b : Option Addr) (c : Nat) (zs : List Int), e = .returned (rhy n b zs.length c) ∧ Ok n zs ∧ n ≤ m ∧ w'.ownsRow w.heap.size 3 1 (.slice b zs.length c) zs.length (ints zs) ∧ Below w.heap.size w w'

end Go.Proofs.Ytldpikcgeijkpaa.Rhy

/-
  Helpers of the claims beside this text: the rhythm of given size that a law draws from its code: it is valid.
-/
namespace Go.Proofs.Ytldpikcgeijkpaa.Rhy
open Go.RowKit
open Go.Proofs.Ytldpikcgeijkpaa.Cur
set_option linter.unusedVariables false

/-- The rhythm in its box so far. -/
def MofAt (n k B g gb rb : Nat) (a : Option Addr) (len cap : Nat) (w wr : World) : Prop :=
  ∃ (zs : List Int) (av : Option Addr) (cv : Nat), Upto k zs ∧ Box wr gb (.int .i64 n) (.slice av zs.length cv) 25 ∧ Box wr rb (.int .i64 0) (.slice none 0 0) 25 ∧
    wr.ownsRow (gb + 1) 3 1 (.slice av zs.length cv) zs.length (ints zs) ∧ CurAt B g a len cap wr ∧ BytesAt B wr a len ∧ Below w.heap.size w wr ∧ gb + 1 ≤ wr.heap.size

/-- A drawn rhythm of n pulses, seen from where the code lies. -/
def OfMade (n : Nat) (w : World) (e : Ending) (w' : World) : Prop :=
  ∃ (b : Option Addr) (c : Nat) (zs : List Int), e = .returned (rhy n b zs.length c) ∧ Ok n zs ∧ w'.ownsRow w.heap.size 3 1 (.slice b zs.length c) zs.length (ints zs) ∧ Below w.heap.size w w'
set_option maxHeartbeats 1000000 in
set_option maxRecDepth 100000 in
theorem mof_any (a : Option Addr) (len cap m n : Nat) (w : World) (hb : BytesAt w.heap.size w a len) (hm : m ≤ 1048576) (hn1 : 1 ≤ n) (hn2 : n ≤ 24) :
    Calls Try.prog 27 #[.slice a len cap, .int .i64 m, .int .i64 n] w (OfMade n w) := by
  have HB := Lib.hid hb
  clear hb
  obtain ⟨W0, hW⟩ : ∃ W0, W0 = w.alloc (.cells #[.int .i64 0, .slice none 0 0] 25) := ⟨_, rfl⟩
  have HW := Lib.hid hW
  have B0 := Lib.hid (show Below w.heap.size w W0 by rw [hW]; exact bel1 w _)
  have HX0 := Lib.hid (show Box W0 w.heap.size (.int .i64 0) (.slice none 0 0) 25 by rw [hW]; exact box_new w _ _ _)
  have hs0 : W0.heap.size = w.heap.size + 1 := by rw [hW]; simp
  have HS0 := Lib.hid hs0
  have HBT : Hid (BytesAt W0.heap.size W0 a len) := Lib.hid (by
    have h3 := HB.out.below B0.out
    exact ⟨h3.1, fun hp => by obtain ⟨b, off, e, hlt, hc⟩ := h3.2 hp; exact ⟨b, off, e, by omega, hc⟩⟩)
  clear hW hs0
  go_enter Try.func27, Try.ntmps27
  go_wp2_with fail
  rw [← HW.out]
  refine (skip_any a len cap m W0 HBT.out hm).mono ?_
  rintro e w1 ⟨rfl, hcur, hb1⟩
  have HC := Lib.hid hcur
  have HB1 := Lib.hid hb1
  clear hcur hb1
  have hge : W0.heap.size ≤ w1.heap.size := HB1.out.size
  have hz0 : w.heap.size < W0.heap.size := by have := HS0.out; omega
  have HX1 : Hid (Box w1 w.heap.size (.int .i64 0) (.slice none 0 0) 25) := Lib.hid (HX0.out.keep HB1.out hz0)
  obtain ⟨B, hB⟩ : ∃ B, W0.heap.size = B := ⟨_, rfl⟩
  rw [hB] at hge hz0
  have HC' : Hid (CurAt B B a len cap w1) := Lib.hid (by rw [← hB]; exact HC.out)
  have HBT' : Hid (BytesAt B w1 a len) := Lib.hid (by rw [← hB]; exact HBT.out.below HB1.out)
  have HG1 : Hid (Below w.heap.size w w1) := Lib.hid (B0.out.trans (HB1.out.mono (by omega)))
  have hgt : B < w1.heap.size := HC'.out.lt.2
  obtain ⟨gb, hgb⟩ : ∃ gb, gb = w1.heap.size := ⟨_, rfl⟩
  have HGB := Lib.hid hgb
  have hmm : max (1 : Int) (min (n : Int) 24) = (n : Int) := by omega
  have HMM := Lib.hid hmm
  have HA : Hid (MofAt n 0 B B gb w.heap.size a len cap w (w1.alloc (.cells #[.int .i64 n, .slice none 0 0] 25))) := Lib.hid ⟨[], none, 0, upto_nil, by rw [hgb]; exact box_new w1 _ _ _, HX1.out.keep (B := w1.heap.size) ((Below.refl _ _).alloc (Nat.le_refl _) _) (by omega), World.ownsRow_nil _ _ _ _, HC'.out.alloc _, HBT'.out.below ((Below.refl B w1).alloc (by omega) _), HG1.out.alloc (by omega) _, by rw [hgb]; simp⟩
  rw [← hgb] at hgt hge
  have HBB : Hid (W0.heap.size = B) := Lib.hid hB
  clear hgb hB hmm
  go_wp2
  rw [← HGB.out, HMM.out]
  simp only [HBB.out]
  clear HC HBT
  go_loopw [9] (fun i wr => ∃ k : Nat, k ≤ n ∧ i = .int .i64 k ∧ MofAt n k B B gb w.heap.size a len cap w wr) (fun i _ => n - (intOf i).toNat)
  case atStart => exact ⟨0, by omega, rfl, HA.out⟩
  case round =>
    clear HA
    obtain ⟨k, hk, rfl, zs, av, cv, hup, hbx, hb0, hown, hcur, hby, hgr, hsz⟩ := hrel
    have HUP := Lib.hid hup
    have HBX := Lib.hid hbx
    have HR0 := Lib.hid hb0
    have HO := Lib.hid hown
    have HG := Lib.hid hgr
    have HBT2 := Lib.hid hby
    have hzl := hup.2.2
    by_cases hlt : k < n
    · have HCUR := Lib.hid hcur
      have hgr2 := hcur.lt.2
      obtain ⟨p0, p1, p2, p3⟩ := hbx.facts
      have ltp := hbx.lt
      clear hup hbx hb0 hown hcur hby hgr
      go_wp2_with fail
      refine (once_any 2 B B a len cap wr HCUR.out HBT2.out (by omega) (by omega)).mono ?_
      rintro e w2 ⟨⟨b, rfl⟩, hcur2, hgr3⟩
      clear p0 p1 p2 p3 ltp
      have HBX2 := Lib.hid (show Box w2 gb (.int .i64 n) (.slice av zs.length cv) 25 by unfold Box; rw [hgr3.block gb (by omega) (by simp; omega)]; exact HBX.out)
      have HB02 := Lib.hid (show Box w2 w.heap.size (.int .i64 0) (.slice none 0 0) 25 by unfold Box; rw [hgr3.block w.heap.size (by omega) (by simp; omega)]; exact HR0.out)
      have HO2 := Lib.hid (own_grownN (g := B) HO.out hgr3 (by omega))
      have HCU2 := Lib.hid hcur2
      have HG2 := Lib.hid (show Below w.heap.size w w2 from HG.out.trans (below_of_own (by omega) (by omega) hgr3))
      have HBT3 := Lib.hid (HBT2.out.below (below_of_own (Nat.le_refl B) (by omega) hgr3))
      have hz2 : gb + 1 ≤ w2.heap.size := by have := hgr3.size; omega
      obtain ⟨q0, q1, q2, q3⟩ := HBX2.out.facts
      have ltb := HBX2.out.lt
      clear hcur2 hgr3
      cases b
      · go_wp2
        go_roundw
        case rel => exact ⟨k + 1, by omega, by go_num, zs, av, cv, upto_same HUP.out, HBX2.out, HB02.out, HO2.out, HCU2.out, HBT3.out, HG2.out, hz2⟩
        case measure => simp [intOf]; omega
      · go_wp2_with (at_builtin; refine append_int rfl _ _ rfl (gb + 1) _ zs k _ HO2.out (by omega) hz2 _ rfl rfl rfl ?_; intro a' c' w3 hown3 hb3; have HO3 := Lib.hid hown3; have HX3 := Lib.hid hb3; have hq := HX3.out.frozen (p := ⟨gb, 1, none⟩) (by show gb < gb + 1; omega); have hq2 := HX3.out.cell (p := ⟨gb, 1, none⟩) (by show gb < gb + 1; omega); clear hown3 hb3)
        go_roundw
        case rel =>
          refine ⟨k + 1, by omega, by go_num, zs ++ [(k : Int)], a', c', upto_snoc HUP.out, ?_, ?_, ?_, ?_, ?_, ?_, ?_⟩
          · have := (HBX2.out.keep HX3.out (by omega)).set1 (.slice a' (zs.length + 1) c')
            simpa using this
          · exact (HB02.out.keep HX3.out (by omega)).other _ (by omega)
          · exact ownsRow_setCell_below HO3.out (by show gb < gb + 1; omega) _
          · exact cur_below (cur_below HCU2.out HX3.out (by omega)) ((Below.refl gb w3).setCell (by show gb ≤ gb; omega) _) (by omega)
          · exact HBT3.out.below ((HX3.out.mono (by omega)).setCell (by show B ≤ gb; omega) _)
          · exact HG2.out.trans ((HX3.out.mono (B' := w.heap.size) (by omega)).setCell (by show w.heap.size ≤ gb; omega) _)
          · have := HX3.out.size; simp; omega
        case measure => simp [intOf]; omega
    · have e : k = n := by omega
      obtain ⟨q0, q1, q2, q3⟩ := hbx.facts
      obtain ⟨p0, p1, p2, p3⟩ := hb0.facts
      have lt0 := hb0.lt
      have lt1 := hbx.lt
      have HUN : Hid (Upto n zs) := Lib.hid (by rw [← e]; exact HUP.out)
      clear hup hbx hb0 hown hcur hby hgr e
      go_wp2
      refine bodyPost_ret (v := rhy n av zs.length cv) (by simp [results, Try.results27, go_sem, *]) rfl ⟨av, cv, zs, rfl, ok_of (by omega) (by omega) HUN.out.1 HUN.out.2.1, ?_, ?_⟩
      · exact own_base (ownsRow_setCell_below (ownsRow_setCell_below HO.out (by show w.heap.size < gb + 1; omega) _) (by show w.heap.size < gb + 1; omega) _) (by omega)
      · exact (HG.out.setCell (by simp) _).setCell (by simp) _
end Go.Proofs.Ytldpikcgeijkpaa.Rhy

/-
  Helpers of the claims beside this text: a rhythm in a new box.
-/
namespace Go.Proofs.Ytldpikcgeijkpaa.Rhy
open Go.RowKit
open Go.Proofs.Ytldpikcgeijkpaa.Cur
set_option linter.unusedVariables false

theorem bytes_up {B : Nat} {w w' : World} {a : Option Addr} {len : Nat} (h : BytesAt B w a len) (hb : Below B w w') (hB : B ≤ w'.heap.size) : BytesAt w'.heap.size w' a len := by
  have h3 := h.below hb
  exact ⟨h3.1, fun hp => by obtain ⟨b, off, e, hlt, hc⟩ := h3.2 hp; exact ⟨b, off, e, by omega, hc⟩⟩

/-- A new box that holds a rhythm. -/
abbrev putR (W : World) (s : Int) (a : Option Addr) (len cap : Nat) : World := W.alloc (.cells #[.int .i64 s, .slice a len cap] 25)
theorem putR_below (W : World) (s : Int) (a : Option Addr) (len cap : Nat) : Below W.heap.size W (putR W s a len cap) := bel1 W _
theorem putR_size (W : World) (s : Int) (a : Option Addr) (len cap : Nat) : (putR W s a len cap).heap.size = W.heap.size + 1 := by simp [putR]
theorem putR_two (W : World) (s : Int) (a : Option Addr) (len cap : Nat) : Two (putR W s a len cap) W.heap.size (.int .i64 s) (.slice a len cap) := two_new W _ _ _
theorem putR_box (W : World) (s : Int) (a : Option Addr) (len cap : Nat) : Box (putR W s a len cap) W.heap.size (.int .i64 s) (.slice a len cap) 25 := box_new W _ _ _
/-- What a box holds: a rhythm. -/
def RhAt (w : World) (b : Nat) (n : Nat) (a : Option Addr) (cap : Nat) (zs : List Int) : Prop := Box w b (.int .i64 n) (.slice a zs.length cap) 25 ∧ IntsAt w a zs.length zs
theorem RhAt.keep {w w' : World} {b n : Nat} {a : Option Addr} {cap : Nat} {zs : List Int} (h : RhAt w b n a cap zs) (hb : Below w.heap.size w w') : RhAt w' b n a cap zs := ⟨h.1.keep hb h.1.lt, h.2.below hb⟩
theorem rhAt_put {w' : World} {n : Nat} {a : Option Addr} {cap : Nat} {zs : List Int} {B : Nat} (h : w'.ownsRow B 3 1 (.slice a zs.length cap) zs.length (ints zs)) (hi : AllInt zs) : RhAt (putR w' n a zs.length cap) w'.heap.size n a cap zs :=
  ⟨putR_box _ _ _ _ _, (intsAt_own h hi).below (putR_below _ _ _ _ _)⟩
theorem ok_allInt {n : Int} {zs : List Int} (h : Ok n zs) : AllInt zs := fun z hz => by have := ok_range h z hz; have := h.1; omega
end Go.Proofs.Ytldpikcgeijkpaa.Rhy
