/-
  Helpers of the claims beside this text: FormatInt of the model and of the program both answer an integer's decimal text.
-/
import Derived.Test.YthlklnmnjbjdoaaDoorShelf
import Derived.Test.YthlklnmnjbjdoaaDoorRows
import Derived.WalkKit
import Derived.WalkSpells
import Derived.WalkLawsBesides
import Derived.Laws.BytesString
import Derived.Laws.Concat
import Derived.Lib.ItoaNum
import Derived.Lib.Hide
import Derived.IntWalk
import Derived.Deep.RegionWith
namespace Go.Proofs.YthlklnmnjbjdoaaDoor
open Go.RowKit
set_option linter.unusedVariables false

/-- A slice of one byte as a string. -/
theorem conv_at (W : World) (g : Nat) (c : Int) (hc : W.cell? ⟨g, 0, none⟩ = some (.int .u8 c)) :
    (convert 42 9 (.slice (some ⟨g, 0, none⟩) 1 1)).run Tryd.prog W = .ok (.string ⟨#[UInt8.ofNat c.toNat]⟩) W := by
  rw [run_convert_bytes_string _ 42 9 5 _ 1 1 Tryd.underlying42 Tryd.underlying5 Tryd.underlying9]
  rw [run_bytesToString _ _ 1 1 [c]]
  · rfl
  · refine run_loadCells_list _ _ [Value.int .u8 c] fun j v hj => ?_
    match j, hj with
    | 0, hj => simp at hj; subst hj; simpa [Addr.add] using hc

theorem app_bytes (a b : List UInt8) : ((⟨a.toArray⟩ : ByteArray) ++ ⟨b.toArray⟩) = ⟨(a ++ b).toArray⟩ := by
  apply ByteArray.ext
  simp
theorem ret_str {a b : ByteArray} (h : a = b) : Ending.returned (.string a) = .returned (.string b) := by rw [h]

def text (n : Int) : ByteArray := ⟨(Lib.itoa n).toArray⟩

theorem dec_small (u : Nat) (h : u < 10) : Lib.decDigits u = [UInt8.ofNat (48 + u)] := by rw [Lib.decDigits, dif_pos h]
theorem dec_big (u : Nat) (h : 10 ≤ u) : Lib.decDigits u = Lib.decDigits (u / 10) ++ [UInt8.ofNat (48 + u % 10)] := by rw [Lib.decDigits, dif_neg (by omega)]
theorem dec_len (u : Nat) (k : Nat) : u < 10 ^ k → (Lib.decDigits u).length ≤ k + 1 := by
  induction k generalizing u with
  | zero => intro h; rw [dec_small u (by simp at h; omega)]; simp
  | succ k ih =>
    intro h
    by_cases hs : u < 10
    · rw [dec_small u hs]; simp
    · rw [dec_big u (by omega), List.length_append]
      have := ih (u / 10) (by rw [Nat.pow_succ] at h; omega)
      simp
      omega
theorem text_size (n : Int) (h1 : -9223372036854775808 ≤ n) (h2 : n ≤ 9223372036854775807) : (text n).size ≤ 100 := by
  show (Lib.itoa n).length ≤ 100
  unfold Lib.itoa
  split
  · have := dec_len n.natAbs 20 (by have : (10 : Nat) ^ 20 = 100000000000000000000 := by decide
                                    omega)
    simp; omega
  · have := dec_len n.toNat 20 (by have : (10 : Nat) ^ 20 = 100000000000000000000 := by decide
                                   omega)
    omega
theorem text_neg_small (n : Int) (h1 : -10 < n) (h2 : n < 0) : text n = (⟨#[45]⟩ : ByteArray) ++ ⟨#[UInt8.ofNat (48 - n).toNat]⟩ := by
  unfold text Lib.itoa
  rw [if_pos h2, dec_small _ (by omega), show (48 - n).toNat = 48 + n.natAbs by omega]
  exact (app_bytes [45] [_]).symm
theorem text_neg_big (n q r : Int) (h : n ≤ -10) (hq : n = 10 * q + r) (h1 : -9 ≤ r) (h2 : r ≤ 0) : text n = text q ++ ⟨#[UInt8.ofNat (48 - r).toNat]⟩ := by
  have hq0 : q < 0 := by omega
  unfold text Lib.itoa
  rw [if_pos (by omega), if_pos hq0, dec_big _ (by omega), show n.natAbs / 10 = q.natAbs by omega, show 48 + n.natAbs % 10 = (48 - r).toNat by omega]
  rw [← List.cons_append]
  exact (app_bytes _ [_]).symm

theorem kept_new {w0 w' : World} {v : Value} {t : TypeId} (hb : Below ((w0.alloc (.cells #[v] t)).drew).heap.size (w0.alloc (.cells #[v] t)).drew w') : w'.cell? ⟨w0.heap.size, 0, none⟩ = some v :=
  (hb.cell (p := ⟨w0.heap.size, 0, none⟩) (by show w0.heap.size < (w0.heap.push _).size; simp)).trans (by simp)

theorem after_alloc {w w' : World} {o : Obj} (hb : Below ((w.alloc o).drew).heap.size (w.alloc o).drew w') : Below w.heap.size w w' :=
  (((Below.refl _ w).alloc (Nat.le_refl _) o).drew).trans (hb.mono (by show w.heap.size ≤ (w.heap.push _).size; simp))
theorem before_alloc {w w' : World} {o : Obj} (hb : Below w.drew.heap.size w.drew w') : Below w.heap.size w (w'.alloc o) :=
  ((Below.refl _ w).drew.trans hb).alloc hb.size o

theorem model_neg (k : Nat) : ∀ (n : Int) (w : World), -n ≤ k → n < 0 → -9223372036854775808 ≤ n →
    Calls Tryd.prog 11 #[.int .i64 n] w fun e w' => e = .returned (.string (text n)) ∧ Below w.heap.size w w' := by
  induction k with
  | zero => intro n w h1 h2; omega
  | succ k ih =>
    intro n w hk hn hlo
    obtain ⟨q, hq⟩ : ∃ q, n.tdiv 10 = q := ⟨_, rfl⟩
    obtain ⟨r, hr⟩ : ∃ r, n.tmod 10 = r := ⟨_, rfl⟩
    have hqr : n = 10 * q + r := by rw [← hq, ← hr]; exact (Int.mul_tdiv_add_tmod n 10).symm
    have hr1 : -9 ≤ r ∧ r ≤ 0 := by
      rw [← hr]
      have h1 := Int.tmod_lt_of_pos (-n) (show (0 : Int) < 10 by decide)
      have h2 := Int.tmod_nonneg 10 (show 0 ≤ -n by omega)
      rw [Int.neg_tmod] at h1 h2
      omega
    obtain ⟨hr1, hr2⟩ := hr1
    by_cases hs : -10 < n
    · have hq0 : q = 0 := by omega
      subst hq0
      have HT := Lib.hid (text_neg_small n hs hn)
      have hcv := fun (W : World) (g : Nat) (hc : W.cell? ⟨g, 0, none⟩ = some (.int .u8 (48 - n))) => conv_at W g (48 - n) hc
      clear ih
      have HQ := Lib.hid hqr
      clear hqr
      go_enter Tryd.func11, Tryd.ntmps11
      go_wp2
      go_ret
      exact ⟨ret_str HT.out.symm, (Below.refl _ _).alloc (Nat.le_refl _) _⟩
    · have hqn : q < 0 := by omega
      have HT := Lib.hid (text_neg_big n q r (by omega) hqr hr1 hr2)
      have hcv := fun (W : World) (g : Nat) (hc : W.cell? ⟨g, 0, none⟩ = some (.int .u8 (48 - r))) => conv_at W g (48 - r) hc
      have hts := text_size q (by omega) (by omega)
      have hb1 : -922337203685477580 ≤ q := by omega
      have hi : -q ≤ k := by omega
      have HI := Lib.hid (fun w => ih q w hi hqn (by omega))
      have HQ := Lib.hid hqr
      clear hqr ih
      go_enter Tryd.func11, Tryd.ntmps11
      go_wp2
      have hw1 : IntKind.i64.wrap q = q := IntWalk.i64_in _ (by omega)
      have hw2 : IntKind.i64.wrap (48 - r) = 48 - r := IntWalk.i64_in _ (by omega)
      have hw3 : IntKind.i64.wrap r = r := IntWalk.i64_in _ (by omega)
      have hw4 : IntKind.u8.wrap (48 - r) = 48 - r := IntWalk.u8_in _ (by omega)
      go_region_with ((go_at_call 11; ((with_reducible refine (HI.out _).mono ?_); rintro e w' ⟨rfl, hb⟩; (first | (have hcc := kept_new hb) | skip))))
      all_goals
        go_wp2
        go_ret
        refine ⟨ret_str HT.out.symm, ?_⟩
        first
          | exact after_alloc hb
          | exact before_alloc hb

/-- The digits gathered so far behind those of what is left. -/
theorem model_pos (n : Nat) (w : World) (hn : n ≤ 9223372036854775807) :
    Calls Tryd.prog 11 #[.int .i64 n] w fun e w' => e = .returned (.string (text n)) ∧ Below w.heap.size w w' := by
  have hneg : decide ((n : Int) < 0) = false := by simp
  have HT : Hid (Lib.itoa n = Lib.decDigits n) := Lib.hid (by unfold Lib.itoa; rw [if_neg (by omega)]; rfl)
  have HS := Lib.hid (show (Lib.decDigits n).length ≤ 100 from by
    have := dec_len n 20 (by have : (10 : Nat) ^ 20 = 100000000000000000000 := by decide
                             omega)
    omega)
  go_enter Tryd.func11, Tryd.ntmps11
  go_wp2
  go_loopw [0, 3] (fun i t wr => ∃ (m : Nat) (acc : List UInt8), m ≤ 9223372036854775807 ∧ i = .int .i64 m ∧ t = .string ⟨acc.toArray⟩ ∧ Lib.decDigits n = Lib.decDigits m ++ acc ∧ acc.length ≤ 100 ∧ Below w.heap.size w wr) (fun i _ _ => (intOf i).toNat)
  case atStart => exact ⟨n, [], hn, rfl, rfl, by simp, by simp, Below.refl _ _⟩
  case round =>
    obtain ⟨m, acc, hm, rfl, rfl, hd, hl, hb⟩ := hrel
    have HD := Lib.hid hd
    clear hd
    by_cases hp : 9 < m
    · obtain ⟨c, hc⟩ : ∃ c, c = UInt8.ofNat (48 + m % 10) := ⟨_, rfl⟩
      have hcv := conv_at (wr.alloc (.cells #[.int .u8 (48 + (m : Int) % 10)] 5)) wr.heap.size (48 + (m : Int) % 10) (by simp)
      rw [show ((48 + (m : Int) % 10)).toNat = 48 + m % 10 by omega, ← hc] at hcv
      have HN : Hid (Lib.decDigits n = Lib.decDigits (m / 10) ++ (c :: acc)) := Lib.hid (by rw [HD.out, dec_big m (by omega), ← hc, List.append_assoc]; rfl)
      have HL : Hid (acc.length + 1 ≤ 100) := Lib.hid (by
        have h1 := HS.out
        rw [HN.out, List.length_append] at h1
        simp at h1
        omega)
      clear hc
      go_wp2
      go_roundw
      case rel => exact ⟨m / 10, c :: acc, by omega, by go_num, by rw [show (⟨#[c]⟩ : ByteArray) = ⟨[c].toArray⟩ from rfl, app_bytes]; rfl, HN.out, HL.out, hb.alloc hb.size _⟩
      case measure => simp [intOf]; omega
    · obtain ⟨c, hc⟩ : ∃ c, c = UInt8.ofNat (48 + m) := ⟨_, rfl⟩
      have hcv := conv_at (wr.alloc (.cells #[.int .u8 (48 + (m : Int))] 5)) wr.heap.size (48 + (m : Int)) (by simp)
      rw [show ((48 + (m : Int))).toNat = 48 + m by omega, ← hc] at hcv
      have HN : Hid (text n = (⟨#[c]⟩ : ByteArray) ++ ⟨acc.toArray⟩) := Lib.hid (by
        unfold text
        rw [HT.out, HD.out, dec_small m (by omega), ← hc]
        exact (app_bytes [c] acc).symm)
      clear hc
      go_wp2
      go_ret
      exact ⟨ret_str HN.out.symm, hb.alloc hb.size _⟩

theorem model_format (n : Int) (w : World) (h1 : -9223372036854775808 ≤ n) (h2 : n ≤ 9223372036854775807) :
    Calls Tryd.prog 11 #[.int .i64 n] w fun e w' => e = .returned (.string (text n)) ∧ Below w.heap.size w w' := by
  by_cases h : n < 0
  · exact model_neg n.natAbs n w (by omega) h h1
  · obtain ⟨m, rfl⟩ : ∃ m : Nat, n = m := ⟨n.toNat, by omega⟩
    exact model_pos m w (by omega)

theorem below_grow {w : World} (k : Nat) (os : Array Obj) : Below w.heap.size w (Go.Sort.grow (w.drewN k) os) :=
  ⟨rfl, rfl, rfl, by show w.heap.size ≤ (w.heap ++ os).size; simp, fun i hi => by show (w.heap ++ os)[i]? = w.heap[i]?; rw [Array.getElem?_append_left hi]⟩

theorem program_format (n : Int) (w : World) (h1 : -9223372036854775808 ≤ n) (h2 : n ≤ 9223372036854775807) (htab : Lib.TabIs Tryd.prog w "internal/strconv.uint64pow10" .u64 Lib.pow10Tab) :
    Calls Tryd.prog 15 #[.int .i64 n] w fun e w' => e = .returned (.string (text n)) ∧ Below w.heap.size w w' := by
  have hc := (Tryd.strconv_Itoa n h1 h2 w htab).mono (fun e w' h => (show e = .returned (.string (text n)) ∧ Below w.heap.size w w' from ⟨h.1, by
    obtain ⟨_, k, os, rfl⟩ := h
    exact below_grow k os⟩))
  have HC := Lib.hid hc
  clear hc htab
  go_enter Tryd.func15, Tryd.ntmps15
  go_wp2_with (go_at_call 22; refine HC.out.mono ?_; rintro e w' ⟨rfl, hb⟩)
  go_ret
  exact ⟨rfl, by assumption⟩
end Go.Proofs.YthlklnmnjbjdoaaDoor
