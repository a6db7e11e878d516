/-
  Helpers of the claims beside this text: StretchTiling of both sides.
-/
import Derived.Test.YtpgolnkhbnancaaSuh
namespace Go.Proofs.Ytpgolnkhbnancaa.Rhy
open Go.RowKit
set_option linter.unusedVariables false
set_option linter.unusedSimpArgs false

/-- For each number p: k p, and what follows it, r in all. -/
def widQ (k : Nat) (p : Int) (i : Nat) : List Int := (List.range i).map fun j => (k : Int) * p + ((j : Nat) : Int)
def widL (k r : Nat) (xs : List Int) : List Int := xs.flatMap fun p => widQ k p r
def widP (k r : Nat) (xs : List Int) (j : Nat) (z : Int) (i : Nat) : List Int := widL k r (xs.take j) ++ widQ k z i
theorem widP_zero (k r : Nat) (xs : List Int) (j : Nat) (z : Int) : widP k r xs j z 0 = widL k r (xs.take j) := by simp [widP, widQ]
theorem widP_snoc (k r : Nat) (xs : List Int) (j : Nat) (z : Int) (i : Nat) : widP k r xs j z (i + 1) = widP k r xs j z i ++ [(k : Int) * z + (i : Int)] := by
  unfold widP widQ
  rw [List.range_succ, List.map_append, List.append_assoc]
  rfl
theorem widP_all {k r : Nat} {xs : List Int} {j : Nat} {z : Int} (h : xs[j]? = some z) : widP k r xs j z r = widL k r (xs.take (j + 1)) := by
  unfold widP widL
  rw [List.take_add_one, h, List.flatMap_append]
  simp
theorem widL_len (k r : Nat) (xs : List Int) : (widL k r xs).length = xs.length * r := by
  unfold widL
  induction xs with
  | nil => simp
  | cons a xs ih => rw [List.flatMap_cons, List.length_append, ih, List.length_cons, Nat.add_mul]; simp [widQ]; omega
theorem widP_len {k r : Nat} {xs : List Int} {j : Nat} {z : Int} {i : Nat} (hi : i ≤ r) : (widP k r xs j z i).length ≤ (j + 1) * r := by
  unfold widP
  rw [List.length_append, widL_len]
  have h1 : (widQ k z i).length = i := by simp [widQ]
  have h2 : (xs.take j).length * r ≤ j * r := Nat.mul_le_mul_right _ (by simp; omega)
  rw [h1, Nat.add_mul]
  omega
def mulL (k : Nat) (xs : List Int) : List Int := xs.map fun p => (k : Int) * p
theorem widL_one (k : Nat) (xs : List Int) : widL k 1 xs = mulL k xs := by
  unfold widL mulL widQ
  induction xs with
  | nil => rfl
  | cons a xs ih => rw [List.flatMap_cons, ih]; simp [List.range_succ]
theorem mulL_snoc {k : Nat} {xs : List Int} {j : Nat} {z : Int} (h : xs[j]? = some z) : mulL k (xs.take (j + 1)) = mulL k (xs.take j) ++ [(k : Int) * z] := by
  unfold mulL
  rw [List.take_add_one, h, List.map_append]
  rfl
theorem kz_bd {k n : Nat} {z : Int} (hk : 1 ≤ k) (h : k * n ≤ 24) (h0 : 0 ≤ z) (h1 : z < n) : 0 ≤ (k : Int) * z ∧ (k : Int) * z + k ≤ 24 := by
  have e : (k : Int) * z + k = k * (z + 1) := by rw [Int.mul_add]; omega
  have h2 : (k : Int) * (z + 1) ≤ k * n := Int.mul_le_mul_of_nonneg_left (by omega) (by omega)
  have h3 : ((k * n : Nat) : Int) = (k : Int) * n := by simp
  have h4 := Int.mul_nonneg (show (0 : Int) ≤ k by omega) h0
  omega
theorem kn_bd {k n : Nat} (hn : 1 ≤ n) (h : k * n ≤ 24) : k ≤ 24 := Nat.le_trans (Nat.le_mul_of_pos_right k hn) h
theorem wid_int {n k r : Nat} {xs : List Int} (ho : Ok n xs) (hk : 1 ≤ k) (h : k * n ≤ 24) (hr : r ≤ k) : AllInt (widL k r xs) := by
  intro z hz
  unfold widL widQ at hz
  obtain ⟨p, hp, hz⟩ := List.mem_flatMap.1 hz
  obtain ⟨i, hi, rfl⟩ := List.mem_map.1 hz
  have hb := ok_range ho p hp
  have := kz_bd hk h hb.1 hb.2
  have := List.mem_range.1 hi
  omega
theorem wid_few {n k r : Nat} {xs : List Int} (ho : Ok n xs) (hk : 1 ≤ k) (h : k * n ≤ 24) (hr : r ≤ k) : (widL k r xs).length ≤ 576 := by
  rw [widL_len]
  have h1 := ok_len ho
  have h2 := kn_bd (n := n) (by have := ho.1; omega) h
  exact Nat.mul_le_mul h1 (show r ≤ 24 by omega)

set_option maxHeartbeats 1000000 in
theorem wid_any (n : Nat) (a : Option Addr) (len cap : Nat) (zs : List Int) (k r : Nat) (w : World) (h : IntsAt w a len zs) (hl : len ≤ 1048576) (ho : Ok n zs) (hk : 1 ≤ k) (hkn : k * n ≤ 24) (hr : r ≤ k) :
    Calls Try.prog 80 #[rhy n a len cap, .int .i64 k, .int .i64 r] w (RhyPost ((k * n : Nat) : Int) (widL k r zs) w) := by
  have HS := Lib.hid h
  have HO' := Lib.hid ho
  have hn1 : 1 ≤ n := by have := ho.1.1; omega
  have hn2 : n ≤ 24 := by have := ho.1.2; omega
  have hk24 := kn_bd hn1 hkn
  have hzl := ok_len ho
  have hmul : (k : Int) * (n : Int) = ((k * n : Nat) : Int) := by simp
  have HKN := Lib.hid hkn
  obtain ⟨N, hN⟩ : ∃ N, k * n = N := ⟨_, rfl⟩
  rw [hN] at hmul ⊢
  have hN24 : N ≤ 24 := by omega
  clear h ho hN
  obtain ⟨w1, hW⟩ : ∃ w1, w1 = (w.alloc (.cells #[.int .i64 n, .slice a len cap] 26)).alloc (.cells #[.int .i64 0, .slice none 0 0] 26) := ⟨_, rfl⟩
  have HW := Lib.hid hW
  have B1 := Lib.hid (show Below w.heap.size w w1 by rw [hW]; exact bel2 w _ _)
  have T1 := Lib.hid (show Two w1 w.heap.size (.int .i64 n) (.slice a len cap) by rw [hW]; exact (two_new w _ _ _).keep (bel1 _ _))
  have U1 := Lib.hid (show Box w1 (w.heap.size + 1) (.int .i64 0) (.slice none 0 0) 26 by
    rw [hW]
    have := box_new (w.alloc (.cells #[.int .i64 n, .slice a len cap] 26)) (.int .i64 0) (.slice none 0 0) 26
    simpa using this)
  have hz1 := U1.out.lt
  have HSZ := Lib.hid (show w1.heap.size = w.heap.size + 1 + 1 by rw [hW]; simp)
  clear hW
  go_enter Try.func80, Try.ntmps80
  go_wp2
  rw [← HW.out, ← HSZ.out]
  go_loopw [19] (fun i wr => ∃ b : Nat, b ≤ len ∧ i = .int .i64 b ∧ LstAt (N : Int) (widL k r (zs.take b)) w1 wr) (fun i _ => len - (intOf i).toNat)
  case atStart => exact ⟨0, by omega, rfl, lst_start _ w1⟩
  case round =>
    obtain ⟨b, hb, rfl, hat⟩ := hrel
    have HA := Lib.hid hat
    clear hat
    obtain ⟨wo, rfl⟩ : ∃ wo : World, wo = wr := ⟨_, rfl⟩
    have hxx : Below w1.heap.size w1 wo := by obtain ⟨_, _, _, _, h, _⟩ := HA.out; exact h
    have HI : Hid (IntsAt wo a len zs) := Lib.hid (HS.out.below (B1.out.trans (hxx.mono (by have := B1.out.size; omega))))
    obtain ⟨x1, x1a, x1b⟩ := (T1.out.keep hxx)
    clear hxx
    by_cases hlt : b < len
    · obtain ⟨g, off, z, rfl, hg, hs, hc, hz1', hz2⟩ := HI.out.at hlt
      obtain ⟨hz0, hzs⟩ := ok_at HO'.out hs
      obtain ⟨hkz0, hkz1⟩ := kz_bd hk HKN.out hz0 hzs
      have HAL := Lib.hid (widP_all (k := k) (r := r) hs)
      have HLN : Hid (∀ i, i ≤ r → (widP k r zs b z i).length ≤ 1048577) := Lib.hid (fun i hi => by
        have h1 := widP_len (k := k) (r := r) (xs := zs) (j := b) (z := z) (i := i) hi
        have h2 : (b + 1) * r ≤ 25 * 24 := Nat.mul_le_mul (by have := HS.out.1; omega) (by omega)
        omega)
      clear hs
      go_wp2
      go_loopw [24] (fun i wr => ∃ j : Nat, j ≤ r ∧ i = .int .i64 j ∧ LstAt (N : Int) (widP k r zs b z j) w1 wr) (fun i _ => r - (intOf i).toNat)
      case atStart => exact ⟨0, by omega, rfl, by rw [widP_zero]; exact HA.out⟩
      case round =>
        obtain ⟨j, hj, rfl, av, cv, hb0, hown, hnx, hsz⟩ := hrel
        have H0 := Lib.hid hb0
        have HO := Lib.hid hown
        have HX := Lib.hid hnx
        have HZ := Lib.hid hsz
        obtain ⟨c0, c1, f0, f1⟩ := H0.out.facts
        have lt0 := hb0.lt
        obtain ⟨y1, y1a, y1b⟩ := (T1.out.keep hnx)
        clear hb0 hown hnx hsz
        by_cases hjl : j < r
        · have HN := Lib.hid (widP_snoc k r zs b z j)
          obtain ⟨P, hP⟩ : ∃ P, widP k r zs b z j = P := ⟨_, rfl⟩
          have hpl := HLN.out j (by omega)
          rw [hP] at H0 HO HN c1 hpl
          have hv : wrap64 ((k : Int) * z) = (k : Int) * z := by unfold wrap64; omega
          have hv2 : wrap64 ((k : Int) * z + (j : Int)) = (k : Int) * z + (j : Int) := by unfold wrap64; omega
          obtain ⟨kz, hkz⟩ : ∃ kz, (k : Int) * z = kz := ⟨_, rfl⟩
          rw [hkz] at hkz0 hkz1 hv hv2 HN
          clear hP
          go_wp2_with (at_builtin; refine append_int rfl _ _ rfl (w1.heap.size + 1) _ P _ _ HO.out hpl HZ.out _ rfl rfl rfl ?_; intro a' c' w' hown' hb'; have HO2 := Lib.hid hown'; have HX2 := Lib.hid hb'; have hq := HX2.out.frozen (p := ⟨w1.heap.size, 1, none⟩) (by show w1.heap.size < w1.heap.size + 1; omega); have hq2 := HX2.out.cell (p := ⟨w1.heap.size, 1, none⟩) (by show w1.heap.size < w1.heap.size + 1; omega); clear hown' hb')
          go_roundw
          case rel =>
            refine ⟨j + 1, by omega, by go_num, ?_⟩
            rw [HN.out]
            have := lst_snoc H0.out HX.out HZ.out HO2.out HX2.out
            simpa using this
          case measure => simp [intOf]; omega
        · have HL : Hid (LstAt (N : Int) (widL k r (zs.take (b + 1))) w1 wr) := Lib.hid (by rw [← HAL.out, show r = j by omega]; exact ⟨av, cv, by rw [← show r = j by omega] at H0 HO ⊢; exact H0.out, by rw [← show r = j by omega] at HO ⊢; exact HO.out, HX.out, HZ.out⟩)
          go_wp2
          go_roundw
          case rel => exact ⟨b + 1, by omega, by go_num, HL.out⟩
          case measure => simp [intOf]; omega
    · have e : zs.take b = zs := List.take_of_length_le (by have := HS.out.1; omega)
      rw [e] at HA
      obtain ⟨L, hL⟩ : ∃ L, widL k r zs = L := ⟨_, rfl⟩
      rw [hL] at HA
      have HLL := Lib.hid hL
      obtain ⟨av, cv, hb0, hown, hnx, hsz⟩ := HA.out
      have H0 := Lib.hid hb0
      have HO := Lib.hid hown
      have HX := Lib.hid hnx
      obtain ⟨c0, c1, f0, f1⟩ := H0.out.facts
      have lt0 := hb0.lt
      obtain ⟨y1, y2, y3, y4⟩ := (U1.out.keep hnx U1.out.lt).facts
      have y5 := (U1.out.keep hnx U1.out.lt).lt
      have b1 := B1.out.size
      clear hb0 hown hnx hsz hL e HA
      go_wp2
      refine bodyPost_ret (v := rhy (N : Int) av L.length cv) (by simp [results, Try.results80, go_sem, *]) rfl ?_
      rw [HLL.out]
      refine ⟨av, cv, rfl, ?_, ?_⟩
      · exact own_base (ownsRow_setCell_below (ownsRow_setCell_below HO.out (by show w.heap.size + 1 < w1.heap.size + 1; have := U1.out.lt; omega) _) (by show w.heap.size + 1 < w1.heap.size + 1; have := U1.out.lt; omega) _) (by omega)
      · exact ((B1.out.trans (HX.out.mono (by omega))).setCell (by simp) _).setCell (by simp) _
end Go.Proofs.Ytpgolnkhbnancaa.Rhy
