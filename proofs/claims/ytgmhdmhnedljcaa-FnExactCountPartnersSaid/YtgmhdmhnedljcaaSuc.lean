/-
  Helpers of the claims beside this text: how often each pulse is a sum: the model's and the program's.
-/
import Derived.Test.YtgmhdmhnedljcaaSma
import Derived.Test.YtgmhdmhnedljcaaHas
import Derived.Test.YtgmhdmhnedljcaaOne
namespace Go.Proofs.Ytgmhdmhnedljcaa.Rhy
open Go.RowKit
set_option linter.unusedVariables false
set_option linter.unusedSimpArgs false

def sumQ (n : Int) (ys : List Int) (p : Int) (j : Nat) : List Int := (ys.take j).map fun q => (p + q) % n
def sumP (n : Int) (xs ys : List Int) (i : Nat) : List Int := (xs.take i).flatMap fun p => ys.map fun q => (p + q) % n
theorem sumQ_snoc {n : Int} {ys : List Int} {p : Int} {j : Nat} {q : Int} (h : ys[j]? = some q) : sumQ n ys p (j + 1) = sumQ n ys p j ++ [(p + q) % n] := by
  unfold sumQ
  rw [List.take_add_one, h]
  simp
theorem sumP_snoc {n : Int} {xs ys : List Int} {i : Nat} {p : Int} (h : xs[i]? = some p) : sumP n xs ys (i + 1) = sumP n xs ys i ++ sumQ n ys p ys.length := by
  unfold sumP sumQ
  rw [List.take_add_one, h, List.take_length, List.flatMap_append]
  simp
theorem sumP_all (n : Int) (xs ys : List Int) : sumP n xs ys xs.length = sumL n xs ys := by unfold sumP sumL; rw [List.take_length]
theorem sumP_len (n : Int) (xs ys : List Int) (i : Nat) : (sumP n xs ys i).length ≤ i * ys.length := by
  unfold sumP
  rw [List.length_flatMap]
  have e : ((xs.take i).map fun p => (ys.map fun q => (p + q) % n).length) = (xs.take i).map fun _ => ys.length := List.map_congr_left fun p _ => by simp
  rw [e, sum_const]
  exact Nat.mul_le_mul_right _ (by simp; omega)
theorem sumQ_len (n : Int) (ys : List Int) (p : Int) (j : Nat) : (sumQ n ys p j).length ≤ ys.length := by simp [sumQ]; omega
def CntAt (g n : Nat) (L : List Int) (a : Option Addr) (la ca : Nat) (b : Option Addr) (lb cb : Nat) (w wr : World) : Prop :=
  Box wr g (.int .i64 n) (.slice a la ca) 28 ∧ Box wr (g + 1) (.int .i64 n) (.slice b lb cb) 28 ∧ wr.ownsRow (g + 2) 3 1 (.slice (some ⟨g + 2, 0, none⟩) n n) n (ints (cntZ n L)) ∧ Below g w wr ∧ g + 3 ≤ wr.heap.size
theorem cntS_int {n : Int} {xs ys : List Int} (hx : Ok n xs) (hy : Ok n ys) (m : Nat) : AllInt (cntZ m (sumL n xs ys)) := by
  refine cnt_int ?_
  rw [sumL_len]
  exact Nat.le_trans (Nat.mul_le_mul (ok_len hx) (ok_len hy)) (by omega)

set_option maxHeartbeats 1000000 in
set_option maxRecDepth 100000 in
theorem cnt0_spec (n : Nat) (a : Option Addr) (la ca : Nat) (xs : List Int) (b : Option Addr) (lb cb : Nat) (ys : List Int) (w : World) (hxa : IntsAt w a la xs) (hma : la ≤ 1048576) (hyb : IntsAt w b lb ys) (hmb : lb ≤ 1048576) (ho : Ok n xs) (hp : Ok n ys) :
    Calls Try.prog 35 #[rhy n a la ca, rhy n b lb cb] w (IPost (cntZ n (sumL n xs ys)) w) := by
  have HS := Lib.hid hxa
  have HU := Lib.hid hyb
  have HO := Lib.hid ho
  have HP := Lib.hid hp
  have hn1 : 1 ≤ n := by have := ho.1.1; omega
  have hn24 : n ≤ 24 := by have := ho.1.2; omega
  have hlx : xs.length ≤ 24 := ok_len ho
  have hly : ys.length ≤ 24 := ok_len hp
  have hll : la = xs.length := HS.out.1.symm
  have hll2 : lb = ys.length := HU.out.1.symm
  have HLL := Lib.hid hll
  have HLM := Lib.hid hll2
  have HLX := Lib.hid hlx
  have HLY := Lib.hid hly
  have hlen : la ≤ 24 := by omega
  have hlen2 : lb ≤ 24 := by omega
  clear hxa hyb ho hp hll hll2 hlx hly
  obtain ⟨i0, hi, hz0, hz1, hz2⟩ := info_parts infoInt
  have HI := Lib.hid (show _ ∧ _ ∧ _ ∧ _ from ⟨hi, hz0, hz1, hz2⟩)
  clear hi hz0 hz1 hz2
  obtain ⟨g, hg⟩ : ∃ g, g = w.heap.size := ⟨_, rfl⟩
  have HG := Lib.hid hg
  clear hg
  obtain ⟨W0, hW⟩ : ∃ W0, W0 = (w.alloc (.cells #[.int .i64 n, .slice a la ca] 28)).alloc (.cells #[.int .i64 n, .slice b lb cb] 28) := ⟨_, rfl⟩
  have HW := Lib.hid hW
  clear hW
  have HSZ := Lib.hid (show W0.heap.size = g + 2 by rw [HW.out, HG.out]; simp)
  have HT0 := Lib.hid (show Box W0 g (.int .i64 n) (.slice a la ca) 28 by rw [HW.out, HG.out]; exact (box_new w _ _ _).keep (bel1 _ _) (by simp))
  have HT1 := Lib.hid (show Box W0 (g + 1) (.int .i64 n) (.slice b lb cb) 28 by rw [HW.out, HG.out]; simpa using box_new (w.alloc (.cells #[.int .i64 n, .slice a la ca] 28)) (.int .i64 n) (.slice b lb cb) 28)
  have HBW := Lib.hid (show Below g w W0 by rw [HW.out, HG.out]; exact bel2 w _ _)
  go_enter Try.func35, Try.ntmps35
  go_wp2_with (at_make; refine wpList_make_full _ rfl _ _ 22 rfl (g + 2) 3 i0 (.int .i64 0) 1 Try.underlying22 HI.out.1 HI.out.2.1 HI.out.2.2.1 .i64 .i64 n n n rfl rfl rfl rfl ?b2 ?b3 ?b4 ?_)
  case b2 => rw [HI.out.2.2.2]; omega
  case b3 => unfold maxLen; omega
  case b4 => have := HSZ.out; rw [HW.out] at this; omega
  rw [← HW.out]
  intro w1 hown hgrow
  have HOW := Lib.hid hown
  have HX : Hid (Below (g + 2) W0 w1) := Lib.hid ((Below.refl (g + 2) W0).grown hgrow (by have := HSZ.out; omega) (by intro k hk; cases hk))
  clear hown hgrow
  rw [← HG.out]
  rw [← HG.out] at HOW
  obtain ⟨c0, c1, f0, f1⟩ := (HT0.out.keep HX.out (by omega)).facts
  have HA : Hid (CntAt g n (sumP n xs ys 0) a la ca b lb cb w w1) := Lib.hid ⟨HT0.out.keep HX.out (by omega), HT1.out.keep HX.out (by omega), by
    have := HOW.out
    rw [toList_madeCells_one] at this
    rw [show sumP n xs ys 0 = [] from rfl, cnt_nil]
    simpa [ints] using this, HBW.out.trans (HX.out.mono (by omega)), by have h3 := (HOW.out.lt (g + 2) rfl).2; omega⟩
  clear HOW HX
  go_wp2
  go_loopw [16] (fun i wr => ∃ k : Nat, k ≤ la ∧ i = .int .i64 k ∧ CntAt g n (sumP n xs ys k) a la ca b lb cb w wr) (fun i _ => la - (intOf i).toNat)
  case atStart => exact ⟨0, by omega, rfl, HA.out⟩
  case round =>
    clear HA c0 c1 f0 f1
    obtain ⟨k, hk, rfl, hat⟩ := hrel
    have HAT := Lib.hid hat
    clear hat
    obtain ⟨c0, c1, f0, f1⟩ := HAT.out.1.facts
    obtain ⟨d0, d1, e0, e1⟩ := HAT.out.2.1.facts
    have lt0 := HAT.out.1.lt
    have HJ : Hid (IntsAt wr a la xs) := Lib.hid (HS.out.below (by rw [← HG.out]; exact HAT.out.2.2.2.1))
    have HM : Hid (IntsAt wr b lb ys) := Lib.hid (HU.out.below (by rw [← HG.out]; exact HAT.out.2.2.2.1))
    by_cases hlt : k < la
    · obtain ⟨b1, off, z, rfl, hb, hs, hc, hz1, hz2⟩ := HJ.out.at hlt
      obtain ⟨hz0, hzn⟩ := ok_at HO.out hs
      have HPN := Lib.hid (sumP_snoc (n := n) (ys := ys) hs)
      have HAI : Hid (CntAt g n (sumP n xs ys k ++ sumQ n ys z 0) (some ⟨b1, off, none⟩) la ca b lb cb w wr) := Lib.hid (by rw [show sumQ n ys z 0 = [] from rfl, List.append_nil]; exact HAT.out)
      clear hs
      go_wp2
      clear c0 c1 f0 f1 d0 d1 e0 e1 lt0 hc
      go_loopw [23] (fun i wr => ∃ j : Nat, j ≤ lb ∧ i = .int .i64 j ∧ CntAt g n (sumP n xs ys k ++ sumQ n ys z j) (some ⟨b1, off, none⟩) la ca b lb cb w wr) (fun i _ => lb - (intOf i).toNat)
      case atStart => exact ⟨0, by omega, rfl, HAI.out⟩
      case round =>
        clear HAT HJ HAI HM
        obtain ⟨j, hj, rfl, hat⟩ := hrel
        have HAT := Lib.hid hat
        clear hat
        obtain ⟨c0, c1, f0, f1⟩ := HAT.out.1.facts
        have lt0 := HAT.out.1.lt
        have HJ : Hid (IntsAt wr b lb ys) := Lib.hid (HU.out.below (by rw [← HG.out]; exact HAT.out.2.2.2.1))
        by_cases hlt2 : j < lb
        · obtain ⟨b', off', z', rfl, hb', hs, hc, hz1', hz2'⟩ := HJ.out.at hlt2
          obtain ⟨hz0', hzn'⟩ := ok_at HP.out hs
          have hrb := em_bd (z + z') (show (1 : Int) ≤ n by omega)
          obtain ⟨r, hr⟩ : ∃ r : Nat, (z + z') % (n : Int) = r := ⟨((z + z') % (n : Int)).toNat, by omega⟩
          have hrn : r < n := by omega
          clear hrb
          have HQN := Lib.hid (show sumP n xs ys k ++ sumQ n ys z (j + 1) = (sumP n xs ys k ++ sumQ n ys z j) ++ [(r : Int)] by rw [sumQ_snoc hs, hr, List.append_assoc])
          have HR := Lib.hid hr
          have hcr := HAT.out.2.2.1.cellAt r (by omega)
          have hfr := HAT.out.2.2.1.frozenAt r
          obtain ⟨c, hcc⟩ : ∃ c : Nat, (sumP n xs ys k ++ sumQ n ys z j).count (r : Int) = c := ⟨_, rfl⟩
          have hcv : wr.cell? ⟨g + 2, r, none⟩ = some (.int .i64 c) := by
            rw [hcr, ints, List.getElem?_map, cnt_at hrn, hcc]
            rfl
          have hcb : c ≤ 1000 := by
            have h1 := List.count_le_length (a := (r : Int)) (l := sumP n xs ys k ++ sumQ n ys z j)
            have h2 := sumP_len n xs ys k
            have h3 := sumQ_len n ys z j
            have h4 := Nat.mul_le_mul (show k ≤ 24 by omega) HLY.out
            rw [List.length_append] at h1
            have h5 := HLY.out
            omega
          have HCN := Lib.hid (show cntZ n (sumP n xs ys k ++ sumQ n ys z (j + 1)) = (cntZ n (sumP n xs ys k ++ sumQ n ys z j)).set r ((c : Int) + 1) by rw [HQN.out, cnt_snoc hrn, hcc])
          clear hs hr hcr hcc
          have hq : Int.tmod (z + z') n = r := by rw [Int.tmod_eq_emod_of_nonneg (by omega)]; exact HR.out
          go_wp2
          go_roundw
          case rel =>
            have hst := HAT.out.2.2.1.stored r (.int .i64 ((c : Int) + 1))
            rw [ints, ← List.map_set, ← HCN.out] at hst
            exact ⟨j + 1, by omega, by go_num, HAT.out.1.other _ (by omega), HAT.out.2.1.other _ (by omega), hst.1, HAT.out.2.2.2.1.setCell (by show g ≤ g + 2; omega) _, by simpa using HAT.out.2.2.2.2⟩
          case measure => simp [intOf]; omega
        · have e : j = ys.length := by have := HLM.out; omega
          have HE := Lib.hid e
          clear e
          go_wp2
          go_roundw
          case rel => exact ⟨k + 1, by omega, by go_num, by rw [HPN.out, ← HE.out]; exact HAT.out⟩
          case measure => simp [intOf]; omega
    · have e : k = xs.length := by have := HLL.out; omega
      have HE := Lib.hid e
      clear e
      go_wp2
      go_ret
      have h1 := HAT.out
      rw [HE.out, sumP_all] at h1
      refine ⟨some ⟨g + 2, 0, none⟩, n, ?_, ?_, ?_⟩
      · rw [cnt_len]; rfl
      · have h3 := h1.2.2.1
        rw [cnt_len, ← HG.out]
        exact own_base h3 (by omega)
      · rw [← HG.out]
        exact h1.2.2.2.1


end Go.Proofs.Ytgmhdmhnedljcaa.Rhy

namespace Go.Proofs.Ytgmhdmhnedljcaa.Rhy
open Go.RowKit

/-- What both answer. -/
noncomputable def sumcB (s : Int) (xs : List Int) (t : Int) (ys : List Int) : List Int := cZ (Ok s xs ∧ Ok t ys ∧ s = t) (cntZ s.toNat (sumL s xs ys))
theorem sumcB_int (s : Int) (xs : List Int) (t : Int) (ys : List Int) : AllInt (sumcB s xs t ys) := by
  unfold sumcB
  by_cases h : (Ok s xs ∧ Ok t ys ∧ s = t)
  · rw [cZ_yes h]; exact cntS_int h.1 (by rw [h.2.2]; exact h.2.1) _
  · rw [cZ_no h]; intro z hz; cases hz
theorem sumcB_len (s : Int) (xs : List Int) (t : Int) (ys : List Int) : (sumcB s xs t ys).length ≤ 24 := by
  unfold sumcB
  by_cases h : (Ok s xs ∧ Ok t ys ∧ s = t)
  · rw [cZ_yes h, cnt_len]; have := h.1.1; omega
  · rw [cZ_no h]; simp



end Go.Proofs.Ytgmhdmhnedljcaa.Rhy

/-
  Helpers of the claims beside this text: the sum of two rhythms: the model's and the program's.
-/
namespace Go.Proofs.Ytgmhdmhnedljcaa.Rhy
open Go.RowKit
set_option linter.unusedVariables false
set_option linter.unusedSimpArgs false

/-- The pulses below k that a list holds. -/
def suP (L : List Int) (k : Nat) : List Int := ((List.range k).filter fun p => decide (0 < L.count ((p : Nat) : Int))).map fun p => ((p : Nat) : Int)
theorem suP_yes {L : List Int} {k : Nat} (h : 0 < L.count (k : Int)) : suP L (k + 1) = suP L k ++ [(k : Int)] := by
  unfold suP
  rw [List.range_succ, List.filter_append, List.map_append]
  congr 1
  rw [List.filter_cons_of_pos (by simpa using h)]
  rfl
theorem suP_no {L : List Int} {k : Nat} (h : ¬ 0 < L.count (k : Int)) : suP L (k + 1) = suP L k := by
  unfold suP
  rw [List.range_succ, List.filter_append, List.map_append]
  rw [List.filter_cons_of_neg (by simpa using h)]
  simp
theorem suP_len (L : List Int) (k : Nat) : (suP L k).length ≤ k := by
  unfold suP
  rw [List.length_map]
  exact Nat.le_trans (List.length_filter_le _ _) (by simp)
theorem suP_all (n : Nat) (xs ys : List Int) : suP (sumL n xs ys) n = suZ n xs ys := by
  unfold suP suZ ofZ
  rw [Int.toNat_natCast, List.filter_map]
  congr 1
  refine List.filter_congr fun p _ => ?_
  simp [Function.comp, List.count_pos_iff]
theorem su_int {n : Int} {xs ys : List Int} (h : 1 ≤ n ∧ n ≤ 24) : AllInt (suZ n xs ys) := fun z hz => by have := ok_range (su_ok h xs ys) z hz; omega
def SumAt (sz : Int) (l : List Int) (b0 : Nat) (w2 wr : World) : Prop :=
  ∃ av cv, Box wr b0 (.int .i64 sz) (.slice av l.length cv) 28 ∧ wr.ownsRow w2.heap.size 3 1 (.slice av l.length cv) l.length (ints l) ∧ Within b0 (b0 + 1) w2 wr
theorem Within.below {lo hi : Nat} {a w w' : World} (h : Within lo hi a w) (k : Below a.heap.size w w') : Within lo hi a w' :=
  ⟨k.os.trans h.os, k.tape.trans h.tape, k.output.trans h.output, Nat.le_trans h.size k.size, fun i h1 h2 => (k.block i h1).trans (h.block i h1 h2)⟩
theorem Within.down {lo hi B : Nat} {a w : World} (h : Within lo hi a w) (h1 : B ≤ lo) (h2 : B ≤ a.heap.size) : Below B a w := ⟨h.os, h.tape, h.output, h.size, fun i hi => h.block i (by omega) (.inl (by omega))⟩


end Go.Proofs.Ytgmhdmhnedljcaa.Rhy

namespace Go.Proofs.Ytgmhdmhnedljcaa.Rhy
open Go.RowKit

end Go.Proofs.Ytgmhdmhnedljcaa.Rhy
