/-
  Helpers of the claims beside this text: DifferencesOf and VectorOf of the model.
-/
import Derived.Test.YtcppmcacjjjjeaaIvm
namespace Go.Proofs.Ytcppmcacjjjjeaa.Rhy
open Go.RowKit
set_option linter.unusedVariables false

theorem cnt_len (m : Nat) (l : List Int) : (cntZ m l).length = m := by simp [cntZ]
theorem cnt_nil (m : Nat) : cntZ m [] = List.replicate m 0 := by
  unfold cntZ
  apply List.ext_getElem
  · simp
  · intro i h1 h2
    simp
theorem cnt_at {m : Nat} {l : List Int} {k : Nat} (h : k < m) : (cntZ m l)[k]? = some ((l.count (k : Int) : Nat) : Int) := by simp [cntZ, h]
theorem cnt_snoc {m : Nat} {l : List Int} {k : Nat} (h : k < m) : cntZ m (l ++ [(k : Int)]) = (cntZ m l).set k (((l.count (k : Int) : Nat) : Int) + 1) := by
  apply List.ext_getElem?
  intro i
  rw [List.getElem?_set]
  by_cases hi : i < m
  · rw [cnt_at hi]
    by_cases q : k = i
    · subst q
      rw [if_pos rfl, if_pos (by rw [cnt_len]; exact hi), List.count_append]
      simp
    · rw [if_neg q, cnt_at hi, List.count_append]
      have : List.count (i : Int) [(k : Int)] = 0 := List.count_eq_zero_of_not_mem (by simp; omega)
      rw [this]
      simp
  · rw [List.getElem?_eq_none (by rw [cnt_len]; omega)]
    by_cases q : k = i
    · omega
    · rw [if_neg q, List.getElem?_eq_none (by rw [cnt_len]; omega)]
theorem cnt_int {m : Nat} {l : List Int} (h : l.length ≤ 1000000) : AllInt (cntZ m l) := by
  intro z hz
  unfold cntZ at hz
  rw [List.mem_map] at hz
  obtain ⟨k, _, rfl⟩ := hz
  have := List.count_le_length (a := (k : Int)) (l := l)
  omega
def resQ (n : Int) (zs : List Int) (p : Int) (j : Nat) : List Int := (zs.take j).map fun q => remB (p - q) n
def resP (n : Int) (zs : List Int) (i : Nat) : List Int := (zs.take i).flatMap fun p => zs.map fun q => remB (p - q) n
theorem resQ_snoc {n : Int} {zs : List Int} {p : Int} {j : Nat} {q : Int} (h : zs[j]? = some q) : resQ n zs p (j + 1) = resQ n zs p j ++ [remB (p - q) n] := by
  unfold resQ
  rw [List.take_add_one, h]
  simp
theorem resP_snoc {n : Int} {zs : List Int} {i : Nat} {p : Int} (h : zs[i]? = some p) : resP n zs (i + 1) = resP n zs i ++ resQ n zs p zs.length := by
  unfold resP resQ
  rw [List.take_add_one, h, List.take_length, List.flatMap_append]
  simp
theorem resP_all (n : Int) (zs : List Int) : resP n zs zs.length = resL n zs := by unfold resP resL; rw [List.take_length]
theorem resP_len (n : Int) (zs : List Int) (i : Nat) : (resP n zs i).length ≤ i * zs.length := by
  unfold resP
  rw [List.length_flatMap]
  have e : ((zs.take i).map fun p => (zs.map fun q => remB (p - q) n).length) = (zs.take i).map fun _ => zs.length := List.map_congr_left fun p _ => by simp
  rw [e, sum_const]
  exact Nat.mul_le_mul_right _ (by simp; omega)
theorem resQ_len (n : Int) (zs : List Int) (p : Int) (j : Nat) : (resQ n zs p j).length ≤ zs.length := by simp [resQ]; omega
theorem dif_int {n : Int} {zs : List Int} (ho : Ok n zs) : AllInt (difZ n zs) := by
  rw [← cnt_dif ho]
  refine cnt_int ?_
  rw [res_len]
  have := ok_len ho
  exact Nat.le_trans (Nat.mul_le_mul this this) (by omega)

def DifAt (g n : Nat) (L : List Int) (a : Option Addr) (len cap : Nat) (w wr : World) : Prop :=
  Box wr g (.int .i64 n) (.slice a len cap) 25 ∧ wr.ownsRow (g + 1) 3 1 (.slice (some ⟨g + 1, 0, none⟩) n n) n (ints (cntZ n L)) ∧ Below g w wr ∧ g + 2 ≤ wr.heap.size

set_option maxHeartbeats 1000000 in
set_option maxRecDepth 100000 in
theorem difs0_spec (n : Nat) (a : Option Addr) (len cap : Nat) (zs : List Int) (w : World) (h : IntsAt w a len zs) (hm : len ≤ 1048576) (ho : Ok n zs) :
    Calls Try.prog 84 #[rhy n a len cap] w (IPost (difZ n zs) w) := by
  have HS := Lib.hid h
  have HO := Lib.hid ho
  have hn1 : 1 ≤ n := by have := ho.1.1; omega
  have hn24 : n ≤ 24 := by have := ho.1.2; omega
  have hlz : zs.length ≤ 24 := ok_len ho
  have hll : len = zs.length := HS.out.1.symm
  have HLL := Lib.hid hll
  have HLZ := Lib.hid hlz
  have hlen : len ≤ 24 := by omega
  clear h ho hll hlz
  obtain ⟨i0, hi, hz0, hz1, hz2⟩ := info_parts infoInt
  have HI := Lib.hid (show _ ∧ _ ∧ _ ∧ _ from ⟨hi, hz0, hz1, hz2⟩)
  clear hi hz0 hz1 hz2
  obtain ⟨g, hg⟩ : ∃ g, g = w.heap.size := ⟨_, rfl⟩
  have HG := Lib.hid hg
  clear hg
  obtain ⟨W0, hW⟩ : ∃ W0, W0 = w.alloc (.cells #[.int .i64 n, .slice a len cap] 25) := ⟨_, rfl⟩
  have HW := Lib.hid hW
  clear hW
  have HSZ := Lib.hid (show W0.heap.size = g + 1 by rw [HW.out, HG.out]; simp)
  have HT0 := Lib.hid (show Box W0 g (.int .i64 n) (.slice a len cap) 25 by rw [HW.out, HG.out]; exact box_new w _ _ _)
  have HBW := Lib.hid (show Below g w W0 by rw [HW.out, HG.out]; exact bel1 w _)
  go_enter Try.func84, Try.ntmps84
  go_wp2_with (at_make; refine wpList_make_full _ rfl _ _ 23 rfl (g + 1) 3 i0 (.int .i64 0) 1 Try.underlying23 HI.out.1 HI.out.2.1 HI.out.2.2.1 .i64 .i64 n n n rfl rfl rfl rfl ?b2 ?b3 ?b4 ?_)
  case b2 => rw [HI.out.2.2.2]; omega
  case b3 => unfold maxLen; omega
  case b4 => have := HSZ.out; rw [HW.out] at this; omega
  rw [← HW.out]
  intro w1 hown hgrow
  have HOW := Lib.hid hown
  have HX : Hid (Below (g + 1) W0 w1) := Lib.hid ((Below.refl (g + 1) W0).grown hgrow (by have := HSZ.out; omega) (by intro k hk; cases hk))
  clear hown hgrow
  rw [← HG.out]
  rw [← HG.out] at HOW
  obtain ⟨c0, c1, f0, f1⟩ := (HT0.out.keep HX.out (by omega)).facts
  have HA : Hid (DifAt g n (resP n zs 0) a len cap w w1) := Lib.hid ⟨HT0.out.keep HX.out (by omega), by
    have := HOW.out
    rw [toList_madeCells_one] at this
    rw [show resP n zs 0 = [] from rfl, cnt_nil]
    simpa [ints] using this, HBW.out.trans (HX.out.mono (by omega)), by have h3 := (HOW.out.lt (g + 1) rfl).2; omega⟩
  clear HOW HX
  go_wp2
  go_loopw [14] (fun i wr => ∃ k : Nat, k ≤ len ∧ i = .int .i64 k ∧ DifAt g n (resP n zs k) a len cap w wr) (fun i _ => len - (intOf i).toNat)
  case atStart => exact ⟨0, by omega, rfl, HA.out⟩
  case round =>
    clear HA c0 c1 f0 f1
    obtain ⟨k, hk, rfl, hat⟩ := hrel
    have HAT := Lib.hid hat
    clear hat
    obtain ⟨c0, c1, f0, f1⟩ := HAT.out.1.facts
    have lt0 := HAT.out.1.lt
    have HJ : Hid (IntsAt wr a len zs) := Lib.hid (HS.out.below (by rw [← HG.out]; exact HAT.out.2.2.1))
    by_cases hlt : k < len
    · obtain ⟨b, off, z, rfl, hb, hs, hc, hz1, hz2⟩ := HJ.out.at hlt
      obtain ⟨hz0, hzn⟩ := ok_at HO.out hs
      have HPN := Lib.hid (resP_snoc (n := n) hs)
      have HAI : Hid (DifAt g n (resP n zs k ++ resQ n zs z 0) (some ⟨b, off, none⟩) len cap w wr) := Lib.hid (by rw [show resQ n zs z 0 = [] from rfl, List.append_nil]; exact HAT.out)
      clear hs
      go_wp2
      clear c0 c1 f0 f1 lt0 hc
      go_loopw [21] (fun i wr => ∃ j : Nat, j ≤ len ∧ i = .int .i64 j ∧ DifAt g n (resP n zs k ++ resQ n zs z j) (some ⟨b, off, none⟩) len cap w wr) (fun i _ => len - (intOf i).toNat)
      case atStart => exact ⟨0, by omega, rfl, HAI.out⟩
      case round =>
        clear HAT HJ HAI
        obtain ⟨j, hj, rfl, hat⟩ := hrel
        have HAT := Lib.hid hat
        clear hat
        obtain ⟨c0, c1, f0, f1⟩ := HAT.out.1.facts
        have lt0 := HAT.out.1.lt
        have HJ : Hid (IntsAt wr (some ⟨b, off, none⟩) len zs) := Lib.hid (HS.out.below (by rw [← HG.out]; exact HAT.out.2.2.1))
        by_cases hlt2 : j < len
        · obtain ⟨b', off', z', he, hb', hs, hc, hz1', hz2'⟩ := HJ.out.at hlt2
          cases he
          obtain ⟨hz0', hzn'⟩ := ok_at HO.out hs
          obtain ⟨r, hr⟩ : ∃ r : Nat, remB (z - z') n = r := ⟨(remB (z - z') n).toNat, by have := remB_bd (z - z') n (by omega); omega⟩
          have hrn : r < n := by have := remB_bd (z - z') n (by omega); omega
          have HQN := Lib.hid (show resP n zs k ++ resQ n zs z (j + 1) = (resP n zs k ++ resQ n zs z j) ++ [(r : Int)] by rw [resQ_snoc hs, hr, List.append_assoc])
          have HR := Lib.hid hr
          have hcr := HAT.out.2.1.cellAt r (by omega)
          have hfr := HAT.out.2.1.frozenAt r
          obtain ⟨c, hcc⟩ : ∃ c : Nat, (resP n zs k ++ resQ n zs z j).count (r : Int) = c := ⟨_, rfl⟩
          have hcv : wr.cell? ⟨g + 1, r, none⟩ = some (.int .i64 c) := by
            rw [hcr, ints, List.getElem?_map, cnt_at hrn, hcc]
            rfl
          have hcb : c ≤ 1000 := by
            have h1 := List.count_le_length (a := (r : Int)) (l := resP n zs k ++ resQ n zs z j)
            have h2 := resP_len n zs k
            have h3 := resQ_len n zs z j
            have h4 := Nat.mul_le_mul (show k ≤ 24 by omega) HLZ.out
            rw [List.length_append] at h1
            have h5 := HLZ.out
            omega
          have HCN := Lib.hid (show cntZ n (resP n zs k ++ resQ n zs z (j + 1)) = (cntZ n (resP n zs k ++ resQ n zs z j)).set r ((c : Int) + 1) by rw [HQN.out, cnt_snoc hrn, hcc])
          clear hs hr hcr hcc
          go_wp2_with fail
          refine (mod_any (z - z') n _ (by omega) (by omega) (by omega) (by omega)).mono ?_
          rintro e w' ⟨rfl, rfl⟩
          rw [HR.out]
          go_wp2
          go_roundw
          case rel =>
            have hst := HAT.out.2.1.stored r (.int .i64 ((c : Int) + 1))
            rw [ints, ← List.map_set, ← HCN.out] at hst
            exact ⟨j + 1, by omega, by go_num, HAT.out.1.other _ (by omega), hst.1, HAT.out.2.2.1.setCell (by show g ≤ g + 1; omega) _, by simpa using HAT.out.2.2.2⟩
          case measure => simp [intOf]; omega
        · have e : j = len := by omega
          subst e
          go_wp2
          go_roundw
          case rel => exact ⟨k + 1, by omega, by go_num, by rw [HPN.out, ← HLL.out]; exact HAT.out⟩
          case measure => simp [intOf]; omega
    · have e : k = zs.length := by have := HLL.out; omega
      have HE := Lib.hid e
      clear e
      go_wp2
      go_ret
      have h1 := HAT.out
      rw [HE.out, resP_all] at h1
      have h2 := cnt_dif HO.out
      rw [show ((n : Int)).toNat = n by omega] at h2
      refine ⟨some ⟨g + 1, 0, none⟩, n, ?_, ?_, ?_⟩
      · rw [difZ_len]; simp
      · have h3 := h1.2.1
        rw [h2] at h3
        rw [difZ_len]
        rw [show ((n : Int)).toNat = n by omega, ← HG.out]
        exact own_base h3 (by omega)
      · rw [← HG.out]
        exact h1.2.2.1
/-- What both answer. -/
noncomputable def difB (s : Int) (zs : List Int) : List Int := cZ (Ok s zs) (difZ s zs)
theorem difB_int (s : Int) (zs : List Int) : AllInt (difB s zs) := by
  by_cases h : Ok s zs
  · unfold difB; rw [cZ_yes h]; exact dif_int h
  · unfold difB; rw [cZ_no h]; intro z hz; cases hz
theorem difB_len (s : Int) (zs : List Int) : (difB s zs).length ≤ 24 := by
  by_cases h : Ok s zs
  · unfold difB; rw [cZ_yes h, difZ_len]; have := h.1; omega
  · unfold difB; rw [cZ_no h]; simp
noncomputable def vecB (s : Int) (zs : List Int) : List Int := cZ (Ok s zs) (vecZ s zs)

theorem ipost_nil {c : Prop} {l : List Int} {w w' : World} (h : ¬ c) (hb : Below w.heap.size w w') : IPost (cZ c l) w (.returned (.slice none 0 0)) w' := by
  rw [cZ_no h]
  exact ⟨none, 0, rfl, World.ownsRow_nil _ _ _ _, hb⟩

set_option maxHeartbeats 400000 in
theorem difs_spec (s : Int) (a : Option Addr) (len cap : Nat) (zs : List Int) (w : World) (h : IntsAt w a len zs) (hm : zs.length ≤ 1048576) :
    Calls Try.prog 38 #[rhy s a len cap] w (IPost (difB s zs) w) := by
  have HS := Lib.hid h
  have hl : len ≤ 1048576 := by have := h.1; omega
  clear h
  by_cases ho : Ok s zs
  · obtain ⟨n, rfl⟩ : ∃ n : Nat, s = n := ⟨s.toNat, by have := ho.1; omega⟩
    have HO := Lib.hid ho
    have HE : Hid (difB n zs = difZ n zs) := Lib.hid (cZ_yes ho)
    clear ho
    go_enter Try.func38, Try.ntmps38
    go_wp2_with fail
    refine (ok_yes n a len cap zs _ (HS.out.below (bel1 w _)) hl HO.out).mono ?_
    rintro e w1 ⟨rfl, hb1⟩
    have HB := Lib.hid ((bel1 w (.cells #[.int .i64 n, .slice a len cap] 25)).trans (hb1.mono (by simp)))
    have HT := Lib.hid ((two_new w (.int .i64 n) (.slice a len cap) 25).keep hb1)
    obtain ⟨t1, t1a, t1b⟩ := HT.out
    clear hb1
    go_wp2_with fail
    refine (difs0_spec n a len cap zs w1 (HS.out.below HB.out) hl HO.out).mono ?_
    rintro e w2 ⟨b, c, rfl, hown, hb⟩
    have HW := Lib.hid hown
    have HB2 := Lib.hid hb
    clear hown hb
    go_wp2
    go_ret
    rw [HE.out]
    exact ⟨b, c, rfl, own_base HW.out HB.out.size, HB.out.trans (HB2.out.mono HB.out.size)⟩
  · have HO := Lib.hid ho
    clear ho
    go_enter Try.func38, Try.ntmps38
    go_wp2_with fail
    refine (ok_no s a len cap zs _ (HS.out.below (bel1 w _)) hl HO.out).mono ?_
    rintro e w1 ⟨rfl, hb1⟩
    have HB := Lib.hid ((bel1 w (.cells #[.int .i64 s, .slice a len cap] 25)).trans (hb1.mono (by simp)))
    clear hb1
    go_wp2
    go_ret
    exact ipost_nil HO.out HB.out

/-- A cell of a list of integers. -/
theorem cell_at {w : World} {g o n : Nat} {l : List Int} (h : IntsAt w (some ⟨g, o, none⟩) n l) {k : Nat} (hk : k < n) : w.cell? ⟨g, o + k, none⟩ = some (.int .i64 (l[k]?.getD 0)) := by
  obtain ⟨b, off, z, e, hb, hs, hc, _⟩ := h.at hk
  cases e
  rw [hs]
  exact hc
theorem addr_at {w : World} {a : Option Addr} {n : Nat} {l : List Int} (h : IntsAt w a n l) (hn : 0 < n) : ∃ g o, a = some ⟨g, o, none⟩ := by
  obtain ⟨b, off, z, e, _⟩ := h.at hn
  exact ⟨b, off, e⟩
/-- The first j numbers of a vector. -/
def vecP (n : Int) (zs : List Int) (k : Nat) : List Int := (List.range k).map fun j => if 2 * (j + 1) = n.toNat then ((difAt n zs ((j + 1 : Nat) : Int) / 2 : Nat) : Int) else ((difAt n zs ((j + 1 : Nat) : Int) : Nat) : Int)
theorem vecP_snoc (n : Int) (zs : List Int) (k : Nat) : vecP n zs (k + 1) = vecP n zs k ++ [if 2 * (k + 1) = n.toNat then ((difAt n zs ((k + 1 : Nat) : Int) / 2 : Nat) : Int) else ((difAt n zs ((k + 1 : Nat) : Int) : Nat) : Int)] := by
  unfold vecP
  rw [List.range_succ, List.map_append]
  rfl
theorem vecP_len (n : Int) (zs : List Int) (k : Nat) : (vecP n zs k).length = k := by simp [vecP]
theorem dif_le {n : Int} {zs : List Int} (ho : Ok n zs) (i : Int) : difAt n zs i ≤ 24 := Nat.le_trans (com_le _ _) (ok_len ho)

set_option maxHeartbeats 1000000 in
theorem vec0_spec (n : Nat) (a : Option Addr) (len cap : Nat) (zs : List Int) (w : World) (h : IntsAt w a len zs) (hm : len ≤ 1048576) (ho : Ok n zs) :
    Calls Try.prog 86 #[rhy n a len cap] w (IPost (vecZ n zs) w) := by
  have HS := Lib.hid h
  have HO := Lib.hid ho
  have hn1 : 1 ≤ n := by have := ho.1.1; omega
  have hn24 : n ≤ 24 := by have := ho.1.2; omega
  clear h ho
  obtain ⟨g, hg⟩ : ∃ g, g = w.heap.size := ⟨_, rfl⟩
  have HG := Lib.hid hg
  clear hg
  go_enter Try.func86, Try.ntmps86
  go_wp2_with fail
  refine (difs0_spec n a len cap zs _ (HS.out.below (bel1 w _)) hm HO.out).mono ?_
  rintro e w1 ⟨b, c, rfl, hown, hb⟩
  have HD := Lib.hid (intsAt_own hown (dif_int HO.out))
  have HB := Lib.hid ((bel1 w (.cells #[.int .i64 n, .slice a len cap] 25)).trans (hb.mono (by simp)))
  have HT := Lib.hid ((two_new w (.int .i64 n) (.slice a len cap) 25).keep hb)
  have hdl : (difZ n zs).length = n := by rw [difZ_len]; omega
  have HDL := Lib.hid hdl
  clear hown hb
  rw [hdl] at HD ⊢
  clear hdl
  rw [← HG.out]
  obtain ⟨gd, od, rfl⟩ := addr_at HD.out (by omega)
  obtain ⟨m, hm2⟩ : ∃ m, n / 2 = m := ⟨_, rfl⟩
  have HM2 := Lib.hid hm2
  go_wp2
  go_loopw [4, 5] (fun v i wr => ∃ k : Nat, k ≤ m ∧ i = .int .i64 ((k : Int) + 1) ∧ VecAt (vecP n zs k) w1 wr v) (fun _ i _ => m + 1 - (intOf i).toNat)
  case atStart => exact ⟨0, by omega, rfl, vec_made w1⟩
  case round =>
    obtain ⟨k, hk, rfl, av, cv, rfl, hown, hnx, hsz⟩ := hrel
    have HO1 := Lib.hid hown
    have HX := Lib.hid hnx
    have HZ := Lib.hid hsz
    have HTr := Lib.hid (HT.out.keep (HX.out))
    rw [← HG.out] at HTr
    obtain ⟨t1, t1a, t1b⟩ := HTr.out
    clear hown hnx hsz
    have hmn : 2 * m ≤ n := by have := HM2.out; omega
    by_cases hlt : k < m
    · obtain ⟨D, hD⟩ : ∃ D, difAt n zs ((k + 1 : Nat) : Int) = D := ⟨_, rfl⟩
      have hcd := cell_at (HD.out.below HX.out) (show k + 1 < n by omega)
      rw [difZ_at (by omega), hD] at hcd
      have hcd' : wr.cell? ⟨gd, od + (k + 1), none⟩ = some (.int .i64 D) := hcd
      have hD24 : D ≤ 24 := by rw [← hD]; exact dif_le HO.out _
      have hsl : (vecP n zs k).length ≤ 1048577 := by rw [vecP_len]; omega
      have hle : decide ((k : Int) + 1 ≤ (n : Int) / 2) = true := by have := HM2.out; simp; omega
      have HSN := Lib.hid (vecP_snoc n zs k)
      rw [hD] at HSN
      clear hcd hD
      by_cases hmid : 2 * (k + 1) = n
      · have hmb : ((2 : Int) * ((k : Int) + 1) == (n : Int)) = true := by simp; omega
        have HSM : Hid (vecP n zs (k + 1) = vecP n zs k ++ [((D / 2 : Nat) : Int)]) := Lib.hid (by rw [HSN.out, if_pos (by omega)])
        clear HSN hmid
        go_wp2_with (at_builtin; refine append_int rfl _ _ rfl w1.heap.size _ (vecP n zs k) _ _ HO1.out hsl HZ.out _ rfl rfl rfl ?_; intro a' c' w' hown' hb'; have HO2 := Lib.hid hown'; have HX2 := Lib.hid hb'; clear hown' hb')
        go_roundw
        case rel =>
          refine ⟨k + 1, by omega, by go_num, ?_⟩
          rw [HSM.out]
          have := vec_snoc HX.out HZ.out HO2.out HX2.out
          simpa using this
        case measure => simp [intOf]; omega
      · have hmb : ((2 : Int) * ((k : Int) + 1) == (n : Int)) = false := by rw [beq_eq_false_iff_ne]; omega
        have HSM : Hid (vecP n zs (k + 1) = vecP n zs k ++ [((D : Nat) : Int)]) := Lib.hid (by rw [HSN.out, if_neg (by omega)])
        clear HSN hmid
        go_wp2_with (at_builtin; refine append_int rfl _ _ rfl w1.heap.size _ (vecP n zs k) _ _ HO1.out hsl HZ.out _ rfl rfl rfl ?_; intro a' c' w' hown' hb'; have HO2 := Lib.hid hown'; have HX2 := Lib.hid hb'; clear hown' hb')
        go_roundw
        case rel =>
          refine ⟨k + 1, by omega, by go_num, ?_⟩
          rw [HSM.out]
          have := vec_snoc HX.out HZ.out HO2.out HX2.out
          simpa using this
        case measure => simp [intOf]; omega
    · have e : k = m := by omega
      have hle : decide ((k : Int) + 1 ≤ (n : Int) / 2) = false := by have := HM2.out; simp; omega
      have HV : Hid (vecP n zs k = vecZ n zs) := Lib.hid (by unfold vecP vecZ; rw [e, ← HM2.out, show ((n : Int)).toNat = n by omega])
      clear e
      go_wp2
      go_ret
      rw [HV.out] at HO1 ⊢
      have h1 := HB.out.size
      exact ⟨av, cv, rfl, own_base HO1.out h1, HB.out.trans (HX.out.mono h1)⟩
set_option maxHeartbeats 400000 in
theorem vec_spec (s : Int) (a : Option Addr) (len cap : Nat) (zs : List Int) (w : World) (h : IntsAt w a len zs) (hm : zs.length ≤ 1048576) :
    Calls Try.prog 45 #[rhy s a len cap] w (IPost (vecB s zs) w) := by
  have HS := Lib.hid h
  have hl : len ≤ 1048576 := by have := h.1; omega
  clear h
  by_cases ho : Ok s zs
  · obtain ⟨n, rfl⟩ : ∃ n : Nat, s = n := ⟨s.toNat, by have := ho.1; omega⟩
    have HO := Lib.hid ho
    have HE : Hid (vecB n zs = vecZ n zs) := Lib.hid (cZ_yes ho)
    clear ho
    go_enter Try.func45, Try.ntmps45
    go_wp2_with fail
    refine (ok_yes n a len cap zs _ (HS.out.below (bel1 w _)) hl HO.out).mono ?_
    rintro e w1 ⟨rfl, hb1⟩
    have HB := Lib.hid ((bel1 w (.cells #[.int .i64 n, .slice a len cap] 25)).trans (hb1.mono (by simp)))
    have HT := Lib.hid ((two_new w (.int .i64 n) (.slice a len cap) 25).keep hb1)
    obtain ⟨t1, t1a, t1b⟩ := HT.out
    clear hb1
    go_wp2_with fail
    refine (vec0_spec n a len cap zs w1 (HS.out.below HB.out) hl HO.out).mono ?_
    rintro e w2 ⟨b, c, rfl, hown, hb⟩
    have HW := Lib.hid hown
    have HB2 := Lib.hid hb
    clear hown hb
    go_wp2
    go_ret
    rw [HE.out]
    exact ⟨b, c, rfl, own_base HW.out HB.out.size, HB.out.trans (HB2.out.mono HB.out.size)⟩
  · have HO := Lib.hid ho
    clear ho
    go_enter Try.func45, Try.ntmps45
    go_wp2_with fail
    refine (ok_no s a len cap zs _ (HS.out.below (bel1 w _)) hl HO.out).mono ?_
    rintro e w1 ⟨rfl, hb1⟩
    have HB := Lib.hid ((bel1 w (.cells #[.int .i64 s, .slice a len cap] 25)).trans (hb1.mono (by simp)))
    clear hb1
    go_wp2
    go_ret
    exact ipost_nil HO.out HB.out
theorem vec_int {n : Int} {zs : List Int} (ho : Ok n zs) : AllInt (vecZ n zs) := by
  intro z hz
  unfold vecZ at hz
  rw [List.mem_map] at hz
  obtain ⟨j, _, rfl⟩ := hz
  have := dif_le ho ((j + 1 : Nat) : Int)
  split <;> omega
theorem vecB_int (s : Int) (zs : List Int) : AllInt (vecB s zs) := by
  by_cases h : Ok s zs
  · unfold vecB; rw [cZ_yes h]; exact vec_int h
  · unfold vecB; rw [cZ_no h]; intro z hz; cases hz
theorem vecB_len (s : Int) (zs : List Int) : (vecB s zs).length ≤ 24 := by
  by_cases h : Ok s zs
  · unfold vecB; rw [cZ_yes h, vec_len]; have := h.1; omega
  · unfold vecB; rw [cZ_no h]; simp
end Go.Proofs.Ytcppmcacjjjjeaa.Rhy
