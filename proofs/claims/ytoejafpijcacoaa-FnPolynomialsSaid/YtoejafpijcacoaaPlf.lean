/-
  Helpers of the claims beside this text: products of polynomials: both sides.
-/
import Derived.Test.YtoejafpijcacoaaPle
import Derived.Test.YtoejafpijcacoaaMoves
namespace Go.Proofs.Ytoejafpijcacoaa.Rhy
open Go.RowKit
set_option linter.unusedVariables false
set_option linter.unusedSimpArgs false

/-- What a function that answers with a polynomial and a bool leaves. -/
def IbPart (zs : List Int) (q : Bool) (w : World) (e : Ending) (w' : World) : Prop :=
  ∃ a cap, e = .returned (.tuple #[.slice a zs.length cap, .bool q]) ∧ PRow w' w.heap.size w'.heap.size a zs.length cap zs ∧ Below w.heap.size w w'
def mulZ (xs ys : List Int) : List Int := trimL (muR xs ys xs.length)
theorem mulZ_len (xs ys : List Int) : (mulZ xs ys).length ≤ xs.length + ys.length := by
  unfold mulZ
  exact Nat.le_trans (trim_len _) (by rw [muR_len]; exact Nat.le_refl _)
theorem mulx_bd {xs ys : List Int} (hx : PolC xs) (hy : PolC ys) {k : Nat} (hk : k ≤ 40) (j : Nat) : Bd 41000000 (addK (muR xs ys k) k (co xs k) ys j) := by
  refine (addK_bd (muR_bd (pol_bds hx) (pol_bds hy) k) (pol_bds hy) (pol_bds hx k) k j).mono ?_
  have h2 : ((k * (1000 * 1000) : Nat) : Int) ≤ 40000000 := by have := Nat.mul_le_mul_right (1000 * 1000) hk; omega
  omega
theorem mulr_bd {xs ys : List Int} (hx : PolC xs) (hy : PolC ys) {k : Nat} (hk : k ≤ 40) : Bd 41000000 (muR xs ys k) := by
  refine (muR_bd (pol_bds hx) (pol_bds hy) k).mono ?_
  have h2 : ((k * (1000 * 1000) : Nat) : Int) ≤ 40000000 := by have := Nat.mul_le_mul_right (1000 * 1000) hk; omega
  omega
theorem mulz_int {xs ys : List Int} (hx : PolC xs) (hy : PolC ys) : AllInt (mulZ xs ys) := bd_int (M := 41000000) (fun p => by
  rw [mulZ, trim_eqv]
  exact mulr_bd hx hy hx.1 p) (by omega)


set_option maxHeartbeats 1000000 in
set_option maxRecDepth 100000 in
theorem times_any (a : Option Addr) (la ca : Nat) (xs : List Int) (b : Option Addr) (lb cb : Nat) (ys : List Int) (w : World) (hxa : IntsAt w a la xs) (hyb : IntsAt w b lb ys) (hx : PolC xs) (hy : PolC ys) :
    Calls Try.prog 52 #[.slice a la ca, .slice b lb cb] w (IPart (mulZ xs ys) w) := by
  have HS := Lib.hid hxa
  have HU := Lib.hid hyb
  have HPX := Lib.hid hx
  have HPY := Lib.hid hy
  have HLX := Lib.hid hxa.1
  have HLY := Lib.hid hyb.1
  have hlen : la ≤ 40 := by have := hx.1; have := hxa.1; omega
  have hlen2 : lb ≤ 40 := by have := hy.1; have := hyb.1; omega
  clear hxa hyb hx hy
  obtain ⟨i0, hi, hz0, hz1, hz2⟩ := info_parts infoInt
  have HI := Lib.hid (show _ ∧ _ ∧ _ ∧ _ from ⟨hi, hz0, hz1, hz2⟩)
  clear hi hz0 hz1 hz2
  obtain ⟨g, hg⟩ : ∃ g, g = w.heap.size := ⟨_, rfl⟩
  have HG := Lib.hid hg
  clear hg
  go_enter Try.func52, Try.ntmps52
  go_wp2_with (at_make; refine wpList_make_full _ rfl _ _ 55 rfl g 3 i0 (.int .i64 0) 1 Try.underlying55 HI.out.1 HI.out.2.1 HI.out.2.2.1 .i64 .i64 (la + lb) (la + lb) (la + lb) rfl rfl (by go_num) (by go_num) ?b2 ?b3 ?b4 ?_)
  case b2 => rw [HI.out.2.2.2]; omega
  case b3 => unfold maxLen; omega
  case b4 => have := HG.out; omega
  intro w1 hown hgrow
  have HOW := Lib.hid hown
  have HX : Hid (Below g w w1) := Lib.hid ((Below.refl g w).grown hgrow (by have := HG.out; omega) (by intro k hk; cases hk))
  clear hown hgrow
  rw [← HG.out]
  rw [← HG.out] at HOW
  have HA : Hid (w1.ownsRow g 3 1 (.slice (some ⟨g, 0, none⟩) (la + lb) (la + lb)) (la + lb) (ints (muR xs ys 0)) ∧ Below g w w1) := Lib.hid ⟨by
    have := HOW.out
    rw [toList_madeCells_one] at this
    rw [show muR xs ys 0 = List.replicate (xs.length + ys.length) 0 from rfl, HLX.out, HLY.out]
    simpa [ints] using this, HX.out⟩
  clear HOW HX
  go_wp2
  go_loopw [18] (fun i wr => ∃ k : Nat, k ≤ la ∧ i = .int .i64 k ∧ wr.ownsRow g 3 1 (.slice (some ⟨g, 0, none⟩) (la + lb) (la + lb)) (la + lb) (ints (muR xs ys k)) ∧ Below g w wr) (fun i _ => la - (intOf i).toNat)
  case atStart => exact ⟨0, by omega, rfl, HA.out⟩
  case round =>
    clear HA
    obtain ⟨k, hk, rfl, hat, hnx⟩ := hrel
    have HAT := Lib.hid hat
    have HNX := Lib.hid hnx
    clear hat hnx
    have HJ : Hid (IntsAt wr a la xs) := Lib.hid (HS.out.below (by rw [← HG.out]; exact HNX.out))
    by_cases hlt : k < la
    · obtain ⟨b1, off, z, rfl, hb, hs, hc, hz1, hz2⟩ := HJ.out.at hlt
      have HCO := Lib.hid (co_some hs)
      obtain ⟨hzb1, hzb2⟩ := HPX.out.2.2 z (List.mem_of_getElem? hs)
      have HAI : Hid (wr.ownsRow g 3 1 (.slice (some ⟨g, 0, none⟩) (la + lb) (la + lb)) (la + lb) (ints (addK (muR xs ys k) k z ys 0)) ∧ Below g w wr) := Lib.hid ⟨by rw [addK_zero]; exact HAT.out, HNX.out⟩
      clear hs
      go_wp2
      clear hc
      go_loopw [25] (fun i wr => ∃ j : Nat, j ≤ lb ∧ i = .int .i64 j ∧ wr.ownsRow g 3 1 (.slice (some ⟨g, 0, none⟩) (la + lb) (la + lb)) (la + lb) (ints (addK (muR xs ys k) k z ys j)) ∧ Below g w wr) (fun i _ => lb - (intOf i).toNat)
      case atStart => exact ⟨0, by omega, rfl, HAI.out⟩
      case round =>
        clear HAT HJ HAI HNX
        obtain ⟨j, hj, rfl, hat, hnx⟩ := hrel
        have HAT := Lib.hid hat
        have HNX := Lib.hid hnx
        clear hat hnx
        have HJ : Hid (IntsAt wr b lb ys) := Lib.hid (HU.out.below (by rw [← HG.out]; exact HNX.out))
        by_cases hlt2 : j < lb
        · obtain ⟨b', off', z', rfl, hb', hs, hc, hz1', hz2'⟩ := HJ.out.at hlt2
          obtain ⟨hyb1, hyb2⟩ := HPY.out.2.2 z' (List.mem_of_getElem? hs)
          have hcr := HAT.out.cellAt (k + j) (by omega)
          have hfr := HAT.out.frozenAt (k + j)
          obtain ⟨c, hcc⟩ : ∃ c, co (addK (muR xs ys k) k z ys j) (k + j) = c := ⟨_, rfl⟩
          have hll : k + j < (addK (muR xs ys k) k z ys j).length := by rw [addK_len, muR_len, HLX.out, HLY.out]; omega
          have hcv : wr.cell? ⟨g, k + j, none⟩ = some (.int .i64 c) := by
            rw [hcr, ints, List.getElem?_map, List.getElem?_eq_getElem hll, ← co_get hll, hcc]
            rfl
          have hcb : -41000000 ≤ c ∧ c ≤ 41000000 := by
            have := mulx_bd HPX.out HPY.out (k := k) (by have := HPX.out.1; have := HLX.out; omega) j (k + j)
            rw [HCO.out, hcc] at this
            exact this
          obtain ⟨P, hP⟩ : ∃ P, z * z' = P := ⟨_, rfl⟩
          have hPb : -1000000 ≤ P ∧ P ≤ 1000000 := by
            have := cmul_bd (A := 1000) (B := 1000) ⟨hzb1, hzb2⟩ ⟨hyb1, hyb2⟩
            rw [hP] at this
            omega
          have HCN := Lib.hid (show addK (muR xs ys k) k z ys (j + 1) = (addK (muR xs ys k) k z ys j).set (k + j) (c + P) by
            rw [addK_succ (by rw [muR_len, HLX.out, HLY.out]; omega), hcc, co_some hs, hP])
          obtain ⟨hcb1, hcb2⟩ := hcb
          obtain ⟨hPb1, hPb2⟩ := hPb
          clear hs hcr hcc hll
          go_wp2
          go_roundw
          case rel =>
            have hst := HAT.out.stored (k + j) (.int .i64 (c + P))
            rw [ints, ← List.map_set, ← HCN.out] at hst
            exact ⟨j + 1, by omega, by go_num, hst.1, HNX.out.setCell (Nat.le_refl _) _⟩
          case measure => simp [intOf]; omega
        · have e : j = lb := by omega
          have HE := Lib.hid (show addK (muR xs ys k) k z ys j = muR xs ys (k + 1) by rw [muR, HCO.out, e, ← HLY.out])
          clear e
          go_wp2
          go_roundw
          case rel => exact ⟨k + 1, by omega, by go_num, by rw [← HE.out]; exact HAT.out, HNX.out⟩
          case measure => simp [intOf]; omega
    · have e : k = xs.length := by have := HLX.out; omega
      subst e
      have HIN : Hid (IntsAt wr (some ⟨g, 0, none⟩) (la + lb) (muR xs ys xs.length)) := Lib.hid (intsAt_own HAT.out (bd_int (mulr_bd HPX.out HPY.out HPX.out.1) (by omega)))
      go_wp2_with fail
      refine (trim_impl _ _ _ _ _ HIN.out (by omega) (Nat.le_refl _)).mono ?_
      rintro e w' ⟨rfl, rfl⟩
      go_wp2
      go_ret
      refine ⟨some ⟨g, 0, none⟩, _, rfl, ?_, ?_⟩
      · rw [← HG.out]
        exact prow_own HAT.out 0 _ _ (by have h1 := mulZ_len xs ys; have := HLX.out; have := HLY.out; omega) (by rw [List.drop_zero]; exact (trim_is_take _).symm)
      · rw [← HG.out]
        exact HNX.out


set_option maxHeartbeats 1000000 in
set_option maxRecDepth 100000 in
theorem tim_yes_spec (a : Option Addr) (la ca : Nat) (xs : List Int) (b : Option Addr) (lb cb : Nat) (ys : List Int) (w : World) (hxa : IntsAt w a la xs) (hyb : IntsAt w b lb ys) (hx : PolC xs) (hy : PolC ys) :
    Calls Try.prog 36 #[.slice a la ca, .slice b lb cb] w (IbPart (mulZ xs ys) true w) := by
  have HS := Lib.hid hxa
  have HU := Lib.hid hyb
  have HPX := Lib.hid hx
  have HPY := Lib.hid hy
  have HLX := Lib.hid hxa.1
  have HLY := Lib.hid hyb.1
  have hlen : la ≤ 40 := by have := hx.1; have := hxa.1; omega
  have hlen2 : lb ≤ 40 := by have := hy.1; have := hyb.1; omega
  clear hxa hyb hx hy
  obtain ⟨i0, hi, hz0, hz1, hz2⟩ := info_parts infoInt
  have HI := Lib.hid (show _ ∧ _ ∧ _ ∧ _ from ⟨hi, hz0, hz1, hz2⟩)
  clear hi hz0 hz1 hz2
  obtain ⟨g, hg⟩ : ∃ g, g = w.heap.size := ⟨_, rfl⟩
  have HG := Lib.hid hg
  clear hg
  go_enter Try.func36, Try.ntmps36
  go_wp2_with fail
  refine (okp_spec a la ca xs _ HS.out (by omega) true ⟨fun _ => rfl, fun h => absurd HPX.out h⟩).mono ?_
  rintro e w' ⟨rfl, rfl⟩
  go_wp2_with fail
  refine (okp_spec b lb cb ys _ HU.out (by omega) true ⟨fun _ => rfl, fun h => absurd HPY.out h⟩).mono ?_
  rintro e w' ⟨rfl, rfl⟩
  go_wp2_with (at_make; refine wpList_make_full _ rfl _ _ 24 rfl g 3 i0 (.int .i64 0) 1 Try.underlying24 HI.out.1 HI.out.2.1 HI.out.2.2.1 .i64 .i64 (la + lb) (la + lb) (la + lb) rfl rfl (by go_num) (by go_num) ?b2 ?b3 ?b4 ?_)
  case b2 => rw [HI.out.2.2.2]; omega
  case b3 => unfold maxLen; omega
  case b4 => have := HG.out; omega
  intro w1 hown hgrow
  have HOW := Lib.hid hown
  have HX : Hid (Below g w w1) := Lib.hid ((Below.refl g w).grown hgrow (by have := HG.out; omega) (by intro k hk; cases hk))
  clear hown hgrow
  rw [← HG.out]
  rw [← HG.out] at HOW
  have HA : Hid (w1.ownsRow g 3 1 (.slice (some ⟨g, 0, none⟩) (la + lb) (la + lb)) (la + lb) (ints (muR xs ys 0)) ∧ Below g w w1) := Lib.hid ⟨by
    have := HOW.out
    rw [toList_madeCells_one] at this
    rw [show muR xs ys 0 = List.replicate (xs.length + ys.length) 0 from rfl, HLX.out, HLY.out]
    simpa [ints] using this, HX.out⟩
  clear HOW HX
  go_wp2
  go_loopw [27] (fun i wr => ∃ k : Nat, k ≤ la ∧ i = .int .i64 k ∧ wr.ownsRow g 3 1 (.slice (some ⟨g, 0, none⟩) (la + lb) (la + lb)) (la + lb) (ints (muR xs ys k)) ∧ Below g w wr) (fun i _ => la - (intOf i).toNat)
  case atStart => exact ⟨0, by omega, rfl, HA.out⟩
  case round =>
    clear HA
    obtain ⟨k, hk, rfl, hat, hnx⟩ := hrel
    have HAT := Lib.hid hat
    have HNX := Lib.hid hnx
    clear hat hnx
    have HJ : Hid (IntsAt wr a la xs) := Lib.hid (HS.out.below (by rw [← HG.out]; exact HNX.out))
    by_cases hlt : k < la
    · obtain ⟨b1, off, z, rfl, hb, hs, hc, hz1, hz2⟩ := HJ.out.at hlt
      have HCO := Lib.hid (co_some hs)
      obtain ⟨hzb1, hzb2⟩ := HPX.out.2.2 z (List.mem_of_getElem? hs)
      have HAI : Hid (wr.ownsRow g 3 1 (.slice (some ⟨g, 0, none⟩) (la + lb) (la + lb)) (la + lb) (ints (addK (muR xs ys k) k z ys 0)) ∧ Below g w wr) := Lib.hid ⟨by rw [addK_zero]; exact HAT.out, HNX.out⟩
      clear hs
      go_wp2
      clear hc
      go_loopw [34] (fun i wr => ∃ j : Nat, j ≤ lb ∧ i = .int .i64 j ∧ wr.ownsRow g 3 1 (.slice (some ⟨g, 0, none⟩) (la + lb) (la + lb)) (la + lb) (ints (addK (muR xs ys k) k z ys j)) ∧ Below g w wr) (fun i _ => lb - (intOf i).toNat)
      case atStart => exact ⟨0, by omega, rfl, HAI.out⟩
      case round =>
        clear HAT HJ HAI HNX
        obtain ⟨j, hj, rfl, hat, hnx⟩ := hrel
        have HAT := Lib.hid hat
        have HNX := Lib.hid hnx
        clear hat hnx
        have HJ : Hid (IntsAt wr b lb ys) := Lib.hid (HU.out.below (by rw [← HG.out]; exact HNX.out))
        by_cases hlt2 : j < lb
        · obtain ⟨b', off', z', rfl, hb', hs, hc, hz1', hz2'⟩ := HJ.out.at hlt2
          obtain ⟨hyb1, hyb2⟩ := HPY.out.2.2 z' (List.mem_of_getElem? hs)
          have hcr := HAT.out.cellAt (k + j) (by omega)
          have hfr := HAT.out.frozenAt (k + j)
          obtain ⟨c, hcc⟩ : ∃ c, co (addK (muR xs ys k) k z ys j) (k + j) = c := ⟨_, rfl⟩
          have hll : k + j < (addK (muR xs ys k) k z ys j).length := by rw [addK_len, muR_len, HLX.out, HLY.out]; omega
          have hcv : wr.cell? ⟨g, k + j, none⟩ = some (.int .i64 c) := by
            rw [hcr, ints, List.getElem?_map, List.getElem?_eq_getElem hll, ← co_get hll, hcc]
            rfl
          have hcb : -41000000 ≤ c ∧ c ≤ 41000000 := by
            have := mulx_bd HPX.out HPY.out (k := k) (by have := HPX.out.1; have := HLX.out; omega) j (k + j)
            rw [HCO.out, hcc] at this
            exact this
          obtain ⟨P, hP⟩ : ∃ P, z * z' = P := ⟨_, rfl⟩
          have hPb : -1000000 ≤ P ∧ P ≤ 1000000 := by
            have := cmul_bd (A := 1000) (B := 1000) ⟨hzb1, hzb2⟩ ⟨hyb1, hyb2⟩
            rw [hP] at this
            omega
          have HCN := Lib.hid (show addK (muR xs ys k) k z ys (j + 1) = (addK (muR xs ys k) k z ys j).set (k + j) (c + P) by
            rw [addK_succ (by rw [muR_len, HLX.out, HLY.out]; omega), hcc, co_some hs, hP])
          obtain ⟨hcb1, hcb2⟩ := hcb
          obtain ⟨hPb1, hPb2⟩ := hPb
          clear hs hcr hcc hll
          go_wp2
          go_roundw
          case rel =>
            have hst := HAT.out.stored (k + j) (.int .i64 (c + P))
            rw [ints, ← List.map_set, ← HCN.out] at hst
            exact ⟨j + 1, by omega, by go_num, hst.1, HNX.out.setCell (Nat.le_refl _) _⟩
          case measure => simp [intOf]; omega
        · have e : j = lb := by omega
          have HE := Lib.hid (show addK (muR xs ys k) k z ys j = muR xs ys (k + 1) by rw [muR, HCO.out, e, ← HLY.out])
          clear e
          go_wp2
          go_roundw
          case rel => exact ⟨k + 1, by omega, by go_num, by rw [← HE.out]; exact HAT.out, HNX.out⟩
          case measure => simp [intOf]; omega
    · have e : k = xs.length := by have := HLX.out; omega
      subst e
      have HIN : Hid (IntsAt wr (some ⟨g, 0, none⟩) (la + lb) (muR xs ys xs.length)) := Lib.hid (intsAt_own HAT.out (bd_int (mulr_bd HPX.out HPY.out HPX.out.1) (by omega)))
      go_wp2_with fail
      refine (trim_spec _ _ _ _ _ HIN.out (by omega) (Nat.le_refl _)).mono ?_
      rintro e w' ⟨rfl, rfl⟩
      go_wp2
      go_ret2
      refine ⟨some ⟨g, 0, none⟩, _, rfl, ?_, ?_⟩
      · rw [← HG.out]
        exact prow_own HAT.out 0 _ _ (by have h1 := mulZ_len xs ys; have := HLX.out; have := HLY.out; omega) (by rw [List.drop_zero]; exact (trim_is_take _).symm)
      · rw [← HG.out]
        exact HNX.out


/-- What both answer. -/
def TimC (xs ys : List Int) : Prop := PolC xs ∧ PolC ys
noncomputable def timB (xs ys : List Int) : List Int := cZ (TimC xs ys) (mulZ xs ys)
noncomputable def timQ (xs ys : List Int) : Bool := cB (TimC xs ys)
theorem timB_int (xs ys : List Int) : AllInt (timB xs ys) := by
  unfold timB
  by_cases h : TimC xs ys
  · rw [cZ_yes h]; exact mulz_int h.1 h.2
  · rw [cZ_no h]; intro z hz; cases hz
theorem timB_len (xs ys : List Int) : (timB xs ys).length ≤ 80 := by
  unfold timB
  by_cases h : TimC xs ys
  · rw [cZ_yes h]; have := mulZ_len xs ys; have := h.1.1; have := h.2.1; omega
  · rw [cZ_no h]; simp
theorem ib_nil {c : Prop} {l : List Int} {w w' : World} (h : ¬ c) (hb : Below w.heap.size w w') : IbPart (cZ c l) (cB c) w (.returned (.tuple #[.slice none 0 0, .bool false])) w' := by
  rw [cZ_no h, cB_no h]
  exact ⟨none, 0, rfl, ⟨rfl, Nat.le_refl _, fun h => by simp at h⟩, hb⟩


set_option maxHeartbeats 400000 in
theorem tim_spec (a : Option Addr) (la ca : Nat) (xs : List Int) (b : Option Addr) (lb cb : Nat) (ys : List Int) (w : World) (hxa : IntsAt w a la xs) (hmx : xs.length ≤ 1048576) (hyb : IntsAt w b lb ys) (hmy : ys.length ≤ 1048576) :
    Calls Try.prog 36 #[.slice a la ca, .slice b lb cb] w (IbPart (timB xs ys) (timQ xs ys) w) := by
  have HS := Lib.hid hxa
  have HU := Lib.hid hyb
  have hm : la ≤ 1048576 := by have := hxa.1; omega
  have hm2 : lb ≤ 1048576 := by have := hyb.1; omega
  clear hxa hyb
  by_cases h : TimC xs ys
  · rw [show timB xs ys = mulZ xs ys from cZ_yes h, show timQ xs ys = true from cB_yes h]
    exact tim_yes_spec a la ca xs b lb cb ys w HS.out HU.out h.1 h.2
  · by_cases hx : PolC xs
    · have HY := Lib.hid (show ¬ PolC ys from fun q => h ⟨hx, q⟩)
      have HX := Lib.hid hx
      have HC := Lib.hid h
      clear hx h
      go_enter Try.func36, Try.ntmps36
      go_wp2_with fail
      refine (okp_spec a la ca xs _ HS.out hm true ⟨fun _ => rfl, fun h => absurd HX.out h⟩).mono ?_
      rintro e w' ⟨rfl, rfl⟩
      go_wp2_with fail
      refine (okp_spec b lb cb ys _ HU.out hm2 false ⟨fun h => absurd h HY.out, fun _ => rfl⟩).mono ?_
      rintro e w' ⟨rfl, rfl⟩
      go_wp2
      go_ret2
      exact ib_nil HC.out (Below.refl _ _)
    · have HX := Lib.hid hx
      have HC := Lib.hid h
      clear hx h
      go_enter Try.func36, Try.ntmps36
      go_wp2_with fail
      refine (okp_spec a la ca xs _ HS.out hm false ⟨fun h => absurd h HX.out, fun _ => rfl⟩).mono ?_
      rintro e w' ⟨rfl, rfl⟩
      go_wp2
      go_ret2
      exact ib_nil HC.out (Below.refl _ _)


set_option maxHeartbeats 400000 in
theorem tim_impl (a : Option Addr) (la ca : Nat) (xs : List Int) (b : Option Addr) (lb cb : Nat) (ys : List Int) (w : World) (hxa : IntsAt w a la xs) (hmx : xs.length ≤ 1048576) (hyb : IntsAt w b lb ys) (hmy : ys.length ≤ 1048576) :
    Calls Try.prog 18 #[.slice a la ca, .slice b lb cb] w (IbPart (timB xs ys) (timQ xs ys) w) := by
  have HS := Lib.hid hxa
  have HU := Lib.hid hyb
  have hm : la ≤ 1048576 := by have := hxa.1; omega
  have hm2 : lb ≤ 1048576 := by have := hyb.1; omega
  clear hxa hyb
  by_cases h : TimC xs ys
  · rw [show timB xs ys = mulZ xs ys from cZ_yes h, show timQ xs ys = true from cB_yes h]
    have HPX := Lib.hid h.1
    have HPY := Lib.hid h.2
    clear h
    go_enter Try.func18, Try.ntmps18
    go_wp2_with fail
    refine (okp_impl a la ca xs _ HS.out hm true ⟨fun _ => rfl, fun h => absurd HPX.out h⟩).mono ?_
    rintro e w' ⟨rfl, rfl⟩
    go_wp2_with fail
    refine (okp_impl b lb cb ys _ HU.out hm2 true ⟨fun _ => rfl, fun h => absurd HPY.out h⟩).mono ?_
    rintro e w' ⟨rfl, rfl⟩
    go_wp2_with fail
    refine (times_any a la ca xs b lb cb ys _ HS.out HU.out HPX.out HPY.out).mono ?_
    rintro e w' ⟨a', c', rfl, hrow, hb'⟩
    have HR := Lib.hid hrow
    have HB := Lib.hid hb'
    clear hrow hb'
    go_wp2
    go_ret2
    exact ⟨a', c', rfl, HR.out, HB.out⟩
  · by_cases hx : PolC xs
    · have HY := Lib.hid (show ¬ PolC ys from fun q => h ⟨hx, q⟩)
      have HX := Lib.hid hx
      have HC := Lib.hid h
      clear hx h
      go_enter Try.func18, Try.ntmps18
      go_wp2_with fail
      refine (okp_impl a la ca xs _ HS.out hm true ⟨fun _ => rfl, fun h => absurd HX.out h⟩).mono ?_
      rintro e w' ⟨rfl, rfl⟩
      go_wp2_with fail
      refine (okp_impl b lb cb ys _ HU.out hm2 false ⟨fun h => absurd h HY.out, fun _ => rfl⟩).mono ?_
      rintro e w' ⟨rfl, rfl⟩
      go_wp2
      go_ret2
      exact ib_nil HC.out (Below.refl _ _)
    · have HX := Lib.hid hx
      have HC := Lib.hid h
      clear hx h
      go_enter Try.func18, Try.ntmps18
      go_wp2_with fail
      refine (okp_impl a la ca xs _ HS.out hm false ⟨fun h => absurd h HX.out, fun _ => rfl⟩).mono ?_
      rintro e w' ⟨rfl, rfl⟩
      go_wp2
      go_ret2
      exact ib_nil HC.out (Below.refl _ _)

end Go.Proofs.Ytoejafpijcacoaa.Rhy
