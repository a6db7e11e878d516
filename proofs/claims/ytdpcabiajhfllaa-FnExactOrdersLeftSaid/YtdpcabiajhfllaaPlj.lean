/-
  Helpers of the claims beside this text: the model's division and cyclotomic polynomials.
-/
import Derived.Test.YtdpcabiajhfllaaPli
import Derived.Test.YtdpcabiajhfllaaStp
namespace Go.Proofs.Ytdpcabiajhfllaa.Rhy
open Go.RowKit
set_option linter.unusedVariables false
set_option linter.unusedSimpArgs false

theorem prow_take {w : World} {lo : Nat} {a : Option Addr} {N M : Nat} {L : List Int} (h : w.ownsRow lo 3 1 (.slice a N M) N (ints L)) (n cap : Nat) (hn : n ≤ N) {l : List Int} (hl : L.take n = l) : PRow w lo w.heap.size a n cap l := by
  refine ⟨by rw [← hl, List.length_take, own_len h]; omega, Nat.le_refl _, fun hp => ?_⟩
  obtain ⟨_, a', cap', hv, hc⟩ := own_shape h
  obtain ⟨g, rfl, h1, h2, _⟩ := hc (by omega)
  simp at hv
  obtain ⟨rfl, rfl⟩ := hv
  exact ⟨g, 0, N, M, L, rfl, h1, h2, h, by omega, by rw [List.drop_zero]; exact hl⟩
theorem lit_row (w : World) (c : Int) : (w.alloc (.cells #[.int .i64 c] 3)).ownsRow w.heap.size 3 1 (.slice (some ⟨w.heap.size, 0, none⟩) 1 1) 1 (ints [c]) :=
  ⟨rfl, .inr ⟨w.heap.size, 1, #[.int .i64 c], rfl, Nat.le_refl _, heap_alloc_new w _, Nat.le_refl _, by unfold maxLen; omega, rfl, rfl⟩⟩
theorem lit_nil (w : World) : (w.alloc (.cells #[] 3)).ownsRow w.heap.size 3 1 (.slice (some ⟨w.heap.size, 0, none⟩) 0 0) 0 (ints []) :=
  World.ownsRow_made (base := w.heap.size) (e := 3) (size := 1) w #[] 0 (Nat.le_refl _) (by unfold maxLen; omega) rfl

set_option maxHeartbeats 2000000 in
set_option maxRecDepth 100000 in
theorem divide_spec (a : Option Addr) (la ca : Nat) (xs : List Int) (b : Option Addr) (lb cb : Nat) (ys : List Int) (w : World) (hxa : IntsAt w a la xs) (hyb : IntsAt w b lb ys) (m : Nat) (hl : ys.length = m + 1) (hmm : m ≤ 1000) (h1 : co ys m = 1) (hx : Bd (1000 : Nat) xs) (hb1 : Bd 1 ys) (hla : la ≤ 25) :
    Calls Try.prog 103 #[.slice a la ca, .slice b lb cb] w (QRPost (quoZ xs ys) (remZ xs ys) w) := by
  have HS := Lib.hid hxa
  have HU := Lib.hid hyb
  have HB1 := Lib.hid hb1
  have HLX := Lib.hid hxa.1
  have HLY := Lib.hid hyb.1
  have hlb : 1 ≤ lb := by have := hyb.1; omega
  have hlb2 : lb ≤ 1001 := by have := hyb.1; omega
  have HBD : Hid (∀ j, j ≤ 25 → Bd 1000000000000000 (dvR xs ys j)) := Lib.hid (fun j hj => by
    refine (dvR_bd hx hb1 j).mono ?_
    have := Nat.pow_le_pow_right (n := 2) (by omega) hj
    have h2 : 1000 * 2 ^ j ≤ 1000 * 2 ^ 25 := Nat.mul_le_mul_left _ this
    have h3 : (1000 * 2 ^ 25 : Nat) ≤ 1000000000000000 := by decide
    omega)
  clear hxa hyb hx hb1 hl h1
  go_enter Try.func103, Try.ntmps103
  have O1 := Lib.hid (lit_nil w)
  have HS1 := Lib.hid (HS.out.below (bel1 w (.cells #[] 3)))
  have hz1 : w.heap.size ≤ (w.alloc (.cells #[] 3)).heap.size := by simp
  go_wp2_with (at_builtin; refine wpList_app rfl _ _ rfl w.heap.size (some ⟨w.heap.size, 0, none⟩) 0 [] a la ca xs _ O1.out HS1.out (by simp) (by omega) hz1 rfl rfl ?_; intro a2 c2 w2 hown2 hb2; have B2 := Lib.hid ((bel1 w (.cells #[] 3)).trans hb2); simp only [List.nil_append] at hown2 ⊢; rw [HLX.out] at hown2 ⊢; have O2 := Lib.hid hown2; clear hown2 hb2)
  have HRB : Hid (∀ k, (Value.slice a2 la c2).ownBlock = some k → w.heap.size ≤ k ∧ k < w2.heap.size) := Lib.hid (fun k e => O2.out.lt k e)
  have hs2 := B2.out.size
  have O3 : Hid ((w2.alloc (.cells #[] 3)).ownsRow w.heap.size 3 1 (.slice a2 la c2) la (ints xs)) := Lib.hid (own_below O2.out (bel1 _ _))
  have B3 : Hid (Below w.heap.size w (w2.alloc (.cells #[] 3))) := Lib.hid (B2.out.alloc hs2 _)
  have Q3 := Lib.hid (lit_nil w2)
  clear O1 HS1 hz1
  go_loopw [9, 8] (fun i v wr => ∃ j : Nat, j ≤ steps xs ys ∧ i = .int .i64 ((la : Int) - lb - j) ∧ (∃ aq cq, v = .slice aq (dvQ xs ys j).length cq ∧ wr.ownsRow w2.heap.size 3 1 (.slice aq (dvQ xs ys j).length cq) (dvQ xs ys j).length (ints (dvQ xs ys j))) ∧ wr.ownsRow w.heap.size 3 1 (.slice a2 la c2) la (ints (dvR xs ys j)) ∧ Below w.heap.size w wr ∧ w2.heap.size ≤ wr.heap.size) (fun i _ _ => (intOf i + 1).toNat)
  case atStart => exact ⟨0, by omega, by go_num, ⟨_, 0, rfl, Q3.out⟩, O3.out, B3.out, by simp⟩
  case round =>
    obtain ⟨j, hj, rfl, ⟨aq, cq, rfl, hq⟩, hrow, hnx, hsz⟩ := hrel
    obtain ⟨Q, hQ⟩ : ∃ Q, dvQ xs ys j = Q := ⟨_, rfl⟩
    rw [hQ] at hq ⊢
    have HQQ := Lib.hid hQ
    have HQL := Lib.hid (show Q.length = j by rw [← hQ, dvQ_len])
    have HQ := Lib.hid hq
    have HROW := Lib.hid hrow
    have HNX := Lib.hid hnx
    have HST := Lib.hid (show steps xs ys = la + 1 - lb by unfold steps; rw [HLX.out, HLY.out])
    clear hq hrow hnx hQ O3 B3 Q3
    by_cases hlt : j + lb ≤ la
    · obtain ⟨D, hD⟩ : ∃ D : Nat, D + lb + j = la := ⟨la - lb - j, by omega⟩
      have hDi : (la : Int) - lb - j = (D : Int) := by omega
      rw [hDi]
      have HB := Lib.hid (HBD.out j (by omega))
      obtain ⟨T, hT⟩ : ∃ T : Nat, T + 1 = D + lb := ⟨D + lb - 1, by omega⟩
      obtain ⟨hlen, a', cap', hv, hc⟩ := own_shape HROW.out
      obtain ⟨rfl, rfl⟩ : a2 = a' ∧ c2 = cap' := by simpa using hv
      obtain ⟨r, rfl, hr1, hr2, hcell⟩ := hc (by omega)
      have HRB2 := Lib.hid (HRB.out r rfl)
      obtain ⟨c, hcc⟩ : ∃ c, co (dvR xs ys j) T = c := ⟨_, rfl⟩
      have hll : T < (dvR xs ys j).length := by omega
      have hcv : wr.cell? ⟨r, T, none⟩ = some (.int .i64 c) := hcell T c (by rw [List.getElem?_eq_getElem hll, ← co_get hll, hcc])
      have hTi : (D : Int) + lb - 1 = (T : Int) := by omega
      have hcb := HB.out T
      rw [hcc] at hcb
      obtain ⟨hcb1, hcb2⟩ := hcb
      have HN : Hid (addK (dvR xs ys j) D (-c) ys lb = dvR xs ys (j + 1)) := Lib.hid (by
        rw [dvR, HLX.out, HLY.out, show la - 1 - j = T by omega, hcc, show la - lb - j = D by omega])
      have HQN : Hid (dvQ xs ys (j + 1) = c :: Q) := Lib.hid (by rw [dvQ, HQQ.out, HLX.out, show la - 1 - j = T by omega, hcc])
      have OX := Lib.hid (lit_row wr c)
      have HQI : Hid (IntsAt (wr.alloc (.cells #[.int .i64 c] 3)) aq Q.length Q) := Lib.hid ((intsAt_own HQ.out (fun z hz => by
        have hb := HBD.out
        have hz2 : ∀ j', j' ≤ 25 → ∀ z ∈ dvQ xs ys j', -1000000000000000 ≤ z ∧ z ≤ 1000000000000000 := by
          intro j'
          induction j' with
          | zero => intro _ z hz; cases hz
          | succ q ih =>
            intro hq z hz
            rw [dvQ] at hz
            rcases List.mem_cons.1 hz with e | e
            · rw [e]; exact hb q (by omega) _
            · exact ih (by omega) z e
        rw [← HQQ.out] at hz
        have := hz2 j (by omega) z hz
        omega)).below (bel1 _ _))
      have hz4 : wr.heap.size ≤ (wr.alloc (.cells #[.int .i64 c] 3)).heap.size := by simp
      clear hcell hc hv hlen hll hcc hDi
      go_wp2_with (at_builtin; refine wpList_app rfl _ _ rfl wr.heap.size (some ⟨wr.heap.size, 0, none⟩) 1 [c] aq Q.length cq Q _ OX.out HQI.out (by simp) (by have := HQL.out; omega) hz4 rfl rfl ?_; intro a4 c4 w4 hown4 hb4; have B4 := Lib.hid ((bel1 wr (.cells #[.int .i64 c] 3)).trans hb4); have O4 := Lib.hid hown4; clear hown4 hb4)
      have HR4 : Hid (w4.ownsRow w.heap.size 3 1 (.slice (some ⟨r, 0, none⟩) la c2) la (ints (addK (dvR xs ys j) D (-c) ys 0))) := Lib.hid (by rw [addK_zero]; exact own_below HROW.out B4.out)
      have HX4 : Hid (Below w.heap.size w w4) := Lib.hid (HNX.out.trans (B4.out.mono HNX.out.size))
      have hs4 := B4.out.size
      clear OX HQI hz4 hcv
      go_loopw [40] (fun i wr => ∃ k : Nat, k ≤ lb ∧ i = .int .i64 k ∧ wr.ownsRow w.heap.size 3 1 (.slice (some ⟨r, 0, none⟩) la c2) la (ints (addK (dvR xs ys j) D (-c) ys k)) ∧ Within w.heap.size w2.heap.size w4 wr) (fun i _ => lb - (intOf i).toNat)
      case atStart => exact ⟨0, by omega, rfl, HR4.out, Within.refl _ _ _⟩
      case round =>
        obtain ⟨k, hk, rfl, hat, hwi⟩ := hrel
        have HAT := Lib.hid hat
        have HWI := Lib.hid hwi
        clear hat hwi HR4
        have HXI : Hid (Below w.heap.size w wr) := Lib.hid (Rhy.Below.within HX4.out HWI.out (Nat.le_refl _) (by have := HX4.out.size; omega))
        have HJ : Hid (IntsAt wr b lb ys) := Lib.hid (HU.out.below HXI.out)
        by_cases hlt2 : k < lb
        · obtain ⟨b', off', z, rfl, hb', hs, hc, hz1, hz2⟩ := HJ.out.at hlt2
          have hcr := HAT.out.cellAt (D + k) (by omega)
          have hfr := HAT.out.frozenAt (D + k)
          have hll : D + k < (addK (dvR xs ys j) D (-c) ys k).length := by rw [addK_len, dvR_len, HLX.out]; omega
          obtain ⟨v, hvv⟩ : ∃ v, co (dvR xs ys j) (D + k) = v := ⟨_, rfl⟩
          have hv2 : co (addK (dvR xs ys j) D (-c) ys k) (D + k) = v := by rw [addK_co, if_neg (by omega), hvv]
          have hcv : wr.cell? ⟨r, D + k, none⟩ = some (.int .i64 v) := by
            rw [hcr, ints, List.getElem?_map, List.getElem?_eq_getElem hll, ← co_get hll, hv2]
            rfl
          have hvb := HB.out (D + k)
          rw [hvv] at hvb
          obtain ⟨hvb1, hvb2⟩ := hvb
          have hzb := HB1.out k
          rw [co_some hs] at hzb
          obtain ⟨P, hP⟩ : ∃ P, c * z = P := ⟨_, rfl⟩
          have hPb : -1000000000000000 ≤ P ∧ P ≤ 1000000000000000 := by
            have := cmul_bd ⟨hcb1, hcb2⟩ hzb
            rw [hP] at this
            omega
          obtain ⟨hPb1, hPb2⟩ := hPb
          have HCN := Lib.hid (show addK (dvR xs ys j) D (-c) ys (k + 1) = (addK (dvR xs ys j) D (-c) ys k).set (D + k) (v - P) by
            rw [addK_succ (by rw [dvR_len, HLX.out]; omega), hv2, co_some hs, Int.neg_mul, hP]; rfl)
          clear hs hcr hll hv2 hzb hvv
          go_wp2
          go_roundw
          case rel =>
            have hst := HAT.out.stored (D + k) (.int .i64 (v - P))
            rw [ints, ← List.map_set, ← HCN.out] at hst
            exact ⟨k + 1, by omega, by go_num, hst.1, HWI.out.setCell r HRB2.out _ _⟩
          case measure => simp [intOf]; omega
        · have e : k = lb := by omega
          have HE : Hid (addK (dvR xs ys j) D (-c) ys k = dvR xs ys (j + 1)) := Lib.hid (by rw [e, HN.out])
          have HQI : Hid (wr.ownsRow w2.heap.size 3 1 (.slice a4 ([c] ++ Q).length c4) ([c] ++ Q).length (ints ([c] ++ Q))) := Lib.hid (HWI.out.grown (fun k e => .inr (by have := (O4.out.lt k e).1; omega)) (fun k e => (O4.out.lt k e).2) (own_base O4.out hsz))
          clear e
          go_wp2
          go_roundw
          case rel =>
            refine ⟨j + 1, by have := HST.out; omega, by go_num, ⟨a4, c4, by rw [HQN.out]; rfl, by rw [HQN.out]; exact HQI.out⟩, by rw [← HE.out]; exact HAT.out, HXI.out, ?_⟩
            have := HWI.out.size
            omega
          case measure => first | (simp [intOf]; done) | (simp [intOf]; omega)
    · have e : j = steps xs ys := by have := HST.out; omega
      have HE : Hid (dvQ xs ys j = quoZ xs ys) := Lib.hid (by rw [e]; rfl)
      have HF : Hid (trimL (dvR xs ys j) = remZ xs ys) := Lib.hid (by rw [e]; rfl)
      have HIN : Hid (IntsAt wr a2 la (dvR xs ys j)) := Lib.hid (intsAt_own HROW.out (bd_int (HBD.out j (by have := HST.out; omega)) (by omega)))
      have hcap := own_cap HROW.out
      have HTL : Hid ((remZ xs ys).length ≤ la) := Lib.hid (by rw [← HF.out]; exact Nat.le_trans (trim_len _) (by rw [dvR_len, HLX.out]; exact Nat.le_refl _))
      clear e
      go_wp2_with fail
      refine (trim_spec a2 la c2 (dvR xs ys j) _ HIN.out (by omega) hcap).mono ?_
      rintro e w' ⟨rfl, rfl⟩
      go_wp2
      go_ret2
      rw [HF.out, ← HE.out, HQQ.out]
      have hcq := own_cap HQ.out
      refine ⟨aq, cq, a2, c2, rfl, ?_, ?_, HNX.out, hcq, by have := HTL.out; omega⟩
      · exact prow_of (own_base HQ.out (by omega))
      · exact prow_take HROW.out _ _ HTL.out (by rw [← HF.out]; exact (trim_is_take _).symm)
end Go.Proofs.Ytdpcabiajhfllaa.Rhy
