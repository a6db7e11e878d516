/-
  Helpers of the claims beside this text: canons: which voices play on a pulse; the model's l12At.
-/
import Derived.Test.YthnlakdfbalgdaaCna
import Derived.Test.YthnlakdfbalgdaaVec
import Derived.Deep.RegionHeld3
import Derived.IntWalk
namespace Go.Proofs.Ythnlakdfbalgdaa.Rhy
open Go.RowKit
set_option linter.unusedVariables false
set_option linter.unusedSimpArgs false

def plays (s : Int) (xs ys : List Int) (t : Int) (v : Nat) : Bool := hasB xs (remB (t - ys.getD v 0) s)
/-- The voices below k that play on a pulse. -/
def atK (s : Int) (xs ys : List Int) (t : Int) (k : Nat) : List Int := ((List.range k).filter (plays s xs ys t)).map (fun v : Nat => (v : Int))
def atL (s : Int) (xs ys : List Int) (t : Int) : List Int := atK s xs ys t ys.length
theorem atK_zero (s : Int) (xs ys : List Int) (t : Int) : atK s xs ys t 0 = [] := rfl
theorem atK_yes {s : Int} {xs ys : List Int} {t : Int} {k : Nat} (h : plays s xs ys t k = true) : atK s xs ys t (k + 1) = atK s xs ys t k ++ [(k : Int)] := by
  simp [atK, List.range_succ, h]
theorem atK_no {s : Int} {xs ys : List Int} {t : Int} {k : Nat} (h : plays s xs ys t k = false) : atK s xs ys t (k + 1) = atK s xs ys t k := by
  simp [atK, List.range_succ, h]
theorem atK_mem {s : Int} {xs ys : List Int} {t : Int} {k : Nat} {z : Int} (h : z ∈ atK s xs ys t k) : 0 ≤ z ∧ z < k := by
  simp [atK] at h
  obtain ⟨a, h1, rfl⟩ := h
  omega
theorem atK_len (s : Int) (xs ys : List Int) (t : Int) (k : Nat) : (atK s xs ys t k).length ≤ k := by
  simp only [atK, List.length_map]
  exact Nat.le_trans (List.length_filter_le _ _) (by simp)
theorem atK_int {s : Int} {xs ys : List Int} {t : Int} {k : Nat} (hk : k ≤ 1048576) : AllInt (atK s xs ys t k) := fun z hz => by
  have := atK_mem hz
  omega
theorem ok_len' {s : Int} {xs : List Int} (h : Ok s xs) : xs.length ≤ 24 := by
  have := ok_len h
  have := h.1
  omega

set_option maxHeartbeats 1000000 in
set_option maxRecDepth 100000 in
theorem at_spec (s : Int) (a : Option Addr) (n ca : Nat) (xs : List Int) (r : Int) (b : Option Addr) (m cb : Nat) (ys : List Int) (t : Int) (w : World) (ha : IntsAt w a n xs) (hn : n ≤ 1048576) (hb : IntsAt w b m ys) (hm : m ≤ 1048576) (h0 : 1 ≤ s) (h1 : s ≤ 24) (hy : ∀ z ∈ ys, -1000 ≤ z ∧ z ≤ 1000) (ht1 : -1000000 ≤ t) (ht2 : t ≤ 1000000) :
    Calls Try.prog 84 #[can s a n ca r b m cb, .int .i64 t] w (IPost (atL s xs ys t) w) := by
  have FA := Lib.hid ha
  have FB := Lib.hid hb
  have HY := Lib.hid hy
  have hml : ys.length = m := hb.1
  clear ha hb hy
  obtain ⟨W0, hW⟩ : ∃ W0, W0 = w.alloc (canCells s a n ca r b m cb 29) := ⟨_, rfl⟩
  have HW := Lib.hid hW
  have HB := Lib.hid (show Below w.heap.size w W0 by rw [hW]; exact bel1 w _)
  have HT := Lib.hid (show Four W0 w.heap.size (.int .i64 s) (.slice a n ca) (.int .i64 r) (.slice b m cb) by rw [hW]; exact four_new w _ _ _ _ _)
  have hz0 : W0.heap.size = w.heap.size + 1 := by rw [hW]; simp
  clear hW
  obtain ⟨W1, hW1⟩ : ∃ W1, W1 = W0.alloc (.cells #[] 3) := ⟨_, rfl⟩
  have HW1 := Lib.hid hW1
  have HB1 := Lib.hid (show Below w.heap.size w W1 by rw [hW1]; exact HB.out.trans ((bel1 W0 _).mono HB.out.size))
  have HT1 := Lib.hid (show Four W1 w.heap.size (.int .i64 s) (.slice a n ca) (.int .i64 r) (.slice b m cb) by rw [hW1]; exact HT.out.keep (bel1 _ _))
  have HV1 := Lib.hid (show VecAt [] W0 W1 (.slice (some ⟨w.heap.size + 1, 0, none⟩) 0 0) by rw [hW1, ← hz0]; exact vec_made W0)
  clear hW1
  obtain ⟨t0, t1, t2, t3, t4⟩ := HT.out
  obtain ⟨u0, u1, u2, u3, u4⟩ := HT1.out
  go_enter Try.func84, Try.ntmps84
  go_wp2_with fail
  rw [← HW.out]
  go_wp2
  rw [← HW1.out]
  go_wp2
  go_loopw [5, 13] (fun v i wr => ∃ k : Nat, k ≤ m ∧ i = .int .i64 k ∧ VecAt (atK s xs ys t k) W0 wr v) (fun _ i _ => m - (intOf i).toNat)
  case atStart => exact ⟨0, by omega, rfl, HV1.out⟩
  case round =>
    obtain ⟨k, hk, rfl, av, cv, rfl, hown, hnx, hsz⟩ := hrel
    obtain ⟨P, hP⟩ : ∃ P, atK s xs ys t k = P := ⟨_, rfl⟩
    rw [hP] at hown ⊢
    have HPP := Lib.hid hP
    have HPL : P.length ≤ 1048577 := by rw [← hP]; have := atK_len s xs ys t k; omega
    have HOW := Lib.hid hown
    have HX := Lib.hid hnx
    have HZ := Lib.hid hsz
    have HR := Lib.hid (HB.out.trans (hnx.mono HB.out.size))
    have T1 := Lib.hid (HT.out.keep hnx)
    clear t0 t1 t2 t3 t4 u0 u1 u2 u3 u4 hown hnx hsz hP
    obtain ⟨x0, x1, x2, x3, x4⟩ := T1.out
    by_cases hlt : k < m
    · obtain ⟨b1, off, z, rfl, hb, hs, hc, hz1, hz2⟩ := (FB.out.below HR.out).at hlt
      obtain ⟨hzr1, hzr2⟩ := HY.out z (List.mem_of_getElem? hs)
      have HA : Hid (IntsAt wr a n xs) := Lib.hid (FA.out.below HR.out)
      have HG : Hid (plays s xs ys t k = hasB xs (remB (t - z) s)) := Lib.hid (by unfold plays; rw [List.getD_eq_getElem?_getD, hs]; rfl)
      clear hs
      obtain ⟨hr1, hr2⟩ := remB_bd (t - z) s (by omega)
      have HWR : Hid (IntKind.i64.wrap (t - z) = t - z) := Lib.hid (IntWalk.i64_in _ ⟨by omega, by omega⟩)
      have HK : Hid (∀ W, Below wr.heap.size wr W → W.cell? ⟨w.heap.size, 0, none⟩ = some (.int .i64 s) ∧ W.cell? ⟨w.heap.size, 1, none⟩ = some (.slice a n ca) ∧ Below wr.heap.size wr W) :=
        Lib.hid (fun W hW => ⟨(T1.out.keep hW).2.1, (T1.out.keep hW).2.2.1, hW⟩)
      have HM := Lib.hid (mod_any (t - z) s wr.drew (by omega) (by omega) (by omega) (by omega))
      have HH := Lib.hid (has_any a n ca xs (remB (t - z) s) wr.drew (HA.out.below (Below.refl wr.heap.size wr).drew) (by omega))
      cases hp : hasB xs (remB (t - z) s)
      · have HN := Lib.hid (atK_no (HG.out.trans hp))
        have HH2 := HH
        rw [hp] at HH2
        clear hp HH
        go_wp2
        go_region_held3 (fun W => W.cell? ⟨w.heap.size, 0, none⟩ = some (.int .i64 s) ∧ W.cell? ⟨w.heap.size, 1, none⟩ = some (.slice a n ca) ∧ Below wr.heap.size wr W)
          (exact HK.out _ (Below.refl _ _).drew)
          ((first
            | (go_at_call 108; rw [HWR.out]; with_reducible refine HM.out.mono ?_; rintro e w1 ⟨rfl, rfl⟩)
            | (go_at_call 109; with_reducible refine HH2.out.mono ?_; rintro e w1 ⟨rfl, rfl⟩)))
        rename_i hh
        clear hh
        go_wp2
        go_roundw
        case rel => exact ⟨k + 1, by omega, by go_num, by rw [HN.out, HPP.out]; exact ⟨av, cv, rfl, own_below HOW.out (Below.refl _ _).drew, HX.out.trans ((Below.refl wr.heap.size wr).drew.mono HZ.out), HZ.out⟩⟩
        case measure => simp [intOf]; omega
      · have HN := Lib.hid (atK_yes (HG.out.trans hp))
        have HH2 := HH
        rw [hp] at HH2
        clear hp HH
        go_wp2
        go_region_held3 (fun W => W.cell? ⟨w.heap.size, 0, none⟩ = some (.int .i64 s) ∧ W.cell? ⟨w.heap.size, 1, none⟩ = some (.slice a n ca) ∧ Below wr.heap.size wr W)
          (exact HK.out _ (Below.refl _ _).drew)
          ((first
            | (go_at_call 108; rw [HWR.out]; with_reducible refine HM.out.mono ?_; rintro e w1 ⟨rfl, rfl⟩)
            | (go_at_call 109; with_reducible refine HH2.out.mono ?_; rintro e w1 ⟨rfl, rfl⟩)))
        rename_i hh
        clear hh
        obtain ⟨wd, hwd⟩ : ∃ wd, wd = wr.drew := ⟨_, rfl⟩
        have HWD := Lib.hid hwd
        have HOD := Lib.hid (show wd.ownsRow W0.heap.size 3 1 (.slice av P.length cv) P.length (ints P) by rw [hwd]; exact own_below HOW.out (Below.refl _ _).drew)
        have HXD := Lib.hid (show Below W0.heap.size W0 wd by rw [hwd]; exact HX.out.trans ((Below.refl wr.heap.size wr).drew.mono HZ.out))
        have HZD : Hid (W0.heap.size ≤ wd.heap.size) := Lib.hid (by rw [hwd]; exact HZ.out)
        clear hwd
        rw [← HWD.out]
        go_wp2_with (at_builtin; refine append_int rfl _ _ rfl W0.heap.size _ P _ _ HOD.out HPL HZD.out _ rfl rfl rfl ?_; intro a' c' w' hown' hb'; have HO2 := Lib.hid hown'; have HX2 := Lib.hid hb'; clear hown' hb')
        go_roundw
        case rel =>
          refine ⟨k + 1, by omega, by go_num, ?_⟩
          rw [HN.out, HPP.out]
          have := vec_snoc HXD.out HZD.out HO2.out HX2.out
          simpa using this
        case measure => simp [intOf]; omega
    · have e : k = m := by omega
      have HE : Hid (atL s xs ys t = P) := Lib.hid (by rw [← HPP.out, e, ← hml]; rfl)
      clear e
      go_wp2
      go_ret
      rw [HE.out]
      exact ⟨av, cv, rfl, own_base HOW.out HB.out.size, HR.out⟩
end Go.Proofs.Ythnlakdfbalgdaa.Rhy
