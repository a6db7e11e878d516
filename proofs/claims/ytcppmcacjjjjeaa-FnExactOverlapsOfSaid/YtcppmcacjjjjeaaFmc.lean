/-
  Helpers of the claims beside this text: the program's period, rotationTo, axes.
-/
import Derived.Test.YtcppmcacjjjjeaaFmb
import Derived.Test.YtcppmcacjjjjeaaRot
import Derived.Test.YtcppmcacjjjjeaaFrm3
import Derived.Test.YtcppmcacjjjjeaaVec
import Derived.Deep.RegionHeld3
namespace Go.Proofs.Ytcppmcacjjjjeaa.Rhy
open Go.RowKit
set_option linter.unusedVariables false

/-- The argument's box, and a box that holds another form. -/
theorem own_start {B : Nat} {w w1 : World} (hB : Below B w w1) (hs : B ≤ w1.heap.size) (s : Int) (zs : List Int) {gr : Nat} {v0 v1 : Value} (ht : Two w1 gr v0 v1) (W : World)
    (hW : (w1.alloc (.cells (formA 0 []) 103)).setRow w1.heap.size (formA s zs) = W) :
    Two W gr v0 v1 ∧ W.heap[w1.heap.size]? = some (.cells (formA s zs) 103 (0, 0)) ∧ Below B w W ∧ w1.heap.size < W.heap.size := by
  subst hW
  exact ⟨two_setRow (ht.keep (bel1 _ _)) (Nat.ne_of_lt ht.1) _, setRow_heap _ _ _ _ _ _ (heap_alloc_new _ _), below_setRow (hB.alloc hs _) hs _, by simp⟩
theorem row_keep {w w' : World} {g : Nat} {o : Obj} (h : w.heap[g]? = some o) (hb : Below w.heap.size w w') : w'.heap[g]? = some o := by
  rw [hb.block g (Array.getElem?_eq_some_iff.1 h).1]; exact h
theorem eqF_rot {n : Int} {zs ys : List Int} (ho : Ok n zs) (hy : Ok n ys) (u k : Int) : eqF n (rotZ n zs u k) n ys = eqB (rotZ n zs u k) ys := by
  rw [eqF_ok (rot_ok ho.1 _ _) hy]; simp
theorem per_no {n : Nat} {zs : List Int} {k : Nat} (h1 : 1 ≤ k) (h : k < perZ n zs) : isRot n zs zs 1 k = false :=
  (first_spec (isRot n zs zs 1) ((n : Int).toNat - 1) 1).2 k h1 h

set_option maxHeartbeats 1000000 in
set_option maxRecDepth 100000 in
theorem period_any (n : Nat) (a : Option Addr) (len cap : Nat) (zs : List Int) (w : World) (h : IntsAt w a len zs) (hm : len ≤ 1048576) (ho : Ok n zs) :
    Calls Try.prog 123 #[rhy n a len cap] w fun e w' => e = .returned (.int .i64 (perZ n zs)) ∧ Below w.heap.size w w' := by
  have HS := Lib.hid h
  have HOK := Lib.hid ho
  have hp := per_bd n zs ho.1.1
  obtain ⟨hp1, hp2⟩ := hp
  have hn24 : n ≤ 24 := by have := ho.1.2; omega
  have HPF := Lib.hid (per_fix ho)
  clear h ho
  obtain ⟨gr, hgr⟩ : ∃ gr, gr = w.heap.size := ⟨_, rfl⟩
  have HGR := Lib.hid hgr
  clear hgr
  go_enter Try.func123, Try.ntmps123
  go_wp2_with fail
  refine (form_any n a len cap zs _ (HS.out.below (bel1 w _)) hm HOK.out).mono ?_
  rintro e w1 ⟨rfl, hb1⟩
  have HB1 := Lib.hid ((bel1 w (.cells #[.int .i64 n, .slice a len cap] 25)).trans (hb1.mono (by simp)))
  have HT1 := Lib.hid ((two_new w (.int .i64 n) (.slice a len cap) 25).keep hb1)
  clear hb1
  go_wp2_with (refine wpList_store_row rfl 103 (.tmp 3) (.tmp 6) rfl w1.heap.size (formA n zs) rfl rfl 103 (formA 0 []) (heap_alloc_new _ _) (by rw [infoF, formA_size]) (by rw [formA_size, formA_size]) (formA_one n zs) ?_; generalize hW : World.setRow _ _ _ = W; have HF := Lib.hid (own_start HB1.out HB1.out.size n zs HT1.out W hW); clear hW)
  obtain ⟨gf, hgf⟩ : ∃ gf, gf = w1.heap.size := ⟨_, rfl⟩
  rw [← HGR.out, ← hgf] at HF
  rw [← HGR.out, ← hgf]
  have HGF := Lib.hid hgf
  clear hgf
  go_loopw [4] (fun i wr => ∃ k : Nat, 1 ≤ k ∧ k ≤ perZ n zs ∧ i = .int .i64 k ∧ Below W.heap.size W wr) (fun i _ => perZ n zs - (intOf i).toNat)
  case atStart => exact ⟨1, by omega, hp1, rfl, Below.refl _ _⟩
  case round =>
    obtain ⟨k, hk1, hk2, rfl, hnx⟩ := hrel
    have HX := Lib.hid hnx
    clear hnx
    have HBW : Hid (Below w.heap.size w wr) := Lib.hid (by have h2 := HF.out.2.2.1; rw [HGR.out] at h2; exact h2.trans (HX.out.mono h2.size))
    have HI := Lib.hid (HS.out.below HBW.out)
    have HT := Lib.hid (HF.out.1.keep HX.out)
    have HR2 := Lib.hid (row_keep HF.out.2.1 HX.out)
    have HK : Hid (∀ W', Below wr.heap.size wr W' → W'.cell? ⟨gr, 0, none⟩ = some (.int .i64 n) ∧ W'.cell? ⟨gr, 1, none⟩ = some (.slice a len cap) ∧ W'.heap[gf]? = some (.cells (formA n zs) 103 (0, 0)) ∧ Below wr.heap.size wr W') :=
      Lib.hid (fun W' hW => ⟨(HT.out.keep hW).2.1, (HT.out.keep hW).2.2, row_keep HR2.out hW, hW⟩)
    by_cases hlt : k < perZ n zs
    · have HQ : Hid (eqF n (rotZ n zs 1 k) n zs = false) := Lib.hid (by rw [eqF_rot HOK.out HOK.out]; exact per_no hk1 hlt)
      go_wp2
      refine wp_region_held_drew (S := fun W' => W'.cell? ⟨gr, 0, none⟩ = some (.int .i64 n) ∧ W'.cell? ⟨gr, 1, none⟩ = some (.slice a len cap) ∧ W'.heap[gf]? = some (.cells (formA n zs) 103 (0, 0)) ∧ Below wr.heap.size wr W') (by kernel_rfl) (HK.out _ (Below.refl _ _).drew) (fun hS0 => ?_)
      refine wpAnyH_take (i := 0) (oi := ⟨some 7, _, _, _, _, _⟩) (v := rhy n a len cap) rfl (by kernel_rfl) (by kernel_rfl) (by kernel_rfl) (fun _ _ _ h => h) (Or.inl ⟨by rfl, fun w' hSw => by obtain ⟨q1, q2, _⟩ := hSw; go_simp⟩) (by assumption) ?_
      try simp only [Act.put, List.setIfInBounds_toArray, List.set_cons_zero, List.set_cons_succ]
      refine wpAnyH_take (i := 1) (oi := ⟨some 8, _, _, _, _, _⟩) (v := .int .i64 k) rfl (by kernel_rfl) (by kernel_rfl) (by kernel_rfl) (fun _ _ _ h => h) (Or.inl ⟨by rfl, fun w' hSw => by go_simp⟩) (by assumption) ?_
      try simp only [Act.put, List.setIfInBounds_toArray, List.set_cons_zero, List.set_cons_succ]
      refine wpAnyH_take (i := 4) (oi := ⟨some 11, _, _, _, _, _⟩) (v := formV n zs) rfl (by kernel_rfl) (by kernel_rfl) (by kernel_rfl) (fun _ _ _ h => h) (Or.inl ⟨by rfl, fun w' hSw => exec_form rfl rfl hSw.2.2.1⟩) (by assumption) ?_
      try simp only [Act.put, List.setIfInBounds_toArray, List.set_cons_zero, List.set_cons_succ]
      refine wpAnyH_ready (rs := [2]) (by kernel_rfl) (by simp) ?_
      refine AllReadyH.cons rfl (fun K hKK => ?_) AllReadyH.nil
      go_simp
      go_at_call 65
      refine (moved_of n a len cap zs 1 k _ (HI.out.below (Below.refl _ _).drew) hm HOK.out (by omega) (by omega) (by omega) (by omega) (gcd_one n)).mono ?_
      rintro e w2 ⟨b1, c1, rfl, hown, hc1⟩
      have hb1 := (Below.refl wr.heap.size wr).drew.trans hc1
      have hi1 : IntsAt w2 b1 (rotZ n zs (1) k).length (rotZ n zs (1) k) := intsAt_own hown (rotZ_int HOK.out.1.2)
      clear hown hc1
      refine hKK.out _ _ (HK.out _ hb1) (fun hS1 => ?_)
      clear hKK K
      try simp only [Act.put, List.setIfInBounds_toArray, List.set_cons_zero, List.set_cons_succ]
      refine wpAnyH_ready (rs := [3]) (by kernel_rfl) (by simp) ?_
      refine AllReadyH.cons rfl (fun K hKK => ?_) AllReadyH.nil
      go_simp
      go_at_call 122
      refine (form_any n b1 (rotZ n zs (1) k).length c1 (rotZ n zs (1) k) w2 hi1 (by have := rotZ_len (s := n) (zs := zs) (u := 1) (k := k) HOK.out.1.2; omega) (rot_ok HOK.out.1 _ _)).mono ?_
      rintro e w3 ⟨rfl, hc2⟩
      have hb2 := hb1.trans (hc2.mono hb1.size)
      clear hc2
      refine hKK.out _ _ (HK.out _ hb2) (fun hS2 => ?_)
      clear hKK K
      try simp only [Act.put, List.setIfInBounds_toArray, List.set_cons_zero, List.set_cons_succ]
      refine wpAnyH_take (i := 5) (oi := ⟨some 12, _, _, _, _, _⟩) (v := .bool true) rfl (by kernel_rfl) (by kernel_rfl) (by kernel_rfl) (fun _ _ _ h => h) (Or.inl ⟨by rfl, fun w' hSw => (exec_neq rfl (s := n) (xs := rotZ n zs (1) k) rfl rfl w').trans (by rw [HQ.out]; rfl)⟩) (by assumption) ?_
      try simp only [Act.put, List.setIfInBounds_toArray, List.set_cons_zero, List.set_cons_succ]
      refine wpAnyH_done (by kernel_rfl) ?_ _
      have HX2 := Lib.hid hb2
      obtain ⟨y0, y1, y2, y3⟩ := hS2
      clear hb1 hi1 hS0 hS1 y2 y3 hb2 HK
      go_wp2
      go_roundw
      case rel => exact ⟨k + 1, by omega, by omega, by go_num, HX.out.trans (HX2.out.mono HX.out.size)⟩
      case measure => simp [intOf]; omega
    · have e : k = perZ n zs := by omega
      have HQ : Hid (eqF n (rotZ n zs 1 k) n zs = true) := Lib.hid (by rw [eqF_rot HOK.out HOK.out, e]; have := HPF.out; unfold Fix at this; rw [this]; unfold eqB; simp)
      have HE := Lib.hid e
      clear e
      go_wp2
      refine wp_region_held_drew (S := fun W' => W'.cell? ⟨gr, 0, none⟩ = some (.int .i64 n) ∧ W'.cell? ⟨gr, 1, none⟩ = some (.slice a len cap) ∧ W'.heap[gf]? = some (.cells (formA n zs) 103 (0, 0)) ∧ Below wr.heap.size wr W') (by kernel_rfl) (HK.out _ (Below.refl _ _).drew) (fun hS0 => ?_)
      refine wpAnyH_take (i := 0) (oi := ⟨some 7, _, _, _, _, _⟩) (v := rhy n a len cap) rfl (by kernel_rfl) (by kernel_rfl) (by kernel_rfl) (fun _ _ _ h => h) (Or.inl ⟨by rfl, fun w' hSw => by obtain ⟨q1, q2, _⟩ := hSw; go_simp⟩) (by assumption) ?_
      try simp only [Act.put, List.setIfInBounds_toArray, List.set_cons_zero, List.set_cons_succ]
      refine wpAnyH_take (i := 1) (oi := ⟨some 8, _, _, _, _, _⟩) (v := .int .i64 k) rfl (by kernel_rfl) (by kernel_rfl) (by kernel_rfl) (fun _ _ _ h => h) (Or.inl ⟨by rfl, fun w' hSw => by go_simp⟩) (by assumption) ?_
      try simp only [Act.put, List.setIfInBounds_toArray, List.set_cons_zero, List.set_cons_succ]
      refine wpAnyH_take (i := 4) (oi := ⟨some 11, _, _, _, _, _⟩) (v := formV n zs) rfl (by kernel_rfl) (by kernel_rfl) (by kernel_rfl) (fun _ _ _ h => h) (Or.inl ⟨by rfl, fun w' hSw => exec_form rfl rfl hSw.2.2.1⟩) (by assumption) ?_
      try simp only [Act.put, List.setIfInBounds_toArray, List.set_cons_zero, List.set_cons_succ]
      refine wpAnyH_ready (rs := [2]) (by kernel_rfl) (by simp) ?_
      refine AllReadyH.cons rfl (fun K hKK => ?_) AllReadyH.nil
      go_simp
      go_at_call 65
      refine (moved_of n a len cap zs 1 k _ (HI.out.below (Below.refl _ _).drew) hm HOK.out (by omega) (by omega) (by omega) (by omega) (gcd_one n)).mono ?_
      rintro e w2 ⟨b1, c1, rfl, hown, hc1⟩
      have hb1 := (Below.refl wr.heap.size wr).drew.trans hc1
      have hi1 : IntsAt w2 b1 (rotZ n zs (1) k).length (rotZ n zs (1) k) := intsAt_own hown (rotZ_int HOK.out.1.2)
      clear hown hc1
      refine hKK.out _ _ (HK.out _ hb1) (fun hS1 => ?_)
      clear hKK K
      try simp only [Act.put, List.setIfInBounds_toArray, List.set_cons_zero, List.set_cons_succ]
      refine wpAnyH_ready (rs := [3]) (by kernel_rfl) (by simp) ?_
      refine AllReadyH.cons rfl (fun K hKK => ?_) AllReadyH.nil
      go_simp
      go_at_call 122
      refine (form_any n b1 (rotZ n zs (1) k).length c1 (rotZ n zs (1) k) w2 hi1 (by have := rotZ_len (s := n) (zs := zs) (u := 1) (k := k) HOK.out.1.2; omega) (rot_ok HOK.out.1 _ _)).mono ?_
      rintro e w3 ⟨rfl, hc2⟩
      have hb2 := hb1.trans (hc2.mono hb1.size)
      clear hc2
      refine hKK.out _ _ (HK.out _ hb2) (fun hS2 => ?_)
      clear hKK K
      try simp only [Act.put, List.setIfInBounds_toArray, List.set_cons_zero, List.set_cons_succ]
      refine wpAnyH_take (i := 5) (oi := ⟨some 12, _, _, _, _, _⟩) (v := .bool false) rfl (by kernel_rfl) (by kernel_rfl) (by kernel_rfl) (fun _ _ _ h => h) (Or.inl ⟨by rfl, fun w' hSw => (exec_neq rfl (s := n) (xs := rotZ n zs (1) k) rfl rfl w').trans (by rw [HQ.out]; rfl)⟩) (by assumption) ?_
      try simp only [Act.put, List.setIfInBounds_toArray, List.set_cons_zero, List.set_cons_succ]
      refine wpAnyH_done (by kernel_rfl) ?_ _
      have HX2 := Lib.hid hb2
      obtain ⟨y0, y1, y2, y3⟩ := hS2
      clear hb1 hi1 hS0 hS1 y2 y3 hb2 HK
      go_wp2
      go_ret
      exact ⟨ret_int (by rw [HE.out]), HBW.out.trans (HX2.out.mono HBW.out.size)⟩

/-- The least turn that leads to another rhythm, of whatever size. -/
def rotToW (n : Nat) (zs : List Int) (t : Int) (ys : List Int) : Int := if (n : Int) = t then rotToZ n zs ys else -1
theorem rotTo_at {n : Nat} {zs ys : List Int} {k : Nat} (hk : k < n) (h0 : ∀ j, j < k → isRot n zs ys 1 j = false) (h1 : isRot n zs ys 1 k = true) : rotToZ n zs ys = k := by
  have key : ∀ f m, m + f = k → (∀ j, m ≤ j → j < k → isRot n zs ys 1 j = false) → firstFrom (isRot n zs ys 1) m (n - m) = k := by
    intro f
    induction f with
    | zero => intro m hm _; rw [Nat.add_zero] at hm; subst hm; exact first_yes hk h1
    | succ f ih => intro m hm hj; rw [first_no (by omega) (hj m (Nat.le_refl _) (by omega))]; exact ih (m + 1) (by omega) (fun j a b => hj j (by omega) b)
  have := key k 0 (by omega) (fun j _ b => h0 j b)
  unfold rotToZ
  rw [Int.toNat_natCast]
  rw [Nat.sub_zero] at this
  rw [this, if_pos hk]
theorem rotTo_none {n : Nat} {zs ys : List Int} (h0 : ∀ j, j < n → isRot n zs ys 1 j = false) : rotToZ n zs ys = -1 := by
  obtain ⟨h1, h2⟩ := first_spec (isRot n zs ys 1) n 0
  unfold rotToZ
  rw [Int.toNat_natCast]
  rcases h1 with h1 | h1
  · have := h0 (firstFrom (isRot n zs ys 1) 0 n) (by omega)
    rw [h1.2] at this; cases this
  · rw [h1, Nat.zero_add, if_neg (Nat.lt_irrefl _)]
theorem rotToW_at {n : Nat} {zs : List Int} {t : Int} {ys : List Int} {k : Nat} (hx : Ok n zs) (hy : Ok t ys) (hk : k < n) (h0 : ∀ j : Nat, j < k → eqF n (rotZ n zs 1 j) t ys = false) (h1 : eqF n (rotZ n zs 1 k) t ys = true) : rotToW n zs t ys = k := by
  rw [eqF_ok (rot_ok hx.1 _ _) hy] at h1
  have hst : (n : Int) = t := by cases hd : decide ((n : Int) = t) with
    | true => exact of_decide_eq_true hd
    | false => rw [hd] at h1; cases h1
  subst hst
  unfold rotToW
  rw [if_pos rfl]
  refine rotTo_at hk (fun j hj => ?_) (by simpa [isRot] using h1)
  have := h0 j hj
  rw [eqF_ok (rot_ok hx.1 _ _) hy] at this
  simpa [isRot] using this
theorem rotToW_none {n : Nat} {zs : List Int} {t : Int} {ys : List Int} (hx : Ok n zs) (hy : Ok t ys) (h0 : ∀ j : Nat, j < n → eqF n (rotZ n zs 1 j) t ys = false) : rotToW n zs t ys = -1 := by
  unfold rotToW
  by_cases hst : (n : Int) = t
  · subst hst
    rw [if_pos rfl]
    refine rotTo_none fun j hj => ?_
    have := h0 j hj
    rw [eqF_ok (rot_ok hx.1 _ _) hy] at this
    simpa [isRot] using this
  · rw [if_neg hst]

set_option maxHeartbeats 1000000 in
set_option maxRecDepth 100000 in
theorem rotationTo_any (n : Nat) (a : Option Addr) (len cap : Nat) (zs : List Int) (t : Int) (ys : List Int) (w : World) (h : IntsAt w a len zs) (hm : len ≤ 1048576) (ho : Ok n zs) (hy : Ok t ys) :
    Calls Try.prog 124 #[rhy n a len cap, formV t ys] w fun e w' => e = .returned (.int .i64 (rotToW n zs t ys)) ∧ Below w.heap.size w w' := by
  have HS := Lib.hid h
  have HOK := Lib.hid ho
  have HOY := Lib.hid hy
  have hn24 : n ≤ 24 := by have := ho.1.2; omega
  clear h ho hy
  obtain ⟨gr, hgr⟩ : ∃ gr, gr = w.heap.size := ⟨_, rfl⟩
  have HGR := Lib.hid hgr
  clear hgr
  obtain ⟨W, hW⟩ : ∃ W, W = (w.alloc (.cells #[.int .i64 n, .slice a len cap] 25)).alloc (.cells (formA t ys) 103) := ⟨_, rfl⟩
  have HW := Lib.hid hW
  have HF : Hid (Two W gr (.int .i64 n) (.slice a len cap) ∧ W.heap[gr + 1]? = some (.cells (formA t ys) 103 (0, 0)) ∧ Below w.heap.size w W) := Lib.hid (by
    rw [hW, HGR.out]
    refine ⟨(two_new w _ _ _).keep (bel1 _ _), ?_, bel2 w _ _⟩
    have := heap_alloc_new (w.alloc (.cells #[.int .i64 n, .slice a len cap] 25)) (.cells (formA t ys) 103)
    simpa using this)
  clear hW
  obtain ⟨gf, hgf⟩ : ∃ gf, gf = gr + 1 := ⟨_, rfl⟩
  rw [← hgf] at HF
  have HGF := Lib.hid hgf
  clear hgf
  obtain ⟨x0, x1, x2⟩ := HF.out.1
  go_enter Try.func124, Try.ntmps124
  unfold formV
  go_wp2_with (rw [← HW.out, ← HGR.out]; rw [← HGF.out])
  go_loopw [8] (fun i wr => ∃ k : Nat, k ≤ n ∧ i = .int .i64 k ∧ Hid (∀ j : Nat, j < k → eqF n (rotZ n zs 1 j) t ys = false) ∧ Below W.heap.size W wr) (fun i _ => n - (intOf i).toNat)
  case atStart => exact ⟨0, by omega, rfl, Lib.hid (fun j hj => by omega), Below.refl _ _⟩
  case round =>
    clear x0 x1 x2
    obtain ⟨k, hk, rfl, HN, hnx⟩ := hrel
    have HX := Lib.hid hnx
    clear hnx
    have HBW := Lib.hid (show Below w.heap.size w wr from HF.out.2.2.trans (HX.out.mono HF.out.2.2.size))
    have HI := Lib.hid (HS.out.below HBW.out)
    have HT := Lib.hid (HF.out.1.keep HX.out)
    have HR2 := Lib.hid (row_keep HF.out.2.1 HX.out)
    by_cases hlt : k < n
    · have HK : Hid (∀ W', Below wr.heap.size wr W' → W'.cell? ⟨gr, 0, none⟩ = some (.int .i64 n) ∧ W'.cell? ⟨gr, 1, none⟩ = some (.slice a len cap) ∧ W'.heap[gf]? = some (.cells (formA t ys) 103 (0, 0)) ∧ Below wr.heap.size wr W') :=
        Lib.hid (fun W' hW => ⟨(HT.out.keep hW).2.1, (HT.out.keep hW).2.2, row_keep HR2.out hW, hW⟩)
      cases hq : eqF n (rotZ n zs 1 k) t ys
      · have HQ := Lib.hid hq
        have HN2 : Hid (∀ j : Nat, j < k + 1 → eqF n (rotZ n zs 1 j) t ys = false) := Lib.hid (fun j hj => by
          by_cases e : j = k
          · subst e; exact HQ.out
          · exact HN.out j (by omega))
        clear hq
        go_wp2
        refine wp_region_held_drew (S := fun W' => W'.cell? ⟨gr, 0, none⟩ = some (.int .i64 n) ∧ W'.cell? ⟨gr, 1, none⟩ = some (.slice a len cap) ∧ W'.heap[gf]? = some (.cells (formA t ys) 103 (0, 0)) ∧ Below wr.heap.size wr W') (by kernel_rfl) (HK.out _ (Below.refl _ _).drew) (fun hS0 => ?_)
        refine wpAnyH_take (i := 0) (oi := ⟨some 11, _, _, _, _, _⟩) (v := rhy n a len cap) rfl (by kernel_rfl) (by kernel_rfl) (by kernel_rfl) (fun _ _ _ h => h) (Or.inl ⟨by rfl, fun w' hSw => by obtain ⟨q1, q2, _⟩ := hSw; go_simp⟩) (by assumption) ?_
        try simp only [Act.put, List.setIfInBounds_toArray, List.set_cons_zero, List.set_cons_succ]
        refine wpAnyH_take (i := 1) (oi := ⟨some 12, _, _, _, _, _⟩) (v := .int .i64 k) rfl (by kernel_rfl) (by kernel_rfl) (by kernel_rfl) (fun _ _ _ h => h) (Or.inl ⟨by rfl, fun w' hSw => by go_simp⟩) (by assumption) ?_
        try simp only [Act.put, List.setIfInBounds_toArray, List.set_cons_zero, List.set_cons_succ]
        refine wpAnyH_take (i := 4) (oi := ⟨some 15, _, _, _, _, _⟩) (v := formV t ys) rfl (by kernel_rfl) (by kernel_rfl) (by kernel_rfl) (fun _ _ _ h => h) (Or.inl ⟨by rfl, fun w' hSw => exec_form rfl rfl hSw.2.2.1⟩) (by assumption) ?_
        try simp only [Act.put, List.setIfInBounds_toArray, List.set_cons_zero, List.set_cons_succ]
        refine wpAnyH_ready (rs := [2]) (by kernel_rfl) (by simp) ?_
        refine AllReadyH.cons rfl (fun K hKK => ?_) AllReadyH.nil
        go_simp
        go_at_call 65
        refine (moved_of n a len cap zs 1 k _ (HI.out.below (Below.refl _ _).drew) hm HOK.out (by omega) (by omega) (by omega) (by omega) (gcd_one n)).mono ?_
        rintro e w2 ⟨b1, c1, rfl, hown, hc1⟩
        have hb1 := (Below.refl wr.heap.size wr).drew.trans hc1
        have hi1 : IntsAt w2 b1 (rotZ n zs (1) k).length (rotZ n zs (1) k) := intsAt_own hown (rotZ_int HOK.out.1.2)
        clear hown hc1
        refine hKK.out _ _ (HK.out _ hb1) (fun hS1 => ?_)
        clear hKK K
        try simp only [Act.put, List.setIfInBounds_toArray, List.set_cons_zero, List.set_cons_succ]
        refine wpAnyH_ready (rs := [3]) (by kernel_rfl) (by simp) ?_
        refine AllReadyH.cons rfl (fun K hKK => ?_) AllReadyH.nil
        go_simp
        go_at_call 122
        refine (form_any n b1 (rotZ n zs (1) k).length c1 (rotZ n zs (1) k) w2 hi1 (by have := rotZ_len (s := n) (zs := zs) (u := 1) (k := k) HOK.out.1.2; omega) (rot_ok HOK.out.1 _ _)).mono ?_
        rintro e w3 ⟨rfl, hc2⟩
        have hb2 := hb1.trans (hc2.mono hb1.size)
        clear hc2
        refine hKK.out _ _ (HK.out _ hb2) (fun hS2 => ?_)
        clear hKK K
        try simp only [Act.put, List.setIfInBounds_toArray, List.set_cons_zero, List.set_cons_succ]
        refine wpAnyH_take (i := 5) (oi := ⟨some 16, _, _, _, _, _⟩) (v := .bool false) rfl (by kernel_rfl) (by kernel_rfl) (by kernel_rfl) (fun _ _ _ h => h) (Or.inl ⟨by rfl, fun w' hSw => (exec_eql rfl (s := n) (xs := rotZ n zs (1) k) rfl rfl w').trans (by rw [HQ.out])⟩) (by assumption) ?_
        try simp only [Act.put, List.setIfInBounds_toArray, List.set_cons_zero, List.set_cons_succ]
        refine wpAnyH_done (by kernel_rfl) ?_ _
        have HX2 := Lib.hid hb2
        obtain ⟨y0, y1, y2, y3⟩ := hS2
        clear hb1 hi1 hS0 hS1 y2 y3 hb2 HK
        go_wp2
        go_roundw
        case rel => exact ⟨k + 1, by omega, by go_num, HN2, HX.out.trans (HX2.out.mono HX.out.size)⟩
        case measure => simp [intOf]; omega
      · have HQ := Lib.hid hq
        have HE := Lib.hid (rotToW_at HOK.out HOY.out hlt HN.out HQ.out)
        clear hq
        go_wp2
        refine wp_region_held_drew (S := fun W' => W'.cell? ⟨gr, 0, none⟩ = some (.int .i64 n) ∧ W'.cell? ⟨gr, 1, none⟩ = some (.slice a len cap) ∧ W'.heap[gf]? = some (.cells (formA t ys) 103 (0, 0)) ∧ Below wr.heap.size wr W') (by kernel_rfl) (HK.out _ (Below.refl _ _).drew) (fun hS0 => ?_)
        refine wpAnyH_take (i := 0) (oi := ⟨some 11, _, _, _, _, _⟩) (v := rhy n a len cap) rfl (by kernel_rfl) (by kernel_rfl) (by kernel_rfl) (fun _ _ _ h => h) (Or.inl ⟨by rfl, fun w' hSw => by obtain ⟨q1, q2, _⟩ := hSw; go_simp⟩) (by assumption) ?_
        try simp only [Act.put, List.setIfInBounds_toArray, List.set_cons_zero, List.set_cons_succ]
        refine wpAnyH_take (i := 1) (oi := ⟨some 12, _, _, _, _, _⟩) (v := .int .i64 k) rfl (by kernel_rfl) (by kernel_rfl) (by kernel_rfl) (fun _ _ _ h => h) (Or.inl ⟨by rfl, fun w' hSw => by go_simp⟩) (by assumption) ?_
        try simp only [Act.put, List.setIfInBounds_toArray, List.set_cons_zero, List.set_cons_succ]
        refine wpAnyH_take (i := 4) (oi := ⟨some 15, _, _, _, _, _⟩) (v := formV t ys) rfl (by kernel_rfl) (by kernel_rfl) (by kernel_rfl) (fun _ _ _ h => h) (Or.inl ⟨by rfl, fun w' hSw => exec_form rfl rfl hSw.2.2.1⟩) (by assumption) ?_
        try simp only [Act.put, List.setIfInBounds_toArray, List.set_cons_zero, List.set_cons_succ]
        refine wpAnyH_ready (rs := [2]) (by kernel_rfl) (by simp) ?_
        refine AllReadyH.cons rfl (fun K hKK => ?_) AllReadyH.nil
        go_simp
        go_at_call 65
        refine (moved_of n a len cap zs 1 k _ (HI.out.below (Below.refl _ _).drew) hm HOK.out (by omega) (by omega) (by omega) (by omega) (gcd_one n)).mono ?_
        rintro e w2 ⟨b1, c1, rfl, hown, hc1⟩
        have hb1 := (Below.refl wr.heap.size wr).drew.trans hc1
        have hi1 : IntsAt w2 b1 (rotZ n zs (1) k).length (rotZ n zs (1) k) := intsAt_own hown (rotZ_int HOK.out.1.2)
        clear hown hc1
        refine hKK.out _ _ (HK.out _ hb1) (fun hS1 => ?_)
        clear hKK K
        try simp only [Act.put, List.setIfInBounds_toArray, List.set_cons_zero, List.set_cons_succ]
        refine wpAnyH_ready (rs := [3]) (by kernel_rfl) (by simp) ?_
        refine AllReadyH.cons rfl (fun K hKK => ?_) AllReadyH.nil
        go_simp
        go_at_call 122
        refine (form_any n b1 (rotZ n zs (1) k).length c1 (rotZ n zs (1) k) w2 hi1 (by have := rotZ_len (s := n) (zs := zs) (u := 1) (k := k) HOK.out.1.2; omega) (rot_ok HOK.out.1 _ _)).mono ?_
        rintro e w3 ⟨rfl, hc2⟩
        have hb2 := hb1.trans (hc2.mono hb1.size)
        clear hc2
        refine hKK.out _ _ (HK.out _ hb2) (fun hS2 => ?_)
        clear hKK K
        try simp only [Act.put, List.setIfInBounds_toArray, List.set_cons_zero, List.set_cons_succ]
        refine wpAnyH_take (i := 5) (oi := ⟨some 16, _, _, _, _, _⟩) (v := .bool true) rfl (by kernel_rfl) (by kernel_rfl) (by kernel_rfl) (fun _ _ _ h => h) (Or.inl ⟨by rfl, fun w' hSw => (exec_eql rfl (s := n) (xs := rotZ n zs (1) k) rfl rfl w').trans (by rw [HQ.out])⟩) (by assumption) ?_
        try simp only [Act.put, List.setIfInBounds_toArray, List.set_cons_zero, List.set_cons_succ]
        refine wpAnyH_done (by kernel_rfl) ?_ _
        have HX2 := Lib.hid hb2
        obtain ⟨y0, y1, y2, y3⟩ := hS2
        clear hb1 hi1 hS0 hS1 y2 y3 hb2 HK
        go_wp2
        go_ret
        exact ⟨ret_int HE.out.symm, HBW.out.trans (HX2.out.mono HBW.out.size)⟩
    · have e : k = n := by omega
      have HE := Lib.hid (rotToW_none HOK.out HOY.out (fun j hj => HN.out j (by omega)))
      clear e
      go_wp2
      go_ret
      exact ⟨ret_int HE.out.symm, HBW.out⟩

theorem axesP_yes {n : Nat} {zs : List Int} {k : Nat} (h : eqB (rotZ n zs (-1) k) zs = true) : axesP n zs (k + 1) = axesP n zs k ++ [(k : Int)] := by
  unfold axesP
  rw [List.range_succ, List.map_append, List.filter_append]
  simp only [List.map_cons, List.map_nil, List.filter_cons, List.filter_nil]
  rw [show Int.ofNat k = (k : Int) from rfl, if_pos h]
theorem axesP_no {n : Nat} {zs : List Int} {k : Nat} (h : eqB (rotZ n zs (-1) k) zs = false) : axesP n zs (k + 1) = axesP n zs k := by
  unfold axesP
  rw [List.range_succ, List.map_append, List.filter_append]
  simp only [List.map_cons, List.map_nil, List.filter_cons, List.filter_nil]
  rw [show Int.ofNat k = (k : Int) from rfl, h]
  simp
theorem axesP_len (n : Int) (zs : List Int) (k : Nat) : (axesP n zs k).length ≤ k := by
  unfold axesP
  refine Nat.le_trans (List.length_filter_le _ _) ?_
  simp
theorem axesP_int (n : Int) (zs : List Int) (k : Nat) (hk : k ≤ 1000) : AllInt (axesP n zs k) := by
  intro z hz
  unfold axesP at hz
  rw [List.mem_filter, List.mem_map] at hz
  obtain ⟨⟨i, hi, rfl⟩, _⟩ := hz
  rw [List.mem_range] at hi
  show -9223372036854775808 ≤ (i : Int) ∧ (i : Int) ≤ 9223372036854775807
  omega


end Go.Proofs.Ytcppmcacjjjjeaa.Rhy
