/-
  Helpers of the claims beside this text: canons: VoicesAt, LineOf and CountClashes of the model.
-/
import Derived.Test.YthnlakdfbalgdaaCnc
namespace Go.Proofs.Ythnlakdfbalgdaa.Rhy
open Go.RowKit
set_option linter.unusedVariables false
set_option linter.unusedSimpArgs false

theorem ok_mem' {s : Int} {zs : List Int} (h : Ok s zs) : ∀ z ∈ zs, -1000 ≤ z ∧ z ≤ 1000 := fun z hz => by
  obtain ⟨j, hj⟩ := List.mem_iff_getElem?.1 hz
  have := ok_at h hj
  have := h.1
  omega
noncomputable def vatZ (s : Int) (xs : List Int) (t : Int) (ys : List Int) (p : Int) : List Int := cZ (CC s xs t ys ∧ -1000 ≤ p ∧ p ≤ 1000) (atL s xs ys p)
theorem atL_len {s : Int} {xs ys : List Int} {p : Int} : (atL s xs ys p).length ≤ ys.length := atK_len _ _ _ _ _
theorem cc_len {s t : Int} {xs ys : List Int} (h : CC s xs t ys) : xs.length ≤ 24 ∧ ys.length ≤ 24 := ⟨ok_len' h.1.1, ok_len' h.1.2.1⟩
theorem vatZ_int (s : Int) (xs : List Int) (t : Int) (ys : List Int) (p : Int) : AllInt (vatZ s xs t ys p) := by
  unfold vatZ
  by_cases h : CC s xs t ys ∧ -1000 ≤ p ∧ p ≤ 1000
  · rw [cZ_yes h]; exact atK_int (by have := (cc_len h.1).2; omega)
  · rw [cZ_no h]; intro z hz; cases hz
theorem vatZ_len (s : Int) (xs : List Int) (t : Int) (ys : List Int) (p : Int) : (vatZ s xs t ys p).length ≤ 24 :=
  cZ_len fun h => Nat.le_trans atL_len (cc_len h.1).2

/-- The number of a pulse in a line. -/
def lineN : List Int → Int
  | [] => -1
  | [v] => v
  | _ => -2
def linL (s : Int) (xs ys : List Int) (k : Nat) : List Int := (List.range k).map fun j : Nat => lineN (atL s xs ys j)
theorem linL_len (s : Int) (xs ys : List Int) (k : Nat) : (linL s xs ys k).length = k := by simp [linL]
theorem linL_snoc (s : Int) (xs ys : List Int) (k : Nat) : linL s xs ys (k + 1) = linL s xs ys k ++ [lineN (atL s xs ys k)] := by simp [linL, List.range_succ]
theorem lineN_two {l : List Int} (h : 2 ≤ l.length) : lineN l = -2 := by
  match l, h with
  | a :: b :: m, _ => rfl
theorem lineN_bd {l : List Int} {n : Int} (h : ∀ z ∈ l, 0 ≤ z ∧ z < n) (hn : 0 ≤ n) : -2 ≤ lineN l ∧ (lineN l < n ∨ lineN l < 0) := by
  match l, h with
  | [], _ => exact ⟨by decide, .inr (by decide)⟩
  | [v], h => have := h v (by simp); exact ⟨by show -2 ≤ v; omega, .inl this.2⟩
  | a :: b :: m, _ => exact ⟨Int.le_refl _, .inr (by show (-2 : Int) < 0; decide)⟩
theorem linL_mem {s : Int} {xs ys : List Int} {k : Nat} {z : Int} (h : z ∈ linL s xs ys k) : -2 ≤ z ∧ (z < ys.length ∨ z < 0) := by
  simp only [linL, List.mem_map] at h
  obtain ⟨j, _, rfl⟩ := h
  exact lineN_bd (n := ys.length) (fun z hz => atK_mem hz) (by omega)
theorem linL_int {s : Int} {xs ys : List Int} {k : Nat} (h : ys.length ≤ 1048576) : AllInt (linL s xs ys k) := fun z hz => by
  have := linL_mem hz
  omega
noncomputable def linZ (s : Int) (xs : List Int) (t : Int) (ys : List Int) : List Int := cZ (CC s xs t ys) (linL s xs ys s.toNat)
theorem linZ_int (s : Int) (xs : List Int) (t : Int) (ys : List Int) : AllInt (linZ s xs t ys) := by
  unfold linZ
  by_cases h : CC s xs t ys
  · rw [cZ_yes h]; exact linL_int (by have := (cc_len h).2; omega)
  · rw [cZ_no h]; intro z hz; cases hz
theorem linZ_len (s : Int) (xs : List Int) (t : Int) (ys : List Int) : (linZ s xs t ys).length ≤ 24 :=
  cZ_len fun h => by rw [linL_len]; have := h.1.1.1; omega
noncomputable def claN (s : Int) (xs : List Int) (t : Int) (ys : List Int) : Int := @ite _ (CC s xs t ys) (Classical.propDecidable _) (((linL s xs ys s.toNat).count (-2) : Nat) : Int) (-1)
theorem claN_yes {s t : Int} {xs ys : List Int} (h : CC s xs t ys) : claN s xs t ys = (((linL s xs ys s.toNat).count (-2) : Nat) : Int) := by simp [claN, h]
theorem claN_no {s t : Int} {xs ys : List Int} (h : ¬ CC s xs t ys) : claN s xs t ys = -1 := by simp [claN, h]

set_option maxHeartbeats 1000000 in
set_option maxRecDepth 100000 in
theorem vat_spec (s : Int) (a : Option Addr) (n ca : Nat) (xs : List Int) (t : Int) (b : Option Addr) (m cb : Nat) (ys : List Int) (p : Int) (w : World) (ha : IntsAt w a n xs) (hn : xs.length ≤ 1048576) (hb : IntsAt w b m ys) (hm : ys.length ≤ 1048576) (h3 : -9223372036854775808 ≤ p) (h4 : p ≤ 9223372036854775807) :
    Calls Try.prog 59 #[can s a n ca t b m cb, .int .i64 p] w (IPost (vatZ s xs t ys p) w) := by
  obtain ⟨W0, hW⟩ : ∃ W0, W0 = w.alloc (canCells s a n ca t b m cb 29) := ⟨_, rfl⟩
  have HW := Lib.hid hW
  have HB := Lib.hid (show Below w.heap.size w W0 by rw [hW]; exact bel1 w _)
  have HT := Lib.hid (show Four W0 w.heap.size (.int .i64 s) (.slice a n ca) (.int .i64 t) (.slice b m cb) by rw [hW]; exact four_new w _ _ _ _ _)
  clear hW
  have hl : n ≤ 1048576 := by have := ha.1; omega
  have hlm : m ≤ 1048576 := by have := hb.1; omega
  have FA := Lib.hid ha
  have FB := Lib.hid hb
  clear ha hb
  have HC := Lib.hid (fun W hA hB => cok_spec s a n ca xs t b m cb ys W hA hn hB hm)
  by_cases hc : CC s xs t ys
  · rw [cB_yes hc] at HC
    by_cases hp : -1000 ≤ p ∧ p ≤ 1000
    · have HE : Hid (vatZ s xs t ys p = atL s xs ys p) := Lib.hid (cZ_yes ⟨hc, hp⟩)
      have HA := Lib.hid (fun W hA hB => at_spec s a n ca xs t b m cb ys p W hA hl hB hlm (by have := hc.1.1.1; omega) (by have := hc.1.1.1; omega) (ok_mem' hc.1.2.1) (by omega) (by omega))
      clear hc
      go_enter Try.func59, Try.ntmps59
      go_wp2_with fail
      rw [← HW.out]
      refine (HC.out _ (FA.out.below HB.out) (FB.out.below HB.out)).mono ?_
      rintro e w1 ⟨rfl, hb1⟩
      have B1 := Lib.hid (HB.out.trans (hb1.mono HB.out.size))
      have T1 := Lib.hid (HT.out.keep hb1)
      obtain ⟨t0, t1, t2, t3, t4⟩ := T1.out
      clear hb1
      go_wp2_with fail
      refine (in_yes p (-1000) 1000 _ (by omega) (by omega)).mono ?_
      rintro e w2 ⟨rfl, rfl⟩
      go_wp2_with fail
      refine (HA.out _ (FA.out.below B1.out) (FB.out.below B1.out)).mono ?_
      rintro e w3 ⟨a3, c3, rfl, hown3, hb3⟩
      have B3 := Lib.hid (B1.out.trans (hb3.mono B1.out.size))
      have O3 := Lib.hid (own_base hown3 B1.out.size)
      clear hown3 hb3
      go_wp2
      go_ret
      rw [HE.out]
      exact ⟨a3, c3, rfl, O3.out, B3.out⟩
    · have HE : Hid (vatZ s xs t ys p = []) := Lib.hid (cZ_no (fun h => hp h.2))
      clear hc
      go_enter Try.func59, Try.ntmps59
      go_wp2_with fail
      rw [← HW.out]
      refine (HC.out _ (FA.out.below HB.out) (FB.out.below HB.out)).mono ?_
      rintro e w1 ⟨rfl, hb1⟩
      have B1 := Lib.hid (HB.out.trans (hb1.mono HB.out.size))
      clear hb1
      go_wp2_with fail
      refine (in_no p (-1000) 1000 _ hp).mono ?_
      rintro e w2 ⟨rfl, rfl⟩
      go_wp2
      go_ret
      rw [HE.out]
      exact ⟨none, 0, rfl, World.ownsRow_nil _ _ _ _, B1.out⟩
  · rw [cB_no hc] at HC
    have HE : Hid (vatZ s xs t ys p = []) := Lib.hid (cZ_no (fun h => hc h.1))
    clear hc
    go_enter Try.func59, Try.ntmps59
    go_wp2_with fail
    rw [← HW.out]
    refine (HC.out _ (FA.out.below HB.out) (FB.out.below HB.out)).mono ?_
    rintro e w1 ⟨rfl, hb1⟩
    have B1 := Lib.hid (HB.out.trans (hb1.mono HB.out.size))
    clear hb1
    go_wp2
    go_ret
    rw [HE.out]
    exact ⟨none, 0, rfl, World.ownsRow_nil _ _ _ _, B1.out⟩

set_option maxHeartbeats 2000000 in
set_option maxRecDepth 100000 in
theorem lin_spec (s : Int) (a : Option Addr) (n ca : Nat) (xs : List Int) (t : Int) (b : Option Addr) (m cb : Nat) (ys : List Int) (w : World) (ha : IntsAt w a n xs) (hn : xs.length ≤ 1048576) (hb : IntsAt w b m ys) (hm : ys.length ≤ 1048576) :
    Calls Try.prog 45 #[can s a n ca t b m cb] w (IPost (linZ s xs t ys) w) := by
  obtain ⟨W0, hW⟩ : ∃ W0, W0 = w.alloc (canCells s a n ca t b m cb 29) := ⟨_, rfl⟩
  have HW := Lib.hid hW
  have HB := Lib.hid (show Below w.heap.size w W0 by rw [hW]; exact bel1 w _)
  have HT := Lib.hid (show Four W0 w.heap.size (.int .i64 s) (.slice a n ca) (.int .i64 t) (.slice b m cb) by rw [hW]; exact four_new w _ _ _ _ _)
  clear hW
  have hl : n ≤ 1048576 := by have := ha.1; omega
  have hlm : m ≤ 1048576 := by have := hb.1; omega
  have FA := Lib.hid ha
  have FB := Lib.hid hb
  clear ha hb
  have HC := Lib.hid (fun W hA hB => cok_spec s a n ca xs t b m cb ys W hA hn hB hm)
  by_cases hc : CC s xs t ys
  · rw [cB_yes hc] at HC
    have HE : Hid (linZ s xs t ys = linL s xs ys s.toNat) := Lib.hid (cZ_yes hc)
    have hyl := (cc_len hc).2
    obtain ⟨q, rfl⟩ : ∃ q : Nat, s = q := ⟨s.toNat, by have := hc.1.1.1; omega⟩
    have hq1 : 1 ≤ q ∧ q ≤ 24 := by have := hc.1.1.1; omega
    have HA := Lib.hid (fun (k : Nat) (hk : k ≤ 1000) W hA hB => at_spec q a n ca xs t b m cb ys k W hA hl hB hlm (by omega) (by omega) (ok_mem' hc.1.2.1) (by omega) (by omega))
    clear hc
    go_enter Try.func45, Try.ntmps45
    go_wp2_with fail
    rw [← HW.out]
    refine (HC.out _ (FA.out.below HB.out) (FB.out.below HB.out)).mono ?_
    rintro e w1 ⟨rfl, hb1⟩
    have B1 := Lib.hid (HB.out.trans (hb1.mono HB.out.size))
    have T1 := Lib.hid (HT.out.keep hb1)
    clear hb1
    have HV1 := Lib.hid (vec_made w1)
    go_wp2
    go_loopw [3, 4] (fun v i wr => ∃ k : Nat, k ≤ q ∧ i = .int .i64 k ∧ VecAt (linL q xs ys k) w1 wr v) (fun _ i _ => q - (intOf i).toNat)
    case atStart => exact ⟨0, by omega, rfl, HV1.out⟩
    case round =>
      obtain ⟨k, hk, rfl, hvec⟩ := hrel
      obtain ⟨P, hP⟩ : ∃ P, linL q xs ys k = P := ⟨_, rfl⟩
      rw [hP] at hvec
      have HPP := Lib.hid hP
      have HPL : P.length ≤ 1048577 := by rw [← hP, linL_len]; omega
      have HV := Lib.hid hvec
      obtain ⟨av, cv, rfl, hown, hnx, hsz⟩ := hvec
      have HX := Lib.hid hnx
      have HR := Lib.hid (B1.out.trans (hnx.mono B1.out.size))
      have T2 := Lib.hid (T1.out.keep hnx)
      have HZ := Lib.hid hsz
      clear hown hnx hsz hP
      obtain ⟨x0, x1, x2, x3, x4⟩ := T2.out
      by_cases hlt : k < q
      · go_wp2_with fail
        refine (HA.out k (by omega) _ (FA.out.below HR.out) (FB.out.below HR.out)).mono ?_
        rintro e w2 ⟨a2, c2, rfl, hown2, hb2⟩
        have HV2 := vec_keep HV.out hb2
        obtain ⟨av', cv', hv', ho2, hx2, hs2⟩ := HV2
        obtain ⟨rfl, rfl⟩ : av = av' ∧ cv = cv' := by simpa using hv'
        have HOW := Lib.hid ho2
        have HX2 := Lib.hid hx2
        have HZ2 := Lib.hid hs2
        have HN := Lib.hid (linL_snoc q xs ys k)
        have hint : AllInt (atL q xs ys k) := atK_int (by omega)
        have hal : (atL q xs ys k).length ≤ 24 := Nat.le_trans atL_len hyl
        have HI := Lib.hid (intsAt_own hown2 hint)
        clear hv' ho2 hx2 hs2 hown2 hb2 hint
        rcases hL : atL q xs ys k with _ | ⟨z0, _ | ⟨z1, M⟩⟩
        · rw [hL] at HN HI hal
          simp only [List.length_nil]
          go_wp2_with (at_builtin; refine append_int rfl _ _ rfl w1.heap.size _ P _ _ HOW.out HPL HZ2.out _ rfl rfl rfl ?_; intro a' c' w' hown' hb'; have HO2 := Lib.hid hown'; have HX3 := Lib.hid hb'; clear hown' hb')
          go_roundw
          case rel =>
            refine ⟨k + 1, by omega, by go_num, ?_⟩
            rw [HN.out, HPP.out]
            have := vec_snoc HX2.out HZ2.out HO2.out HX3.out
            simpa [lineN] using this
          case measure => simp [intOf]; omega
        · rw [hL] at HN HI hal
          simp only [List.length_cons, List.length_nil, Nat.zero_add]
          obtain ⟨b5, off5, z5, rfl, hb5, hs5, hc5, _, _⟩ := HI.out.at (k := 0) (by simp)
          obtain rfl : z0 = z5 := by simpa using hs5
          clear hs5
          simp only [Nat.add_zero] at hc5
          go_wp2_with (at_builtin; refine append_int rfl _ _ rfl w1.heap.size _ P _ _ HOW.out HPL HZ2.out _ rfl rfl rfl ?_; intro a' c' w' hown' hb'; have HO2 := Lib.hid hown'; have HX3 := Lib.hid hb'; clear hown' hb')
          go_roundw
          case rel =>
            refine ⟨k + 1, by omega, by go_num, ?_⟩
            rw [HN.out, HPP.out]
            have := vec_snoc HX2.out HZ2.out HO2.out HX3.out
            simpa [lineN] using this
          case measure => simp [intOf]; omega
        · rw [hL] at HN HI hal
          simp only [List.length_cons] at hal ⊢
          obtain ⟨l, hl'⟩ : ∃ l : Nat, M.length + 1 + 1 = l := ⟨_, rfl⟩
          rw [hl'] at hal ⊢
          have e0 : ((l : Int) == 0) = false := by simp; omega
          have e1 : ((l : Int) == 1) = false := by simp; omega
          clear hl'
          go_wp2_with (at_builtin; refine append_int rfl _ _ rfl w1.heap.size _ P _ _ HOW.out HPL HZ2.out _ rfl rfl rfl ?_; intro a' c' w' hown' hb'; have HO2 := Lib.hid hown'; have HX3 := Lib.hid hb'; clear hown' hb')
          go_roundw
          case rel =>
            refine ⟨k + 1, by omega, by go_num, ?_⟩
            rw [HN.out, HPP.out]
            have := vec_snoc HX2.out HZ2.out HO2.out HX3.out
            simpa [lineN] using this
          case measure => simp [intOf]; omega
      · have e : k = q := by omega
        have HF : Hid (linZ q xs t ys = P) := Lib.hid (by rw [HE.out, ← HPP.out, e, Int.toNat_natCast])
        have HOW := Lib.hid HV.out
        clear e
        go_wp2
        go_ret
        rw [HF.out]
        obtain ⟨av', cv', hv', ho2, hx2, hs2⟩ := HOW.out
        obtain ⟨rfl, rfl⟩ : av = av' ∧ cv = cv' := by simpa using hv'
        exact ⟨av, cv, rfl, own_base ho2 B1.out.size, HR.out⟩
  · rw [cB_no hc] at HC
    have HE : Hid (linZ s xs t ys = []) := Lib.hid (cZ_no hc)
    clear hc
    go_enter Try.func45, Try.ntmps45
    go_wp2_with fail
    rw [← HW.out]
    refine (HC.out _ (FA.out.below HB.out) (FB.out.below HB.out)).mono ?_
    rintro e w1 ⟨rfl, hb1⟩
    have B1 := Lib.hid (HB.out.trans (hb1.mono HB.out.size))
    clear hb1
    go_wp2
    go_ret
    rw [HE.out]
    exact ⟨none, 0, rfl, World.ownsRow_nil _ _ _ _, B1.out⟩

theorem count_snoc2 (l : List Int) (z : Int) : (l ++ [z]).count (-2) = l.count (-2) + (if z = -2 then 1 else 0) := by
  rw [List.count_append, List.count_singleton]
  by_cases h : z = -2
  · simp [h]
  · simp [h]
theorem count_take {l : List Int} {k : Nat} {z : Int} (h : l[k]? = some z) : (l.take (k + 1)).count (-2) = (l.take k).count (-2) + (if z = -2 then 1 else 0) := by
  rw [List.take_add_one, h]
  exact count_snoc2 _ _

set_option maxHeartbeats 2000000 in
set_option maxRecDepth 100000 in
theorem cla_spec (s : Int) (a : Option Addr) (n ca : Nat) (xs : List Int) (t : Int) (b : Option Addr) (m cb : Nat) (ys : List Int) (w : World) (ha : IntsAt w a n xs) (hn : xs.length ≤ 1048576) (hb : IntsAt w b m ys) (hm : ys.length ≤ 1048576) :
    Calls Try.prog 36 #[can s a n ca t b m cb] w fun e w' => e = .returned (.int .i64 (claN s xs t ys)) ∧ Below w.heap.size w w' := by
  obtain ⟨W0, hW⟩ : ∃ W0, W0 = w.alloc (canCells s a n ca t b m cb 29) := ⟨_, rfl⟩
  have HW := Lib.hid hW
  have HB := Lib.hid (show Below w.heap.size w W0 by rw [hW]; exact bel1 w _)
  have HT := Lib.hid (show Four W0 w.heap.size (.int .i64 s) (.slice a n ca) (.int .i64 t) (.slice b m cb) by rw [hW]; exact four_new w _ _ _ _ _)
  clear hW
  have FA := Lib.hid ha
  have FB := Lib.hid hb
  clear ha hb
  have HC := Lib.hid (fun W hA hB => cok_spec s a n ca xs t b m cb ys W hA hn hB hm)
  by_cases hc : CC s xs t ys
  · rw [cB_yes hc] at HC
    have HE : Hid (claN s xs t ys = (((linZ s xs t ys).count (-2) : Nat) : Int)) := Lib.hid (by rw [claN_yes hc]; unfold linZ; rw [cZ_yes hc])
    clear hc
    go_enter Try.func36, Try.ntmps36
    go_wp2_with fail
    rw [← HW.out]
    refine (HC.out _ (FA.out.below HB.out) (FB.out.below HB.out)).mono ?_
    rintro e w1 ⟨rfl, hb1⟩
    have B1 := Lib.hid (HB.out.trans (hb1.mono HB.out.size))
    have T1 := Lib.hid (HT.out.keep hb1)
    obtain ⟨t0, t1, t2, t3, t4⟩ := T1.out
    clear hb1
    go_wp2_with fail
    refine (lin_spec s a n ca xs t b m cb ys _ (FA.out.below B1.out) hn (FB.out.below B1.out) hm).mono ?_
    rintro e w2 ⟨a2, c2, rfl, hown2, hb2⟩
    have B2 := Lib.hid (B1.out.trans (hb2.mono B1.out.size))
    have HI := Lib.hid (intsAt_own hown2 (linZ_int s xs t ys))
    have hll := linZ_len s xs t ys
    obtain ⟨L, hL⟩ : ∃ L, linZ s xs t ys = L := ⟨_, rfl⟩
    rw [hL] at HI HE hll ⊢
    clear hown2 hb2 hL
    go_wp2
    go_loop [3, 12] (fun v i => ∃ k : Nat, k ≤ L.length ∧ i = .int .i64 k ∧ v = .int .i64 ((L.take k).count (-2) : Nat)) (fun _ i => L.length - (intOf i).toNat)
    case atStart => exact ⟨0, by omega, rfl, rfl⟩
    case round =>
      obtain ⟨k, hk, rfl, rfl⟩ := hrel
      by_cases hlt : k < L.length
      · obtain ⟨b5, off5, z5, rfl, hb5, hs5, hc5, hz1, hz2⟩ := HI.out.at hlt
        have HN := Lib.hid (count_take hs5)
        have hcl : (L.take k).count (-2) ≤ 24 := Nat.le_trans List.count_le_length (by rw [List.length_take]; omega)
        generalize (L.take k).count (-2) = c at HN hcl ⊢
        clear hs5
        by_cases hz : z5 = -2
        · rw [if_pos hz] at HN
          subst hz
          go_wp2
          go_round
          case rel => exact ⟨k + 1, by omega, by go_num, by rw [HN.out]; go_num⟩
          case measure => simp [intOf]; omega
        · rw [if_neg hz] at HN
          have hzb : (z5 == -2) = false := by simpa using hz
          clear hz
          go_wp2
          go_round
          case rel => exact ⟨k + 1, by omega, by go_num, by rw [HN.out]; rfl⟩
          case measure => simp [intOf]; omega
      · have e : k = L.length := by omega
        have HF : Hid (claN s xs t ys = ((L.take k).count (-2) : Nat)) := Lib.hid (by rw [HE.out, e, List.take_of_length_le (Nat.le_refl _)])
        clear e
        go_wp2
        go_ret
        exact ⟨ret_int HF.out.symm, B2.out⟩
  · rw [cB_no hc] at HC
    have HE : Hid (claN s xs t ys = -1) := Lib.hid (claN_no hc)
    clear hc
    go_enter Try.func36, Try.ntmps36
    go_wp2_with fail
    rw [← HW.out]
    refine (HC.out _ (FA.out.below HB.out) (FB.out.below HB.out)).mono ?_
    rintro e w1 ⟨rfl, hb1⟩
    have B1 := Lib.hid (HB.out.trans (hb1.mono HB.out.size))
    clear hb1
    go_wp2
    go_ret
    exact ⟨ret_int HE.out.symm, B1.out⟩
end Go.Proofs.Ythnlakdfbalgdaa.Rhy
