/-
  Helpers of the claims beside this text: canons: the program's sounds, LineOf and CountClashes.
-/
import Derived.Test.YthnlakdfbalgdaaCnh
namespace Go.Proofs.Ythnlakdfbalgdaa.Rhy
open Go.RowKit
set_option linter.unusedVariables false
set_option linter.unusedSimpArgs false

theorem infoSnd : (Try.prog.info? 77).map (fun i => (i.zero, i.size, i.bytes)) = some (some .nilIface, 1, 16) := by kernel_rfl
/-- 'sounds = append(sounds, s)' at a slice of sounds of the call's own. -/
theorem append_snd {ops : Array Oper} {rest : List Oper} {o : Oper} {a : Act} {Q : Exit → Act → World → Prop} (hgd : o.guard = none) (x y : Operand)
    (ho : o.op = .call { callee := .builtin .append, args := #[x, y], argTypes := #[74, 74] })
    (B : Nat) (v : Value) (l : List Value) (t : Value) (ht : t.oneCell' = true) (w0 : World) (hown : w0.ownsRow B 77 1 v l.length l) (hl : l.length ≤ 1048577) (hB : B ≤ w0.heap.size) (N : Nat) (hN : N = w0.heap.size)
    (hs : a.eval x = v) (hx : a.eval y = .slice (some ⟨N, 0, none⟩) 1 1)
    (h : ∀ v' w', w'.ownsRow B 77 1 v' (l ++ [t]).length (l ++ [t]) → Below B w0 w' → wpList Try.prog ops Q rest (a.put o.dst v') w') :
    wpList Try.prog ops Q (o :: rest) a (w0.alloc (.cells #[t] 77)) := by
  obtain ⟨i0, hi, hz0, hz1, hz2⟩ := info_parts infoSnd
  subst hN
  refine wpList_append_own _ hgd x y 74 ho B 77 i0 .nilIface 1 16 Try.underlying74 hi hz0 hz1 hz2 rfl (by decide) v l.length l hs (hown.alloc _) ⟨w0.heap.size, 0, none⟩ 1 1 [t] hx rfl (cell_one_new _ _ _) ?_ ?_ ?_ ?_ ?_
  · intro u hu
    simp at hu
    subst hu
    exact ht
  · unfold maxLen; omega
  · omega
  · exact Nat.le_trans hB (by show w0.heap.size ≤ (w0.heap.push _).size; simp)
  · intro v' w' ho' hg _
    refine h v' w' (by simpa using ho') ?_
    refine (((Below.refl B w0).alloc hB _).grown hg (Nat.le_trans hB (by show w0.heap.size ≤ (w0.heap.push _).size; simp)) fun k hk => (hown.lt k hk).1)
theorem SndV.one {v : Value} {l : List Int} (h : SndV v l) : v.oneCell' = true := by
  rcases h with ⟨_, rfl⟩ | ⟨x, _, rfl⟩ | ⟨_, a, cap, rfl⟩ <;> rfl
theorem own_slice {w : World} {B : Nat} {e : TypeId} {v : Value} {n : Nat} {l : List Value} (h : w.ownsRow B e 1 v n l) : ∃ a cap, v = .slice a n cap := by
  obtain ⟨_, ⟨rfl, h0⟩ | ⟨g, cap, cur, rfl, _⟩⟩ := h
  · exact ⟨none, 0, by rw [h0]⟩
  · exact ⟨_, cap, rfl⟩
theorem own_at {w : World} {B : Nat} {e : TypeId} {a : Option Addr} {cap n : Nat} {l : List Value} (h : w.ownsRow B e 1 (.slice a n cap) n l) {k : Nat} {u : Value} (hu : l[k]? = some u) : ∃ g, a = some ⟨g, 0, none⟩ ∧ g < w.heap.size ∧ w.cell? ⟨g, k, none⟩ = some u := by
  have hc := @World.ownsRow.cells w B e 1 _ n l h
  have hlt := h.lt
  obtain ⟨h1, ⟨h2, h0⟩ | ⟨g, cap', cur, hv, hB, hg, hn, hm, hs, ht⟩⟩ := h
  · have : l = [] := List.eq_nil_of_length_eq_zero (by omega)
    subst this
    simp at hu
  · simp at hv
    obtain ⟨rfl, rfl⟩ := hv
    refine ⟨g, rfl, (hlt g rfl).2, ?_⟩
    have := hc (g := g) rfl k u hu
    rcases k with _ | k <;> simpa [Addr.add] using this

/-- The sounds of the first k pulses. -/
def Snds (s : Int) (xs ys : List Int) (k : Nat) (vs : List Value) : Prop := vs.length = k ∧ ∀ (i : Nat) (v : Value), vs[i]? = some v → SndV v (atL s xs ys i)
theorem Snds.snoc {s : Int} {xs ys : List Int} {k : Nat} {vs : List Value} {v : Value} (h : Snds s xs ys k vs) (hv : SndV v (atL s xs ys k)) : Snds s xs ys (k + 1) (vs ++ [v]) := by
  refine ⟨by simp [h.1], fun i u hu => ?_⟩
  by_cases hi : i < k
  · rw [List.getElem?_append_left (by rw [h.1]; exact hi)] at hu
    exact h.2 i u hu
  · rw [List.getElem?_append_right (by rw [h.1]; omega), h.1] at hu
    by_cases he : i = k
    · subst he
      simp at hu
      subst hu
      exact hv
    · rw [List.getElem?_eq_none (by simp; omega)] at hu
      cases hu

set_option maxHeartbeats 2000000 in
set_option maxRecDepth 100000 in
theorem snds_impl (q : Nat) (a : Option Addr) (n ca : Nat) (xs : List Int) (t : Int) (b : Option Addr) (m cb : Nat) (ys : List Int) (w : World) (ha : IntsAt w a n xs) (hn : n ≤ 1048576) (hb : IntsAt w b m ys) (hm : m ≤ 1048576) (h0 : 1 ≤ q) (h1 : q ≤ 24) (hy : ∀ z ∈ ys, -1000 ≤ z ∧ z ≤ 1000) :
    Calls Try.prog 66 #[can q a n ca t b m cb] w fun e w' => ∃ p cap vs, e = .returned (.slice p q cap) ∧ Snds q xs ys q vs ∧ w'.ownsRow w.heap.size 77 1 (.slice p q cap) q vs ∧ Below w.heap.size w w' := by
  have FA := Lib.hid ha
  have FB := Lib.hid hb
  have HA := Lib.hid (fun (k : Nat) (hk : k ≤ 1000) W hA hB => snd_impl q a n ca xs t b m cb ys k W hA hn hB hm (by omega) (by omega) hy (by omega) (by omega))
  clear ha hb hy
  obtain ⟨W0, hW⟩ : ∃ W0, W0 = w.alloc (canCells q a n ca t b m cb 29) := ⟨_, rfl⟩
  have HW := Lib.hid hW
  have HB := Lib.hid (show Below w.heap.size w W0 by rw [hW]; exact bel1 w _)
  have HT := Lib.hid (show Four W0 w.heap.size (.int .i64 q) (.slice a n ca) (.int .i64 t) (.slice b m cb) by rw [hW]; exact four_new w _ _ _ _ _)
  clear hW
  obtain ⟨t0, t1, t2, t3, t4⟩ := HT.out
  go_enter Try.func66, Try.ntmps66
  go_wp2_with fail
  rw [← HW.out]
  go_wp2
  go_loopw [3, 8] (fun v i wr => ∃ (k : Nat) (vs : List Value), k ≤ q ∧ i = .int .i64 k ∧ Snds q xs ys k vs ∧ wr.ownsRow W0.heap.size 77 1 v k vs ∧ Below W0.heap.size W0 wr) (fun _ i _ => q - (intOf i).toNat)
  case atStart => exact ⟨0, [], by omega, rfl, ⟨rfl, fun i v h => by simp at h⟩, World.ownsRow_nil _ _ _ _, Below.refl _ _⟩
  case round =>
    obtain ⟨k, vs, hk, rfl, hsn, hown, hnx⟩ := hrel
    have HSN := Lib.hid hsn
    have HX := Lib.hid hnx
    have HR := Lib.hid (HB.out.trans (hnx.mono HB.out.size))
    have T1 := Lib.hid (HT.out.keep hnx)
    have hsz := hnx.size
    obtain ⟨av, cv, rfl⟩ := own_slice hown
    have hvl : vs.length = k := hsn.1
    have HO := Lib.hid hown
    clear t0 t1 t2 t3 t4 hsn hnx hown
    obtain ⟨x0, x1, x2, x3, x4⟩ := T1.out
    by_cases hlt : k < q
    · go_wp2_with fail
      refine (HA.out k (by omega) _ (FA.out.below HR.out) (FB.out.below HR.out)).mono ?_
      rintro e w2 ⟨v2, rfl, hs2, hb2⟩
      have O2 := Lib.hid (own_below HO.out hb2)
      have X2 := Lib.hid (HX.out.trans (hb2.mono hsz))
      have hz2 : W0.heap.size ≤ w2.heap.size := Nat.le_trans hsz hb2.size
      have HV := Lib.hid hs2.val
      subst hvl
      have hcase := hs2.val
      clear hs2 hb2
      obtain ⟨l9, hl9⟩ : ∃ l9, atL (q : Int) xs ys (vs.length : Nat) = l9 := ⟨_, rfl⟩
      have HL9 := Lib.hid hl9
      rw [hl9] at hcase HV
      clear hl9
      rcases hcase with ⟨_, rfl⟩ | ⟨x9, _, rfl⟩ | ⟨_, a9, cap9, rfl⟩
      all_goals
        go_wp2_with (at_builtin; refine append_snd rfl _ _ rfl W0.heap.size _ vs _ rfl _ O2.out (by omega) hz2 _ rfl rfl rfl ?_; intro v' w' hown' hb'; have HO2 := Lib.hid hown'; have HX3 := Lib.hid hb'; clear hown' hb')
        go_roundw
        case rel => exact ⟨vs.length + 1, vs ++ [_], by omega, by go_num, HSN.out.snoc (by rw [HL9.out]; exact HV.out), by simpa using HO2.out, X2.out.trans HX3.out⟩
        case measure => simp [intOf]; omega
    · have e : k = q := by omega
      subst e
      go_wp2
      go_ret
      exact ⟨av, cv, vs, rfl, HSN.out, own_base HO.out HB.out.size, HR.out⟩

set_option maxHeartbeats 2000000 in
set_option maxRecDepth 100000 in
theorem lin_impl (s : Int) (a : Option Addr) (n ca : Nat) (xs : List Int) (t : Int) (b : Option Addr) (m cb : Nat) (ys : List Int) (w : World) (ha : IntsAt w a n xs) (hn : xs.length ≤ 1048576) (hb : IntsAt w b m ys) (hm : ys.length ≤ 1048576) :
    Calls Try.prog 19 #[can s a n ca t b m cb] w (IPost (linZ s xs t ys) w) := by
  obtain ⟨W0, hW⟩ : ∃ W0, W0 = w.alloc (canCells s a n ca t b m cb 29) := ⟨_, rfl⟩
  have HW := Lib.hid hW
  have HB := Lib.hid (show Below w.heap.size w W0 by rw [hW]; exact bel1 w _)
  have HT := Lib.hid (show Four W0 w.heap.size (.int .i64 s) (.slice a n ca) (.int .i64 t) (.slice b m cb) by rw [hW]; exact four_new w _ _ _ _ _)
  clear hW
  have hl : n ≤ 1048576 := by have := ha.1; omega
  have hlm : m ≤ 1048576 := by have := hb.1; omega
  have FA := Lib.hid ha
  have FB := Lib.hid hb
  clear ha hb
  have HC := Lib.hid (fun W hA hB => cval_impl s a n ca xs t b m cb ys W hA hn hB hm)
  by_cases hc : CC s xs t ys
  · rw [cB_yes hc] at HC
    have HE : Hid (linZ s xs t ys = linL s xs ys s.toNat) := Lib.hid (cZ_yes hc)
    have hyl := (cc_len hc).2
    obtain ⟨q, rfl⟩ : ∃ q : Nat, s = q := ⟨s.toNat, by have := hc.1.1.1; omega⟩
    have hq1 : 1 ≤ q ∧ q ≤ 24 := by have := hc.1.1.1; omega
    have HA := Lib.hid (fun W hA hB => snds_impl q a n ca xs t b m cb ys W hA hl hB hlm hq1.1 hq1.2 (ok_mem' hc.1.2.1))
    clear hc
    go_enter Try.func19, Try.ntmps19
    go_wp2_with fail
    rw [← HW.out]
    refine (HC.out _ (FA.out.below HB.out) (FB.out.below HB.out)).mono ?_
    rintro e w1 ⟨rfl, hb1⟩
    have B1 := Lib.hid (HB.out.trans (hb1.mono HB.out.size))
    have T1 := Lib.hid (HT.out.keep hb1)
    obtain ⟨t0, t1, t2, t3, t4⟩ := T1.out
    clear hb1
    go_wp2_with fail
    refine (HA.out _ (FA.out.below B1.out) (FB.out.below B1.out)).mono ?_
    rintro e w2 ⟨p2, c2, vs, rfl, hsn, hown2, hb2⟩
    have B2 := Lib.hid (B1.out.trans (hb2.mono B1.out.size))
    have O2 := Lib.hid hown2
    have HSN := Lib.hid hsn
    have hvl : vs.length = q := hsn.1
    clear hown2 hb2 hsn
    go_wp2
    go_loopw [3, 12] (fun v i wr => ∃ k : Nat, k ≤ q ∧ i = .int .i64 k ∧ VecAt (linL q xs ys k) w2 wr v) (fun _ i _ => q - (intOf i).toNat)
    case atStart => exact ⟨0, by omega, rfl, vec_nil w2⟩
    case round =>
      obtain ⟨k, hk, rfl, av, cv, rfl, hown, hnx, hsz⟩ := hrel
      obtain ⟨P, hP⟩ : ∃ P, linL q xs ys k = P := ⟨_, rfl⟩
      rw [hP] at hown ⊢
      have HPP := Lib.hid hP
      have HPL : P.length ≤ 1048577 := by rw [← hP, linL_len]; omega
      have HOW := Lib.hid hown
      have HX := Lib.hid hnx
      have HZ := Lib.hid hsz
      by_cases hlt : k < q
      · obtain ⟨v, hv⟩ : ∃ v, vs[k]? = some v := ⟨_, List.getElem?_eq_getElem (by omega)⟩
        obtain ⟨g, rfl, hgl, hgc⟩ := own_at O2.out hv
        have HV := Lib.hid (HSN.out.2 k v hv)
        have hc5 : wr.cell? ⟨g, k, none⟩ = some v := by rw [hnx.cell (p := ⟨g, k, none⟩) hgl]; exact hgc
        clear hown hnx hsz hP hv hgc
        go_wp2_with fail
        refine (lin_num HV.out _).mono ?_
        rintro e w3 ⟨rfl, hb3⟩
        have O3 := Lib.hid (own_below HOW.out hb3)
        have X3 := Lib.hid (HX.out.trans (hb3.mono HZ.out))
        have Z3 := Lib.hid (Nat.le_trans HZ.out hb3.size)
        have HN := Lib.hid (linL_snoc q xs ys k)
        clear hb3
        go_wp2_with (at_builtin; refine append_int rfl _ _ rfl w2.heap.size _ P _ _ O3.out HPL Z3.out _ rfl rfl rfl ?_; intro a' c' w' hown' hb'; have HO2 := Lib.hid hown'; have HX2 := Lib.hid hb'; clear hown' hb')
        go_roundw
        case rel =>
          refine ⟨k + 1, by omega, by go_num, ?_⟩
          rw [HN.out, HPP.out]
          have := vec_snoc X3.out Z3.out HO2.out HX2.out
          simpa using this
        case measure => simp [intOf]; omega
      · have e : k = q := by omega
        have HF : Hid (linZ q xs t ys = P) := Lib.hid (by rw [HE.out, ← HPP.out, e, Int.toNat_natCast])
        clear e hown hnx hsz hP
        go_wp2
        go_ret
        rw [HF.out]
        exact ⟨av, cv, rfl, own_base HOW.out B2.out.size, B2.out.trans (HX.out.mono B2.out.size)⟩
  · rw [cB_no hc] at HC
    have HE : Hid (linZ s xs t ys = []) := Lib.hid (cZ_no hc)
    clear hc
    go_enter Try.func19, Try.ntmps19
    go_wp2_with fail
    rw [← HW.out]
    refine (HC.out _ (FA.out.below HB.out) (FB.out.below HB.out)).mono ?_
    rintro e w1 ⟨rfl, hb1⟩
    have B1 := Lib.hid (HB.out.trans (hb1.mono HB.out.size))
    clear hb1
    go_wp2
    go_ret
    rw [HE.out]
    exact ⟨none, 0, rfl, World.ownsRow_nil _ _ _ _, B1.out⟩

theorem cnt_lin (s : Int) (xs ys : List Int) (k : Nat) : (linL s xs ys (k + 1)).count (-2) = (linL s xs ys k).count (-2) + (if 2 ≤ (atL s xs ys k).length then 1 else 0) := by
  rw [linL_snoc, count_snoc2]
  congr 1
  rcases h : atL s xs ys k with _ | ⟨z0, _ | ⟨z1, M⟩⟩
  · simp [lineN]
  · have := atK_mem (show z0 ∈ atL s xs ys k by rw [h]; simp)
    have e : ¬ lineN [z0] = -2 := by show ¬ z0 = -2; omega
    simp [e]
  · simp [lineN]

attribute [local go_sem] as_sv as_sk as_vv as_vk as_kv as_kk
set_option maxHeartbeats 2000000 in
set_option maxRecDepth 100000 in
theorem cla_impl (s : Int) (a : Option Addr) (n ca : Nat) (xs : List Int) (t : Int) (b : Option Addr) (m cb : Nat) (ys : List Int) (w : World) (ha : IntsAt w a n xs) (hn : xs.length ≤ 1048576) (hb : IntsAt w b m ys) (hm : ys.length ≤ 1048576) :
    Calls Try.prog 22 #[can s a n ca t b m cb] w fun e w' => e = .returned (.int .i64 (claN s xs t ys)) ∧ Below w.heap.size w w' := by
  obtain ⟨W0, hW⟩ : ∃ W0, W0 = w.alloc (canCells s a n ca t b m cb 29) := ⟨_, rfl⟩
  have HW := Lib.hid hW
  have HB := Lib.hid (show Below w.heap.size w W0 by rw [hW]; exact bel1 w _)
  have HT := Lib.hid (show Four W0 w.heap.size (.int .i64 s) (.slice a n ca) (.int .i64 t) (.slice b m cb) by rw [hW]; exact four_new w _ _ _ _ _)
  clear hW
  have hl : n ≤ 1048576 := by have := ha.1; omega
  have hlm : m ≤ 1048576 := by have := hb.1; omega
  have FA := Lib.hid ha
  have FB := Lib.hid hb
  clear ha hb
  have HC := Lib.hid (fun W hA hB => cval_impl s a n ca xs t b m cb ys W hA hn hB hm)
  by_cases hc : CC s xs t ys
  · rw [cB_yes hc] at HC
    have HE := Lib.hid (claN_yes hc)
    obtain ⟨q, rfl⟩ : ∃ q : Nat, s = q := ⟨s.toNat, by have := hc.1.1.1; omega⟩
    have hq1 : 1 ≤ q ∧ q ≤ 24 := by have := hc.1.1.1; omega
    have HA := Lib.hid (fun W hA hB => snds_impl q a n ca xs t b m cb ys W hA hl hB hlm hq1.1 hq1.2 (ok_mem' hc.1.2.1))
    clear hc
    go_enter Try.func22, Try.ntmps22
    go_wp2_with fail
    rw [← HW.out]
    refine (HC.out _ (FA.out.below HB.out) (FB.out.below HB.out)).mono ?_
    rintro e w1 ⟨rfl, hb1⟩
    have B1 := Lib.hid (HB.out.trans (hb1.mono HB.out.size))
    have T1 := Lib.hid (HT.out.keep hb1)
    obtain ⟨t0, t1, t2, t3, t4⟩ := T1.out
    clear hb1
    go_wp2_with fail
    refine (HA.out _ (FA.out.below B1.out) (FB.out.below B1.out)).mono ?_
    rintro e w2 ⟨p2, c2, vs, rfl, hsn, hown2, hb2⟩
    have B2 := Lib.hid (B1.out.trans (hb2.mono B1.out.size))
    have O2 := Lib.hid hown2
    have HSN := Lib.hid hsn
    have hvl : vs.length = q := hsn.1
    clear hown2 hb2 hsn
    go_wp2
    go_loop [3, 14] (fun v i => ∃ k : Nat, k ≤ q ∧ i = .int .i64 k ∧ v = .int .i64 ((linL q xs ys k).count (-2) : Nat)) (fun _ i => q - (intOf i).toNat)
    case atStart => exact ⟨0, by omega, rfl, rfl⟩
    case round =>
      obtain ⟨k, hk, rfl, rfl⟩ := hrel
      by_cases hlt : k < q
      · obtain ⟨v, hv⟩ : ∃ v, vs[k]? = some v := ⟨_, List.getElem?_eq_getElem (by omega)⟩
        obtain ⟨g, rfl, hgl, hc5⟩ := own_at O2.out hv
        have hcase := HSN.out.2 k v hv
        have HN := Lib.hid (cnt_lin q xs ys k)
        have hcl : (linL q xs ys k).count (-2) ≤ 24 := Nat.le_trans List.count_le_length (by rw [linL_len]; omega)
        generalize (linL q xs ys k).count (-2) = c at HN hcl ⊢
        generalize atL q xs ys k = L at HN hcase
        clear hv
        rcases hcase with ⟨rfl, rfl⟩ | ⟨x9, rfl, rfl⟩ | ⟨h9, a9, cap9, rfl⟩
        · go_wp2
          go_round
          case rel => exact ⟨k + 1, by omega, by go_num, by rw [HN.out]; rfl⟩
          case measure => simp [intOf]; omega
        · go_wp2
          go_round
          case rel => exact ⟨k + 1, by omega, by go_num, by rw [HN.out]; rfl⟩
          case measure => simp [intOf]; omega
        · rw [if_pos h9] at HN
          go_wp2
          go_round
          case rel => exact ⟨k + 1, by omega, by go_num, by rw [HN.out]; go_num⟩
          case measure => simp [intOf]; omega
      · have e : k = q := by omega
        have HF : Hid (claN q xs t ys = ((linL q xs ys k).count (-2) : Nat)) := Lib.hid (by rw [HE.out, e, Int.toNat_natCast])
        clear e
        go_wp2
        go_ret
        exact ⟨ret_int HF.out.symm, B2.out⟩
  · rw [cB_no hc] at HC
    have HE : Hid (claN s xs t ys = -1) := Lib.hid (claN_no hc)
    clear hc
    go_enter Try.func22, Try.ntmps22
    go_wp2_with fail
    rw [← HW.out]
    refine (HC.out _ (FA.out.below HB.out) (FB.out.below HB.out)).mono ?_
    rintro e w1 ⟨rfl, hb1⟩
    have B1 := Lib.hid (HB.out.trans (hb1.mono HB.out.size))
    clear hb1
    go_wp2
    go_ret
    exact ⟨ret_int HE.out.symm, B1.out⟩
end Go.Proofs.Ythnlakdfbalgdaa.Rhy
