/-
  Helpers of the claims beside this text: the law on forms.
-/
import Derived.Test.YtmlhpllppgcgkaaLwe
import Derived.Deep.DeepCutAuto
import Derived.BigFrame
namespace Go.Proofs.Ytmlhpllppgcgkaa.Rhy
open Go.RowKit
open Go.Proofs.Ytmlhpllppgcgkaa.Cur
set_option linter.unusedVariables false

theorem bytes_up {B : Nat} {w w' : World} {a : Option Addr} {len : Nat} (h : BytesAt B w a len) (hb : Below B w w') (hB : B ≤ w'.heap.size) : BytesAt w'.heap.size w' a len := by
  have h3 := h.below hb
  exact ⟨h3.1, fun hp => by obtain ⟨b, off, e, hlt, hc⟩ := h3.2 hp; exact ⟨b, off, e, by omega, hc⟩⟩

set_option maxHeartbeats 8000000 in
set_option maxRecDepth 100000 in
theorem forms_walk (a : Option Addr) (len cap : Nat) (w : World) (hb : len ≤ 1048576 → BytesAt w.heap.size w a len) :
    Calls Try.prog 4 #[.slice a len cap] w fun e w' => e = .returned (.bool true) ∧ Below w.heap.size w w' := by
  by_cases hlen : len ≤ 1048576
  · have HBY := Lib.hid (hb hlen)
    clear hb
    go_enter Try.func4, Try.ntmps4
    go_wp2_with fail
    refine (make_any a len cap 0 14 w HBY.out (by omega) (by omega) (by omega)).mono ?_
    rintro e w1 ⟨n0, b0, c0, zs0, rfl, hok, hn, hown, hb1⟩
    have HO0 := Lib.hid hok
    have HN0 := Lib.hid hn
    have HR0 : Hid (RhAt (putR w1 n0 b0 zs0.length c0) w1.heap.size n0 b0 c0 zs0) := Lib.hid (rhAt_put hown (ok_allInt hok))
    have HB0 := Lib.hid (show Below w.heap.size w (putR w1 n0 b0 zs0.length c0) from hb1.trans ((putR_below _ _ _ _ _).mono hb1.size))
    have hge1 : w.heap.size ≤ w1.heap.size := hb1.size
    have hge1' : w.heap.size ≤ (putR w1 n0 b0 zs0.length c0).heap.size := by rw [putR_size]; omega
    clear hok hn hown hb1
    go_wp2_with fail
    refine (num_any a len cap 30 (putR w1 n0 b0 zs0.length c0) (bytes_up HBY.out HB0.out hge1') (by omega)).mono ?_
    rintro e w2 ⟨q0, rfl, hq0, hq1, hb2⟩
    have HR1 := Lib.hid (HR0.out.keep hb2)
    have HB1 := Lib.hid (show Below w.heap.size w w2 from HB0.out.trans (hb2.mono hge1'))
    have hge2 : w1.heap.size < w2.heap.size := HR1.out.1.lt
    obtain ⟨gr, hgr⟩ : ∃ gr, gr = w1.heap.size := ⟨_, rfl⟩
    have HGR := Lib.hid hgr
    have HRc := Lib.hid (show RhAt w2 gr n0 b0 c0 zs0 by rw [hgr]; exact HR1.out)
    have HGW := Lib.hid (show w.heap.size ≤ gr by omega)
    clear hb2 hgr
    go_upto_if 33 with fail
    rw [← HGR.out]
    go_cut [3] (fun v wx => v = .pointer (some ⟨gr, 0, none⟩) ∧ ∃ (n : Nat) (b : Option Addr) (c : Nat) (zs : List Int), Ok n zs ∧ RhAt wx gr n b c zs ∧ Below w.heap.size w wx)
    case first =>
      have ltr : gr < w2.heap.size := HRc.out.1.lt
      obtain ⟨p0, p1, p2, p3⟩ := HRc.out.1.facts
      go_wp2_with fail
      · refine (make_any a len cap 0 6 w2 (bytes_up HBY.out HB1.out HB1.out.size) (by omega) (by omega) (by omega)).mono ?_
        rintro e w3 ⟨n1, b1, c1, zs1, rfl, hok3, hn3, hown3, hb3⟩
        have HR3 := Lib.hid (HRc.out.keep hb3)
        have HI3 := Lib.hid (intsAt_own hown3 (ok_allInt hok3))
        have HO3 := Lib.hid hok3
        have HB3 := Lib.hid (show Below w.heap.size w w3 from HB1.out.trans (hb3.mono HB1.out.size))
        clear hown3 hb3 hok3 p0 p1 p2 p3 ltr
        go_wp2_with fail
        refine (num_any a len cap 32 w3 (bytes_up HBY.out HB3.out HB3.out.size) (by omega)).mono ?_
        rintro e w4 ⟨q1, rfl, hq10, hq11, hb4⟩
        have HR4 := Lib.hid (HR3.out.keep hb4)
        have HI4 := Lib.hid (HI3.out.below hb4)
        have HB4 := Lib.hid (show Below w.heap.size w w4 from HB3.out.trans (hb4.mono HB3.out.size))
        clear hb4
        obtain ⟨k, hk, hk1, hk4⟩ : ∃ k : Nat, 1 + q1 % 4 = (k : Int) ∧ 1 ≤ k ∧ k ≤ 4 := ⟨(1 + q1 % 4).toNat, by omega, by omega, by omega⟩
        have HK := Lib.hid hk
        clear hk
        have hkn : (k : Int) * n1 ≤ 24 := Int.le_trans (Int.mul_le_mul (show (k : Int) ≤ 4 by omega) (show (n1 : Int) ≤ 6 by omega) (by omega) (by omega)) (by omega)
        have HKN := Lib.hid hkn
        clear hkn
        go_wp2_with fail
        rw [HK.out]
        refine (rep_spec n1 b1 zs1.length c1 zs1 k w4 HI4.out (by have := ok_len HO3.out; omega) (by omega) (by omega)).mono ?_
        rintro e w5 hcp
        obtain ⟨b5, c5, rfl, hown5, hb5⟩ := cpost_open ⟨HO3.out, by omega, HKN.out⟩ hcp
        have HO5 := Lib.hid (repN_ok HO3.out hk1 HKN.out)
        have HR5 := Lib.hid (HR4.out.keep hb5)
        have HB5 := Lib.hid (show Below w.heap.size w w5 from HB4.out.trans (hb5.mono HB4.out.size))
        have HI5 := Lib.hid (intsAt_own hown5 (ok_allInt (repN_ok HO3.out hk1 HKN.out)))
        have HOW5 := Lib.hid hown5
        have hgr4 : gr < w4.heap.size := HR4.out.1.lt
        clear hown5 hb5 hcp
        obtain ⟨m, hm⟩ : ∃ m : Nat, (k : Int) * n1 = m := ⟨((k : Int) * n1).toNat, by have := HO5.out.1.1; omega⟩
        obtain ⟨zs5, hz5⟩ : ∃ l, l = repL n1 zs1 (k : Int).toNat := ⟨_, rfl⟩
        have HZ5 := Lib.hid hz5
        have HO6 : Hid (Ok m zs5) := Lib.hid (by rw [hz5, ← hm]; exact HO5.out)
        have HI6 : Hid (IntsAt w5 b5 zs5.length zs5) := Lib.hid (by rw [hz5]; exact HI5.out)
        have HM := Lib.hid hm
        have HOW6 : Hid (w5.ownsRow w4.heap.size 3 1 (.slice b5 zs5.length c5) zs5.length (ints zs5)) := Lib.hid (by rw [hz5]; exact HOW5.out)
        clear hm hz5
        rw [← HZ5.out, HM.out]
        have ltr : gr < w5.heap.size := HR5.out.1.lt
        obtain ⟨p0, p1, p2, p3⟩ := HR5.out.1.facts
        go_wp2
        go_meet
        refine ⟨rfl, m, b5, c5, zs5, HO6.out, ⟨?_, ?_⟩, ?_⟩
        · exact Box.keep ((HR5.out.1.set0 _).set1 _) (bel1 _ _) (by simp; exact HR5.out.1.lt)
        · exact IntsAt.below (intsAt_own (ownsRow_setCell_below (ownsRow_setCell_below HOW6.out hgr4 _) hgr4 _) (ok_allInt HO6.out)) (bel1 _ _)
        · exact (((HB5.out.setCell HGW.out _).setCell HGW.out _)).alloc (by simp; exact HB5.out.size) _
      · go_meet
        exact ⟨rfl, n0, b0, c0, zs0, HO0.out, HRc.out, HB1.out⟩
    case rest =>
      obtain ⟨rfl, n, b, c, zs, hok, hrr, hbl⟩ := hcut
      have HO := Lib.hid hok
      have HXr := Lib.hid hrr
      have HBL := Lib.hid hbl
      have hn1 : 1 ≤ n := by have := hok.1.1; omega
      have hn24 : n ≤ 24 := by have := hok.1.2; omega
      obtain ⟨p, hp⟩ : ∃ p, perZ n zs = p := ⟨_, rfl⟩
      obtain ⟨q, hq⟩ : ∃ q, (axesZ n zs).length = q := ⟨_, rfl⟩
      obtain ⟨f, hf⟩ : ∃ l, leastZ n zs = l := ⟨_, rfl⟩
      obtain ⟨g, hg⟩ : ∃ l, formZ n zs = l := ⟨_, rfl⟩
      obtain ⟨m, hm⟩ : ∃ l, rotZ n zs (-1) 0 = l := ⟨_, rfl⟩
      have HP := Lib.hid hp
      have HQ := Lib.hid hq
      have HF := Lib.hid hf
      have HG := Lib.hid hg
      have HM := Lib.hid hm
      have HOf : Hid (Ok n f) := Lib.hid (by rw [← hf]; exact least_ok hok)
      have HOg : Hid (Ok n g) := Lib.hid (by rw [← hg]; exact form_ok hok)
      have HOm : Hid (Ok n m) := Lib.hid (by rw [← hm]; exact rot_ok hok.1 _ _)
      have HGm : Hid (formZ n m = g) := Lib.hid (by rw [← hm, form_mir hok]; exact hg)
      have HFf : Hid (leastZ n f = f) := Lib.hid (by rw [← hf, least_least hok])
      have hp1 : 1 ≤ p := by have := (per_bd n zs (by omega)).1; omega
      have hpn : p ≤ n := by have := (per_bd n zs (by omega)).2; omega
      have HDV : Hid ((n : Int) % (p : Int) = 0) := Lib.hid (by have := per_div hok; rwa [hp] at this)
      have HAX : Hid (q = 0 ∨ (q : Int) = (n : Int) / (p : Int)) := Lib.hid (by have := axes_len hok; rwa [hp, hq] at this)
      clear hok hrr hbl hp hq hf hg hm HR0 HR1 HRc HB0 HB1 HO0 HN0 HGR hge1 hge1' hge2 hq0 hq1
      obtain ⟨pr0, pr1, pr2, pr3⟩ := HXr.out.1.facts
      have ltr := HXr.out.1.lt
      go_wp2_with fail
      refine (c_per n b c zs p wc HXr.out.2 HO.out HP.out).mono ?_
      rintro e v1 ⟨rfl, hb⟩
      clear pr0 pr1 pr2 pr3 ltr
      have HXr1 := Lib.hid (HXr.out.keep hb)
      clear HXr
      have HB1x := Lib.hid (show Below w.heap.size w v1 from HBL.out.trans (hb.mono HBL.out.size))
      clear HBL hb
      obtain ⟨pr0, pr1, pr2, pr3⟩ := HXr1.out.1.facts
      have ltr := HXr1.out.1.lt
      go_wp2_with fail
      refine (c_axes n b c zs q v1 HXr1.out.2 HO.out HQ.out).mono ?_
      rintro e v2 ⟨ba, ca, rfl, hb⟩
      clear pr0 pr1 pr2 pr3 ltr
      have HXr2 := Lib.hid (HXr1.out.keep hb)
      clear HXr1
      have HB2x := Lib.hid (show Below w.heap.size w v2 from HB1x.out.trans (hb.mono HB1x.out.size))
      clear HB1x hb
      obtain ⟨pr0, pr1, pr2, pr3⟩ := HXr2.out.1.facts
      have ltr := HXr2.out.1.lt
      go_wp2_with fail
      refine (c_rots n b c zs p v2 HXr2.out.2 HO.out HP.out).mono ?_
      rintro e v3 ⟨bo, co, rfl, hb⟩
      clear pr0 pr1 pr2 pr3 ltr
      have HXr3 := Lib.hid (HXr2.out.keep hb)
      clear HXr2
      have HB3x := Lib.hid (show Below w.heap.size w v3 from HB2x.out.trans (hb.mono HB2x.out.size))
      clear HB2x hb
      obtain ⟨pr0, pr1, pr2, pr3⟩ := HXr3.out.1.facts
      have ltr := HXr3.out.1.lt
      go_wp2_with fail
      refine (c_least n b c zs f v3 HXr3.out.2 HO.out HF.out).mono ?_
      rintro e v4 ⟨bf, cf, rfl, hown, hb⟩
      clear pr0 pr1 pr2 pr3 ltr
      have HXr4 := Lib.hid (HXr3.out.keep hb)
      clear HXr3
      have HB4x := Lib.hid (show Below w.heap.size w v4 from HB3x.out.trans (hb.mono HB3x.out.size))
      clear HB3x hb
      have HXn := Lib.hid (rhAt_put (n := n) hown (ok_allInt HOf.out))
      clear hown
      have hb := putR_below v4 n bf f.length cf
      have HXr5 := Lib.hid (HXr4.out.keep hb)
      clear HXr4
      have HB5x := Lib.hid (show Below w.heap.size w (putR v4 n bf f.length cf) from HB4x.out.trans (hb.mono HB4x.out.size))
      clear HB4x hb
      have HXf5 : Hid (RhAt (putR v4 n bf f.length cf) v4.heap.size n bf cf f) := HXn
      clear HXn
      obtain ⟨pr0, pr1, pr2, pr3⟩ := HXr5.out.1.facts
      have ltr := HXr5.out.1.lt
      obtain ⟨pf0, pf1, pf2, pf3⟩ := HXf5.out.1.facts
      have ltf := HXf5.out.1.lt
      go_wp2_with fail
      refine (c_form n b c zs g (putR v4 n bf f.length cf) HXr5.out.2 HO.out HG.out).mono ?_
      rintro e v6 ⟨bg, cg, rfl, hown, hb⟩
      clear pr0 pr1 pr2 pr3 ltr pf0 pf1 pf2 pf3 ltf
      have HXr6 := Lib.hid (HXr5.out.keep hb)
      clear HXr5
      have HXf6 := Lib.hid (HXf5.out.keep hb)
      clear HXf5
      have HB6x := Lib.hid (show Below w.heap.size w v6 from HB5x.out.trans (hb.mono HB5x.out.size))
      clear HB5x hb
      have HXn := Lib.hid (rhAt_put (n := n) hown (ok_allInt HOg.out))
      clear hown
      have hb := putR_below v6 n bg g.length cg
      have HXr7 := Lib.hid (HXr6.out.keep hb)
      clear HXr6
      have HXf7 := Lib.hid (HXf6.out.keep hb)
      clear HXf6
      have HB7x := Lib.hid (show Below w.heap.size w (putR v6 n bg g.length cg) from HB6x.out.trans (hb.mono HB6x.out.size))
      clear HB6x hb
      have HXg7 : Hid (RhAt (putR v6 n bg g.length cg) v6.heap.size n bg cg g) := HXn
      clear HXn
      obtain ⟨pr0, pr1, pr2, pr3⟩ := HXr7.out.1.facts
      have ltr := HXr7.out.1.lt
      obtain ⟨pf0, pf1, pf2, pf3⟩ := HXf7.out.1.facts
      have ltf := HXf7.out.1.lt
      obtain ⟨pg0, pg1, pg2, pg3⟩ := HXg7.out.1.facts
      have ltg := HXg7.out.1.lt
      go_wp2_with fail
      refine (c_mir n b c zs m (putR v6 n bg g.length cg) HXr7.out.2 HO.out HM.out).mono ?_
      rintro e v8 ⟨bm, cm, rfl, hown, hb⟩
      clear pr0 pr1 pr2 pr3 ltr pf0 pf1 pf2 pf3 ltf pg0 pg1 pg2 pg3 ltg
      have HXr8 := Lib.hid (HXr7.out.keep hb)
      clear HXr7
      have HXf8 := Lib.hid (HXf7.out.keep hb)
      clear HXf7
      have HXg8 := Lib.hid (HXg7.out.keep hb)
      clear HXg7
      have HB8x := Lib.hid (show Below w.heap.size w v8 from HB7x.out.trans (hb.mono HB7x.out.size))
      clear HB7x hb
      have HXn := Lib.hid (rhAt_put (n := n) hown (ok_allInt HOm.out))
      clear hown
      have hb := putR_below v8 n bm m.length cm
      have HXr9 := Lib.hid (HXr8.out.keep hb)
      clear HXr8
      have HXf9 := Lib.hid (HXf8.out.keep hb)
      clear HXf8
      have HXg9 := Lib.hid (HXg8.out.keep hb)
      clear HXg8
      have HB9x := Lib.hid (show Below w.heap.size w (putR v8 n bm m.length cm) from HB8x.out.trans (hb.mono HB8x.out.size))
      clear HB8x hb
      have HXm9 : Hid (RhAt (putR v8 n bm m.length cm) v8.heap.size n bm cm m) := HXn
      clear HXn
      obtain ⟨pr0, pr1, pr2, pr3⟩ := HXr9.out.1.facts
      have ltr := HXr9.out.1.lt
      obtain ⟨pf0, pf1, pf2, pf3⟩ := HXf9.out.1.facts
      have ltf := HXf9.out.1.lt
      obtain ⟨pg0, pg1, pg2, pg3⟩ := HXg9.out.1.facts
      have ltg := HXg9.out.1.lt
      obtain ⟨pm0, pm1, pm2, pm3⟩ := HXm9.out.1.facts
      have ltm := HXm9.out.1.lt
      go_wp2_with fail
      refine (c_form n bm cm m g (putR v8 n bm m.length cm) HXm9.out.2 HOm.out HGm.out).mono ?_
      rintro e v10 ⟨bh, ch, rfl, hown, hb⟩
      clear pr0 pr1 pr2 pr3 ltr pf0 pf1 pf2 pf3 ltf pg0 pg1 pg2 pg3 ltg pm0 pm1 pm2 pm3 ltm
      have HXr10 := Lib.hid (HXr9.out.keep hb)
      clear HXr9
      have HXf10 := Lib.hid (HXf9.out.keep hb)
      clear HXf9
      have HXg10 := Lib.hid (HXg9.out.keep hb)
      clear HXg9
      have HXm10 := Lib.hid (HXm9.out.keep hb)
      clear HXm9
      have HB10x := Lib.hid (show Below w.heap.size w v10 from HB9x.out.trans (hb.mono HB9x.out.size))
      clear HB9x hb
      have HXn := Lib.hid (rhAt_put (n := n) hown (ok_allInt HOg.out))
      clear hown
      have hb := putR_below v10 n bh g.length ch
      have HXr11 := Lib.hid (HXr10.out.keep hb)
      clear HXr10
      have HXf11 := Lib.hid (HXf10.out.keep hb)
      clear HXf10
      have HXg11 := Lib.hid (HXg10.out.keep hb)
      clear HXg10
      have HXm11 := Lib.hid (HXm10.out.keep hb)
      clear HXm10
      have HB11x := Lib.hid (show Below w.heap.size w (putR v10 n bh g.length ch) from HB10x.out.trans (hb.mono HB10x.out.size))
      clear HB10x hb
      have HXh11 : Hid (RhAt (putR v10 n bh g.length ch) v10.heap.size n bh ch g) := HXn
      clear HXn
      have HPZ := HP
      go_upto_region 16 with fail
      go_cut [139] (fun v wx => v = .bool false ∧ RhAt wx gr n b c zs ∧ RhAt wx v4.heap.size n bf cf f ∧ RhAt wx v6.heap.size n bg cg g ∧ RhAt wx v8.heap.size n bm cm m ∧ Below w.heap.size w wx)
      case first =>
        simp only [List.append_eq, List.cons_append, List.nil_append]
        by_cases hq0 : q = 0
        · obtain rfl := hq0
          by_cases hpz : p < n
          · skip
            have hdiv := HDV.out
            have hp0 : ¬ ((p : Int) < 1) := by omega
            have hp0b : decide ((p : Int) < 1) = false := decide_eq_false hp0
            have hp2 : ¬ ((p : Int) = 0) := by omega
            have hpb : decide ((p : Int) < (n : Int)) = true := by simp; omega
            obtain ⟨pr0, pr1, pr2, pr3⟩ := HXr11.out.1.facts
            have ltr := HXr11.out.1.lt
            obtain ⟨pf0, pf1, pf2, pf3⟩ := HXf11.out.1.facts
            have ltf := HXf11.out.1.lt
            obtain ⟨pg0, pg1, pg2, pg3⟩ := HXg11.out.1.facts
            have ltg := HXg11.out.1.lt
            obtain ⟨pm0, pm1, pm2, pm3⟩ := HXm11.out.1.facts
            have ltm := HXm11.out.1.lt
            obtain ⟨ph0, ph1, ph2, ph3⟩ := HXh11.out.1.facts
            have lth := HXh11.out.1.lt
            go_wp2_with fail
            refine (c_ism' n b c zs 0 false (putR v10 n bh g.length ch) HXr11.out.2 HO.out HQ.out (by simp)).mono ?_
            rintro e v12 ⟨rfl, hb⟩
            clear pr0 pr1 pr2 pr3 ltr pf0 pf1 pf2 pf3 ltf pg0 pg1 pg2 pg3 ltg pm0 pm1 pm2 pm3 ltm ph0 ph1 ph2 ph3 lth
            have HXr12 := Lib.hid (HXr11.out.keep hb)
            clear HXr11
            have HXf12 := Lib.hid (HXf11.out.keep hb)
            clear HXf11
            have HXg12 := Lib.hid (HXg11.out.keep hb)
            clear HXg11
            have HXm12 := Lib.hid (HXm11.out.keep hb)
            clear HXm11
            have HXh12 := Lib.hid (HXh11.out.keep hb)
            clear HXh11
            have HB12x := Lib.hid (show Below w.heap.size w v12 from HB11x.out.trans (hb.mono HB11x.out.size))
            clear HB11x hb
            clear hdiv hp0 hp0b hp2
            obtain ⟨pr0, pr1, pr2, pr3⟩ := HXr12.out.1.facts
            have ltr := HXr12.out.1.lt
            obtain ⟨pf0, pf1, pf2, pf3⟩ := HXf12.out.1.facts
            have ltf := HXf12.out.1.lt
            obtain ⟨pg0, pg1, pg2, pg3⟩ := HXg12.out.1.facts
            have ltg := HXg12.out.1.lt
            obtain ⟨pm0, pm1, pm2, pm3⟩ := HXm12.out.1.facts
            have ltm := HXm12.out.1.lt
            obtain ⟨ph0, ph1, ph2, ph3⟩ := HXh12.out.1.facts
            have lth := HXh12.out.1.lt
            go_wp2_with fail
            refine (c_isp' n b c zs p true v12 HXr12.out.2 HO.out HP.out (by simp; omega)).mono ?_
            rintro e v13 ⟨rfl, hb⟩
            clear pr0 pr1 pr2 pr3 ltr pf0 pf1 pf2 pf3 ltf pg0 pg1 pg2 pg3 ltg pm0 pm1 pm2 pm3 ltm ph0 ph1 ph2 ph3 lth
            have HXr13 := Lib.hid (HXr12.out.keep hb)
            clear HXr12
            have HXf13 := Lib.hid (HXf12.out.keep hb)
            clear HXf12
            have HXg13 := Lib.hid (HXg12.out.keep hb)
            clear HXg12
            have HXm13 := Lib.hid (HXm12.out.keep hb)
            clear HXm12
            have HXh13 := Lib.hid (HXh12.out.keep hb)
            clear HXh12
            have HB13x := Lib.hid (show Below w.heap.size w v13 from HB12x.out.trans (hb.mono HB12x.out.size))
            clear HB12x hb
            obtain ⟨pr0, pr1, pr2, pr3⟩ := HXr13.out.1.facts
            have ltr := HXr13.out.1.lt
            obtain ⟨pf0, pf1, pf2, pf3⟩ := HXf13.out.1.facts
            have ltf := HXf13.out.1.lt
            obtain ⟨pg0, pg1, pg2, pg3⟩ := HXg13.out.1.facts
            have ltg := HXg13.out.1.lt
            obtain ⟨pm0, pm1, pm2, pm3⟩ := HXm13.out.1.facts
            have ltm := HXm13.out.1.lt
            obtain ⟨ph0, ph1, ph2, ph3⟩ := HXh13.out.1.facts
            have lth := HXh13.out.1.lt
            go_wp2_with fail
            refine (rhythms_law n bg bh cg ch g v13 HXg13.out.2 HXh13.out.2 (by have := ok_len HOg.out; omega)).mono ?_
            rintro e v14 ⟨rfl, hb⟩
            clear pr0 pr1 pr2 pr3 ltr pf0 pf1 pf2 pf3 ltf pg0 pg1 pg2 pg3 ltg pm0 pm1 pm2 pm3 ltm ph0 ph1 ph2 ph3 lth
            have HXr14 := Lib.hid (HXr13.out.keep hb)
            clear HXr13
            have HXf14 := Lib.hid (HXf13.out.keep hb)
            clear HXf13
            have HXg14 := Lib.hid (HXg13.out.keep hb)
            clear HXg13
            have HXm14 := Lib.hid (HXm13.out.keep hb)
            clear HXm13
            have HXh14 := Lib.hid (HXh13.out.keep hb)
            clear HXh13
            have HB14x := Lib.hid (show Below w.heap.size w v14 from HB13x.out.trans (hb.mono HB13x.out.size))
            clear HB13x hb
            obtain ⟨pr0, pr1, pr2, pr3⟩ := HXr14.out.1.facts
            have ltr := HXr14.out.1.lt
            obtain ⟨pf0, pf1, pf2, pf3⟩ := HXf14.out.1.facts
            have ltf := HXf14.out.1.lt
            obtain ⟨pg0, pg1, pg2, pg3⟩ := HXg14.out.1.facts
            have ltg := HXg14.out.1.lt
            obtain ⟨pm0, pm1, pm2, pm3⟩ := HXm14.out.1.facts
            have ltm := HXm14.out.1.lt
            obtain ⟨ph0, ph1, ph2, ph3⟩ := HXh14.out.1.facts
            have lth := HXh14.out.1.lt
            go_wp2_with fail
            refine (c_ilr n bf cf f v14 HXf14.out.2 HOf.out HFf.out).mono ?_
            rintro e v15 ⟨rfl, hb⟩
            clear pr0 pr1 pr2 pr3 ltr pf0 pf1 pf2 pf3 ltf pg0 pg1 pg2 pg3 ltg pm0 pm1 pm2 pm3 ltm ph0 ph1 ph2 ph3 lth
            have HXr15 := Lib.hid (HXr14.out.keep hb)
            clear HXr14
            have HXf15 := Lib.hid (HXf14.out.keep hb)
            clear HXf14
            have HXg15 := Lib.hid (HXg14.out.keep hb)
            clear HXg14
            have HXm15 := Lib.hid (HXm14.out.keep hb)
            clear HXm14
            have HXh15 := Lib.hid (HXh14.out.keep hb)
            clear HXh14
            have HB15x := Lib.hid (show Below w.heap.size w v15 from HB14x.out.trans (hb.mono HB14x.out.size))
            clear HB14x hb
            obtain ⟨pr0, pr1, pr2, pr3⟩ := HXr15.out.1.facts
            have ltr := HXr15.out.1.lt
            go_wp2
            go_meet
            exact ⟨rfl, HXr15.out, HXf15.out, HXg15.out, HXm15.out, HB15x.out⟩
          · skip
            have hdiv := HDV.out
            have hp0 : ¬ ((p : Int) < 1) := by omega
            have hp0b : decide ((p : Int) < 1) = false := decide_eq_false hp0
            have hp2 : ¬ ((p : Int) = 0) := by omega
            have hpb : decide ((p : Int) < (n : Int)) = false := by simp; omega
            obtain ⟨pr0, pr1, pr2, pr3⟩ := HXr11.out.1.facts
            have ltr := HXr11.out.1.lt
            obtain ⟨pf0, pf1, pf2, pf3⟩ := HXf11.out.1.facts
            have ltf := HXf11.out.1.lt
            obtain ⟨pg0, pg1, pg2, pg3⟩ := HXg11.out.1.facts
            have ltg := HXg11.out.1.lt
            obtain ⟨pm0, pm1, pm2, pm3⟩ := HXm11.out.1.facts
            have ltm := HXm11.out.1.lt
            obtain ⟨ph0, ph1, ph2, ph3⟩ := HXh11.out.1.facts
            have lth := HXh11.out.1.lt
            go_wp2_with fail
            refine (c_ism' n b c zs 0 false (putR v10 n bh g.length ch) HXr11.out.2 HO.out HQ.out (by simp)).mono ?_
            rintro e v12 ⟨rfl, hb⟩
            clear pr0 pr1 pr2 pr3 ltr pf0 pf1 pf2 pf3 ltf pg0 pg1 pg2 pg3 ltg pm0 pm1 pm2 pm3 ltm ph0 ph1 ph2 ph3 lth
            have HXr12 := Lib.hid (HXr11.out.keep hb)
            clear HXr11
            have HXf12 := Lib.hid (HXf11.out.keep hb)
            clear HXf11
            have HXg12 := Lib.hid (HXg11.out.keep hb)
            clear HXg11
            have HXm12 := Lib.hid (HXm11.out.keep hb)
            clear HXm11
            have HXh12 := Lib.hid (HXh11.out.keep hb)
            clear HXh11
            have HB12x := Lib.hid (show Below w.heap.size w v12 from HB11x.out.trans (hb.mono HB11x.out.size))
            clear HB11x hb
            clear hdiv hp0 hp0b hp2
            obtain ⟨pr0, pr1, pr2, pr3⟩ := HXr12.out.1.facts
            have ltr := HXr12.out.1.lt
            obtain ⟨pf0, pf1, pf2, pf3⟩ := HXf12.out.1.facts
            have ltf := HXf12.out.1.lt
            obtain ⟨pg0, pg1, pg2, pg3⟩ := HXg12.out.1.facts
            have ltg := HXg12.out.1.lt
            obtain ⟨pm0, pm1, pm2, pm3⟩ := HXm12.out.1.facts
            have ltm := HXm12.out.1.lt
            obtain ⟨ph0, ph1, ph2, ph3⟩ := HXh12.out.1.facts
            have lth := HXh12.out.1.lt
            go_wp2_with fail
            refine (c_isp' n b c zs p false v12 HXr12.out.2 HO.out HP.out (by simp; omega)).mono ?_
            rintro e v13 ⟨rfl, hb⟩
            clear pr0 pr1 pr2 pr3 ltr pf0 pf1 pf2 pf3 ltf pg0 pg1 pg2 pg3 ltg pm0 pm1 pm2 pm3 ltm ph0 ph1 ph2 ph3 lth
            have HXr13 := Lib.hid (HXr12.out.keep hb)
            clear HXr12
            have HXf13 := Lib.hid (HXf12.out.keep hb)
            clear HXf12
            have HXg13 := Lib.hid (HXg12.out.keep hb)
            clear HXg12
            have HXm13 := Lib.hid (HXm12.out.keep hb)
            clear HXm12
            have HXh13 := Lib.hid (HXh12.out.keep hb)
            clear HXh12
            have HB13x := Lib.hid (show Below w.heap.size w v13 from HB12x.out.trans (hb.mono HB12x.out.size))
            clear HB12x hb
            obtain ⟨pr0, pr1, pr2, pr3⟩ := HXr13.out.1.facts
            have ltr := HXr13.out.1.lt
            obtain ⟨pf0, pf1, pf2, pf3⟩ := HXf13.out.1.facts
            have ltf := HXf13.out.1.lt
            obtain ⟨pg0, pg1, pg2, pg3⟩ := HXg13.out.1.facts
            have ltg := HXg13.out.1.lt
            obtain ⟨pm0, pm1, pm2, pm3⟩ := HXm13.out.1.facts
            have ltm := HXm13.out.1.lt
            obtain ⟨ph0, ph1, ph2, ph3⟩ := HXh13.out.1.facts
            have lth := HXh13.out.1.lt
            go_wp2_with fail
            refine (rhythms_law n bg bh cg ch g v13 HXg13.out.2 HXh13.out.2 (by have := ok_len HOg.out; omega)).mono ?_
            rintro e v14 ⟨rfl, hb⟩
            clear pr0 pr1 pr2 pr3 ltr pf0 pf1 pf2 pf3 ltf pg0 pg1 pg2 pg3 ltg pm0 pm1 pm2 pm3 ltm ph0 ph1 ph2 ph3 lth
            have HXr14 := Lib.hid (HXr13.out.keep hb)
            clear HXr13
            have HXf14 := Lib.hid (HXf13.out.keep hb)
            clear HXf13
            have HXg14 := Lib.hid (HXg13.out.keep hb)
            clear HXg13
            have HXm14 := Lib.hid (HXm13.out.keep hb)
            clear HXm13
            have HXh14 := Lib.hid (HXh13.out.keep hb)
            clear HXh13
            have HB14x := Lib.hid (show Below w.heap.size w v14 from HB13x.out.trans (hb.mono HB13x.out.size))
            clear HB13x hb
            obtain ⟨pr0, pr1, pr2, pr3⟩ := HXr14.out.1.facts
            have ltr := HXr14.out.1.lt
            obtain ⟨pf0, pf1, pf2, pf3⟩ := HXf14.out.1.facts
            have ltf := HXf14.out.1.lt
            obtain ⟨pg0, pg1, pg2, pg3⟩ := HXg14.out.1.facts
            have ltg := HXg14.out.1.lt
            obtain ⟨pm0, pm1, pm2, pm3⟩ := HXm14.out.1.facts
            have ltm := HXm14.out.1.lt
            obtain ⟨ph0, ph1, ph2, ph3⟩ := HXh14.out.1.facts
            have lth := HXh14.out.1.lt
            go_wp2_with fail
            refine (c_ilr n bf cf f v14 HXf14.out.2 HOf.out HFf.out).mono ?_
            rintro e v15 ⟨rfl, hb⟩
            clear pr0 pr1 pr2 pr3 ltr pf0 pf1 pf2 pf3 ltf pg0 pg1 pg2 pg3 ltg pm0 pm1 pm2 pm3 ltm ph0 ph1 ph2 ph3 lth
            have HXr15 := Lib.hid (HXr14.out.keep hb)
            clear HXr14
            have HXf15 := Lib.hid (HXf14.out.keep hb)
            clear HXf14
            have HXg15 := Lib.hid (HXg14.out.keep hb)
            clear HXg14
            have HXm15 := Lib.hid (HXm14.out.keep hb)
            clear HXm14
            have HXh15 := Lib.hid (HXh14.out.keep hb)
            clear HXh14
            have HB15x := Lib.hid (show Below w.heap.size w v15 from HB14x.out.trans (hb.mono HB14x.out.size))
            clear HB14x hb
            obtain ⟨pr0, pr1, pr2, pr3⟩ := HXr15.out.1.facts
            have ltr := HXr15.out.1.lt
            go_wp2
            go_meet
            exact ⟨rfl, HXr15.out, HXf15.out, HXg15.out, HXm15.out, HB15x.out⟩
        · have HQE : Hid ((n : Int) / (p : Int) = (q : Int)) := Lib.hid (by have := HAX.out; omega)
          have hq1 : 0 < q := by omega
          clear hq0
          by_cases hpz : p < n
          · skip
            have hdiv := HDV.out
            have hp0 : ¬ ((p : Int) < 1) := by omega
            have hp0b : decide ((p : Int) < 1) = false := decide_eq_false hp0
            have hp2 : ¬ ((p : Int) = 0) := by omega
            have hq2 : ¬ ((q : Int) = 0) := by omega
            have hq3 : ((q : Int) != 0) = true := by simp; omega
            have hq4 : decide (0 < (q : Int)) = true := by simp; omega
            have hpb : decide ((p : Int) < (n : Int)) = true := by simp; omega
            have hquo : wrap64 ((n : Int) / (p : Int)) = (q : Int) := by rw [HQE.out]; have h1 := HQE.out; have h2 := Int.ediv_le_self (a := (n : Int)) (p : Int) (by omega); unfold wrap64; omega
            obtain ⟨pr0, pr1, pr2, pr3⟩ := HXr11.out.1.facts
            have ltr := HXr11.out.1.lt
            obtain ⟨pf0, pf1, pf2, pf3⟩ := HXf11.out.1.facts
            have ltf := HXf11.out.1.lt
            obtain ⟨pg0, pg1, pg2, pg3⟩ := HXg11.out.1.facts
            have ltg := HXg11.out.1.lt
            obtain ⟨pm0, pm1, pm2, pm3⟩ := HXm11.out.1.facts
            have ltm := HXm11.out.1.lt
            obtain ⟨ph0, ph1, ph2, ph3⟩ := HXh11.out.1.facts
            have lth := HXh11.out.1.lt
            go_wp2_with fail
            refine (c_ism' n b c zs q true (putR v10 n bh g.length ch) HXr11.out.2 HO.out HQ.out (by simp; omega)).mono ?_
            rintro e v12 ⟨rfl, hb⟩
            clear pr0 pr1 pr2 pr3 ltr pf0 pf1 pf2 pf3 ltf pg0 pg1 pg2 pg3 ltg pm0 pm1 pm2 pm3 ltm ph0 ph1 ph2 ph3 lth
            have HXr12 := Lib.hid (HXr11.out.keep hb)
            clear HXr11
            have HXf12 := Lib.hid (HXf11.out.keep hb)
            clear HXf11
            have HXg12 := Lib.hid (HXg11.out.keep hb)
            clear HXg11
            have HXm12 := Lib.hid (HXm11.out.keep hb)
            clear HXm11
            have HXh12 := Lib.hid (HXh11.out.keep hb)
            clear HXh11
            have HB12x := Lib.hid (show Below w.heap.size w v12 from HB11x.out.trans (hb.mono HB11x.out.size))
            clear HB11x hb
            clear hdiv hp0 hp0b hp2 hquo
            obtain ⟨pr0, pr1, pr2, pr3⟩ := HXr12.out.1.facts
            have ltr := HXr12.out.1.lt
            obtain ⟨pf0, pf1, pf2, pf3⟩ := HXf12.out.1.facts
            have ltf := HXf12.out.1.lt
            obtain ⟨pg0, pg1, pg2, pg3⟩ := HXg12.out.1.facts
            have ltg := HXg12.out.1.lt
            obtain ⟨pm0, pm1, pm2, pm3⟩ := HXm12.out.1.facts
            have ltm := HXm12.out.1.lt
            obtain ⟨ph0, ph1, ph2, ph3⟩ := HXh12.out.1.facts
            have lth := HXh12.out.1.lt
            go_wp2_with fail
            refine (c_isp' n b c zs p true v12 HXr12.out.2 HO.out HP.out (by simp; omega)).mono ?_
            rintro e v13 ⟨rfl, hb⟩
            clear pr0 pr1 pr2 pr3 ltr pf0 pf1 pf2 pf3 ltf pg0 pg1 pg2 pg3 ltg pm0 pm1 pm2 pm3 ltm ph0 ph1 ph2 ph3 lth
            have HXr13 := Lib.hid (HXr12.out.keep hb)
            clear HXr12
            have HXf13 := Lib.hid (HXf12.out.keep hb)
            clear HXf12
            have HXg13 := Lib.hid (HXg12.out.keep hb)
            clear HXg12
            have HXm13 := Lib.hid (HXm12.out.keep hb)
            clear HXm12
            have HXh13 := Lib.hid (HXh12.out.keep hb)
            clear HXh12
            have HB13x := Lib.hid (show Below w.heap.size w v13 from HB12x.out.trans (hb.mono HB12x.out.size))
            clear HB12x hb
            obtain ⟨pr0, pr1, pr2, pr3⟩ := HXr13.out.1.facts
            have ltr := HXr13.out.1.lt
            obtain ⟨pf0, pf1, pf2, pf3⟩ := HXf13.out.1.facts
            have ltf := HXf13.out.1.lt
            obtain ⟨pg0, pg1, pg2, pg3⟩ := HXg13.out.1.facts
            have ltg := HXg13.out.1.lt
            obtain ⟨pm0, pm1, pm2, pm3⟩ := HXm13.out.1.facts
            have ltm := HXm13.out.1.lt
            obtain ⟨ph0, ph1, ph2, ph3⟩ := HXh13.out.1.facts
            have lth := HXh13.out.1.lt
            go_wp2_with fail
            refine (rhythms_law n bg bh cg ch g v13 HXg13.out.2 HXh13.out.2 (by have := ok_len HOg.out; omega)).mono ?_
            rintro e v14 ⟨rfl, hb⟩
            clear pr0 pr1 pr2 pr3 ltr pf0 pf1 pf2 pf3 ltf pg0 pg1 pg2 pg3 ltg pm0 pm1 pm2 pm3 ltm ph0 ph1 ph2 ph3 lth
            have HXr14 := Lib.hid (HXr13.out.keep hb)
            clear HXr13
            have HXf14 := Lib.hid (HXf13.out.keep hb)
            clear HXf13
            have HXg14 := Lib.hid (HXg13.out.keep hb)
            clear HXg13
            have HXm14 := Lib.hid (HXm13.out.keep hb)
            clear HXm13
            have HXh14 := Lib.hid (HXh13.out.keep hb)
            clear HXh13
            have HB14x := Lib.hid (show Below w.heap.size w v14 from HB13x.out.trans (hb.mono HB13x.out.size))
            clear HB13x hb
            obtain ⟨pr0, pr1, pr2, pr3⟩ := HXr14.out.1.facts
            have ltr := HXr14.out.1.lt
            obtain ⟨pf0, pf1, pf2, pf3⟩ := HXf14.out.1.facts
            have ltf := HXf14.out.1.lt
            obtain ⟨pg0, pg1, pg2, pg3⟩ := HXg14.out.1.facts
            have ltg := HXg14.out.1.lt
            obtain ⟨pm0, pm1, pm2, pm3⟩ := HXm14.out.1.facts
            have ltm := HXm14.out.1.lt
            obtain ⟨ph0, ph1, ph2, ph3⟩ := HXh14.out.1.facts
            have lth := HXh14.out.1.lt
            go_wp2_with fail
            refine (c_ilr n bf cf f v14 HXf14.out.2 HOf.out HFf.out).mono ?_
            rintro e v15 ⟨rfl, hb⟩
            clear pr0 pr1 pr2 pr3 ltr pf0 pf1 pf2 pf3 ltf pg0 pg1 pg2 pg3 ltg pm0 pm1 pm2 pm3 ltm ph0 ph1 ph2 ph3 lth
            have HXr15 := Lib.hid (HXr14.out.keep hb)
            clear HXr14
            have HXf15 := Lib.hid (HXf14.out.keep hb)
            clear HXf14
            have HXg15 := Lib.hid (HXg14.out.keep hb)
            clear HXg14
            have HXm15 := Lib.hid (HXm14.out.keep hb)
            clear HXm14
            have HXh15 := Lib.hid (HXh14.out.keep hb)
            clear HXh14
            have HB15x := Lib.hid (show Below w.heap.size w v15 from HB14x.out.trans (hb.mono HB14x.out.size))
            clear HB14x hb
            obtain ⟨pr0, pr1, pr2, pr3⟩ := HXr15.out.1.facts
            have ltr := HXr15.out.1.lt
            go_wp2
            go_meet
            exact ⟨rfl, HXr15.out, HXf15.out, HXg15.out, HXm15.out, HB15x.out⟩
          · skip
            have hdiv := HDV.out
            have hp0 : ¬ ((p : Int) < 1) := by omega
            have hp0b : decide ((p : Int) < 1) = false := decide_eq_false hp0
            have hp2 : ¬ ((p : Int) = 0) := by omega
            have hq2 : ¬ ((q : Int) = 0) := by omega
            have hq3 : ((q : Int) != 0) = true := by simp; omega
            have hq4 : decide (0 < (q : Int)) = true := by simp; omega
            have hpb : decide ((p : Int) < (n : Int)) = false := by simp; omega
            have hquo : wrap64 ((n : Int) / (p : Int)) = (q : Int) := by rw [HQE.out]; have h1 := HQE.out; have h2 := Int.ediv_le_self (a := (n : Int)) (p : Int) (by omega); unfold wrap64; omega
            obtain ⟨pr0, pr1, pr2, pr3⟩ := HXr11.out.1.facts
            have ltr := HXr11.out.1.lt
            obtain ⟨pf0, pf1, pf2, pf3⟩ := HXf11.out.1.facts
            have ltf := HXf11.out.1.lt
            obtain ⟨pg0, pg1, pg2, pg3⟩ := HXg11.out.1.facts
            have ltg := HXg11.out.1.lt
            obtain ⟨pm0, pm1, pm2, pm3⟩ := HXm11.out.1.facts
            have ltm := HXm11.out.1.lt
            obtain ⟨ph0, ph1, ph2, ph3⟩ := HXh11.out.1.facts
            have lth := HXh11.out.1.lt
            go_wp2_with fail
            refine (c_ism' n b c zs q true (putR v10 n bh g.length ch) HXr11.out.2 HO.out HQ.out (by simp; omega)).mono ?_
            rintro e v12 ⟨rfl, hb⟩
            clear pr0 pr1 pr2 pr3 ltr pf0 pf1 pf2 pf3 ltf pg0 pg1 pg2 pg3 ltg pm0 pm1 pm2 pm3 ltm ph0 ph1 ph2 ph3 lth
            have HXr12 := Lib.hid (HXr11.out.keep hb)
            clear HXr11
            have HXf12 := Lib.hid (HXf11.out.keep hb)
            clear HXf11
            have HXg12 := Lib.hid (HXg11.out.keep hb)
            clear HXg11
            have HXm12 := Lib.hid (HXm11.out.keep hb)
            clear HXm11
            have HXh12 := Lib.hid (HXh11.out.keep hb)
            clear HXh11
            have HB12x := Lib.hid (show Below w.heap.size w v12 from HB11x.out.trans (hb.mono HB11x.out.size))
            clear HB11x hb
            clear hdiv hp0 hp0b hp2 hquo
            obtain ⟨pr0, pr1, pr2, pr3⟩ := HXr12.out.1.facts
            have ltr := HXr12.out.1.lt
            obtain ⟨pf0, pf1, pf2, pf3⟩ := HXf12.out.1.facts
            have ltf := HXf12.out.1.lt
            obtain ⟨pg0, pg1, pg2, pg3⟩ := HXg12.out.1.facts
            have ltg := HXg12.out.1.lt
            obtain ⟨pm0, pm1, pm2, pm3⟩ := HXm12.out.1.facts
            have ltm := HXm12.out.1.lt
            obtain ⟨ph0, ph1, ph2, ph3⟩ := HXh12.out.1.facts
            have lth := HXh12.out.1.lt
            go_wp2_with fail
            refine (c_isp' n b c zs p false v12 HXr12.out.2 HO.out HP.out (by simp; omega)).mono ?_
            rintro e v13 ⟨rfl, hb⟩
            clear pr0 pr1 pr2 pr3 ltr pf0 pf1 pf2 pf3 ltf pg0 pg1 pg2 pg3 ltg pm0 pm1 pm2 pm3 ltm ph0 ph1 ph2 ph3 lth
            have HXr13 := Lib.hid (HXr12.out.keep hb)
            clear HXr12
            have HXf13 := Lib.hid (HXf12.out.keep hb)
            clear HXf12
            have HXg13 := Lib.hid (HXg12.out.keep hb)
            clear HXg12
            have HXm13 := Lib.hid (HXm12.out.keep hb)
            clear HXm12
            have HXh13 := Lib.hid (HXh12.out.keep hb)
            clear HXh12
            have HB13x := Lib.hid (show Below w.heap.size w v13 from HB12x.out.trans (hb.mono HB12x.out.size))
            clear HB12x hb
            obtain ⟨pr0, pr1, pr2, pr3⟩ := HXr13.out.1.facts
            have ltr := HXr13.out.1.lt
            obtain ⟨pf0, pf1, pf2, pf3⟩ := HXf13.out.1.facts
            have ltf := HXf13.out.1.lt
            obtain ⟨pg0, pg1, pg2, pg3⟩ := HXg13.out.1.facts
            have ltg := HXg13.out.1.lt
            obtain ⟨pm0, pm1, pm2, pm3⟩ := HXm13.out.1.facts
            have ltm := HXm13.out.1.lt
            obtain ⟨ph0, ph1, ph2, ph3⟩ := HXh13.out.1.facts
            have lth := HXh13.out.1.lt
            go_wp2_with fail
            refine (rhythms_law n bg bh cg ch g v13 HXg13.out.2 HXh13.out.2 (by have := ok_len HOg.out; omega)).mono ?_
            rintro e v14 ⟨rfl, hb⟩
            clear pr0 pr1 pr2 pr3 ltr pf0 pf1 pf2 pf3 ltf pg0 pg1 pg2 pg3 ltg pm0 pm1 pm2 pm3 ltm ph0 ph1 ph2 ph3 lth
            have HXr14 := Lib.hid (HXr13.out.keep hb)
            clear HXr13
            have HXf14 := Lib.hid (HXf13.out.keep hb)
            clear HXf13
            have HXg14 := Lib.hid (HXg13.out.keep hb)
            clear HXg13
            have HXm14 := Lib.hid (HXm13.out.keep hb)
            clear HXm13
            have HXh14 := Lib.hid (HXh13.out.keep hb)
            clear HXh13
            have HB14x := Lib.hid (show Below w.heap.size w v14 from HB13x.out.trans (hb.mono HB13x.out.size))
            clear HB13x hb
            obtain ⟨pr0, pr1, pr2, pr3⟩ := HXr14.out.1.facts
            have ltr := HXr14.out.1.lt
            obtain ⟨pf0, pf1, pf2, pf3⟩ := HXf14.out.1.facts
            have ltf := HXf14.out.1.lt
            obtain ⟨pg0, pg1, pg2, pg3⟩ := HXg14.out.1.facts
            have ltg := HXg14.out.1.lt
            obtain ⟨pm0, pm1, pm2, pm3⟩ := HXm14.out.1.facts
            have ltm := HXm14.out.1.lt
            obtain ⟨ph0, ph1, ph2, ph3⟩ := HXh14.out.1.facts
            have lth := HXh14.out.1.lt
            go_wp2_with fail
            refine (c_ilr n bf cf f v14 HXf14.out.2 HOf.out HFf.out).mono ?_
            rintro e v15 ⟨rfl, hb⟩
            clear pr0 pr1 pr2 pr3 ltr pf0 pf1 pf2 pf3 ltf pg0 pg1 pg2 pg3 ltg pm0 pm1 pm2 pm3 ltm ph0 ph1 ph2 ph3 lth
            have HXr15 := Lib.hid (HXr14.out.keep hb)
            clear HXr14
            have HXf15 := Lib.hid (HXf14.out.keep hb)
            clear HXf14
            have HXg15 := Lib.hid (HXg14.out.keep hb)
            clear HXg14
            have HXm15 := Lib.hid (HXm14.out.keep hb)
            clear HXm14
            have HXh15 := Lib.hid (HXh14.out.keep hb)
            clear HXh14
            have HB15x := Lib.hid (show Below w.heap.size w v15 from HB14x.out.trans (hb.mono HB14x.out.size))
            clear HB14x hb
            obtain ⟨pr0, pr1, pr2, pr3⟩ := HXr15.out.1.facts
            have ltr := HXr15.out.1.lt
            go_wp2
            go_meet
            exact ⟨rfl, HXr15.out, HXf15.out, HXg15.out, HXm15.out, HB15x.out⟩
      case rest =>
        clear HDV HAX HXr11 HXf11 HXg11 HXm11 HXh11 HB11x
        obtain ⟨rfl, hxr, hxf, hxg, hxm, hbl⟩ := hcut
        have HXr := Lib.hid hxr
        have HXf := Lib.hid hxf
        have HXg := Lib.hid hxg
        have HXm := Lib.hid hxm
        have HBL := Lib.hid hbl
        clear hxr hxf hxg hxm hbl
        obtain ⟨pr0, pr1, pr2, pr3⟩ := HXr.out.1.facts
        have ltr := HXr.out.1.lt
        obtain ⟨pf0, pf1, pf2, pf3⟩ := HXf.out.1.facts
        have ltf := HXf.out.1.lt
        obtain ⟨pg0, pg1, pg2, pg3⟩ := HXg.out.1.facts
        have ltg := HXg.out.1.lt
        obtain ⟨pm0, pm1, pm2, pm3⟩ := HXm.out.1.facts
        have ltm := HXm.out.1.lt
        go_wp2_with fail
        refine (num_any a len cap 34 wc (bytes_up HBY.out HBL.out HBL.out.size) (by omega)).mono ?_
        rintro e v21 ⟨qk, rfl, hk0, hk1, hb⟩
        clear pr0 pr1 pr2 pr3 ltr pf0 pf1 pf2 pf3 ltf pg0 pg1 pg2 pg3 ltg pm0 pm1 pm2 pm3 ltm
        have HXr21 := Lib.hid (HXr.out.keep hb)
        clear HXr
        have HXf21 := Lib.hid (HXf.out.keep hb)
        clear HXf
        have HXg21 := Lib.hid (HXg.out.keep hb)
        clear HXg
        have HXm21 := Lib.hid (HXm.out.keep hb)
        clear HXm
        have HB21x := Lib.hid (show Below w.heap.size w v21 from HBL.out.trans (hb.mono HBL.out.size))
        clear HBL hb
        have hn0 : ¬ ((n : Int) = 0) := by omega
        obtain ⟨k, hk, hk2⟩ : ∃ k : Nat, qk % (n : Int) = (k : Int) ∧ k < n := by
          have h1 := Int.emod_nonneg qk (show (n : Int) ≠ 0 by omega)
          have h2 := Int.emod_lt_of_pos qk (show (0 : Int) < n by omega)
          exact ⟨(qk % (n : Int)).toNat, by omega, by omega⟩
        have HKQ := Lib.hid hk
        clear hk
        obtain ⟨t, ht⟩ : ∃ l, rotZ n zs 1 k = l := ⟨_, rfl⟩
        have HT := Lib.hid ht
        have HOt : Hid (Ok n t) := Lib.hid (by rw [← ht]; exact rot_ok HO.out.1 _ _)
        have HFt : Hid (leastZ n t = f) := Lib.hid (by rw [← ht, least_rot HO.out]; exact HF.out)
        have HGt : Hid (formZ n t = g) := Lib.hid (by rw [← ht, form_rot HO.out]; exact HG.out)
        have HPt : Hid (perZ n t = p) := Lib.hid (by rw [← ht, per_rot HO.out]; exact HP.out)
        have HRt : Hid (rotToZ n zs t = (k : Int) % (p : Int)) := Lib.hid (by rw [← ht, rotTo_rot HO.out, HP.out])
        obtain ⟨r, hr⟩ : ∃ r, decide (0 < q) = r := ⟨_, rfl⟩
        have HRQ := Lib.hid hr
        have HRM : Hid ((∃ k : Int, rotZ n zs 1 k = m) ↔ r = true) := Lib.hid (by rw [← hr, ← HM.out, mir_axes HO.out, decide_eq_true_iff, ← HQ.out]; exact List.length_pos_iff.symm)
        have HFt2 : Hid (∃ k : Int, rotZ n zs 1 k = f) := Lib.hid (by rw [← HF.out]; exact least_turn HO.out)
        have HFm : Hid ((∃ k : Int, rotZ n zs 1 k = m) ∨ ∃ k : Int, rotZ n (rotZ n zs (-1) 0) 1 k = m) := Lib.hid (.inr ⟨0, by rw [rot_zero (rot_ok HO.out.1 _ _)]; exact HM.out⟩)
        have HFg : Hid ((∃ k : Int, rotZ n zs 1 k = g) ∨ ∃ k : Int, rotZ n (rotZ n zs (-1) 0) 1 k = g) := Lib.hid (by rw [← HG.out]; exact form_turn HO.out)
        clear ht hr
        obtain ⟨pr0, pr1, pr2, pr3⟩ := HXr21.out.1.facts
        have ltr := HXr21.out.1.lt
        obtain ⟨pf0, pf1, pf2, pf3⟩ := HXf21.out.1.facts
        have ltf := HXf21.out.1.lt
        obtain ⟨pg0, pg1, pg2, pg3⟩ := HXg21.out.1.facts
        have ltg := HXg21.out.1.lt
        obtain ⟨pm0, pm1, pm2, pm3⟩ := HXm21.out.1.facts
        have ltm := HXm21.out.1.lt
        go_wp2_with fail
        rw [HKQ.out]
        refine (c_rot n b c zs t k v21 HXr21.out.2 HO.out (by omega) (by omega) HT.out).mono ?_
        rintro e v22 ⟨bt, ct, rfl, hown, hb⟩
        clear pr0 pr1 pr2 pr3 ltr pf0 pf1 pf2 pf3 ltf pg0 pg1 pg2 pg3 ltg pm0 pm1 pm2 pm3 ltm
        have HXr22 := Lib.hid (HXr21.out.keep hb)
        clear HXr21
        have HXf22 := Lib.hid (HXf21.out.keep hb)
        clear HXf21
        have HXg22 := Lib.hid (HXg21.out.keep hb)
        clear HXg21
        have HXm22 := Lib.hid (HXm21.out.keep hb)
        clear HXm21
        have HB22x := Lib.hid (show Below w.heap.size w v22 from HB21x.out.trans (hb.mono HB21x.out.size))
        clear HB21x hb
        have HXn := Lib.hid (rhAt_put (n := n) hown (ok_allInt HOt.out))
        clear hown
        have hb := putR_below v22 n bt t.length ct
        have HXr23 := Lib.hid (HXr22.out.keep hb)
        clear HXr22
        have HXf23 := Lib.hid (HXf22.out.keep hb)
        clear HXf22
        have HXg23 := Lib.hid (HXg22.out.keep hb)
        clear HXg22
        have HXm23 := Lib.hid (HXm22.out.keep hb)
        clear HXm22
        have HB23x := Lib.hid (show Below w.heap.size w (putR v22 n bt t.length ct) from HB22x.out.trans (hb.mono HB22x.out.size))
        clear HB22x hb
        have HXt23 : Hid (RhAt (putR v22 n bt t.length ct) v22.heap.size n bt ct t) := HXn
        clear HXn
        obtain ⟨pr0, pr1, pr2, pr3⟩ := HXr23.out.1.facts
        have ltr := HXr23.out.1.lt
        obtain ⟨pf0, pf1, pf2, pf3⟩ := HXf23.out.1.facts
        have ltf := HXf23.out.1.lt
        obtain ⟨pg0, pg1, pg2, pg3⟩ := HXg23.out.1.facts
        have ltg := HXg23.out.1.lt
        obtain ⟨pm0, pm1, pm2, pm3⟩ := HXm23.out.1.facts
        have ltm := HXm23.out.1.lt
        obtain ⟨pt0, pt1, pt2, pt3⟩ := HXt23.out.1.facts
        have ltt := HXt23.out.1.lt
        go_wp2_with fail
        refine (c_least n bt ct t f (putR v22 n bt t.length ct) HXt23.out.2 HOt.out HFt.out).mono ?_
        rintro e v24 ⟨bu, cu, rfl, hown, hb⟩
        clear pr0 pr1 pr2 pr3 ltr pf0 pf1 pf2 pf3 ltf pg0 pg1 pg2 pg3 ltg pm0 pm1 pm2 pm3 ltm pt0 pt1 pt2 pt3 ltt
        have HXr24 := Lib.hid (HXr23.out.keep hb)
        clear HXr23
        have HXf24 := Lib.hid (HXf23.out.keep hb)
        clear HXf23
        have HXg24 := Lib.hid (HXg23.out.keep hb)
        clear HXg23
        have HXm24 := Lib.hid (HXm23.out.keep hb)
        clear HXm23
        have HXt24 := Lib.hid (HXt23.out.keep hb)
        clear HXt23
        have HB24x := Lib.hid (show Below w.heap.size w v24 from HB23x.out.trans (hb.mono HB23x.out.size))
        clear HB23x hb
        have HXn := Lib.hid (rhAt_put (n := n) hown (ok_allInt HOf.out))
        clear hown
        have hb := putR_below v24 n bu f.length cu
        have HXr25 := Lib.hid (HXr24.out.keep hb)
        clear HXr24
        have HXf25 := Lib.hid (HXf24.out.keep hb)
        clear HXf24
        have HXg25 := Lib.hid (HXg24.out.keep hb)
        clear HXg24
        have HXm25 := Lib.hid (HXm24.out.keep hb)
        clear HXm24
        have HXt25 := Lib.hid (HXt24.out.keep hb)
        clear HXt24
        have HB25x := Lib.hid (show Below w.heap.size w (putR v24 n bu f.length cu) from HB24x.out.trans (hb.mono HB24x.out.size))
        clear HB24x hb
        have HXu25 : Hid (RhAt (putR v24 n bu f.length cu) v24.heap.size n bu cu f) := HXn
        clear HXn
        obtain ⟨pr0, pr1, pr2, pr3⟩ := HXr25.out.1.facts
        have ltr := HXr25.out.1.lt
        obtain ⟨pf0, pf1, pf2, pf3⟩ := HXf25.out.1.facts
        have ltf := HXf25.out.1.lt
        obtain ⟨pg0, pg1, pg2, pg3⟩ := HXg25.out.1.facts
        have ltg := HXg25.out.1.lt
        obtain ⟨pm0, pm1, pm2, pm3⟩ := HXm25.out.1.facts
        have ltm := HXm25.out.1.lt
        obtain ⟨pt0, pt1, pt2, pt3⟩ := HXt25.out.1.facts
        have ltt := HXt25.out.1.lt
        obtain ⟨pu0, pu1, pu2, pu3⟩ := HXu25.out.1.facts
        have ltu := HXu25.out.1.lt
        go_wp2_with fail
        refine (c_form n bt ct t g (putR v24 n bu f.length cu) HXt25.out.2 HOt.out HGt.out).mono ?_
        rintro e v26 ⟨bv, cv, rfl, hown, hb⟩
        clear pr0 pr1 pr2 pr3 ltr pf0 pf1 pf2 pf3 ltf pg0 pg1 pg2 pg3 ltg pm0 pm1 pm2 pm3 ltm pt0 pt1 pt2 pt3 ltt pu0 pu1 pu2 pu3 ltu
        have HXr26 := Lib.hid (HXr25.out.keep hb)
        clear HXr25
        have HXf26 := Lib.hid (HXf25.out.keep hb)
        clear HXf25
        have HXg26 := Lib.hid (HXg25.out.keep hb)
        clear HXg25
        have HXm26 := Lib.hid (HXm25.out.keep hb)
        clear HXm25
        have HXt26 := Lib.hid (HXt25.out.keep hb)
        clear HXt25
        have HXu26 := Lib.hid (HXu25.out.keep hb)
        clear HXu25
        have HB26x := Lib.hid (show Below w.heap.size w v26 from HB25x.out.trans (hb.mono HB25x.out.size))
        clear HB25x hb
        have HXn := Lib.hid (rhAt_put (n := n) hown (ok_allInt HOg.out))
        clear hown
        have hb := putR_below v26 n bv g.length cv
        have HXr27 := Lib.hid (HXr26.out.keep hb)
        clear HXr26
        have HXf27 := Lib.hid (HXf26.out.keep hb)
        clear HXf26
        have HXg27 := Lib.hid (HXg26.out.keep hb)
        clear HXg26
        have HXm27 := Lib.hid (HXm26.out.keep hb)
        clear HXm26
        have HXt27 := Lib.hid (HXt26.out.keep hb)
        clear HXt26
        have HXu27 := Lib.hid (HXu26.out.keep hb)
        clear HXu26
        have HB27x := Lib.hid (show Below w.heap.size w (putR v26 n bv g.length cv) from HB26x.out.trans (hb.mono HB26x.out.size))
        clear HB26x hb
        have HXv27 : Hid (RhAt (putR v26 n bv g.length cv) v26.heap.size n bv cv g) := HXn
        clear HXn
        obtain ⟨pr0, pr1, pr2, pr3⟩ := HXr27.out.1.facts
        have ltr := HXr27.out.1.lt
        obtain ⟨pf0, pf1, pf2, pf3⟩ := HXf27.out.1.facts
        have ltf := HXf27.out.1.lt
        obtain ⟨pg0, pg1, pg2, pg3⟩ := HXg27.out.1.facts
        have ltg := HXg27.out.1.lt
        obtain ⟨pm0, pm1, pm2, pm3⟩ := HXm27.out.1.facts
        have ltm := HXm27.out.1.lt
        obtain ⟨pt0, pt1, pt2, pt3⟩ := HXt27.out.1.facts
        have ltt := HXt27.out.1.lt
        obtain ⟨pu0, pu1, pu2, pu3⟩ := HXu27.out.1.facts
        have ltu := HXu27.out.1.lt
        obtain ⟨pv0, pv1, pv2, pv3⟩ := HXv27.out.1.facts
        have ltv := HXv27.out.1.lt
        have hp2 : ¬ ((p : Int) = 0) := by omega
        have HK : Hid (∀ W' : World, Below (putR v26 n bv g.length cv).heap.size (putR v26 n bv g.length cv) W' → W'.cell? ⟨gr, 0, none⟩ = some (.int .i64 n) ∧ W'.cell? ⟨gr, 1, none⟩ = some (.slice b zs.length c) ∧ W'.cell? ⟨v4.heap.size, 0, none⟩ = some (.int .i64 n) ∧ W'.cell? ⟨v4.heap.size, 1, none⟩ = some (.slice bf f.length cf) ∧ W'.cell? ⟨v6.heap.size, 0, none⟩ = some (.int .i64 n) ∧ W'.cell? ⟨v6.heap.size, 1, none⟩ = some (.slice bg g.length cg) ∧ W'.cell? ⟨v8.heap.size, 0, none⟩ = some (.int .i64 n) ∧ W'.cell? ⟨v8.heap.size, 1, none⟩ = some (.slice bm m.length cm) ∧ W'.cell? ⟨v22.heap.size, 0, none⟩ = some (.int .i64 n) ∧ W'.cell? ⟨v22.heap.size, 1, none⟩ = some (.slice bt t.length ct) ∧ W'.cell? ⟨v24.heap.size, 0, none⟩ = some (.int .i64 n) ∧ W'.cell? ⟨v24.heap.size, 1, none⟩ = some (.slice bu f.length cu) ∧ W'.cell? ⟨v26.heap.size, 0, none⟩ = some (.int .i64 n) ∧ W'.cell? ⟨v26.heap.size, 1, none⟩ = some (.slice bv g.length cv) ∧ Below (putR v26 n bv g.length cv).heap.size (putR v26 n bv g.length cv) W') :=
          Lib.hid (fun W' hW => ⟨(HXr27.out.keep hW).1.facts.1, (HXr27.out.keep hW).1.facts.2.1, (HXf27.out.keep hW).1.facts.1, (HXf27.out.keep hW).1.facts.2.1, (HXg27.out.keep hW).1.facts.1, (HXg27.out.keep hW).1.facts.2.1, (HXm27.out.keep hW).1.facts.1, (HXm27.out.keep hW).1.facts.2.1, (HXt27.out.keep hW).1.facts.1, (HXt27.out.keep hW).1.facts.2.1, (HXu27.out.keep hW).1.facts.1, (HXu27.out.keep hW).1.facts.2.1, (HXv27.out.keep hW).1.facts.1, (HXv27.out.keep hW).1.facts.2.1, hW⟩)
        have HIr : Hid (∀ W' : World, Below (putR v26 n bv g.length cv).heap.size (putR v26 n bv g.length cv) W' → IntsAt W' b zs.length zs) := Lib.hid (fun W' hW => (HXr27.out.keep hW).2)
        have HIf : Hid (∀ W' : World, Below (putR v26 n bv g.length cv).heap.size (putR v26 n bv g.length cv) W' → IntsAt W' bf f.length f) := Lib.hid (fun W' hW => (HXf27.out.keep hW).2)
        have HIg : Hid (∀ W' : World, Below (putR v26 n bv g.length cv).heap.size (putR v26 n bv g.length cv) W' → IntsAt W' bg g.length g) := Lib.hid (fun W' hW => (HXg27.out.keep hW).2)
        have HIm : Hid (∀ W' : World, Below (putR v26 n bv g.length cv).heap.size (putR v26 n bv g.length cv) W' → IntsAt W' bm m.length m) := Lib.hid (fun W' hW => (HXm27.out.keep hW).2)
        have HIt : Hid (∀ W' : World, Below (putR v26 n bv g.length cv).heap.size (putR v26 n bv g.length cv) W' → IntsAt W' bt t.length t) := Lib.hid (fun W' hW => (HXt27.out.keep hW).2)
        have HIu : Hid (∀ W' : World, Below (putR v26 n bv g.length cv).heap.size (putR v26 n bv g.length cv) W' → IntsAt W' bu f.length f) := Lib.hid (fun W' hW => (HXu27.out.keep hW).2)
        have HIv : Hid (∀ W' : World, Below (putR v26 n bv g.length cv).heap.size (putR v26 n bv g.length cv) W' → IntsAt W' bv g.length g) := Lib.hid (fun W' hW => (HXv27.out.keep hW).2)
        have HBE := HB27x
        go_upto_region 22 with fail
        refine wp_region_held_drew (S := fun W' => W'.cell? ⟨gr, 0, none⟩ = some (.int .i64 n) ∧ W'.cell? ⟨gr, 1, none⟩ = some (.slice b zs.length c) ∧ W'.cell? ⟨v4.heap.size, 0, none⟩ = some (.int .i64 n) ∧ W'.cell? ⟨v4.heap.size, 1, none⟩ = some (.slice bf f.length cf) ∧ W'.cell? ⟨v6.heap.size, 0, none⟩ = some (.int .i64 n) ∧ W'.cell? ⟨v6.heap.size, 1, none⟩ = some (.slice bg g.length cg) ∧ W'.cell? ⟨v8.heap.size, 0, none⟩ = some (.int .i64 n) ∧ W'.cell? ⟨v8.heap.size, 1, none⟩ = some (.slice bm m.length cm) ∧ W'.cell? ⟨v22.heap.size, 0, none⟩ = some (.int .i64 n) ∧ W'.cell? ⟨v22.heap.size, 1, none⟩ = some (.slice bt t.length ct) ∧ W'.cell? ⟨v24.heap.size, 0, none⟩ = some (.int .i64 n) ∧ W'.cell? ⟨v24.heap.size, 1, none⟩ = some (.slice bu f.length cu) ∧ W'.cell? ⟨v26.heap.size, 0, none⟩ = some (.int .i64 n) ∧ W'.cell? ⟨v26.heap.size, 1, none⟩ = some (.slice bv g.length cv) ∧ Below (putR v26 n bv g.length cv).heap.size (putR v26 n bv g.length cv) W') (by kernel_rfl) (HK.out _ (Below.refl _ _).drew) (fun hSS0 => ?_)
        refine wpAnyH_take (i := 0) (oi := ⟨some 160, _, _, _, _, _⟩) (v := .bool true) rfl (by kernel_rfl) (by kernel_rfl) (by kernel_rfl) (fun _ _ _ h => h) (Or.inl ⟨by rfl, fun w hSw => by go_simp⟩) (by assumption) ?_
        try simp only [Act.put, List.setIfInBounds_toArray, List.set_cons_zero, List.set_cons_succ]
        refine wpAnyH_take (i := 1) (oi := ⟨some 161, _, _, _, _, _⟩) (v := .bool true) rfl (by kernel_rfl) (by kernel_rfl) (by kernel_rfl) (fun _ _ _ h => h) (Or.inl ⟨by rfl, fun w hSw => by go_simp⟩) (by assumption) ?_
        try simp only [Act.put, List.setIfInBounds_toArray, List.set_cons_zero, List.set_cons_succ]
        refine wpAnyH_take (i := 2) (oi := ⟨some 162, _, _, _, _, _⟩) (v := .agg #[.int .i64 n, .slice bu f.length cu]) rfl (by kernel_rfl) (by kernel_rfl) (by kernel_rfl) (fun _ _ _ h => h) (Or.inl ⟨by rfl, fun w hSw => by obtain ⟨_, _, _, _, _, _, _, _, _, _, q1, q2, _⟩ := hSw; go_simp⟩) (by assumption) ?_
        try simp only [Act.put, List.setIfInBounds_toArray, List.set_cons_zero, List.set_cons_succ]
        refine wpAnyH_take (i := 3) (oi := ⟨some 163, _, _, _, _, _⟩) (v := .agg #[.int .i64 n, .slice bf f.length cf]) rfl (by kernel_rfl) (by kernel_rfl) (by kernel_rfl) (fun _ _ _ h => h) (Or.inl ⟨by rfl, fun w hSw => by obtain ⟨_, _, q1, q2, _⟩ := hSw; go_simp⟩) (by assumption) ?_
        try simp only [Act.put, List.setIfInBounds_toArray, List.set_cons_zero, List.set_cons_succ]
        refine wpAnyH_ready (rs := [4]) (by kernel_rfl) (by simp) ?_
        refine AllReadyH.cons rfl (fun K hKK => ?_) AllReadyH.nil
        go_simp
        go_at_call 19
        refine (rhythms_law n bu bf cu cf f _ (HIu.out _ (Below.refl _ _).drew) (HIf.out _ (Below.refl _ _).drew) (by have := ok_len HOf.out; omega)).mono ?_
        rintro e wk1 ⟨rfl, hc1⟩
        have hbb1 : Below (putR v26 n bv g.length cv).heap.size (putR v26 n bv g.length cv) wk1 := (Below.refl _ _).drew.trans hc1
        clear hc1
        refine hKK.out _ _ (HK.out _ hbb1) (fun hSS1 => ?_)
        clear hKK K hSS0
        try simp only [Act.put, List.setIfInBounds_toArray, List.set_cons_zero, List.set_cons_succ]
        refine wpAnyH_take (i := 5) (oi := ⟨some 165, _, _, _, _, _⟩) (v := .bool true) rfl (by kernel_rfl) (by kernel_rfl) (by kernel_rfl) (fun _ _ _ h => h) (Or.inl ⟨by rfl, fun w hSw => by go_simp⟩) (by assumption) ?_
        try simp only [Act.put, List.setIfInBounds_toArray, List.set_cons_zero, List.set_cons_succ]
        refine wpAnyH_take (i := 6) (oi := ⟨some 166, _, _, _, _, _⟩) (v := .bool true) rfl (by kernel_rfl) (by kernel_rfl) (by kernel_rfl) (fun _ _ _ h => h) (Or.inl ⟨by rfl, fun w hSw => by go_simp⟩) (by assumption) ?_
        try simp only [Act.put, List.setIfInBounds_toArray, List.set_cons_zero, List.set_cons_succ]
        refine wpAnyH_take (i := 7) (oi := ⟨some 167, _, _, _, _, _⟩) (v := .bool true) rfl (by kernel_rfl) (by kernel_rfl) (by kernel_rfl) (fun _ _ _ h => h) (Or.inl ⟨by rfl, fun w hSw => by go_simp⟩) (by assumption) ?_
        try simp only [Act.put, List.setIfInBounds_toArray, List.set_cons_zero, List.set_cons_succ]
        refine wpAnyH_take (i := 8) (oi := ⟨some 168, _, _, _, _, _⟩) (v := .bool true) rfl (by kernel_rfl) (by kernel_rfl) (by kernel_rfl) (fun _ _ _ h => h) (Or.inl ⟨by rfl, fun w hSw => by go_simp⟩) (by assumption) ?_
        try simp only [Act.put, List.setIfInBounds_toArray, List.set_cons_zero, List.set_cons_succ]
        refine wpAnyH_take (i := 9) (oi := ⟨some 169, _, _, _, _, _⟩) (v := .bool true) rfl (by kernel_rfl) (by kernel_rfl) (by kernel_rfl) (fun _ _ _ h => h) (Or.inl ⟨by rfl, fun w hSw => by go_simp⟩) (by assumption) ?_
        try simp only [Act.put, List.setIfInBounds_toArray, List.set_cons_zero, List.set_cons_succ]
        refine wpAnyH_take (i := 10) (oi := ⟨some 170, _, _, _, _, _⟩) (v := .agg #[.int .i64 n, .slice bv g.length cv]) rfl (by kernel_rfl) (by kernel_rfl) (by kernel_rfl) (fun _ _ _ h => h) (Or.inl ⟨by rfl, fun w hSw => by obtain ⟨_, _, _, _, _, _, _, _, _, _, _, _, q1, q2, _⟩ := hSw; go_simp⟩) (by assumption) ?_
        try simp only [Act.put, List.setIfInBounds_toArray, List.set_cons_zero, List.set_cons_succ]
        refine wpAnyH_take (i := 11) (oi := ⟨some 171, _, _, _, _, _⟩) (v := .agg #[.int .i64 n, .slice bg g.length cg]) rfl (by kernel_rfl) (by kernel_rfl) (by kernel_rfl) (fun _ _ _ h => h) (Or.inl ⟨by rfl, fun w hSw => by obtain ⟨_, _, _, _, q1, q2, _⟩ := hSw; go_simp⟩) (by assumption) ?_
        try simp only [Act.put, List.setIfInBounds_toArray, List.set_cons_zero, List.set_cons_succ]
        refine wpAnyH_ready (rs := [12]) (by kernel_rfl) (by simp) ?_
        refine AllReadyH.cons rfl (fun K hKK => ?_) AllReadyH.nil
        go_simp
        go_at_call 19
        refine (rhythms_law n bv bg cv cg g _ (HIv.out _ hbb1) (HIg.out _ hbb1) (by have := ok_len HOg.out; omega)).mono ?_
        rintro e wk2 ⟨rfl, hc2⟩
        have hbb2 : Below (putR v26 n bv g.length cv).heap.size (putR v26 n bv g.length cv) wk2 := hbb1.trans (hc2.mono hbb1.size)
        clear hc2
        refine hKK.out _ _ (HK.out _ hbb2) (fun hSS2 => ?_)
        clear hKK K hbb1 hSS1
        try simp only [Act.put, List.setIfInBounds_toArray, List.set_cons_zero, List.set_cons_succ]
        refine wpAnyH_take (i := 13) (oi := ⟨some 173, _, _, _, _, _⟩) (v := .bool true) rfl (by kernel_rfl) (by kernel_rfl) (by kernel_rfl) (fun _ _ _ h => h) (Or.inl ⟨by rfl, fun w hSw => by go_simp⟩) (by assumption) ?_
        try simp only [Act.put, List.setIfInBounds_toArray, List.set_cons_zero, List.set_cons_succ]
        refine wpAnyH_take (i := 14) (oi := ⟨some 174, _, _, _, _, _⟩) (v := .bool true) rfl (by kernel_rfl) (by kernel_rfl) (by kernel_rfl) (fun _ _ _ h => h) (Or.inl ⟨by rfl, fun w hSw => by go_simp⟩) (by assumption) ?_
        try simp only [Act.put, List.setIfInBounds_toArray, List.set_cons_zero, List.set_cons_succ]
        refine wpAnyH_take (i := 15) (oi := ⟨some 175, _, _, _, _, _⟩) (v := .agg #[.int .i64 n, .slice b zs.length c]) rfl (by kernel_rfl) (by kernel_rfl) (by kernel_rfl) (fun _ _ _ h => h) (Or.inl ⟨by rfl, fun w hSw => by obtain ⟨q1, q2, _⟩ := hSw; go_simp⟩) (by assumption) ?_
        try simp only [Act.put, List.setIfInBounds_toArray, List.set_cons_zero, List.set_cons_succ]
        refine wpAnyH_take (i := 16) (oi := ⟨some 176, _, _, _, _, _⟩) (v := .agg #[.int .i64 n, .slice bt t.length ct]) rfl (by kernel_rfl) (by kernel_rfl) (by kernel_rfl) (fun _ _ _ h => h) (Or.inl ⟨by rfl, fun w hSw => by obtain ⟨_, _, _, _, _, _, _, _, q1, q2, _⟩ := hSw; go_simp⟩) (by assumption) ?_
        try simp only [Act.put, List.setIfInBounds_toArray, List.set_cons_zero, List.set_cons_succ]
        refine wpAnyH_take (i := 18) (oi := ⟨some 178, _, _, _, _, _⟩) (v := .int .i64 k) rfl (by kernel_rfl) (by kernel_rfl) (by kernel_rfl) (fun _ _ _ h => h) (Or.inl ⟨by rfl, fun w hSw => by go_simp⟩) (by assumption) ?_
        try simp only [Act.put, List.setIfInBounds_toArray, List.set_cons_zero, List.set_cons_succ]
        refine wpAnyH_take (i := 19) (oi := ⟨some 179, _, _, _, _, _⟩) (v := .int .i64 p) rfl (by kernel_rfl) (by kernel_rfl) (by kernel_rfl) (fun _ _ _ h => h) (Or.inl ⟨by rfl, fun w hSw => by go_simp⟩) (by assumption) ?_
        try simp only [Act.put, List.setIfInBounds_toArray, List.set_cons_zero, List.set_cons_succ]
        refine wpAnyH_take (i := 20) (oi := ⟨some 180, _, _, _, _, _⟩) (v := .int .i64 ((k : Int) % (p : Int))) rfl (by kernel_rfl) (by kernel_rfl) (by kernel_rfl) (fun _ _ _ h => h) (Or.inl ⟨by rfl, fun w hSw => by go_simp; rw [if_neg (show ¬ p = 0 by omega), Int.tmod_eq_emod_of_nonneg (by omega)]⟩) (by assumption) ?_
        try simp only [Act.put, List.setIfInBounds_toArray, List.set_cons_zero, List.set_cons_succ]
        refine wpAnyH_ready (rs := [17]) (by kernel_rfl) (by simp) ?_
        refine AllReadyH.cons rfl (fun K hKK => ?_) AllReadyH.nil
        go_simp
        go_at_call 36
        refine (c_rotTo n b c zs bt ct t ((k : Int) % (p : Int)) _ (HIr.out _ hbb2) (HIt.out _ hbb2) HO.out HOt.out HRt.out).mono ?_
        rintro e wk3 ⟨rfl, hc3⟩
        have hbb3 : Below (putR v26 n bv g.length cv).heap.size (putR v26 n bv g.length cv) wk3 := hbb2.trans (hc3.mono hbb2.size)
        clear hc3
        refine hKK.out _ _ (HK.out _ hbb3) (fun hSS3 => ?_)
        clear hKK K hbb2 hSS2
        try simp only [Act.put, List.setIfInBounds_toArray, List.set_cons_zero, List.set_cons_succ]
        refine wpAnyH_take (i := 21) (oi := ⟨some 181, _, _, _, _, _⟩) (v := .bool true) rfl (by kernel_rfl) (by kernel_rfl) (by kernel_rfl) (fun _ _ _ h => h) (Or.inl ⟨by rfl, fun w hSw => by go_simp⟩) (by assumption) ?_
        try simp only [Act.put, List.setIfInBounds_toArray, List.set_cons_zero, List.set_cons_succ]
        refine wpAnyH_take (i := 22) (oi := ⟨some 182, _, _, _, _, _⟩) (v := .bool true) rfl (by kernel_rfl) (by kernel_rfl) (by kernel_rfl) (fun _ _ _ h => h) (Or.inl ⟨by rfl, fun w hSw => by go_simp⟩) (by assumption) ?_
        try simp only [Act.put, List.setIfInBounds_toArray, List.set_cons_zero, List.set_cons_succ]
        refine wpAnyH_take (i := 23) (oi := ⟨some 183, _, _, _, _, _⟩) (v := .bool true) rfl (by kernel_rfl) (by kernel_rfl) (by kernel_rfl) (fun _ _ _ h => h) (Or.inl ⟨by rfl, fun w hSw => by go_simp⟩) (by assumption) ?_
        try simp only [Act.put, List.setIfInBounds_toArray, List.set_cons_zero, List.set_cons_succ]
        refine wpAnyH_take (i := 24) (oi := ⟨some 184, _, _, _, _, _⟩) (v := .agg #[.int .i64 n, .slice b zs.length c]) rfl (by kernel_rfl) (by kernel_rfl) (by kernel_rfl) (fun _ _ _ h => h) (Or.inl ⟨by rfl, fun w hSw => by obtain ⟨q1, q2, _⟩ := hSw; go_simp⟩) (by assumption) ?_
        try simp only [Act.put, List.setIfInBounds_toArray, List.set_cons_zero, List.set_cons_succ]
        refine wpAnyH_take (i := 25) (oi := ⟨some 185, _, _, _, _, _⟩) (v := .agg #[.int .i64 n, .slice bf f.length cf]) rfl (by kernel_rfl) (by kernel_rfl) (by kernel_rfl) (fun _ _ _ h => h) (Or.inl ⟨by rfl, fun w hSw => by obtain ⟨_, _, q1, q2, _⟩ := hSw; go_simp⟩) (by assumption) ?_
        try simp only [Act.put, List.setIfInBounds_toArray, List.set_cons_zero, List.set_cons_succ]
        refine wpAnyH_ready (rs := [26]) (by kernel_rfl) (by simp) ?_
        refine AllReadyH.cons rfl (fun K hKK => ?_) AllReadyH.nil
        go_simp
        go_at_call 37
        refine (c_arot n b c zs bf cf f true _ (HIr.out _ hbb3) (HIf.out _ hbb3) HO.out HOf.out (iff_of_true HFt2.out rfl)).mono ?_
        rintro e wk4 ⟨rfl, hc4⟩
        have hbb4 : Below (putR v26 n bv g.length cv).heap.size (putR v26 n bv g.length cv) wk4 := hbb3.trans (hc4.mono hbb3.size)
        clear hc4
        refine hKK.out _ _ (HK.out _ hbb4) (fun hSS4 => ?_)
        clear hKK K hbb3 hSS3
        try simp only [Act.put, List.setIfInBounds_toArray, List.set_cons_zero, List.set_cons_succ]
        refine wpAnyH_take (i := 27) (oi := ⟨some 187, _, _, _, _, _⟩) (v := .bool true) rfl (by kernel_rfl) (by kernel_rfl) (by kernel_rfl) (fun _ _ _ h => h) (Or.inl ⟨by rfl, fun w hSw => by go_simp⟩) (by assumption) ?_
        try simp only [Act.put, List.setIfInBounds_toArray, List.set_cons_zero, List.set_cons_succ]
        refine wpAnyH_take (i := 28) (oi := ⟨some 188, _, _, _, _, _⟩) (v := .bool true) rfl (by kernel_rfl) (by kernel_rfl) (by kernel_rfl) (fun _ _ _ h => h) (Or.inl ⟨by rfl, fun w hSw => by go_simp⟩) (by assumption) ?_
        try simp only [Act.put, List.setIfInBounds_toArray, List.set_cons_zero, List.set_cons_succ]
        refine wpAnyH_take (i := 29) (oi := ⟨some 189, _, _, _, _, _⟩) (v := .agg #[.int .i64 n, .slice b zs.length c]) rfl (by kernel_rfl) (by kernel_rfl) (by kernel_rfl) (fun _ _ _ h => h) (Or.inl ⟨by rfl, fun w hSw => by obtain ⟨q1, q2, _⟩ := hSw; go_simp⟩) (by assumption) ?_
        try simp only [Act.put, List.setIfInBounds_toArray, List.set_cons_zero, List.set_cons_succ]
        refine wpAnyH_take (i := 30) (oi := ⟨some 190, _, _, _, _, _⟩) (v := .agg #[.int .i64 n, .slice bm m.length cm]) rfl (by kernel_rfl) (by kernel_rfl) (by kernel_rfl) (fun _ _ _ h => h) (Or.inl ⟨by rfl, fun w hSw => by obtain ⟨_, _, _, _, _, _, q1, q2, _⟩ := hSw; go_simp⟩) (by assumption) ?_
        try simp only [Act.put, List.setIfInBounds_toArray, List.set_cons_zero, List.set_cons_succ]
        refine wpAnyH_ready (rs := [31]) (by kernel_rfl) (by simp) ?_
        refine AllReadyH.cons rfl (fun K hKK => ?_) AllReadyH.nil
        go_simp
        go_at_call 38
        refine (c_afor n b c zs bm cm m _ (HIr.out _ hbb4) (HIm.out _ hbb4) HO.out HOm.out HFm.out).mono ?_
        rintro e wk5 ⟨rfl, hc5⟩
        have hbb5 : Below (putR v26 n bv g.length cv).heap.size (putR v26 n bv g.length cv) wk5 := hbb4.trans (hc5.mono hbb4.size)
        clear hc5
        refine hKK.out _ _ (HK.out _ hbb5) (fun hSS5 => ?_)
        clear hKK K hbb4 hSS4
        try simp only [Act.put, List.setIfInBounds_toArray, List.set_cons_zero, List.set_cons_succ]
        refine wpAnyH_take (i := 32) (oi := ⟨some 192, _, _, _, _, _⟩) (v := .bool true) rfl (by kernel_rfl) (by kernel_rfl) (by kernel_rfl) (fun _ _ _ h => h) (Or.inl ⟨by rfl, fun w hSw => by go_simp⟩) (by assumption) ?_
        try simp only [Act.put, List.setIfInBounds_toArray, List.set_cons_zero, List.set_cons_succ]
        refine wpAnyH_take (i := 33) (oi := ⟨some 193, _, _, _, _, _⟩) (v := .bool true) rfl (by kernel_rfl) (by kernel_rfl) (by kernel_rfl) (fun _ _ _ h => h) (Or.inl ⟨by rfl, fun w hSw => by go_simp⟩) (by assumption) ?_
        try simp only [Act.put, List.setIfInBounds_toArray, List.set_cons_zero, List.set_cons_succ]
        refine wpAnyH_take (i := 34) (oi := ⟨some 194, _, _, _, _, _⟩) (v := .agg #[.int .i64 n, .slice b zs.length c]) rfl (by kernel_rfl) (by kernel_rfl) (by kernel_rfl) (fun _ _ _ h => h) (Or.inl ⟨by rfl, fun w hSw => by obtain ⟨q1, q2, _⟩ := hSw; go_simp⟩) (by assumption) ?_
        try simp only [Act.put, List.setIfInBounds_toArray, List.set_cons_zero, List.set_cons_succ]
        refine wpAnyH_take (i := 35) (oi := ⟨some 195, _, _, _, _, _⟩) (v := .agg #[.int .i64 n, .slice bg g.length cg]) rfl (by kernel_rfl) (by kernel_rfl) (by kernel_rfl) (fun _ _ _ h => h) (Or.inl ⟨by rfl, fun w hSw => by obtain ⟨_, _, _, _, q1, q2, _⟩ := hSw; go_simp⟩) (by assumption) ?_
        try simp only [Act.put, List.setIfInBounds_toArray, List.set_cons_zero, List.set_cons_succ]
        refine wpAnyH_ready (rs := [36]) (by kernel_rfl) (by simp) ?_
        refine AllReadyH.cons rfl (fun K hKK => ?_) AllReadyH.nil
        go_simp
        go_at_call 38
        refine (c_afor n b c zs bg cg g _ (HIr.out _ hbb5) (HIg.out _ hbb5) HO.out HOg.out HFg.out).mono ?_
        rintro e wk6 ⟨rfl, hc6⟩
        have hbb6 : Below (putR v26 n bv g.length cv).heap.size (putR v26 n bv g.length cv) wk6 := hbb5.trans (hc6.mono hbb5.size)
        clear hc6
        refine hKK.out _ _ (HK.out _ hbb6) (fun hSS6 => ?_)
        clear hKK K hbb5 hSS5
        try simp only [Act.put, List.setIfInBounds_toArray, List.set_cons_zero, List.set_cons_succ]
        refine wpAnyH_take (i := 37) (oi := ⟨some 197, _, _, _, _, _⟩) (v := .bool true) rfl (by kernel_rfl) (by kernel_rfl) (by kernel_rfl) (fun _ _ _ h => h) (Or.inl ⟨by rfl, fun w hSw => by go_simp⟩) (by assumption) ?_
        try simp only [Act.put, List.setIfInBounds_toArray, List.set_cons_zero, List.set_cons_succ]
        refine wpAnyH_take (i := 38) (oi := ⟨some 198, _, _, _, _, _⟩) (v := .bool true) rfl (by kernel_rfl) (by kernel_rfl) (by kernel_rfl) (fun _ _ _ h => h) (Or.inl ⟨by rfl, fun w hSw => by go_simp⟩) (by assumption) ?_
        try simp only [Act.put, List.setIfInBounds_toArray, List.set_cons_zero, List.set_cons_succ]
        refine wpAnyH_take (i := 39) (oi := ⟨some 199, _, _, _, _, _⟩) (v := .agg #[.int .i64 n, .slice b zs.length c]) rfl (by kernel_rfl) (by kernel_rfl) (by kernel_rfl) (fun _ _ _ h => h) (Or.inl ⟨by rfl, fun w hSw => by obtain ⟨q1, q2, _⟩ := hSw; go_simp⟩) (by assumption) ?_
        try simp only [Act.put, List.setIfInBounds_toArray, List.set_cons_zero, List.set_cons_succ]
        refine wpAnyH_take (i := 40) (oi := ⟨some 200, _, _, _, _, _⟩) (v := .agg #[.int .i64 n, .slice bm m.length cm]) rfl (by kernel_rfl) (by kernel_rfl) (by kernel_rfl) (fun _ _ _ h => h) (Or.inl ⟨by rfl, fun w hSw => by obtain ⟨_, _, _, _, _, _, q1, q2, _⟩ := hSw; go_simp⟩) (by assumption) ?_
        try simp only [Act.put, List.setIfInBounds_toArray, List.set_cons_zero, List.set_cons_succ]
        refine wpAnyH_take (i := 42) (oi := ⟨some 202, _, _, _, _, _⟩) (v := .agg #[.int .i64 n, .slice b zs.length c]) rfl (by kernel_rfl) (by kernel_rfl) (by kernel_rfl) (fun _ _ _ h => h) (Or.inl ⟨by rfl, fun w hSw => by obtain ⟨q1, q2, _⟩ := hSw; go_simp⟩) (by assumption) ?_
        try simp only [Act.put, List.setIfInBounds_toArray, List.set_cons_zero, List.set_cons_succ]
        refine wpAnyH_ready (rs := [41]) (by kernel_rfl) (by simp) ?_
        refine AllReadyH.cons rfl (fun K hKK => ?_) AllReadyH.nil
        go_simp
        go_at_call 37
        refine (c_arot n b c zs bm cm m r _ (HIr.out _ hbb6) (HIm.out _ hbb6) HO.out HOm.out HRM.out).mono ?_
        rintro e wk7 ⟨rfl, hc7⟩
        have hbb7 : Below (putR v26 n bv g.length cv).heap.size (putR v26 n bv g.length cv) wk7 := hbb6.trans (hc7.mono hbb6.size)
        clear hc7
        refine hKK.out _ _ (HK.out _ hbb7) (fun hSS7 => ?_)
        clear hKK K hbb6 hSS6
        try simp only [Act.put, List.setIfInBounds_toArray, List.set_cons_zero, List.set_cons_succ]
        refine wpAnyH_ready (rs := [43]) (by kernel_rfl) (by simp) ?_
        refine AllReadyH.cons rfl (fun K hKK => ?_) AllReadyH.nil
        go_simp
        go_at_call 33
        refine (c_ism' n b c zs q r _ (HIr.out _ hbb7) HO.out HQ.out HRQ.out).mono ?_
        rintro e wk8 ⟨rfl, hc8⟩
        have hbb8 : Below (putR v26 n bv g.length cv).heap.size (putR v26 n bv g.length cv) wk8 := hbb7.trans (hc8.mono hbb7.size)
        clear hc8
        refine hKK.out _ _ (HK.out _ hbb8) (fun hSS8 => ?_)
        clear hKK K hbb7 hSS7
        try simp only [Act.put, List.setIfInBounds_toArray, List.set_cons_zero, List.set_cons_succ]
        refine wpAnyH_take (i := 44) (oi := ⟨some 204, _, _, _, _, _⟩) (v := .bool true) rfl (by kernel_rfl) (by kernel_rfl) (by kernel_rfl) (fun _ _ _ h => h) (Or.inl ⟨by rfl, fun w hSw => by go_simp⟩) (by assumption) ?_
        try simp only [Act.put, List.setIfInBounds_toArray, List.set_cons_zero, List.set_cons_succ]
        refine wpAnyH_take (i := 45) (oi := ⟨some 205, _, _, _, _, _⟩) (v := .bool true) rfl (by kernel_rfl) (by kernel_rfl) (by kernel_rfl) (fun _ _ _ h => h) (Or.inl ⟨by rfl, fun w hSw => by go_simp⟩) (by assumption) ?_
        try simp only [Act.put, List.setIfInBounds_toArray, List.set_cons_zero, List.set_cons_succ]
        refine wpAnyH_take (i := 46) (oi := ⟨some 206, _, _, _, _, _⟩) (v := .bool true) rfl (by kernel_rfl) (by kernel_rfl) (by kernel_rfl) (fun _ _ _ h => h) (Or.inl ⟨by rfl, fun w hSw => by go_simp⟩) (by assumption) ?_
        try simp only [Act.put, List.setIfInBounds_toArray, List.set_cons_zero, List.set_cons_succ]
        refine wpAnyH_take (i := 47) (oi := ⟨some 207, _, _, _, _, _⟩) (v := .agg #[.int .i64 n, .slice bt t.length ct]) rfl (by kernel_rfl) (by kernel_rfl) (by kernel_rfl) (fun _ _ _ h => h) (Or.inl ⟨by rfl, fun w hSw => by obtain ⟨_, _, _, _, _, _, _, _, q1, q2, _⟩ := hSw; go_simp⟩) (by assumption) ?_
        try simp only [Act.put, List.setIfInBounds_toArray, List.set_cons_zero, List.set_cons_succ]
        refine wpAnyH_take (i := 49) (oi := ⟨some 209, _, _, _, _, _⟩) (v := .int .i64 p) rfl (by kernel_rfl) (by kernel_rfl) (by kernel_rfl) (fun _ _ _ h => h) (Or.inl ⟨by rfl, fun w hSw => by go_simp⟩) (by assumption) ?_
        try simp only [Act.put, List.setIfInBounds_toArray, List.set_cons_zero, List.set_cons_succ]
        refine wpAnyH_ready (rs := [48]) (by kernel_rfl) (by simp) ?_
        refine AllReadyH.cons rfl (fun K hKK => ?_) AllReadyH.nil
        go_simp
        go_at_call 26
        refine (c_per n bt ct t p _ (HIt.out _ hbb8) HOt.out HPt.out).mono ?_
        rintro e wk9 ⟨rfl, hc9⟩
        have hbb9 : Below (putR v26 n bv g.length cv).heap.size (putR v26 n bv g.length cv) wk9 := hbb8.trans (hc9.mono hbb8.size)
        clear hc9
        refine hKK.out _ _ (HK.out _ hbb9) (fun hSS9 => ?_)
        clear hKK K hbb8 hSS8
        try simp only [Act.put, List.setIfInBounds_toArray, List.set_cons_zero, List.set_cons_succ]
        refine wpAnyH_take (i := 50) (oi := ⟨some 210, _, _, _, _, _⟩) (v := .bool true) rfl (by kernel_rfl) (by kernel_rfl) (by kernel_rfl) (fun _ _ _ h => h) (Or.inl ⟨by rfl, fun w hSw => by go_simp⟩) (by assumption) ?_
        try simp only [Act.put, List.setIfInBounds_toArray, List.set_cons_zero, List.set_cons_succ]
        refine wpAnyH_take (i := 51) (oi := ⟨some 211, _, _, _, _, _⟩) (v := .bool true) rfl (by kernel_rfl) (by kernel_rfl) (by kernel_rfl) (fun _ _ _ h => h) (Or.inl ⟨by rfl, fun w hSw => by go_simp⟩) (by assumption) ?_
        try simp only [Act.put, List.setIfInBounds_toArray, List.set_cons_zero, List.set_cons_succ]
        refine wpAnyH_take (i := 52) (oi := ⟨some 2, _, _, _, _, _⟩) (v := .bool true) rfl (by kernel_rfl) (by kernel_rfl) (by kernel_rfl) (fun _ _ _ h => h) (Or.inl ⟨by rfl, fun w hSw => by go_simp⟩) (by assumption) ?_
        try simp only [Act.put, List.setIfInBounds_toArray, List.set_cons_zero, List.set_cons_succ]
        refine wpAnyH_done (by kernel_rfl) ?_ _
        clear HK
        go_wp2
        go_ret
        exact ⟨rfl, HBE.out.trans (hbb9.mono HBE.out.size)⟩
  · clear hb
    go_enter Try.func4, Try.ntmps4
    go_wp2
    go_ret
    exact ⟨rfl, Below.refl _ _⟩
end Go.Proofs.Ytmlhpllppgcgkaa.Rhy
