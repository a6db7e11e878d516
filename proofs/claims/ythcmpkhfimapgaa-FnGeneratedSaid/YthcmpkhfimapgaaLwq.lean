/-
  Helpers of the claims beside this text: the law on generated rhythms.
-/
import Derived.Test.YthcmpkhfimapgaaLwn
import Derived.Test.YthcmpkhfimapgaaLwp
import Derived.Test.YthcmpkhfimapgaaLwk
namespace Go.Proofs.Ythcmpkhfimapgaa.Rhy
open Go.RowKit
open Go.Proofs.Ythcmpkhfimapgaa.Cur
set_option linter.unusedVariables false

set_option maxHeartbeats 8000000 in
set_option maxRecDepth 100000 in
theorem generated_walk (a : Option Addr) (len cap : Nat) (w : World) (hb : len ≤ 1048576 → BytesAt w.heap.size w a len) :
    Calls Try.prog 3 #[.slice a len cap] w fun e w' => e = .returned (.bool true) ∧ Below w.heap.size w w' := by
  by_cases hlen : len ≤ 1048576
  · have HBY := Lib.hid (hb hlen)
    clear hb
    go_enter Try.func3, Try.ntmps3
    go_wp2_with fail
    refine (num_any a len cap 0 w HBY.out (by omega)).mono ?_
    rintro e v0 ⟨q0, rfl, hq0, hq0', hb⟩
    have HB0x := Lib.hid (show Below w.heap.size w v0 from hb)
    clear hb
    obtain ⟨n, hn, hn2, hn17⟩ : ∃ n : Nat, 2 + q0 % 16 = (n : Int) ∧ 2 ≤ n ∧ n ≤ 17 := ⟨(2 + q0 % 16).toNat, by omega, by omega, by omega⟩
    have HN := Lib.hid hn
    clear hn
    go_wp2_with fail
    rw [HN.out]
    refine (num_any a len cap 2 v0 (bytes_up HBY.out HB0x.out HB0x.out.size) (by omega)).mono ?_
    rintro e v1 ⟨q1, rfl, hq1, hq1', hb⟩
    have HB1x := Lib.hid (show Below w.heap.size w v1 from HB0x.out.trans (hb.mono HB0x.out.size))
    clear HB0x hb
    clear hq0 hq0' HN
    obtain ⟨k, hk, hkn⟩ : ∃ k : Nat, q1 % ((n : Int) + 1) = (k : Int) ∧ k ≤ n := ⟨(q1 % ((n : Int) + 1)).toNat, by have := em_bd q1 (n := (n : Int) + 1) (by omega); omega, by have := em_bd q1 (n := (n : Int) + 1) (by omega); omega⟩
    have HKK := Lib.hid hk
    clear hk
    go_wp2_with fail
    rw [HKK.out]
    refine (num_any a len cap 4 v1 (bytes_up HBY.out HB1x.out HB1x.out.size) (by omega)).mono ?_
    rintro e v2 ⟨q2, rfl, hq2, hq2', hb⟩
    have HB2x := Lib.hid (show Below w.heap.size w v2 from HB1x.out.trans (hb.mono HB1x.out.size))
    clear HB1x hb
    clear hq1 hq1' HKK
    obtain ⟨g, hg, hg1, hgn⟩ : ∃ g : Nat, 1 + q2 % ((n : Int) - 1) = (g : Int) ∧ 1 ≤ g ∧ g < n := ⟨(1 + q2 % ((n : Int) - 1)).toNat, by have := em_bd q2 (n := (n : Int) - 1) (by omega); omega, by have := em_bd q2 (n := (n : Int) - 1) (by omega); omega, by have := em_bd q2 (n := (n : Int) - 1) (by omega); omega⟩
    have HGG := Lib.hid hg
    clear hg
    have HNB : Hid (1 ≤ n ∧ n ≤ 24) := Lib.hid ⟨by omega, by omega⟩
    have HGI := Lib.hid (genC_iff HNB.out hkn (show 1 ≤ g ∧ g ≤ n by omega))
    obtain ⟨d, hd⟩ : ∃ d, Nat.gcd g n = d := ⟨_, rfl⟩
    have HD := Lib.hid hd
    have hd0 : 1 ≤ d := by rw [← hd]; exact Nat.gcd_pos_of_pos_left _ hg1
    have hdn : d ≤ 17 := by rw [← hd]; exact Nat.le_trans (Nat.gcd_le_left _ hg1) (by omega)
    obtain ⟨kd, hkd⟩ : ∃ m : Nat, k * d = m := ⟨_, rfl⟩
    have HKD := Lib.hid hkd
    have hkdb : kd ≤ 289 := by rw [← hkd]; exact Nat.mul_le_mul (show k ≤ 17 by omega) hdn
    have hkdi : (k : Int) * (d : Int) = (kd : Int) := by rw [← hkd]; simp
    have HKDI := Lib.hid hkdi
    clear hd hkd hkdi
    have hwg : wrap64 (g : Int) = (g : Int) := by unfold wrap64; omega
    go_wp2_with fail
    rw [HGG.out, hwg]
    clear HGG hq2 hq2' hwg
    have hwk : wrap64 ((k : Int) * (d : Int)) = (kd : Int) := by rw [HKDI.out]; unfold wrap64; omega
    have HWK := Lib.hid hwk
    clear hwk
    by_cases hC : GenC n k g
    · have hle : kd ≤ n := by have h := HGI.out.1 hC; rw [HD.out, HKD.out] at h; exact h
      have HC := Lib.hid hC
      clear hC
      obtain ⟨G, hG⟩ : ∃ l, genZ n k g = l := ⟨_, rfl⟩
      have HEG := Lib.hid hG
      have HOG : Hid (Ok n G) := Lib.hid (by rw [← hG]; exact genZ_ok (by omega))
      clear hG
      skip
      refine (v_gen_yes n k g G v2 (by omega) (by omega) (by omega) HC.out HEG.out).mono ?_
      rintro e v3 ⟨br, cr, rfl, hown, hb⟩
      have HB3x := Lib.hid (show Below w.heap.size w v3 from HB2x.out.trans (hb.mono HB2x.out.size))
      clear HB2x hb
      have hrw : w.heap.size ≤ v3.heap.size := HB3x.out.size
      have HXn := Lib.hid (rhAt_put (n := n) hown (ok_allInt HOG.out))
      clear hown
      have hb := putR_below v3 n br G.length cr
      have HB4x := Lib.hid (show Below w.heap.size w (putR v3 n br G.length cr) from HB3x.out.trans (hb.mono HB3x.out.size))
      clear HB3x hb
      have HXr4 : Hid (RhAt (putR v3 n br G.length cr) v3.heap.size n br cr G) := HXn
      clear HXn
      go_wp2_with fail
      refine (v_gcd g n d (putR v3 n br G.length cr) (by omega) (by omega) HD.out).mono ?_
      rintro e v5 ⟨rfl, hb⟩
      have HXr5 := Lib.hid (HXr4.out.keep hb)
      clear HXr4
      have HB5x := Lib.hid (show Below w.heap.size w v5 from HB4x.out.trans (hb.mono HB4x.out.size))
      clear HB4x hb
      have hdec : decide ((kd : Int) ≤ (n : Int)) = true := by simp; omega
      have hwk := HWK.out
      have hrx : v3.heap.size < v5.heap.size := HXr5.out.1.lt
      go_wp2_with fail
      refine (mof_any a len cap 10 n v5 (bytes_up HBY.out HB5x.out HB5x.out.size) (by omega) (by omega) (by omega)).mono ?_
      rintro e v6 ⟨bx, cx, x, rfl, hox, hown, hb⟩
      have HXr6 := Lib.hid (HXr5.out.keep hb)
      clear HXr5
      have HB6x := Lib.hid (show Below w.heap.size w v6 from HB5x.out.trans (hb.mono HB5x.out.size))
      clear HB5x hb
      have hrx' : v3.heap.size ≠ v6.heap.size := Nat.ne_of_lt HXr6.out.1.lt
      have HOx := Lib.hid hox
      clear hox hwk hdec
      have HOWX : Hid ((putR v6 n bx x.length cx).ownsRow v5.heap.size 3 1 (.slice bx x.length cx) x.length (ints x)) := Lib.hid (own_below hown (putR_below _ _ _ _ _))
      have HXn := Lib.hid (rhAt_put (n := n) hown (ok_allInt HOx.out))
      clear hown
      have hb := putR_below v6 n bx x.length cx
      have HXr7 := Lib.hid (HXr6.out.keep hb)
      clear HXr6
      have HB7x := Lib.hid (show Below w.heap.size w (putR v6 n bx x.length cx) from HB6x.out.trans (hb.mono HB6x.out.size))
      clear HB6x hb
      have HXx7 : Hid (RhAt (putR v6 n bx x.length cx) v6.heap.size n bx cx x) := HXn
      clear HXn
      obtain ⟨W7, hW7⟩ : ∃ W7, putR v6 n bx x.length cx = W7 := ⟨_, rfl⟩
      go_upto_if 56 with fail
      try rw [hW7]
      rw [hW7] at HXr7 HXx7 HB7x HOWX
      obtain ⟨rb, hrb⟩ : ∃ b, v3.heap.size = b := ⟨_, rfl⟩
      obtain ⟨xb, hxb⟩ : ∃ b, v6.heap.size = b := ⟨_, rfl⟩
      obtain ⟨B5, hB5⟩ : ∃ b, v5.heap.size = b := ⟨_, rfl⟩
      rw [hrb] at hrx hrx' hrw HXr7
      rw [hxb] at hrx' HXx7
      rw [hB5] at hrx HOWX
      rw [hrb]
      try rw [hxb]
      clear hW7 hrb hxb hB5
      have HNB' : 1 ≤ (n : Int) ∧ (n : Int) ≤ 24 := by omega
      go_cut [] (fun wx => RhAt wx xb n bx cx x ∧ Below w.heap.size w wx)
      case first =>
        go_wp2_with fail
        go_upto_region 11 with fail
        have HYB : Hid (∀ W' : World, Below W7.heap.size W7 W' → BytesAt W'.heap.size W' a len) := Lib.hid (fun W' hW => bytes_up HBY.out (HB7x.out.trans (hW.mono HB7x.out.size)) (Nat.le_trans HB7x.out.size hW.size))
        have HIr : Hid (∀ W' : World, Below W7.heap.size W7 W' → IntsAt W' br G.length G) := Lib.hid (fun W' hW => (HXr7.out.keep hW).2)
        go_cut [] (fun wx => ∃ (t : Int) (b : Option Addr) (c : Nat) (RR : List Int), rotZ n G 1 t = RR ∧ RhAt wx rb n b c RR ∧ RhAt wx xb n bx cx x ∧ Below w.heap.size w wx)
        case first =>
          as_aux_lemma =>
            obtain ⟨p0, p1, p2, p3⟩ := HXr7.out.1.facts
            have ltr := HXr7.out.1.lt
            go_region_with (first | (go_at_call 13; refine (num_any a len cap 6 _ (HYB.out _ (Below.refl _ _).drew) (by omega)).mono ?_; rintro e wa ⟨q3, rfl, hq3, hq3', hba⟩; have hxx := HXr7.out.1.keep ((Below.refl _ _).drew.trans hba) HXr7.out.1.lt; obtain ⟨s0, s1, s2, s3⟩ := hxx.facts; have lts := hxx.lt; have HBA := Lib.hid ((Below.refl _ _).drew.trans hba); clear hxx hba; obtain ⟨t, ht, ht1, ht2⟩ : ∃ t : Int, q3 % (n : Int) = t ∧ 0 ≤ t ∧ t < n := ⟨_, rfl, (em_bd q3 (n := (n : Int)) (by omega)).1, (em_bd q3 (n := (n : Int)) (by omega)).2⟩; have HTT := Lib.hid ht; clear ht) | (go_simp; go_at_call 17; rw [HTT.out]; refine (v_rots n br cr G _ t _ (HIr.out _ HBA.out) HOG.out (by omega) (by omega) rfl).mono ?_; rintro e wb ⟨b2, c2, rfl, hown2, hb2⟩; have hbb := HBA.out.trans (hb2.mono HBA.out.size); have hyy := HXr7.out.1.keep hbb HXr7.out.1.lt; obtain ⟨u0, u1, u2, u3⟩ := hyy.facts; have ltu := hyy.lt; have HBB := Lib.hid hbb; have HOW2 := Lib.hid hown2; have HLA : Hid (rb < wa.heap.size) := Lib.hid lts; clear hbb hyy hown2 hb2))
            all_goals (
              go_wp2_with fail
              go_meet
              refine ⟨t, b2, c2, _, rfl, ⟨?_, ?_⟩, ⟨?_, ?_⟩, ?_⟩
              · exact ((HXr7.out.1.keep HBB.out HXr7.out.1.lt).set0 _).set1 _
              · exact intsAt_own (ownsRow_setCell_below (ownsRow_setCell_below HOW2.out HLA.out _) HLA.out _) (ok_allInt (rot_ok HNB' _ _))
              · exact ((HXx7.out.1.keep HBB.out HXx7.out.1.lt).other _ hrx').other _ hrx'
              · exact intsAt_own (ownsRow_setCell_below (ownsRow_setCell_below (own_below HOWX.out HBB.out) hrx _) hrx _) (ok_allInt HOx.out)
              · exact ((HB7x.out.trans (HBB.out.mono HB7x.out.size)).setCell hrw _).setCell hrw _)
        case rest =>
          obtain ⟨t, b, c, RR, hRR, hxr, hxx, hbl⟩ := hcut
          obtain ⟨wo, rfl⟩ : ∃ wo : World, wo = wc := ⟨_, rfl⟩
          have HXr8 := Lib.hid hxr
          have HXx8 := Lib.hid hxx
          have HB8x := Lib.hid hbl
          have HRR : Hid (rrZ n k g t = RR) := Lib.hid (by unfold rrZ; rw [HEG.out]; exact hRR)
          clear hRR hxr hxx hbl HXr7 HXx7 HB7x HYB HIr HOWX
          have hn2' : 2 ≤ n ∧ n ≤ 17 := ⟨hn2, hn17⟩
          have HN2 := Lib.hid hn2'
          clear hn2'
          have HG1 : Hid (1 ≤ g ∧ g < n) := Lib.hid ⟨hg1, hgn⟩
          have HOR : Hid (Ok n RR) := Lib.hid (f_ok HN2.out HRR.out)
          have HRL : Hid (RR.length = k) := Lib.hid (f_len HC.out HRR.out)
          obtain ⟨L, hL⟩ : ∃ l, gnB n RR = l := ⟨_, rfl⟩
          have HEL := Lib.hid hL
          clear hL
          obtain ⟨C, hC⟩ : ∃ l, chB n RR g = l := ⟨_, rfl⟩
          have HEC := Lib.hid hC
          clear hC
          obtain ⟨lo, hlo⟩ : ∃ l, notZ n RR = l := ⟨_, rfl⟩
          have HElo := Lib.hid hlo
          clear hlo
          obtain ⟨S, hS⟩ : ∃ l, sizeB n RR = l := ⟨_, rfl⟩
          have HES := Lib.hid hS
          clear hS
          obtain ⟨q, hq⟩ : ∃ q, S.length = q := ⟨_, rfl⟩
          have HQ := Lib.hid hq
          clear hq
          have HSQ : Hid ((sizeB n RR).length = q) := Lib.hid (by rw [HES.out, HQ.out])
          have hq3 : q ≤ 3 := by rw [← HSQ.out]; exact (f_few HN2.out hkn HG1.out HC.out HRR.out).1
          have HOo : Hid (Ok n lo) := Lib.hid (by rw [← HElo.out]; exact not_ok' HOR.out)
          have HCL : Hid (C.length = k) := Lib.hid (by rw [← HEC.out]; exact f_chl HC.out hgn HRR.out)
          have hL24 : L.length ≤ 24 := by rw [← HEL.out]; exact gnB_len _ _
          obtain ⟨pr0, pr1, pr2, pr3⟩ := HXr8.out.1.facts
          have ltr := HXr8.out.1.lt
          go_wp2_with fail
          refine (v_gens n b c RR L wo HXr8.out.2 HOR.out HEL.out).mono ?_
          rintro e v21 ⟨bL, cL, rfl, hil, hb⟩
          clear pr0 pr1 pr2 pr3 ltr
          have HXr21 := Lib.hid (HXr8.out.keep hb)
          clear HXr8
          have HXx21 := Lib.hid (HXx8.out.keep hb)
          clear HXx8
          have HB21x := Lib.hid (show Below w.heap.size w v21 from HB8x.out.trans (hb.mono HB8x.out.size))
          clear HB8x hb
          have HLL0 := Lib.hid hil
          clear hil
          obtain ⟨pr0, pr1, pr2, pr3⟩ := HXr21.out.1.facts
          have ltr := HXr21.out.1.lt
          go_wp2_with fail
          refine (v_chn n b c RR C g v21 HXr21.out.2 HOR.out (by omega) HEC.out).mono ?_
          rintro e v22 ⟨bC, cC, rfl, hil, hb⟩
          clear pr0 pr1 pr2 pr3 ltr
          have HXr22 := Lib.hid (HXr21.out.keep hb)
          clear HXr21
          have HXx22 := Lib.hid (HXx21.out.keep hb)
          clear HXx21
          have HLL22 := Lib.hid (HLL0.out.below hb)
          clear HLL0
          have HB22x := Lib.hid (show Below w.heap.size w v22 from HB21x.out.trans (hb.mono HB21x.out.size))
          clear HB21x hb
          rw [HCL.out] at hil ⊢
          have HLC0 := Lib.hid hil
          clear hil
          obtain ⟨pr0, pr1, pr2, pr3⟩ := HXr22.out.1.facts
          have ltr := HXr22.out.1.lt
          go_wp2_with fail
          refine (r_oth n b c RR lo v22 HXr22.out.2 HOR.out HElo.out).mono ?_
          rintro e v23 ⟨bo, co, rfl, hown, hb⟩
          clear pr0 pr1 pr2 pr3 ltr
          have HXr23 := Lib.hid (HXr22.out.keep hb)
          clear HXr22
          have HXx23 := Lib.hid (HXx22.out.keep hb)
          clear HXx22
          have HLL23 := Lib.hid (HLL22.out.below hb)
          clear HLL22
          have HLC23 := Lib.hid (HLC0.out.below hb)
          clear HLC0
          have HB23x := Lib.hid (show Below w.heap.size w v23 from HB22x.out.trans (hb.mono HB22x.out.size))
          clear HB22x hb
          have HXn := Lib.hid (rhAt_put (n := n) hown (ok_allInt HOo.out))
          clear hown
          have hb := putR_below v23 n bo lo.length co
          have HXr24 := Lib.hid (HXr23.out.keep hb)
          clear HXr23
          have HXx24 := Lib.hid (HXx23.out.keep hb)
          clear HXx23
          have HLL24 := Lib.hid (HLL23.out.below hb)
          clear HLL23
          have HLC24 := Lib.hid (HLC23.out.below hb)
          clear HLC23
          have HB24x := Lib.hid (show Below w.heap.size w (putR v23 n bo lo.length co) from HB23x.out.trans (hb.mono HB23x.out.size))
          clear HB23x hb
          have HXo24 : Hid (RhAt (putR v23 n bo lo.length co) v23.heap.size n bo co lo) := HXn
          clear HXn
          go_upto_region 15 with fail
          obtain ⟨W8, hW8⟩ : ∃ W8, putR v23 n bo lo.length co = W8 := ⟨_, rfl⟩
          have HXrw : Hid (RhAt W8 rb n b c RR) := Lib.hid (by rw [← hW8]; exact HXr24.out)
          have HXow : Hid (RhAt W8 v23.heap.size n bo co lo) := Lib.hid (by rw [← hW8]; exact HXo24.out)
          have HXxw : Hid (RhAt W8 xb n bx cx x) := Lib.hid (by rw [← hW8]; exact HXx24.out)
          have HLLw : Hid (IntsAt W8 bL L.length L) := Lib.hid (by rw [← hW8]; exact HLL24.out)
          have HLCw : Hid (IntsAt W8 bC k C) := Lib.hid (by rw [← hW8]; exact HLC24.out)
          have HBw : Hid (Below w.heap.size w W8) := Lib.hid (by rw [← hW8]; exact HB24x.out)
          obtain ⟨ob, hob⟩ : ∃ b, v23.heap.size = b := ⟨_, rfl⟩
          rw [hob] at HXow ⊢
          change Code.wp _ _ _ _ (putR v23 n bo lo.length co)
          rw [hW8]
          clear hW8 hob HXr24 HXo24 HXx24 HLL24 HLC24 HB24x
          refine wp_code (c' := rgOf Try.f3 15) (by kernel_rfl) ?_
          refine reg15 n k g d q t RR L lo rb ob b bL bC bo c cL cC co W8 hn2 hn17 hkn hg1 hgn HC.out HRR.out HEL.out HElo.out HSQ.out HD.out HXrw.out HXow.out HLLw.out ?_
          intro x76 x77 x78 x79 x80 x81 x82 x83 x84 x85 x86 x87 x88 x89 x90 x91 x92 x93 x94 x95 x96 x97 x98 x99 x100 x101 x102 x103 x104 x105 x106 x107 x108 x109 x110 x111 x112 x113 x114 x115 x116 x117 x118 x119 x120 w9 hb
          have HXr125 := Lib.hid (HXrw.out.keep hb)
          clear HXrw
          have HXx125 := Lib.hid (HXxw.out.keep hb)
          clear HXxw
          have HXo125 := Lib.hid (HXow.out.keep hb)
          clear HXow
          have HLL125 := Lib.hid (HLLw.out.below hb)
          clear HLLw
          have HLC125 := Lib.hid (HLCw.out.below hb)
          clear HLCw
          have HB125x := Lib.hid (show Below w.heap.size w w9 from HBw.out.trans (hb.mono HBw.out.size))
          clear HBw hb
          clear HXo125 HLL125
          have HLB : Hid (Below w.heap.size w w9 ∧ RhAt w9 rb n b c RR ∧ RhAt w9 xb n bx cx x ∧ IntsAt w9 bC k C) := Lib.hid ⟨HB125x.out, HXr125.out, HXx125.out, HLC125.out⟩
          clear HB125x HLC125 HXr125 HXx125
          go_wp2
          go_loopw [124] (fun i wr => ∃ p : Nat, p ≤ k ∧ i = .int .i64 p ∧ Below w.heap.size w wr ∧ RhAt wr rb n b c RR ∧ RhAt wr xb n bx cx x ∧ IntsAt wr bC k C) (fun i _ => k - (intOf i).toNat)
          case atStart => exact ⟨0, by omega, rfl, HLB.out⟩
          case round =>
            clear HLB
            obtain ⟨p, hp, rfl, hbl, hxr, hxx, hlc⟩ := hrel
            have HXrL := Lib.hid hxr
            have HXxL := Lib.hid hxx
            have HLCL := Lib.hid hlc
            have HBL := Lib.hid hbl
            clear hbl hxr hxx hlc
            by_cases hlt : p < k
            · have hltb : decide ((p : Int) < (k : Int)) = true := by simp; omega
              obtain ⟨gC, oC, z, rfl, la, hz, c1, z0, z1⟩ := HLCL.out.at hlt
              have HZ : Hid ((chB n RR g)[p]?.getD 0 = z) := Lib.hid (by rw [HEC.out, hz]; rfl)
              have HIN := Lib.hid (f_in HN2.out HC.out hgn HRR.out hlt HZ.out)
              have hz0 : 0 ≤ z ∧ z < (n : Int) := HIN.out.2
              have HCP := Lib.hid c1
              clear hz
              by_cases hp0 : p = 0
              · have hgt : decide (0 < p) = false := by simp; omega
                clear hp0
                as_aux_lemma =>
                  obtain ⟨pr0, pr1, pr2, pr3⟩ := HXrL.out.1.facts
                  have ltr := HXrL.out.1.lt
                  go_wp2_with fail
                  refine (r_has n b c RR z true wr HXrL.out.2 HOR.out (by omega) (by omega) HIN.out.1).mono ?_
                  rintro e v126 ⟨rfl, hb⟩
                  clear pr0 pr1 pr2 pr3 ltr
                  have HXr126 := Lib.hid (HXrL.out.keep hb)
                  clear HXrL
                  have HXx126 := Lib.hid (HXxL.out.keep hb)
                  clear HXxL
                  have HLC126 := Lib.hid (HLCL.out.below hb)
                  clear HLCL
                  have HB126x := Lib.hid (show Below w.heap.size w v126 from HBL.out.trans (hb.mono HBL.out.size))
                  clear HBL hb
                  go_wp2
                  go_roundw
                  case rel => exact ⟨p + 1, by omega, by go_num, HB126x.out, HXr126.out, HXx126.out, HLC126.out⟩
                  case measure => simp [intOf]; omega
              · obtain ⟨p', hpp⟩ : ∃ p' : Nat, p = p' + 1 := ⟨p - 1, by omega⟩
                have hgt : decide (0 < p) = true := by simp; omega
                have HPP := Lib.hid hpp
                have hpi : (p : Int) - 1 = (p' : Int) := by omega
                have hk' : p' < k := by omega
                clear hp0 hpp
                as_aux_lemma =>
                  obtain ⟨g2, o2, z', he, la', hz', c2, z0', z1'⟩ := HLCL.out.at hk'
                  obtain ⟨rfl, rfl⟩ : gC = g2 ∧ oC = o2 := by simpa using he
                  have HNX : Hid ((z - z' + (n : Int)) % (n : Int) = (g : Int)) := Lib.hid (f_next HC.out HG1.out HRR.out (i := p') (by have := HPP.out; omega) (by rw [← HPP.out]; exact HZ.out) (by rw [HEC.out, hz']; rfl))
                  have hz2 : 0 ≤ z' ∧ z' < (n : Int) := (f_in HN2.out HC.out hgn HRR.out hk' (show (chB n RR g)[p']?.getD 0 = z' by rw [HEC.out, hz']; rfl)).2
                  have HCQ4 : Hid (∀ W' : World, Below wr.heap.size wr W' → W'.cell? ⟨gC, oC + p', none⟩ = some (.int .i64 z')) := Lib.hid (fun W' hW => by have h := cell_at (HLCL.out.below hW) (k := p') (by omega); rw [hz'] at h; exact h)
                  clear he hz'
                  obtain ⟨pr0, pr1, pr2, pr3⟩ := HXrL.out.1.facts
                  have ltr := HXrL.out.1.lt
                  go_wp2_with fail
                  refine (r_has n b c RR z true wr HXrL.out.2 HOR.out (by omega) (by omega) HIN.out.1).mono ?_
                  rintro e v146 ⟨rfl, hb⟩
                  have hbq := hb
                  clear pr0 pr1 pr2 pr3 ltr
                  have HXr146 := Lib.hid (HXrL.out.keep hb)
                  clear HXrL
                  have HXx146 := Lib.hid (HXxL.out.keep hb)
                  clear HXxL
                  have HLC146 := Lib.hid (HLCL.out.below hb)
                  clear HLCL
                  have HB146x := Lib.hid (show Below w.heap.size w v146 from HBL.out.trans (hb.mono HBL.out.size))
                  clear HBL hb
                  have c4 := HCQ4.out _ hbq
                  have hnx := HNX.out
                  clear hbq
                  go_wp2
                  go_roundw
                  case rel => exact ⟨p + 1, by omega, by go_num, HB146x.out, HXr146.out, HXx146.out, HLC146.out⟩
                  case measure => simp [intOf]; omega
            · have hltb : decide ((p : Int) < (k : Int)) = false := by simp; omega
              clear HLCL
              obtain ⟨T, hT⟩ : ∃ l, tsB n g = l := ⟨_, rfl⟩
              have HET := Lib.hid hT
              have hT24 : T.length ≤ 24 := by rw [← hT]; exact tsB_len _ _
              clear hT
              have HTQ := Lib.hid (f_two HN2.out hkn HG1.out HC.out HRR.out HSQ.out)
              obtain ⟨m1, hm1⟩ : ∃ m : Nat, (k + 1) * d = m := ⟨_, rfl⟩
              have HM1 := Lib.hid hm1
              have hm1b : m1 ≤ 306 := by rw [← hm1]; exact Nat.mul_le_mul (show k + 1 ≤ 18 by omega) hdn
              have hwm : wrap64 (((k : Int) + 1) * (d : Int)) = (m1 : Int) := by rw [show ((k : Int) + 1) * (d : Int) = (m1 : Int) by rw [← hm1]; push_cast; rfl]; unfold wrap64; omega
              have HWM := Lib.hid hwm
              clear hm1 hwm hltb
              have HEX : Hid (exC n RR g ↔ 0 < k ∧ m1 ≤ n) := Lib.hid (by have h := f_ext HC.out HG1.out HRR.out; rw [HD.out, HM1.out] at h; exact h)
              by_cases hx : 0 < k ∧ m1 ≤ n
              · have HX := Lib.hid (HEX.out.2 hx)
                obtain ⟨Y, hY, hYr, hYc⟩ := f_exz HC.out HG1.out HRR.out HX.out
                have HEY := Lib.hid hY
                have HYR := Lib.hid hYr
                have HYC := Lib.hid hYc
                have HOY : Hid (Ok n Y) := Lib.hid (f_ok HN2.out HYR.out)
                have HYL : Hid (Y.length = k + 1) := Lib.hid (f_len HYC.out HYR.out)
                obtain ⟨Ly, hLy⟩ : ∃ l, gnB n Y = l := ⟨_, rfl⟩
                have HELy := Lib.hid hLy
                have hLy24 : Ly.length ≤ 24 := by rw [← hLy]; exact gnB_len _ _
                have HYH : Hid (hasB Ly g = true) := Lib.hid (by rw [← hLy]; exact f_has HYC.out hgn HYR.out)
                clear hY hYr hYc hLy
                obtain ⟨hx1, hx2⟩ := hx
                obtain ⟨pr0, pr1, pr2, pr3⟩ := HXrL.out.1.facts
                have ltr := HXrL.out.1.lt
                go_wp2_with fail
                refine (v_ext_yes n b c RR Y g wr HXrL.out.2 HOR.out (by omega) HX.out HEY.out).mono ?_
                rintro e v166 ⟨bw, cy, rfl, hown, hb⟩
                clear pr0 pr1 pr2 pr3 ltr
                have HXr166 := Lib.hid (HXrL.out.keep hb)
                clear HXrL
                have HXx166 := Lib.hid (HXxL.out.keep hb)
                clear HXxL
                have HB166x := Lib.hid (show Below w.heap.size w v166 from HBL.out.trans (hb.mono HBL.out.size))
                clear HBL hb
                have HXn := Lib.hid (rhAt_put (n := n) hown (ok_allInt HOY.out))
                clear hown
                have hb := putR_below v166 n bw Y.length cy
                have HXr167 := Lib.hid (HXr166.out.keep hb)
                clear HXr166
                have HXx167 := Lib.hid (HXx166.out.keep hb)
                clear HXx166
                have HB167x := Lib.hid (show Below w.heap.size w (putR v166 n bw Y.length cy) from HB166x.out.trans (hb.mono HB166x.out.size))
                clear HB166x hb
                have HXy167 : Hid (RhAt (putR v166 n bw Y.length cy) v166.heap.size n bw cy Y) := HXn
                clear HXn
                go_upto_region 24 with fail
                obtain ⟨W9, hW9⟩ : ∃ W9, putR v166 n bw Y.length cy = W9 := ⟨_, rfl⟩
                change Code.wp _ _ _ _ (putR v166 n bw Y.length cy)
                rw [hW9]
                have HXrv : Hid (RhAt W9 rb n b c RR) := Lib.hid (by rw [← hW9]; exact HXr167.out)
                have HXxv : Hid (RhAt W9 xb n bx cx x) := Lib.hid (by rw [← hW9]; exact HXx167.out)
                have HXyv : Hid (RhAt W9 v166.heap.size n bw cy Y) := Lib.hid (by rw [← hW9]; exact HXy167.out)
                have HBv : Hid (Below w.heap.size w W9) := Lib.hid (by rw [← hW9]; exact HB167x.out)
                clear hW9 HXr167 HXx167 HXy167 HB167x
                obtain ⟨yb, hyb⟩ : ∃ b, v166.heap.size = b := ⟨_, rfl⟩
                rw [hyb] at HXyv ⊢
                clear hyb
                refine wp_code (c' := rgOf Try.f3 24) (by kernel_rfl) ?_
                refine reg24y n k g d q m1 t RR Y rb yb b bw c cy W9 hn2 hn17 hkn hg1 hgn HC.out HRR.out HSQ.out HD.out HM1.out HXrv.out hx1 hx2 HXyv.out HOY.out HYL.out HYR.out HYC.out ?_
                intro x159 x160 x161 x162 x163 x164 x165 x166 x167 x168 x169 x170 x171 x172 x173 x174 x175 x176 x177 x178 x179 x180 x181 x182 x183 x184 x185 x186 x187 x188 x189 x190 x191 x192 x193 x194 x195 x196 x197 x198 x199 x200 x201 x202 x203 x204 x205 x206 x207 x208 w5 hb
                have HXr168 := Lib.hid (HXrv.out.keep hb)
                clear HXrv
                have HXx168 := Lib.hid (HXxv.out.keep hb)
                clear HXxv
                have HB168x := Lib.hid (show Below w.heap.size w w5 from HBv.out.trans (hb.mono HBv.out.size))
                clear HBv hb
                go_wp2_with fail
                go_meet
                exact ⟨HXx168.out, HB168x.out⟩
              · have HX : Hid (¬ exC n RR g) := Lib.hid (fun q => hx (HEX.out.1 q))
                obtain ⟨pr0, pr1, pr2, pr3⟩ := HXrL.out.1.facts
                have ltr := HXrL.out.1.lt
                go_wp2_with fail
                refine (v_ext_no n b c RR g wr HXrL.out.2 HOR.out (by omega) HX.out).mono ?_
                rintro e v366 ⟨bw, cy, rfl, hown, hb⟩
                clear pr0 pr1 pr2 pr3 ltr
                have HXr366 := Lib.hid (HXrL.out.keep hb)
                clear HXrL
                have HXx366 := Lib.hid (HXxL.out.keep hb)
                clear HXxL
                have HB366x := Lib.hid (show Below w.heap.size w v366 from HBL.out.trans (hb.mono HBL.out.size))
                clear HBL hb
                clear hown
                have hb := bel1 v366 (.cells #[.int .i64 0, .slice bw 0 cy] 26)
                have HXr367 := Lib.hid (HXr366.out.keep hb)
                clear HXr366
                have HXx367 := Lib.hid (HXx366.out.keep hb)
                clear HXx366
                have HB367x := Lib.hid (show Below w.heap.size w (v366.alloc (.cells #[.int .i64 0, .slice bw 0 cy] 26)) from HB366x.out.trans (hb.mono HB366x.out.size))
                clear HB366x hb
                go_upto_region 24 with fail
                obtain ⟨W9, hW9⟩ : ∃ W9, v366.alloc (.cells #[.int .i64 0, .slice bw 0 cy] 26) = W9 := ⟨_, rfl⟩
                change Code.wp _ _ _ _ (v366.alloc (.cells #[.int .i64 0, .slice bw 0 cy] 26))
                rw [hW9]
                have HXrv : Hid (RhAt W9 rb n b c RR) := Lib.hid (by rw [← hW9]; exact HXr367.out)
                have HXxv : Hid (RhAt W9 xb n bx cx x) := Lib.hid (by rw [← hW9]; exact HXx367.out)
                have HBv : Hid (Below w.heap.size w W9) := Lib.hid (by rw [← hW9]; exact HB367x.out)
                clear hW9 HXr367 HXx367 HB367x
                refine wp_code (c' := rgOf Try.f3 24) (by kernel_rfl) ?_
                refine reg24n n k g d q m1 t RR rb b c W9 hn2 hn17 hkn hg1 hgn HC.out HRR.out HSQ.out HD.out HM1.out HXrv.out hx ?_
                intro x159 x160 x161 x162 x163 x164 x165 x166 x167 x168 x169 x170 x171 x172 x173 x174 x175 x176 x177 x178 x179 x180 x181 x182 x183 x184 x185 x186 x187 x188 x189 x190 x191 x192 x193 x194 x195 x196 x197 x198 x199 x200 x201 x202 x203 x204 x205 x206 x207 x208 w5 hb
                have HXr368 := Lib.hid (HXrv.out.keep hb)
                clear HXrv
                have HXx368 := Lib.hid (HXxv.out.keep hb)
                clear HXxv
                have HB368x := Lib.hid (show Below w.heap.size w w5 from HBv.out.trans (hb.mono HBv.out.size))
                clear HBv hb
                go_wp2_with fail
                go_meet
                exact ⟨HXx368.out, HB368x.out⟩
      case rest =>
        obtain ⟨hxx, hbl⟩ := hcut
        obtain ⟨wz, rfl⟩ : ∃ wz : World, wz = wc := ⟨_, rfl⟩
        have HXxZ := Lib.hid hxx
        have HBZ := Lib.hid hbl
        clear hxx hbl
        have hxl : x.length ≤ n := by have := not_len' HOx.out; omega
        obtain ⟨E, hE⟩ : ∃ l, evZ (x.length : Nat) n 0 = l := ⟨_, rfl⟩
        have HEE := Lib.hid hE
        have HOE : Hid (Ok n E) := Lib.hid (by rw [← hE]; exact evZ_ok (by unfold EvC; omega))
        clear hE
        obtain ⟨px0, px1, px2, px3⟩ := HXxZ.out.1.facts
        have ltx := HXxZ.out.1.lt
        go_wp2_with fail
        refine (v_even n x.length E wz (by omega) hxl HEE.out).mono ?_
        rintro e v601 ⟨be, ce, rfl, hown, hb⟩
        clear px0 px1 px2 px3 ltx
        have HXx601 := Lib.hid (HXxZ.out.keep hb)
        clear HXxZ
        have HB601x := Lib.hid (show Below w.heap.size w v601 from HBZ.out.trans (hb.mono HBZ.out.size))
        clear HBZ hb
        have HXn := Lib.hid (rhAt_put (n := n) hown (ok_allInt HOE.out))
        clear hown
        have hb := putR_below v601 n be E.length ce
        have HXx602 := Lib.hid (HXx601.out.keep hb)
        clear HXx601
        have HB602x := Lib.hid (show Below w.heap.size w (putR v601 n be E.length ce) from HB601x.out.trans (hb.mono HB601x.out.size))
        clear HB601x hb
        have HXe602 : Hid (RhAt (putR v601 n be E.length ce) v601.heap.size n be ce E) := HXn
        clear HXn
        go_upto_region 27 with fail
        obtain ⟨W9, hW9⟩ : ∃ W9, putR v601 n be E.length ce = W9 := ⟨_, rfl⟩
        have HZx : Hid (RhAt W9 xb n bx cx x) := Lib.hid (by rw [← hW9]; exact HXx602.out)
        have HZe : Hid (RhAt W9 v601.heap.size n be ce E) := Lib.hid (by rw [← hW9]; exact HXe602.out)
        have HBz : Hid (Below w.heap.size w W9) := Lib.hid (by rw [← hW9]; exact HB602x.out)
        obtain ⟨eb, heb⟩ : ∃ b, v601.heap.size = b := ⟨_, rfl⟩
        rw [heb] at HZe ⊢
        change Code.wp _ _ _ _ (putR v601 n be E.length ce)
        rw [hW9]
        clear hW9 heb HXx602 HXe602 HB602x
        refine wp_code (c' := rgOf Try.f3 27) (by kernel_rfl) ?_
        have hb1 : htB n x = true ∨ htB n x = false := by cases htB n x <;> simp
        rcases hb1 with hb1 | hb1
        · refine reg27b n x E xb eb bx be cx ce w W9 hn2 hn17 HOx.out HOE.out HEE.out hxl HZx.out HZe.out hb1 ?_
          intro x218 x219 x220 x221 x222 x223 x224 x225 x226 x227 x228 x229 x230 x231 x232 x233 x234 x235 x236 x237 x238 x239 x240 x241 x242 x243 x244 x245 x246 x247 x248 x249 w4 hb
          go_wp2
          go_ret
          exact ⟨rfl, HBz.out.trans (hb.mono HBz.out.size)⟩
        · refine reg27a n x E xb eb bx be cx ce w W9 hn2 hn17 HOx.out HOE.out HEE.out hxl HZx.out HZe.out hb1 ?_
          intro x218 x219 x220 x221 x222 x223 x224 x225 x226 x227 x228 x229 x230 x231 x232 x233 x234 x235 x236 x237 x238 x239 x240 x241 x242 x243 x244 x245 x246 x247 x248 x249 w4 hb
          go_wp2
          go_ret
          exact ⟨rfl, HBz.out.trans (hb.mono HBz.out.size)⟩
    · have hle : ¬ kd ≤ n := by have h := fun q => hC (HGI.out.2 q); rw [HD.out, HKD.out] at h; exact h
      have HC := Lib.hid hC
      clear hC
      skip
      refine (v_gen_no n k g v2 (by omega) (by omega) (by omega) HC.out).mono ?_
      rintro e v303 ⟨br, cr, rfl, hown, hb⟩
      have HB303x := Lib.hid (show Below w.heap.size w v303 from HB2x.out.trans (hb.mono HB2x.out.size))
      clear HB2x hb
      clear hown
      have hb := bel1 v303 (.cells #[.int .i64 0, .slice br 0 cr] 26)
      have HB304x := Lib.hid (show Below w.heap.size w (v303.alloc (.cells #[.int .i64 0, .slice br 0 cr] 26)) from HB303x.out.trans (hb.mono HB303x.out.size))
      clear HB303x hb
      go_wp2_with fail
      refine (v_gcd g n d (v303.alloc (.cells #[.int .i64 0, .slice br 0 cr] 26)) (by omega) (by omega) HD.out).mono ?_
      rintro e v305 ⟨rfl, hb⟩
      have HB305x := Lib.hid (show Below w.heap.size w v305 from HB304x.out.trans (hb.mono HB304x.out.size))
      clear HB304x hb
      have hdec : decide ((kd : Int) ≤ (n : Int)) = false := by simp; omega
      have hwk := HWK.out
      go_wp2_with fail
      refine (mof_any a len cap 10 n v305 (bytes_up HBY.out HB305x.out HB305x.out.size) (by omega) (by omega) (by omega)).mono ?_
      rintro e v306 ⟨bx, cx, x, rfl, hox, hown, hb⟩
      have HB306x := Lib.hid (show Below w.heap.size w v306 from HB305x.out.trans (hb.mono HB305x.out.size))
      clear HB305x hb
      have HOx := Lib.hid hox
      clear hox hwk hdec
      have HXn := Lib.hid (rhAt_put (n := n) hown (ok_allInt HOx.out))
      clear hown
      have hb := putR_below v306 n bx x.length cx
      have HB307x := Lib.hid (show Below w.heap.size w (putR v306 n bx x.length cx) from HB306x.out.trans (hb.mono HB306x.out.size))
      clear HB306x hb
      have HXx307 : Hid (RhAt (putR v306 n bx x.length cx) v306.heap.size n bx cx x) := HXn
      clear HXn
      obtain ⟨W7, hW7⟩ : ∃ W7, putR v306 n bx x.length cx = W7 := ⟨_, rfl⟩
      go_upto_region 26 with fail
      try rw [hW7]
      rw [hW7] at HXx307 HB307x
      obtain ⟨xb, hxb⟩ : ∃ b, v306.heap.size = b := ⟨_, rfl⟩
      rw [hxb] at HXx307
      try rw [hxb]
      clear hW7 hxb
      have hxl : x.length ≤ n := by have := not_len' HOx.out; omega
      obtain ⟨E, hE⟩ : ∃ l, evZ (x.length : Nat) n 0 = l := ⟨_, rfl⟩
      have HEE := Lib.hid hE
      have HOE : Hid (Ok n E) := Lib.hid (by rw [← hE]; exact evZ_ok (by unfold EvC; omega))
      clear hE
      obtain ⟨px0, px1, px2, px3⟩ := HXx307.out.1.facts
      have ltx := HXx307.out.1.lt
      go_wp2_with fail
      refine (v_even n x.length E W7 (by omega) hxl HEE.out).mono ?_
      rintro e v701 ⟨be, ce, rfl, hown, hb⟩
      clear px0 px1 px2 px3 ltx
      have HXx701 := Lib.hid (HXx307.out.keep hb)
      clear HXx307
      have HB701x := Lib.hid (show Below w.heap.size w v701 from HB307x.out.trans (hb.mono HB307x.out.size))
      clear HB307x hb
      have HXn := Lib.hid (rhAt_put (n := n) hown (ok_allInt HOE.out))
      clear hown
      have hb := putR_below v701 n be E.length ce
      have HXx702 := Lib.hid (HXx701.out.keep hb)
      clear HXx701
      have HB702x := Lib.hid (show Below w.heap.size w (putR v701 n be E.length ce) from HB701x.out.trans (hb.mono HB701x.out.size))
      clear HB701x hb
      have HXe702 : Hid (RhAt (putR v701 n be E.length ce) v701.heap.size n be ce E) := HXn
      clear HXn
      go_upto_region 27 with fail
      obtain ⟨W9, hW9⟩ : ∃ W9, putR v701 n be E.length ce = W9 := ⟨_, rfl⟩
      have HZx : Hid (RhAt W9 xb n bx cx x) := Lib.hid (by rw [← hW9]; exact HXx702.out)
      have HZe : Hid (RhAt W9 v701.heap.size n be ce E) := Lib.hid (by rw [← hW9]; exact HXe702.out)
      have HBz : Hid (Below w.heap.size w W9) := Lib.hid (by rw [← hW9]; exact HB702x.out)
      obtain ⟨eb, heb⟩ : ∃ b, v701.heap.size = b := ⟨_, rfl⟩
      rw [heb] at HZe ⊢
      change Code.wp _ _ _ _ (putR v701 n be E.length ce)
      rw [hW9]
      clear hW9 heb HXx702 HXe702 HB702x
      refine wp_code (c' := rgOf Try.f3 27) (by kernel_rfl) ?_
      have hb1 : htB n x = true ∨ htB n x = false := by cases htB n x <;> simp
      rcases hb1 with hb1 | hb1
      · refine reg27b n x E xb eb bx be cx ce w W9 hn2 hn17 HOx.out HOE.out HEE.out hxl HZx.out HZe.out hb1 ?_
        intro x218 x219 x220 x221 x222 x223 x224 x225 x226 x227 x228 x229 x230 x231 x232 x233 x234 x235 x236 x237 x238 x239 x240 x241 x242 x243 x244 x245 x246 x247 x248 x249 w4 hb
        go_wp2
        go_ret
        exact ⟨rfl, HBz.out.trans (hb.mono HBz.out.size)⟩
      · refine reg27a n x E xb eb bx be cx ce w W9 hn2 hn17 HOx.out HOE.out HEE.out hxl HZx.out HZe.out hb1 ?_
        intro x218 x219 x220 x221 x222 x223 x224 x225 x226 x227 x228 x229 x230 x231 x232 x233 x234 x235 x236 x237 x238 x239 x240 x241 x242 x243 x244 x245 x246 x247 x248 x249 w4 hb
        go_wp2
        go_ret
        exact ⟨rfl, HBz.out.trans (hb.mono HBz.out.size)⟩
  · clear hb
    go_enter Try.func3, Try.ntmps3
    go_wp2
    go_ret
    exact ⟨rfl, Below.refl _ _⟩
end Go.Proofs.Ythcmpkhfimapgaa.Rhy
