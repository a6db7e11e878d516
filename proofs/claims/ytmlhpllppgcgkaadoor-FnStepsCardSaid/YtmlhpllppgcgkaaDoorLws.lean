/-
  Helpers of the claims beside this text: the law on steps.
-/
import Derived.Test.YtmlhpllppgcgkaaDoorStc
import Derived.Test.YtmlhpllppgcgkaaDoorDrw
import Derived.Deep.DeepCutAuto
import Derived.BigFrame
namespace Go.Proofs.YtmlhpllppgcgkaaDoor.Rhy
open Go.RowKit
open Go.Proofs.YtmlhpllppgcgkaaDoor.Cur
set_option linter.unusedVariables false

theorem rests_bd (l : List Int) (k : Nat) : 0 ≤ restsL (l.take k) ∧ restsL (l.take k) ≤ k := by
  have := restsL_bd (l.take k)
  have h : (l.take k).length ≤ k := by simp; omega
  omega

set_option maxHeartbeats 8000000 in
set_option maxRecDepth 100000 in
theorem steps_walk (a : Option Addr) (len cap : Nat) (w : World) (hb : len ≤ 1048576 → BytesAt w.heap.size w a len) (hL : Fact w) :
    Calls Tryd.prog 3 #[.slice a len cap] w fun e w' => e = .returned (.bool true) ∧ Below w.heap.size w w' := by
  have HFA := Lib.hid hL
  clear hL
  by_cases hlen : len ≤ 1048576
  · have HBY := Lib.hid (hb hlen)
    clear hb
    go_enter Tryd.func3, Tryd.ntmps3
    go_wp2_with fail
    refine (make_any a len cap 0 16 w HBY.out (by omega) (by omega) (by omega)).mono ?_
    rintro e w1 ⟨n, b, c, zs, rfl, hok, hn, hown, hb1⟩
    have HO := Lib.hid hok
    have hn1 : 1 ≤ n := by have := hok.1.1; omega
    have hn16 : n ≤ 16 := hn
    have HXr0 : Hid (RhAt (putR w1 n b zs.length c) w1.heap.size n b c zs) := Lib.hid (rhAt_put hown (ok_allInt hok))
    have HB0x := Lib.hid (show Below w.heap.size w (putR w1 n b zs.length c) from hb1.trans ((putR_below _ _ _ _ _).mono hb1.size))
    have HLZ := Lib.hid (ok_len hok)
    obtain ⟨l, hl⟩ : ∃ l, stB n zs = l := ⟨_, rfl⟩
    have HEL := Lib.hid hl
    clear hok hn hown hb1 hl
    obtain ⟨pr0, pr1, pr2, pr3⟩ := HXr0.out.1.facts
    have ltr := HXr0.out.1.lt
    go_wp2_with fail
    refine (t_steps n b c zs l (putR w1 n b zs.length c) HXr0.out.2 HO.out HEL.out).mono ?_
    rintro e v1 ⟨al, cl, rfl, hil, hb⟩
    clear pr0 pr1 pr2 pr3 ltr
    have HXr1 := Lib.hid (HXr0.out.keep hb)
    clear HXr0
    have HB1x := Lib.hid (show Below w.heap.size w v1 from HB0x.out.trans (hb.mono HB0x.out.size))
    clear HB0x hb
    have HLl0 := Lib.hid hil
    clear hil
    by_cases h0 : zs.length = 0
    · have hzl : ((zs.length : Int) == 0) = true := by rw [h0]; rfl
      have HZ0 := Lib.hid h0
      have hl0 : l = [] := List.eq_nil_of_length_eq_zero (by rw [← HEL.out, stB_len_ok HO.out, h0])
      have HM0 : Hid (maxL l = 0) := Lib.hid (by rw [hl0]; rfl)
      have HR0 : Hid (restsL l = 0) := Lib.hid (by rw [hl0]; rfl)
      have HFW : Hid (∀ W' : World, Below v1.heap.size v1 W' → Fact W') := Lib.hid (fun W' hW => HFA.out.below (HB1x.out.trans (hW.mono HB1x.out.size)))
      have HBV : Hid (Below v1.heap.size v1 v1) := Lib.hid (Below.refl _ _)
      clear hl0 h0
      obtain ⟨pr0, pr1, pr2, pr3⟩ := HXr1.out.1.facts
      have ltr := HXr1.out.1.lt
      go_wp2_with fail
      refine (t_long n b c zs l 0 v1 HXr1.out.2 HO.out HEL.out HM0.out).mono ?_
      rintro e v2 ⟨rfl, hb⟩
      clear pr0 pr1 pr2 pr3 ltr
      have HBV2 : Hid (Below v1.heap.size v1 v2) := Lib.hid (HBV.out.trans (hb.mono HBV.out.size))
      clear HBV
      have HXr2 := Lib.hid (HXr1.out.keep hb)
      clear HXr1
      have HLl2 := Lib.hid (HLl0.out.below hb)
      clear HLl0
      have HB2x := Lib.hid (show Below w.heap.size w v2 from HB1x.out.trans (hb.mono HB1x.out.size))
      clear HB1x hb
      obtain ⟨pr0, pr1, pr2, pr3⟩ := HXr2.out.1.facts
      have ltr := HXr2.out.1.lt
      go_wp2_with fail
      refine (t_rests n b c zs l 0 v2 HXr2.out.2 HO.out HEL.out HR0.out).mono ?_
      rintro e v3 ⟨rfl, hb⟩
      clear pr0 pr1 pr2 pr3 ltr
      have HBV3 : Hid (Below v1.heap.size v1 v3) := Lib.hid (HBV2.out.trans (hb.mono HBV2.out.size))
      clear HBV2
      have HXr3 := Lib.hid (HXr2.out.keep hb)
      clear HXr2
      have HLl3 := Lib.hid (HLl2.out.below hb)
      clear HLl2
      have HB3x := Lib.hid (show Below w.heap.size w v3 from HB2x.out.trans (hb.mono HB2x.out.size))
      clear HB2x hb
      obtain ⟨pr0, pr1, pr2, pr3⟩ := HXr3.out.1.facts
      have ltr := HXr3.out.1.lt
      go_wp2_with fail
      refine (t_fmt n b c zs v3 HXr3.out.2 HO.out HZ0.out (HFW.out _ HBV3.out)).mono ?_
      rintro e v4 ⟨rfl, hb⟩
      clear pr0 pr1 pr2 pr3 ltr
      have HBV4 : Hid (Below v1.heap.size v1 v4) := Lib.hid (HBV3.out.trans (hb.mono HBV3.out.size))
      clear HBV3
      have HXr4 := Lib.hid (HXr3.out.keep hb)
      clear HXr3
      have HLl4 := Lib.hid (HLl3.out.below hb)
      clear HLl3
      have HB4x := Lib.hid (show Below w.heap.size w v4 from HB3x.out.trans (hb.mono HB3x.out.size))
      clear HB3x hb
      obtain ⟨pr0, pr1, pr2, pr3⟩ := HXr4.out.1.facts
      have ltr := HXr4.out.1.lt
      go_wp2_with fail
      refine (t_ok n b c zs v4 HXr4.out.2 HO.out).mono ?_
      rintro e v5 ⟨rfl, hb⟩
      clear pr0 pr1 pr2 pr3 ltr
      have HBV5 : Hid (Below v1.heap.size v1 v5) := Lib.hid (HBV4.out.trans (hb.mono HBV4.out.size))
      clear HBV4
      have HXr5 := Lib.hid (HXr4.out.keep hb)
      clear HXr4
      have HLl5 := Lib.hid (HLl4.out.below hb)
      clear HLl4
      have HB5x := Lib.hid (show Below w.heap.size w v5 from HB4x.out.trans (hb.mono HB4x.out.size))
      clear HB4x hb
      go_wp2
      go_ret
      exact ⟨rfl, HB5x.out⟩
    · have hz0 : 0 < zs.length := by omega
      have hzl : ((zs.length : Int) == 0) = false := by rw [beq_eq_false_iff_ne]; omega
      obtain ⟨HF1, HF2, HF3, HF4, HF5, HF6, HF7, HF8, HF9, HF10⟩ := steps_all HO.out HEL.out hz0
      have HG1 := Lib.hid HF1
      have HG2 := Lib.hid HF2
      have HG3 := Lib.hid HF3
      have HG4 := Lib.hid HF4
      have HG5 := Lib.hid HF5
      have HG6 := Lib.hid HF6
      have HG7 := Lib.hid HF7
      have HG8 := Lib.hid HF8
      have HG9 := Lib.hid HF9
      have HG10 := Lib.hid HF10
      clear HF1 HF2 HF3 HF4 HF5 HF6 HF7 HF8 HF9 HF10
      obtain ⟨M, hM⟩ : ∃ M, maxL l = M := ⟨_, rfl⟩
      obtain ⟨m, hm⟩ : ∃ m, minL l = m := ⟨_, rfl⟩
      obtain ⟨q, hq⟩ : ∃ q, restsL l = q := ⟨_, rfl⟩
      obtain ⟨z, hz⟩ : ∃ z, ofZ 25 l = z := ⟨_, rfl⟩
      obtain ⟨f, hf⟩ : ∃ f, zs[0]?.getD 0 = f := ⟨_, rfl⟩
      obtain ⟨t, ht⟩ : ∃ t, ofZ n (turnZ n zs) = t := ⟨_, rfl⟩
      obtain ⟨lm, hlm⟩ : ∃ l, rotZ n zs (-1) 0 = l := ⟨_, rfl⟩
      have HMX := Lib.hid hM
      have HMN := Lib.hid hm
      have HRS := Lib.hid hq
      have HZE := Lib.hid hz
      have HFF := Lib.hid hf
      have HTT := Lib.hid ht
      have HLM := Lib.hid hlm
      have HTM := turn_mir HO.out hz0
      have HTE : Hid (t = rotZ n zs (-1) (2 * zs[0]?.getD 0)) := Lib.hid (by rw [← ht]; exact HTM.1)
      have HOt : Hid (Ok n t) := Lib.hid (by rw [HTE.out]; exact rot_ok HO.out.1 _ _)
      have HTR : Hid (∃ k : Int, rotZ n t 1 k = lm) := Lib.hid (by rw [← ht, ← hlm]; exact HTM.2)
      have HTL : Hid ((t.length : Int) = zs.length) := Lib.hid (by rw [HTE.out, moved_len HO.out (gcd_mone _)])
      have HOm : Hid (Ok n lm) := Lib.hid (by rw [← hlm]; exact rot_ok HO.out.1 _ _)
      have HSB : Hid (∀ x ∈ l, 0 ≤ x ∧ x ≤ 1000) := Lib.hid (fun x hx => by have := HG3.out x hx; omega)
      clear hM hm hq hz hf ht hlm HTM
      obtain ⟨gb, ob, rfl⟩ := addr_of HXr1.out.2 hz0
      obtain ⟨gl, ol, rfl⟩ := addr_of HLl0.out hz0
      have hcf : v1.cell? ⟨gb, ob, none⟩ = some (.int .i64 f) := by have := int_at HXr1.out.2 (k := 0) hz0; rw [HFF.out] at this; simpa using this
      obtain ⟨pr0, pr1, pr2, pr3⟩ := HXr1.out.1.facts
      have ltr := HXr1.out.1.lt
      go_wp2_with fail
      refine (t_from (some ⟨gl, ol, none⟩) cl zs l n f v1 HLl0.out HO.out HEL.out hz0 HFF.out).mono ?_
      rintro e v12 ⟨bx, cx, rfl, hown, hb⟩
      clear pr0 pr1 pr2 pr3 ltr
      have HXr12 := Lib.hid (HXr1.out.keep hb)
      clear HXr1
      have HLl12 := Lib.hid (HLl0.out.below hb)
      clear HLl0
      have HB12x := Lib.hid (show Below w.heap.size w v12 from HB1x.out.trans (hb.mono HB1x.out.size))
      clear HB1x hb
      clear hcf
      have HXn := Lib.hid (rhAt_put (n := n) hown (ok_allInt HO.out))
      clear hown
      have hb := putR_below v12 n bx zs.length cx
      have HXr13 := Lib.hid (HXr12.out.keep hb)
      clear HXr12
      have HLl13 := Lib.hid (HLl12.out.below hb)
      clear HLl12
      have HB13x := Lib.hid (show Below w.heap.size w (putR v12 n bx zs.length cx) from HB12x.out.trans (hb.mono HB12x.out.size))
      clear HB12x hb
      have HXx13 : Hid (RhAt (putR v12 n bx zs.length cx) v12.heap.size n bx cx zs) := HXn
      clear HXn
      obtain ⟨pr0, pr1, pr2, pr3⟩ := HXr13.out.1.facts
      have ltr := HXr13.out.1.lt
      obtain ⟨px0, px1, px2, px3⟩ := HXx13.out.1.facts
      have ltx := HXx13.out.1.lt
      go_wp2_with fail
      refine (t_turn n (some ⟨gb, ob, none⟩) c zs t (putR v12 n bx zs.length cx) HXr13.out.2 HO.out hz0 HTT.out).mono ?_
      rintro e v14 ⟨bt, ct, rfl, hown, hb⟩
      clear pr0 pr1 pr2 pr3 ltr px0 px1 px2 px3 ltx
      have HXr14 := Lib.hid (HXr13.out.keep hb)
      clear HXr13
      have HXx14 := Lib.hid (HXx13.out.keep hb)
      clear HXx13
      have HLl14 := Lib.hid (HLl13.out.below hb)
      clear HLl13
      have HB14x := Lib.hid (show Below w.heap.size w v14 from HB13x.out.trans (hb.mono HB13x.out.size))
      clear HB13x hb
      have HXn := Lib.hid (rhAt_put (n := n) hown (ok_allInt HOt.out))
      clear hown
      have hb := putR_below v14 n bt t.length ct
      have HXr15 := Lib.hid (HXr14.out.keep hb)
      clear HXr14
      have HXx15 := Lib.hid (HXx14.out.keep hb)
      clear HXx14
      have HLl15 := Lib.hid (HLl14.out.below hb)
      clear HLl14
      have HB15x := Lib.hid (show Below w.heap.size w (putR v14 n bt t.length ct) from HB14x.out.trans (hb.mono HB14x.out.size))
      clear HB14x hb
      have HXt15 : Hid (RhAt (putR v14 n bt t.length ct) v14.heap.size n bt ct t) := HXn
      clear HXn
      obtain ⟨pr0, pr1, pr2, pr3⟩ := HXr15.out.1.facts
      have ltr := HXr15.out.1.lt
      go_wp2_with fail
      refine (t_mir n (some ⟨gb, ob, none⟩) c zs lm (putR v14 n bt t.length ct) HXr15.out.2 HO.out HLM.out).mono ?_
      rintro e v16 ⟨bm, cm, rfl, hown, hb⟩
      clear pr0 pr1 pr2 pr3 ltr
      have HXr16 := Lib.hid (HXr15.out.keep hb)
      clear HXr15
      have HXx16 := Lib.hid (HXx15.out.keep hb)
      clear HXx15
      have HXt16 := Lib.hid (HXt15.out.keep hb)
      clear HXt15
      have HLl16 := Lib.hid (HLl15.out.below hb)
      clear HLl15
      have HB16x := Lib.hid (show Below w.heap.size w v16 from HB15x.out.trans (hb.mono HB15x.out.size))
      clear HB15x hb
      have HXn := Lib.hid (rhAt_put (n := n) hown (ok_allInt HOm.out))
      clear hown
      have hb := putR_below v16 n bm lm.length cm
      have HXr17 := Lib.hid (HXr16.out.keep hb)
      clear HXr16
      have HXx17 := Lib.hid (HXx16.out.keep hb)
      clear HXx16
      have HXt17 := Lib.hid (HXt16.out.keep hb)
      clear HXt16
      have HLl17 := Lib.hid (HLl16.out.below hb)
      clear HLl16
      have HB17x := Lib.hid (show Below w.heap.size w (putR v16 n bm lm.length cm) from HB16x.out.trans (hb.mono HB16x.out.size))
      clear HB16x hb
      have HXm17 : Hid (RhAt (putR v16 n bm lm.length cm) v16.heap.size n bm cm lm) := HXn
      clear HXn
      have HK : Hid (∀ W' : World, Below (putR v16 n bm lm.length cm).heap.size (putR v16 n bm lm.length cm) W' → W'.cell? ⟨w1.heap.size, 0, none⟩ = some (.int .i64 (n : Nat)) ∧ W'.cell? ⟨w1.heap.size, 1, none⟩ = some (.slice (some ⟨gb, ob, none⟩) zs.length c) ∧ W'.cell? ⟨v12.heap.size, 0, none⟩ = some (.int .i64 (n : Nat)) ∧ W'.cell? ⟨v12.heap.size, 1, none⟩ = some (.slice bx zs.length cx) ∧ W'.cell? ⟨v14.heap.size, 0, none⟩ = some (.int .i64 (n : Nat)) ∧ W'.cell? ⟨v14.heap.size, 1, none⟩ = some (.slice bt t.length ct) ∧ W'.cell? ⟨v16.heap.size, 0, none⟩ = some (.int .i64 (n : Nat)) ∧ W'.cell? ⟨v16.heap.size, 1, none⟩ = some (.slice bm lm.length cm) ∧ Below (putR v16 n bm lm.length cm).heap.size (putR v16 n bm lm.length cm) W') :=
        Lib.hid (fun W' hW => ⟨(HXr17.out.keep hW).1.facts.1, (HXr17.out.keep hW).1.facts.2.1, (HXx17.out.keep hW).1.facts.1, (HXx17.out.keep hW).1.facts.2.1, (HXt17.out.keep hW).1.facts.1, (HXt17.out.keep hW).1.facts.2.1, (HXm17.out.keep hW).1.facts.1, (HXm17.out.keep hW).1.facts.2.1, hW⟩)
      have HMl : Hid (∀ W' : World, Below (putR v16 n bm lm.length cm).heap.size (putR v16 n bm lm.length cm) W' → IntsAt W' (some ⟨gl, ol, none⟩) zs.length l) := Lib.hid (fun W' hW => HLl17.out.below hW)
      have HIr : Hid (∀ W' : World, Below (putR v16 n bm lm.length cm).heap.size (putR v16 n bm lm.length cm) W' → IntsAt W' (some ⟨gb, ob, none⟩) zs.length zs) := Lib.hid (fun W' hW => (HXr17.out.keep hW).2)
      have HIx : Hid (∀ W' : World, Below (putR v16 n bm lm.length cm).heap.size (putR v16 n bm lm.length cm) W' → IntsAt W' bx zs.length zs) := Lib.hid (fun W' hW => (HXx17.out.keep hW).2)
      have HIt : Hid (∀ W' : World, Below (putR v16 n bm lm.length cm).heap.size (putR v16 n bm lm.length cm) W' → IntsAt W' bt t.length t) := Lib.hid (fun W' hW => (HXt17.out.keep hW).2)
      have HIm : Hid (∀ W' : World, Below (putR v16 n bm lm.length cm).heap.size (putR v16 n bm lm.length cm) W' → IntsAt W' bm lm.length lm) := Lib.hid (fun W' hW => (HXm17.out.keep hW).2)
      go_upto_region 12 with fail
      refine wp_region_held_drew (S := fun W' => W'.cell? ⟨w1.heap.size, 0, none⟩ = some (.int .i64 (n : Nat)) ∧ W'.cell? ⟨w1.heap.size, 1, none⟩ = some (.slice (some ⟨gb, ob, none⟩) zs.length c) ∧ W'.cell? ⟨v12.heap.size, 0, none⟩ = some (.int .i64 (n : Nat)) ∧ W'.cell? ⟨v12.heap.size, 1, none⟩ = some (.slice bx zs.length cx) ∧ W'.cell? ⟨v14.heap.size, 0, none⟩ = some (.int .i64 (n : Nat)) ∧ W'.cell? ⟨v14.heap.size, 1, none⟩ = some (.slice bt t.length ct) ∧ W'.cell? ⟨v16.heap.size, 0, none⟩ = some (.int .i64 (n : Nat)) ∧ W'.cell? ⟨v16.heap.size, 1, none⟩ = some (.slice bm lm.length cm) ∧ Below (putR v16 n bm lm.length cm).heap.size (putR v16 n bm lm.length cm) W') (by kernel_rfl) (HK.out _ (Below.refl _ _).drew) (fun hSS0 => ?_)
      refine wpAnyH_take (i := 0) (oi := ⟨some 69, _, _, _, _, _⟩) (v := .slice (some ⟨gl, ol, none⟩) zs.length cl) rfl (by kernel_rfl) (by kernel_rfl) (by kernel_rfl) (fun _ _ _ h => h) (Or.inl ⟨by rfl, fun w hSw => by go_simp⟩) (by assumption) ?_
      try simp only [Act.put, List.setIfInBounds_toArray, List.set_cons_zero, List.set_cons_succ]
      refine wpAnyH_take (i := 2) (oi := ⟨some 71, _, _, _, _, _⟩) (v := .pointer (some ⟨w1.heap.size, 0, none⟩)) rfl (by kernel_rfl) (by kernel_rfl) (by kernel_rfl) (fun _ _ _ h => h) (Or.inl ⟨by rfl, fun w hSw => by go_simp⟩) (by assumption) ?_
      try simp only [Act.put, List.setIfInBounds_toArray, List.set_cons_zero, List.set_cons_succ]
      refine wpAnyH_take (i := 3) (oi := ⟨some 72, _, _, _, _, _⟩) (v := .int .i64 (n : Nat)) rfl (by kernel_rfl) (by kernel_rfl) (by kernel_rfl) (fun _ _ _ h => h) (Or.inl ⟨by rfl, fun w hSw => by obtain ⟨q1, q2, _⟩ := hSw; go_simp⟩) (by assumption) ?_
      try simp only [Act.put, List.setIfInBounds_toArray, List.set_cons_zero, List.set_cons_succ]
      refine wpAnyH_ready (rs := [1]) (by kernel_rfl) (by simp) ?_
      refine AllReadyH.cons rfl (fun K hKK => ?_) AllReadyH.nil
      go_simp
      go_at_call 13
      refine ((sum_law (some ⟨gl, ol, none⟩) zs.length cl l _ (HMl.out _ (Below.refl _ _).drew) HSB.out (by have := HLZ.out; omega)).mono fun e w' h => (show e = .returned (.int .i64 n) ∧ _ from ⟨by rw [h.1, HG2.out], h.2⟩)).mono ?_
      rintro e wk1 ⟨rfl, hc1⟩
      have hbb1 : Below (putR v16 n bm lm.length cm).heap.size (putR v16 n bm lm.length cm) wk1 := (Below.refl _ _).drew.trans hc1
      clear hc1
      refine hKK.out _ _ (HK.out _ hbb1) (fun hSS1 => ?_)
      clear hKK K hSS0
      try simp only [Act.put, List.setIfInBounds_toArray, List.set_cons_zero, List.set_cons_succ]
      refine wpAnyH_take (i := 4) (oi := ⟨some 73, _, _, _, _, _⟩) (v := .bool false) rfl (by kernel_rfl) (by kernel_rfl) (by kernel_rfl) (fun _ _ _ h => h) (Or.inl ⟨by rfl, fun w hSw => by go_simp⟩) (by assumption) ?_
      try simp only [Act.put, List.setIfInBounds_toArray, List.set_cons_zero, List.set_cons_succ]
      refine wpAnyH_take (i := 5) (oi := ⟨some 74, _, _, _, _, _⟩) (v := .bool false) rfl (by kernel_rfl) (by kernel_rfl) (by kernel_rfl) (fun _ _ _ h => h) (Or.inl ⟨by rfl, fun w hSw => by go_simp⟩) (by assumption) ?_
      try simp only [Act.put, List.setIfInBounds_toArray, List.set_cons_zero, List.set_cons_succ]
      refine wpAnyH_take (i := 6) (oi := ⟨some 75, _, _, _, _, _⟩) (v := .bool true) rfl (by kernel_rfl) (by kernel_rfl) (by kernel_rfl) (fun _ _ _ h => h) (Or.inl ⟨by rfl, fun w hSw => by go_simp⟩) (by assumption) ?_
      try simp only [Act.put, List.setIfInBounds_toArray, List.set_cons_zero, List.set_cons_succ]
      refine wpAnyH_take (i := 7) (oi := ⟨some 76, _, _, _, _, _⟩) (v := .bool false) rfl (by kernel_rfl) (by kernel_rfl) (by kernel_rfl) (fun _ _ _ h => h) (Or.inl ⟨by rfl, fun w hSw => by go_simp⟩) (by assumption) ?_
      try simp only [Act.put, List.setIfInBounds_toArray, List.set_cons_zero, List.set_cons_succ]
      refine wpAnyH_take (i := 8) (oi := ⟨some 77, _, _, _, _, _⟩) (v := .bool false) rfl (by kernel_rfl) (by kernel_rfl) (by kernel_rfl) (fun _ _ _ h => h) (Or.inl ⟨by rfl, fun w hSw => by go_simp⟩) (by assumption) ?_
      try simp only [Act.put, List.setIfInBounds_toArray, List.set_cons_zero, List.set_cons_succ]
      refine wpAnyH_take (i := 9) (oi := ⟨some 78, _, _, _, _, _⟩) (v := .bool false) rfl (by kernel_rfl) (by kernel_rfl) (by kernel_rfl) (fun _ _ _ h => h) (Or.inl ⟨by rfl, fun w hSw => by go_simp⟩) (by assumption) ?_
      try simp only [Act.put, List.setIfInBounds_toArray, List.set_cons_zero, List.set_cons_succ]
      refine wpAnyH_take (i := 10) (oi := ⟨some 79, _, _, _, _, _⟩) (v := .agg #[.int .i64 (n : Nat), .slice bx zs.length cx]) rfl (by kernel_rfl) (by kernel_rfl) (by kernel_rfl) (fun _ _ _ h => h) (Or.inl ⟨by rfl, fun w hSw => by obtain ⟨_, _, q1, q2, _⟩ := hSw; go_simp⟩) (by assumption) ?_
      try simp only [Act.put, List.setIfInBounds_toArray, List.set_cons_zero, List.set_cons_succ]
      refine wpAnyH_take (i := 11) (oi := ⟨some 80, _, _, _, _, _⟩) (v := .agg #[.int .i64 (n : Nat), .slice (some ⟨gb, ob, none⟩) zs.length c]) rfl (by kernel_rfl) (by kernel_rfl) (by kernel_rfl) (fun _ _ _ h => h) (Or.inl ⟨by rfl, fun w hSw => by obtain ⟨q1, q2, _⟩ := hSw; go_simp⟩) (by assumption) ?_
      try simp only [Act.put, List.setIfInBounds_toArray, List.set_cons_zero, List.set_cons_succ]
      refine wpAnyH_ready (rs := [12]) (by kernel_rfl) (by simp) ?_
      refine AllReadyH.cons rfl (fun K hKK => ?_) AllReadyH.nil
      go_simp
      go_at_call 14
      refine (rhythms_law n bx (some ⟨gb, ob, none⟩) cx c zs _ (HIx.out _ hbb1) (HIr.out _ hbb1) (by have := HLZ.out; omega)).mono ?_
      rintro e wk2 ⟨rfl, hc2⟩
      have hbb2 : Below (putR v16 n bm lm.length cm).heap.size (putR v16 n bm lm.length cm) wk2 := hbb1.trans (hc2.mono hbb1.size)
      clear hc2
      refine hKK.out _ _ (HK.out _ hbb2) (fun hSS2 => ?_)
      clear hKK K hbb1 hSS1
      try simp only [Act.put, List.setIfInBounds_toArray, List.set_cons_zero, List.set_cons_succ]
      refine wpAnyH_take (i := 13) (oi := ⟨some 82, _, _, _, _, _⟩) (v := .bool false) rfl (by kernel_rfl) (by kernel_rfl) (by kernel_rfl) (fun _ _ _ h => h) (Or.inl ⟨by rfl, fun w hSw => by go_simp⟩) (by assumption) ?_
      try simp only [Act.put, List.setIfInBounds_toArray, List.set_cons_zero, List.set_cons_succ]
      refine wpAnyH_take (i := 14) (oi := ⟨some 83, _, _, _, _, _⟩) (v := .bool false) rfl (by kernel_rfl) (by kernel_rfl) (by kernel_rfl) (fun _ _ _ h => h) (Or.inl ⟨by rfl, fun w hSw => by go_simp⟩) (by assumption) ?_
      try simp only [Act.put, List.setIfInBounds_toArray, List.set_cons_zero, List.set_cons_succ]
      refine wpAnyH_take (i := 15) (oi := ⟨some 84, _, _, _, _, _⟩) (v := .bool false) rfl (by kernel_rfl) (by kernel_rfl) (by kernel_rfl) (fun _ _ _ h => h) (Or.inl ⟨by rfl, fun w hSw => by go_simp⟩) (by assumption) ?_
      try simp only [Act.put, List.setIfInBounds_toArray, List.set_cons_zero, List.set_cons_succ]
      refine wpAnyH_take (i := 16) (oi := ⟨some 85, _, _, _, _, _⟩) (v := .bool true) rfl (by kernel_rfl) (by kernel_rfl) (by kernel_rfl) (fun _ _ _ h => h) (Or.inl ⟨by rfl, fun w hSw => by go_simp⟩) (by assumption) ?_
      try simp only [Act.put, List.setIfInBounds_toArray, List.set_cons_zero, List.set_cons_succ]
      refine wpAnyH_take (i := 17) (oi := ⟨some 86, _, _, _, _, _⟩) (v := .bool false) rfl (by kernel_rfl) (by kernel_rfl) (by kernel_rfl) (fun _ _ _ h => h) (Or.inl ⟨by rfl, fun w hSw => by go_simp⟩) (by assumption) ?_
      try simp only [Act.put, List.setIfInBounds_toArray, List.set_cons_zero, List.set_cons_succ]
      refine wpAnyH_take (i := 18) (oi := ⟨some 87, _, _, _, _, _⟩) (v := .bool false) rfl (by kernel_rfl) (by kernel_rfl) (by kernel_rfl) (fun _ _ _ h => h) (Or.inl ⟨by rfl, fun w hSw => by go_simp⟩) (by assumption) ?_
      try simp only [Act.put, List.setIfInBounds_toArray, List.set_cons_zero, List.set_cons_succ]
      refine wpAnyH_take (i := 19) (oi := ⟨some 88, _, _, _, _, _⟩) (v := .bool false) rfl (by kernel_rfl) (by kernel_rfl) (by kernel_rfl) (fun _ _ _ h => h) (Or.inl ⟨by rfl, fun w hSw => by go_simp⟩) (by assumption) ?_
      try simp only [Act.put, List.setIfInBounds_toArray, List.set_cons_zero, List.set_cons_succ]
      refine wpAnyH_take (i := 20) (oi := ⟨some 89, _, _, _, _, _⟩) (v := .agg #[.int .i64 (n : Nat), .slice bt t.length ct]) rfl (by kernel_rfl) (by kernel_rfl) (by kernel_rfl) (fun _ _ _ h => h) (Or.inl ⟨by rfl, fun w hSw => by obtain ⟨_, _, _, _, q1, q2, _⟩ := hSw; go_simp⟩) (by assumption) ?_
      try simp only [Act.put, List.setIfInBounds_toArray, List.set_cons_zero, List.set_cons_succ]
      refine wpAnyH_take (i := 21) (oi := ⟨some 90, _, _, _, _, _⟩) (v := .agg #[.int .i64 (n : Nat), .slice bm lm.length cm]) rfl (by kernel_rfl) (by kernel_rfl) (by kernel_rfl) (fun _ _ _ h => h) (Or.inl ⟨by rfl, fun w hSw => by obtain ⟨_, _, _, _, _, _, q1, q2, _⟩ := hSw; go_simp⟩) (by assumption) ?_
      try simp only [Act.put, List.setIfInBounds_toArray, List.set_cons_zero, List.set_cons_succ]
      refine wpAnyH_ready (rs := [22]) (by kernel_rfl) (by simp) ?_
      refine AllReadyH.cons rfl (fun K hKK => ?_) AllReadyH.nil
      go_simp
      go_at_call 15
      refine (t_arot n bt ct t bm cm lm _ (HIt.out _ hbb2) (HIm.out _ hbb2) HOt.out HOm.out HTR.out).mono ?_
      rintro e wk3 ⟨rfl, hc3⟩
      have hbb3 : Below (putR v16 n bm lm.length cm).heap.size (putR v16 n bm lm.length cm) wk3 := hbb2.trans (hc3.mono hbb2.size)
      clear hc3
      refine hKK.out _ _ (HK.out _ hbb3) (fun hSS3 => ?_)
      clear hKK K hbb2 hSS2
      try simp only [Act.put, List.setIfInBounds_toArray, List.set_cons_zero, List.set_cons_succ]
      refine wpAnyH_take (i := 23) (oi := ⟨some 92, _, _, _, _, _⟩) (v := .bool false) rfl (by kernel_rfl) (by kernel_rfl) (by kernel_rfl) (fun _ _ _ h => h) (Or.inl ⟨by rfl, fun w hSw => by go_simp⟩) (by assumption) ?_
      try simp only [Act.put, List.setIfInBounds_toArray, List.set_cons_zero, List.set_cons_succ]
      refine wpAnyH_take (i := 24) (oi := ⟨some 93, _, _, _, _, _⟩) (v := .bool false) rfl (by kernel_rfl) (by kernel_rfl) (by kernel_rfl) (fun _ _ _ h => h) (Or.inl ⟨by rfl, fun w hSw => by go_simp⟩) (by assumption) ?_
      try simp only [Act.put, List.setIfInBounds_toArray, List.set_cons_zero, List.set_cons_succ]
      refine wpAnyH_take (i := 25) (oi := ⟨some 94, _, _, _, _, _⟩) (v := .bool false) rfl (by kernel_rfl) (by kernel_rfl) (by kernel_rfl) (fun _ _ _ h => h) (Or.inl ⟨by rfl, fun w hSw => by go_simp⟩) (by assumption) ?_
      try simp only [Act.put, List.setIfInBounds_toArray, List.set_cons_zero, List.set_cons_succ]
      refine wpAnyH_take (i := 26) (oi := ⟨some 95, _, _, _, _, _⟩) (v := .agg #[.int .i64 (n : Nat), .slice bt t.length ct]) rfl (by kernel_rfl) (by kernel_rfl) (by kernel_rfl) (fun _ _ _ h => h) (Or.inl ⟨by rfl, fun w hSw => by obtain ⟨_, _, _, _, q1, q2, _⟩ := hSw; go_simp⟩) (by assumption) ?_
      try simp only [Act.put, List.setIfInBounds_toArray, List.set_cons_zero, List.set_cons_succ]
      refine wpAnyH_take (i := 28) (oi := ⟨some 97, _, _, _, _, _⟩) (v := .slice (some ⟨gl, ol, none⟩) zs.length cl) rfl (by kernel_rfl) (by kernel_rfl) (by kernel_rfl) (fun _ _ _ h => h) (Or.inl ⟨by rfl, fun w hSw => by go_simp⟩) (by assumption) ?_
      try simp only [Act.put, List.setIfInBounds_toArray, List.set_cons_zero, List.set_cons_succ]
      refine wpAnyH_take (i := 29) (oi := ⟨some 98, _, _, _, _, _⟩) (v := .int .i64 (zs.length : Nat)) rfl (by kernel_rfl) (by kernel_rfl) (by kernel_rfl) (fun _ _ _ h => h) (Or.inl ⟨by rfl, fun w hSw => by go_simp⟩) (by assumption) ?_
      try simp only [Act.put, List.setIfInBounds_toArray, List.set_cons_zero, List.set_cons_succ]
      refine wpAnyH_ready (rs := [27]) (by kernel_rfl) (by simp) ?_
      refine AllReadyH.cons rfl (fun K hKK => ?_) AllReadyH.nil
      go_simp
      go_at_call 16
      refine (t_cnt n bt ct t (zs.length : Nat) _ (HIt.out _ hbb3) HOt.out HTL.out).mono ?_
      rintro e wk4 ⟨rfl, hc4⟩
      have hbb4 : Below (putR v16 n bm lm.length cm).heap.size (putR v16 n bm lm.length cm) wk4 := hbb3.trans (hc4.mono hbb3.size)
      clear hc4
      refine hKK.out _ _ (HK.out _ hbb4) (fun hSS4 => ?_)
      clear hKK K hbb3 hSS3
      try simp only [Act.put, List.setIfInBounds_toArray, List.set_cons_zero, List.set_cons_succ]
      refine wpAnyH_take (i := 30) (oi := ⟨some 99, _, _, _, _, _⟩) (v := .bool false) rfl (by kernel_rfl) (by kernel_rfl) (by kernel_rfl) (fun _ _ _ h => h) (Or.inl ⟨by rfl, fun w hSw => by go_simp⟩) (by assumption) ?_
      try simp only [Act.put, List.setIfInBounds_toArray, List.set_cons_zero, List.set_cons_succ]
      refine wpAnyH_take (i := 31) (oi := ⟨some 100, _, _, _, _, _⟩) (v := .bool false) rfl (by kernel_rfl) (by kernel_rfl) (by kernel_rfl) (fun _ _ _ h => h) (Or.inl ⟨by rfl, fun w hSw => by go_simp⟩) (by assumption) ?_
      try simp only [Act.put, List.setIfInBounds_toArray, List.set_cons_zero, List.set_cons_succ]
      refine wpAnyH_done (by kernel_rfl) ?_ _
      clear HK
      clear HIr HIx HIt HIm HMl hSS4
      have hb := hbb4
      clear hbb4
      have HXr18 := Lib.hid (HXr17.out.keep hb)
      clear HXr17
      have HXx18 := Lib.hid (HXx17.out.keep hb)
      clear HXx17
      have HXt18 := Lib.hid (HXt17.out.keep hb)
      clear HXt17
      have HXm18 := Lib.hid (HXm17.out.keep hb)
      clear HXm17
      have HLl18 := Lib.hid (HLl17.out.below hb)
      clear HLl17
      have HB18x := Lib.hid (show Below w.heap.size w wk4 from HB17x.out.trans (hb.mono HB17x.out.size))
      clear HB17x hb
      clear HXx18
      clear HXt18
      clear HXm18
      have HLB : Hid (Below w.heap.size w wk4 ∧ RhAt wk4 w1.heap.size n (some ⟨gb, ob, none⟩) c zs ∧ IntsAt wk4 (some ⟨gl, ol, none⟩) zs.length l) := Lib.hid ⟨HB18x.out, HXr18.out, HLl18.out⟩
      clear HB18x HXr18 HLl18
      go_wp2
      go_loopw [11, 12, 13, 103] (fun s1 s2 s3 i wr => ∃ (p : Nat) (x y v : Int), p ≤ zs.length ∧ i = .int .i64 p ∧ s1 = .int .i64 x ∧ s2 = .int .i64 y ∧ s3 = .int .i64 v ∧ Hid (maxL (l.take p) = x ∧ minF (l.take p) = y ∧ restsL (l.take p) = v) ∧ Below w.heap.size w wr ∧ RhAt wr w1.heap.size n (some ⟨gb, ob, none⟩) c zs ∧ IntsAt wr (some ⟨gl, ol, none⟩) zs.length l) (fun _ _ _ i _ => zs.length - (intOf i).toNat)
      case atStart => exact ⟨0, 0, 99, 0, by omega, rfl, rfl, rfl, rfl, Lib.hid ⟨rfl, rfl, rfl⟩, HLB.out⟩
      case round =>
        clear HLB
        obtain ⟨p, x, y, v, hp, rfl, rfl, rfl, rfl, HXYV, hbl, hxr, hxl⟩ := hrel
        have HXrL := Lib.hid hxr
        have HLlL := Lib.hid hxl
        have HBL := Lib.hid hbl
        clear hbl hxr hxl
        by_cases hlt : p < zs.length
        · have hltb : decide ((p : Int) < (zs.length : Int)) = true := by simp; omega
          have hcl := int_at HLlL.out hlt
          have hlp : p < l.length := by rw [HG1.out]; exact hlt
          obtain ⟨s, hs⟩ : ∃ s, l[p]?.getD 0 = s := ⟨_, rfl⟩
          rw [hs] at hcl
          have hsome : l[p]? = some s := by rw [← hs, List.getElem?_eq_getElem hlp]; rfl
          have hsb := HG3.out s (List.mem_of_getElem? hsome)
          have HS1 : Hid (spanL l p 1 = s) := Lib.hid (span_one hsome)
          have HSN : Hid (spanL l p zs.length = n) := Lib.hid (by have := HG4.out p hlp; rwa [HG1.out] at this)
          have hvb := rests_bd l p
          rw [HXYV.out.2.2] at hvb
          have HX2 : Hid (maxL (l.take (p + 1)) = max x s) := Lib.hid (by rw [maxL_snoc hsome, HXYV.out.1])
          have HY2 : Hid (minF (l.take (p + 1)) = min y s) := Lib.hid (by rw [minF_snoc hsome, HXYV.out.2.1])
          have HSO := Lib.hid hsome
          have hsz : 1 ≤ zs.length ∧ zs.length ≤ 24 := ⟨by omega, HLZ.out⟩
          clear hs hsome hlp
          have HKS : Hid (spanL l p 0 = 0) := Lib.hid rfl
          by_cases h1s : 1 < s
          · have h1b : decide (1 < s) = true := by simp; omega
            have HV2 : Hid (restsL (l.take (p + 1)) = v + 1) := Lib.hid (by rw [restsL_yes HSO.out h1s, HXYV.out.2.2])
            have hvw : wrap64 (v + 1) = v + 1 := by have := HLZ.out; unfold wrap64; omega
            go_upto_region 24 with fail
            clear hcl
            have HK : Hid (∀ W' : World, Below wr.heap.size wr W' → W'.cell? ⟨w1.heap.size, 0, none⟩ = some (.int .i64 (n : Nat)) ∧ W'.cell? ⟨w1.heap.size, 1, none⟩ = some (.slice (some ⟨gb, ob, none⟩) zs.length c) ∧ Below wr.heap.size wr W') :=
              Lib.hid (fun W' hW => ⟨(HXrL.out.keep hW).1.facts.1, (HXrL.out.keep hW).1.facts.2.1, hW⟩)
            have HMl : Hid (∀ W' : World, Below wr.heap.size wr W' → IntsAt W' (some ⟨gl, ol, none⟩) zs.length l) := Lib.hid (fun W' hW => HLlL.out.below hW)
            have HIr : Hid (∀ W' : World, Below wr.heap.size wr W' → IntsAt W' (some ⟨gb, ob, none⟩) zs.length zs) := Lib.hid (fun W' hW => (HXrL.out.keep hW).2)
            refine wp_region_held_drew (S := fun W' => W'.cell? ⟨w1.heap.size, 0, none⟩ = some (.int .i64 (n : Nat)) ∧ W'.cell? ⟨w1.heap.size, 1, none⟩ = some (.slice (some ⟨gb, ob, none⟩) zs.length c) ∧ Below wr.heap.size wr W') (by kernel_rfl) (HK.out _ (Below.refl _ _).drew) (fun hSS0 => ?_)
            refine wpAnyH_take (i := 0) (oi := ⟨some 118, _, _, _, _, _⟩) (v := .agg #[.int .i64 (n : Nat), .slice (some ⟨gb, ob, none⟩) zs.length c]) rfl (by kernel_rfl) (by kernel_rfl) (by kernel_rfl) (fun _ _ _ h => h) (Or.inl ⟨by rfl, fun w hSw => by obtain ⟨q1, q2, _⟩ := hSw; go_simp⟩) (by assumption) ?_
            try simp only [Act.put, List.setIfInBounds_toArray, List.set_cons_zero, List.set_cons_succ]
            refine wpAnyH_take (i := 1) (oi := ⟨some 119, _, _, _, _, _⟩) (v := .int .i64 p) rfl (by kernel_rfl) (by kernel_rfl) (by kernel_rfl) (fun _ _ _ h => h) (Or.inl ⟨by rfl, fun w hSw => by go_simp⟩) (by assumption) ?_
            try simp only [Act.put, List.setIfInBounds_toArray, List.set_cons_zero, List.set_cons_succ]
            refine wpAnyH_take (i := 3) (oi := ⟨some 121, _, _, _, _, _⟩) (v := .int .i64 s) rfl (by kernel_rfl) (by kernel_rfl) (by kernel_rfl) (fun _ _ _ h => h) (Or.inl ⟨by rfl, fun w hSw => by go_simp⟩) (by assumption) ?_
            try simp only [Act.put, List.setIfInBounds_toArray, List.set_cons_zero, List.set_cons_succ]
            refine wpAnyH_ready (rs := [2]) (by kernel_rfl) (by simp) ?_
            refine AllReadyH.cons rfl (fun K hKK => ?_) AllReadyH.nil
            go_simp
            go_at_call 17
            refine (t_span n (some ⟨gb, ob, none⟩) c zs l p 1 s _ (HIr.out _ (Below.refl _ _).drew) HO.out HEL.out (by rw [HG1.out]; omega) (by rw [HG1.out]; omega) HS1.out).mono ?_
            rintro e wk1 ⟨rfl, hc1⟩
            have hbb1 : Below wr.heap.size wr wk1 := (Below.refl _ _).drew.trans hc1
            clear hc1
            refine hKK.out _ _ (HK.out _ hbb1) (fun hSS1 => ?_)
            clear hKK K hSS0
            try simp only [Act.put, List.setIfInBounds_toArray, List.set_cons_zero, List.set_cons_succ]
            refine wpAnyH_take (i := 4) (oi := ⟨some 122, _, _, _, _, _⟩) (v := .bool false) rfl (by kernel_rfl) (by kernel_rfl) (by kernel_rfl) (fun _ _ _ h => h) (Or.inl ⟨by rfl, fun w hSw => by go_simp⟩) (by assumption) ?_
            try simp only [Act.put, List.setIfInBounds_toArray, List.set_cons_zero, List.set_cons_succ]
            refine wpAnyH_take (i := 5) (oi := ⟨some 123, _, _, _, _, _⟩) (v := .bool false) rfl (by kernel_rfl) (by kernel_rfl) (by kernel_rfl) (fun _ _ _ h => h) (Or.inl ⟨by rfl, fun w hSw => by go_simp⟩) (by assumption) ?_
            try simp only [Act.put, List.setIfInBounds_toArray, List.set_cons_zero, List.set_cons_succ]
            refine wpAnyH_take (i := 6) (oi := ⟨some 124, _, _, _, _, _⟩) (v := .agg #[.int .i64 (n : Nat), .slice (some ⟨gb, ob, none⟩) zs.length c]) rfl (by kernel_rfl) (by kernel_rfl) (by kernel_rfl) (fun _ _ _ h => h) (Or.inl ⟨by rfl, fun w hSw => by obtain ⟨q1, q2, _⟩ := hSw; go_simp⟩) (by assumption) ?_
            try simp only [Act.put, List.setIfInBounds_toArray, List.set_cons_zero, List.set_cons_succ]
            refine wpAnyH_take (i := 7) (oi := ⟨some 125, _, _, _, _, _⟩) (v := .int .i64 p) rfl (by kernel_rfl) (by kernel_rfl) (by kernel_rfl) (fun _ _ _ h => h) (Or.inl ⟨by rfl, fun w hSw => by go_simp⟩) (by assumption) ?_
            try simp only [Act.put, List.setIfInBounds_toArray, List.set_cons_zero, List.set_cons_succ]
            refine wpAnyH_take (i := 8) (oi := ⟨some 126, _, _, _, _, _⟩) (v := .slice (some ⟨gl, ol, none⟩) zs.length cl) rfl (by kernel_rfl) (by kernel_rfl) (by kernel_rfl) (fun _ _ _ h => h) (Or.inl ⟨by rfl, fun w hSw => by go_simp⟩) (by assumption) ?_
            try simp only [Act.put, List.setIfInBounds_toArray, List.set_cons_zero, List.set_cons_succ]
            refine wpAnyH_take (i := 9) (oi := ⟨some 127, _, _, _, _, _⟩) (v := .int .i64 (zs.length : Nat)) rfl (by kernel_rfl) (by kernel_rfl) (by kernel_rfl) (fun _ _ _ h => h) (Or.inl ⟨by rfl, fun w hSw => by go_simp⟩) (by assumption) ?_
            try simp only [Act.put, List.setIfInBounds_toArray, List.set_cons_zero, List.set_cons_succ]
            refine wpAnyH_take (i := 11) (oi := ⟨some 129, _, _, _, _, _⟩) (v := .pointer (some ⟨w1.heap.size, 0, none⟩)) rfl (by kernel_rfl) (by kernel_rfl) (by kernel_rfl) (fun _ _ _ h => h) (Or.inl ⟨by rfl, fun w hSw => by go_simp⟩) (by assumption) ?_
            try simp only [Act.put, List.setIfInBounds_toArray, List.set_cons_zero, List.set_cons_succ]
            refine wpAnyH_take (i := 12) (oi := ⟨some 130, _, _, _, _, _⟩) (v := .int .i64 (n : Nat)) rfl (by kernel_rfl) (by kernel_rfl) (by kernel_rfl) (fun _ _ _ h => h) (Or.inl ⟨by rfl, fun w hSw => by obtain ⟨q1, q2, _⟩ := hSw; go_simp⟩) (by assumption) ?_
            try simp only [Act.put, List.setIfInBounds_toArray, List.set_cons_zero, List.set_cons_succ]
            refine wpAnyH_ready (rs := [10]) (by kernel_rfl) (by simp) ?_
            refine AllReadyH.cons rfl (fun K hKK => ?_) AllReadyH.nil
            go_simp
            go_at_call 17
            refine (t_span n (some ⟨gb, ob, none⟩) c zs l p zs.length n _ (HIr.out _ hbb1) HO.out HEL.out (by rw [HG1.out]; omega) (by rw [HG1.out]; exact Nat.le_refl _) HSN.out).mono ?_
            rintro e wk2 ⟨rfl, hc2⟩
            have hbb2 : Below wr.heap.size wr wk2 := hbb1.trans (hc2.mono hbb1.size)
            clear hc2
            refine hKK.out _ _ (HK.out _ hbb2) (fun hSS2 => ?_)
            clear hKK K hbb1 hSS1
            try simp only [Act.put, List.setIfInBounds_toArray, List.set_cons_zero, List.set_cons_succ]
            refine wpAnyH_take (i := 13) (oi := ⟨some 131, _, _, _, _, _⟩) (v := .bool false) rfl (by kernel_rfl) (by kernel_rfl) (by kernel_rfl) (fun _ _ _ h => h) (Or.inl ⟨by rfl, fun w hSw => by go_simp⟩) (by assumption) ?_
            try simp only [Act.put, List.setIfInBounds_toArray, List.set_cons_zero, List.set_cons_succ]
            refine wpAnyH_take (i := 14) (oi := ⟨some 132, _, _, _, _, _⟩) (v := .bool false) rfl (by kernel_rfl) (by kernel_rfl) (by kernel_rfl) (fun _ _ _ h => h) (Or.inl ⟨by rfl, fun w hSw => by go_simp⟩) (by assumption) ?_
            try simp only [Act.put, List.setIfInBounds_toArray, List.set_cons_zero, List.set_cons_succ]
            refine wpAnyH_take (i := 15) (oi := ⟨some 133, _, _, _, _, _⟩) (v := .bool false) rfl (by kernel_rfl) (by kernel_rfl) (by kernel_rfl) (fun _ _ _ h => h) (Or.inl ⟨by rfl, fun w hSw => by go_simp⟩) (by assumption) ?_
            try simp only [Act.put, List.setIfInBounds_toArray, List.set_cons_zero, List.set_cons_succ]
            refine wpAnyH_take (i := 16) (oi := ⟨some 134, _, _, _, _, _⟩) (v := .agg #[.int .i64 (n : Nat), .slice (some ⟨gb, ob, none⟩) zs.length c]) rfl (by kernel_rfl) (by kernel_rfl) (by kernel_rfl) (fun _ _ _ h => h) (Or.inl ⟨by rfl, fun w hSw => by obtain ⟨q1, q2, _⟩ := hSw; go_simp⟩) (by assumption) ?_
            try simp only [Act.put, List.setIfInBounds_toArray, List.set_cons_zero, List.set_cons_succ]
            refine wpAnyH_take (i := 17) (oi := ⟨some 135, _, _, _, _, _⟩) (v := .int .i64 p) rfl (by kernel_rfl) (by kernel_rfl) (by kernel_rfl) (fun _ _ _ h => h) (Or.inl ⟨by rfl, fun w hSw => by go_simp⟩) (by assumption) ?_
            try simp only [Act.put, List.setIfInBounds_toArray, List.set_cons_zero, List.set_cons_succ]
            refine wpAnyH_ready (rs := [18]) (by kernel_rfl) (by simp) ?_
            refine AllReadyH.cons rfl (fun K hKK => ?_) AllReadyH.nil
            go_simp
            go_at_call 17
            refine (t_span n (some ⟨gb, ob, none⟩) c zs l p 0 0 _ (HIr.out _ hbb2) HO.out HEL.out (by rw [HG1.out]; omega) (by omega) HKS.out).mono ?_
            rintro e wk3 ⟨rfl, hc3⟩
            have hbb3 : Below wr.heap.size wr wk3 := hbb2.trans (hc3.mono hbb2.size)
            clear hc3
            refine hKK.out _ _ (HK.out _ hbb3) (fun hSS3 => ?_)
            clear hKK K hbb2 hSS2
            try simp only [Act.put, List.setIfInBounds_toArray, List.set_cons_zero, List.set_cons_succ]
            refine wpAnyH_take (i := 19) (oi := ⟨some 137, _, _, _, _, _⟩) (v := .bool false) rfl (by kernel_rfl) (by kernel_rfl) (by kernel_rfl) (fun _ _ _ h => h) (Or.inl ⟨by rfl, fun w hSw => by go_simp⟩) (by assumption) ?_
            try simp only [Act.put, List.setIfInBounds_toArray, List.set_cons_zero, List.set_cons_succ]
            refine wpAnyH_take (i := 20) (oi := ⟨some 138, _, _, _, _, _⟩) (v := .bool false) rfl (by kernel_rfl) (by kernel_rfl) (by kernel_rfl) (fun _ _ _ h => h) (Or.inl ⟨by rfl, fun w hSw => by go_simp⟩) (by assumption) ?_
            try simp only [Act.put, List.setIfInBounds_toArray, List.set_cons_zero, List.set_cons_succ]
            refine wpAnyH_done (by kernel_rfl) ?_ _
            clear HK
            clear HIr HMl hSS3
            have hb := hbb3
            clear hbb3
            have HXr19 := Lib.hid (HXrL.out.keep hb)
            clear HXrL
            have HLl19 := Lib.hid (HLlL.out.below hb)
            clear HLlL
            have HB19x := Lib.hid (show Below w.heap.size w wk3 from HBL.out.trans (hb.mono HBL.out.size))
            clear HBL hb
            go_wp2
            go_roundw
            case rel => exact ⟨p + 1, max x s, min y s, (v + 1), by omega, by go_num, rfl, rfl, rfl, Lib.hid ⟨HX2.out, HY2.out, HV2.out⟩, HB19x.out, HXr19.out, HLl19.out⟩
            case measure => simp [intOf]; omega
          · have h1b : decide (1 < s) = false := by simp; omega
            have HV2 : Hid (restsL (l.take (p + 1)) = v) := Lib.hid (by rw [restsL_no HSO.out h1s, HXYV.out.2.2])
            go_upto_region 24 with fail
            clear hcl
            have HK : Hid (∀ W' : World, Below wr.heap.size wr W' → W'.cell? ⟨w1.heap.size, 0, none⟩ = some (.int .i64 (n : Nat)) ∧ W'.cell? ⟨w1.heap.size, 1, none⟩ = some (.slice (some ⟨gb, ob, none⟩) zs.length c) ∧ Below wr.heap.size wr W') :=
              Lib.hid (fun W' hW => ⟨(HXrL.out.keep hW).1.facts.1, (HXrL.out.keep hW).1.facts.2.1, hW⟩)
            have HMl : Hid (∀ W' : World, Below wr.heap.size wr W' → IntsAt W' (some ⟨gl, ol, none⟩) zs.length l) := Lib.hid (fun W' hW => HLlL.out.below hW)
            have HIr : Hid (∀ W' : World, Below wr.heap.size wr W' → IntsAt W' (some ⟨gb, ob, none⟩) zs.length zs) := Lib.hid (fun W' hW => (HXrL.out.keep hW).2)
            refine wp_region_held_drew (S := fun W' => W'.cell? ⟨w1.heap.size, 0, none⟩ = some (.int .i64 (n : Nat)) ∧ W'.cell? ⟨w1.heap.size, 1, none⟩ = some (.slice (some ⟨gb, ob, none⟩) zs.length c) ∧ Below wr.heap.size wr W') (by kernel_rfl) (HK.out _ (Below.refl _ _).drew) (fun hSS0 => ?_)
            refine wpAnyH_take (i := 0) (oi := ⟨some 118, _, _, _, _, _⟩) (v := .agg #[.int .i64 (n : Nat), .slice (some ⟨gb, ob, none⟩) zs.length c]) rfl (by kernel_rfl) (by kernel_rfl) (by kernel_rfl) (fun _ _ _ h => h) (Or.inl ⟨by rfl, fun w hSw => by obtain ⟨q1, q2, _⟩ := hSw; go_simp⟩) (by assumption) ?_
            try simp only [Act.put, List.setIfInBounds_toArray, List.set_cons_zero, List.set_cons_succ]
            refine wpAnyH_take (i := 1) (oi := ⟨some 119, _, _, _, _, _⟩) (v := .int .i64 p) rfl (by kernel_rfl) (by kernel_rfl) (by kernel_rfl) (fun _ _ _ h => h) (Or.inl ⟨by rfl, fun w hSw => by go_simp⟩) (by assumption) ?_
            try simp only [Act.put, List.setIfInBounds_toArray, List.set_cons_zero, List.set_cons_succ]
            refine wpAnyH_take (i := 3) (oi := ⟨some 121, _, _, _, _, _⟩) (v := .int .i64 s) rfl (by kernel_rfl) (by kernel_rfl) (by kernel_rfl) (fun _ _ _ h => h) (Or.inl ⟨by rfl, fun w hSw => by go_simp⟩) (by assumption) ?_
            try simp only [Act.put, List.setIfInBounds_toArray, List.set_cons_zero, List.set_cons_succ]
            refine wpAnyH_ready (rs := [2]) (by kernel_rfl) (by simp) ?_
            refine AllReadyH.cons rfl (fun K hKK => ?_) AllReadyH.nil
            go_simp
            go_at_call 17
            refine (t_span n (some ⟨gb, ob, none⟩) c zs l p 1 s _ (HIr.out _ (Below.refl _ _).drew) HO.out HEL.out (by rw [HG1.out]; omega) (by rw [HG1.out]; omega) HS1.out).mono ?_
            rintro e wk1 ⟨rfl, hc1⟩
            have hbb1 : Below wr.heap.size wr wk1 := (Below.refl _ _).drew.trans hc1
            clear hc1
            refine hKK.out _ _ (HK.out _ hbb1) (fun hSS1 => ?_)
            clear hKK K hSS0
            try simp only [Act.put, List.setIfInBounds_toArray, List.set_cons_zero, List.set_cons_succ]
            refine wpAnyH_take (i := 4) (oi := ⟨some 122, _, _, _, _, _⟩) (v := .bool false) rfl (by kernel_rfl) (by kernel_rfl) (by kernel_rfl) (fun _ _ _ h => h) (Or.inl ⟨by rfl, fun w hSw => by go_simp⟩) (by assumption) ?_
            try simp only [Act.put, List.setIfInBounds_toArray, List.set_cons_zero, List.set_cons_succ]
            refine wpAnyH_take (i := 5) (oi := ⟨some 123, _, _, _, _, _⟩) (v := .bool false) rfl (by kernel_rfl) (by kernel_rfl) (by kernel_rfl) (fun _ _ _ h => h) (Or.inl ⟨by rfl, fun w hSw => by go_simp⟩) (by assumption) ?_
            try simp only [Act.put, List.setIfInBounds_toArray, List.set_cons_zero, List.set_cons_succ]
            refine wpAnyH_take (i := 6) (oi := ⟨some 124, _, _, _, _, _⟩) (v := .agg #[.int .i64 (n : Nat), .slice (some ⟨gb, ob, none⟩) zs.length c]) rfl (by kernel_rfl) (by kernel_rfl) (by kernel_rfl) (fun _ _ _ h => h) (Or.inl ⟨by rfl, fun w hSw => by obtain ⟨q1, q2, _⟩ := hSw; go_simp⟩) (by assumption) ?_
            try simp only [Act.put, List.setIfInBounds_toArray, List.set_cons_zero, List.set_cons_succ]
            refine wpAnyH_take (i := 7) (oi := ⟨some 125, _, _, _, _, _⟩) (v := .int .i64 p) rfl (by kernel_rfl) (by kernel_rfl) (by kernel_rfl) (fun _ _ _ h => h) (Or.inl ⟨by rfl, fun w hSw => by go_simp⟩) (by assumption) ?_
            try simp only [Act.put, List.setIfInBounds_toArray, List.set_cons_zero, List.set_cons_succ]
            refine wpAnyH_take (i := 8) (oi := ⟨some 126, _, _, _, _, _⟩) (v := .slice (some ⟨gl, ol, none⟩) zs.length cl) rfl (by kernel_rfl) (by kernel_rfl) (by kernel_rfl) (fun _ _ _ h => h) (Or.inl ⟨by rfl, fun w hSw => by go_simp⟩) (by assumption) ?_
            try simp only [Act.put, List.setIfInBounds_toArray, List.set_cons_zero, List.set_cons_succ]
            refine wpAnyH_take (i := 9) (oi := ⟨some 127, _, _, _, _, _⟩) (v := .int .i64 (zs.length : Nat)) rfl (by kernel_rfl) (by kernel_rfl) (by kernel_rfl) (fun _ _ _ h => h) (Or.inl ⟨by rfl, fun w hSw => by go_simp⟩) (by assumption) ?_
            try simp only [Act.put, List.setIfInBounds_toArray, List.set_cons_zero, List.set_cons_succ]
            refine wpAnyH_take (i := 11) (oi := ⟨some 129, _, _, _, _, _⟩) (v := .pointer (some ⟨w1.heap.size, 0, none⟩)) rfl (by kernel_rfl) (by kernel_rfl) (by kernel_rfl) (fun _ _ _ h => h) (Or.inl ⟨by rfl, fun w hSw => by go_simp⟩) (by assumption) ?_
            try simp only [Act.put, List.setIfInBounds_toArray, List.set_cons_zero, List.set_cons_succ]
            refine wpAnyH_take (i := 12) (oi := ⟨some 130, _, _, _, _, _⟩) (v := .int .i64 (n : Nat)) rfl (by kernel_rfl) (by kernel_rfl) (by kernel_rfl) (fun _ _ _ h => h) (Or.inl ⟨by rfl, fun w hSw => by obtain ⟨q1, q2, _⟩ := hSw; go_simp⟩) (by assumption) ?_
            try simp only [Act.put, List.setIfInBounds_toArray, List.set_cons_zero, List.set_cons_succ]
            refine wpAnyH_ready (rs := [10]) (by kernel_rfl) (by simp) ?_
            refine AllReadyH.cons rfl (fun K hKK => ?_) AllReadyH.nil
            go_simp
            go_at_call 17
            refine (t_span n (some ⟨gb, ob, none⟩) c zs l p zs.length n _ (HIr.out _ hbb1) HO.out HEL.out (by rw [HG1.out]; omega) (by rw [HG1.out]; exact Nat.le_refl _) HSN.out).mono ?_
            rintro e wk2 ⟨rfl, hc2⟩
            have hbb2 : Below wr.heap.size wr wk2 := hbb1.trans (hc2.mono hbb1.size)
            clear hc2
            refine hKK.out _ _ (HK.out _ hbb2) (fun hSS2 => ?_)
            clear hKK K hbb1 hSS1
            try simp only [Act.put, List.setIfInBounds_toArray, List.set_cons_zero, List.set_cons_succ]
            refine wpAnyH_take (i := 13) (oi := ⟨some 131, _, _, _, _, _⟩) (v := .bool false) rfl (by kernel_rfl) (by kernel_rfl) (by kernel_rfl) (fun _ _ _ h => h) (Or.inl ⟨by rfl, fun w hSw => by go_simp⟩) (by assumption) ?_
            try simp only [Act.put, List.setIfInBounds_toArray, List.set_cons_zero, List.set_cons_succ]
            refine wpAnyH_take (i := 14) (oi := ⟨some 132, _, _, _, _, _⟩) (v := .bool false) rfl (by kernel_rfl) (by kernel_rfl) (by kernel_rfl) (fun _ _ _ h => h) (Or.inl ⟨by rfl, fun w hSw => by go_simp⟩) (by assumption) ?_
            try simp only [Act.put, List.setIfInBounds_toArray, List.set_cons_zero, List.set_cons_succ]
            refine wpAnyH_take (i := 15) (oi := ⟨some 133, _, _, _, _, _⟩) (v := .bool false) rfl (by kernel_rfl) (by kernel_rfl) (by kernel_rfl) (fun _ _ _ h => h) (Or.inl ⟨by rfl, fun w hSw => by go_simp⟩) (by assumption) ?_
            try simp only [Act.put, List.setIfInBounds_toArray, List.set_cons_zero, List.set_cons_succ]
            refine wpAnyH_take (i := 16) (oi := ⟨some 134, _, _, _, _, _⟩) (v := .agg #[.int .i64 (n : Nat), .slice (some ⟨gb, ob, none⟩) zs.length c]) rfl (by kernel_rfl) (by kernel_rfl) (by kernel_rfl) (fun _ _ _ h => h) (Or.inl ⟨by rfl, fun w hSw => by obtain ⟨q1, q2, _⟩ := hSw; go_simp⟩) (by assumption) ?_
            try simp only [Act.put, List.setIfInBounds_toArray, List.set_cons_zero, List.set_cons_succ]
            refine wpAnyH_take (i := 17) (oi := ⟨some 135, _, _, _, _, _⟩) (v := .int .i64 p) rfl (by kernel_rfl) (by kernel_rfl) (by kernel_rfl) (fun _ _ _ h => h) (Or.inl ⟨by rfl, fun w hSw => by go_simp⟩) (by assumption) ?_
            try simp only [Act.put, List.setIfInBounds_toArray, List.set_cons_zero, List.set_cons_succ]
            refine wpAnyH_ready (rs := [18]) (by kernel_rfl) (by simp) ?_
            refine AllReadyH.cons rfl (fun K hKK => ?_) AllReadyH.nil
            go_simp
            go_at_call 17
            refine (t_span n (some ⟨gb, ob, none⟩) c zs l p 0 0 _ (HIr.out _ hbb2) HO.out HEL.out (by rw [HG1.out]; omega) (by omega) HKS.out).mono ?_
            rintro e wk3 ⟨rfl, hc3⟩
            have hbb3 : Below wr.heap.size wr wk3 := hbb2.trans (hc3.mono hbb2.size)
            clear hc3
            refine hKK.out _ _ (HK.out _ hbb3) (fun hSS3 => ?_)
            clear hKK K hbb2 hSS2
            try simp only [Act.put, List.setIfInBounds_toArray, List.set_cons_zero, List.set_cons_succ]
            refine wpAnyH_take (i := 19) (oi := ⟨some 137, _, _, _, _, _⟩) (v := .bool false) rfl (by kernel_rfl) (by kernel_rfl) (by kernel_rfl) (fun _ _ _ h => h) (Or.inl ⟨by rfl, fun w hSw => by go_simp⟩) (by assumption) ?_
            try simp only [Act.put, List.setIfInBounds_toArray, List.set_cons_zero, List.set_cons_succ]
            refine wpAnyH_take (i := 20) (oi := ⟨some 138, _, _, _, _, _⟩) (v := .bool false) rfl (by kernel_rfl) (by kernel_rfl) (by kernel_rfl) (fun _ _ _ h => h) (Or.inl ⟨by rfl, fun w hSw => by go_simp⟩) (by assumption) ?_
            try simp only [Act.put, List.setIfInBounds_toArray, List.set_cons_zero, List.set_cons_succ]
            refine wpAnyH_done (by kernel_rfl) ?_ _
            clear HK
            clear HIr HMl hSS3
            have hb := hbb3
            clear hbb3
            have HXr49 := Lib.hid (HXrL.out.keep hb)
            clear HXrL
            have HLl49 := Lib.hid (HLlL.out.below hb)
            clear HLlL
            have HB49x := Lib.hid (show Below w.heap.size w wk3 from HBL.out.trans (hb.mono HBL.out.size))
            clear HBL hb
            go_wp2
            go_roundw
            case rel => exact ⟨p + 1, max x s, min y s, v, by omega, by go_num, rfl, rfl, rfl, Lib.hid ⟨HX2.out, HY2.out, HV2.out⟩, HB49x.out, HXr49.out, HLl49.out⟩
            case measure => simp [intOf]; omega
        · have hltb : decide ((p : Int) < (zs.length : Int)) = false := by simp; omega
          have hpe : p = l.length := by rw [HG1.out]; omega
          have hxyv := HXYV.out
          rw [hpe, List.take_length, HMX.out, HG10.out, HMN.out, HRS.out] at hxyv
          obtain ⟨rfl, rfl, rfl⟩ := hxyv
          clear HXYV hpe
          obtain ⟨zl, hzl1⟩ : ∃ k, z.length = k + 1 := ⟨z.length - 1, by have := HG7.out; rw [HZE.out] at this; omega⟩
          obtain ⟨zn, hzn⟩ : ∃ k, zl + 1 = k := ⟨_, rfl⟩
          have HZN : Hid (z.length = zn) := Lib.hid (by rw [hzl1, hzn])
          have hzl25 : z.length ≤ 25 := by rw [← HZE.out]; exact ofZ_len _ _
          have hzlt : zl < zn := by omega
          have hzpos : 0 < zn := by omega
          have hzn25 : zn ≤ 25 := by omega
          have hzw : wrap64 ((zn : Int) - 1) = (zl : Int) := by unfold wrap64; omega
          have HZL : Hid (z.length - 1 = zl) := Lib.hid (by omega)
          have hzpb : decide (0 < (zn : Int)) = true := by simp; omega
          clear hzl1 hzn hzl25
          obtain ⟨y, hy⟩ : ∃ y, ofZ 577 (spansL l l.length l.length) = y := ⟨_, rfl⟩
          have HYE := Lib.hid hy
          have HY1 : Hid (y.length = 1) := Lib.hid (by rw [← hy]; exact HG6.out)
          have HS5 : Hid (ofZ 577 (spansL l 1 l.length) = z) := Lib.hid (by rw [HG5.out, HZE.out])
          have HYL : Hid (ofZ 577 (spansL l zs.length l.length) = y) := Lib.hid (by rw [← HG1.out]; exact HYE.out)
          clear hy
          obtain ⟨pr0, pr1, pr2, pr3⟩ := HXrL.out.1.facts
          have ltr := HXrL.out.1.lt
          go_wp2_with fail
          refine (t_sizes n (some ⟨gb, ob, none⟩) c zs l z zn wr HXrL.out.2 HO.out HEL.out HZE.out HZN.out).mono ?_
          rintro e v79 ⟨az, cz, rfl, hiz, hb⟩
          clear pr0 pr1 pr2 pr3 ltr
          have HXr79 := Lib.hid (HXrL.out.keep hb)
          clear HXrL
          have HLl79 := Lib.hid (HLlL.out.below hb)
          clear HLlL
          have HB79x := Lib.hid (show Below w.heap.size w v79 from HBL.out.trans (hb.mono HBL.out.size))
          clear HBL hb
          have HLz0 := Lib.hid hiz
          clear hiz
          obtain ⟨gz, oz, rfl⟩ := addr_of HLz0.out hzpos
          obtain ⟨pr0, pr1, pr2, pr3⟩ := HXr79.out.1.facts
          have ltr := HXr79.out.1.lt
          go_wp2_with fail
          refine (t_long n (some ⟨gb, ob, none⟩) c zs l M v79 HXr79.out.2 HO.out HEL.out HMX.out).mono ?_
          rintro e v80 ⟨rfl, hb⟩
          clear pr0 pr1 pr2 pr3 ltr
          have HXr80 := Lib.hid (HXr79.out.keep hb)
          clear HXr79
          have HLl80 := Lib.hid (HLl79.out.below hb)
          clear HLl79
          have HLz80 := Lib.hid (HLz0.out.below hb)
          clear HLz0
          have HB80x := Lib.hid (show Below w.heap.size w v80 from HB79x.out.trans (hb.mono HB79x.out.size))
          clear HB79x hb
          obtain ⟨pr0, pr1, pr2, pr3⟩ := HXr80.out.1.facts
          have ltr := HXr80.out.1.lt
          go_wp2_with fail
          refine (t_short n (some ⟨gb, ob, none⟩) c zs l m v80 HXr80.out.2 HO.out HEL.out HMN.out).mono ?_
          rintro e v81 ⟨rfl, hb⟩
          clear pr0 pr1 pr2 pr3 ltr
          have HXr81 := Lib.hid (HXr80.out.keep hb)
          clear HXr80
          have HLl81 := Lib.hid (HLl80.out.below hb)
          clear HLl80
          have HLz81 := Lib.hid (HLz80.out.below hb)
          clear HLz80
          have HB81x := Lib.hid (show Below w.heap.size w v81 from HB80x.out.trans (hb.mono HB80x.out.size))
          clear HB80x hb
          obtain ⟨pr0, pr1, pr2, pr3⟩ := HXr81.out.1.facts
          have ltr := HXr81.out.1.lt
          go_wp2_with fail
          refine (t_rests n (some ⟨gb, ob, none⟩) c zs l q v81 HXr81.out.2 HO.out HEL.out HRS.out).mono ?_
          rintro e v82 ⟨rfl, hb⟩
          clear pr0 pr1 pr2 pr3 ltr
          have HXr82 := Lib.hid (HXr81.out.keep hb)
          clear HXr81
          have HLl82 := Lib.hid (HLl81.out.below hb)
          clear HLl81
          have HLz82 := Lib.hid (HLz81.out.below hb)
          clear HLz81
          have HB82x := Lib.hid (show Below w.heap.size w v82 from HB81x.out.trans (hb.mono HB81x.out.size))
          clear HB81x hb
          have hz0c : v82.cell? ⟨gz, oz, none⟩ = some (.int .i64 m) := by have h := int_at HLz82.out (k := 0) hzpos; have h2 := HG8.out; rw [HZE.out, HMN.out] at h2; rw [h2] at h; simpa using h
          have hz1c : v82.cell? ⟨gz, oz + (zn - 1), none⟩ = some (.int .i64 M) := by have h := int_at HLz82.out (k := zn - 1) (by omega); have h2 := HG9.out; rw [HZE.out, HMX.out, HZN.out] at h2; rw [h2] at h; simpa using h
          obtain ⟨pr0, pr1, pr2, pr3⟩ := HXr82.out.1.facts
          have ltr := HXr82.out.1.lt
          go_wp2_with fail
          refine (t_spans n (some ⟨gb, ob, none⟩) c zs l z 1 zn v82 HXr82.out.2 HO.out HEL.out (by rw [HG1.out]; exact hz0) (by rw [HG1.out]; omega) HS5.out HZN.out).mono ?_
          rintro e v83 ⟨aw, cw, rfl, hiw, hb⟩
          clear pr0 pr1 pr2 pr3 ltr
          have HXr83 := Lib.hid (HXr82.out.keep hb)
          clear HXr82
          have HLl83 := Lib.hid (HLl82.out.below hb)
          clear HLl82
          have HLz83 := Lib.hid (HLz82.out.below hb)
          clear HLz82
          have HB83x := Lib.hid (show Below w.heap.size w v83 from HB82x.out.trans (hb.mono HB82x.out.size))
          clear HB82x hb
          clear hz0c hz1c
          have HOW := Lib.hid hiw
          clear hiw
          obtain ⟨pr0, pr1, pr2, pr3⟩ := HXr83.out.1.facts
          have ltr := HXr83.out.1.lt
          go_wp2_with fail
          refine (t_same aw (some ⟨gz, oz, none⟩) cw cz z zn v83 HOW.out HLz83.out (by omega)).mono ?_
          rintro e v84 ⟨rfl, hb⟩
          clear pr0 pr1 pr2 pr3 ltr
          have HXr84 := Lib.hid (HXr83.out.keep hb)
          clear HXr83
          have HLl84 := Lib.hid (HLl83.out.below hb)
          clear HLl83
          have HLz84 := Lib.hid (HLz83.out.below hb)
          clear HLz83
          have HB84x := Lib.hid (show Below w.heap.size w v84 from HB83x.out.trans (hb.mono HB83x.out.size))
          clear HB83x hb
          obtain ⟨pr0, pr1, pr2, pr3⟩ := HXr84.out.1.facts
          have ltr := HXr84.out.1.lt
          go_wp2_with fail
          refine (t_spans n (some ⟨gb, ob, none⟩) c zs l y zs.length 1 v84 HXr84.out.2 HO.out HEL.out (by rw [HG1.out]; exact hz0) (by rw [HG1.out]; exact Nat.le_refl _) HYL.out HY1.out).mono ?_
          rintro e v85 ⟨ay, cy, rfl, hiy, hb⟩
          clear pr0 pr1 pr2 pr3 ltr
          have HXr85 := Lib.hid (HXr84.out.keep hb)
          clear HXr84
          have HLl85 := Lib.hid (HLl84.out.below hb)
          clear HLl84
          have HLz85 := Lib.hid (HLz84.out.below hb)
          clear HLz84
          have HB85x := Lib.hid (show Below w.heap.size w v85 from HB84x.out.trans (hb.mono HB84x.out.size))
          clear HB84x hb
          clear hiy
          go_wp2
          go_ret
          exact ⟨rfl, HB85x.out⟩
  · clear hb
    go_enter Tryd.func3, Tryd.ntmps3
    go_wp2
    go_ret
    exact ⟨rfl, Below.refl _ _⟩
end Go.Proofs.YtmlhpllppgcgkaaDoor.Rhy
