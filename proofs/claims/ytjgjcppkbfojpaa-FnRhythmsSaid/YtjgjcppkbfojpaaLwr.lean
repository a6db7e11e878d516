/-
  Helpers of the claims beside this text: the law on rhythms.
-/
import Derived.Test.YtjgjcppkbfojpaaRhc
import Derived.Test.YtjgjcppkbfojpaaDrw
import Derived.Deep.DeepCutAuto
import Derived.BigFrame
namespace Go.Proofs.Ytjgjcppkbfojpaa.Rhy
open Go.RowKit
open Go.Proofs.Ytjgjcppkbfojpaa.Cur
set_option linter.unusedVariables false

set_option maxHeartbeats 8000000 in
set_option maxRecDepth 100000 in
theorem rhythms_walk (a : Option Addr) (len cap : Nat) (w : World) (hb : len ≤ 1048576 → BytesAt w.heap.size w a len) :
    Calls Try.prog 3 #[.slice a len cap] w fun e w' => e = .returned (.bool true) ∧ Below w.heap.size w w' := by
  by_cases hlen : len ≤ 1048576
  · have HBY := Lib.hid (hb hlen)
    clear hb
    go_enter Try.func3, Try.ntmps3
    go_wp2_with fail
    refine (make_any a len cap 0 16 w HBY.out (by omega) (by omega) (by omega)).mono ?_
    rintro e w1 ⟨n, b, c, zs, rfl, hok, hn, hown, hb1⟩
    have HO := Lib.hid hok
    have hn1 : 1 ≤ n := by have := hok.1.1; omega
    have hn16 : n ≤ 16 := hn
    have HXr0 : Hid (RhAt (putR w1 n b zs.length c) w1.heap.size n b c zs) := Lib.hid (rhAt_put hown (ok_allInt hok))
    have HB0x := Lib.hid (show Below w.heap.size w (putR w1 n b zs.length c) from hb1.trans ((putR_below _ _ _ _ _).mono hb1.size))
    have HLZ := Lib.hid (ok_len hok)
    clear hok hn hown hb1
    obtain ⟨pr0, pr1, pr2, pr3⟩ := HXr0.out.1.facts
    have ltr := HXr0.out.1.lt
    go_wp2_with fail
    refine (num_any a len cap 30 (putR w1 n b zs.length c) (bytes_up HBY.out HB0x.out HB0x.out.size) (by omega)).mono ?_
    rintro e v1 ⟨qk, rfl, hk0, hk1, hb⟩
    clear pr0 pr1 pr2 pr3 ltr
    have HXr1 := Lib.hid (HXr0.out.keep hb)
    clear HXr0
    have HB1x := Lib.hid (show Below w.heap.size w v1 from HB0x.out.trans (hb.mono HB0x.out.size))
    clear HB0x hb
    obtain ⟨k, hk⟩ : ∃ k : Int, qk % 40 - 20 = k := ⟨_, rfl⟩
    have hkw : wrap64 (qk % 40 - 20) = k := by rw [← hk]; unfold wrap64; omega
    have hk2 : -20 ≤ k := by omega
    have hk3 : k ≤ 19 := by omega
    have HKW := Lib.hid hkw
    have HKQ := Lib.hid hk
    clear hk hkw
    have hneg : wrap64 (-k) = -k := by unfold wrap64; omega
    obtain ⟨la, hla⟩ : ∃ l, rotZ n zs 1 k = l := ⟨_, rfl⟩
    have HEla := Lib.hid hla
    obtain ⟨lm, hlm⟩ : ∃ l, rotZ n zs (-1) 0 = l := ⟨_, rfl⟩
    have HElm := Lib.hid hlm
    obtain ⟨lo, hlo⟩ : ∃ l, notZ n zs = l := ⟨_, rfl⟩
    have HElo := Lib.hid hlo
    obtain ⟨ll, hll⟩ : ∃ l, ofZ n (zs ++ notZ n zs) = l := ⟨_, rfl⟩
    have HEll := Lib.hid hll
    have HOa : Hid (Ok n la) := Lib.hid (by rw [← hla]; exact rot_ok HO.out.1 _ _)
    have HOm : Hid (Ok n lm) := Lib.hid (by rw [← hlm]; exact rot_ok HO.out.1 _ _)
    have HOo : Hid (Ok n lo) := Lib.hid (by rw [← hlo]; exact not_ok' HO.out)
    have HOl : Hid (Ok n ll) := Lib.hid (by rw [← hll]; exact all_ok (by omega))
    have HAB : Hid (rotZ n la 1 (-k) = zs) := Lib.hid (by rw [← hla]; exact rot_back HO.out k)
    have HMB : Hid (rotZ n lm (-1) 0 = zs) := Lib.hid (by rw [← hlm]; exact mir_back HO.out)
    have HOB : Hid (notZ n lo = zs) := Lib.hid (by rw [← hlo]; exact not_not' HO.out)
    have HNA : Hid ((la.length : Int) = zs.length) := Lib.hid (by rw [← hla, len_moved HO.out (gcd_one _)])
    have HNO : Hid (lo.length + zs.length = n) := Lib.hid (by rw [← hlo]; exact not_len' HO.out)
    have HNL : Hid ((ll.length : Int) = n) := Lib.hid (by rw [← hll, all_len' HO.out])
    have HLL : Hid (ofZ n (zs ++ lo) = ll) := Lib.hid (by rw [← hlo]; exact hll)
    clear hla hlm hlo hll
    obtain ⟨pr0, pr1, pr2, pr3⟩ := HXr1.out.1.facts
    have ltr := HXr1.out.1.lt
    go_wp2_with fail
    try rw [HKW.out]
    try rw [HKQ.out]
    refine (r_rot n b c zs la k v1 HXr1.out.2 HO.out (by omega) (by omega) HEla.out).mono ?_
    rintro e v2 ⟨ba, ca, rfl, hown, hb⟩
    clear pr0 pr1 pr2 pr3 ltr
    have HXr2 := Lib.hid (HXr1.out.keep hb)
    clear HXr1
    have HB2x := Lib.hid (show Below w.heap.size w v2 from HB1x.out.trans (hb.mono HB1x.out.size))
    clear HB1x hb
    have HXn := Lib.hid (rhAt_put (n := n) hown (ok_allInt HOa.out))
    clear hown
    have hb := putR_below v2 n ba la.length ca
    have HXr3 := Lib.hid (HXr2.out.keep hb)
    clear HXr2
    have HB3x := Lib.hid (show Below w.heap.size w (putR v2 n ba la.length ca) from HB2x.out.trans (hb.mono HB2x.out.size))
    clear HB2x hb
    have HXa3 : Hid (RhAt (putR v2 n ba la.length ca) v2.heap.size n ba ca la) := HXn
    clear HXn
    obtain ⟨pr0, pr1, pr2, pr3⟩ := HXr3.out.1.facts
    have ltr := HXr3.out.1.lt
    obtain ⟨pa0, pa1, pa2, pa3⟩ := HXa3.out.1.facts
    have lta := HXa3.out.1.lt
    go_wp2_with fail
    refine (r_rot n ba ca la zs (-k) (putR v2 n ba la.length ca) HXa3.out.2 HOa.out (by omega) (by omega) HAB.out).mono ?_
    rintro e v4 ⟨bb, cb, rfl, hown, hb⟩
    clear pr0 pr1 pr2 pr3 ltr pa0 pa1 pa2 pa3 lta
    have HXr4 := Lib.hid (HXr3.out.keep hb)
    clear HXr3
    have HXa4 := Lib.hid (HXa3.out.keep hb)
    clear HXa3
    have HB4x := Lib.hid (show Below w.heap.size w v4 from HB3x.out.trans (hb.mono HB3x.out.size))
    clear HB3x hb
    have HXn := Lib.hid (rhAt_put (n := n) hown (ok_allInt HO.out))
    clear hown
    have hb := putR_below v4 n bb zs.length cb
    have HXr5 := Lib.hid (HXr4.out.keep hb)
    clear HXr4
    have HXa5 := Lib.hid (HXa4.out.keep hb)
    clear HXa4
    have HB5x := Lib.hid (show Below w.heap.size w (putR v4 n bb zs.length cb) from HB4x.out.trans (hb.mono HB4x.out.size))
    clear HB4x hb
    have HXb5 : Hid (RhAt (putR v4 n bb zs.length cb) v4.heap.size n bb cb zs) := HXn
    clear HXn
    obtain ⟨pr0, pr1, pr2, pr3⟩ := HXr5.out.1.facts
    have ltr := HXr5.out.1.lt
    obtain ⟨pa0, pa1, pa2, pa3⟩ := HXa5.out.1.facts
    have lta := HXa5.out.1.lt
    obtain ⟨pb0, pb1, pb2, pb3⟩ := HXb5.out.1.facts
    have ltb := HXb5.out.1.lt
    go_wp2_with fail
    refine (r_mir n b c zs lm (putR v4 n bb zs.length cb) HXr5.out.2 HO.out HElm.out).mono ?_
    rintro e v6 ⟨bm, cm, rfl, hown, hb⟩
    clear pr0 pr1 pr2 pr3 ltr pa0 pa1 pa2 pa3 lta pb0 pb1 pb2 pb3 ltb
    have HXr6 := Lib.hid (HXr5.out.keep hb)
    clear HXr5
    have HXa6 := Lib.hid (HXa5.out.keep hb)
    clear HXa5
    have HXb6 := Lib.hid (HXb5.out.keep hb)
    clear HXb5
    have HB6x := Lib.hid (show Below w.heap.size w v6 from HB5x.out.trans (hb.mono HB5x.out.size))
    clear HB5x hb
    have HXn := Lib.hid (rhAt_put (n := n) hown (ok_allInt HOm.out))
    clear hown
    have hb := putR_below v6 n bm lm.length cm
    have HXr7 := Lib.hid (HXr6.out.keep hb)
    clear HXr6
    have HXa7 := Lib.hid (HXa6.out.keep hb)
    clear HXa6
    have HXb7 := Lib.hid (HXb6.out.keep hb)
    clear HXb6
    have HB7x := Lib.hid (show Below w.heap.size w (putR v6 n bm lm.length cm) from HB6x.out.trans (hb.mono HB6x.out.size))
    clear HB6x hb
    have HXm7 : Hid (RhAt (putR v6 n bm lm.length cm) v6.heap.size n bm cm lm) := HXn
    clear HXn
    obtain ⟨pr0, pr1, pr2, pr3⟩ := HXr7.out.1.facts
    have ltr := HXr7.out.1.lt
    obtain ⟨pm0, pm1, pm2, pm3⟩ := HXm7.out.1.facts
    have ltm := HXm7.out.1.lt
    go_wp2_with fail
    refine (r_mir n bm cm lm zs (putR v6 n bm lm.length cm) HXm7.out.2 HOm.out HMB.out).mono ?_
    rintro e v8 ⟨bx, cx, rfl, hown, hb⟩
    clear pr0 pr1 pr2 pr3 ltr pm0 pm1 pm2 pm3 ltm
    have HXr8 := Lib.hid (HXr7.out.keep hb)
    clear HXr7
    have HXa8 := Lib.hid (HXa7.out.keep hb)
    clear HXa7
    have HXb8 := Lib.hid (HXb7.out.keep hb)
    clear HXb7
    have HXm8 := Lib.hid (HXm7.out.keep hb)
    clear HXm7
    have HB8x := Lib.hid (show Below w.heap.size w v8 from HB7x.out.trans (hb.mono HB7x.out.size))
    clear HB7x hb
    have HXn := Lib.hid (rhAt_put (n := n) hown (ok_allInt HO.out))
    clear hown
    have hb := putR_below v8 n bx zs.length cx
    have HXr9 := Lib.hid (HXr8.out.keep hb)
    clear HXr8
    have HXa9 := Lib.hid (HXa8.out.keep hb)
    clear HXa8
    have HXb9 := Lib.hid (HXb8.out.keep hb)
    clear HXb8
    have HXm9 := Lib.hid (HXm8.out.keep hb)
    clear HXm8
    have HB9x := Lib.hid (show Below w.heap.size w (putR v8 n bx zs.length cx) from HB8x.out.trans (hb.mono HB8x.out.size))
    clear HB8x hb
    have HXx9 : Hid (RhAt (putR v8 n bx zs.length cx) v8.heap.size n bx cx zs) := HXn
    clear HXn
    obtain ⟨pr0, pr1, pr2, pr3⟩ := HXr9.out.1.facts
    have ltr := HXr9.out.1.lt
    obtain ⟨pm0, pm1, pm2, pm3⟩ := HXm9.out.1.facts
    have ltm := HXm9.out.1.lt
    go_wp2_with fail
    refine (r_oth n b c zs lo (putR v8 n bx zs.length cx) HXr9.out.2 HO.out HElo.out).mono ?_
    rintro e v10 ⟨bo, co, rfl, hown, hb⟩
    clear pr0 pr1 pr2 pr3 ltr pm0 pm1 pm2 pm3 ltm
    have HXr10 := Lib.hid (HXr9.out.keep hb)
    clear HXr9
    have HXa10 := Lib.hid (HXa9.out.keep hb)
    clear HXa9
    have HXb10 := Lib.hid (HXb9.out.keep hb)
    clear HXb9
    have HXm10 := Lib.hid (HXm9.out.keep hb)
    clear HXm9
    have HXx10 := Lib.hid (HXx9.out.keep hb)
    clear HXx9
    have HB10x := Lib.hid (show Below w.heap.size w v10 from HB9x.out.trans (hb.mono HB9x.out.size))
    clear HB9x hb
    have HXn := Lib.hid (rhAt_put (n := n) hown (ok_allInt HOo.out))
    clear hown
    have hb := putR_below v10 n bo lo.length co
    have HXr11 := Lib.hid (HXr10.out.keep hb)
    clear HXr10
    have HXa11 := Lib.hid (HXa10.out.keep hb)
    clear HXa10
    have HXb11 := Lib.hid (HXb10.out.keep hb)
    clear HXb10
    have HXm11 := Lib.hid (HXm10.out.keep hb)
    clear HXm10
    have HXx11 := Lib.hid (HXx10.out.keep hb)
    clear HXx10
    have HB11x := Lib.hid (show Below w.heap.size w (putR v10 n bo lo.length co) from HB10x.out.trans (hb.mono HB10x.out.size))
    clear HB10x hb
    have HXo11 : Hid (RhAt (putR v10 n bo lo.length co) v10.heap.size n bo co lo) := HXn
    clear HXn
    obtain ⟨pr0, pr1, pr2, pr3⟩ := HXr11.out.1.facts
    have ltr := HXr11.out.1.lt
    obtain ⟨po0, po1, po2, po3⟩ := HXo11.out.1.facts
    have lto := HXo11.out.1.lt
    go_wp2_with fail
    refine (r_oth n bo co lo zs (putR v10 n bo lo.length co) HXo11.out.2 HOo.out HOB.out).mono ?_
    rintro e v12 ⟨bw, cy, rfl, hown, hb⟩
    clear pr0 pr1 pr2 pr3 ltr po0 po1 po2 po3 lto
    have HXr12 := Lib.hid (HXr11.out.keep hb)
    clear HXr11
    have HXa12 := Lib.hid (HXa11.out.keep hb)
    clear HXa11
    have HXb12 := Lib.hid (HXb11.out.keep hb)
    clear HXb11
    have HXm12 := Lib.hid (HXm11.out.keep hb)
    clear HXm11
    have HXx12 := Lib.hid (HXx11.out.keep hb)
    clear HXx11
    have HXo12 := Lib.hid (HXo11.out.keep hb)
    clear HXo11
    have HB12x := Lib.hid (show Below w.heap.size w v12 from HB11x.out.trans (hb.mono HB11x.out.size))
    clear HB11x hb
    have HXn := Lib.hid (rhAt_put (n := n) hown (ok_allInt HO.out))
    clear hown
    have hb := putR_below v12 n bw zs.length cy
    have HXr13 := Lib.hid (HXr12.out.keep hb)
    clear HXr12
    have HXa13 := Lib.hid (HXa12.out.keep hb)
    clear HXa12
    have HXb13 := Lib.hid (HXb12.out.keep hb)
    clear HXb12
    have HXm13 := Lib.hid (HXm12.out.keep hb)
    clear HXm12
    have HXx13 := Lib.hid (HXx12.out.keep hb)
    clear HXx12
    have HXo13 := Lib.hid (HXo12.out.keep hb)
    clear HXo12
    have HB13x := Lib.hid (show Below w.heap.size w (putR v12 n bw zs.length cy) from HB12x.out.trans (hb.mono HB12x.out.size))
    clear HB12x hb
    have HXy13 : Hid (RhAt (putR v12 n bw zs.length cy) v12.heap.size n bw cy zs) := HXn
    clear HXn
    have hsum : wrap64 ((lo.length : Int) + (zs.length : Int)) = (n : Int) := by have := HNO.out; unfold wrap64; omega
    have HK : Hid (∀ W' : World, Below (putR v12 n bw zs.length cy).heap.size (putR v12 n bw zs.length cy) W' → W'.cell? ⟨w1.heap.size, 0, none⟩ = some (.int .i64 (n : Nat)) ∧ W'.cell? ⟨w1.heap.size, 1, none⟩ = some (.slice b zs.length c) ∧ W'.cell? ⟨v2.heap.size, 0, none⟩ = some (.int .i64 (n : Nat)) ∧ W'.cell? ⟨v2.heap.size, 1, none⟩ = some (.slice ba la.length ca) ∧ W'.cell? ⟨v4.heap.size, 0, none⟩ = some (.int .i64 (n : Nat)) ∧ W'.cell? ⟨v4.heap.size, 1, none⟩ = some (.slice bb zs.length cb) ∧ W'.cell? ⟨v8.heap.size, 0, none⟩ = some (.int .i64 (n : Nat)) ∧ W'.cell? ⟨v8.heap.size, 1, none⟩ = some (.slice bx zs.length cx) ∧ W'.cell? ⟨v10.heap.size, 0, none⟩ = some (.int .i64 (n : Nat)) ∧ W'.cell? ⟨v10.heap.size, 1, none⟩ = some (.slice bo lo.length co) ∧ W'.cell? ⟨v12.heap.size, 0, none⟩ = some (.int .i64 (n : Nat)) ∧ W'.cell? ⟨v12.heap.size, 1, none⟩ = some (.slice bw zs.length cy) ∧ Below (putR v12 n bw zs.length cy).heap.size (putR v12 n bw zs.length cy) W') :=
      Lib.hid (fun W' hW => ⟨(HXr13.out.keep hW).1.facts.1, (HXr13.out.keep hW).1.facts.2.1, (HXa13.out.keep hW).1.facts.1, (HXa13.out.keep hW).1.facts.2.1, (HXb13.out.keep hW).1.facts.1, (HXb13.out.keep hW).1.facts.2.1, (HXx13.out.keep hW).1.facts.1, (HXx13.out.keep hW).1.facts.2.1, (HXo13.out.keep hW).1.facts.1, (HXo13.out.keep hW).1.facts.2.1, (HXy13.out.keep hW).1.facts.1, (HXy13.out.keep hW).1.facts.2.1, hW⟩)
    have HIr : Hid (∀ W' : World, Below (putR v12 n bw zs.length cy).heap.size (putR v12 n bw zs.length cy) W' → IntsAt W' b zs.length zs) := Lib.hid (fun W' hW => (HXr13.out.keep hW).2)
    have HIa : Hid (∀ W' : World, Below (putR v12 n bw zs.length cy).heap.size (putR v12 n bw zs.length cy) W' → IntsAt W' ba la.length la) := Lib.hid (fun W' hW => (HXa13.out.keep hW).2)
    have HIb : Hid (∀ W' : World, Below (putR v12 n bw zs.length cy).heap.size (putR v12 n bw zs.length cy) W' → IntsAt W' bb zs.length zs) := Lib.hid (fun W' hW => (HXb13.out.keep hW).2)
    have HIx : Hid (∀ W' : World, Below (putR v12 n bw zs.length cy).heap.size (putR v12 n bw zs.length cy) W' → IntsAt W' bx zs.length zs) := Lib.hid (fun W' hW => (HXx13.out.keep hW).2)
    have HIo : Hid (∀ W' : World, Below (putR v12 n bw zs.length cy).heap.size (putR v12 n bw zs.length cy) W' → IntsAt W' bo lo.length lo) := Lib.hid (fun W' hW => (HXo13.out.keep hW).2)
    have HIy : Hid (∀ W' : World, Below (putR v12 n bw zs.length cy).heap.size (putR v12 n bw zs.length cy) W' → IntsAt W' bw zs.length zs) := Lib.hid (fun W' hW => (HXy13.out.keep hW).2)
    go_upto_region 12 with fail
    refine wp_region_held_drew (S := fun W' => W'.cell? ⟨w1.heap.size, 0, none⟩ = some (.int .i64 (n : Nat)) ∧ W'.cell? ⟨w1.heap.size, 1, none⟩ = some (.slice b zs.length c) ∧ W'.cell? ⟨v2.heap.size, 0, none⟩ = some (.int .i64 (n : Nat)) ∧ W'.cell? ⟨v2.heap.size, 1, none⟩ = some (.slice ba la.length ca) ∧ W'.cell? ⟨v4.heap.size, 0, none⟩ = some (.int .i64 (n : Nat)) ∧ W'.cell? ⟨v4.heap.size, 1, none⟩ = some (.slice bb zs.length cb) ∧ W'.cell? ⟨v8.heap.size, 0, none⟩ = some (.int .i64 (n : Nat)) ∧ W'.cell? ⟨v8.heap.size, 1, none⟩ = some (.slice bx zs.length cx) ∧ W'.cell? ⟨v10.heap.size, 0, none⟩ = some (.int .i64 (n : Nat)) ∧ W'.cell? ⟨v10.heap.size, 1, none⟩ = some (.slice bo lo.length co) ∧ W'.cell? ⟨v12.heap.size, 0, none⟩ = some (.int .i64 (n : Nat)) ∧ W'.cell? ⟨v12.heap.size, 1, none⟩ = some (.slice bw zs.length cy) ∧ Below (putR v12 n bw zs.length cy).heap.size (putR v12 n bw zs.length cy) W') (by kernel_rfl) (HK.out _ (Below.refl _ _).drew) (fun hSS0 => ?_)
    refine wpAnyH_take (i := 0) (oi := ⟨some 70, _, _, _, _, _⟩) (v := .bool true) rfl (by kernel_rfl) (by kernel_rfl) (by kernel_rfl) (fun _ _ _ h => h) (Or.inl ⟨by rfl, fun w hSw => by go_simp⟩) (by assumption) ?_
    try simp only [Act.put, List.setIfInBounds_toArray, List.set_cons_zero, List.set_cons_succ]
    refine wpAnyH_take (i := 1) (oi := ⟨some 71, _, _, _, _, _⟩) (v := .bool false) rfl (by kernel_rfl) (by kernel_rfl) (by kernel_rfl) (fun _ _ _ h => h) (Or.inl ⟨by rfl, fun w hSw => by go_simp⟩) (by assumption) ?_
    try simp only [Act.put, List.setIfInBounds_toArray, List.set_cons_zero, List.set_cons_succ]
    refine wpAnyH_take (i := 2) (oi := ⟨some 72, _, _, _, _, _⟩) (v := .bool false) rfl (by kernel_rfl) (by kernel_rfl) (by kernel_rfl) (fun _ _ _ h => h) (Or.inl ⟨by rfl, fun w hSw => by go_simp⟩) (by assumption) ?_
    try simp only [Act.put, List.setIfInBounds_toArray, List.set_cons_zero, List.set_cons_succ]
    refine wpAnyH_take (i := 3) (oi := ⟨some 73, _, _, _, _, _⟩) (v := .bool true) rfl (by kernel_rfl) (by kernel_rfl) (by kernel_rfl) (fun _ _ _ h => h) (Or.inl ⟨by rfl, fun w hSw => by go_simp⟩) (by assumption) ?_
    try simp only [Act.put, List.setIfInBounds_toArray, List.set_cons_zero, List.set_cons_succ]
    refine wpAnyH_take (i := 4) (oi := ⟨some 74, _, _, _, _, _⟩) (v := .bool false) rfl (by kernel_rfl) (by kernel_rfl) (by kernel_rfl) (fun _ _ _ h => h) (Or.inl ⟨by rfl, fun w hSw => by go_simp⟩) (by assumption) ?_
    try simp only [Act.put, List.setIfInBounds_toArray, List.set_cons_zero, List.set_cons_succ]
    refine wpAnyH_take (i := 5) (oi := ⟨some 75, _, _, _, _, _⟩) (v := .bool false) rfl (by kernel_rfl) (by kernel_rfl) (by kernel_rfl) (fun _ _ _ h => h) (Or.inl ⟨by rfl, fun w hSw => by go_simp⟩) (by assumption) ?_
    try simp only [Act.put, List.setIfInBounds_toArray, List.set_cons_zero, List.set_cons_succ]
    refine wpAnyH_take (i := 6) (oi := ⟨some 76, _, _, _, _, _⟩) (v := .bool false) rfl (by kernel_rfl) (by kernel_rfl) (by kernel_rfl) (fun _ _ _ h => h) (Or.inl ⟨by rfl, fun w hSw => by go_simp⟩) (by assumption) ?_
    try simp only [Act.put, List.setIfInBounds_toArray, List.set_cons_zero, List.set_cons_succ]
    refine wpAnyH_take (i := 7) (oi := ⟨some 77, _, _, _, _, _⟩) (v := .agg #[.int .i64 (n : Nat), .slice bb zs.length cb]) rfl (by kernel_rfl) (by kernel_rfl) (by kernel_rfl) (fun _ _ _ h => h) (Or.inl ⟨by rfl, fun w hSw => by obtain ⟨_, _, _, _, q1, q2, _⟩ := hSw; go_simp⟩) (by assumption) ?_
    try simp only [Act.put, List.setIfInBounds_toArray, List.set_cons_zero, List.set_cons_succ]
    refine wpAnyH_take (i := 8) (oi := ⟨some 78, _, _, _, _, _⟩) (v := .agg #[.int .i64 (n : Nat), .slice b zs.length c]) rfl (by kernel_rfl) (by kernel_rfl) (by kernel_rfl) (fun _ _ _ h => h) (Or.inl ⟨by rfl, fun w hSw => by obtain ⟨q1, q2, _⟩ := hSw; go_simp⟩) (by assumption) ?_
    try simp only [Act.put, List.setIfInBounds_toArray, List.set_cons_zero, List.set_cons_succ]
    refine wpAnyH_ready (rs := [9]) (by kernel_rfl) (by simp) ?_
    refine AllReadyH.cons rfl (fun K hKK => ?_) AllReadyH.nil
    go_simp
    go_at_call 15
    refine (rhythms_law n bb b cb c zs _ (HIb.out _ (Below.refl _ _).drew) (HIr.out _ (Below.refl _ _).drew) (by have := HLZ.out; omega)).mono ?_
    rintro e wk1 ⟨rfl, hc1⟩
    have hbb1 : Below (putR v12 n bw zs.length cy).heap.size (putR v12 n bw zs.length cy) wk1 := (Below.refl _ _).drew.trans hc1
    clear hc1
    refine hKK.out _ _ (HK.out _ hbb1) (fun hSS1 => ?_)
    clear hKK K hSS0
    try simp only [Act.put, List.setIfInBounds_toArray, List.set_cons_zero, List.set_cons_succ]
    refine wpAnyH_take (i := 10) (oi := ⟨some 80, _, _, _, _, _⟩) (v := .bool false) rfl (by kernel_rfl) (by kernel_rfl) (by kernel_rfl) (fun _ _ _ h => h) (Or.inl ⟨by rfl, fun w hSw => by go_simp⟩) (by assumption) ?_
    try simp only [Act.put, List.setIfInBounds_toArray, List.set_cons_zero, List.set_cons_succ]
    refine wpAnyH_take (i := 11) (oi := ⟨some 81, _, _, _, _, _⟩) (v := .bool false) rfl (by kernel_rfl) (by kernel_rfl) (by kernel_rfl) (fun _ _ _ h => h) (Or.inl ⟨by rfl, fun w hSw => by go_simp⟩) (by assumption) ?_
    try simp only [Act.put, List.setIfInBounds_toArray, List.set_cons_zero, List.set_cons_succ]
    refine wpAnyH_take (i := 12) (oi := ⟨some 82, _, _, _, _, _⟩) (v := .bool false) rfl (by kernel_rfl) (by kernel_rfl) (by kernel_rfl) (fun _ _ _ h => h) (Or.inl ⟨by rfl, fun w hSw => by go_simp⟩) (by assumption) ?_
    try simp only [Act.put, List.setIfInBounds_toArray, List.set_cons_zero, List.set_cons_succ]
    refine wpAnyH_take (i := 13) (oi := ⟨some 83, _, _, _, _, _⟩) (v := .bool true) rfl (by kernel_rfl) (by kernel_rfl) (by kernel_rfl) (fun _ _ _ h => h) (Or.inl ⟨by rfl, fun w hSw => by go_simp⟩) (by assumption) ?_
    try simp only [Act.put, List.setIfInBounds_toArray, List.set_cons_zero, List.set_cons_succ]
    refine wpAnyH_take (i := 14) (oi := ⟨some 84, _, _, _, _, _⟩) (v := .bool false) rfl (by kernel_rfl) (by kernel_rfl) (by kernel_rfl) (fun _ _ _ h => h) (Or.inl ⟨by rfl, fun w hSw => by go_simp⟩) (by assumption) ?_
    try simp only [Act.put, List.setIfInBounds_toArray, List.set_cons_zero, List.set_cons_succ]
    refine wpAnyH_take (i := 15) (oi := ⟨some 85, _, _, _, _, _⟩) (v := .bool false) rfl (by kernel_rfl) (by kernel_rfl) (by kernel_rfl) (fun _ _ _ h => h) (Or.inl ⟨by rfl, fun w hSw => by go_simp⟩) (by assumption) ?_
    try simp only [Act.put, List.setIfInBounds_toArray, List.set_cons_zero, List.set_cons_succ]
    refine wpAnyH_take (i := 16) (oi := ⟨some 86, _, _, _, _, _⟩) (v := .bool false) rfl (by kernel_rfl) (by kernel_rfl) (by kernel_rfl) (fun _ _ _ h => h) (Or.inl ⟨by rfl, fun w hSw => by go_simp⟩) (by assumption) ?_
    try simp only [Act.put, List.setIfInBounds_toArray, List.set_cons_zero, List.set_cons_succ]
    refine wpAnyH_take (i := 17) (oi := ⟨some 87, _, _, _, _, _⟩) (v := .bool true) rfl (by kernel_rfl) (by kernel_rfl) (by kernel_rfl) (fun _ _ _ h => h) (Or.inl ⟨by rfl, fun w hSw => by go_simp⟩) (by assumption) ?_
    try simp only [Act.put, List.setIfInBounds_toArray, List.set_cons_zero, List.set_cons_succ]
    refine wpAnyH_take (i := 18) (oi := ⟨some 88, _, _, _, _, _⟩) (v := .bool false) rfl (by kernel_rfl) (by kernel_rfl) (by kernel_rfl) (fun _ _ _ h => h) (Or.inl ⟨by rfl, fun w hSw => by go_simp⟩) (by assumption) ?_
    try simp only [Act.put, List.setIfInBounds_toArray, List.set_cons_zero, List.set_cons_succ]
    refine wpAnyH_take (i := 19) (oi := ⟨some 89, _, _, _, _, _⟩) (v := .bool false) rfl (by kernel_rfl) (by kernel_rfl) (by kernel_rfl) (fun _ _ _ h => h) (Or.inl ⟨by rfl, fun w hSw => by go_simp⟩) (by assumption) ?_
    try simp only [Act.put, List.setIfInBounds_toArray, List.set_cons_zero, List.set_cons_succ]
    refine wpAnyH_take (i := 20) (oi := ⟨some 90, _, _, _, _, _⟩) (v := .bool false) rfl (by kernel_rfl) (by kernel_rfl) (by kernel_rfl) (fun _ _ _ h => h) (Or.inl ⟨by rfl, fun w hSw => by go_simp⟩) (by assumption) ?_
    try simp only [Act.put, List.setIfInBounds_toArray, List.set_cons_zero, List.set_cons_succ]
    refine wpAnyH_take (i := 21) (oi := ⟨some 91, _, _, _, _, _⟩) (v := .agg #[.int .i64 (n : Nat), .slice bx zs.length cx]) rfl (by kernel_rfl) (by kernel_rfl) (by kernel_rfl) (fun _ _ _ h => h) (Or.inl ⟨by rfl, fun w hSw => by obtain ⟨_, _, _, _, _, _, q1, q2, _⟩ := hSw; go_simp⟩) (by assumption) ?_
    try simp only [Act.put, List.setIfInBounds_toArray, List.set_cons_zero, List.set_cons_succ]
    refine wpAnyH_take (i := 22) (oi := ⟨some 92, _, _, _, _, _⟩) (v := .agg #[.int .i64 (n : Nat), .slice b zs.length c]) rfl (by kernel_rfl) (by kernel_rfl) (by kernel_rfl) (fun _ _ _ h => h) (Or.inl ⟨by rfl, fun w hSw => by obtain ⟨q1, q2, _⟩ := hSw; go_simp⟩) (by assumption) ?_
    try simp only [Act.put, List.setIfInBounds_toArray, List.set_cons_zero, List.set_cons_succ]
    refine wpAnyH_ready (rs := [23]) (by kernel_rfl) (by simp) ?_
    refine AllReadyH.cons rfl (fun K hKK => ?_) AllReadyH.nil
    go_simp
    go_at_call 15
    refine (rhythms_law n bx b cx c zs _ (HIx.out _ hbb1) (HIr.out _ hbb1) (by have := HLZ.out; omega)).mono ?_
    rintro e wk2 ⟨rfl, hc2⟩
    have hbb2 : Below (putR v12 n bw zs.length cy).heap.size (putR v12 n bw zs.length cy) wk2 := hbb1.trans (hc2.mono hbb1.size)
    clear hc2
    refine hKK.out _ _ (HK.out _ hbb2) (fun hSS2 => ?_)
    clear hKK K hbb1 hSS1
    try simp only [Act.put, List.setIfInBounds_toArray, List.set_cons_zero, List.set_cons_succ]
    refine wpAnyH_take (i := 24) (oi := ⟨some 94, _, _, _, _, _⟩) (v := .bool false) rfl (by kernel_rfl) (by kernel_rfl) (by kernel_rfl) (fun _ _ _ h => h) (Or.inl ⟨by rfl, fun w hSw => by go_simp⟩) (by assumption) ?_
    try simp only [Act.put, List.setIfInBounds_toArray, List.set_cons_zero, List.set_cons_succ]
    refine wpAnyH_take (i := 25) (oi := ⟨some 95, _, _, _, _, _⟩) (v := .bool false) rfl (by kernel_rfl) (by kernel_rfl) (by kernel_rfl) (fun _ _ _ h => h) (Or.inl ⟨by rfl, fun w hSw => by go_simp⟩) (by assumption) ?_
    try simp only [Act.put, List.setIfInBounds_toArray, List.set_cons_zero, List.set_cons_succ]
    refine wpAnyH_take (i := 26) (oi := ⟨some 96, _, _, _, _, _⟩) (v := .bool false) rfl (by kernel_rfl) (by kernel_rfl) (by kernel_rfl) (fun _ _ _ h => h) (Or.inl ⟨by rfl, fun w hSw => by go_simp⟩) (by assumption) ?_
    try simp only [Act.put, List.setIfInBounds_toArray, List.set_cons_zero, List.set_cons_succ]
    refine wpAnyH_take (i := 27) (oi := ⟨some 97, _, _, _, _, _⟩) (v := .bool true) rfl (by kernel_rfl) (by kernel_rfl) (by kernel_rfl) (fun _ _ _ h => h) (Or.inl ⟨by rfl, fun w hSw => by go_simp⟩) (by assumption) ?_
    try simp only [Act.put, List.setIfInBounds_toArray, List.set_cons_zero, List.set_cons_succ]
    refine wpAnyH_take (i := 28) (oi := ⟨some 98, _, _, _, _, _⟩) (v := .bool false) rfl (by kernel_rfl) (by kernel_rfl) (by kernel_rfl) (fun _ _ _ h => h) (Or.inl ⟨by rfl, fun w hSw => by go_simp⟩) (by assumption) ?_
    try simp only [Act.put, List.setIfInBounds_toArray, List.set_cons_zero, List.set_cons_succ]
    refine wpAnyH_take (i := 29) (oi := ⟨some 99, _, _, _, _, _⟩) (v := .bool false) rfl (by kernel_rfl) (by kernel_rfl) (by kernel_rfl) (fun _ _ _ h => h) (Or.inl ⟨by rfl, fun w hSw => by go_simp⟩) (by assumption) ?_
    try simp only [Act.put, List.setIfInBounds_toArray, List.set_cons_zero, List.set_cons_succ]
    refine wpAnyH_take (i := 30) (oi := ⟨some 100, _, _, _, _, _⟩) (v := .bool false) rfl (by kernel_rfl) (by kernel_rfl) (by kernel_rfl) (fun _ _ _ h => h) (Or.inl ⟨by rfl, fun w hSw => by go_simp⟩) (by assumption) ?_
    try simp only [Act.put, List.setIfInBounds_toArray, List.set_cons_zero, List.set_cons_succ]
    refine wpAnyH_take (i := 31) (oi := ⟨some 101, _, _, _, _, _⟩) (v := .bool true) rfl (by kernel_rfl) (by kernel_rfl) (by kernel_rfl) (fun _ _ _ h => h) (Or.inl ⟨by rfl, fun w hSw => by go_simp⟩) (by assumption) ?_
    try simp only [Act.put, List.setIfInBounds_toArray, List.set_cons_zero, List.set_cons_succ]
    refine wpAnyH_take (i := 32) (oi := ⟨some 102, _, _, _, _, _⟩) (v := .bool false) rfl (by kernel_rfl) (by kernel_rfl) (by kernel_rfl) (fun _ _ _ h => h) (Or.inl ⟨by rfl, fun w hSw => by go_simp⟩) (by assumption) ?_
    try simp only [Act.put, List.setIfInBounds_toArray, List.set_cons_zero, List.set_cons_succ]
    refine wpAnyH_take (i := 33) (oi := ⟨some 103, _, _, _, _, _⟩) (v := .bool false) rfl (by kernel_rfl) (by kernel_rfl) (by kernel_rfl) (fun _ _ _ h => h) (Or.inl ⟨by rfl, fun w hSw => by go_simp⟩) (by assumption) ?_
    try simp only [Act.put, List.setIfInBounds_toArray, List.set_cons_zero, List.set_cons_succ]
    refine wpAnyH_take (i := 34) (oi := ⟨some 104, _, _, _, _, _⟩) (v := .bool false) rfl (by kernel_rfl) (by kernel_rfl) (by kernel_rfl) (fun _ _ _ h => h) (Or.inl ⟨by rfl, fun w hSw => by go_simp⟩) (by assumption) ?_
    try simp only [Act.put, List.setIfInBounds_toArray, List.set_cons_zero, List.set_cons_succ]
    refine wpAnyH_take (i := 35) (oi := ⟨some 105, _, _, _, _, _⟩) (v := .agg #[.int .i64 (n : Nat), .slice bw zs.length cy]) rfl (by kernel_rfl) (by kernel_rfl) (by kernel_rfl) (fun _ _ _ h => h) (Or.inl ⟨by rfl, fun w hSw => by obtain ⟨_, _, _, _, _, _, _, _, _, _, q1, q2, _⟩ := hSw; go_simp⟩) (by assumption) ?_
    try simp only [Act.put, List.setIfInBounds_toArray, List.set_cons_zero, List.set_cons_succ]
    refine wpAnyH_take (i := 36) (oi := ⟨some 106, _, _, _, _, _⟩) (v := .agg #[.int .i64 (n : Nat), .slice b zs.length c]) rfl (by kernel_rfl) (by kernel_rfl) (by kernel_rfl) (fun _ _ _ h => h) (Or.inl ⟨by rfl, fun w hSw => by obtain ⟨q1, q2, _⟩ := hSw; go_simp⟩) (by assumption) ?_
    try simp only [Act.put, List.setIfInBounds_toArray, List.set_cons_zero, List.set_cons_succ]
    refine wpAnyH_ready (rs := [37]) (by kernel_rfl) (by simp) ?_
    refine AllReadyH.cons rfl (fun K hKK => ?_) AllReadyH.nil
    go_simp
    go_at_call 15
    refine (rhythms_law n bw b cy c zs _ (HIy.out _ hbb2) (HIr.out _ hbb2) (by have := HLZ.out; omega)).mono ?_
    rintro e wk3 ⟨rfl, hc3⟩
    have hbb3 : Below (putR v12 n bw zs.length cy).heap.size (putR v12 n bw zs.length cy) wk3 := hbb2.trans (hc3.mono hbb2.size)
    clear hc3
    refine hKK.out _ _ (HK.out _ hbb3) (fun hSS3 => ?_)
    clear hKK K hbb2 hSS2
    try simp only [Act.put, List.setIfInBounds_toArray, List.set_cons_zero, List.set_cons_succ]
    refine wpAnyH_take (i := 38) (oi := ⟨some 108, _, _, _, _, _⟩) (v := .bool false) rfl (by kernel_rfl) (by kernel_rfl) (by kernel_rfl) (fun _ _ _ h => h) (Or.inl ⟨by rfl, fun w hSw => by go_simp⟩) (by assumption) ?_
    try simp only [Act.put, List.setIfInBounds_toArray, List.set_cons_zero, List.set_cons_succ]
    refine wpAnyH_take (i := 39) (oi := ⟨some 109, _, _, _, _, _⟩) (v := .bool false) rfl (by kernel_rfl) (by kernel_rfl) (by kernel_rfl) (fun _ _ _ h => h) (Or.inl ⟨by rfl, fun w hSw => by go_simp⟩) (by assumption) ?_
    try simp only [Act.put, List.setIfInBounds_toArray, List.set_cons_zero, List.set_cons_succ]
    refine wpAnyH_take (i := 40) (oi := ⟨some 110, _, _, _, _, _⟩) (v := .bool false) rfl (by kernel_rfl) (by kernel_rfl) (by kernel_rfl) (fun _ _ _ h => h) (Or.inl ⟨by rfl, fun w hSw => by go_simp⟩) (by assumption) ?_
    try simp only [Act.put, List.setIfInBounds_toArray, List.set_cons_zero, List.set_cons_succ]
    refine wpAnyH_take (i := 41) (oi := ⟨some 111, _, _, _, _, _⟩) (v := .agg #[.int .i64 (n : Nat), .slice ba la.length ca]) rfl (by kernel_rfl) (by kernel_rfl) (by kernel_rfl) (fun _ _ _ h => h) (Or.inl ⟨by rfl, fun w hSw => by obtain ⟨_, _, q1, q2, _⟩ := hSw; go_simp⟩) (by assumption) ?_
    try simp only [Act.put, List.setIfInBounds_toArray, List.set_cons_zero, List.set_cons_succ]
    refine wpAnyH_take (i := 43) (oi := ⟨some 113, _, _, _, _, _⟩) (v := .pointer (some ⟨w1.heap.size, 1, none⟩)) rfl (by kernel_rfl) (by kernel_rfl) (by kernel_rfl) (fun _ _ _ h => h) (Or.inl ⟨by rfl, fun w hSw => by go_simp⟩) (by assumption) ?_
    try simp only [Act.put, List.setIfInBounds_toArray, List.set_cons_zero, List.set_cons_succ]
    refine wpAnyH_take (i := 44) (oi := ⟨some 114, _, _, _, _, _⟩) (v := .slice b zs.length c) rfl (by kernel_rfl) (by kernel_rfl) (by kernel_rfl) (fun _ _ _ h => h) (Or.inl ⟨by rfl, fun w hSw => by obtain ⟨q1, q2, _⟩ := hSw; go_simp⟩) (by assumption) ?_
    try simp only [Act.put, List.setIfInBounds_toArray, List.set_cons_zero, List.set_cons_succ]
    refine wpAnyH_take (i := 45) (oi := ⟨some 115, _, _, _, _, _⟩) (v := .int .i64 (zs.length : Nat)) rfl (by kernel_rfl) (by kernel_rfl) (by kernel_rfl) (fun _ _ _ h => h) (Or.inl ⟨by rfl, fun w hSw => by go_simp⟩) (by assumption) ?_
    try simp only [Act.put, List.setIfInBounds_toArray, List.set_cons_zero, List.set_cons_succ]
    refine wpAnyH_ready (rs := [42]) (by kernel_rfl) (by simp) ?_
    refine AllReadyH.cons rfl (fun K hKK => ?_) AllReadyH.nil
    go_simp
    go_at_call 16
    refine (r_cnt n ba ca la (zs.length : Nat) _ (HIa.out _ hbb3) HOa.out HNA.out).mono ?_
    rintro e wk4 ⟨rfl, hc4⟩
    have hbb4 : Below (putR v12 n bw zs.length cy).heap.size (putR v12 n bw zs.length cy) wk4 := hbb3.trans (hc4.mono hbb3.size)
    clear hc4
    refine hKK.out _ _ (HK.out _ hbb4) (fun hSS4 => ?_)
    clear hKK K hbb3 hSS3
    try simp only [Act.put, List.setIfInBounds_toArray, List.set_cons_zero, List.set_cons_succ]
    refine wpAnyH_take (i := 46) (oi := ⟨some 116, _, _, _, _, _⟩) (v := .bool false) rfl (by kernel_rfl) (by kernel_rfl) (by kernel_rfl) (fun _ _ _ h => h) (Or.inl ⟨by rfl, fun w hSw => by go_simp⟩) (by assumption) ?_
    try simp only [Act.put, List.setIfInBounds_toArray, List.set_cons_zero, List.set_cons_succ]
    refine wpAnyH_take (i := 47) (oi := ⟨some 117, _, _, _, _, _⟩) (v := .bool false) rfl (by kernel_rfl) (by kernel_rfl) (by kernel_rfl) (fun _ _ _ h => h) (Or.inl ⟨by rfl, fun w hSw => by go_simp⟩) (by assumption) ?_
    try simp only [Act.put, List.setIfInBounds_toArray, List.set_cons_zero, List.set_cons_succ]
    refine wpAnyH_take (i := 48) (oi := ⟨some 118, _, _, _, _, _⟩) (v := .bool false) rfl (by kernel_rfl) (by kernel_rfl) (by kernel_rfl) (fun _ _ _ h => h) (Or.inl ⟨by rfl, fun w hSw => by go_simp⟩) (by assumption) ?_
    try simp only [Act.put, List.setIfInBounds_toArray, List.set_cons_zero, List.set_cons_succ]
    refine wpAnyH_take (i := 49) (oi := ⟨some 119, _, _, _, _, _⟩) (v := .agg #[.int .i64 (n : Nat), .slice bo lo.length co]) rfl (by kernel_rfl) (by kernel_rfl) (by kernel_rfl) (fun _ _ _ h => h) (Or.inl ⟨by rfl, fun w hSw => by obtain ⟨_, _, _, _, _, _, _, _, q1, q2, _⟩ := hSw; go_simp⟩) (by assumption) ?_
    try simp only [Act.put, List.setIfInBounds_toArray, List.set_cons_zero, List.set_cons_succ]
    refine wpAnyH_take (i := 51) (oi := ⟨some 121, _, _, _, _, _⟩) (v := .pointer (some ⟨w1.heap.size, 1, none⟩)) rfl (by kernel_rfl) (by kernel_rfl) (by kernel_rfl) (fun _ _ _ h => h) (Or.inl ⟨by rfl, fun w hSw => by go_simp⟩) (by assumption) ?_
    try simp only [Act.put, List.setIfInBounds_toArray, List.set_cons_zero, List.set_cons_succ]
    refine wpAnyH_take (i := 52) (oi := ⟨some 122, _, _, _, _, _⟩) (v := .slice b zs.length c) rfl (by kernel_rfl) (by kernel_rfl) (by kernel_rfl) (fun _ _ _ h => h) (Or.inl ⟨by rfl, fun w hSw => by obtain ⟨q1, q2, _⟩ := hSw; go_simp⟩) (by assumption) ?_
    try simp only [Act.put, List.setIfInBounds_toArray, List.set_cons_zero, List.set_cons_succ]
    refine wpAnyH_take (i := 53) (oi := ⟨some 123, _, _, _, _, _⟩) (v := .int .i64 (zs.length : Nat)) rfl (by kernel_rfl) (by kernel_rfl) (by kernel_rfl) (fun _ _ _ h => h) (Or.inl ⟨by rfl, fun w hSw => by go_simp⟩) (by assumption) ?_
    try simp only [Act.put, List.setIfInBounds_toArray, List.set_cons_zero, List.set_cons_succ]
    refine wpAnyH_take (i := 55) (oi := ⟨some 125, _, _, _, _, _⟩) (v := .int .i64 n) rfl (by kernel_rfl) (by kernel_rfl) (by kernel_rfl) (fun _ _ _ h => h) (Or.inl ⟨by rfl, fun w hSw => by go_simp⟩) (by assumption) ?_
    try simp only [Act.put, List.setIfInBounds_toArray, List.set_cons_zero, List.set_cons_succ]
    refine wpAnyH_ready (rs := [50]) (by kernel_rfl) (by simp) ?_
    refine AllReadyH.cons rfl (fun K hKK => ?_) AllReadyH.nil
    go_simp
    go_at_call 16
    refine (r_cnt n bo co lo (lo.length : Nat) _ (HIo.out _ hbb4) HOo.out rfl).mono ?_
    rintro e wk5 ⟨rfl, hc5⟩
    have hbb5 : Below (putR v12 n bw zs.length cy).heap.size (putR v12 n bw zs.length cy) wk5 := hbb4.trans (hc5.mono hbb4.size)
    clear hc5
    refine hKK.out _ _ (HK.out _ hbb5) (fun hSS5 => ?_)
    clear hKK K hbb4 hSS4
    try simp only [Act.put, List.setIfInBounds_toArray, List.set_cons_zero, List.set_cons_succ]
    refine wpAnyH_take (i := 54) (oi := ⟨some 124, _, _, _, _, _⟩) (v := .int .i64 n) rfl (by kernel_rfl) (by kernel_rfl) (by kernel_rfl) (fun _ _ _ h => h) (Or.inl ⟨by rfl, fun w hSw => by have h9 := HNO.out; go_simp; exact (IntWalk.i64_in _ ⟨by omega, by omega⟩).trans (by omega)⟩) (by assumption) ?_
    try simp only [Act.put, List.setIfInBounds_toArray, List.set_cons_zero, List.set_cons_succ]
    refine wpAnyH_take (i := 56) (oi := ⟨some 126, _, _, _, _, _⟩) (v := .bool false) rfl (by kernel_rfl) (by kernel_rfl) (by kernel_rfl) (fun _ _ _ h => h) (Or.inl ⟨by rfl, fun w hSw => by go_simp⟩) (by assumption) ?_
    try simp only [Act.put, List.setIfInBounds_toArray, List.set_cons_zero, List.set_cons_succ]
    refine wpAnyH_take (i := 57) (oi := ⟨some 127, _, _, _, _, _⟩) (v := .bool false) rfl (by kernel_rfl) (by kernel_rfl) (by kernel_rfl) (fun _ _ _ h => h) (Or.inl ⟨by rfl, fun w hSw => by go_simp⟩) (by assumption) ?_
    try simp only [Act.put, List.setIfInBounds_toArray, List.set_cons_zero, List.set_cons_succ]
    refine wpAnyH_done (by kernel_rfl) ?_ _
    clear HK
    clear HIr HIa HIb HIx HIo HIy hSS5 hsum
    have hb := hbb5
    clear hbb5
    have HXr14 := Lib.hid (HXr13.out.keep hb)
    clear HXr13
    have HXa14 := Lib.hid (HXa13.out.keep hb)
    clear HXa13
    have HXb14 := Lib.hid (HXb13.out.keep hb)
    clear HXb13
    have HXm14 := Lib.hid (HXm13.out.keep hb)
    clear HXm13
    have HXx14 := Lib.hid (HXx13.out.keep hb)
    clear HXx13
    have HXo14 := Lib.hid (HXo13.out.keep hb)
    clear HXo13
    have HXy14 := Lib.hid (HXy13.out.keep hb)
    clear HXy13
    have HB14x := Lib.hid (show Below w.heap.size w wk5 from HB13x.out.trans (hb.mono HB13x.out.size))
    clear HB13x hb
    clear HXb14
    clear HXx14
    clear HXy14
    have HLB : Hid (Below w.heap.size w wk5 ∧ RhAt wk5 w1.heap.size n b c zs ∧ RhAt wk5 v2.heap.size n ba ca la ∧ RhAt wk5 v6.heap.size n bm cm lm ∧ RhAt wk5 v10.heap.size n bo co lo) := Lib.hid ⟨HB14x.out, HXr14.out, HXa14.out, HXm14.out, HXo14.out⟩
    clear HB14x HXr14 HXa14 HXm14 HXo14
    go_wp2
    go_loopw [18] (fun i wr => ∃ p : Nat, p ≤ n ∧ i = .int .i64 p ∧ Below w.heap.size w wr ∧ RhAt wr w1.heap.size n b c zs ∧ RhAt wr v2.heap.size n ba ca la ∧ RhAt wr v6.heap.size n bm cm lm ∧ RhAt wr v10.heap.size n bo co lo) (fun i _ => n - (intOf i).toNat)
    case atStart => exact ⟨0, by omega, rfl, HLB.out⟩
    case round =>
      clear HLB
      obtain ⟨p, hp, rfl, hbl, hxr, hxa, hxm, hxo⟩ := hrel
      have HXrL := Lib.hid hxr
      have HXaL := Lib.hid hxa
      have HXmL := Lib.hid hxm
      have HXoL := Lib.hid hxo
      have HBL := Lib.hid hbl
      clear hbl hxr hxa hxm hxo
      by_cases hlt : p < n
      · have hltb : decide ((p : Int) < (n : Int)) = true := by simp; omega
        obtain ⟨x, hx⟩ : ∃ x, hasB zs (remB p n) = x := ⟨_, rfl⟩
        have HX := Lib.hid hx
        have HXa : Hid (hasB la (remB ((p : Int) + k) n) = x) := Lib.hid (by rw [← hx, ← HEla.out]; exact has_rot HO.out p k)
        have HXm : Hid (hasB lm (remB (-(p : Int)) n) = x) := Lib.hid (by rw [← hx, ← HElm.out]; exact has_mir HO.out p)
        have HXo : Hid (hasB lo (remB p n) = !x) := Lib.hid (by rw [← hx, ← HElo.out]; exact has_other HO.out p)
        clear hx
        have hpk : wrap64 ((p : Int) + k) = (p : Int) + k := by unfold wrap64; omega
        have hpn : wrap64 (-(p : Int)) = -(p : Int) := by unfold wrap64; omega
        go_upto_region 17 with fail
        have HK : Hid (∀ W' : World, Below wr.heap.size wr W' → W'.cell? ⟨w1.heap.size, 0, none⟩ = some (.int .i64 (n : Nat)) ∧ W'.cell? ⟨w1.heap.size, 1, none⟩ = some (.slice b zs.length c) ∧ W'.cell? ⟨v2.heap.size, 0, none⟩ = some (.int .i64 (n : Nat)) ∧ W'.cell? ⟨v2.heap.size, 1, none⟩ = some (.slice ba la.length ca) ∧ W'.cell? ⟨v6.heap.size, 0, none⟩ = some (.int .i64 (n : Nat)) ∧ W'.cell? ⟨v6.heap.size, 1, none⟩ = some (.slice bm lm.length cm) ∧ W'.cell? ⟨v10.heap.size, 0, none⟩ = some (.int .i64 (n : Nat)) ∧ W'.cell? ⟨v10.heap.size, 1, none⟩ = some (.slice bo lo.length co) ∧ Below wr.heap.size wr W') :=
          Lib.hid (fun W' hW => ⟨(HXrL.out.keep hW).1.facts.1, (HXrL.out.keep hW).1.facts.2.1, (HXaL.out.keep hW).1.facts.1, (HXaL.out.keep hW).1.facts.2.1, (HXmL.out.keep hW).1.facts.1, (HXmL.out.keep hW).1.facts.2.1, (HXoL.out.keep hW).1.facts.1, (HXoL.out.keep hW).1.facts.2.1, hW⟩)
        have HIr : Hid (∀ W' : World, Below wr.heap.size wr W' → IntsAt W' b zs.length zs) := Lib.hid (fun W' hW => (HXrL.out.keep hW).2)
        have HIa : Hid (∀ W' : World, Below wr.heap.size wr W' → IntsAt W' ba la.length la) := Lib.hid (fun W' hW => (HXaL.out.keep hW).2)
        have HIm : Hid (∀ W' : World, Below wr.heap.size wr W' → IntsAt W' bm lm.length lm) := Lib.hid (fun W' hW => (HXmL.out.keep hW).2)
        have HIo : Hid (∀ W' : World, Below wr.heap.size wr W' → IntsAt W' bo lo.length lo) := Lib.hid (fun W' hW => (HXoL.out.keep hW).2)
        refine wp_region_held_drew (S := fun W' => W'.cell? ⟨w1.heap.size, 0, none⟩ = some (.int .i64 (n : Nat)) ∧ W'.cell? ⟨w1.heap.size, 1, none⟩ = some (.slice b zs.length c) ∧ W'.cell? ⟨v2.heap.size, 0, none⟩ = some (.int .i64 (n : Nat)) ∧ W'.cell? ⟨v2.heap.size, 1, none⟩ = some (.slice ba la.length ca) ∧ W'.cell? ⟨v6.heap.size, 0, none⟩ = some (.int .i64 (n : Nat)) ∧ W'.cell? ⟨v6.heap.size, 1, none⟩ = some (.slice bm lm.length cm) ∧ W'.cell? ⟨v10.heap.size, 0, none⟩ = some (.int .i64 (n : Nat)) ∧ W'.cell? ⟨v10.heap.size, 1, none⟩ = some (.slice bo lo.length co) ∧ Below wr.heap.size wr W') (by kernel_rfl) (HK.out _ (Below.refl _ _).drew) (fun hSS0 => ?_)
        refine wpAnyH_take (i := 0) (oi := ⟨some 133, _, _, _, _, _⟩) (v := .agg #[.int .i64 (n : Nat), .slice b zs.length c]) rfl (by kernel_rfl) (by kernel_rfl) (by kernel_rfl) (fun _ _ _ h => h) (Or.inl ⟨by rfl, fun w hSw => by obtain ⟨q1, q2, _⟩ := hSw; go_simp⟩) (by assumption) ?_
        try simp only [Act.put, List.setIfInBounds_toArray, List.set_cons_zero, List.set_cons_succ]
        refine wpAnyH_take (i := 1) (oi := ⟨some 134, _, _, _, _, _⟩) (v := .int .i64 p) rfl (by kernel_rfl) (by kernel_rfl) (by kernel_rfl) (fun _ _ _ h => h) (Or.inl ⟨by rfl, fun w hSw => by go_simp⟩) (by assumption) ?_
        try simp only [Act.put, List.setIfInBounds_toArray, List.set_cons_zero, List.set_cons_succ]
        refine wpAnyH_take (i := 3) (oi := ⟨some 136, _, _, _, _, _⟩) (v := .agg #[.int .i64 (n : Nat), .slice ba la.length ca]) rfl (by kernel_rfl) (by kernel_rfl) (by kernel_rfl) (fun _ _ _ h => h) (Or.inl ⟨by rfl, fun w hSw => by obtain ⟨_, _, q1, q2, _⟩ := hSw; go_simp⟩) (by assumption) ?_
        try simp only [Act.put, List.setIfInBounds_toArray, List.set_cons_zero, List.set_cons_succ]
        refine wpAnyH_take (i := 4) (oi := ⟨some 137, _, _, _, _, _⟩) (v := .int .i64 p) rfl (by kernel_rfl) (by kernel_rfl) (by kernel_rfl) (fun _ _ _ h => h) (Or.inl ⟨by rfl, fun w hSw => by go_simp⟩) (by assumption) ?_
        try simp only [Act.put, List.setIfInBounds_toArray, List.set_cons_zero, List.set_cons_succ]
        refine wpAnyH_take (i := 5) (oi := ⟨some 138, _, _, _, _, _⟩) (v := .int .i64 k) rfl (by kernel_rfl) (by kernel_rfl) (by kernel_rfl) (fun _ _ _ h => h) (Or.inl ⟨by rfl, fun w hSw => by go_simp⟩) (by assumption) ?_
        try simp only [Act.put, List.setIfInBounds_toArray, List.set_cons_zero, List.set_cons_succ]
        refine wpAnyH_take (i := 6) (oi := ⟨some 139, _, _, _, _, _⟩) (v := .int .i64 ((p : Int) + k)) rfl (by kernel_rfl) (by kernel_rfl) (by kernel_rfl) (fun _ _ _ h => h) (Or.inl ⟨by rfl, fun w hSw => by go_simp; exact (IntWalk.i64_in _ ⟨by omega, by omega⟩).trans (by omega)⟩) (by assumption) ?_
        try simp only [Act.put, List.setIfInBounds_toArray, List.set_cons_zero, List.set_cons_succ]
        refine wpAnyH_ready (rs := [2]) (by kernel_rfl) (by simp) ?_
        refine AllReadyH.cons rfl (fun K hKK => ?_) AllReadyH.nil
        go_simp
        go_at_call 17
        refine (r_has n b c zs (p : Int) x _ (HIr.out _ (Below.refl _ _).drew) HO.out (by omega) (by omega) HX.out).mono ?_
        rintro e wk1 ⟨rfl, hc1⟩
        have hbb1 : Below wr.heap.size wr wk1 := (Below.refl _ _).drew.trans hc1
        clear hc1
        refine hKK.out _ _ (HK.out _ hbb1) (fun hSS1 => ?_)
        clear hKK K hSS0
        try simp only [Act.put, List.setIfInBounds_toArray, List.set_cons_zero, List.set_cons_succ]
        refine wpAnyH_ready (rs := [7]) (by kernel_rfl) (by simp) ?_
        refine AllReadyH.cons rfl (fun K hKK => ?_) AllReadyH.nil
        go_simp
        go_at_call 17
        refine (r_has n ba ca la ((p : Int) + k) x _ (HIa.out _ hbb1) HOa.out (by omega) (by omega) HXa.out).mono ?_
        rintro e wk2 ⟨rfl, hc2⟩
        have hbb2 : Below wr.heap.size wr wk2 := hbb1.trans (hc2.mono hbb1.size)
        clear hc2
        refine hKK.out _ _ (HK.out _ hbb2) (fun hSS2 => ?_)
        clear hKK K hbb1 hSS1
        try simp only [Act.put, List.setIfInBounds_toArray, List.set_cons_zero, List.set_cons_succ]
        refine wpAnyH_take (i := 8) (oi := ⟨some 141, _, _, _, _, _⟩) (v := .bool false) rfl (by kernel_rfl) (by kernel_rfl) (by kernel_rfl) (fun _ _ _ h => h) (Or.inl ⟨by rfl, fun w hSw => by go_simp⟩) (by assumption) ?_
        try simp only [Act.put, List.setIfInBounds_toArray, List.set_cons_zero, List.set_cons_succ]
        refine wpAnyH_take (i := 9) (oi := ⟨some 142, _, _, _, _, _⟩) (v := .bool false) rfl (by kernel_rfl) (by kernel_rfl) (by kernel_rfl) (fun _ _ _ h => h) (Or.inl ⟨by rfl, fun w hSw => by go_simp⟩) (by assumption) ?_
        try simp only [Act.put, List.setIfInBounds_toArray, List.set_cons_zero, List.set_cons_succ]
        refine wpAnyH_take (i := 10) (oi := ⟨some 143, _, _, _, _, _⟩) (v := .agg #[.int .i64 (n : Nat), .slice b zs.length c]) rfl (by kernel_rfl) (by kernel_rfl) (by kernel_rfl) (fun _ _ _ h => h) (Or.inl ⟨by rfl, fun w hSw => by obtain ⟨q1, q2, _⟩ := hSw; go_simp⟩) (by assumption) ?_
        try simp only [Act.put, List.setIfInBounds_toArray, List.set_cons_zero, List.set_cons_succ]
        refine wpAnyH_take (i := 11) (oi := ⟨some 144, _, _, _, _, _⟩) (v := .int .i64 p) rfl (by kernel_rfl) (by kernel_rfl) (by kernel_rfl) (fun _ _ _ h => h) (Or.inl ⟨by rfl, fun w hSw => by go_simp⟩) (by assumption) ?_
        try simp only [Act.put, List.setIfInBounds_toArray, List.set_cons_zero, List.set_cons_succ]
        refine wpAnyH_take (i := 13) (oi := ⟨some 146, _, _, _, _, _⟩) (v := .agg #[.int .i64 (n : Nat), .slice bm lm.length cm]) rfl (by kernel_rfl) (by kernel_rfl) (by kernel_rfl) (fun _ _ _ h => h) (Or.inl ⟨by rfl, fun w hSw => by obtain ⟨_, _, _, _, q1, q2, _⟩ := hSw; go_simp⟩) (by assumption) ?_
        try simp only [Act.put, List.setIfInBounds_toArray, List.set_cons_zero, List.set_cons_succ]
        refine wpAnyH_take (i := 14) (oi := ⟨some 147, _, _, _, _, _⟩) (v := .int .i64 p) rfl (by kernel_rfl) (by kernel_rfl) (by kernel_rfl) (fun _ _ _ h => h) (Or.inl ⟨by rfl, fun w hSw => by go_simp⟩) (by assumption) ?_
        try simp only [Act.put, List.setIfInBounds_toArray, List.set_cons_zero, List.set_cons_succ]
        refine wpAnyH_take (i := 15) (oi := ⟨some 148, _, _, _, _, _⟩) (v := .int .i64 (-(p : Int))) rfl (by kernel_rfl) (by kernel_rfl) (by kernel_rfl) (fun _ _ _ h => h) (Or.inl ⟨by rfl, fun w hSw => by go_simp; exact (IntWalk.i64_in _ ⟨by omega, by omega⟩).trans (by omega)⟩) (by assumption) ?_
        try simp only [Act.put, List.setIfInBounds_toArray, List.set_cons_zero, List.set_cons_succ]
        refine wpAnyH_ready (rs := [12]) (by kernel_rfl) (by simp) ?_
        refine AllReadyH.cons rfl (fun K hKK => ?_) AllReadyH.nil
        go_simp
        go_at_call 17
        refine (r_has n b c zs (p : Int) x _ (HIr.out _ hbb2) HO.out (by omega) (by omega) HX.out).mono ?_
        rintro e wk3 ⟨rfl, hc3⟩
        have hbb3 : Below wr.heap.size wr wk3 := hbb2.trans (hc3.mono hbb2.size)
        clear hc3
        refine hKK.out _ _ (HK.out _ hbb3) (fun hSS3 => ?_)
        clear hKK K hbb2 hSS2
        try simp only [Act.put, List.setIfInBounds_toArray, List.set_cons_zero, List.set_cons_succ]
        refine wpAnyH_ready (rs := [16]) (by kernel_rfl) (by simp) ?_
        refine AllReadyH.cons rfl (fun K hKK => ?_) AllReadyH.nil
        go_simp
        go_at_call 17
        refine (r_has n bm cm lm (-(p : Int)) x _ (HIm.out _ hbb3) HOm.out (by omega) (by omega) HXm.out).mono ?_
        rintro e wk4 ⟨rfl, hc4⟩
        have hbb4 : Below wr.heap.size wr wk4 := hbb3.trans (hc4.mono hbb3.size)
        clear hc4
        refine hKK.out _ _ (HK.out _ hbb4) (fun hSS4 => ?_)
        clear hKK K hbb3 hSS3
        try simp only [Act.put, List.setIfInBounds_toArray, List.set_cons_zero, List.set_cons_succ]
        refine wpAnyH_take (i := 17) (oi := ⟨some 150, _, _, _, _, _⟩) (v := .bool false) rfl (by kernel_rfl) (by kernel_rfl) (by kernel_rfl) (fun _ _ _ h => h) (Or.inl ⟨by rfl, fun w hSw => by go_simp⟩) (by assumption) ?_
        try simp only [Act.put, List.setIfInBounds_toArray, List.set_cons_zero, List.set_cons_succ]
        refine wpAnyH_take (i := 18) (oi := ⟨some 151, _, _, _, _, _⟩) (v := .bool false) rfl (by kernel_rfl) (by kernel_rfl) (by kernel_rfl) (fun _ _ _ h => h) (Or.inl ⟨by rfl, fun w hSw => by go_simp⟩) (by assumption) ?_
        try simp only [Act.put, List.setIfInBounds_toArray, List.set_cons_zero, List.set_cons_succ]
        refine wpAnyH_take (i := 19) (oi := ⟨some 152, _, _, _, _, _⟩) (v := .bool false) rfl (by kernel_rfl) (by kernel_rfl) (by kernel_rfl) (fun _ _ _ h => h) (Or.inl ⟨by rfl, fun w hSw => by go_simp⟩) (by assumption) ?_
        try simp only [Act.put, List.setIfInBounds_toArray, List.set_cons_zero, List.set_cons_succ]
        refine wpAnyH_take (i := 20) (oi := ⟨some 153, _, _, _, _, _⟩) (v := .agg #[.int .i64 (n : Nat), .slice b zs.length c]) rfl (by kernel_rfl) (by kernel_rfl) (by kernel_rfl) (fun _ _ _ h => h) (Or.inl ⟨by rfl, fun w hSw => by obtain ⟨q1, q2, _⟩ := hSw; go_simp⟩) (by assumption) ?_
        try simp only [Act.put, List.setIfInBounds_toArray, List.set_cons_zero, List.set_cons_succ]
        refine wpAnyH_take (i := 21) (oi := ⟨some 154, _, _, _, _, _⟩) (v := .int .i64 p) rfl (by kernel_rfl) (by kernel_rfl) (by kernel_rfl) (fun _ _ _ h => h) (Or.inl ⟨by rfl, fun w hSw => by go_simp⟩) (by assumption) ?_
        try simp only [Act.put, List.setIfInBounds_toArray, List.set_cons_zero, List.set_cons_succ]
        refine wpAnyH_take (i := 23) (oi := ⟨some 156, _, _, _, _, _⟩) (v := .agg #[.int .i64 (n : Nat), .slice bo lo.length co]) rfl (by kernel_rfl) (by kernel_rfl) (by kernel_rfl) (fun _ _ _ h => h) (Or.inl ⟨by rfl, fun w hSw => by obtain ⟨_, _, _, _, _, _, q1, q2, _⟩ := hSw; go_simp⟩) (by assumption) ?_
        try simp only [Act.put, List.setIfInBounds_toArray, List.set_cons_zero, List.set_cons_succ]
        refine wpAnyH_take (i := 24) (oi := ⟨some 157, _, _, _, _, _⟩) (v := .int .i64 p) rfl (by kernel_rfl) (by kernel_rfl) (by kernel_rfl) (fun _ _ _ h => h) (Or.inl ⟨by rfl, fun w hSw => by go_simp⟩) (by assumption) ?_
        try simp only [Act.put, List.setIfInBounds_toArray, List.set_cons_zero, List.set_cons_succ]
        refine wpAnyH_ready (rs := [22]) (by kernel_rfl) (by simp) ?_
        refine AllReadyH.cons rfl (fun K hKK => ?_) AllReadyH.nil
        go_simp
        go_at_call 17
        refine (r_has n b c zs (p : Int) x _ (HIr.out _ hbb4) HO.out (by omega) (by omega) HX.out).mono ?_
        rintro e wk5 ⟨rfl, hc5⟩
        have hbb5 : Below wr.heap.size wr wk5 := hbb4.trans (hc5.mono hbb4.size)
        clear hc5
        refine hKK.out _ _ (HK.out _ hbb5) (fun hSS5 => ?_)
        clear hKK K hbb4 hSS4
        try simp only [Act.put, List.setIfInBounds_toArray, List.set_cons_zero, List.set_cons_succ]
        refine wpAnyH_ready (rs := [25]) (by kernel_rfl) (by simp) ?_
        refine AllReadyH.cons rfl (fun K hKK => ?_) AllReadyH.nil
        go_simp
        go_at_call 17
        refine (r_has n bo co lo (p : Int) (!x) _ (HIo.out _ hbb5) HOo.out (by omega) (by omega) HXo.out).mono ?_
        rintro e wk6 ⟨rfl, hc6⟩
        have hbb6 : Below wr.heap.size wr wk6 := hbb5.trans (hc6.mono hbb5.size)
        clear hc6
        refine hKK.out _ _ (HK.out _ hbb6) (fun hSS6 => ?_)
        clear hKK K hbb5 hSS5
        try simp only [Act.put, List.setIfInBounds_toArray, List.set_cons_zero, List.set_cons_succ]
        refine wpAnyH_take (i := 26) (oi := ⟨some 159, _, _, _, _, _⟩) (v := .bool false) rfl (by kernel_rfl) (by kernel_rfl) (by kernel_rfl) (fun _ _ _ h => h) (Or.inl ⟨by rfl, fun w hSw => by first | (go_simp; done) | (go_simp; cases x <;> rfl) | (cases x <;> go_simp)⟩) (by assumption) ?_
        try simp only [Act.put, List.setIfInBounds_toArray, List.set_cons_zero, List.set_cons_succ]
        refine wpAnyH_take (i := 27) (oi := ⟨some 160, _, _, _, _, _⟩) (v := .bool false) rfl (by kernel_rfl) (by kernel_rfl) (by kernel_rfl) (fun _ _ _ h => h) (Or.inl ⟨by rfl, fun w hSw => by go_simp⟩) (by assumption) ?_
        try simp only [Act.put, List.setIfInBounds_toArray, List.set_cons_zero, List.set_cons_succ]
        refine wpAnyH_done (by kernel_rfl) ?_ _
        clear HK
        clear HIr HIa HIm HIo hSS6 hpk hpn
        have hb := hbb6
        clear hbb6
        have HXr15 := Lib.hid (HXrL.out.keep hb)
        clear HXrL
        have HXa15 := Lib.hid (HXaL.out.keep hb)
        clear HXaL
        have HXm15 := Lib.hid (HXmL.out.keep hb)
        clear HXmL
        have HXo15 := Lib.hid (HXoL.out.keep hb)
        clear HXoL
        have HB15x := Lib.hid (show Below w.heap.size w wk6 from HBL.out.trans (hb.mono HBL.out.size))
        clear HBL hb
        go_wp2
        go_roundw
        case rel => exact ⟨p + 1, by omega, by go_num, HB15x.out, HXr15.out, HXa15.out, HXm15.out, HXo15.out⟩
        case measure => simp [intOf]; omega
      · have hltb : decide ((p : Int) < (n : Int)) = false := by simp; omega
        obtain ⟨pr0, pr1, pr2, pr3⟩ := HXrL.out.1.facts
        have ltr := HXrL.out.1.lt
        obtain ⟨po0, po1, po2, po3⟩ := HXoL.out.1.facts
        have lto := HXoL.out.1.lt
        go_wp2_with fail
        refine (r_join n b c zs bo co lo ll wr HXrL.out.2 HXoL.out.2 HO.out HOo.out HLL.out).mono ?_
        rintro e v115 ⟨bl, cl, rfl, hown, hb⟩
        clear pr0 pr1 pr2 pr3 ltr po0 po1 po2 po3 lto
        have HXr115 := Lib.hid (HXrL.out.keep hb)
        clear HXrL
        have HXa115 := Lib.hid (HXaL.out.keep hb)
        clear HXaL
        have HXm115 := Lib.hid (HXmL.out.keep hb)
        clear HXmL
        have HXo115 := Lib.hid (HXoL.out.keep hb)
        clear HXoL
        have HB115x := Lib.hid (show Below w.heap.size w v115 from HBL.out.trans (hb.mono HBL.out.size))
        clear HBL hb
        have HXn := Lib.hid (rhAt_put (n := n) hown (ok_allInt HOl.out))
        clear hown
        have hb := putR_below v115 n bl ll.length cl
        have HXr116 := Lib.hid (HXr115.out.keep hb)
        clear HXr115
        have HXa116 := Lib.hid (HXa115.out.keep hb)
        clear HXa115
        have HXm116 := Lib.hid (HXm115.out.keep hb)
        clear HXm115
        have HXo116 := Lib.hid (HXo115.out.keep hb)
        clear HXo115
        have HB116x := Lib.hid (show Below w.heap.size w (putR v115 n bl ll.length cl) from HB115x.out.trans (hb.mono HB115x.out.size))
        clear HB115x hb
        have HXl116 : Hid (RhAt (putR v115 n bl ll.length cl) v115.heap.size n bl cl ll) := HXn
        clear HXn
        obtain ⟨pr0, pr1, pr2, pr3⟩ := HXr116.out.1.facts
        have ltr := HXr116.out.1.lt
        go_wp2_with fail
        refine (num_any a len cap 32 (putR v115 n bl ll.length cl) (bytes_up HBY.out HB116x.out HB116x.out.size) (by omega)).mono ?_
        rintro e v117 ⟨qu, rfl, hu0, hu1, hb⟩
        clear pr0 pr1 pr2 pr3 ltr
        have HXr117 := Lib.hid (HXr116.out.keep hb)
        clear HXr116
        have HXa117 := Lib.hid (HXa116.out.keep hb)
        clear HXa116
        have HXm117 := Lib.hid (HXm116.out.keep hb)
        clear HXm116
        have HXo117 := Lib.hid (HXo116.out.keep hb)
        clear HXo116
        have HXl117 := Lib.hid (HXl116.out.keep hb)
        clear HXl116
        have HB117x := Lib.hid (show Below w.heap.size w v117 from HB116x.out.trans (hb.mono HB116x.out.size))
        clear HB116x hb
        obtain ⟨M, hM⟩ : ∃ M : Int, max 1 ((n : Int) - 1) = M := ⟨_, rfl⟩
        have hM1 : 1 ≤ M := by omega
        have hM2 : M ≤ 15 := by omega
        obtain ⟨u, hu, hu2, hu3⟩ : ∃ u : Nat, 1 + qu % M = (u : Int) ∧ 1 ≤ u ∧ (u : Int) ≤ M := by
          have h1 := Int.emod_nonneg qu (show M ≠ 0 by omega)
          have h2 := Int.emod_lt_of_pos qu (show (0 : Int) < M by omega)
          exact ⟨(1 + qu % M).toNat, by omega, by omega, by omega⟩
        have HU3 : Hid ((u : Int) ≤ max 1 ((n : Int) - 1)) := Lib.hid (by rw [hM]; exact hu3)
        have huw : wrap64 (1 + qu % M) = (u : Int) := by rw [hu]; unfold wrap64; omega
        have HMX := Lib.hid hM
        have hM0 : ¬ M = 0 := by omega
        have hn1w : wrap64 ((n : Int) - 1) = (n : Int) - 1 := by unfold wrap64; omega
        have HUW := Lib.hid huw
        have HUQ := Lib.hid hu
        have hu15 : u ≤ 15 := by omega
        clear hu huw
        have hmx : ¬ max 1 ((n : Int) - 1) = 0 := by omega
        clear hM
        by_cases hg : Nat.gcd u n = 1
        · have HGC := Lib.hid hg
          obtain ⟨ls, hls⟩ : ∃ l, rotZ n zs u 0 = l := ⟨_, rfl⟩
          have HELS := Lib.hid hls
          have HOs : Hid (Ok n ls) := Lib.hid (by rw [← hls]; exact rot_ok HO.out.1 _ _)
          have HNS : Hid ((ls.length : Int) = zs.length) := Lib.hid (by rw [← hls, len_moved HO.out (by simpa using hg)])
          have HGI : Hid ((Nat.gcd u n : Int) = 1) := Lib.hid (by rw [hg]; rfl)
          clear hls hg
          obtain ⟨pr0, pr1, pr2, pr3⟩ := HXr117.out.1.facts
          have ltr := HXr117.out.1.lt
          go_wp2_with fail
          try rw [HMX.out]
          try rw [HUW.out]
          try rw [HUQ.out]
          refine (r_str_yes n b c zs ls u v117 HXr117.out.2 HO.out hu2 HU3.out HGC.out HELS.out).mono ?_
          rintro e v118 ⟨bs, cs, rfl, hown, hb⟩
          clear pr0 pr1 pr2 pr3 ltr
          have HXr118 := Lib.hid (HXr117.out.keep hb)
          clear HXr117
          have HXa118 := Lib.hid (HXa117.out.keep hb)
          clear HXa117
          have HXm118 := Lib.hid (HXm117.out.keep hb)
          clear HXm117
          have HXo118 := Lib.hid (HXo117.out.keep hb)
          clear HXo117
          have HXl118 := Lib.hid (HXl117.out.keep hb)
          clear HXl117
          have HB118x := Lib.hid (show Below w.heap.size w v118 from HB117x.out.trans (hb.mono HB117x.out.size))
          clear HB117x hb
          have HXn := Lib.hid (rhAt_put (n := n) hown (ok_allInt HOs.out))
          clear hown
          have hb := putR_below v118 n bs ls.length cs
          have HXr119 := Lib.hid (HXr118.out.keep hb)
          clear HXr118
          have HXa119 := Lib.hid (HXa118.out.keep hb)
          clear HXa118
          have HXm119 := Lib.hid (HXm118.out.keep hb)
          clear HXm118
          have HXo119 := Lib.hid (HXo118.out.keep hb)
          clear HXo118
          have HXl119 := Lib.hid (HXl118.out.keep hb)
          clear HXl118
          have HB119x := Lib.hid (show Below w.heap.size w (putR v118 n bs ls.length cs) from HB118x.out.trans (hb.mono HB118x.out.size))
          clear HB118x hb
          have HXs119 : Hid (RhAt (putR v118 n bs ls.length cs) v118.heap.size n bs cs ls) := HXn
          clear HXn
          have HK : Hid (∀ W' : World, Below (putR v118 n bs ls.length cs).heap.size (putR v118 n bs ls.length cs) W' → W'.cell? ⟨w1.heap.size, 0, none⟩ = some (.int .i64 (n : Nat)) ∧ W'.cell? ⟨w1.heap.size, 1, none⟩ = some (.slice b zs.length c) ∧ W'.cell? ⟨v115.heap.size, 0, none⟩ = some (.int .i64 (n : Nat)) ∧ W'.cell? ⟨v115.heap.size, 1, none⟩ = some (.slice bl ll.length cl) ∧ W'.cell? ⟨v118.heap.size, 0, none⟩ = some (.int .i64 (n : Nat)) ∧ W'.cell? ⟨v118.heap.size, 1, none⟩ = some (.slice bs ls.length cs) ∧ Below (putR v118 n bs ls.length cs).heap.size (putR v118 n bs ls.length cs) W') :=
            Lib.hid (fun W' hW => ⟨(HXr119.out.keep hW).1.facts.1, (HXr119.out.keep hW).1.facts.2.1, (HXl119.out.keep hW).1.facts.1, (HXl119.out.keep hW).1.facts.2.1, (HXs119.out.keep hW).1.facts.1, (HXs119.out.keep hW).1.facts.2.1, hW⟩)
          have HIr : Hid (∀ W' : World, Below (putR v118 n bs ls.length cs).heap.size (putR v118 n bs ls.length cs) W' → IntsAt W' b zs.length zs) := Lib.hid (fun W' hW => (HXr119.out.keep hW).2)
          have HIl : Hid (∀ W' : World, Below (putR v118 n bs ls.length cs).heap.size (putR v118 n bs ls.length cs) W' → IntsAt W' bl ll.length ll) := Lib.hid (fun W' hW => (HXl119.out.keep hW).2)
          have HIs : Hid (∀ W' : World, Below (putR v118 n bs ls.length cs).heap.size (putR v118 n bs ls.length cs) W' → IntsAt W' bs ls.length ls) := Lib.hid (fun W' hW => (HXs119.out.keep hW).2)
          go_upto_region 22 with fail
          refine wp_region_held_drew (S := fun W' => W'.cell? ⟨w1.heap.size, 0, none⟩ = some (.int .i64 (n : Nat)) ∧ W'.cell? ⟨w1.heap.size, 1, none⟩ = some (.slice b zs.length c) ∧ W'.cell? ⟨v115.heap.size, 0, none⟩ = some (.int .i64 (n : Nat)) ∧ W'.cell? ⟨v115.heap.size, 1, none⟩ = some (.slice bl ll.length cl) ∧ W'.cell? ⟨v118.heap.size, 0, none⟩ = some (.int .i64 (n : Nat)) ∧ W'.cell? ⟨v118.heap.size, 1, none⟩ = some (.slice bs ls.length cs) ∧ Below (putR v118 n bs ls.length cs).heap.size (putR v118 n bs ls.length cs) W') (by kernel_rfl) (HK.out _ (Below.refl _ _).drew) (fun hSS0 => ?_)
          refine wpAnyH_take (i := 0) (oi := ⟨some 180, _, _, _, _, _⟩) (v := .bool true) rfl (by kernel_rfl) (by kernel_rfl) (by kernel_rfl) (fun _ _ _ h => h) (Or.inl ⟨by rfl, fun w hSw => by go_simp⟩) (by assumption) ?_
          try simp only [Act.put, List.setIfInBounds_toArray, List.set_cons_zero, List.set_cons_succ]
          refine wpAnyH_take (i := 1) (oi := ⟨some 181, _, _, _, _, _⟩) (v := .bool false) rfl (by kernel_rfl) (by kernel_rfl) (by kernel_rfl) (fun _ _ _ h => h) (Or.inl ⟨by rfl, fun w hSw => by go_simp⟩) (by assumption) ?_
          try simp only [Act.put, List.setIfInBounds_toArray, List.set_cons_zero, List.set_cons_succ]
          refine wpAnyH_take (i := 2) (oi := ⟨some 182, _, _, _, _, _⟩) (v := .bool false) rfl (by kernel_rfl) (by kernel_rfl) (by kernel_rfl) (fun _ _ _ h => h) (Or.inl ⟨by rfl, fun w hSw => by go_simp⟩) (by assumption) ?_
          try simp only [Act.put, List.setIfInBounds_toArray, List.set_cons_zero, List.set_cons_succ]
          refine wpAnyH_take (i := 3) (oi := ⟨some 183, _, _, _, _, _⟩) (v := .agg #[.int .i64 (n : Nat), .slice bl ll.length cl]) rfl (by kernel_rfl) (by kernel_rfl) (by kernel_rfl) (fun _ _ _ h => h) (Or.inl ⟨by rfl, fun w hSw => by obtain ⟨_, _, q1, q2, _⟩ := hSw; go_simp⟩) (by assumption) ?_
          try simp only [Act.put, List.setIfInBounds_toArray, List.set_cons_zero, List.set_cons_succ]
          refine wpAnyH_take (i := 5) (oi := ⟨some 185, _, _, _, _, _⟩) (v := .int .i64 n) rfl (by kernel_rfl) (by kernel_rfl) (by kernel_rfl) (fun _ _ _ h => h) (Or.inl ⟨by rfl, fun w hSw => by go_simp⟩) (by assumption) ?_
          try simp only [Act.put, List.setIfInBounds_toArray, List.set_cons_zero, List.set_cons_succ]
          refine wpAnyH_ready (rs := [4]) (by kernel_rfl) (by simp) ?_
          refine AllReadyH.cons rfl (fun K hKK => ?_) AllReadyH.nil
          go_simp
          go_at_call 16
          refine (r_cnt n bl cl ll (n : Nat) _ (HIl.out _ (Below.refl _ _).drew) HOl.out HNL.out).mono ?_
          rintro e wk1 ⟨rfl, hc1⟩
          have hbb1 : Below (putR v118 n bs ls.length cs).heap.size (putR v118 n bs ls.length cs) wk1 := (Below.refl _ _).drew.trans hc1
          clear hc1
          refine hKK.out _ _ (HK.out _ hbb1) (fun hSS1 => ?_)
          clear hKK K hSS0
          try simp only [Act.put, List.setIfInBounds_toArray, List.set_cons_zero, List.set_cons_succ]
          refine wpAnyH_take (i := 6) (oi := ⟨some 186, _, _, _, _, _⟩) (v := .bool false) rfl (by kernel_rfl) (by kernel_rfl) (by kernel_rfl) (fun _ _ _ h => h) (Or.inl ⟨by rfl, fun w hSw => by go_simp⟩) (by assumption) ?_
          try simp only [Act.put, List.setIfInBounds_toArray, List.set_cons_zero, List.set_cons_succ]
          refine wpAnyH_take (i := 7) (oi := ⟨some 187, _, _, _, _, _⟩) (v := .bool false) rfl (by kernel_rfl) (by kernel_rfl) (by kernel_rfl) (fun _ _ _ h => h) (Or.inl ⟨by rfl, fun w hSw => by go_simp⟩) (by assumption) ?_
          try simp only [Act.put, List.setIfInBounds_toArray, List.set_cons_zero, List.set_cons_succ]
          refine wpAnyH_take (i := 8) (oi := ⟨some 188, _, _, _, _, _⟩) (v := .bool false) rfl (by kernel_rfl) (by kernel_rfl) (by kernel_rfl) (fun _ _ _ h => h) (Or.inl ⟨by rfl, fun w hSw => by go_simp⟩) (by assumption) ?_
          try simp only [Act.put, List.setIfInBounds_toArray, List.set_cons_zero, List.set_cons_succ]
          refine wpAnyH_take (i := 9) (oi := ⟨some 189, _, _, _, _, _⟩) (v := .bool true) rfl (by kernel_rfl) (by kernel_rfl) (by kernel_rfl) (fun _ _ _ h => h) (Or.inl ⟨by rfl, fun w hSw => by go_simp⟩) (by assumption) ?_
          try simp only [Act.put, List.setIfInBounds_toArray, List.set_cons_zero, List.set_cons_succ]
          refine wpAnyH_take (i := 10) (oi := ⟨some 190, _, _, _, _, _⟩) (v := .int .i64 u) rfl (by kernel_rfl) (by kernel_rfl) (by kernel_rfl) (fun _ _ _ h => h) (Or.inl ⟨by rfl, fun w hSw => by go_simp⟩) (by assumption) ?_
          try simp only [Act.put, List.setIfInBounds_toArray, List.set_cons_zero, List.set_cons_succ]
          refine wpAnyH_take (i := 11) (oi := ⟨some 191, _, _, _, _, _⟩) (v := .int .i64 n) rfl (by kernel_rfl) (by kernel_rfl) (by kernel_rfl) (fun _ _ _ h => h) (Or.inl ⟨by rfl, fun w hSw => by go_simp⟩) (by assumption) ?_
          try simp only [Act.put, List.setIfInBounds_toArray, List.set_cons_zero, List.set_cons_succ]
          refine wpAnyH_ready (rs := [12]) (by kernel_rfl) (by simp) ?_
          refine AllReadyH.cons rfl (fun K hKK => ?_) AllReadyH.nil
          go_simp
          go_at_call 20
          refine (r_gcd u n 1 _ (by omega) (by omega) HGI.out).mono ?_
          rintro e wk2 ⟨rfl, hc2⟩
          have hbb2 : Below (putR v118 n bs ls.length cs).heap.size (putR v118 n bs ls.length cs) wk2 := hbb1.trans (hc2.mono hbb1.size)
          clear hc2
          refine hKK.out _ _ (HK.out _ hbb2) (fun hSS2 => ?_)
          clear hKK K hbb1 hSS1
          try simp only [Act.put, List.setIfInBounds_toArray, List.set_cons_zero, List.set_cons_succ]
          refine wpAnyH_take (i := 13) (oi := ⟨some 193, _, _, _, _, _⟩) (v := .bool true) rfl (by kernel_rfl) (by kernel_rfl) (by kernel_rfl) (fun _ _ _ h => h) (Or.inl ⟨by rfl, fun w hSw => by go_simp⟩) (by assumption) ?_
          try simp only [Act.put, List.setIfInBounds_toArray, List.set_cons_zero, List.set_cons_succ]
          refine wpAnyH_take (i := 14) (oi := ⟨some 194, _, _, _, _, _⟩) (v := .bool false) rfl (by kernel_rfl) (by kernel_rfl) (by kernel_rfl) (fun _ _ _ h => h) (Or.inl ⟨by rfl, fun w hSw => by go_simp⟩) (by assumption) ?_
          try simp only [Act.put, List.setIfInBounds_toArray, List.set_cons_zero, List.set_cons_succ]
          refine wpAnyH_take (i := 15) (oi := ⟨some 195, _, _, _, _, _⟩) (v := .bool false) rfl (by kernel_rfl) (by kernel_rfl) (by kernel_rfl) (fun _ _ _ h => h) (Or.inl ⟨by rfl, fun w hSw => by go_simp⟩) (by assumption) ?_
          try simp only [Act.put, List.setIfInBounds_toArray, List.set_cons_zero, List.set_cons_succ]
          refine wpAnyH_take (i := 16) (oi := ⟨some 196, _, _, _, _, _⟩) (v := .bool false) rfl (by kernel_rfl) (by kernel_rfl) (by kernel_rfl) (fun _ _ _ h => h) (Or.inl ⟨by rfl, fun w hSw => by go_simp⟩) (by assumption) ?_
          try simp only [Act.put, List.setIfInBounds_toArray, List.set_cons_zero, List.set_cons_succ]
          refine wpAnyH_take (i := 17) (oi := ⟨some 197, _, _, _, _, _⟩) (v := .bool true) rfl (by kernel_rfl) (by kernel_rfl) (by kernel_rfl) (fun _ _ _ h => h) (Or.inl ⟨by rfl, fun w hSw => by go_simp⟩) (by assumption) ?_
          try simp only [Act.put, List.setIfInBounds_toArray, List.set_cons_zero, List.set_cons_succ]
          refine wpAnyH_take (i := 18) (oi := ⟨some 198, _, _, _, _, _⟩) (v := .bool true) rfl (by kernel_rfl) (by kernel_rfl) (by kernel_rfl) (fun _ _ _ h => h) (Or.inl ⟨by rfl, fun w hSw => by go_simp⟩) (by assumption) ?_
          try simp only [Act.put, List.setIfInBounds_toArray, List.set_cons_zero, List.set_cons_succ]
          refine wpAnyH_take (i := 19) (oi := ⟨some 199, _, _, _, _, _⟩) (v := .agg #[.int .i64 (n : Nat), .slice bs ls.length cs]) rfl (by kernel_rfl) (by kernel_rfl) (by kernel_rfl) (fun _ _ _ h => h) (Or.inl ⟨by rfl, fun w hSw => by obtain ⟨_, _, _, _, q1, q2, _⟩ := hSw; go_simp⟩) (by assumption) ?_
          try simp only [Act.put, List.setIfInBounds_toArray, List.set_cons_zero, List.set_cons_succ]
          refine wpAnyH_take (i := 21) (oi := ⟨some 201, _, _, _, _, _⟩) (v := .pointer (some ⟨w1.heap.size, 1, none⟩)) rfl (by kernel_rfl) (by kernel_rfl) (by kernel_rfl) (fun _ _ _ h => h) (Or.inl ⟨by rfl, fun w hSw => by go_simp⟩) (by assumption) ?_
          try simp only [Act.put, List.setIfInBounds_toArray, List.set_cons_zero, List.set_cons_succ]
          refine wpAnyH_take (i := 22) (oi := ⟨some 202, _, _, _, _, _⟩) (v := .slice b zs.length c) rfl (by kernel_rfl) (by kernel_rfl) (by kernel_rfl) (fun _ _ _ h => h) (Or.inl ⟨by rfl, fun w hSw => by obtain ⟨q1, q2, _⟩ := hSw; go_simp⟩) (by assumption) ?_
          try simp only [Act.put, List.setIfInBounds_toArray, List.set_cons_zero, List.set_cons_succ]
          refine wpAnyH_take (i := 23) (oi := ⟨some 203, _, _, _, _, _⟩) (v := .int .i64 (zs.length : Nat)) rfl (by kernel_rfl) (by kernel_rfl) (by kernel_rfl) (fun _ _ _ h => h) (Or.inl ⟨by rfl, fun w hSw => by go_simp⟩) (by assumption) ?_
          try simp only [Act.put, List.setIfInBounds_toArray, List.set_cons_zero, List.set_cons_succ]
          refine wpAnyH_ready (rs := [20]) (by kernel_rfl) (by simp) ?_
          refine AllReadyH.cons rfl (fun K hKK => ?_) AllReadyH.nil
          go_simp
          go_at_call 16
          refine (r_cnt n bs cs ls (zs.length : Nat) _ (HIs.out _ hbb2) HOs.out HNS.out).mono ?_
          rintro e wk3 ⟨rfl, hc3⟩
          have hbb3 : Below (putR v118 n bs ls.length cs).heap.size (putR v118 n bs ls.length cs) wk3 := hbb2.trans (hc3.mono hbb2.size)
          clear hc3
          refine hKK.out _ _ (HK.out _ hbb3) (fun hSS3 => ?_)
          clear hKK K hbb2 hSS2
          try simp only [Act.put, List.setIfInBounds_toArray, List.set_cons_zero, List.set_cons_succ]
          refine wpAnyH_take (i := 24) (oi := ⟨some 204, _, _, _, _, _⟩) (v := .bool false) rfl (by kernel_rfl) (by kernel_rfl) (by kernel_rfl) (fun _ _ _ h => h) (Or.inl ⟨by rfl, fun w hSw => by go_simp⟩) (by assumption) ?_
          try simp only [Act.put, List.setIfInBounds_toArray, List.set_cons_zero, List.set_cons_succ]
          refine wpAnyH_take (i := 25) (oi := ⟨some 205, _, _, _, _, _⟩) (v := .bool false) rfl (by kernel_rfl) (by kernel_rfl) (by kernel_rfl) (fun _ _ _ h => h) (Or.inl ⟨by rfl, fun w hSw => by go_simp⟩) (by assumption) ?_
          try simp only [Act.put, List.setIfInBounds_toArray, List.set_cons_zero, List.set_cons_succ]
          refine wpAnyH_take (i := 26) (oi := ⟨some 206, _, _, _, _, _⟩) (v := .bool false) rfl (by kernel_rfl) (by kernel_rfl) (by kernel_rfl) (fun _ _ _ h => h) (Or.inl ⟨by rfl, fun w hSw => by go_simp⟩) (by assumption) ?_
          try simp only [Act.put, List.setIfInBounds_toArray, List.set_cons_zero, List.set_cons_succ]
          refine wpAnyH_done (by kernel_rfl) ?_ _
          clear HK
          clear HIr HIl HIs hSS3
          have hb := hbb3
          clear hbb3
          have HXr120 := Lib.hid (HXr119.out.keep hb)
          clear HXr119
          have HXa120 := Lib.hid (HXa119.out.keep hb)
          clear HXa119
          have HXm120 := Lib.hid (HXm119.out.keep hb)
          clear HXm119
          have HXo120 := Lib.hid (HXo119.out.keep hb)
          clear HXo119
          have HXl120 := Lib.hid (HXl119.out.keep hb)
          clear HXl119
          have HXs120 := Lib.hid (HXs119.out.keep hb)
          clear HXs119
          have HB120x := Lib.hid (show Below w.heap.size w wk3 from HB119x.out.trans (hb.mono HB119x.out.size))
          clear HB119x hb
          by_cases h2n : 2 * n ≤ 24
          · have H2N := Lib.hid h2n
            have h2w : wrap64 (2 * (n : Int)) = ((2 * n : Nat) : Int) := by unfold wrap64; omega
            obtain ⟨lx, hlx⟩ : ∃ l, repL n zs 2 = l := ⟨_, rfl⟩
            have HELX := Lib.hid hlx
            have HOx : Hid (Ok (2 * n : Nat) lx) := Lib.hid (by rw [← hlx]; have := rep_ok HO.out (by omega : 2 * (n : Int) ≤ 24); rwa [show (2 : Int) * (n : Int) = ((2 * n : Nat) : Int) by omega] at this)
            have HNX : Hid ((lx.length : Int) = (2 * zs.length : Nat)) := Lib.hid (by rw [← hlx, rep_len])
            obtain ⟨p', hp'⟩ : ∃ p, perZ n zs = p := ⟨_, rfl⟩
            have HPR := Lib.hid hp'
            have HPX : Hid (perZ (2 * n : Nat) lx = p') := Lib.hid (by rw [← hlx, ← hp']; have := rep_per HO.out (by omega : 2 * (n : Int) ≤ 24); rwa [show (2 : Int) * (n : Int) = ((2 * n : Nat) : Int) by omega] at this)
            clear hlx hp'
            have hlw : wrap64 (2 * (zs.length : Int)) = ((2 * zs.length : Nat) : Int) := by have := HLZ.out; unfold wrap64; omega
            have hle : decide (((2 * n : Nat) : Int) ≤ 24) = true := by simp; omega
            obtain ⟨pr0, pr1, pr2, pr3⟩ := HXr120.out.1.facts
            have ltr := HXr120.out.1.lt
            go_wp2_with fail
            refine (r_rep_yes n b c zs lx wk3 HXr120.out.2 HO.out H2N.out HELX.out).mono ?_
            rintro e v121 ⟨bx, cx, rfl, hown, hb⟩
            clear pr0 pr1 pr2 pr3 ltr
            have HXr121 := Lib.hid (HXr120.out.keep hb)
            clear HXr120
            have HXa121 := Lib.hid (HXa120.out.keep hb)
            clear HXa120
            have HXm121 := Lib.hid (HXm120.out.keep hb)
            clear HXm120
            have HXo121 := Lib.hid (HXo120.out.keep hb)
            clear HXo120
            have HXl121 := Lib.hid (HXl120.out.keep hb)
            clear HXl120
            have HXs121 := Lib.hid (HXs120.out.keep hb)
            clear HXs120
            have HB121x := Lib.hid (show Below w.heap.size w v121 from HB120x.out.trans (hb.mono HB120x.out.size))
            clear HB120x hb
            have HXn := Lib.hid (rhAt_put (n := 2 * n) hown (ok_allInt HOx.out))
            clear hown
            have hb := putR_below v121 (2 * n) bx lx.length cx
            have HXr122 := Lib.hid (HXr121.out.keep hb)
            clear HXr121
            have HXa122 := Lib.hid (HXa121.out.keep hb)
            clear HXa121
            have HXm122 := Lib.hid (HXm121.out.keep hb)
            clear HXm121
            have HXo122 := Lib.hid (HXo121.out.keep hb)
            clear HXo121
            have HXl122 := Lib.hid (HXl121.out.keep hb)
            clear HXl121
            have HXs122 := Lib.hid (HXs121.out.keep hb)
            clear HXs121
            have HB122x := Lib.hid (show Below w.heap.size w (putR v121 (2 * n) bx lx.length cx) from HB121x.out.trans (hb.mono HB121x.out.size))
            clear HB121x hb
            have HXx122 : Hid (RhAt (putR v121 (2 * n) bx lx.length cx) v121.heap.size (2 * n) bx cx lx) := HXn
            clear HXn
            have HK : Hid (∀ W' : World, Below (putR v121 (2 * n) bx lx.length cx).heap.size (putR v121 (2 * n) bx lx.length cx) W' → W'.cell? ⟨w1.heap.size, 0, none⟩ = some (.int .i64 (n : Nat)) ∧ W'.cell? ⟨w1.heap.size, 1, none⟩ = some (.slice b zs.length c) ∧ W'.cell? ⟨v121.heap.size, 0, none⟩ = some (.int .i64 (2 * n : Nat)) ∧ W'.cell? ⟨v121.heap.size, 1, none⟩ = some (.slice bx lx.length cx) ∧ Below (putR v121 (2 * n) bx lx.length cx).heap.size (putR v121 (2 * n) bx lx.length cx) W') :=
              Lib.hid (fun W' hW => ⟨(HXr122.out.keep hW).1.facts.1, (HXr122.out.keep hW).1.facts.2.1, (HXx122.out.keep hW).1.facts.1, (HXx122.out.keep hW).1.facts.2.1, hW⟩)
            have HIr : Hid (∀ W' : World, Below (putR v121 (2 * n) bx lx.length cx).heap.size (putR v121 (2 * n) bx lx.length cx) W' → IntsAt W' b zs.length zs) := Lib.hid (fun W' hW => (HXr122.out.keep hW).2)
            have HIx : Hid (∀ W' : World, Below (putR v121 (2 * n) bx lx.length cx).heap.size (putR v121 (2 * n) bx lx.length cx) W' → IntsAt W' bx lx.length lx) := Lib.hid (fun W' hW => (HXx122.out.keep hW).2)
            go_upto_region 25 with fail
            refine wp_region_held_drew (S := fun W' => W'.cell? ⟨w1.heap.size, 0, none⟩ = some (.int .i64 (n : Nat)) ∧ W'.cell? ⟨w1.heap.size, 1, none⟩ = some (.slice b zs.length c) ∧ W'.cell? ⟨v121.heap.size, 0, none⟩ = some (.int .i64 (2 * n : Nat)) ∧ W'.cell? ⟨v121.heap.size, 1, none⟩ = some (.slice bx lx.length cx) ∧ Below (putR v121 (2 * n) bx lx.length cx).heap.size (putR v121 (2 * n) bx lx.length cx) W') (by kernel_rfl) (HK.out _ (Below.refl _ _).drew) (fun hSS0 => ?_)
            refine wpAnyH_take (i := 0) (oi := ⟨some 212, _, _, _, _, _⟩) (v := .bool true) rfl (by kernel_rfl) (by kernel_rfl) (by kernel_rfl) (fun _ _ _ h => h) (Or.inl ⟨by rfl, fun w hSw => by go_simp⟩) (by assumption) ?_
            try simp only [Act.put, List.setIfInBounds_toArray, List.set_cons_zero, List.set_cons_succ]
            refine wpAnyH_take (i := 1) (oi := ⟨some 213, _, _, _, _, _⟩) (v := .int .i64 n) rfl (by kernel_rfl) (by kernel_rfl) (by kernel_rfl) (fun _ _ _ h => h) (Or.inl ⟨by rfl, fun w hSw => by go_simp⟩) (by assumption) ?_
            try simp only [Act.put, List.setIfInBounds_toArray, List.set_cons_zero, List.set_cons_succ]
            refine wpAnyH_take (i := 2) (oi := ⟨some 214, _, _, _, _, _⟩) (v := .int .i64 (2 * n : Nat)) rfl (by kernel_rfl) (by kernel_rfl) (by kernel_rfl) (fun _ _ _ h => h) (Or.inl ⟨by rfl, fun w hSw => by go_simp; exact (IntWalk.i64_in _ ⟨by omega, by omega⟩).trans (by omega)⟩) (by assumption) ?_
            try simp only [Act.put, List.setIfInBounds_toArray, List.set_cons_zero, List.set_cons_succ]
            refine wpAnyH_take (i := 3) (oi := ⟨some 215, _, _, _, _, _⟩) (v := .bool true) rfl (by kernel_rfl) (by kernel_rfl) (by kernel_rfl) (fun _ _ _ h => h) (Or.inl ⟨by rfl, fun w hSw => by go_simp; omega⟩) (by assumption) ?_
            try simp only [Act.put, List.setIfInBounds_toArray, List.set_cons_zero, List.set_cons_succ]
            refine wpAnyH_take (i := 4) (oi := ⟨some 216, _, _, _, _, _⟩) (v := .bool true) rfl (by kernel_rfl) (by kernel_rfl) (by kernel_rfl) (fun _ _ _ h => h) (Or.inl ⟨by rfl, fun w hSw => by go_simp⟩) (by assumption) ?_
            try simp only [Act.put, List.setIfInBounds_toArray, List.set_cons_zero, List.set_cons_succ]
            refine wpAnyH_take (i := 5) (oi := ⟨some 217, _, _, _, _, _⟩) (v := .bool true) rfl (by kernel_rfl) (by kernel_rfl) (by kernel_rfl) (fun _ _ _ h => h) (Or.inl ⟨by rfl, fun w hSw => by go_simp⟩) (by assumption) ?_
            try simp only [Act.put, List.setIfInBounds_toArray, List.set_cons_zero, List.set_cons_succ]
            refine wpAnyH_take (i := 6) (oi := ⟨some 218, _, _, _, _, _⟩) (v := .bool true) rfl (by kernel_rfl) (by kernel_rfl) (by kernel_rfl) (fun _ _ _ h => h) (Or.inl ⟨by rfl, fun w hSw => by go_simp⟩) (by assumption) ?_
            try simp only [Act.put, List.setIfInBounds_toArray, List.set_cons_zero, List.set_cons_succ]
            refine wpAnyH_take (i := 7) (oi := ⟨some 219, _, _, _, _, _⟩) (v := .bool false) rfl (by kernel_rfl) (by kernel_rfl) (by kernel_rfl) (fun _ _ _ h => h) (Or.inl ⟨by rfl, fun w hSw => by go_simp⟩) (by assumption) ?_
            try simp only [Act.put, List.setIfInBounds_toArray, List.set_cons_zero, List.set_cons_succ]
            refine wpAnyH_take (i := 8) (oi := ⟨some 220, _, _, _, _, _⟩) (v := .bool false) rfl (by kernel_rfl) (by kernel_rfl) (by kernel_rfl) (fun _ _ _ h => h) (Or.inl ⟨by rfl, fun w hSw => by go_simp⟩) (by assumption) ?_
            try simp only [Act.put, List.setIfInBounds_toArray, List.set_cons_zero, List.set_cons_succ]
            refine wpAnyH_take (i := 9) (oi := ⟨some 221, _, _, _, _, _⟩) (v := .agg #[.int .i64 (2 * n : Nat), .slice bx lx.length cx]) rfl (by kernel_rfl) (by kernel_rfl) (by kernel_rfl) (fun _ _ _ h => h) (Or.inl ⟨by rfl, fun w hSw => by obtain ⟨_, _, q1, q2, _⟩ := hSw; go_simp⟩) (by assumption) ?_
            try simp only [Act.put, List.setIfInBounds_toArray, List.set_cons_zero, List.set_cons_succ]
            refine wpAnyH_take (i := 11) (oi := ⟨some 223, _, _, _, _, _⟩) (v := .pointer (some ⟨w1.heap.size, 1, none⟩)) rfl (by kernel_rfl) (by kernel_rfl) (by kernel_rfl) (fun _ _ _ h => h) (Or.inl ⟨by rfl, fun w hSw => by go_simp⟩) (by assumption) ?_
            try simp only [Act.put, List.setIfInBounds_toArray, List.set_cons_zero, List.set_cons_succ]
            refine wpAnyH_take (i := 12) (oi := ⟨some 224, _, _, _, _, _⟩) (v := .slice b zs.length c) rfl (by kernel_rfl) (by kernel_rfl) (by kernel_rfl) (fun _ _ _ h => h) (Or.inl ⟨by rfl, fun w hSw => by obtain ⟨q1, q2, _⟩ := hSw; go_simp⟩) (by assumption) ?_
            try simp only [Act.put, List.setIfInBounds_toArray, List.set_cons_zero, List.set_cons_succ]
            refine wpAnyH_take (i := 13) (oi := ⟨some 225, _, _, _, _, _⟩) (v := .int .i64 (zs.length : Nat)) rfl (by kernel_rfl) (by kernel_rfl) (by kernel_rfl) (fun _ _ _ h => h) (Or.inl ⟨by rfl, fun w hSw => by go_simp⟩) (by assumption) ?_
            try simp only [Act.put, List.setIfInBounds_toArray, List.set_cons_zero, List.set_cons_succ]
            refine wpAnyH_take (i := 14) (oi := ⟨some 226, _, _, _, _, _⟩) (v := .int .i64 (2 * zs.length : Nat)) rfl (by kernel_rfl) (by kernel_rfl) (by kernel_rfl) (fun _ _ _ h => h) (Or.inl ⟨by rfl, fun w hSw => by have h9 := HLZ.out; go_simp; exact (IntWalk.i64_in _ ⟨by omega, by omega⟩).trans (by omega)⟩) (by assumption) ?_
            try simp only [Act.put, List.setIfInBounds_toArray, List.set_cons_zero, List.set_cons_succ]
            refine wpAnyH_ready (rs := [10]) (by kernel_rfl) (by simp) ?_
            refine AllReadyH.cons rfl (fun K hKK => ?_) AllReadyH.nil
            go_simp
            go_at_call 16
            refine (r_cnt (2 * n) bx cx lx (2 * zs.length : Nat) _ (HIx.out _ (Below.refl _ _).drew) HOx.out HNX.out).mono ?_
            rintro e wk1 ⟨rfl, hc1⟩
            have hbb1 : Below (putR v121 (2 * n) bx lx.length cx).heap.size (putR v121 (2 * n) bx lx.length cx) wk1 := (Below.refl _ _).drew.trans hc1
            clear hc1
            refine hKK.out _ _ (HK.out _ hbb1) (fun hSS1 => ?_)
            clear hKK K hSS0
            try simp only [Act.put, List.setIfInBounds_toArray, List.set_cons_zero, List.set_cons_succ]
            refine wpAnyH_take (i := 15) (oi := ⟨some 227, _, _, _, _, _⟩) (v := .bool true) rfl (by kernel_rfl) (by kernel_rfl) (by kernel_rfl) (fun _ _ _ h => h) (Or.inl ⟨by rfl, fun w hSw => by go_simp⟩) (by assumption) ?_
            try simp only [Act.put, List.setIfInBounds_toArray, List.set_cons_zero, List.set_cons_succ]
            refine wpAnyH_take (i := 16) (oi := ⟨some 228, _, _, _, _, _⟩) (v := .bool true) rfl (by kernel_rfl) (by kernel_rfl) (by kernel_rfl) (fun _ _ _ h => h) (Or.inl ⟨by rfl, fun w hSw => by go_simp⟩) (by assumption) ?_
            try simp only [Act.put, List.setIfInBounds_toArray, List.set_cons_zero, List.set_cons_succ]
            refine wpAnyH_take (i := 17) (oi := ⟨some 229, _, _, _, _, _⟩) (v := .agg #[.int .i64 (2 * n : Nat), .slice bx lx.length cx]) rfl (by kernel_rfl) (by kernel_rfl) (by kernel_rfl) (fun _ _ _ h => h) (Or.inl ⟨by rfl, fun w hSw => by obtain ⟨_, _, q1, q2, _⟩ := hSw; go_simp⟩) (by assumption) ?_
            try simp only [Act.put, List.setIfInBounds_toArray, List.set_cons_zero, List.set_cons_succ]
            refine wpAnyH_take (i := 19) (oi := ⟨some 231, _, _, _, _, _⟩) (v := .agg #[.int .i64 (n : Nat), .slice b zs.length c]) rfl (by kernel_rfl) (by kernel_rfl) (by kernel_rfl) (fun _ _ _ h => h) (Or.inl ⟨by rfl, fun w hSw => by obtain ⟨q1, q2, _⟩ := hSw; go_simp⟩) (by assumption) ?_
            try simp only [Act.put, List.setIfInBounds_toArray, List.set_cons_zero, List.set_cons_succ]
            refine wpAnyH_ready (rs := [18]) (by kernel_rfl) (by simp) ?_
            refine AllReadyH.cons rfl (fun K hKK => ?_) AllReadyH.nil
            go_simp
            go_at_call 22
            refine (r_per (2 * n) bx cx lx p' _ (HIx.out _ hbb1) HOx.out HPX.out).mono ?_
            rintro e wk2 ⟨rfl, hc2⟩
            have hbb2 : Below (putR v121 (2 * n) bx lx.length cx).heap.size (putR v121 (2 * n) bx lx.length cx) wk2 := hbb1.trans (hc2.mono hbb1.size)
            clear hc2
            refine hKK.out _ _ (HK.out _ hbb2) (fun hSS2 => ?_)
            clear hKK K hbb1 hSS1
            try simp only [Act.put, List.setIfInBounds_toArray, List.set_cons_zero, List.set_cons_succ]
            refine wpAnyH_ready (rs := [20]) (by kernel_rfl) (by simp) ?_
            refine AllReadyH.cons rfl (fun K hKK => ?_) AllReadyH.nil
            go_simp
            go_at_call 22
            refine (r_per n b c zs p' _ (HIr.out _ hbb2) HO.out HPR.out).mono ?_
            rintro e wk3 ⟨rfl, hc3⟩
            have hbb3 : Below (putR v121 (2 * n) bx lx.length cx).heap.size (putR v121 (2 * n) bx lx.length cx) wk3 := hbb2.trans (hc3.mono hbb2.size)
            clear hc3
            refine hKK.out _ _ (HK.out _ hbb3) (fun hSS3 => ?_)
            clear hKK K hbb2 hSS2
            try simp only [Act.put, List.setIfInBounds_toArray, List.set_cons_zero, List.set_cons_succ]
            refine wpAnyH_take (i := 21) (oi := ⟨some 233, _, _, _, _, _⟩) (v := .bool true) rfl (by kernel_rfl) (by kernel_rfl) (by kernel_rfl) (fun _ _ _ h => h) (Or.inl ⟨by rfl, fun w hSw => by go_simp⟩) (by assumption) ?_
            try simp only [Act.put, List.setIfInBounds_toArray, List.set_cons_zero, List.set_cons_succ]
            refine wpAnyH_take (i := 22) (oi := ⟨some 234, _, _, _, _, _⟩) (v := .bool true) rfl (by kernel_rfl) (by kernel_rfl) (by kernel_rfl) (fun _ _ _ h => h) (Or.inl ⟨by rfl, fun w hSw => by go_simp⟩) (by assumption) ?_
            try simp only [Act.put, List.setIfInBounds_toArray, List.set_cons_zero, List.set_cons_succ]
            refine wpAnyH_take (i := 23) (oi := ⟨some 235, _, _, _, _, _⟩) (v := .bool true) rfl (by kernel_rfl) (by kernel_rfl) (by kernel_rfl) (fun _ _ _ h => h) (Or.inl ⟨by rfl, fun w hSw => by go_simp⟩) (by assumption) ?_
            try simp only [Act.put, List.setIfInBounds_toArray, List.set_cons_zero, List.set_cons_succ]
            refine wpAnyH_take (i := 24) (oi := ⟨some 236, _, _, _, _, _⟩) (v := .bool true) rfl (by kernel_rfl) (by kernel_rfl) (by kernel_rfl) (fun _ _ _ h => h) (Or.inl ⟨by rfl, fun w hSw => by go_simp⟩) (by assumption) ?_
            try simp only [Act.put, List.setIfInBounds_toArray, List.set_cons_zero, List.set_cons_succ]
            refine wpAnyH_take (i := 25) (oi := ⟨some 237, _, _, _, _, _⟩) (v := .bool true) rfl (by kernel_rfl) (by kernel_rfl) (by kernel_rfl) (fun _ _ _ h => h) (Or.inl ⟨by rfl, fun w hSw => by go_simp⟩) (by assumption) ?_
            try simp only [Act.put, List.setIfInBounds_toArray, List.set_cons_zero, List.set_cons_succ]
            refine wpAnyH_take (i := 26) (oi := ⟨some 238, _, _, _, _, _⟩) (v := .agg #[.int .i64 (n : Nat), .slice b zs.length c]) rfl (by kernel_rfl) (by kernel_rfl) (by kernel_rfl) (fun _ _ _ h => h) (Or.inl ⟨by rfl, fun w hSw => by obtain ⟨q1, q2, _⟩ := hSw; go_simp⟩) (by assumption) ?_
            try simp only [Act.put, List.setIfInBounds_toArray, List.set_cons_zero, List.set_cons_succ]
            refine wpAnyH_ready (rs := [27]) (by kernel_rfl) (by simp) ?_
            refine AllReadyH.cons rfl (fun K hKK => ?_) AllReadyH.nil
            go_simp
            go_at_call 23
            refine (r_ok n b c zs _ (HIr.out _ hbb3) HO.out).mono ?_
            rintro e wk4 ⟨rfl, hc4⟩
            have hbb4 : Below (putR v121 (2 * n) bx lx.length cx).heap.size (putR v121 (2 * n) bx lx.length cx) wk4 := hbb3.trans (hc4.mono hbb3.size)
            clear hc4
            refine hKK.out _ _ (HK.out _ hbb4) (fun hSS4 => ?_)
            clear hKK K hbb3 hSS3
            try simp only [Act.put, List.setIfInBounds_toArray, List.set_cons_zero, List.set_cons_succ]
            refine wpAnyH_take (i := 28) (oi := ⟨some 240, _, _, _, _, _⟩) (v := .bool true) rfl (by kernel_rfl) (by kernel_rfl) (by kernel_rfl) (fun _ _ _ h => h) (Or.inl ⟨by rfl, fun w hSw => by go_simp⟩) (by assumption) ?_
            try simp only [Act.put, List.setIfInBounds_toArray, List.set_cons_zero, List.set_cons_succ]
            refine wpAnyH_take (i := 29) (oi := ⟨some 2, _, _, _, _, _⟩) (v := .bool true) rfl (by kernel_rfl) (by kernel_rfl) (by kernel_rfl) (fun _ _ _ h => h) (Or.inl ⟨by rfl, fun w hSw => by go_simp⟩) (by assumption) ?_
            try simp only [Act.put, List.setIfInBounds_toArray, List.set_cons_zero, List.set_cons_succ]
            refine wpAnyH_done (by kernel_rfl) ?_ _
            clear HK
            go_wp2
            go_ret
            exact ⟨rfl, HB122x.out.trans (hbb4.mono HB122x.out.size)⟩
          · have H2N := Lib.hid h2n
            have h2w : wrap64 (2 * (n : Int)) = ((2 * n : Nat) : Int) := by unfold wrap64; omega
            have hle : decide (((2 * n : Nat) : Int) ≤ 24) = false := by simp; omega
            obtain ⟨pr0, pr1, pr2, pr3⟩ := HXr120.out.1.facts
            have ltr := HXr120.out.1.lt
            go_wp2_with fail
            refine (r_rep_no n b c zs wk3 HXr120.out.2 HO.out H2N.out).mono ?_
            rintro e v141 ⟨bx, cx, rfl, hown, hb⟩
            clear pr0 pr1 pr2 pr3 ltr
            have HXr141 := Lib.hid (HXr120.out.keep hb)
            clear HXr120
            have HXa141 := Lib.hid (HXa120.out.keep hb)
            clear HXa120
            have HXm141 := Lib.hid (HXm120.out.keep hb)
            clear HXm120
            have HXo141 := Lib.hid (HXo120.out.keep hb)
            clear HXo120
            have HXl141 := Lib.hid (HXl120.out.keep hb)
            clear HXl120
            have HXs141 := Lib.hid (HXs120.out.keep hb)
            clear HXs120
            have HB141x := Lib.hid (show Below w.heap.size w v141 from HB120x.out.trans (hb.mono HB120x.out.size))
            clear HB120x hb
            clear hown
            have hb := bel1 v141 (.cells #[.int .i64 0, .slice bx 0 cx] 25)
            have HXr142 := Lib.hid (HXr141.out.keep hb)
            clear HXr141
            have HXa142 := Lib.hid (HXa141.out.keep hb)
            clear HXa141
            have HXm142 := Lib.hid (HXm141.out.keep hb)
            clear HXm141
            have HXo142 := Lib.hid (HXo141.out.keep hb)
            clear HXo141
            have HXl142 := Lib.hid (HXl141.out.keep hb)
            clear HXl141
            have HXs142 := Lib.hid (HXs141.out.keep hb)
            clear HXs141
            have HB142x := Lib.hid (show Below w.heap.size w (v141.alloc (.cells #[.int .i64 0, .slice bx 0 cx] 25)) from HB141x.out.trans (hb.mono HB141x.out.size))
            clear HB141x hb
            have HK : Hid (∀ W' : World, Below (v141.alloc (.cells #[.int .i64 0, .slice bx 0 cx] 25)).heap.size (v141.alloc (.cells #[.int .i64 0, .slice bx 0 cx] 25)) W' → W'.cell? ⟨w1.heap.size, 0, none⟩ = some (.int .i64 (n : Nat)) ∧ W'.cell? ⟨w1.heap.size, 1, none⟩ = some (.slice b zs.length c) ∧ Below (v141.alloc (.cells #[.int .i64 0, .slice bx 0 cx] 25)).heap.size (v141.alloc (.cells #[.int .i64 0, .slice bx 0 cx] 25)) W') :=
              Lib.hid (fun W' hW => ⟨(HXr142.out.keep hW).1.facts.1, (HXr142.out.keep hW).1.facts.2.1, hW⟩)
            have HIr : Hid (∀ W' : World, Below (v141.alloc (.cells #[.int .i64 0, .slice bx 0 cx] 25)).heap.size (v141.alloc (.cells #[.int .i64 0, .slice bx 0 cx] 25)) W' → IntsAt W' b zs.length zs) := Lib.hid (fun W' hW => (HXr142.out.keep hW).2)
            go_upto_region 25 with fail
            refine wp_region_held_drew (S := fun W' => W'.cell? ⟨w1.heap.size, 0, none⟩ = some (.int .i64 (n : Nat)) ∧ W'.cell? ⟨w1.heap.size, 1, none⟩ = some (.slice b zs.length c) ∧ Below (v141.alloc (.cells #[.int .i64 0, .slice bx 0 cx] 25)).heap.size (v141.alloc (.cells #[.int .i64 0, .slice bx 0 cx] 25)) W') (by kernel_rfl) (HK.out _ (Below.refl _ _).drew) (fun hSS0 => ?_)
            refine wpAnyH_take (i := 0) (oi := ⟨some 212, _, _, _, _, _⟩) (v := .bool false) rfl (by kernel_rfl) (by kernel_rfl) (by kernel_rfl) (fun _ _ _ h => h) (Or.inl ⟨by rfl, fun w hSw => by go_simp⟩) (by assumption) ?_
            try simp only [Act.put, List.setIfInBounds_toArray, List.set_cons_zero, List.set_cons_succ]
            refine wpAnyH_take (i := 1) (oi := ⟨some 213, _, _, _, _, _⟩) (v := .int .i64 n) rfl (by kernel_rfl) (by kernel_rfl) (by kernel_rfl) (fun _ _ _ h => h) (Or.inl ⟨by rfl, fun w hSw => by go_simp⟩) (by assumption) ?_
            try simp only [Act.put, List.setIfInBounds_toArray, List.set_cons_zero, List.set_cons_succ]
            refine wpAnyH_take (i := 2) (oi := ⟨some 214, _, _, _, _, _⟩) (v := .int .i64 (2 * n : Nat)) rfl (by kernel_rfl) (by kernel_rfl) (by kernel_rfl) (fun _ _ _ h => h) (Or.inl ⟨by rfl, fun w hSw => by go_simp; exact (IntWalk.i64_in _ ⟨by omega, by omega⟩).trans (by omega)⟩) (by assumption) ?_
            try simp only [Act.put, List.setIfInBounds_toArray, List.set_cons_zero, List.set_cons_succ]
            refine wpAnyH_take (i := 3) (oi := ⟨some 215, _, _, _, _, _⟩) (v := .bool false) rfl (by kernel_rfl) (by kernel_rfl) (by kernel_rfl) (fun _ _ _ h => h) (Or.inl ⟨by rfl, fun w hSw => by go_simp; omega⟩) (by assumption) ?_
            try simp only [Act.put, List.setIfInBounds_toArray, List.set_cons_zero, List.set_cons_succ]
            refine wpAnyH_take (i := 4) (oi := ⟨some 216, _, _, _, _, _⟩) (v := .bool true) rfl (by kernel_rfl) (by kernel_rfl) (by kernel_rfl) (fun _ _ _ h => h) (Or.inl ⟨by rfl, fun w hSw => by go_simp⟩) (by assumption) ?_
            try simp only [Act.put, List.setIfInBounds_toArray, List.set_cons_zero, List.set_cons_succ]
            refine wpAnyH_take (i := 5) (oi := ⟨some 217, _, _, _, _, _⟩) (v := .bool true) rfl (by kernel_rfl) (by kernel_rfl) (by kernel_rfl) (fun _ _ _ h => h) (Or.inl ⟨by rfl, fun w hSw => by go_simp⟩) (by assumption) ?_
            try simp only [Act.put, List.setIfInBounds_toArray, List.set_cons_zero, List.set_cons_succ]
            refine wpAnyH_take (i := 6) (oi := ⟨some 218, _, _, _, _, _⟩) (v := .bool false) rfl (by kernel_rfl) (by kernel_rfl) (by kernel_rfl) (fun _ _ _ h => h) (Or.inl ⟨by rfl, fun w hSw => by go_simp⟩) (by assumption) ?_
            try simp only [Act.put, List.setIfInBounds_toArray, List.set_cons_zero, List.set_cons_succ]
            refine wpAnyH_take (i := 7) (oi := ⟨some 219, _, _, _, _, _⟩) (v := .bool true) rfl (by kernel_rfl) (by kernel_rfl) (by kernel_rfl) (fun _ _ _ h => h) (Or.inl ⟨by rfl, fun w hSw => by go_simp⟩) (by assumption) ?_
            try simp only [Act.put, List.setIfInBounds_toArray, List.set_cons_zero, List.set_cons_succ]
            refine wpAnyH_take (i := 8) (oi := ⟨some 220, _, _, _, _, _⟩) (v := .bool true) rfl (by kernel_rfl) (by kernel_rfl) (by kernel_rfl) (fun _ _ _ h => h) (Or.inl ⟨by rfl, fun w hSw => by go_simp⟩) (by assumption) ?_
            try simp only [Act.put, List.setIfInBounds_toArray, List.set_cons_zero, List.set_cons_succ]
            refine wpAnyH_take (i := 9) (oi := ⟨some 221, _, _, _, _, _⟩) (v := undef) rfl (by kernel_rfl) (by kernel_rfl) (by kernel_rfl) (fun _ _ _ h => h) (Or.inr ⟨by rfl, rfl⟩) (by assumption) ?_
            try simp only [Act.put, List.setIfInBounds_toArray, List.set_cons_zero, List.set_cons_succ]
            refine wpAnyH_take (i := 10) (oi := ⟨some 222, _, _, _, _, _⟩) (v := undef) rfl (by kernel_rfl) (by kernel_rfl) (by kernel_rfl) (fun _ _ _ h => h) (Or.inr ⟨by rfl, rfl⟩) (by assumption) ?_
            try simp only [Act.put, List.setIfInBounds_toArray, List.set_cons_zero, List.set_cons_succ]
            refine wpAnyH_take (i := 11) (oi := ⟨some 223, _, _, _, _, _⟩) (v := undef) rfl (by kernel_rfl) (by kernel_rfl) (by kernel_rfl) (fun _ _ _ h => h) (Or.inr ⟨by rfl, rfl⟩) (by assumption) ?_
            try simp only [Act.put, List.setIfInBounds_toArray, List.set_cons_zero, List.set_cons_succ]
            refine wpAnyH_take (i := 12) (oi := ⟨some 224, _, _, _, _, _⟩) (v := undef) rfl (by kernel_rfl) (by kernel_rfl) (by kernel_rfl) (fun _ _ _ h => h) (Or.inr ⟨by rfl, rfl⟩) (by assumption) ?_
            try simp only [Act.put, List.setIfInBounds_toArray, List.set_cons_zero, List.set_cons_succ]
            refine wpAnyH_take (i := 13) (oi := ⟨some 225, _, _, _, _, _⟩) (v := undef) rfl (by kernel_rfl) (by kernel_rfl) (by kernel_rfl) (fun _ _ _ h => h) (Or.inr ⟨by rfl, rfl⟩) (by assumption) ?_
            try simp only [Act.put, List.setIfInBounds_toArray, List.set_cons_zero, List.set_cons_succ]
            refine wpAnyH_take (i := 14) (oi := ⟨some 226, _, _, _, _, _⟩) (v := undef) rfl (by kernel_rfl) (by kernel_rfl) (by kernel_rfl) (fun _ _ _ h => h) (Or.inr ⟨by rfl, rfl⟩) (by assumption) ?_
            try simp only [Act.put, List.setIfInBounds_toArray, List.set_cons_zero, List.set_cons_succ]
            refine wpAnyH_take (i := 15) (oi := ⟨some 227, _, _, _, _, _⟩) (v := undef) rfl (by kernel_rfl) (by kernel_rfl) (by kernel_rfl) (fun _ _ _ h => h) (Or.inr ⟨by rfl, rfl⟩) (by assumption) ?_
            try simp only [Act.put, List.setIfInBounds_toArray, List.set_cons_zero, List.set_cons_succ]
            refine wpAnyH_take (i := 16) (oi := ⟨some 228, _, _, _, _, _⟩) (v := undef) rfl (by kernel_rfl) (by kernel_rfl) (by kernel_rfl) (fun _ _ _ h => h) (Or.inr ⟨by rfl, rfl⟩) (by assumption) ?_
            try simp only [Act.put, List.setIfInBounds_toArray, List.set_cons_zero, List.set_cons_succ]
            refine wpAnyH_take (i := 17) (oi := ⟨some 229, _, _, _, _, _⟩) (v := undef) rfl (by kernel_rfl) (by kernel_rfl) (by kernel_rfl) (fun _ _ _ h => h) (Or.inr ⟨by rfl, rfl⟩) (by assumption) ?_
            try simp only [Act.put, List.setIfInBounds_toArray, List.set_cons_zero, List.set_cons_succ]
            refine wpAnyH_take (i := 18) (oi := ⟨some 230, _, _, _, _, _⟩) (v := undef) rfl (by kernel_rfl) (by kernel_rfl) (by kernel_rfl) (fun _ _ _ h => h) (Or.inr ⟨by rfl, rfl⟩) (by assumption) ?_
            try simp only [Act.put, List.setIfInBounds_toArray, List.set_cons_zero, List.set_cons_succ]
            refine wpAnyH_take (i := 19) (oi := ⟨some 231, _, _, _, _, _⟩) (v := undef) rfl (by kernel_rfl) (by kernel_rfl) (by kernel_rfl) (fun _ _ _ h => h) (Or.inr ⟨by rfl, rfl⟩) (by assumption) ?_
            try simp only [Act.put, List.setIfInBounds_toArray, List.set_cons_zero, List.set_cons_succ]
            refine wpAnyH_take (i := 20) (oi := ⟨some 232, _, _, _, _, _⟩) (v := undef) rfl (by kernel_rfl) (by kernel_rfl) (by kernel_rfl) (fun _ _ _ h => h) (Or.inr ⟨by rfl, rfl⟩) (by assumption) ?_
            try simp only [Act.put, List.setIfInBounds_toArray, List.set_cons_zero, List.set_cons_succ]
            refine wpAnyH_take (i := 21) (oi := ⟨some 233, _, _, _, _, _⟩) (v := undef) rfl (by kernel_rfl) (by kernel_rfl) (by kernel_rfl) (fun _ _ _ h => h) (Or.inr ⟨by rfl, rfl⟩) (by assumption) ?_
            try simp only [Act.put, List.setIfInBounds_toArray, List.set_cons_zero, List.set_cons_succ]
            refine wpAnyH_take (i := 22) (oi := ⟨some 234, _, _, _, _, _⟩) (v := undef) rfl (by kernel_rfl) (by kernel_rfl) (by kernel_rfl) (fun _ _ _ h => h) (Or.inr ⟨by rfl, rfl⟩) (by assumption) ?_
            try simp only [Act.put, List.setIfInBounds_toArray, List.set_cons_zero, List.set_cons_succ]
            refine wpAnyH_take (i := 23) (oi := ⟨some 235, _, _, _, _, _⟩) (v := .bool true) rfl (by kernel_rfl) (by kernel_rfl) (by kernel_rfl) (fun _ _ _ h => h) (Or.inl ⟨by rfl, fun w hSw => by go_simp⟩) (by assumption) ?_
            try simp only [Act.put, List.setIfInBounds_toArray, List.set_cons_zero, List.set_cons_succ]
            refine wpAnyH_take (i := 24) (oi := ⟨some 236, _, _, _, _, _⟩) (v := .bool true) rfl (by kernel_rfl) (by kernel_rfl) (by kernel_rfl) (fun _ _ _ h => h) (Or.inl ⟨by rfl, fun w hSw => by go_simp⟩) (by assumption) ?_
            try simp only [Act.put, List.setIfInBounds_toArray, List.set_cons_zero, List.set_cons_succ]
            refine wpAnyH_take (i := 25) (oi := ⟨some 237, _, _, _, _, _⟩) (v := .bool true) rfl (by kernel_rfl) (by kernel_rfl) (by kernel_rfl) (fun _ _ _ h => h) (Or.inl ⟨by rfl, fun w hSw => by go_simp⟩) (by assumption) ?_
            try simp only [Act.put, List.setIfInBounds_toArray, List.set_cons_zero, List.set_cons_succ]
            refine wpAnyH_take (i := 26) (oi := ⟨some 238, _, _, _, _, _⟩) (v := .agg #[.int .i64 (n : Nat), .slice b zs.length c]) rfl (by kernel_rfl) (by kernel_rfl) (by kernel_rfl) (fun _ _ _ h => h) (Or.inl ⟨by rfl, fun w hSw => by obtain ⟨q1, q2, _⟩ := hSw; go_simp⟩) (by assumption) ?_
            try simp only [Act.put, List.setIfInBounds_toArray, List.set_cons_zero, List.set_cons_succ]
            refine wpAnyH_ready (rs := [27]) (by kernel_rfl) (by simp) ?_
            refine AllReadyH.cons rfl (fun K hKK => ?_) AllReadyH.nil
            go_simp
            go_at_call 23
            refine (r_ok n b c zs _ (HIr.out _ (Below.refl _ _).drew) HO.out).mono ?_
            rintro e wk1 ⟨rfl, hc1⟩
            have hbb1 : Below (v141.alloc (.cells #[.int .i64 0, .slice bx 0 cx] 25)).heap.size (v141.alloc (.cells #[.int .i64 0, .slice bx 0 cx] 25)) wk1 := (Below.refl _ _).drew.trans hc1
            clear hc1
            refine hKK.out _ _ (HK.out _ hbb1) (fun hSS1 => ?_)
            clear hKK K hSS0
            try simp only [Act.put, List.setIfInBounds_toArray, List.set_cons_zero, List.set_cons_succ]
            refine wpAnyH_take (i := 28) (oi := ⟨some 240, _, _, _, _, _⟩) (v := .bool true) rfl (by kernel_rfl) (by kernel_rfl) (by kernel_rfl) (fun _ _ _ h => h) (Or.inl ⟨by rfl, fun w hSw => by go_simp⟩) (by assumption) ?_
            try simp only [Act.put, List.setIfInBounds_toArray, List.set_cons_zero, List.set_cons_succ]
            refine wpAnyH_take (i := 29) (oi := ⟨some 2, _, _, _, _, _⟩) (v := .bool true) rfl (by kernel_rfl) (by kernel_rfl) (by kernel_rfl) (fun _ _ _ h => h) (Or.inl ⟨by rfl, fun w hSw => by go_simp⟩) (by assumption) ?_
            try simp only [Act.put, List.setIfInBounds_toArray, List.set_cons_zero, List.set_cons_succ]
            refine wpAnyH_done (by kernel_rfl) ?_ _
            clear HK
            go_wp2
            go_ret
            exact ⟨rfl, HB142x.out.trans (hbb1.mono HB142x.out.size)⟩
        · have HGC := Lib.hid hg
          obtain ⟨g, hgg⟩ : ∃ g : Int, (Nat.gcd u n : Int) = g := ⟨_, rfl⟩
          have HGI := Lib.hid hgg
          have hg1 : (g == 1) = false := by simp; intro q; apply hg; omega
          clear hgg hg
          obtain ⟨pr0, pr1, pr2, pr3⟩ := HXr117.out.1.facts
          have ltr := HXr117.out.1.lt
          go_wp2_with fail
          try rw [HMX.out]
          try rw [HUW.out]
          try rw [HUQ.out]
          refine (r_str_no n b c zs u v117 HXr117.out.2 HO.out hu2 HU3.out HGC.out).mono ?_
          rintro e v168 ⟨bs, cs, rfl, hown, hb⟩
          clear pr0 pr1 pr2 pr3 ltr
          have HXr168 := Lib.hid (HXr117.out.keep hb)
          clear HXr117
          have HXa168 := Lib.hid (HXa117.out.keep hb)
          clear HXa117
          have HXm168 := Lib.hid (HXm117.out.keep hb)
          clear HXm117
          have HXo168 := Lib.hid (HXo117.out.keep hb)
          clear HXo117
          have HXl168 := Lib.hid (HXl117.out.keep hb)
          clear HXl117
          have HB168x := Lib.hid (show Below w.heap.size w v168 from HB117x.out.trans (hb.mono HB117x.out.size))
          clear HB117x hb
          clear hown
          have hb := bel1 v168 (.cells #[.int .i64 0, .slice bs 0 cs] 25)
          have HXr169 := Lib.hid (HXr168.out.keep hb)
          clear HXr168
          have HXa169 := Lib.hid (HXa168.out.keep hb)
          clear HXa168
          have HXm169 := Lib.hid (HXm168.out.keep hb)
          clear HXm168
          have HXo169 := Lib.hid (HXo168.out.keep hb)
          clear HXo168
          have HXl169 := Lib.hid (HXl168.out.keep hb)
          clear HXl168
          have HB169x := Lib.hid (show Below w.heap.size w (v168.alloc (.cells #[.int .i64 0, .slice bs 0 cs] 25)) from HB168x.out.trans (hb.mono HB168x.out.size))
          clear HB168x hb
          have HK : Hid (∀ W' : World, Below (v168.alloc (.cells #[.int .i64 0, .slice bs 0 cs] 25)).heap.size (v168.alloc (.cells #[.int .i64 0, .slice bs 0 cs] 25)) W' → W'.cell? ⟨w1.heap.size, 0, none⟩ = some (.int .i64 (n : Nat)) ∧ W'.cell? ⟨w1.heap.size, 1, none⟩ = some (.slice b zs.length c) ∧ W'.cell? ⟨v115.heap.size, 0, none⟩ = some (.int .i64 (n : Nat)) ∧ W'.cell? ⟨v115.heap.size, 1, none⟩ = some (.slice bl ll.length cl) ∧ Below (v168.alloc (.cells #[.int .i64 0, .slice bs 0 cs] 25)).heap.size (v168.alloc (.cells #[.int .i64 0, .slice bs 0 cs] 25)) W') :=
            Lib.hid (fun W' hW => ⟨(HXr169.out.keep hW).1.facts.1, (HXr169.out.keep hW).1.facts.2.1, (HXl169.out.keep hW).1.facts.1, (HXl169.out.keep hW).1.facts.2.1, hW⟩)
          have HIr : Hid (∀ W' : World, Below (v168.alloc (.cells #[.int .i64 0, .slice bs 0 cs] 25)).heap.size (v168.alloc (.cells #[.int .i64 0, .slice bs 0 cs] 25)) W' → IntsAt W' b zs.length zs) := Lib.hid (fun W' hW => (HXr169.out.keep hW).2)
          have HIl : Hid (∀ W' : World, Below (v168.alloc (.cells #[.int .i64 0, .slice bs 0 cs] 25)).heap.size (v168.alloc (.cells #[.int .i64 0, .slice bs 0 cs] 25)) W' → IntsAt W' bl ll.length ll) := Lib.hid (fun W' hW => (HXl169.out.keep hW).2)
          go_upto_region 22 with fail
          refine wp_region_held_drew (S := fun W' => W'.cell? ⟨w1.heap.size, 0, none⟩ = some (.int .i64 (n : Nat)) ∧ W'.cell? ⟨w1.heap.size, 1, none⟩ = some (.slice b zs.length c) ∧ W'.cell? ⟨v115.heap.size, 0, none⟩ = some (.int .i64 (n : Nat)) ∧ W'.cell? ⟨v115.heap.size, 1, none⟩ = some (.slice bl ll.length cl) ∧ Below (v168.alloc (.cells #[.int .i64 0, .slice bs 0 cs] 25)).heap.size (v168.alloc (.cells #[.int .i64 0, .slice bs 0 cs] 25)) W') (by kernel_rfl) (HK.out _ (Below.refl _ _).drew) (fun hSS0 => ?_)
          refine wpAnyH_take (i := 0) (oi := ⟨some 180, _, _, _, _, _⟩) (v := .bool true) rfl (by kernel_rfl) (by kernel_rfl) (by kernel_rfl) (fun _ _ _ h => h) (Or.inl ⟨by rfl, fun w hSw => by go_simp⟩) (by assumption) ?_
          try simp only [Act.put, List.setIfInBounds_toArray, List.set_cons_zero, List.set_cons_succ]
          refine wpAnyH_take (i := 1) (oi := ⟨some 181, _, _, _, _, _⟩) (v := .bool false) rfl (by kernel_rfl) (by kernel_rfl) (by kernel_rfl) (fun _ _ _ h => h) (Or.inl ⟨by rfl, fun w hSw => by go_simp⟩) (by assumption) ?_
          try simp only [Act.put, List.setIfInBounds_toArray, List.set_cons_zero, List.set_cons_succ]
          refine wpAnyH_take (i := 2) (oi := ⟨some 182, _, _, _, _, _⟩) (v := .bool false) rfl (by kernel_rfl) (by kernel_rfl) (by kernel_rfl) (fun _ _ _ h => h) (Or.inl ⟨by rfl, fun w hSw => by go_simp⟩) (by assumption) ?_
          try simp only [Act.put, List.setIfInBounds_toArray, List.set_cons_zero, List.set_cons_succ]
          refine wpAnyH_take (i := 3) (oi := ⟨some 183, _, _, _, _, _⟩) (v := .agg #[.int .i64 (n : Nat), .slice bl ll.length cl]) rfl (by kernel_rfl) (by kernel_rfl) (by kernel_rfl) (fun _ _ _ h => h) (Or.inl ⟨by rfl, fun w hSw => by obtain ⟨_, _, q1, q2, _⟩ := hSw; go_simp⟩) (by assumption) ?_
          try simp only [Act.put, List.setIfInBounds_toArray, List.set_cons_zero, List.set_cons_succ]
          refine wpAnyH_take (i := 5) (oi := ⟨some 185, _, _, _, _, _⟩) (v := .int .i64 n) rfl (by kernel_rfl) (by kernel_rfl) (by kernel_rfl) (fun _ _ _ h => h) (Or.inl ⟨by rfl, fun w hSw => by go_simp⟩) (by assumption) ?_
          try simp only [Act.put, List.setIfInBounds_toArray, List.set_cons_zero, List.set_cons_succ]
          refine wpAnyH_ready (rs := [4]) (by kernel_rfl) (by simp) ?_
          refine AllReadyH.cons rfl (fun K hKK => ?_) AllReadyH.nil
          go_simp
          go_at_call 16
          refine (r_cnt n bl cl ll (n : Nat) _ (HIl.out _ (Below.refl _ _).drew) HOl.out HNL.out).mono ?_
          rintro e wk1 ⟨rfl, hc1⟩
          have hbb1 : Below (v168.alloc (.cells #[.int .i64 0, .slice bs 0 cs] 25)).heap.size (v168.alloc (.cells #[.int .i64 0, .slice bs 0 cs] 25)) wk1 := (Below.refl _ _).drew.trans hc1
          clear hc1
          refine hKK.out _ _ (HK.out _ hbb1) (fun hSS1 => ?_)
          clear hKK K hSS0
          try simp only [Act.put, List.setIfInBounds_toArray, List.set_cons_zero, List.set_cons_succ]
          refine wpAnyH_take (i := 6) (oi := ⟨some 186, _, _, _, _, _⟩) (v := .bool false) rfl (by kernel_rfl) (by kernel_rfl) (by kernel_rfl) (fun _ _ _ h => h) (Or.inl ⟨by rfl, fun w hSw => by go_simp⟩) (by assumption) ?_
          try simp only [Act.put, List.setIfInBounds_toArray, List.set_cons_zero, List.set_cons_succ]
          refine wpAnyH_take (i := 7) (oi := ⟨some 187, _, _, _, _, _⟩) (v := .bool false) rfl (by kernel_rfl) (by kernel_rfl) (by kernel_rfl) (fun _ _ _ h => h) (Or.inl ⟨by rfl, fun w hSw => by go_simp⟩) (by assumption) ?_
          try simp only [Act.put, List.setIfInBounds_toArray, List.set_cons_zero, List.set_cons_succ]
          refine wpAnyH_take (i := 8) (oi := ⟨some 188, _, _, _, _, _⟩) (v := .bool false) rfl (by kernel_rfl) (by kernel_rfl) (by kernel_rfl) (fun _ _ _ h => h) (Or.inl ⟨by rfl, fun w hSw => by go_simp⟩) (by assumption) ?_
          try simp only [Act.put, List.setIfInBounds_toArray, List.set_cons_zero, List.set_cons_succ]
          refine wpAnyH_take (i := 9) (oi := ⟨some 189, _, _, _, _, _⟩) (v := .bool false) rfl (by kernel_rfl) (by kernel_rfl) (by kernel_rfl) (fun _ _ _ h => h) (Or.inl ⟨by rfl, fun w hSw => by go_simp⟩) (by assumption) ?_
          try simp only [Act.put, List.setIfInBounds_toArray, List.set_cons_zero, List.set_cons_succ]
          refine wpAnyH_take (i := 10) (oi := ⟨some 190, _, _, _, _, _⟩) (v := .int .i64 u) rfl (by kernel_rfl) (by kernel_rfl) (by kernel_rfl) (fun _ _ _ h => h) (Or.inl ⟨by rfl, fun w hSw => by go_simp⟩) (by assumption) ?_
          try simp only [Act.put, List.setIfInBounds_toArray, List.set_cons_zero, List.set_cons_succ]
          refine wpAnyH_take (i := 11) (oi := ⟨some 191, _, _, _, _, _⟩) (v := .int .i64 n) rfl (by kernel_rfl) (by kernel_rfl) (by kernel_rfl) (fun _ _ _ h => h) (Or.inl ⟨by rfl, fun w hSw => by go_simp⟩) (by assumption) ?_
          try simp only [Act.put, List.setIfInBounds_toArray, List.set_cons_zero, List.set_cons_succ]
          refine wpAnyH_ready (rs := [12]) (by kernel_rfl) (by simp) ?_
          refine AllReadyH.cons rfl (fun K hKK => ?_) AllReadyH.nil
          go_simp
          go_at_call 20
          refine (r_gcd u n g _ (by omega) (by omega) HGI.out).mono ?_
          rintro e wk2 ⟨rfl, hc2⟩
          have hbb2 : Below (v168.alloc (.cells #[.int .i64 0, .slice bs 0 cs] 25)).heap.size (v168.alloc (.cells #[.int .i64 0, .slice bs 0 cs] 25)) wk2 := hbb1.trans (hc2.mono hbb1.size)
          clear hc2
          refine hKK.out _ _ (HK.out _ hbb2) (fun hSS2 => ?_)
          clear hKK K hbb1 hSS1
          try simp only [Act.put, List.setIfInBounds_toArray, List.set_cons_zero, List.set_cons_succ]
          refine wpAnyH_take (i := 13) (oi := ⟨some 193, _, _, _, _, _⟩) (v := .bool false) rfl (by kernel_rfl) (by kernel_rfl) (by kernel_rfl) (fun _ _ _ h => h) (Or.inl ⟨by rfl, fun w hSw => by go_simp⟩) (by assumption) ?_
          try simp only [Act.put, List.setIfInBounds_toArray, List.set_cons_zero, List.set_cons_succ]
          refine wpAnyH_take (i := 14) (oi := ⟨some 194, _, _, _, _, _⟩) (v := .bool false) rfl (by kernel_rfl) (by kernel_rfl) (by kernel_rfl) (fun _ _ _ h => h) (Or.inl ⟨by rfl, fun w hSw => by go_simp⟩) (by assumption) ?_
          try simp only [Act.put, List.setIfInBounds_toArray, List.set_cons_zero, List.set_cons_succ]
          refine wpAnyH_take (i := 15) (oi := ⟨some 195, _, _, _, _, _⟩) (v := .bool false) rfl (by kernel_rfl) (by kernel_rfl) (by kernel_rfl) (fun _ _ _ h => h) (Or.inl ⟨by rfl, fun w hSw => by go_simp⟩) (by assumption) ?_
          try simp only [Act.put, List.setIfInBounds_toArray, List.set_cons_zero, List.set_cons_succ]
          refine wpAnyH_take (i := 16) (oi := ⟨some 196, _, _, _, _, _⟩) (v := .bool false) rfl (by kernel_rfl) (by kernel_rfl) (by kernel_rfl) (fun _ _ _ h => h) (Or.inl ⟨by rfl, fun w hSw => by go_simp⟩) (by assumption) ?_
          try simp only [Act.put, List.setIfInBounds_toArray, List.set_cons_zero, List.set_cons_succ]
          refine wpAnyH_take (i := 17) (oi := ⟨some 197, _, _, _, _, _⟩) (v := .bool false) rfl (by kernel_rfl) (by kernel_rfl) (by kernel_rfl) (fun _ _ _ h => h) (Or.inl ⟨by rfl, fun w hSw => by go_simp⟩) (by assumption) ?_
          try simp only [Act.put, List.setIfInBounds_toArray, List.set_cons_zero, List.set_cons_succ]
          refine wpAnyH_take (i := 18) (oi := ⟨some 198, _, _, _, _, _⟩) (v := .bool false) rfl (by kernel_rfl) (by kernel_rfl) (by kernel_rfl) (fun _ _ _ h => h) (Or.inl ⟨by rfl, fun w hSw => by go_simp⟩) (by assumption) ?_
          try simp only [Act.put, List.setIfInBounds_toArray, List.set_cons_zero, List.set_cons_succ]
          refine wpAnyH_take (i := 19) (oi := ⟨some 199, _, _, _, _, _⟩) (v := undef) rfl (by kernel_rfl) (by kernel_rfl) (by kernel_rfl) (fun _ _ _ h => h) (Or.inr ⟨by rfl, rfl⟩) (by assumption) ?_
          try simp only [Act.put, List.setIfInBounds_toArray, List.set_cons_zero, List.set_cons_succ]
          refine wpAnyH_take (i := 20) (oi := ⟨some 200, _, _, _, _, _⟩) (v := undef) rfl (by kernel_rfl) (by kernel_rfl) (by kernel_rfl) (fun _ _ _ h => h) (Or.inr ⟨by rfl, rfl⟩) (by assumption) ?_
          try simp only [Act.put, List.setIfInBounds_toArray, List.set_cons_zero, List.set_cons_succ]
          refine wpAnyH_take (i := 21) (oi := ⟨some 201, _, _, _, _, _⟩) (v := undef) rfl (by kernel_rfl) (by kernel_rfl) (by kernel_rfl) (fun _ _ _ h => h) (Or.inr ⟨by rfl, rfl⟩) (by assumption) ?_
          try simp only [Act.put, List.setIfInBounds_toArray, List.set_cons_zero, List.set_cons_succ]
          refine wpAnyH_take (i := 22) (oi := ⟨some 202, _, _, _, _, _⟩) (v := undef) rfl (by kernel_rfl) (by kernel_rfl) (by kernel_rfl) (fun _ _ _ h => h) (Or.inr ⟨by rfl, rfl⟩) (by assumption) ?_
          try simp only [Act.put, List.setIfInBounds_toArray, List.set_cons_zero, List.set_cons_succ]
          refine wpAnyH_take (i := 23) (oi := ⟨some 203, _, _, _, _, _⟩) (v := undef) rfl (by kernel_rfl) (by kernel_rfl) (by kernel_rfl) (fun _ _ _ h => h) (Or.inr ⟨by rfl, rfl⟩) (by assumption) ?_
          try simp only [Act.put, List.setIfInBounds_toArray, List.set_cons_zero, List.set_cons_succ]
          refine wpAnyH_take (i := 24) (oi := ⟨some 204, _, _, _, _, _⟩) (v := undef) rfl (by kernel_rfl) (by kernel_rfl) (by kernel_rfl) (fun _ _ _ h => h) (Or.inr ⟨by rfl, rfl⟩) (by assumption) ?_
          try simp only [Act.put, List.setIfInBounds_toArray, List.set_cons_zero, List.set_cons_succ]
          refine wpAnyH_take (i := 25) (oi := ⟨some 205, _, _, _, _, _⟩) (v := .bool false) rfl (by kernel_rfl) (by kernel_rfl) (by kernel_rfl) (fun _ _ _ h => h) (Or.inl ⟨by rfl, fun w hSw => by go_simp⟩) (by assumption) ?_
          try simp only [Act.put, List.setIfInBounds_toArray, List.set_cons_zero, List.set_cons_succ]
          refine wpAnyH_take (i := 26) (oi := ⟨some 206, _, _, _, _, _⟩) (v := .bool false) rfl (by kernel_rfl) (by kernel_rfl) (by kernel_rfl) (fun _ _ _ h => h) (Or.inl ⟨by rfl, fun w hSw => by go_simp⟩) (by assumption) ?_
          try simp only [Act.put, List.setIfInBounds_toArray, List.set_cons_zero, List.set_cons_succ]
          refine wpAnyH_done (by kernel_rfl) ?_ _
          clear HK
          clear HIr HIl hSS2
          have hb := hbb2
          clear hbb2
          have HXr170 := Lib.hid (HXr169.out.keep hb)
          clear HXr169
          have HXa170 := Lib.hid (HXa169.out.keep hb)
          clear HXa169
          have HXm170 := Lib.hid (HXm169.out.keep hb)
          clear HXm169
          have HXo170 := Lib.hid (HXo169.out.keep hb)
          clear HXo169
          have HXl170 := Lib.hid (HXl169.out.keep hb)
          clear HXl169
          have HB170x := Lib.hid (show Below w.heap.size w wk2 from HB169x.out.trans (hb.mono HB169x.out.size))
          clear HB169x hb
          by_cases h2n : 2 * n ≤ 24
          · have H2N := Lib.hid h2n
            have h2w : wrap64 (2 * (n : Int)) = ((2 * n : Nat) : Int) := by unfold wrap64; omega
            obtain ⟨lx, hlx⟩ : ∃ l, repL n zs 2 = l := ⟨_, rfl⟩
            have HELX := Lib.hid hlx
            have HOx : Hid (Ok (2 * n : Nat) lx) := Lib.hid (by rw [← hlx]; have := rep_ok HO.out (by omega : 2 * (n : Int) ≤ 24); rwa [show (2 : Int) * (n : Int) = ((2 * n : Nat) : Int) by omega] at this)
            have HNX : Hid ((lx.length : Int) = (2 * zs.length : Nat)) := Lib.hid (by rw [← hlx, rep_len])
            obtain ⟨p', hp'⟩ : ∃ p, perZ n zs = p := ⟨_, rfl⟩
            have HPR := Lib.hid hp'
            have HPX : Hid (perZ (2 * n : Nat) lx = p') := Lib.hid (by rw [← hlx, ← hp']; have := rep_per HO.out (by omega : 2 * (n : Int) ≤ 24); rwa [show (2 : Int) * (n : Int) = ((2 * n : Nat) : Int) by omega] at this)
            clear hlx hp'
            have hlw : wrap64 (2 * (zs.length : Int)) = ((2 * zs.length : Nat) : Int) := by have := HLZ.out; unfold wrap64; omega
            have hle : decide (((2 * n : Nat) : Int) ≤ 24) = true := by simp; omega
            obtain ⟨pr0, pr1, pr2, pr3⟩ := HXr170.out.1.facts
            have ltr := HXr170.out.1.lt
            go_wp2_with fail
            refine (r_rep_yes n b c zs lx wk2 HXr170.out.2 HO.out H2N.out HELX.out).mono ?_
            rintro e v171 ⟨bx, cx, rfl, hown, hb⟩
            clear pr0 pr1 pr2 pr3 ltr
            have HXr171 := Lib.hid (HXr170.out.keep hb)
            clear HXr170
            have HXa171 := Lib.hid (HXa170.out.keep hb)
            clear HXa170
            have HXm171 := Lib.hid (HXm170.out.keep hb)
            clear HXm170
            have HXo171 := Lib.hid (HXo170.out.keep hb)
            clear HXo170
            have HXl171 := Lib.hid (HXl170.out.keep hb)
            clear HXl170
            have HB171x := Lib.hid (show Below w.heap.size w v171 from HB170x.out.trans (hb.mono HB170x.out.size))
            clear HB170x hb
            have HXn := Lib.hid (rhAt_put (n := 2 * n) hown (ok_allInt HOx.out))
            clear hown
            have hb := putR_below v171 (2 * n) bx lx.length cx
            have HXr172 := Lib.hid (HXr171.out.keep hb)
            clear HXr171
            have HXa172 := Lib.hid (HXa171.out.keep hb)
            clear HXa171
            have HXm172 := Lib.hid (HXm171.out.keep hb)
            clear HXm171
            have HXo172 := Lib.hid (HXo171.out.keep hb)
            clear HXo171
            have HXl172 := Lib.hid (HXl171.out.keep hb)
            clear HXl171
            have HB172x := Lib.hid (show Below w.heap.size w (putR v171 (2 * n) bx lx.length cx) from HB171x.out.trans (hb.mono HB171x.out.size))
            clear HB171x hb
            have HXx172 : Hid (RhAt (putR v171 (2 * n) bx lx.length cx) v171.heap.size (2 * n) bx cx lx) := HXn
            clear HXn
            have HK : Hid (∀ W' : World, Below (putR v171 (2 * n) bx lx.length cx).heap.size (putR v171 (2 * n) bx lx.length cx) W' → W'.cell? ⟨w1.heap.size, 0, none⟩ = some (.int .i64 (n : Nat)) ∧ W'.cell? ⟨w1.heap.size, 1, none⟩ = some (.slice b zs.length c) ∧ W'.cell? ⟨v171.heap.size, 0, none⟩ = some (.int .i64 (2 * n : Nat)) ∧ W'.cell? ⟨v171.heap.size, 1, none⟩ = some (.slice bx lx.length cx) ∧ Below (putR v171 (2 * n) bx lx.length cx).heap.size (putR v171 (2 * n) bx lx.length cx) W') :=
              Lib.hid (fun W' hW => ⟨(HXr172.out.keep hW).1.facts.1, (HXr172.out.keep hW).1.facts.2.1, (HXx172.out.keep hW).1.facts.1, (HXx172.out.keep hW).1.facts.2.1, hW⟩)
            have HIr : Hid (∀ W' : World, Below (putR v171 (2 * n) bx lx.length cx).heap.size (putR v171 (2 * n) bx lx.length cx) W' → IntsAt W' b zs.length zs) := Lib.hid (fun W' hW => (HXr172.out.keep hW).2)
            have HIx : Hid (∀ W' : World, Below (putR v171 (2 * n) bx lx.length cx).heap.size (putR v171 (2 * n) bx lx.length cx) W' → IntsAt W' bx lx.length lx) := Lib.hid (fun W' hW => (HXx172.out.keep hW).2)
            go_upto_region 25 with fail
            refine wp_region_held_drew (S := fun W' => W'.cell? ⟨w1.heap.size, 0, none⟩ = some (.int .i64 (n : Nat)) ∧ W'.cell? ⟨w1.heap.size, 1, none⟩ = some (.slice b zs.length c) ∧ W'.cell? ⟨v171.heap.size, 0, none⟩ = some (.int .i64 (2 * n : Nat)) ∧ W'.cell? ⟨v171.heap.size, 1, none⟩ = some (.slice bx lx.length cx) ∧ Below (putR v171 (2 * n) bx lx.length cx).heap.size (putR v171 (2 * n) bx lx.length cx) W') (by kernel_rfl) (HK.out _ (Below.refl _ _).drew) (fun hSS0 => ?_)
            refine wpAnyH_take (i := 0) (oi := ⟨some 212, _, _, _, _, _⟩) (v := .bool true) rfl (by kernel_rfl) (by kernel_rfl) (by kernel_rfl) (fun _ _ _ h => h) (Or.inl ⟨by rfl, fun w hSw => by go_simp⟩) (by assumption) ?_
            try simp only [Act.put, List.setIfInBounds_toArray, List.set_cons_zero, List.set_cons_succ]
            refine wpAnyH_take (i := 1) (oi := ⟨some 213, _, _, _, _, _⟩) (v := .int .i64 n) rfl (by kernel_rfl) (by kernel_rfl) (by kernel_rfl) (fun _ _ _ h => h) (Or.inl ⟨by rfl, fun w hSw => by go_simp⟩) (by assumption) ?_
            try simp only [Act.put, List.setIfInBounds_toArray, List.set_cons_zero, List.set_cons_succ]
            refine wpAnyH_take (i := 2) (oi := ⟨some 214, _, _, _, _, _⟩) (v := .int .i64 (2 * n : Nat)) rfl (by kernel_rfl) (by kernel_rfl) (by kernel_rfl) (fun _ _ _ h => h) (Or.inl ⟨by rfl, fun w hSw => by go_simp; exact (IntWalk.i64_in _ ⟨by omega, by omega⟩).trans (by omega)⟩) (by assumption) ?_
            try simp only [Act.put, List.setIfInBounds_toArray, List.set_cons_zero, List.set_cons_succ]
            refine wpAnyH_take (i := 3) (oi := ⟨some 215, _, _, _, _, _⟩) (v := .bool true) rfl (by kernel_rfl) (by kernel_rfl) (by kernel_rfl) (fun _ _ _ h => h) (Or.inl ⟨by rfl, fun w hSw => by go_simp; omega⟩) (by assumption) ?_
            try simp only [Act.put, List.setIfInBounds_toArray, List.set_cons_zero, List.set_cons_succ]
            refine wpAnyH_take (i := 4) (oi := ⟨some 216, _, _, _, _, _⟩) (v := .bool true) rfl (by kernel_rfl) (by kernel_rfl) (by kernel_rfl) (fun _ _ _ h => h) (Or.inl ⟨by rfl, fun w hSw => by go_simp⟩) (by assumption) ?_
            try simp only [Act.put, List.setIfInBounds_toArray, List.set_cons_zero, List.set_cons_succ]
            refine wpAnyH_take (i := 5) (oi := ⟨some 217, _, _, _, _, _⟩) (v := .bool true) rfl (by kernel_rfl) (by kernel_rfl) (by kernel_rfl) (fun _ _ _ h => h) (Or.inl ⟨by rfl, fun w hSw => by go_simp⟩) (by assumption) ?_
            try simp only [Act.put, List.setIfInBounds_toArray, List.set_cons_zero, List.set_cons_succ]
            refine wpAnyH_take (i := 6) (oi := ⟨some 218, _, _, _, _, _⟩) (v := .bool true) rfl (by kernel_rfl) (by kernel_rfl) (by kernel_rfl) (fun _ _ _ h => h) (Or.inl ⟨by rfl, fun w hSw => by go_simp⟩) (by assumption) ?_
            try simp only [Act.put, List.setIfInBounds_toArray, List.set_cons_zero, List.set_cons_succ]
            refine wpAnyH_take (i := 7) (oi := ⟨some 219, _, _, _, _, _⟩) (v := .bool false) rfl (by kernel_rfl) (by kernel_rfl) (by kernel_rfl) (fun _ _ _ h => h) (Or.inl ⟨by rfl, fun w hSw => by go_simp⟩) (by assumption) ?_
            try simp only [Act.put, List.setIfInBounds_toArray, List.set_cons_zero, List.set_cons_succ]
            refine wpAnyH_take (i := 8) (oi := ⟨some 220, _, _, _, _, _⟩) (v := .bool false) rfl (by kernel_rfl) (by kernel_rfl) (by kernel_rfl) (fun _ _ _ h => h) (Or.inl ⟨by rfl, fun w hSw => by go_simp⟩) (by assumption) ?_
            try simp only [Act.put, List.setIfInBounds_toArray, List.set_cons_zero, List.set_cons_succ]
            refine wpAnyH_take (i := 9) (oi := ⟨some 221, _, _, _, _, _⟩) (v := .agg #[.int .i64 (2 * n : Nat), .slice bx lx.length cx]) rfl (by kernel_rfl) (by kernel_rfl) (by kernel_rfl) (fun _ _ _ h => h) (Or.inl ⟨by rfl, fun w hSw => by obtain ⟨_, _, q1, q2, _⟩ := hSw; go_simp⟩) (by assumption) ?_
            try simp only [Act.put, List.setIfInBounds_toArray, List.set_cons_zero, List.set_cons_succ]
            refine wpAnyH_take (i := 11) (oi := ⟨some 223, _, _, _, _, _⟩) (v := .pointer (some ⟨w1.heap.size, 1, none⟩)) rfl (by kernel_rfl) (by kernel_rfl) (by kernel_rfl) (fun _ _ _ h => h) (Or.inl ⟨by rfl, fun w hSw => by go_simp⟩) (by assumption) ?_
            try simp only [Act.put, List.setIfInBounds_toArray, List.set_cons_zero, List.set_cons_succ]
            refine wpAnyH_take (i := 12) (oi := ⟨some 224, _, _, _, _, _⟩) (v := .slice b zs.length c) rfl (by kernel_rfl) (by kernel_rfl) (by kernel_rfl) (fun _ _ _ h => h) (Or.inl ⟨by rfl, fun w hSw => by obtain ⟨q1, q2, _⟩ := hSw; go_simp⟩) (by assumption) ?_
            try simp only [Act.put, List.setIfInBounds_toArray, List.set_cons_zero, List.set_cons_succ]
            refine wpAnyH_take (i := 13) (oi := ⟨some 225, _, _, _, _, _⟩) (v := .int .i64 (zs.length : Nat)) rfl (by kernel_rfl) (by kernel_rfl) (by kernel_rfl) (fun _ _ _ h => h) (Or.inl ⟨by rfl, fun w hSw => by go_simp⟩) (by assumption) ?_
            try simp only [Act.put, List.setIfInBounds_toArray, List.set_cons_zero, List.set_cons_succ]
            refine wpAnyH_take (i := 14) (oi := ⟨some 226, _, _, _, _, _⟩) (v := .int .i64 (2 * zs.length : Nat)) rfl (by kernel_rfl) (by kernel_rfl) (by kernel_rfl) (fun _ _ _ h => h) (Or.inl ⟨by rfl, fun w hSw => by have h9 := HLZ.out; go_simp; exact (IntWalk.i64_in _ ⟨by omega, by omega⟩).trans (by omega)⟩) (by assumption) ?_
            try simp only [Act.put, List.setIfInBounds_toArray, List.set_cons_zero, List.set_cons_succ]
            refine wpAnyH_ready (rs := [10]) (by kernel_rfl) (by simp) ?_
            refine AllReadyH.cons rfl (fun K hKK => ?_) AllReadyH.nil
            go_simp
            go_at_call 16
            refine (r_cnt (2 * n) bx cx lx (2 * zs.length : Nat) _ (HIx.out _ (Below.refl _ _).drew) HOx.out HNX.out).mono ?_
            rintro e wk1 ⟨rfl, hc1⟩
            have hbb1 : Below (putR v171 (2 * n) bx lx.length cx).heap.size (putR v171 (2 * n) bx lx.length cx) wk1 := (Below.refl _ _).drew.trans hc1
            clear hc1
            refine hKK.out _ _ (HK.out _ hbb1) (fun hSS1 => ?_)
            clear hKK K hSS0
            try simp only [Act.put, List.setIfInBounds_toArray, List.set_cons_zero, List.set_cons_succ]
            refine wpAnyH_take (i := 15) (oi := ⟨some 227, _, _, _, _, _⟩) (v := .bool true) rfl (by kernel_rfl) (by kernel_rfl) (by kernel_rfl) (fun _ _ _ h => h) (Or.inl ⟨by rfl, fun w hSw => by go_simp⟩) (by assumption) ?_
            try simp only [Act.put, List.setIfInBounds_toArray, List.set_cons_zero, List.set_cons_succ]
            refine wpAnyH_take (i := 16) (oi := ⟨some 228, _, _, _, _, _⟩) (v := .bool true) rfl (by kernel_rfl) (by kernel_rfl) (by kernel_rfl) (fun _ _ _ h => h) (Or.inl ⟨by rfl, fun w hSw => by go_simp⟩) (by assumption) ?_
            try simp only [Act.put, List.setIfInBounds_toArray, List.set_cons_zero, List.set_cons_succ]
            refine wpAnyH_take (i := 17) (oi := ⟨some 229, _, _, _, _, _⟩) (v := .agg #[.int .i64 (2 * n : Nat), .slice bx lx.length cx]) rfl (by kernel_rfl) (by kernel_rfl) (by kernel_rfl) (fun _ _ _ h => h) (Or.inl ⟨by rfl, fun w hSw => by obtain ⟨_, _, q1, q2, _⟩ := hSw; go_simp⟩) (by assumption) ?_
            try simp only [Act.put, List.setIfInBounds_toArray, List.set_cons_zero, List.set_cons_succ]
            refine wpAnyH_take (i := 19) (oi := ⟨some 231, _, _, _, _, _⟩) (v := .agg #[.int .i64 (n : Nat), .slice b zs.length c]) rfl (by kernel_rfl) (by kernel_rfl) (by kernel_rfl) (fun _ _ _ h => h) (Or.inl ⟨by rfl, fun w hSw => by obtain ⟨q1, q2, _⟩ := hSw; go_simp⟩) (by assumption) ?_
            try simp only [Act.put, List.setIfInBounds_toArray, List.set_cons_zero, List.set_cons_succ]
            refine wpAnyH_ready (rs := [18]) (by kernel_rfl) (by simp) ?_
            refine AllReadyH.cons rfl (fun K hKK => ?_) AllReadyH.nil
            go_simp
            go_at_call 22
            refine (r_per (2 * n) bx cx lx p' _ (HIx.out _ hbb1) HOx.out HPX.out).mono ?_
            rintro e wk2 ⟨rfl, hc2⟩
            have hbb2 : Below (putR v171 (2 * n) bx lx.length cx).heap.size (putR v171 (2 * n) bx lx.length cx) wk2 := hbb1.trans (hc2.mono hbb1.size)
            clear hc2
            refine hKK.out _ _ (HK.out _ hbb2) (fun hSS2 => ?_)
            clear hKK K hbb1 hSS1
            try simp only [Act.put, List.setIfInBounds_toArray, List.set_cons_zero, List.set_cons_succ]
            refine wpAnyH_ready (rs := [20]) (by kernel_rfl) (by simp) ?_
            refine AllReadyH.cons rfl (fun K hKK => ?_) AllReadyH.nil
            go_simp
            go_at_call 22
            refine (r_per n b c zs p' _ (HIr.out _ hbb2) HO.out HPR.out).mono ?_
            rintro e wk3 ⟨rfl, hc3⟩
            have hbb3 : Below (putR v171 (2 * n) bx lx.length cx).heap.size (putR v171 (2 * n) bx lx.length cx) wk3 := hbb2.trans (hc3.mono hbb2.size)
            clear hc3
            refine hKK.out _ _ (HK.out _ hbb3) (fun hSS3 => ?_)
            clear hKK K hbb2 hSS2
            try simp only [Act.put, List.setIfInBounds_toArray, List.set_cons_zero, List.set_cons_succ]
            refine wpAnyH_take (i := 21) (oi := ⟨some 233, _, _, _, _, _⟩) (v := .bool true) rfl (by kernel_rfl) (by kernel_rfl) (by kernel_rfl) (fun _ _ _ h => h) (Or.inl ⟨by rfl, fun w hSw => by go_simp⟩) (by assumption) ?_
            try simp only [Act.put, List.setIfInBounds_toArray, List.set_cons_zero, List.set_cons_succ]
            refine wpAnyH_take (i := 22) (oi := ⟨some 234, _, _, _, _, _⟩) (v := .bool true) rfl (by kernel_rfl) (by kernel_rfl) (by kernel_rfl) (fun _ _ _ h => h) (Or.inl ⟨by rfl, fun w hSw => by go_simp⟩) (by assumption) ?_
            try simp only [Act.put, List.setIfInBounds_toArray, List.set_cons_zero, List.set_cons_succ]
            refine wpAnyH_take (i := 23) (oi := ⟨some 235, _, _, _, _, _⟩) (v := .bool true) rfl (by kernel_rfl) (by kernel_rfl) (by kernel_rfl) (fun _ _ _ h => h) (Or.inl ⟨by rfl, fun w hSw => by go_simp⟩) (by assumption) ?_
            try simp only [Act.put, List.setIfInBounds_toArray, List.set_cons_zero, List.set_cons_succ]
            refine wpAnyH_take (i := 24) (oi := ⟨some 236, _, _, _, _, _⟩) (v := .bool true) rfl (by kernel_rfl) (by kernel_rfl) (by kernel_rfl) (fun _ _ _ h => h) (Or.inl ⟨by rfl, fun w hSw => by go_simp⟩) (by assumption) ?_
            try simp only [Act.put, List.setIfInBounds_toArray, List.set_cons_zero, List.set_cons_succ]
            refine wpAnyH_take (i := 25) (oi := ⟨some 237, _, _, _, _, _⟩) (v := .bool true) rfl (by kernel_rfl) (by kernel_rfl) (by kernel_rfl) (fun _ _ _ h => h) (Or.inl ⟨by rfl, fun w hSw => by go_simp⟩) (by assumption) ?_
            try simp only [Act.put, List.setIfInBounds_toArray, List.set_cons_zero, List.set_cons_succ]
            refine wpAnyH_take (i := 26) (oi := ⟨some 238, _, _, _, _, _⟩) (v := .agg #[.int .i64 (n : Nat), .slice b zs.length c]) rfl (by kernel_rfl) (by kernel_rfl) (by kernel_rfl) (fun _ _ _ h => h) (Or.inl ⟨by rfl, fun w hSw => by obtain ⟨q1, q2, _⟩ := hSw; go_simp⟩) (by assumption) ?_
            try simp only [Act.put, List.setIfInBounds_toArray, List.set_cons_zero, List.set_cons_succ]
            refine wpAnyH_ready (rs := [27]) (by kernel_rfl) (by simp) ?_
            refine AllReadyH.cons rfl (fun K hKK => ?_) AllReadyH.nil
            go_simp
            go_at_call 23
            refine (r_ok n b c zs _ (HIr.out _ hbb3) HO.out).mono ?_
            rintro e wk4 ⟨rfl, hc4⟩
            have hbb4 : Below (putR v171 (2 * n) bx lx.length cx).heap.size (putR v171 (2 * n) bx lx.length cx) wk4 := hbb3.trans (hc4.mono hbb3.size)
            clear hc4
            refine hKK.out _ _ (HK.out _ hbb4) (fun hSS4 => ?_)
            clear hKK K hbb3 hSS3
            try simp only [Act.put, List.setIfInBounds_toArray, List.set_cons_zero, List.set_cons_succ]
            refine wpAnyH_take (i := 28) (oi := ⟨some 240, _, _, _, _, _⟩) (v := .bool true) rfl (by kernel_rfl) (by kernel_rfl) (by kernel_rfl) (fun _ _ _ h => h) (Or.inl ⟨by rfl, fun w hSw => by go_simp⟩) (by assumption) ?_
            try simp only [Act.put, List.setIfInBounds_toArray, List.set_cons_zero, List.set_cons_succ]
            refine wpAnyH_take (i := 29) (oi := ⟨some 2, _, _, _, _, _⟩) (v := .bool true) rfl (by kernel_rfl) (by kernel_rfl) (by kernel_rfl) (fun _ _ _ h => h) (Or.inl ⟨by rfl, fun w hSw => by go_simp⟩) (by assumption) ?_
            try simp only [Act.put, List.setIfInBounds_toArray, List.set_cons_zero, List.set_cons_succ]
            refine wpAnyH_done (by kernel_rfl) ?_ _
            clear HK
            go_wp2
            go_ret
            exact ⟨rfl, HB172x.out.trans (hbb4.mono HB172x.out.size)⟩
          · have H2N := Lib.hid h2n
            have h2w : wrap64 (2 * (n : Int)) = ((2 * n : Nat) : Int) := by unfold wrap64; omega
            have hle : decide (((2 * n : Nat) : Int) ≤ 24) = false := by simp; omega
            obtain ⟨pr0, pr1, pr2, pr3⟩ := HXr170.out.1.facts
            have ltr := HXr170.out.1.lt
            go_wp2_with fail
            refine (r_rep_no n b c zs wk2 HXr170.out.2 HO.out H2N.out).mono ?_
            rintro e v191 ⟨bx, cx, rfl, hown, hb⟩
            clear pr0 pr1 pr2 pr3 ltr
            have HXr191 := Lib.hid (HXr170.out.keep hb)
            clear HXr170
            have HXa191 := Lib.hid (HXa170.out.keep hb)
            clear HXa170
            have HXm191 := Lib.hid (HXm170.out.keep hb)
            clear HXm170
            have HXo191 := Lib.hid (HXo170.out.keep hb)
            clear HXo170
            have HXl191 := Lib.hid (HXl170.out.keep hb)
            clear HXl170
            have HB191x := Lib.hid (show Below w.heap.size w v191 from HB170x.out.trans (hb.mono HB170x.out.size))
            clear HB170x hb
            clear hown
            have hb := bel1 v191 (.cells #[.int .i64 0, .slice bx 0 cx] 25)
            have HXr192 := Lib.hid (HXr191.out.keep hb)
            clear HXr191
            have HXa192 := Lib.hid (HXa191.out.keep hb)
            clear HXa191
            have HXm192 := Lib.hid (HXm191.out.keep hb)
            clear HXm191
            have HXo192 := Lib.hid (HXo191.out.keep hb)
            clear HXo191
            have HXl192 := Lib.hid (HXl191.out.keep hb)
            clear HXl191
            have HB192x := Lib.hid (show Below w.heap.size w (v191.alloc (.cells #[.int .i64 0, .slice bx 0 cx] 25)) from HB191x.out.trans (hb.mono HB191x.out.size))
            clear HB191x hb
            have HK : Hid (∀ W' : World, Below (v191.alloc (.cells #[.int .i64 0, .slice bx 0 cx] 25)).heap.size (v191.alloc (.cells #[.int .i64 0, .slice bx 0 cx] 25)) W' → W'.cell? ⟨w1.heap.size, 0, none⟩ = some (.int .i64 (n : Nat)) ∧ W'.cell? ⟨w1.heap.size, 1, none⟩ = some (.slice b zs.length c) ∧ Below (v191.alloc (.cells #[.int .i64 0, .slice bx 0 cx] 25)).heap.size (v191.alloc (.cells #[.int .i64 0, .slice bx 0 cx] 25)) W') :=
              Lib.hid (fun W' hW => ⟨(HXr192.out.keep hW).1.facts.1, (HXr192.out.keep hW).1.facts.2.1, hW⟩)
            have HIr : Hid (∀ W' : World, Below (v191.alloc (.cells #[.int .i64 0, .slice bx 0 cx] 25)).heap.size (v191.alloc (.cells #[.int .i64 0, .slice bx 0 cx] 25)) W' → IntsAt W' b zs.length zs) := Lib.hid (fun W' hW => (HXr192.out.keep hW).2)
            go_upto_region 25 with fail
            refine wp_region_held_drew (S := fun W' => W'.cell? ⟨w1.heap.size, 0, none⟩ = some (.int .i64 (n : Nat)) ∧ W'.cell? ⟨w1.heap.size, 1, none⟩ = some (.slice b zs.length c) ∧ Below (v191.alloc (.cells #[.int .i64 0, .slice bx 0 cx] 25)).heap.size (v191.alloc (.cells #[.int .i64 0, .slice bx 0 cx] 25)) W') (by kernel_rfl) (HK.out _ (Below.refl _ _).drew) (fun hSS0 => ?_)
            refine wpAnyH_take (i := 0) (oi := ⟨some 212, _, _, _, _, _⟩) (v := .bool false) rfl (by kernel_rfl) (by kernel_rfl) (by kernel_rfl) (fun _ _ _ h => h) (Or.inl ⟨by rfl, fun w hSw => by go_simp⟩) (by assumption) ?_
            try simp only [Act.put, List.setIfInBounds_toArray, List.set_cons_zero, List.set_cons_succ]
            refine wpAnyH_take (i := 1) (oi := ⟨some 213, _, _, _, _, _⟩) (v := .int .i64 n) rfl (by kernel_rfl) (by kernel_rfl) (by kernel_rfl) (fun _ _ _ h => h) (Or.inl ⟨by rfl, fun w hSw => by go_simp⟩) (by assumption) ?_
            try simp only [Act.put, List.setIfInBounds_toArray, List.set_cons_zero, List.set_cons_succ]
            refine wpAnyH_take (i := 2) (oi := ⟨some 214, _, _, _, _, _⟩) (v := .int .i64 (2 * n : Nat)) rfl (by kernel_rfl) (by kernel_rfl) (by kernel_rfl) (fun _ _ _ h => h) (Or.inl ⟨by rfl, fun w hSw => by go_simp; exact (IntWalk.i64_in _ ⟨by omega, by omega⟩).trans (by omega)⟩) (by assumption) ?_
            try simp only [Act.put, List.setIfInBounds_toArray, List.set_cons_zero, List.set_cons_succ]
            refine wpAnyH_take (i := 3) (oi := ⟨some 215, _, _, _, _, _⟩) (v := .bool false) rfl (by kernel_rfl) (by kernel_rfl) (by kernel_rfl) (fun _ _ _ h => h) (Or.inl ⟨by rfl, fun w hSw => by go_simp; omega⟩) (by assumption) ?_
            try simp only [Act.put, List.setIfInBounds_toArray, List.set_cons_zero, List.set_cons_succ]
            refine wpAnyH_take (i := 4) (oi := ⟨some 216, _, _, _, _, _⟩) (v := .bool true) rfl (by kernel_rfl) (by kernel_rfl) (by kernel_rfl) (fun _ _ _ h => h) (Or.inl ⟨by rfl, fun w hSw => by go_simp⟩) (by assumption) ?_
            try simp only [Act.put, List.setIfInBounds_toArray, List.set_cons_zero, List.set_cons_succ]
            refine wpAnyH_take (i := 5) (oi := ⟨some 217, _, _, _, _, _⟩) (v := .bool true) rfl (by kernel_rfl) (by kernel_rfl) (by kernel_rfl) (fun _ _ _ h => h) (Or.inl ⟨by rfl, fun w hSw => by go_simp⟩) (by assumption) ?_
            try simp only [Act.put, List.setIfInBounds_toArray, List.set_cons_zero, List.set_cons_succ]
            refine wpAnyH_take (i := 6) (oi := ⟨some 218, _, _, _, _, _⟩) (v := .bool false) rfl (by kernel_rfl) (by kernel_rfl) (by kernel_rfl) (fun _ _ _ h => h) (Or.inl ⟨by rfl, fun w hSw => by go_simp⟩) (by assumption) ?_
            try simp only [Act.put, List.setIfInBounds_toArray, List.set_cons_zero, List.set_cons_succ]
            refine wpAnyH_take (i := 7) (oi := ⟨some 219, _, _, _, _, _⟩) (v := .bool true) rfl (by kernel_rfl) (by kernel_rfl) (by kernel_rfl) (fun _ _ _ h => h) (Or.inl ⟨by rfl, fun w hSw => by go_simp⟩) (by assumption) ?_
            try simp only [Act.put, List.setIfInBounds_toArray, List.set_cons_zero, List.set_cons_succ]
            refine wpAnyH_take (i := 8) (oi := ⟨some 220, _, _, _, _, _⟩) (v := .bool true) rfl (by kernel_rfl) (by kernel_rfl) (by kernel_rfl) (fun _ _ _ h => h) (Or.inl ⟨by rfl, fun w hSw => by go_simp⟩) (by assumption) ?_
            try simp only [Act.put, List.setIfInBounds_toArray, List.set_cons_zero, List.set_cons_succ]
            refine wpAnyH_take (i := 9) (oi := ⟨some 221, _, _, _, _, _⟩) (v := undef) rfl (by kernel_rfl) (by kernel_rfl) (by kernel_rfl) (fun _ _ _ h => h) (Or.inr ⟨by rfl, rfl⟩) (by assumption) ?_
            try simp only [Act.put, List.setIfInBounds_toArray, List.set_cons_zero, List.set_cons_succ]
            refine wpAnyH_take (i := 10) (oi := ⟨some 222, _, _, _, _, _⟩) (v := undef) rfl (by kernel_rfl) (by kernel_rfl) (by kernel_rfl) (fun _ _ _ h => h) (Or.inr ⟨by rfl, rfl⟩) (by assumption) ?_
            try simp only [Act.put, List.setIfInBounds_toArray, List.set_cons_zero, List.set_cons_succ]
            refine wpAnyH_take (i := 11) (oi := ⟨some 223, _, _, _, _, _⟩) (v := undef) rfl (by kernel_rfl) (by kernel_rfl) (by kernel_rfl) (fun _ _ _ h => h) (Or.inr ⟨by rfl, rfl⟩) (by assumption) ?_
            try simp only [Act.put, List.setIfInBounds_toArray, List.set_cons_zero, List.set_cons_succ]
            refine wpAnyH_take (i := 12) (oi := ⟨some 224, _, _, _, _, _⟩) (v := undef) rfl (by kernel_rfl) (by kernel_rfl) (by kernel_rfl) (fun _ _ _ h => h) (Or.inr ⟨by rfl, rfl⟩) (by assumption) ?_
            try simp only [Act.put, List.setIfInBounds_toArray, List.set_cons_zero, List.set_cons_succ]
            refine wpAnyH_take (i := 13) (oi := ⟨some 225, _, _, _, _, _⟩) (v := undef) rfl (by kernel_rfl) (by kernel_rfl) (by kernel_rfl) (fun _ _ _ h => h) (Or.inr ⟨by rfl, rfl⟩) (by assumption) ?_
            try simp only [Act.put, List.setIfInBounds_toArray, List.set_cons_zero, List.set_cons_succ]
            refine wpAnyH_take (i := 14) (oi := ⟨some 226, _, _, _, _, _⟩) (v := undef) rfl (by kernel_rfl) (by kernel_rfl) (by kernel_rfl) (fun _ _ _ h => h) (Or.inr ⟨by rfl, rfl⟩) (by assumption) ?_
            try simp only [Act.put, List.setIfInBounds_toArray, List.set_cons_zero, List.set_cons_succ]
            refine wpAnyH_take (i := 15) (oi := ⟨some 227, _, _, _, _, _⟩) (v := undef) rfl (by kernel_rfl) (by kernel_rfl) (by kernel_rfl) (fun _ _ _ h => h) (Or.inr ⟨by rfl, rfl⟩) (by assumption) ?_
            try simp only [Act.put, List.setIfInBounds_toArray, List.set_cons_zero, List.set_cons_succ]
            refine wpAnyH_take (i := 16) (oi := ⟨some 228, _, _, _, _, _⟩) (v := undef) rfl (by kernel_rfl) (by kernel_rfl) (by kernel_rfl) (fun _ _ _ h => h) (Or.inr ⟨by rfl, rfl⟩) (by assumption) ?_
            try simp only [Act.put, List.setIfInBounds_toArray, List.set_cons_zero, List.set_cons_succ]
            refine wpAnyH_take (i := 17) (oi := ⟨some 229, _, _, _, _, _⟩) (v := undef) rfl (by kernel_rfl) (by kernel_rfl) (by kernel_rfl) (fun _ _ _ h => h) (Or.inr ⟨by rfl, rfl⟩) (by assumption) ?_
            try simp only [Act.put, List.setIfInBounds_toArray, List.set_cons_zero, List.set_cons_succ]
            refine wpAnyH_take (i := 18) (oi := ⟨some 230, _, _, _, _, _⟩) (v := undef) rfl (by kernel_rfl) (by kernel_rfl) (by kernel_rfl) (fun _ _ _ h => h) (Or.inr ⟨by rfl, rfl⟩) (by assumption) ?_
            try simp only [Act.put, List.setIfInBounds_toArray, List.set_cons_zero, List.set_cons_succ]
            refine wpAnyH_take (i := 19) (oi := ⟨some 231, _, _, _, _, _⟩) (v := undef) rfl (by kernel_rfl) (by kernel_rfl) (by kernel_rfl) (fun _ _ _ h => h) (Or.inr ⟨by rfl, rfl⟩) (by assumption) ?_
            try simp only [Act.put, List.setIfInBounds_toArray, List.set_cons_zero, List.set_cons_succ]
            refine wpAnyH_take (i := 20) (oi := ⟨some 232, _, _, _, _, _⟩) (v := undef) rfl (by kernel_rfl) (by kernel_rfl) (by kernel_rfl) (fun _ _ _ h => h) (Or.inr ⟨by rfl, rfl⟩) (by assumption) ?_
            try simp only [Act.put, List.setIfInBounds_toArray, List.set_cons_zero, List.set_cons_succ]
            refine wpAnyH_take (i := 21) (oi := ⟨some 233, _, _, _, _, _⟩) (v := undef) rfl (by kernel_rfl) (by kernel_rfl) (by kernel_rfl) (fun _ _ _ h => h) (Or.inr ⟨by rfl, rfl⟩) (by assumption) ?_
            try simp only [Act.put, List.setIfInBounds_toArray, List.set_cons_zero, List.set_cons_succ]
            refine wpAnyH_take (i := 22) (oi := ⟨some 234, _, _, _, _, _⟩) (v := undef) rfl (by kernel_rfl) (by kernel_rfl) (by kernel_rfl) (fun _ _ _ h => h) (Or.inr ⟨by rfl, rfl⟩) (by assumption) ?_
            try simp only [Act.put, List.setIfInBounds_toArray, List.set_cons_zero, List.set_cons_succ]
            refine wpAnyH_take (i := 23) (oi := ⟨some 235, _, _, _, _, _⟩) (v := .bool true) rfl (by kernel_rfl) (by kernel_rfl) (by kernel_rfl) (fun _ _ _ h => h) (Or.inl ⟨by rfl, fun w hSw => by go_simp⟩) (by assumption) ?_
            try simp only [Act.put, List.setIfInBounds_toArray, List.set_cons_zero, List.set_cons_succ]
            refine wpAnyH_take (i := 24) (oi := ⟨some 236, _, _, _, _, _⟩) (v := .bool true) rfl (by kernel_rfl) (by kernel_rfl) (by kernel_rfl) (fun _ _ _ h => h) (Or.inl ⟨by rfl, fun w hSw => by go_simp⟩) (by assumption) ?_
            try simp only [Act.put, List.setIfInBounds_toArray, List.set_cons_zero, List.set_cons_succ]
            refine wpAnyH_take (i := 25) (oi := ⟨some 237, _, _, _, _, _⟩) (v := .bool true) rfl (by kernel_rfl) (by kernel_rfl) (by kernel_rfl) (fun _ _ _ h => h) (Or.inl ⟨by rfl, fun w hSw => by go_simp⟩) (by assumption) ?_
            try simp only [Act.put, List.setIfInBounds_toArray, List.set_cons_zero, List.set_cons_succ]
            refine wpAnyH_take (i := 26) (oi := ⟨some 238, _, _, _, _, _⟩) (v := .agg #[.int .i64 (n : Nat), .slice b zs.length c]) rfl (by kernel_rfl) (by kernel_rfl) (by kernel_rfl) (fun _ _ _ h => h) (Or.inl ⟨by rfl, fun w hSw => by obtain ⟨q1, q2, _⟩ := hSw; go_simp⟩) (by assumption) ?_
            try simp only [Act.put, List.setIfInBounds_toArray, List.set_cons_zero, List.set_cons_succ]
            refine wpAnyH_ready (rs := [27]) (by kernel_rfl) (by simp) ?_
            refine AllReadyH.cons rfl (fun K hKK => ?_) AllReadyH.nil
            go_simp
            go_at_call 23
            refine (r_ok n b c zs _ (HIr.out _ (Below.refl _ _).drew) HO.out).mono ?_
            rintro e wk1 ⟨rfl, hc1⟩
            have hbb1 : Below (v191.alloc (.cells #[.int .i64 0, .slice bx 0 cx] 25)).heap.size (v191.alloc (.cells #[.int .i64 0, .slice bx 0 cx] 25)) wk1 := (Below.refl _ _).drew.trans hc1
            clear hc1
            refine hKK.out _ _ (HK.out _ hbb1) (fun hSS1 => ?_)
            clear hKK K hSS0
            try simp only [Act.put, List.setIfInBounds_toArray, List.set_cons_zero, List.set_cons_succ]
            refine wpAnyH_take (i := 28) (oi := ⟨some 240, _, _, _, _, _⟩) (v := .bool true) rfl (by kernel_rfl) (by kernel_rfl) (by kernel_rfl) (fun _ _ _ h => h) (Or.inl ⟨by rfl, fun w hSw => by go_simp⟩) (by assumption) ?_
            try simp only [Act.put, List.setIfInBounds_toArray, List.set_cons_zero, List.set_cons_succ]
            refine wpAnyH_take (i := 29) (oi := ⟨some 2, _, _, _, _, _⟩) (v := .bool true) rfl (by kernel_rfl) (by kernel_rfl) (by kernel_rfl) (fun _ _ _ h => h) (Or.inl ⟨by rfl, fun w hSw => by go_simp⟩) (by assumption) ?_
            try simp only [Act.put, List.setIfInBounds_toArray, List.set_cons_zero, List.set_cons_succ]
            refine wpAnyH_done (by kernel_rfl) ?_ _
            clear HK
            go_wp2
            go_ret
            exact ⟨rfl, HB192x.out.trans (hbb1.mono HB192x.out.size)⟩
  · clear hb
    go_enter Try.func3, Try.ntmps3
    go_wp2
    go_ret
    exact ⟨rfl, Below.refl _ _⟩
end Go.Proofs.Ytjgjcppkbfojpaa.Rhy
