/-
  Helpers of the claims beside this text: the law on polynomials.
-/
import Derived.Test.YtoejafpijcacoaaLpr
import Derived.Deep.RegionHeld3
import Derived.IntWalk
namespace Go.Proofs.Ytoejafpijcacoaa.Rhy
open Go.RowKit
open Go.Proofs.Ytoejafpijcacoaa.Cur
set_option linter.unusedVariables false
set_option linter.unusedSimpArgs false

theorem one_int1 (w : World) : IntsAt (w.alloc (.cells #[.int .i64 1] 3)) (some ⟨w.heap.size, 0, none⟩) 1 [1] :=
  intsAt_own (lit_row w 1) (fun z hz => by rw [List.mem_singleton.1 hz]; omega)

set_option maxHeartbeats 16000000 in
set_option maxRecDepth 100000 in
theorem poly_walk (a : Option Addr) (len cap : Nat) (w : World) (hb : len ≤ 1048576 → BytesAt w.heap.size w a len) :
    Calls Try.prog 3 #[.slice a len cap] w fun e w' => e = .returned (.bool true) ∧ Below w.heap.size w w' := by
  by_cases hlen : len ≤ 1048576
  · skip
    have HBY := Lib.hid (hb hlen)
    clear hb
    go_enter Try.func3, Try.ntmps3
    go_wp2_with fail
    refine (num_any a len cap 0 w HBY.out (by omega)).mono ?_
    rintro e v1 ⟨q0, rfl, hq0, hq0', hb⟩
    have HB1 := Lib.hid (show Below w.heap.size w v1 from hb)
    clear hb
    obtain ⟨n, hn, hn1, hn24⟩ : ∃ n : Nat, 1 + q0 % 24 = (n : Int) ∧ 1 ≤ n ∧ n ≤ 24 := ⟨(1 + q0 % 24).toNat, by omega, by omega, by omega⟩
    have HN := Lib.hid hn
    clear hn
    obtain ⟨L, hL⟩ : ∃ L, divP n n = L := ⟨_, rfl⟩
    obtain ⟨ll, hll⟩ : ∃ m, L.length = m := ⟨_, rfl⟩
    have HL := Lib.hid hL
    have HLn := Lib.hid hll
    have HLL : Hid (ll = (divsL n).length) := Lib.hid (by rw [← hll, ← hL, divP_all]; simp)
    have hll24 : ll ≤ 24 := by rw [← hll, ← hL]; exact Nat.le_trans (divP_len n n) hn24
    clear hL hll
    go_wp2_with fail
    rw [HN.out]
    refine (v_divs n L ll _ hn1 (by omega) HL.out HLn.out).mono ?_
    rintro e v2 ⟨bd, cd, rfl, hid, hb⟩
    have HP2 := Lib.hid ((one_int1 v1).below hb)
    have HB2 := Lib.hid (show Below w.heap.size w v2 from (HB1.out.alloc HB1.out.size _).trans (hb.mono (by have := HB1.out.size; simp; omega)))
    have HD := Lib.hid hid
    clear hb hid HB1 hq0 hq0' HN
    go_wp2_with fail
    go_loopw [36, 4, 5, 6] (fun i p q dg wr => ∃ (j m g : Nat), j ≤ ll ∧ i = .int .i64 j ∧ (∃ ap cp, p = .slice ap m cp ∧ IntsAt wr ap m (prodL n j)) ∧ q = .bool true ∧ dg = .int .i64 (g : Nat) ∧ Hid (g = degP n j) ∧ Below v2.heap.size v2 wr) (fun i _ _ _ _ => ll - (intOf i).toNat)
    case atStart => exact ⟨0, 1, 0, by omega, rfl, ⟨_, _, rfl, by rw [prod_zero]; exact HP2.out⟩, rfl, rfl, Lib.hid (by simp [degP]), Below.refl _ _⟩
    case round =>
      clear HP2
      obtain ⟨j, m, g, hj, rfl, ⟨ap, cp, rfl, hip⟩, rfl, rfl, HG, hnx⟩ := hrel
      have hg24 : g ≤ 24 := by rw [HG.out]; exact deg_le ⟨hn1, hn24⟩ (by rw [← HLL.out]; exact hj)
      have HPC : Hid (PolC (prodL n j)) := Lib.hid (prod_pol ⟨hn1, hn24⟩ (by rw [← HLL.out]; exact hj))
      have HX := Lib.hid hnx
      have HIP := Lib.hid hip
      clear hnx hip
      by_cases hlt : j < ll
      · skip
        obtain ⟨b, off, z, rfl, hbb, hs, hc, hz1, hz2⟩ := (HD.out.below HX.out).at hlt
        obtain ⟨d, hd⟩ : ∃ d, (divsL n)[j]? = some d := ⟨_, List.getElem?_eq_getElem (by rw [← HLL.out]; exact hlt)⟩
        obtain ⟨hd1, hd2, hd3⟩ := divs_mem hd
        obtain rfl : z = d := by
          rw [← HL.out, divP_all, List.getElem?_map, hd] at hs
          exact (Option.some.inj hs).symm
        obtain ⟨T, hT⟩ : ∃ T, totN d = T := ⟨_, rfl⟩
        have HT := Lib.hid hT
        have hT24 : T ≤ 24 := by have := totP_le d d; rw [totP_all, hT] at this; omega
        have HCL : Hid ((cycL d).length = T + 1) := Lib.hid (by rw [(cyc_facts ⟨hd1, by omega⟩).1, hT])
        have HCT : Hid ((cycL d)[T]? = some 1) := Lib.hid (by rw [← hT]; exact cyc_one ⟨hd1, by omega⟩)
        have HMP := Lib.hid (mul_prod hd)
        have HDN : Hid (g + T = degP n (j + 1)) := Lib.hid (by rw [deg_next hd, HG.out, hT])
        have hd24 : d ≤ 24 := by omega
        have hd1000 : d ≤ 1000 := by omega
        clear hs hd hd3 hT
        go_wp2_with fail
        refine (v_cycl d T (cycL d) _ hd1 hd24 rfl HCL.out).mono ?_
        rintro e y1 ⟨bc, cc, rfl, hic, hb⟩
        have HIP1 := Lib.hid (HIP.out.below hb)
        have HX1 := Lib.hid (HX.out.trans (hb.mono HX.out.size))
        have HIC1 := Lib.hid hic
        clear hb hic hc HIP HX
        go_wp2_with fail
        refine (v_tots d T _ hd1 hd1000 HT.out).mono ?_
        rintro e y2 ⟨rfl, hb⟩
        have HIP2 := Lib.hid (HIP1.out.below hb)
        have HX2 := Lib.hid (HX1.out.trans (hb.mono HX1.out.size))
        have HIC2 := Lib.hid (HIC1.out.below hb)
        clear hb HIP1 HX1 HIC1
        go_wp2_with fail
        refine (v_toti d T _ hd1 hd1000 HT.out).mono ?_
        rintro e y3 ⟨rfl, hb⟩
        have HIP3 := Lib.hid (HIP2.out.below hb)
        have HX3 := Lib.hid (HX2.out.trans (hb.mono HX2.out.size))
        have HIC3 := Lib.hid (HIC2.out.below hb)
        clear hb HIP2 HX2 HIC2
        go_wp2_with fail
        refine (v_tots d T _ hd1 hd1000 HT.out).mono ?_
        rintro e y4 ⟨rfl, hb⟩
        have HIP4 := Lib.hid (HIP3.out.below hb)
        have HX4 := Lib.hid (HX3.out.trans (hb.mono HX3.out.size))
        have HIC4 := Lib.hid (HIC3.out.below hb)
        clear hb HIP3 HX3 HIC3
        obtain ⟨b5, o5, z5, rfl, hbb5, hs5, hc5, _, _⟩ := HIC4.out.at (show T < T + 1 by omega)
        obtain rfl : z5 = 1 := by rw [HCT.out] at hs5; exact (Option.some.inj hs5).symm
        clear hs5
        go_wp2_with fail
        refine (v_toti d T _ hd1 hd1000 HT.out).mono ?_
        rintro e y5 ⟨rfl, hb⟩
        have HIP5 := Lib.hid (HIP4.out.below hb)
        have HX5 := Lib.hid (HX4.out.trans (hb.mono HX4.out.size))
        have HIC5 := Lib.hid (HIC4.out.below hb)
        clear hb HIP4 HX4 HIC4 hc5
        go_wp2_with fail
        refine (v_times ap m cp (prodL n j) (some ⟨b5, o5, none⟩) (T + 1) cc (cycL d) (prodL n (j + 1)) _ HIP5.out HIC5.out HPC.out (cyc_pol ⟨hd1, hd24⟩) HMP.out).mono ?_
        rintro e y6 ⟨b6, c6, rfl, hi6, hb⟩
        have HX6 := Lib.hid (HX5.out.trans (hb.mono HX5.out.size))
        have HI6 := Lib.hid hi6
        clear hb hi6 HIP5 HX5 HIC5
        generalize hm6 : (prodL n (j + 1)).length = m6
        rw [hm6] at HI6
        clear hm6
        go_wp2
        go_roundw
        case rel => exact ⟨j + 1, m6, g + T, by omega, by go_num, ⟨b6, c6, rfl, HI6.out⟩, rfl, by go_num, HDN, HX6.out⟩
        case measure => simp [intOf]; omega
      · skip
        have e : j = (divsL n).length := by have := HLL.out; omega
        obtain rfl : g = n := by rw [HG.out, e, deg_len ⟨hn1, hn24⟩]
        have hPX : prodL g j = xn1 g := by rw [e, prod_all ⟨hn1, hn24⟩]
        rw [hPX] at HIP
        obtain rfl : m = g + 1 := by have := HIP.out.1; rw [xn1_len hn1] at this; omega
        obtain ⟨n, hgn⟩ : ∃ n, n = g := ⟨_, rfl⟩
        subst hgn
        have HB2 := Lib.hid (HB2.out.trans (HX.out.mono HB2.out.size))
        obtain ⟨b5, o5, z5, rfl, hbb5, hs5, hc5, _, _⟩ := HIP.out.at (show 0 < n + 1 by omega)
        obtain rfl : z5 = -1 := by rw [xn1_at hn1 (by omega), if_pos rfl] at hs5; exact (Option.some.inj hs5).symm
        have HPA : Hid (∀ i : Nat, i < n + 1 → wr.cell? ⟨b5, o5 + i, none⟩ = some (.int .i64 (if i = 0 then -1 else if i = n then 1 else 0))) := Lib.hid (fun i hi => by
          obtain ⟨b', o', z', e', _, hs', hc', _, _⟩ := HIP.out.at hi
          cases e'
          rw [xn1_at hn1 hi] at hs'
          rw [hc', Option.some.inj hs'])
        have hp0 : wr.cell? ⟨b5, o5, none⟩ = some (.int .i64 (-1)) := by simpa using hc5
        have hpn : wr.cell? ⟨b5, o5 + n, none⟩ = some (.int .i64 1) := by have := HPA.out n (by omega); rwa [if_neg (by omega), if_pos rfl] at this
        clear hs5 hc5 hPX HX HIP HPC HG HD HL HLn HLL
        go_wp2_with fail
        clear hp0 hpn hlt hj e
        go_loop [10] (fun i => ∃ t : Nat, 1 ≤ t ∧ t ≤ n ∧ i = .int .i64 t) (fun i => n - (intOf i).toNat)
        case atStart => exact ⟨1, by omega, hn1, rfl⟩
        case round =>
          obtain ⟨t, ht1, ht2, rfl⟩ := hrel
          by_cases hlt : t < n
          · have hpt : wr.cell? ⟨b5, o5 + t, none⟩ = some (.int .i64 0) := by have := HPA.out t (by omega); rwa [if_neg (by omega), if_neg (by omega)] at this
            go_wp2
            go_round
            case rel => exact ⟨t + 1, by omega, by omega, by go_num⟩
            case measure => simp [intOf]; omega
          · skip
            clear HPA
            go_wp2_with fail
            refine (make_any a len cap 2 16 wr (bytes_up HBY.out HB2.out HB2.out.size) (by omega) (by omega) (by omega)).mono ?_
            rintro e v3 ⟨s, br, cr, zs, rfl, hok, hs16, hown, hb⟩
            clear hlt
            have HO := Lib.hid hok
            have hs1 : 1 ≤ s := by have := hok.1; omega
            have hzl : zs.length ≤ 24 := ok_len hok
            clear hok
            have HB3 := Lib.hid (show Below w.heap.size w v3 from HB2.out.trans (hb.mono HB2.out.size))
            clear HB2
            clear hb
            have HR3 := Lib.hid (rhAt_put (n := s) hown (ok_allInt HO.out))
            clear hown
            have hb := putR_below v3 s br zs.length cr
            have HB4 := Lib.hid (show Below w.heap.size w (putR v3 s br zs.length cr) from HB3.out.trans (hb.mono HB3.out.size))
            clear HB3 hb
            go_upto_region 26 with fail
            obtain ⟨W4, hW⟩ : ∃ W9, putR v3 s br zs.length cr = W9 := ⟨_, rfl⟩
            change Code.wp _ _ _ _ (putR v3 s br zs.length cr)
            rw [hW]
            rw [hW] at HR3 HB4
            obtain ⟨rb, hxb⟩ : ∃ b, v3.heap.size = b := ⟨_, rfl⟩
            rw [hxb] at HR3 ⊢
            have HR4 : Hid (RhAt W4 rb s br cr zs) := HR3
            clear hW hxb HR3
            go_wp2_with fail
            refine (num_any a len cap 30 W4 (bytes_up HBY.out HB4.out HB4.out.size) (by omega)).mono ?_
            rintro e v5 ⟨q1, rfl, hq1, hq1', hb⟩
            have HR5 := Lib.hid (HR4.out.keep hb)
            clear HR4
            have HB5 := Lib.hid (show Below w.heap.size w v5 from HB4.out.trans (hb.mono HB4.out.size))
            clear HB4
            clear hb
            obtain ⟨d, hd, hd1, hd12⟩ : ∃ d : Nat, 1 + q1 % 12 = (d : Int) ∧ 1 ≤ d ∧ d ≤ 12 := ⟨(1 + q1 % 12).toNat, by omega, by omega, by omega⟩
            have HDD := Lib.hid hd
            clear hd
            obtain ⟨R, hR⟩ : ∃ R, restZ s zs d = R := ⟨_, rfl⟩
            obtain ⟨lr, hlr⟩ : ∃ m, R.length = m := ⟨_, rfl⟩
            obtain ⟨T, hT⟩ : ∃ T, totN d = T := ⟨_, rfl⟩
            obtain ⟨qv, hqv⟩ : ∃ q, R.isEmpty = q := ⟨_, rfl⟩
            have hlrT : lr ≤ T := by rw [← hlr, ← hR, ← hT]; exact restZ_len ⟨hd1, by omega⟩
            have hT24 : T ≤ 24 := by have := totP_le d d; rw [totP_all, hT] at this; omega
            have hq0 : (((lr : Nat) : Int) == 0) = qv := by rw [← hlr, len_beq, hqv]
            have HREST := Lib.hid hR
            have HLR := Lib.hid hlr
            have HTT := Lib.hid hT
            have HQV : Hid ((restZ s zs d).isEmpty = qv) := Lib.hid (by rw [hR, hqv])
            clear hR hlr hT hqv
            obtain ⟨p0, p1, p2, p3⟩ := HR5.out.1.facts
            have ltp := HR5.out.1.lt
            go_wp2_with fail
            rw [HDD.out]
            refine (v_restby s br cr zs d R lr _ HR5.out.2 HO.out hd1 (by omega) HREST.out HLR.out).mono ?_
            rintro e v6 ⟨be, ce, rfl, _, hb⟩
            clear p0 p1 p2 p3 ltp
            have HR6 := Lib.hid (HR5.out.keep hb)
            clear HR5
            have HB6 := Lib.hid (show Below w.heap.size w v6 from HB5.out.trans (hb.mono HB5.out.size))
            clear HB5
            clear hb
            clear hq1 hq1' HDD
            obtain ⟨p0, p1, p2, p3⟩ := HR6.out.1.facts
            have ltp := HR6.out.1.lt
            have hsz : ((s : Int) == 0) = false := by simp; omega
            have hs0 : ¬ s = 0 := by omega
            have HK : Hid (∀ W, Below v6.heap.size v6 W → W.cell? ⟨rb, 0, none⟩ = some (.int .i64 s) ∧ Below v6.heap.size v6 W) := Lib.hid (fun W hW => ⟨(HR6.out.keep hW).1.facts.1, hW⟩)
            have HBY6 : Hid (∀ W, Below v6.heap.size v6 W → BytesAt W.heap.size W a len) := Lib.hid (fun W hW => bytes_up HBY.out (HB6.out.trans (hW.mono HB6.out.size)) (HB6.out.trans (hW.mono HB6.out.size)).size)
            have HNUM : Hid (∀ W : World, Below v6.heap.size v6 W → Calls Try.prog 13 #[.slice a len cap, .int .i64 32] W (Num W)) := Lib.hid (fun W hW => num_any a len cap 32 W (HBY6.out W hW) (by omega))
            go_wp2
            refine wp_region_held_drew (S := fun W => W.cell? ⟨rb, 0, none⟩ = some (.int .i64 s) ∧ Below v6.heap.size v6 W) (by kernel_rfl) (HK.out _ (Below.refl _ _).drew) (fun hSS0 => ?_)
            refine wpAnyH_take (i := 0) (oi := ⟨some 119, _, _, _, _, _⟩) (v := .slice a len cap) rfl (by kernel_rfl) (by kernel_rfl) (by kernel_rfl) (fun _ _ _ h => h) (Or.inl ⟨by rfl, fun W hSw => by go_simp⟩) (by assumption) ?_
            try simp only [Act.put, List.setIfInBounds_toArray, List.set_cons_zero, List.set_cons_succ]
            refine wpAnyH_take (i := 2) (oi := ⟨some 121, _, _, _, _, _⟩) (v := .pointer (some ⟨rb, 0, none⟩)) rfl (by kernel_rfl) (by kernel_rfl) (by kernel_rfl) (fun _ _ _ h => h) (Or.inl ⟨by rfl, fun W hSw => by go_simp⟩) (by assumption) ?_
            try simp only [Act.put, List.setIfInBounds_toArray, List.set_cons_zero, List.set_cons_succ]
            refine wpAnyH_take (i := 3) (oi := ⟨some 122, _, _, _, _, _⟩) (v := .int .i64 s) rfl (by kernel_rfl) (by kernel_rfl) (by kernel_rfl) (fun _ _ _ h => h) (Or.inl ⟨by rfl, fun W hSw => by obtain ⟨s1, _⟩ := hSw; go_simp⟩) (by assumption) ?_
            try simp only [Act.put, List.setIfInBounds_toArray, List.set_cons_zero, List.set_cons_succ]
            refine wpAnyH_ready (rs := [1]) (by kernel_rfl) (by simp) ?_
            refine AllReadyH.cons rfl (fun K hKK => ?_) AllReadyH.nil
            go_simp
            go_at_call 13
            refine (HNUM.out _ (Below.refl _ _).drew).mono ?_
            rintro e v7 ⟨q2, rfl, hq2, hq2', hc7⟩
            have hb7 := (Below.refl v6.heap.size v6).drew.trans hc7
            have hsem : Int.tmod q2 (s : Int) = q2 % (s : Int) := Int.tmod_eq_emod_of_nonneg (by omega)
            have hbd7 := em_bd q2 (n := (s : Int)) (by omega)
            have hwr : IntKind.i64.wrap (q2 % (s : Int)) = q2 % (s : Int) := IntWalk.i64_in _ ⟨by omega, by omega⟩
            clear hc7
            refine hKK.out _ _ (HK.out _ hb7) (fun hSS1 => ?_)
            clear hKK K hSS0
            try simp only [Act.put, List.setIfInBounds_toArray, List.set_cons_zero, List.set_cons_succ]
            refine wpAnyH_take (i := 4) (oi := ⟨some 123, _, _, _, _, _⟩) (v := .int .i64 (q2 % (s : Int))) rfl (by kernel_rfl) (by kernel_rfl) (by kernel_rfl) (fun _ _ _ h => h) (Or.inl ⟨by rfl, fun W hSw => by go_simp⟩) (by assumption) ?_
            try simp only [Act.put, List.setIfInBounds_toArray, List.set_cons_zero, List.set_cons_succ]
            refine wpAnyH_take (i := 5) (oi := ⟨some 14, _, _, _, _, _⟩) (v := .int .i64 (q2 % (s : Int))) rfl (by kernel_rfl) (by kernel_rfl) (by kernel_rfl) (fun _ _ _ h => h) (Or.inl ⟨by rfl, fun W hSw => by go_simp⟩) (by assumption) ?_
            try simp only [Act.put, List.setIfInBounds_toArray, List.set_cons_zero, List.set_cons_succ]
            refine wpAnyH_done (by kernel_rfl) ?_ _
            have hb : Below v6.heap.size v6 v7 := hb7
            clear HK HBY6 HNUM hb7 hsem hwr hbd7 hSS1
            clear p0 p1 p2 p3 ltp
            have HR7 := Lib.hid (HR6.out.keep hb)
            clear HR6
            have HB7 := Lib.hid (show Below w.heap.size w v7 from HB6.out.trans (hb.mono HB6.out.size))
            clear HB6
            clear hb
            obtain ⟨k, hk, hks⟩ : ∃ k : Nat, q2 % (s : Int) = (k : Int) ∧ k < s := ⟨(q2 % (s : Int)).toNat, by have := em_bd q2 (n := (s : Int)) (by omega); omega, by have := em_bd q2 (n := (s : Int)) (by omega); omega⟩
            have HKK := Lib.hid hk
            clear hk
            obtain ⟨X, hX⟩ : ∃ X, rotZ (s : Int) zs 1 (k : Int) = X := ⟨_, rfl⟩
            have HX := Lib.hid hX
            have HXO : Hid (Ok s X) := Lib.hid (by rw [← hX]; exact rot_ok HO.out.1 _ _)
            have HROT : Hid (s % d = 0 → (restZ s X d).isEmpty = qv) := Lib.hid (fun hm => by
              rw [← HQV.out, ← hX]
              have h := restZ_rot HO.out hks hd1 hm
              cases h1 : restZ s (rotZ (s : Int) zs 1 (k : Int)) d with
              | nil => rw [h.1 h1]
              | cons x l =>
                cases h2 : restZ s zs d with
                | nil => rw [h.2 h2] at h1; cases h1
                | cons y m => rfl)
            clear hX
            obtain ⟨p0, p1, p2, p3⟩ := HR7.out.1.facts
            have ltp := HR7.out.1.lt
            go_wp2_with fail
            rw [HKK.out]
            refine (r_rot s br cr zs X k v7 HR7.out.2 HO.out (by omega) (by omega) HX.out).mono ?_
            rintro e v8 ⟨bx, cx, rfl, hown, hb⟩
            clear p0 p1 p2 p3 ltp
            have HR8 := Lib.hid (HR7.out.keep hb)
            clear HR7
            have HB8 := Lib.hid (show Below w.heap.size w v8 from HB7.out.trans (hb.mono HB7.out.size))
            clear HB7
            clear hb
            clear hq2 hq2' HKK
            have HS8 := Lib.hid (rhAt_put (n := s) hown (ok_allInt HXO.out))
            clear hown
            have hb := putR_below v8 s bx X.length cx
            have HR9 := Lib.hid (HR8.out.keep hb)
            clear HR8
            have HB9 := Lib.hid (show Below w.heap.size w (putR v8 s bx X.length cx) from HB8.out.trans (hb.mono HB8.out.size))
            clear HB8 hb
            go_upto_region 30 with fail
            obtain ⟨W9, hW⟩ : ∃ W9, putR v8 s bx X.length cx = W9 := ⟨_, rfl⟩
            change Code.wp _ _ _ _ (putR v8 s bx X.length cx)
            rw [hW]
            rw [hW] at HS8 HR9 HB9
            obtain ⟨xb, hxb⟩ : ∃ b, v8.heap.size = b := ⟨_, rfl⟩
            rw [hxb] at HS8 ⊢
            have HS9 : Hid (RhAt W9 xb s bx cx X) := HS8
            clear hW hxb HS8
            obtain ⟨P, hP⟩ : ∃ P, polZ s zs = P := ⟨_, rfl⟩
            obtain ⟨lp, hlp⟩ : ∃ m, P.length = m := ⟨_, rfl⟩
            have HPZ := Lib.hid hP
            have HPL := Lib.hid hlp
            have HPC : Hid (PolC P) := Lib.hid (by rw [← hP]; exact pol_polc HO.out)
            have hlp24 : lp ≤ 24 := by rw [← hlp, ← hP]; exact Nat.le_trans (pol_len _ _) (by omega)
            have hP25 : Hid (P.length ≤ 25) := Lib.hid (by omega)
            obtain ⟨od, hod⟩ : ∃ q : Nat, oddZ zs = q := ⟨(oddZ zs).toNat, by have := (odd_bd zs).1; omega⟩
            have hodl : od ≤ zs.length := by have := (odd_bd zs).2; omega
            have HV1 : Hid (pEval P 1 = (zs.length : Int)) := Lib.hid (by rw [← hP, ev_one HO.out])
            have HV2 : Hid (pEval P (-1) = (zs.length : Int) - 2 * (od : Int)) := Lib.hid (by rw [← hP, ev_neg HO.out, hod])
            have HOD := Lib.hid hod
            clear hP hlp hod
            obtain ⟨p0, p1, p2, p3⟩ := HR9.out.1.facts
            have ltp := HR9.out.1.lt
            go_wp2_with fail
            refine (v_poly s br cr zs P lp W9 HR9.out.2 HO.out HPZ.out HPL.out).mono ?_
            rintro e u1 ⟨bp, cp', rfl, hip, hb⟩
            clear p0 p1 p2 p3 ltp
            have HRu1 := Lib.hid (HR9.out.keep hb)
            clear HR9
            have HSu1 := Lib.hid (HS9.out.keep hb)
            clear HS9
            have HBu1 := Lib.hid (show Below w.heap.size w u1 from HB9.out.trans (hb.mono HB9.out.size))
            clear HB9
            clear hb
            have HPu1 := Lib.hid hip
            clear hip
            go_wp2_with fail
            refine (v_value bp lp cp' P 1 (zs.length : Int) u1 HPu1.out HPC.out hP25.out (by omega) (by omega) HV1.out).mono ?_
            rintro e u2 ⟨rfl, hb⟩
            have HRu2 := Lib.hid (HRu1.out.keep hb)
            clear HRu1
            have HSu2 := Lib.hid (HSu1.out.keep hb)
            clear HSu1
            have HPu2 := Lib.hid (HPu1.out.below hb)
            clear HPu1
            have HBu2 := Lib.hid (show Below w.heap.size w u2 from HBu1.out.trans (hb.mono HBu1.out.size))
            clear HBu1
            clear hb
            go_wp2_with fail
            refine (v_value bp lp cp' P (-1) ((zs.length : Int) - 2 * (od : Int)) u2 HPu2.out HPC.out hP25.out (by omega) (by omega) HV2.out).mono ?_
            rintro e u3 ⟨rfl, hb⟩
            have HRu3 := Lib.hid (HRu2.out.keep hb)
            clear HRu2
            have HSu3 := Lib.hid (HSu2.out.keep hb)
            clear HSu2
            have HPu3 := Lib.hid (HPu2.out.below hb)
            clear HPu2
            have HBu3 := Lib.hid (show Below w.heap.size w u3 from HBu2.out.trans (hb.mono HBu2.out.size))
            clear HBu2
            clear hb
            clear HPu3
            obtain ⟨p0, p1, p2, p3⟩ := HRu3.out.1.facts
            have ltp := HRu3.out.1.lt
            go_wp2_with fail
            go_loop [145, 22] (fun i x => ∃ (t o : Nat), t ≤ zs.length ∧ i = .int .i64 t ∧ x = .int .i64 o ∧ Hid (oddZ (zs.take t) = (o : Int))) (fun i _ => zs.length - (intOf i).toNat)
            case atStart => exact ⟨0, 0, by omega, rfl, rfl, Lib.hid (by simp [oddZ])⟩
            case round =>
              obtain ⟨t, o, ht, rfl, rfl, HTK⟩ := hrel
              have ho24 : o ≤ 24 := by
                have := (odd_bd (zs.take t)).2
                rw [HTK.out, List.length_take] at this
                omega
              by_cases hlt : t < zs.length
              · skip
                obtain ⟨b7, o7, z7, rfl, hbb, hs, hc, hz1, hz2⟩ := HRu3.out.2.at hlt
                obtain ⟨hz0, hzs⟩ := ok_at HO.out hs
                obtain ⟨r, rfl⟩ : ∃ r : Nat, z7 = r := ⟨z7.toNat, by omega⟩
                have HTN := Lib.hid (odd_next hs)
                clear hs
                go_wp2
                go_round
                case rel => exact ⟨t + 1, o + r % 2, by omega, by go_num, by go_num, Lib.hid (by rw [HTN.out, HTK.out]; go_num)⟩
                case measure => simp [intOf]; omega
              · skip
                obtain rfl : o = od := by
                  have h1 := HTK.out
                  rw [show t = zs.length by omega, List.take_length, HOD.out] at h1
                  omega
                go_wp2_with fail
                refine (v_toti d T _ hd1 (by omega) HTT.out).mono ?_
                rintro e u4 ⟨rfl, hb⟩
                clear hlt HTK
                clear p0 p1 p2 p3 ltp
                have HRu4 := Lib.hid (HRu3.out.keep hb)
                clear HRu3
                have HSu4 := Lib.hid (HSu3.out.keep hb)
                clear HSu3
                have HBu4 := Lib.hid (show Below w.heap.size w u4 from HBu3.out.trans (hb.mono HBu3.out.size))
                clear HBu3
                clear hb
                obtain ⟨p0, p1, p2, p3⟩ := HRu4.out.1.facts
                have ltp := HRu4.out.1.lt
                go_wp2_with fail
                refine (v_vanish s br cr zs d qv _ HRu4.out.2 HO.out hd1 (by omega) HQV.out).mono ?_
                rintro e u5 ⟨rfl, hb⟩
                clear p0 p1 p2 p3 ltp
                have HRu5 := Lib.hid (HRu4.out.keep hb)
                clear HRu4
                have HSu5 := Lib.hid (HSu4.out.keep hb)
                clear HSu4
                have HBu5 := Lib.hid (show Below w.heap.size w u5 from HBu4.out.trans (hb.mono HBu4.out.size))
                clear HBu4
                clear hb
                have HFIN : Hid (∀ q, decide (2 * oddZ zs = zs.length) = q → s % 2 = 0 → hasB (vanP s zs s) 2 = q) := Lib.hid (fun q hq he => by rw [has_two HO.out he, hq])
                by_cases hm : s % d = 0
                · skip
                  have hmz : (s : Int) % (d : Int) = 0 := by have h1 : ((s % d : Nat) : Int) = 0 := (by rw [hm]; rfl); simpa using h1
                  have hdz : ((d : Int) == 0) = false := by simp; omega
                  obtain ⟨p0, p1, p2, p3⟩ := HRu5.out.1.facts
                  have ltp := HRu5.out.1.lt
                  obtain ⟨r0, r1, r2, r3⟩ := HSu5.out.1.facts
                  have ltr := HSu5.out.1.lt
                  go_wp2_with fail
                  refine (v_vanish s bx cx X d qv _ HSu5.out.2 HXO.out hd1 (by omega) (HROT.out hm)).mono ?_
                  rintro e u6 ⟨rfl, hb⟩
                  clear p0 p1 p2 p3 ltp
                  clear r0 r1 r2 r3 ltr
                  have HRu6 := Lib.hid (HRu5.out.keep hb)
                  clear HRu5
                  have HSu6 := Lib.hid (HSu5.out.keep hb)
                  clear HSu5
                  have HBu6 := Lib.hid (show Below w.heap.size w u6 from HBu5.out.trans (hb.mono HBu5.out.size))
                  clear HBu5
                  clear hb
                  obtain ⟨p0, p1, p2, p3⟩ := HRu6.out.1.facts
                  have ltp := HRu6.out.1.lt
                  go_upto_region 41 with fail
                  refine wp_code (c' := rgOf Try.f3 41) (by kernel_rfl) ?_
                  rcases Nat.mod_two_eq_zero_or_one s with hpar | hpar
                  · refine poly41_e s _ zs br cr rb w _ hs1 (by omega) HO.out HRu6.out HOD.out hodl hzl hpar ?_
                    intro x209 x210 x211 x212 x213 x214 x215 x216 x217 x218 x219 x220 x221 x222 x223 x224 w9 hb
                    go_wp2
                    go_ret
                    exact ⟨rfl, HBu6.out.trans (hb.mono HBu6.out.size)⟩
                  · refine poly41_o s _ zs br cr rb w _ hs1 (by omega) HO.out HRu6.out HOD.out hodl hzl hpar ?_
                    intro x209 x210 x211 x212 x213 x214 x215 x216 x217 x218 x219 x220 x221 x222 x223 x224 w9 hb
                    go_wp2
                    go_ret
                    exact ⟨rfl, HBu6.out.trans (hb.mono HBu6.out.size)⟩
                · skip
                  have hmz : ((s : Int) % (d : Int) == 0) = false := by
                    have : ¬ ((s % d : Nat) : Int) = 0 := by omega
                    simp only [beq_eq_false_iff_ne]
                    simpa using this
                  have hdz : ((d : Int) == 0) = false := by simp; omega
                  obtain ⟨p0, p1, p2, p3⟩ := HRu5.out.1.facts
                  have ltp := HRu5.out.1.lt
                  obtain ⟨r0, r1, r2, r3⟩ := HSu5.out.1.facts
                  have ltr := HSu5.out.1.lt
                  go_upto_region 41 with fail
                  refine wp_code (c' := rgOf Try.f3 41) (by kernel_rfl) ?_
                  rcases Nat.mod_two_eq_zero_or_one s with hpar | hpar
                  · refine poly41_e s _ zs br cr rb w _ hs1 (by omega) HO.out HRu5.out HOD.out hodl hzl hpar ?_
                    intro x209 x210 x211 x212 x213 x214 x215 x216 x217 x218 x219 x220 x221 x222 x223 x224 w9 hb
                    go_wp2
                    go_ret
                    exact ⟨rfl, HBu5.out.trans (hb.mono HBu5.out.size)⟩
                  · refine poly41_o s _ zs br cr rb w _ hs1 (by omega) HO.out HRu5.out HOD.out hodl hzl hpar ?_
                    intro x209 x210 x211 x212 x213 x214 x215 x216 x217 x218 x219 x220 x221 x222 x223 x224 w9 hb
                    go_wp2
                    go_ret
                    exact ⟨rfl, HBu5.out.trans (hb.mono HBu5.out.size)⟩
  · clear hb
    go_enter Try.func3, Try.ntmps3
    go_wp2
    go_ret
    exact ⟨rfl, Below.refl _ _⟩
end Go.Proofs.Ytoejafpijcacoaa.Rhy
