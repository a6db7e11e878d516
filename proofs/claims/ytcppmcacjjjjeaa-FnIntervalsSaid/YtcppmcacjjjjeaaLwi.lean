/-
  Helpers of the claims beside this text: the law on intervals.
-/
import Derived.Test.YtcppmcacjjjjeaaIvx
import Derived.Test.YtcppmcacjjjjeaaLwb
import Derived.Deep.DeepCutAuto
import Derived.BigFrame
namespace Go.Proofs.Ytcppmcacjjjjeaa.Rhy
open Go.RowKit
open Go.Proofs.Ytcppmcacjjjjeaa.Cur
set_option linter.unusedVariables false
set_option linter.unusedSimpArgs false

theorem gcd_pred {n : Nat} (h : 2 ≤ n) : Nat.gcd (n - 1) n = 1 := by
  have h1 : Nat.gcd (n - 1) n ∣ 1 := by
    have a := Nat.gcd_dvd_left (n - 1) n
    have b := Nat.gcd_dvd_right (n - 1) n
    have c := Nat.dvd_sub b a
    rwa [show n - (n - 1) = 1 by omega] at c
  exact Nat.dvd_one.1 h1

set_option maxHeartbeats 8000000 in
set_option maxRecDepth 100000 in
theorem intervals_walk (a : Option Addr) (len cap : Nat) (w : World) (hb : len ≤ 1048576 → BytesAt w.heap.size w a len) :
    Calls Try.prog 3 #[.slice a len cap] w fun e w' => e = .returned (.bool true) ∧ Below w.heap.size w w' := by
  by_cases hlen : len ≤ 1048576
  · have HBY := Lib.hid (hb hlen)
    clear hb
    go_enter Try.func3, Try.ntmps3
    go_wp2_with fail
    refine (make_any a len cap 0 16 w HBY.out (by omega) (by omega) (by omega)).mono ?_
    rintro e w1 ⟨n, b, c, zs, rfl, hok, hn, hown, hb1⟩
    have HO := Lib.hid hok
    have hn1 : 1 ≤ n := by have := hok.1.1; omega
    have hn16 : n ≤ 16 := hn
    have HXr0 : Hid (RhAt (putR w1 n b zs.length c) w1.heap.size n b c zs) := Lib.hid (rhAt_put hown (ok_allInt hok))
    have HB0x := Lib.hid (show Below w.heap.size w (putR w1 n b zs.length c) from hb1.trans ((putR_below _ _ _ _ _).mono hb1.size))
    have HLZ := Lib.hid (ok_len hok)
    obtain ⟨lo, hlo⟩ : ∃ l, notZ n zs = l := ⟨_, rfl⟩
    have HElo := Lib.hid hlo
    obtain ⟨D, hD⟩ : ∃ l, difZ n zs = l := ⟨_, rfl⟩
    have HED := Lib.hid hD
    obtain ⟨V, hV⟩ : ∃ l, vecZ n zs = l := ⟨_, rfl⟩
    have HEV := Lib.hid hV
    obtain ⟨E, hE⟩ : ∃ l, difZ n lo = l := ⟨_, rfl⟩
    have HEE := Lib.hid hE
    have HOo : Hid (Ok n lo) := Lib.hid (by rw [← hlo]; exact not_ok' hok)
    obtain ⟨m, hm⟩ : ∃ m, n / 2 = m := ⟨_, rfl⟩
    have HM := Lib.hid hm
    have hnm : (n : Int) / 2 = (m : Int) := by omega
    have HNM := Lib.hid hnm
    obtain ⟨kI, hkI⟩ : ∃ kI : Int, (zs.length : Int) = kI := ⟨_, rfl⟩
    have HKI := Lib.hid hkI
    have hk0 : 0 ≤ kI := by omega
    have hk24 : kI ≤ 24 := by have := HLZ.out; omega
    obtain ⟨kk, hkk⟩ : ∃ kk : Int, kI * kI = kk := ⟨_, rfl⟩
    have hkkb : 0 ≤ kk ∧ kk ≤ 576 := by rw [← hkk]; exact ⟨Int.mul_nonneg hk0 hk0, Int.le_trans (Int.mul_le_mul hk24 hk24 hk0 (by omega)) (by omega)⟩
    obtain ⟨k2, hk2⟩ : ∃ k2 : Int, kI * (kI - 1) = k2 := ⟨_, rfl⟩
    have hk2e : k2 = kk - kI := by rw [← hk2, ← hkk, Int.mul_sub, Int.mul_one]
    have hk2b : -24 ≤ k2 ∧ k2 ≤ 576 := by omega
    obtain ⟨t, ht⟩ : ∃ t : Int, V.sum = t := ⟨_, rfl⟩
    have HT := Lib.hid ht
    have ht2 : 2 * t = k2 := by have h := vec_sum hok; rw [hV, ht] at h; rw [hk2e, h, ← hkI, ← hkk, ← hkI]; simp
    have HDS : Hid (D.sum = kk) := Lib.hid (by have h := difZ_sum hok; rw [hD] at h; rw [h, ← hkk, ← hkI]; simp)
    have HDR : Hid (∀ x ∈ D, 0 ≤ x ∧ x ≤ 1000) := Lib.hid (by rw [← hD]; exact dif_range hok)
    have HVR : Hid (∀ x ∈ V, 0 ≤ x ∧ x ≤ 1000) := Lib.hid (by rw [← hV]; exact vec_range hok)
    have hd0 : D[0]?.getD 0 = kI := by rw [← hD, difZ_at (by omega)]; show ((difAt n zs ((0 : Nat) : Int) : Nat) : Int) = kI; rw [show difAt n zs ((0 : Nat) : Int) = zs.length from dif_zero hok, hkI]
    have HD0 := Lib.hid hd0
    have hwkk : wrap64 (kI * kI) = kk := by rw [hkk]; unfold wrap64; omega
    have hwk2 : wrap64 (kI * (kI - 1)) = k2 := by rw [hk2]; unfold wrap64; omega
    have HWKK := Lib.hid hwkk
    have HWK2 := Lib.hid hwk2
    have HT2 := Lib.hid ht2
    clear hok hn hown hb1 hlo hD hV hE hm hnm hkI hkk hk2 hk2e ht ht2 hd0 hwkk hwk2
    obtain ⟨pr0, pr1, pr2, pr3⟩ := HXr0.out.1.facts
    have ltr := HXr0.out.1.lt
    go_wp2_with fail
    rw [HKI.out]
    refine (v_difs n b c zs D (putR w1 n b zs.length c) HXr0.out.2 HO.out HED.out).mono ?_
    rintro e v1 ⟨bd, cd, rfl, hil, hb⟩
    clear pr0 pr1 pr2 pr3 ltr
    have HXr1 := Lib.hid (HXr0.out.keep hb)
    clear HXr0
    have HB1x := Lib.hid (show Below w.heap.size w v1 from HB0x.out.trans (hb.mono HB0x.out.size))
    clear HB0x hb
    have HLd0 := Lib.hid hil
    clear hil
    obtain ⟨pr0, pr1, pr2, pr3⟩ := HXr1.out.1.facts
    have ltr := HXr1.out.1.lt
    go_wp2_with fail
    refine (v_vec n b c zs V m v1 HXr1.out.2 HO.out HEV.out HM.out).mono ?_
    rintro e v2 ⟨bv, cv, rfl, hil, hb⟩
    clear pr0 pr1 pr2 pr3 ltr
    have HXr2 := Lib.hid (HXr1.out.keep hb)
    clear HXr1
    have HLd2 := Lib.hid (HLd0.out.below hb)
    clear HLd0
    have HB2x := Lib.hid (show Below w.heap.size w v2 from HB1x.out.trans (hb.mono HB1x.out.size))
    clear HB1x hb
    have HLv0 := Lib.hid hil
    clear hil
    obtain ⟨pr0, pr1, pr2, pr3⟩ := HXr2.out.1.facts
    have ltr := HXr2.out.1.lt
    go_wp2_with fail
    refine (r_oth n b c zs lo v2 HXr2.out.2 HO.out HElo.out).mono ?_
    rintro e v3 ⟨bo, co, rfl, hown, hb⟩
    clear pr0 pr1 pr2 pr3 ltr
    have HXr3 := Lib.hid (HXr2.out.keep hb)
    clear HXr2
    have HLd3 := Lib.hid (HLd2.out.below hb)
    clear HLd2
    have HLv3 := Lib.hid (HLv0.out.below hb)
    clear HLv0
    have HB3x := Lib.hid (show Below w.heap.size w v3 from HB2x.out.trans (hb.mono HB2x.out.size))
    clear HB2x hb
    have HXn := Lib.hid (rhAt_put (n := n) hown (ok_allInt HOo.out))
    clear hown
    have hb := putR_below v3 n bo lo.length co
    have HXr4 := Lib.hid (HXr3.out.keep hb)
    clear HXr3
    have HLd4 := Lib.hid (HLd3.out.below hb)
    clear HLd3
    have HLv4 := Lib.hid (HLv3.out.below hb)
    clear HLv3
    have HB4x := Lib.hid (show Below w.heap.size w (putR v3 n bo lo.length co) from HB3x.out.trans (hb.mono HB3x.out.size))
    clear HB3x hb
    have HXo4 : Hid (RhAt (putR v3 n bo lo.length co) v3.heap.size n bo co lo) := HXn
    clear HXn
    obtain ⟨pr0, pr1, pr2, pr3⟩ := HXr4.out.1.facts
    have ltr := HXr4.out.1.lt
    obtain ⟨po0, po1, po2, po3⟩ := HXo4.out.1.facts
    have lto := HXo4.out.1.lt
    go_wp2_with fail
    refine (v_difs n bo co lo E (putR v3 n bo lo.length co) HXo4.out.2 HOo.out HEE.out).mono ?_
    rintro e v5 ⟨be, ce, rfl, hil, hb⟩
    clear pr0 pr1 pr2 pr3 ltr po0 po1 po2 po3 lto
    have HXr5 := Lib.hid (HXr4.out.keep hb)
    clear HXr4
    have HXo5 := Lib.hid (HXo4.out.keep hb)
    clear HXo4
    have HLd5 := Lib.hid (HLd4.out.below hb)
    clear HLd4
    have HLv5 := Lib.hid (HLv4.out.below hb)
    clear HLv4
    have HB5x := Lib.hid (show Below w.heap.size w v5 from HB4x.out.trans (hb.mono HB4x.out.size))
    clear HB4x hb
    have HLe0 := Lib.hid hil
    clear hil
    obtain ⟨pr0, pr1, pr2, pr3⟩ := HXr5.out.1.facts
    have ltr := HXr5.out.1.lt
    obtain ⟨po0, po1, po2, po3⟩ := HXo5.out.1.facts
    have lto := HXo5.out.1.lt
    go_wp2_with fail
    refine (v_over n b c zs D b c v5 HXr5.out.2 HXr5.out.2 HO.out HED.out).mono ?_
    rintro e v6 ⟨bc, cc, rfl, hil, hb⟩
    clear pr0 pr1 pr2 pr3 ltr po0 po1 po2 po3 lto
    have HXr6 := Lib.hid (HXr5.out.keep hb)
    clear HXr5
    have HXo6 := Lib.hid (HXo5.out.keep hb)
    clear HXo5
    have HLd6 := Lib.hid (HLd5.out.below hb)
    clear HLd5
    have HLv6 := Lib.hid (HLv5.out.below hb)
    clear HLv5
    have HLe6 := Lib.hid (HLe0.out.below hb)
    clear HLe0
    have HB6x := Lib.hid (show Below w.heap.size w v6 from HB5x.out.trans (hb.mono HB5x.out.size))
    clear HB5x hb
    have HLc0 := Lib.hid hil
    clear hil
    obtain ⟨gd, od, rfl⟩ := addr_at HLd6.out (by omega)
    obtain ⟨ge, oe, rfl⟩ := addr_at HLe6.out (by omega)
    obtain ⟨gc, oc, rfl⟩ := addr_at HLc0.out (by omega)
    have hnm := HNM.out
    have hcd : v6.cell? ⟨gd, od, none⟩ = some (.int .i64 kI) := by have h := cell_at HLd6.out (k := 0) (by omega); rw [HD0.out] at h; simpa using h
    go_wp2_with fail
    refine (sum_any (some ⟨gd, od, none⟩) n cd D kk v6 HLd6.out HDR.out (by omega) HDS.out).mono ?_
    rintro e v7 ⟨rfl, hb⟩
    have HXr7 := Lib.hid (HXr6.out.keep hb)
    clear HXr6
    have HXo7 := Lib.hid (HXo6.out.keep hb)
    clear HXo6
    have HLd7 := Lib.hid (HLd6.out.below hb)
    clear HLd6
    have HLv7 := Lib.hid (HLv6.out.below hb)
    clear HLv6
    have HLe7 := Lib.hid (HLe6.out.below hb)
    clear HLe6
    have HLc7 := Lib.hid (HLc0.out.below hb)
    clear HLc0
    have HB7x := Lib.hid (show Below w.heap.size w v7 from HB6x.out.trans (hb.mono HB6x.out.size))
    clear HB6x hb
    clear hcd
    have hwkk := HWKK.out
    go_wp2_with fail
    refine (sum_any bv m cv V t v7 HLv7.out HVR.out (by omega) HT.out).mono ?_
    rintro e v8 ⟨rfl, hb⟩
    have HXr8 := Lib.hid (HXr7.out.keep hb)
    clear HXr7
    have HXo8 := Lib.hid (HXo7.out.keep hb)
    clear HXo7
    have HLd8 := Lib.hid (HLd7.out.below hb)
    clear HLd7
    have HLv8 := Lib.hid (HLv7.out.below hb)
    clear HLv7
    have HLe8 := Lib.hid (HLe7.out.below hb)
    clear HLe7
    have HLc8 := Lib.hid (HLc7.out.below hb)
    clear HLc7
    have HB8x := Lib.hid (show Below w.heap.size w v8 from HB7x.out.trans (hb.mono HB7x.out.size))
    clear HB7x hb
    have hwk2 := HWK2.out
    have ht2 := HT2.out
    have htb : -24 ≤ t ∧ t ≤ 576 := by omega
    have HLB : Hid (Below w.heap.size w v8 ∧ RhAt v8 w1.heap.size n b c zs ∧ RhAt v8 v3.heap.size n bo co lo ∧ IntsAt v8 (some ⟨gd, od, none⟩) n D ∧ IntsAt v8 (some ⟨ge, oe, none⟩) n E ∧ IntsAt v8 (some ⟨gc, oc, none⟩) n D) := Lib.hid ⟨HB8x.out, HXr8.out, HXo8.out, HLd8.out, HLe8.out, HLc8.out⟩
    clear HB8x HXr8 HXo8 HLd8 HLe8 HLc8
    go_wp2
    clear hwk2 ht2 hwkk htb hnm
    go_loopw [12] (fun i wr => ∃ p : Nat, p ≤ n ∧ i = .int .i64 p ∧ Below w.heap.size w wr ∧ RhAt wr w1.heap.size n b c zs ∧ RhAt wr v3.heap.size n bo co lo ∧ IntsAt wr (some ⟨gd, od, none⟩) n D ∧ IntsAt wr (some ⟨ge, oe, none⟩) n E ∧ IntsAt wr (some ⟨gc, oc, none⟩) n D) (fun i _ => n - (intOf i).toNat)
    case atStart => exact ⟨0, by omega, rfl, HLB.out⟩
    case round =>
      clear HLB
      obtain ⟨p, hp, rfl, hbl, hxr, hxo, hld, hle, hlc⟩ := hrel
      have HXrL := Lib.hid hxr
      have HXoL := Lib.hid hxo
      have HLdL := Lib.hid hld
      have HLeL := Lib.hid hle
      have HLcL := Lib.hid hlc
      have HBL := Lib.hid hbl
      clear hbl hxr hxo hld hle hlc
      by_cases hlt : p < n
      · have hltb : decide ((p : Int) < (n : Int)) = true := by simp; omega
        obtain ⟨x, hx⟩ : ∃ x, difAt n zs (p : Int) = x := ⟨_, rfl⟩
        obtain ⟨y, hy⟩ : ∃ y, difAt n lo (p : Int) = y := ⟨_, rfl⟩
        have hxy : (y : Int) + 2 * kI = x + n := by have h := dif_not HO.out (p : Int); rw [HElo.out, hx, hy] at h; have := HKI.out; omega
        have hx24 : x ≤ 24 := by rw [← hx]; exact dif_le HO.out _
        have hy24 : y ≤ 24 := by rw [← hy]; exact dif_le HOo.out _
        obtain ⟨r, hr, hrn⟩ : ∃ r : Nat, ((n : Int) - p) % n = r ∧ r < n := ⟨(((n : Int) - p) % n).toNat, by have := em_bd ((n : Int) - p) (n := (n : Int)) (by omega); omega, by have := em_bd ((n : Int) - p) (n := (n : Int)) (by omega); omega⟩
        have hdr : difAt n zs (r : Int) = x := by rw [← hr, dif_mod HO.out, dif_sub HO.out, hx]
        have HRR := Lib.hid hr
        have HCd : Hid (∀ W' : World, Below wr.heap.size wr W' → W'.cell? ⟨gd, od + p, none⟩ = some (.int .i64 (x : Nat))) := Lib.hid (fun W' hW => by have h := cell_at (HLdL.out.below hW) (k := p) (by omega); rw [← HED.out, difZ_at (by omega), hx] at h; exact h)
        have HCe : Hid (∀ W' : World, Below wr.heap.size wr W' → W'.cell? ⟨ge, oe + p, none⟩ = some (.int .i64 (y : Nat))) := Lib.hid (fun W' hW => by have h := cell_at (HLeL.out.below hW) (k := p) (by omega); rw [← HEE.out, difZ_at (by omega), hy] at h; exact h)
        have HCc : Hid (∀ W' : World, Below wr.heap.size wr W' → W'.cell? ⟨gc, oc + p, none⟩ = some (.int .i64 (x : Nat))) := Lib.hid (fun W' hW => by have h := cell_at (HLcL.out.below hW) (k := p) (by omega); rw [← HED.out, difZ_at (by omega), hx] at h; exact h)
        have HCr : Hid (∀ W' : World, Below wr.heap.size wr W' → W'.cell? ⟨gd, od + r, none⟩ = some (.int .i64 (x : Nat))) := Lib.hid (fun W' hW => by have h := cell_at (HLdL.out.below hW) (k := r) (by omega); rw [← HED.out, difZ_at (by omega), hdr] at h; exact h)
        have HX := Lib.hid hx
        clear hx hy hdr hr
        go_upto_region 16 with fail
        have HK : Hid (∀ W' : World, Below wr.heap.size wr W' → W'.cell? ⟨gd, od + p, none⟩ = some (.int .i64 (x : Nat)) ∧ W'.cell? ⟨ge, oe + p, none⟩ = some (.int .i64 (y : Nat)) ∧ W'.cell? ⟨gc, oc + p, none⟩ = some (.int .i64 (x : Nat)) ∧ W'.cell? ⟨gd, od + r, none⟩ = some (.int .i64 (x : Nat)) ∧ Below wr.heap.size wr W') :=
          Lib.hid (fun W' hW => ⟨HCd.out W' hW, HCe.out W' hW, HCc.out W' hW, HCr.out W' hW, hW⟩)
        have HMd : Hid (∀ W' : World, Below wr.heap.size wr W' → IntsAt W' (some ⟨gd, od, none⟩) n D) := Lib.hid (fun W' hW => HLdL.out.below hW)
        have HMe : Hid (∀ W' : World, Below wr.heap.size wr W' → IntsAt W' (some ⟨ge, oe, none⟩) n E) := Lib.hid (fun W' hW => HLeL.out.below hW)
        have HMc : Hid (∀ W' : World, Below wr.heap.size wr W' → IntsAt W' (some ⟨gc, oc, none⟩) n D) := Lib.hid (fun W' hW => HLcL.out.below hW)
        refine wp_region_held_drew (S := fun W' => W'.cell? ⟨gd, od + p, none⟩ = some (.int .i64 (x : Nat)) ∧ W'.cell? ⟨ge, oe + p, none⟩ = some (.int .i64 (y : Nat)) ∧ W'.cell? ⟨gc, oc + p, none⟩ = some (.int .i64 (x : Nat)) ∧ W'.cell? ⟨gd, od + r, none⟩ = some (.int .i64 (x : Nat)) ∧ Below wr.heap.size wr W') (by kernel_rfl) (HK.out _ (Below.refl _ _).drew) (fun hSS0 => ?_)
        refine wpAnyH_take (i := 0) (oi := ⟨some 96, _, _, _, _, _⟩) (v := .slice (some ⟨ge, oe, none⟩) n ce) rfl (by kernel_rfl) (by kernel_rfl) (by kernel_rfl) (fun _ _ _ h => h) (Or.inl ⟨by rfl, fun w hSw => by go_simp⟩) (by assumption) ?_
        try simp only [Act.put, List.setIfInBounds_toArray, List.set_cons_zero, List.set_cons_succ]
        refine wpAnyH_take (i := 1) (oi := ⟨some 97, _, _, _, _, _⟩) (v := .int .i64 p) rfl (by kernel_rfl) (by kernel_rfl) (by kernel_rfl) (fun _ _ _ h => h) (Or.inl ⟨by rfl, fun w hSw => by go_simp⟩) (by assumption) ?_
        try simp only [Act.put, List.setIfInBounds_toArray, List.set_cons_zero, List.set_cons_succ]
        refine wpAnyH_take (i := 2) (oi := ⟨some 98, _, _, _, _, _⟩) (v := .pointer (some ⟨ge, oe + p, none⟩)) rfl (by kernel_rfl) (by kernel_rfl) (by kernel_rfl) (fun _ _ _ h => h) (Or.inl ⟨by rfl, fun w hSw => by first | (go_simp; done) | (go_simp; omega)⟩) (by assumption) ?_
        try simp only [Act.put, List.setIfInBounds_toArray, List.set_cons_zero, List.set_cons_succ]
        refine wpAnyH_take (i := 3) (oi := ⟨some 99, _, _, _, _, _⟩) (v := .int .i64 (y : Nat)) rfl (by kernel_rfl) (by kernel_rfl) (by kernel_rfl) (fun _ _ _ h => h) (Or.inl ⟨by rfl, fun w hSw => by obtain ⟨q1, q2, q3, q4, _⟩ := hSw; go_simp⟩) (by assumption) ?_
        try simp only [Act.put, List.setIfInBounds_toArray, List.set_cons_zero, List.set_cons_succ]
        refine wpAnyH_take (i := 4) (oi := ⟨some 100, _, _, _, _, _⟩) (v := .slice (some ⟨gd, od, none⟩) n cd) rfl (by kernel_rfl) (by kernel_rfl) (by kernel_rfl) (fun _ _ _ h => h) (Or.inl ⟨by rfl, fun w hSw => by go_simp⟩) (by assumption) ?_
        try simp only [Act.put, List.setIfInBounds_toArray, List.set_cons_zero, List.set_cons_succ]
        refine wpAnyH_take (i := 5) (oi := ⟨some 101, _, _, _, _, _⟩) (v := .int .i64 p) rfl (by kernel_rfl) (by kernel_rfl) (by kernel_rfl) (fun _ _ _ h => h) (Or.inl ⟨by rfl, fun w hSw => by go_simp⟩) (by assumption) ?_
        try simp only [Act.put, List.setIfInBounds_toArray, List.set_cons_zero, List.set_cons_succ]
        refine wpAnyH_take (i := 6) (oi := ⟨some 102, _, _, _, _, _⟩) (v := .pointer (some ⟨gd, od + p, none⟩)) rfl (by kernel_rfl) (by kernel_rfl) (by kernel_rfl) (fun _ _ _ h => h) (Or.inl ⟨by rfl, fun w hSw => by first | (go_simp; done) | (go_simp; omega)⟩) (by assumption) ?_
        try simp only [Act.put, List.setIfInBounds_toArray, List.set_cons_zero, List.set_cons_succ]
        refine wpAnyH_take (i := 7) (oi := ⟨some 103, _, _, _, _, _⟩) (v := .int .i64 (x : Nat)) rfl (by kernel_rfl) (by kernel_rfl) (by kernel_rfl) (fun _ _ _ h => h) (Or.inl ⟨by rfl, fun w hSw => by obtain ⟨q1, q2, q3, q4, _⟩ := hSw; go_simp⟩) (by assumption) ?_
        try simp only [Act.put, List.setIfInBounds_toArray, List.set_cons_zero, List.set_cons_succ]
        refine wpAnyH_take (i := 8) (oi := ⟨some 104, _, _, _, _, _⟩) (v := .int .i64 ((y : Int) - x)) rfl (by kernel_rfl) (by kernel_rfl) (by kernel_rfl) (fun _ _ _ h => h) (Or.inl ⟨by rfl, fun w hSw => by first | (go_simp; done) | (go_simp; exact (IntWalk.i64_in _ ⟨by omega, by omega⟩).trans (by omega))⟩) (by assumption) ?_
        try simp only [Act.put, List.setIfInBounds_toArray, List.set_cons_zero, List.set_cons_succ]
        refine wpAnyH_take (i := 9) (oi := ⟨some 105, _, _, _, _, _⟩) (v := .int .i64 n) rfl (by kernel_rfl) (by kernel_rfl) (by kernel_rfl) (fun _ _ _ h => h) (Or.inl ⟨by rfl, fun w hSw => by go_simp⟩) (by assumption) ?_
        try simp only [Act.put, List.setIfInBounds_toArray, List.set_cons_zero, List.set_cons_succ]
        refine wpAnyH_take (i := 10) (oi := ⟨some 106, _, _, _, _, _⟩) (v := .int .i64 kI) rfl (by kernel_rfl) (by kernel_rfl) (by kernel_rfl) (fun _ _ _ h => h) (Or.inl ⟨by rfl, fun w hSw => by go_simp⟩) (by assumption) ?_
        try simp only [Act.put, List.setIfInBounds_toArray, List.set_cons_zero, List.set_cons_succ]
        refine wpAnyH_take (i := 11) (oi := ⟨some 107, _, _, _, _, _⟩) (v := .int .i64 (2 * kI)) rfl (by kernel_rfl) (by kernel_rfl) (by kernel_rfl) (fun _ _ _ h => h) (Or.inl ⟨by rfl, fun w hSw => by first | (go_simp; done) | (go_simp; exact (IntWalk.i64_in _ ⟨by omega, by omega⟩).trans (by omega))⟩) (by assumption) ?_
        try simp only [Act.put, List.setIfInBounds_toArray, List.set_cons_zero, List.set_cons_succ]
        refine wpAnyH_take (i := 12) (oi := ⟨some 108, _, _, _, _, _⟩) (v := .int .i64 ((n : Int) - 2 * kI)) rfl (by kernel_rfl) (by kernel_rfl) (by kernel_rfl) (fun _ _ _ h => h) (Or.inl ⟨by rfl, fun w hSw => by first | (go_simp; done) | (go_simp; exact (IntWalk.i64_in _ ⟨by omega, by omega⟩).trans (by omega))⟩) (by assumption) ?_
        try simp only [Act.put, List.setIfInBounds_toArray, List.set_cons_zero, List.set_cons_succ]
        refine wpAnyH_take (i := 13) (oi := ⟨some 109, _, _, _, _, _⟩) (v := .bool false) rfl (by kernel_rfl) (by kernel_rfl) (by kernel_rfl) (fun _ _ _ h => h) (Or.inl ⟨by rfl, fun w hSw => by first | (go_simp; done) | (go_simp; omega)⟩) (by assumption) ?_
        try simp only [Act.put, List.setIfInBounds_toArray, List.set_cons_zero, List.set_cons_succ]
        refine wpAnyH_take (i := 14) (oi := ⟨some 110, _, _, _, _, _⟩) (v := .bool false) rfl (by kernel_rfl) (by kernel_rfl) (by kernel_rfl) (fun _ _ _ h => h) (Or.inl ⟨by rfl, fun w hSw => by go_simp⟩) (by assumption) ?_
        try simp only [Act.put, List.setIfInBounds_toArray, List.set_cons_zero, List.set_cons_succ]
        refine wpAnyH_take (i := 15) (oi := ⟨some 111, _, _, _, _, _⟩) (v := .slice (some ⟨gc, oc, none⟩) n cc) rfl (by kernel_rfl) (by kernel_rfl) (by kernel_rfl) (fun _ _ _ h => h) (Or.inl ⟨by rfl, fun w hSw => by go_simp⟩) (by assumption) ?_
        try simp only [Act.put, List.setIfInBounds_toArray, List.set_cons_zero, List.set_cons_succ]
        refine wpAnyH_take (i := 16) (oi := ⟨some 112, _, _, _, _, _⟩) (v := .int .i64 p) rfl (by kernel_rfl) (by kernel_rfl) (by kernel_rfl) (fun _ _ _ h => h) (Or.inl ⟨by rfl, fun w hSw => by go_simp⟩) (by assumption) ?_
        try simp only [Act.put, List.setIfInBounds_toArray, List.set_cons_zero, List.set_cons_succ]
        refine wpAnyH_take (i := 17) (oi := ⟨some 113, _, _, _, _, _⟩) (v := .pointer (some ⟨gc, oc + p, none⟩)) rfl (by kernel_rfl) (by kernel_rfl) (by kernel_rfl) (fun _ _ _ h => h) (Or.inl ⟨by rfl, fun w hSw => by first | (go_simp; done) | (go_simp; omega)⟩) (by assumption) ?_
        try simp only [Act.put, List.setIfInBounds_toArray, List.set_cons_zero, List.set_cons_succ]
        refine wpAnyH_take (i := 18) (oi := ⟨some 114, _, _, _, _, _⟩) (v := .int .i64 (x : Nat)) rfl (by kernel_rfl) (by kernel_rfl) (by kernel_rfl) (fun _ _ _ h => h) (Or.inl ⟨by rfl, fun w hSw => by obtain ⟨q1, q2, q3, q4, _⟩ := hSw; go_simp⟩) (by assumption) ?_
        try simp only [Act.put, List.setIfInBounds_toArray, List.set_cons_zero, List.set_cons_succ]
        refine wpAnyH_take (i := 19) (oi := ⟨some 115, _, _, _, _, _⟩) (v := .slice (some ⟨gd, od, none⟩) n cd) rfl (by kernel_rfl) (by kernel_rfl) (by kernel_rfl) (fun _ _ _ h => h) (Or.inl ⟨by rfl, fun w hSw => by go_simp⟩) (by assumption) ?_
        try simp only [Act.put, List.setIfInBounds_toArray, List.set_cons_zero, List.set_cons_succ]
        refine wpAnyH_take (i := 20) (oi := ⟨some 116, _, _, _, _, _⟩) (v := .int .i64 p) rfl (by kernel_rfl) (by kernel_rfl) (by kernel_rfl) (fun _ _ _ h => h) (Or.inl ⟨by rfl, fun w hSw => by go_simp⟩) (by assumption) ?_
        try simp only [Act.put, List.setIfInBounds_toArray, List.set_cons_zero, List.set_cons_succ]
        refine wpAnyH_take (i := 21) (oi := ⟨some 117, _, _, _, _, _⟩) (v := .pointer (some ⟨gd, od + p, none⟩)) rfl (by kernel_rfl) (by kernel_rfl) (by kernel_rfl) (fun _ _ _ h => h) (Or.inl ⟨by rfl, fun w hSw => by first | (go_simp; done) | (go_simp; omega)⟩) (by assumption) ?_
        try simp only [Act.put, List.setIfInBounds_toArray, List.set_cons_zero, List.set_cons_succ]
        refine wpAnyH_take (i := 22) (oi := ⟨some 118, _, _, _, _, _⟩) (v := .int .i64 (x : Nat)) rfl (by kernel_rfl) (by kernel_rfl) (by kernel_rfl) (fun _ _ _ h => h) (Or.inl ⟨by rfl, fun w hSw => by obtain ⟨q1, q2, q3, q4, _⟩ := hSw; go_simp⟩) (by assumption) ?_
        try simp only [Act.put, List.setIfInBounds_toArray, List.set_cons_zero, List.set_cons_succ]
        refine wpAnyH_take (i := 23) (oi := ⟨some 119, _, _, _, _, _⟩) (v := .bool false) rfl (by kernel_rfl) (by kernel_rfl) (by kernel_rfl) (fun _ _ _ h => h) (Or.inl ⟨by rfl, fun w hSw => by first | (go_simp; done) | (go_simp; omega)⟩) (by assumption) ?_
        try simp only [Act.put, List.setIfInBounds_toArray, List.set_cons_zero, List.set_cons_succ]
        refine wpAnyH_take (i := 24) (oi := ⟨some 120, _, _, _, _, _⟩) (v := .bool false) rfl (by kernel_rfl) (by kernel_rfl) (by kernel_rfl) (fun _ _ _ h => h) (Or.inl ⟨by rfl, fun w hSw => by go_simp⟩) (by assumption) ?_
        try simp only [Act.put, List.setIfInBounds_toArray, List.set_cons_zero, List.set_cons_succ]
        refine wpAnyH_take (i := 25) (oi := ⟨some 121, _, _, _, _, _⟩) (v := .bool false) rfl (by kernel_rfl) (by kernel_rfl) (by kernel_rfl) (fun _ _ _ h => h) (Or.inl ⟨by rfl, fun w hSw => by go_simp⟩) (by assumption) ?_
        try simp only [Act.put, List.setIfInBounds_toArray, List.set_cons_zero, List.set_cons_succ]
        refine wpAnyH_take (i := 26) (oi := ⟨some 122, _, _, _, _, _⟩) (v := .slice (some ⟨gd, od, none⟩) n cd) rfl (by kernel_rfl) (by kernel_rfl) (by kernel_rfl) (fun _ _ _ h => h) (Or.inl ⟨by rfl, fun w hSw => by go_simp⟩) (by assumption) ?_
        try simp only [Act.put, List.setIfInBounds_toArray, List.set_cons_zero, List.set_cons_succ]
        refine wpAnyH_take (i := 27) (oi := ⟨some 123, _, _, _, _, _⟩) (v := .int .i64 p) rfl (by kernel_rfl) (by kernel_rfl) (by kernel_rfl) (fun _ _ _ h => h) (Or.inl ⟨by rfl, fun w hSw => by go_simp⟩) (by assumption) ?_
        try simp only [Act.put, List.setIfInBounds_toArray, List.set_cons_zero, List.set_cons_succ]
        refine wpAnyH_take (i := 28) (oi := ⟨some 124, _, _, _, _, _⟩) (v := .pointer (some ⟨gd, od + p, none⟩)) rfl (by kernel_rfl) (by kernel_rfl) (by kernel_rfl) (fun _ _ _ h => h) (Or.inl ⟨by rfl, fun w hSw => by first | (go_simp; done) | (go_simp; omega)⟩) (by assumption) ?_
        try simp only [Act.put, List.setIfInBounds_toArray, List.set_cons_zero, List.set_cons_succ]
        refine wpAnyH_take (i := 29) (oi := ⟨some 125, _, _, _, _, _⟩) (v := .int .i64 (x : Nat)) rfl (by kernel_rfl) (by kernel_rfl) (by kernel_rfl) (fun _ _ _ h => h) (Or.inl ⟨by rfl, fun w hSw => by obtain ⟨q1, q2, q3, q4, _⟩ := hSw; go_simp⟩) (by assumption) ?_
        try simp only [Act.put, List.setIfInBounds_toArray, List.set_cons_zero, List.set_cons_succ]
        refine wpAnyH_take (i := 30) (oi := ⟨some 126, _, _, _, _, _⟩) (v := .slice (some ⟨gd, od, none⟩) n cd) rfl (by kernel_rfl) (by kernel_rfl) (by kernel_rfl) (fun _ _ _ h => h) (Or.inl ⟨by rfl, fun w hSw => by go_simp⟩) (by assumption) ?_
        try simp only [Act.put, List.setIfInBounds_toArray, List.set_cons_zero, List.set_cons_succ]
        refine wpAnyH_take (i := 31) (oi := ⟨some 127, _, _, _, _, _⟩) (v := .int .i64 n) rfl (by kernel_rfl) (by kernel_rfl) (by kernel_rfl) (fun _ _ _ h => h) (Or.inl ⟨by rfl, fun w hSw => by go_simp⟩) (by assumption) ?_
        try simp only [Act.put, List.setIfInBounds_toArray, List.set_cons_zero, List.set_cons_succ]
        refine wpAnyH_take (i := 32) (oi := ⟨some 128, _, _, _, _, _⟩) (v := .int .i64 p) rfl (by kernel_rfl) (by kernel_rfl) (by kernel_rfl) (fun _ _ _ h => h) (Or.inl ⟨by rfl, fun w hSw => by go_simp⟩) (by assumption) ?_
        try simp only [Act.put, List.setIfInBounds_toArray, List.set_cons_zero, List.set_cons_succ]
        refine wpAnyH_take (i := 33) (oi := ⟨some 129, _, _, _, _, _⟩) (v := .int .i64 ((n : Int) - p)) rfl (by kernel_rfl) (by kernel_rfl) (by kernel_rfl) (fun _ _ _ h => h) (Or.inl ⟨by rfl, fun w hSw => by first | (go_simp; done) | (go_simp; exact (IntWalk.i64_in _ ⟨by omega, by omega⟩).trans (by omega))⟩) (by assumption) ?_
        try simp only [Act.put, List.setIfInBounds_toArray, List.set_cons_zero, List.set_cons_succ]
        refine wpAnyH_take (i := 34) (oi := ⟨some 130, _, _, _, _, _⟩) (v := .int .i64 n) rfl (by kernel_rfl) (by kernel_rfl) (by kernel_rfl) (fun _ _ _ h => h) (Or.inl ⟨by rfl, fun w hSw => by go_simp⟩) (by assumption) ?_
        try simp only [Act.put, List.setIfInBounds_toArray, List.set_cons_zero, List.set_cons_succ]
        refine wpAnyH_take (i := 35) (oi := ⟨some 131, _, _, _, _, _⟩) (v := .int .i64 (r : Nat)) rfl (by kernel_rfl) (by kernel_rfl) (by kernel_rfl) (fun _ _ _ h => h) (Or.inl ⟨by rfl, fun w hSw => by go_simp; rw [if_neg (show ¬ n = 0 by omega), Int.tmod_eq_emod_of_nonneg (by omega), HRR.out]⟩) (by assumption) ?_
        try simp only [Act.put, List.setIfInBounds_toArray, List.set_cons_zero, List.set_cons_succ]
        refine wpAnyH_take (i := 36) (oi := ⟨some 132, _, _, _, _, _⟩) (v := .pointer (some ⟨gd, od + r, none⟩)) rfl (by kernel_rfl) (by kernel_rfl) (by kernel_rfl) (fun _ _ _ h => h) (Or.inl ⟨by rfl, fun w hSw => by first | (go_simp; done) | (go_simp; omega)⟩) (by assumption) ?_
        try simp only [Act.put, List.setIfInBounds_toArray, List.set_cons_zero, List.set_cons_succ]
        refine wpAnyH_take (i := 37) (oi := ⟨some 133, _, _, _, _, _⟩) (v := .int .i64 (x : Nat)) rfl (by kernel_rfl) (by kernel_rfl) (by kernel_rfl) (fun _ _ _ h => h) (Or.inl ⟨by rfl, fun w hSw => by obtain ⟨q1, q2, q3, q4, _⟩ := hSw; go_simp⟩) (by assumption) ?_
        try simp only [Act.put, List.setIfInBounds_toArray, List.set_cons_zero, List.set_cons_succ]
        refine wpAnyH_take (i := 38) (oi := ⟨some 134, _, _, _, _, _⟩) (v := .bool false) rfl (by kernel_rfl) (by kernel_rfl) (by kernel_rfl) (fun _ _ _ h => h) (Or.inl ⟨by rfl, fun w hSw => by first | (go_simp; done) | (go_simp; omega)⟩) (by assumption) ?_
        try simp only [Act.put, List.setIfInBounds_toArray, List.set_cons_zero, List.set_cons_succ]
        refine wpAnyH_take (i := 39) (oi := ⟨some 135, _, _, _, _, _⟩) (v := .bool false) rfl (by kernel_rfl) (by kernel_rfl) (by kernel_rfl) (fun _ _ _ h => h) (Or.inl ⟨by rfl, fun w hSw => by go_simp⟩) (by assumption) ?_
        try simp only [Act.put, List.setIfInBounds_toArray, List.set_cons_zero, List.set_cons_succ]
        refine wpAnyH_done (by kernel_rfl) ?_ _
        clear HK
        clear hSS0 HMd HMe HMc
        have hb : Below wr.heap.size wr wr.drew := (Below.refl _ _).drew
        have HXr9 := Lib.hid (HXrL.out.keep hb)
        clear HXrL
        have HXo9 := Lib.hid (HXoL.out.keep hb)
        clear HXoL
        have HLd9 := Lib.hid (HLdL.out.below hb)
        clear HLdL
        have HLe9 := Lib.hid (HLeL.out.below hb)
        clear HLeL
        have HLc9 := Lib.hid (HLcL.out.below hb)
        clear HLcL
        have HB9x := Lib.hid (show Below w.heap.size w wr.drew from HBL.out.trans (hb.mono HBL.out.size))
        clear HBL hb
        obtain ⟨lt, hlt'⟩ : ∃ l, rotZ n zs 1 (p : Int) = l := ⟨_, rfl⟩
        have HET := Lib.hid hlt'
        have HOt : Hid (Ok n lt) := Lib.hid (by rw [← hlt']; exact rot_ok HO.out.1 _ _)
        have HCO : Hid (comZ zs lt = x) := Lib.hid (by rw [← hlt']; exact HX.out)
        have HVE : Hid (vecZ n zs = vecZ n lt) := Lib.hid (by rw [← hlt']; exact form_vec HO.out (.inl ⟨_, rfl⟩))
        have HFO : Hid (Form n zs lt) := Lib.hid (.inl ⟨_, hlt'⟩)
        clear hlt'
        obtain ⟨pr0, pr1, pr2, pr3⟩ := HXr9.out.1.facts
        have ltr := HXr9.out.1.lt
        go_wp2_with fail
        refine (r_rot n b c zs lt p wr.drew HXr9.out.2 HO.out (by omega) (by omega) HET.out).mono ?_
        rintro e v10 ⟨bt, ct, rfl, hown, hb⟩
        clear pr0 pr1 pr2 pr3 ltr
        have HXr10 := Lib.hid (HXr9.out.keep hb)
        clear HXr9
        have HXo10 := Lib.hid (HXo9.out.keep hb)
        clear HXo9
        have HLd10 := Lib.hid (HLd9.out.below hb)
        clear HLd9
        have HLe10 := Lib.hid (HLe9.out.below hb)
        clear HLe9
        have HLc10 := Lib.hid (HLc9.out.below hb)
        clear HLc9
        have HB10x := Lib.hid (show Below w.heap.size w v10 from HB9x.out.trans (hb.mono HB9x.out.size))
        clear HB9x hb
        have HXn := Lib.hid (rhAt_put (n := n) hown (ok_allInt HOt.out))
        clear hown
        have hb := putR_below v10 n bt lt.length ct
        have HXr11 := Lib.hid (HXr10.out.keep hb)
        clear HXr10
        have HXo11 := Lib.hid (HXo10.out.keep hb)
        clear HXo10
        have HLd11 := Lib.hid (HLd10.out.below hb)
        clear HLd10
        have HLe11 := Lib.hid (HLe10.out.below hb)
        clear HLe10
        have HLc11 := Lib.hid (HLc10.out.below hb)
        clear HLc10
        have HB11x := Lib.hid (show Below w.heap.size w (putR v10 n bt lt.length ct) from HB10x.out.trans (hb.mono HB10x.out.size))
        clear HB10x hb
        have HXt11 : Hid (RhAt (putR v10 n bt lt.length ct) v10.heap.size n bt ct lt) := HXn
        clear HXn
        have HCd2 : Hid (∀ W' : World, Below (putR v10 n bt lt.length ct).heap.size (putR v10 n bt lt.length ct) W' → W'.cell? ⟨gd, od + p, none⟩ = some (.int .i64 (x : Nat))) := Lib.hid (fun W' hW => by have h := cell_at (HLd11.out.below hW) (k := p) (by omega); rw [← HED.out, difZ_at (by omega), HX.out] at h; exact h)
        have HK : Hid (∀ W' : World, Below (putR v10 n bt lt.length ct).heap.size (putR v10 n bt lt.length ct) W' → W'.cell? ⟨w1.heap.size, 0, none⟩ = some (.int .i64 (n : Nat)) ∧ W'.cell? ⟨w1.heap.size, 1, none⟩ = some (.slice b zs.length c) ∧ W'.cell? ⟨v10.heap.size, 0, none⟩ = some (.int .i64 (n : Nat)) ∧ W'.cell? ⟨v10.heap.size, 1, none⟩ = some (.slice bt lt.length ct) ∧ W'.cell? ⟨gd, od + p, none⟩ = some (.int .i64 (x : Nat)) ∧ Below (putR v10 n bt lt.length ct).heap.size (putR v10 n bt lt.length ct) W') :=
          Lib.hid (fun W' hW => ⟨(HXr11.out.keep hW).1.facts.1, (HXr11.out.keep hW).1.facts.2.1, (HXt11.out.keep hW).1.facts.1, (HXt11.out.keep hW).1.facts.2.1, HCd2.out W' hW, hW⟩)
        have HMd : Hid (∀ W' : World, Below (putR v10 n bt lt.length ct).heap.size (putR v10 n bt lt.length ct) W' → IntsAt W' (some ⟨gd, od, none⟩) n D) := Lib.hid (fun W' hW => HLd11.out.below hW)
        have HMe : Hid (∀ W' : World, Below (putR v10 n bt lt.length ct).heap.size (putR v10 n bt lt.length ct) W' → IntsAt W' (some ⟨ge, oe, none⟩) n E) := Lib.hid (fun W' hW => HLe11.out.below hW)
        have HMc : Hid (∀ W' : World, Below (putR v10 n bt lt.length ct).heap.size (putR v10 n bt lt.length ct) W' → IntsAt W' (some ⟨gc, oc, none⟩) n D) := Lib.hid (fun W' hW => HLc11.out.below hW)
        have HIr : Hid (∀ W' : World, Below (putR v10 n bt lt.length ct).heap.size (putR v10 n bt lt.length ct) W' → IntsAt W' b zs.length zs) := Lib.hid (fun W' hW => (HXr11.out.keep hW).2)
        have HIt : Hid (∀ W' : World, Below (putR v10 n bt lt.length ct).heap.size (putR v10 n bt lt.length ct) W' → IntsAt W' bt lt.length lt) := Lib.hid (fun W' hW => (HXt11.out.keep hW).2)
        go_upto_region 19 with fail
        refine wp_region_held_drew (S := fun W' => W'.cell? ⟨w1.heap.size, 0, none⟩ = some (.int .i64 (n : Nat)) ∧ W'.cell? ⟨w1.heap.size, 1, none⟩ = some (.slice b zs.length c) ∧ W'.cell? ⟨v10.heap.size, 0, none⟩ = some (.int .i64 (n : Nat)) ∧ W'.cell? ⟨v10.heap.size, 1, none⟩ = some (.slice bt lt.length ct) ∧ W'.cell? ⟨gd, od + p, none⟩ = some (.int .i64 (x : Nat)) ∧ Below (putR v10 n bt lt.length ct).heap.size (putR v10 n bt lt.length ct) W') (by kernel_rfl) (HK.out _ (Below.refl _ _).drew) (fun hSS0 => ?_)
        refine wpAnyH_take (i := 0) (oi := ⟨some 142, _, _, _, _, _⟩) (v := .agg #[.int .i64 (n : Nat), .slice b zs.length c]) rfl (by kernel_rfl) (by kernel_rfl) (by kernel_rfl) (fun _ _ _ h => h) (Or.inl ⟨by rfl, fun w hSw => by obtain ⟨q1, q2, _⟩ := hSw; go_simp⟩) (by assumption) ?_
        try simp only [Act.put, List.setIfInBounds_toArray, List.set_cons_zero, List.set_cons_succ]
        refine wpAnyH_take (i := 1) (oi := ⟨some 143, _, _, _, _, _⟩) (v := .agg #[.int .i64 (n : Nat), .slice bt lt.length ct]) rfl (by kernel_rfl) (by kernel_rfl) (by kernel_rfl) (fun _ _ _ h => h) (Or.inl ⟨by rfl, fun w hSw => by obtain ⟨_, _, q1, q2, _⟩ := hSw; go_simp⟩) (by assumption) ?_
        try simp only [Act.put, List.setIfInBounds_toArray, List.set_cons_zero, List.set_cons_succ]
        refine wpAnyH_take (i := 3) (oi := ⟨some 145, _, _, _, _, _⟩) (v := .slice (some ⟨gd, od, none⟩) n cd) rfl (by kernel_rfl) (by kernel_rfl) (by kernel_rfl) (fun _ _ _ h => h) (Or.inl ⟨by rfl, fun w hSw => by go_simp⟩) (by assumption) ?_
        try simp only [Act.put, List.setIfInBounds_toArray, List.set_cons_zero, List.set_cons_succ]
        refine wpAnyH_take (i := 4) (oi := ⟨some 146, _, _, _, _, _⟩) (v := .int .i64 p) rfl (by kernel_rfl) (by kernel_rfl) (by kernel_rfl) (fun _ _ _ h => h) (Or.inl ⟨by rfl, fun w hSw => by go_simp⟩) (by assumption) ?_
        try simp only [Act.put, List.setIfInBounds_toArray, List.set_cons_zero, List.set_cons_succ]
        refine wpAnyH_take (i := 5) (oi := ⟨some 147, _, _, _, _, _⟩) (v := .pointer (some ⟨gd, od + p, none⟩)) rfl (by kernel_rfl) (by kernel_rfl) (by kernel_rfl) (fun _ _ _ h => h) (Or.inl ⟨by rfl, fun w hSw => by first | (go_simp; done) | (go_simp; omega)⟩) (by assumption) ?_
        try simp only [Act.put, List.setIfInBounds_toArray, List.set_cons_zero, List.set_cons_succ]
        refine wpAnyH_take (i := 6) (oi := ⟨some 148, _, _, _, _, _⟩) (v := .int .i64 (x : Nat)) rfl (by kernel_rfl) (by kernel_rfl) (by kernel_rfl) (fun _ _ _ h => h) (Or.inl ⟨by rfl, fun w hSw => by obtain ⟨_, _, _, _, q1, _⟩ := hSw; go_simp⟩) (by assumption) ?_
        try simp only [Act.put, List.setIfInBounds_toArray, List.set_cons_zero, List.set_cons_succ]
        refine wpAnyH_ready (rs := [2]) (by kernel_rfl) (by simp) ?_
        refine AllReadyH.cons rfl (fun K hKK => ?_) AllReadyH.nil
        go_simp
        go_at_call 22
        refine (v_com n b c zs bt ct lt x _ (HIr.out _ (Below.refl _ _).drew) (HIt.out _ (Below.refl _ _).drew) HO.out HOt.out HCO.out).mono ?_
        rintro e wk1 ⟨rfl, hc1⟩
        have hbb1 : Below (putR v10 n bt lt.length ct).heap.size (putR v10 n bt lt.length ct) wk1 := (Below.refl _ _).drew.trans hc1
        clear hc1
        refine hKK.out _ _ (HK.out _ hbb1) (fun hSS1 => ?_)
        clear hKK K hSS0
        try simp only [Act.put, List.setIfInBounds_toArray, List.set_cons_zero, List.set_cons_succ]
        refine wpAnyH_take (i := 7) (oi := ⟨some 149, _, _, _, _, _⟩) (v := .bool false) rfl (by kernel_rfl) (by kernel_rfl) (by kernel_rfl) (fun _ _ _ h => h) (Or.inl ⟨by rfl, fun w hSw => by first | (go_simp; done) | (go_simp; omega)⟩) (by assumption) ?_
        try simp only [Act.put, List.setIfInBounds_toArray, List.set_cons_zero, List.set_cons_succ]
        refine wpAnyH_take (i := 8) (oi := ⟨some 150, _, _, _, _, _⟩) (v := .bool false) rfl (by kernel_rfl) (by kernel_rfl) (by kernel_rfl) (fun _ _ _ h => h) (Or.inl ⟨by rfl, fun w hSw => by go_simp⟩) (by assumption) ?_
        try simp only [Act.put, List.setIfInBounds_toArray, List.set_cons_zero, List.set_cons_succ]
        refine wpAnyH_take (i := 9) (oi := ⟨some 151, _, _, _, _, _⟩) (v := .agg #[.int .i64 (n : Nat), .slice b zs.length c]) rfl (by kernel_rfl) (by kernel_rfl) (by kernel_rfl) (fun _ _ _ h => h) (Or.inl ⟨by rfl, fun w hSw => by obtain ⟨q1, q2, _⟩ := hSw; go_simp⟩) (by assumption) ?_
        try simp only [Act.put, List.setIfInBounds_toArray, List.set_cons_zero, List.set_cons_succ]
        refine wpAnyH_take (i := 10) (oi := ⟨some 152, _, _, _, _, _⟩) (v := .agg #[.int .i64 (n : Nat), .slice bt lt.length ct]) rfl (by kernel_rfl) (by kernel_rfl) (by kernel_rfl) (fun _ _ _ h => h) (Or.inl ⟨by rfl, fun w hSw => by obtain ⟨_, _, q1, q2, _⟩ := hSw; go_simp⟩) (by assumption) ?_
        try simp only [Act.put, List.setIfInBounds_toArray, List.set_cons_zero, List.set_cons_succ]
        refine wpAnyH_ready (rs := [11]) (by kernel_rfl) (by simp) ?_
        refine AllReadyH.cons rfl (fun K hKK => ?_) AllReadyH.nil
        go_simp
        go_at_call 23
        refine (v_sv n b c zs bt ct lt _ (HIr.out _ hbb1) (HIt.out _ hbb1) HO.out HOt.out HVE.out).mono ?_
        rintro e wk2 ⟨rfl, hc2⟩
        have hbb2 : Below (putR v10 n bt lt.length ct).heap.size (putR v10 n bt lt.length ct) wk2 := hbb1.trans (hc2.mono hbb1.size)
        clear hc2
        refine hKK.out _ _ (HK.out _ hbb2) (fun hSS2 => ?_)
        clear hKK K hbb1 hSS1
        try simp only [Act.put, List.setIfInBounds_toArray, List.set_cons_zero, List.set_cons_succ]
        refine wpAnyH_take (i := 12) (oi := ⟨some 154, _, _, _, _, _⟩) (v := .bool false) rfl (by kernel_rfl) (by kernel_rfl) (by kernel_rfl) (fun _ _ _ h => h) (Or.inl ⟨by rfl, fun w hSw => by go_simp⟩) (by assumption) ?_
        try simp only [Act.put, List.setIfInBounds_toArray, List.set_cons_zero, List.set_cons_succ]
        refine wpAnyH_take (i := 13) (oi := ⟨some 155, _, _, _, _, _⟩) (v := .bool false) rfl (by kernel_rfl) (by kernel_rfl) (by kernel_rfl) (fun _ _ _ h => h) (Or.inl ⟨by rfl, fun w hSw => by go_simp⟩) (by assumption) ?_
        try simp only [Act.put, List.setIfInBounds_toArray, List.set_cons_zero, List.set_cons_succ]
        refine wpAnyH_take (i := 14) (oi := ⟨some 156, _, _, _, _, _⟩) (v := .bool false) rfl (by kernel_rfl) (by kernel_rfl) (by kernel_rfl) (fun _ _ _ h => h) (Or.inl ⟨by rfl, fun w hSw => by go_simp⟩) (by assumption) ?_
        try simp only [Act.put, List.setIfInBounds_toArray, List.set_cons_zero, List.set_cons_succ]
        refine wpAnyH_take (i := 15) (oi := ⟨some 157, _, _, _, _, _⟩) (v := .agg #[.int .i64 (n : Nat), .slice b zs.length c]) rfl (by kernel_rfl) (by kernel_rfl) (by kernel_rfl) (fun _ _ _ h => h) (Or.inl ⟨by rfl, fun w hSw => by obtain ⟨q1, q2, _⟩ := hSw; go_simp⟩) (by assumption) ?_
        try simp only [Act.put, List.setIfInBounds_toArray, List.set_cons_zero, List.set_cons_succ]
        refine wpAnyH_take (i := 16) (oi := ⟨some 158, _, _, _, _, _⟩) (v := .agg #[.int .i64 (n : Nat), .slice bt lt.length ct]) rfl (by kernel_rfl) (by kernel_rfl) (by kernel_rfl) (fun _ _ _ h => h) (Or.inl ⟨by rfl, fun w hSw => by obtain ⟨_, _, q1, q2, _⟩ := hSw; go_simp⟩) (by assumption) ?_
        try simp only [Act.put, List.setIfInBounds_toArray, List.set_cons_zero, List.set_cons_succ]
        refine wpAnyH_ready (rs := [17]) (by kernel_rfl) (by simp) ?_
        refine AllReadyH.cons rfl (fun K hKK => ?_) AllReadyH.nil
        go_simp
        go_at_call 24
        refine (v_tw_no n b c zs bt ct lt _ (HIr.out _ hbb2) (HIt.out _ hbb2) HO.out HOt.out HFO.out).mono ?_
        rintro e wk3 ⟨rfl, hc3⟩
        have hbb3 : Below (putR v10 n bt lt.length ct).heap.size (putR v10 n bt lt.length ct) wk3 := hbb2.trans (hc3.mono hbb2.size)
        clear hc3
        refine hKK.out _ _ (HK.out _ hbb3) (fun hSS3 => ?_)
        clear hKK K hbb2 hSS2
        try simp only [Act.put, List.setIfInBounds_toArray, List.set_cons_zero, List.set_cons_succ]
        refine wpAnyH_take (i := 18) (oi := ⟨some 160, _, _, _, _, _⟩) (v := .bool false) rfl (by kernel_rfl) (by kernel_rfl) (by kernel_rfl) (fun _ _ _ h => h) (Or.inl ⟨by rfl, fun w hSw => by go_simp⟩) (by assumption) ?_
        try simp only [Act.put, List.setIfInBounds_toArray, List.set_cons_zero, List.set_cons_succ]
        refine wpAnyH_done (by kernel_rfl) ?_ _
        clear HK
        clear HIr HIt HMd HMe HMc hSS3
        have hb := hbb3
        clear hbb3
        have HXr12 := Lib.hid (HXr11.out.keep hb)
        clear HXr11
        have HXo12 := Lib.hid (HXo11.out.keep hb)
        clear HXo11
        have HXt12 := Lib.hid (HXt11.out.keep hb)
        clear HXt11
        have HLd12 := Lib.hid (HLd11.out.below hb)
        clear HLd11
        have HLe12 := Lib.hid (HLe11.out.below hb)
        clear HLe11
        have HLc12 := Lib.hid (HLc11.out.below hb)
        clear HLc11
        have HB12x := Lib.hid (show Below w.heap.size w wk3 from HB11x.out.trans (hb.mono HB11x.out.size))
        clear HB11x hb
        go_wp2
        go_roundw
        case rel => exact ⟨p + 1, by omega, by go_num, HB12x.out, HXr12.out, HXo12.out, HLd12.out, HLe12.out, HLc12.out⟩
        case measure => simp [intOf]; omega
      · have hltb : decide ((p : Int) < (n : Int)) = false := by simp; omega
        clear HLdL HLeL HLcL
        obtain ⟨lm, hlm⟩ : ∃ l, rotZ n zs (-1) 0 = l := ⟨_, rfl⟩
        have HELM := Lib.hid hlm
        have HOm : Hid (Ok n lm) := Lib.hid (by rw [← hlm]; exact rot_ok HO.out.1 _ _)
        have HVM : Hid (vecZ n zs = vecZ n lm) := Lib.hid (by rw [← hlm]; exact form_vec HO.out (.inr ⟨_, rfl⟩))
        clear hlm
        obtain ⟨pr0, pr1, pr2, pr3⟩ := HXrL.out.1.facts
        have ltr := HXrL.out.1.lt
        go_wp2_with fail
        refine (r_mir n b c zs lm wr HXrL.out.2 HO.out HELM.out).mono ?_
        rintro e v109 ⟨bm, cm, rfl, hown, hb⟩
        clear pr0 pr1 pr2 pr3 ltr
        have HXr109 := Lib.hid (HXrL.out.keep hb)
        clear HXrL
        have HXo109 := Lib.hid (HXoL.out.keep hb)
        clear HXoL
        have HB109x := Lib.hid (show Below w.heap.size w v109 from HBL.out.trans (hb.mono HBL.out.size))
        clear HBL hb
        have HXn := Lib.hid (rhAt_put (n := n) hown (ok_allInt HOm.out))
        clear hown
        have hb := putR_below v109 n bm lm.length cm
        have HXr110 := Lib.hid (HXr109.out.keep hb)
        clear HXr109
        have HXo110 := Lib.hid (HXo109.out.keep hb)
        clear HXo109
        have HB110x := Lib.hid (show Below w.heap.size w (putR v109 n bm lm.length cm) from HB109x.out.trans (hb.mono HB109x.out.size))
        clear HB109x hb
        have HXm110 : Hid (RhAt (putR v109 n bm lm.length cm) v109.heap.size n bm cm lm) := HXn
        clear HXn
        obtain ⟨u, hu, hu1, hu2, hug⟩ : ∃ u : Nat, max 1 ((n : Int) - 1) = (u : Int) ∧ 1 ≤ u ∧ (u : Int) ≤ max 1 ((n : Int) - 1) ∧ Nat.gcd u n = 1 := by
          by_cases q : n = 1
          · subst q; exact ⟨1, by omega, by omega, by omega, by decide⟩
          · exact ⟨n - 1, by omega, by omega, by omega, gcd_pred (by omega)⟩
        have HU := Lib.hid hu
        have HU2 := Lib.hid hu2
        have HUG := Lib.hid hug
        obtain ⟨lh, hlh⟩ : ∃ l, rotZ n zs u 0 = l := ⟨_, rfl⟩
        have HELH := Lib.hid hlh
        have HOh : Hid (Ok n lh) := Lib.hid (by rw [← hlh]; exact rot_ok HO.out.1 _ _)
        have HHM : Hid (n ≠ 1 → lh = lm) := Lib.hid (fun q => by rw [← hlh, ← HELM.out, ← str_mir HO.out, show (u : Int) = (n : Int) - 1 by omega])
        clear hu hu2 hug hlh
        obtain ⟨pr0, pr1, pr2, pr3⟩ := HXr110.out.1.facts
        have ltr := HXr110.out.1.lt
        go_wp2_with fail
        rw [HU.out]
        refine (r_str_yes n b c zs lh u (putR v109 n bm lm.length cm) HXr110.out.2 HO.out hu1 HU2.out HUG.out HELH.out).mono ?_
        rintro e v111 ⟨bh, ch, rfl, hown, hb⟩
        clear pr0 pr1 pr2 pr3 ltr
        have HXr111 := Lib.hid (HXr110.out.keep hb)
        clear HXr110
        have HXo111 := Lib.hid (HXo110.out.keep hb)
        clear HXo110
        have HXm111 := Lib.hid (HXm110.out.keep hb)
        clear HXm110
        have HB111x := Lib.hid (show Below w.heap.size w v111 from HB110x.out.trans (hb.mono HB110x.out.size))
        clear HB110x hb
        have HXn := Lib.hid (rhAt_put (n := n) hown (ok_allInt HOh.out))
        clear hown
        have hb := putR_below v111 n bh lh.length ch
        have HXr112 := Lib.hid (HXr111.out.keep hb)
        clear HXr111
        have HXo112 := Lib.hid (HXo111.out.keep hb)
        clear HXo111
        have HXm112 := Lib.hid (HXm111.out.keep hb)
        clear HXm111
        have HB112x := Lib.hid (show Below w.heap.size w (putR v111 n bh lh.length ch) from HB111x.out.trans (hb.mono HB111x.out.size))
        clear HB111x hb
        have HXh112 : Hid (RhAt (putR v111 n bh lh.length ch) v111.heap.size n bh ch lh) := HXn
        clear HXn
        obtain ⟨q, hq⟩ : ∃ q, flatB n zs = q := ⟨_, rfl⟩
        have HQ := Lib.hid hq
        have HQO : Hid (flatB n lo = q) := Lib.hid (by rw [← HElo.out, flatB_not HO.out, hq])
        clear hq
        by_cases hone : n = 1
        · have HONE := Lib.hid hone
          clear hone
          by_cases hhalf : 2 * kI = n
          · have HVO : Hid (vecZ n zs = vecZ n lo) := Lib.hid (by rw [← HElo.out, half_vec HO.out (by have := HKI.out; omega)])
            have HHALF := Lib.hid hhalf
            clear hhalf
            have HK : Hid (∀ W' : World, Below (putR v111 n bh lh.length ch).heap.size (putR v111 n bh lh.length ch) W' → W'.cell? ⟨w1.heap.size, 0, none⟩ = some (.int .i64 (n : Nat)) ∧ W'.cell? ⟨w1.heap.size, 1, none⟩ = some (.slice b zs.length c) ∧ W'.cell? ⟨v3.heap.size, 0, none⟩ = some (.int .i64 (n : Nat)) ∧ W'.cell? ⟨v3.heap.size, 1, none⟩ = some (.slice bo lo.length co) ∧ W'.cell? ⟨v109.heap.size, 0, none⟩ = some (.int .i64 (n : Nat)) ∧ W'.cell? ⟨v109.heap.size, 1, none⟩ = some (.slice bm lm.length cm) ∧ Below (putR v111 n bh lh.length ch).heap.size (putR v111 n bh lh.length ch) W') :=
              Lib.hid (fun W' hW => ⟨(HXr112.out.keep hW).1.facts.1, (HXr112.out.keep hW).1.facts.2.1, (HXo112.out.keep hW).1.facts.1, (HXo112.out.keep hW).1.facts.2.1, (HXm112.out.keep hW).1.facts.1, (HXm112.out.keep hW).1.facts.2.1, hW⟩)
            have HIr : Hid (∀ W' : World, Below (putR v111 n bh lh.length ch).heap.size (putR v111 n bh lh.length ch) W' → IntsAt W' b zs.length zs) := Lib.hid (fun W' hW => (HXr112.out.keep hW).2)
            have HIo : Hid (∀ W' : World, Below (putR v111 n bh lh.length ch).heap.size (putR v111 n bh lh.length ch) W' → IntsAt W' bo lo.length lo) := Lib.hid (fun W' hW => (HXo112.out.keep hW).2)
            have HIm : Hid (∀ W' : World, Below (putR v111 n bh lh.length ch).heap.size (putR v111 n bh lh.length ch) W' → IntsAt W' bm lm.length lm) := Lib.hid (fun W' hW => (HXm112.out.keep hW).2)
            go_upto_region 23 with fail
            refine wp_region_held_drew (S := fun W' => W'.cell? ⟨w1.heap.size, 0, none⟩ = some (.int .i64 (n : Nat)) ∧ W'.cell? ⟨w1.heap.size, 1, none⟩ = some (.slice b zs.length c) ∧ W'.cell? ⟨v3.heap.size, 0, none⟩ = some (.int .i64 (n : Nat)) ∧ W'.cell? ⟨v3.heap.size, 1, none⟩ = some (.slice bo lo.length co) ∧ W'.cell? ⟨v109.heap.size, 0, none⟩ = some (.int .i64 (n : Nat)) ∧ W'.cell? ⟨v109.heap.size, 1, none⟩ = some (.slice bm lm.length cm) ∧ Below (putR v111 n bh lh.length ch).heap.size (putR v111 n bh lh.length ch) W') (by kernel_rfl) (HK.out _ (Below.refl _ _).drew) (fun hSS0 => ?_)
            refine wpAnyH_take (i := 0) (oi := ⟨some 174, _, _, _, _, _⟩) (v := .agg #[.int .i64 (n : Nat), .slice b zs.length c]) rfl (by kernel_rfl) (by kernel_rfl) (by kernel_rfl) (fun _ _ _ h => h) (Or.inl ⟨by rfl, fun w hSw => by obtain ⟨q1, q2, _⟩ := hSw; go_simp⟩) (by assumption) ?_
            try simp only [Act.put, List.setIfInBounds_toArray, List.set_cons_zero, List.set_cons_succ]
            refine wpAnyH_take (i := 1) (oi := ⟨some 175, _, _, _, _, _⟩) (v := .agg #[.int .i64 (n : Nat), .slice bm lm.length cm]) rfl (by kernel_rfl) (by kernel_rfl) (by kernel_rfl) (fun _ _ _ h => h) (Or.inl ⟨by rfl, fun w hSw => by obtain ⟨_, _, _, _, q1, q2, _⟩ := hSw; go_simp⟩) (by assumption) ?_
            try simp only [Act.put, List.setIfInBounds_toArray, List.set_cons_zero, List.set_cons_succ]
            refine wpAnyH_ready (rs := [2]) (by kernel_rfl) (by simp) ?_
            refine AllReadyH.cons rfl (fun K hKK => ?_) AllReadyH.nil
            go_simp
            go_at_call 23
            refine (v_sv n b c zs bm cm lm _ (HIr.out _ (Below.refl _ _).drew) (HIm.out _ (Below.refl _ _).drew) HO.out HOm.out HVM.out).mono ?_
            rintro e wk1 ⟨rfl, hc1⟩
            have hbb1 : Below (putR v111 n bh lh.length ch).heap.size (putR v111 n bh lh.length ch) wk1 := (Below.refl _ _).drew.trans hc1
            clear hc1
            refine hKK.out _ _ (HK.out _ hbb1) (fun hSS1 => ?_)
            clear hKK K hSS0
            try simp only [Act.put, List.setIfInBounds_toArray, List.set_cons_zero, List.set_cons_succ]
            refine wpAnyH_take (i := 3) (oi := ⟨some 177, _, _, _, _, _⟩) (v := .bool true) rfl (by kernel_rfl) (by kernel_rfl) (by kernel_rfl) (fun _ _ _ h => h) (Or.inl ⟨by rfl, fun w hSw => by go_simp⟩) (by assumption) ?_
            try simp only [Act.put, List.setIfInBounds_toArray, List.set_cons_zero, List.set_cons_succ]
            refine wpAnyH_take (i := 4) (oi := ⟨some 178, _, _, _, _, _⟩) (v := .int .i64 n) rfl (by kernel_rfl) (by kernel_rfl) (by kernel_rfl) (fun _ _ _ h => h) (Or.inl ⟨by rfl, fun w hSw => by go_simp⟩) (by assumption) ?_
            try simp only [Act.put, List.setIfInBounds_toArray, List.set_cons_zero, List.set_cons_succ]
            refine wpAnyH_take (i := 5) (oi := ⟨some 179, _, _, _, _, _⟩) (v := .bool true) rfl (by kernel_rfl) (by kernel_rfl) (by kernel_rfl) (fun _ _ _ h => h) (Or.inl ⟨by rfl, fun w hSw => by have h9 := HONE.out; first | (go_simp; done) | (go_simp; omega)⟩) (by assumption) ?_
            try simp only [Act.put, List.setIfInBounds_toArray, List.set_cons_zero, List.set_cons_succ]
            refine wpAnyH_take (i := 6) (oi := ⟨some 180, _, _, _, _, _⟩) (v := .bool true) rfl (by kernel_rfl) (by kernel_rfl) (by kernel_rfl) (fun _ _ _ h => h) (Or.inl ⟨by rfl, fun w hSw => by go_simp⟩) (by assumption) ?_
            try simp only [Act.put, List.setIfInBounds_toArray, List.set_cons_zero, List.set_cons_succ]
            refine wpAnyH_take (i := 7) (oi := ⟨some 181, _, _, _, _, _⟩) (v := undef) rfl (by kernel_rfl) (by kernel_rfl) (by kernel_rfl) (fun _ _ _ h => h) (Or.inr ⟨by rfl, rfl⟩) (by assumption) ?_
            try simp only [Act.put, List.setIfInBounds_toArray, List.set_cons_zero, List.set_cons_succ]
            refine wpAnyH_take (i := 8) (oi := ⟨some 182, _, _, _, _, _⟩) (v := undef) rfl (by kernel_rfl) (by kernel_rfl) (by kernel_rfl) (fun _ _ _ h => h) (Or.inr ⟨by rfl, rfl⟩) (by assumption) ?_
            try simp only [Act.put, List.setIfInBounds_toArray, List.set_cons_zero, List.set_cons_succ]
            refine wpAnyH_take (i := 9) (oi := ⟨some 183, _, _, _, _, _⟩) (v := undef) rfl (by kernel_rfl) (by kernel_rfl) (by kernel_rfl) (fun _ _ _ h => h) (Or.inr ⟨by rfl, rfl⟩) (by assumption) ?_
            try simp only [Act.put, List.setIfInBounds_toArray, List.set_cons_zero, List.set_cons_succ]
            refine wpAnyH_take (i := 10) (oi := ⟨some 184, _, _, _, _, _⟩) (v := undef) rfl (by kernel_rfl) (by kernel_rfl) (by kernel_rfl) (fun _ _ _ h => h) (Or.inr ⟨by rfl, rfl⟩) (by assumption) ?_
            try simp only [Act.put, List.setIfInBounds_toArray, List.set_cons_zero, List.set_cons_succ]
            refine wpAnyH_take (i := 11) (oi := ⟨some 185, _, _, _, _, _⟩) (v := undef) rfl (by kernel_rfl) (by kernel_rfl) (by kernel_rfl) (fun _ _ _ h => h) (Or.inr ⟨by rfl, rfl⟩) (by assumption) ?_
            try simp only [Act.put, List.setIfInBounds_toArray, List.set_cons_zero, List.set_cons_succ]
            refine wpAnyH_take (i := 12) (oi := ⟨some 186, _, _, _, _, _⟩) (v := undef) rfl (by kernel_rfl) (by kernel_rfl) (by kernel_rfl) (fun _ _ _ h => h) (Or.inr ⟨by rfl, rfl⟩) (by assumption) ?_
            try simp only [Act.put, List.setIfInBounds_toArray, List.set_cons_zero, List.set_cons_succ]
            refine wpAnyH_take (i := 13) (oi := ⟨some 187, _, _, _, _, _⟩) (v := .bool true) rfl (by kernel_rfl) (by kernel_rfl) (by kernel_rfl) (fun _ _ _ h => h) (Or.inl ⟨by rfl, fun w hSw => by go_simp⟩) (by assumption) ?_
            try simp only [Act.put, List.setIfInBounds_toArray, List.set_cons_zero, List.set_cons_succ]
            refine wpAnyH_take (i := 14) (oi := ⟨some 188, _, _, _, _, _⟩) (v := .bool true) rfl (by kernel_rfl) (by kernel_rfl) (by kernel_rfl) (fun _ _ _ h => h) (Or.inl ⟨by rfl, fun w hSw => by go_simp⟩) (by assumption) ?_
            try simp only [Act.put, List.setIfInBounds_toArray, List.set_cons_zero, List.set_cons_succ]
            refine wpAnyH_take (i := 15) (oi := ⟨some 189, _, _, _, _, _⟩) (v := .bool true) rfl (by kernel_rfl) (by kernel_rfl) (by kernel_rfl) (fun _ _ _ h => h) (Or.inl ⟨by rfl, fun w hSw => by go_simp⟩) (by assumption) ?_
            try simp only [Act.put, List.setIfInBounds_toArray, List.set_cons_zero, List.set_cons_succ]
            refine wpAnyH_take (i := 16) (oi := ⟨some 190, _, _, _, _, _⟩) (v := .int .i64 kI) rfl (by kernel_rfl) (by kernel_rfl) (by kernel_rfl) (fun _ _ _ h => h) (Or.inl ⟨by rfl, fun w hSw => by go_simp⟩) (by assumption) ?_
            try simp only [Act.put, List.setIfInBounds_toArray, List.set_cons_zero, List.set_cons_succ]
            refine wpAnyH_take (i := 17) (oi := ⟨some 191, _, _, _, _, _⟩) (v := .int .i64 (2 * kI)) rfl (by kernel_rfl) (by kernel_rfl) (by kernel_rfl) (fun _ _ _ h => h) (Or.inl ⟨by rfl, fun w hSw => by first | (go_simp; done) | (go_simp; exact (IntWalk.i64_in _ ⟨by omega, by omega⟩).trans (by omega))⟩) (by assumption) ?_
            try simp only [Act.put, List.setIfInBounds_toArray, List.set_cons_zero, List.set_cons_succ]
            refine wpAnyH_take (i := 18) (oi := ⟨some 192, _, _, _, _, _⟩) (v := .int .i64 n) rfl (by kernel_rfl) (by kernel_rfl) (by kernel_rfl) (fun _ _ _ h => h) (Or.inl ⟨by rfl, fun w hSw => by go_simp⟩) (by assumption) ?_
            try simp only [Act.put, List.setIfInBounds_toArray, List.set_cons_zero, List.set_cons_succ]
            refine wpAnyH_take (i := 19) (oi := ⟨some 193, _, _, _, _, _⟩) (v := .bool false) rfl (by kernel_rfl) (by kernel_rfl) (by kernel_rfl) (fun _ _ _ h => h) (Or.inl ⟨by rfl, fun w hSw => by have h9 := HHALF.out; first | (go_simp; done) | (go_simp; omega)⟩) (by assumption) ?_
            try simp only [Act.put, List.setIfInBounds_toArray, List.set_cons_zero, List.set_cons_succ]
            refine wpAnyH_take (i := 20) (oi := ⟨some 194, _, _, _, _, _⟩) (v := .bool false) rfl (by kernel_rfl) (by kernel_rfl) (by kernel_rfl) (fun _ _ _ h => h) (Or.inl ⟨by rfl, fun w hSw => by go_simp⟩) (by assumption) ?_
            try simp only [Act.put, List.setIfInBounds_toArray, List.set_cons_zero, List.set_cons_succ]
            refine wpAnyH_take (i := 21) (oi := ⟨some 195, _, _, _, _, _⟩) (v := .agg #[.int .i64 (n : Nat), .slice b zs.length c]) rfl (by kernel_rfl) (by kernel_rfl) (by kernel_rfl) (fun _ _ _ h => h) (Or.inl ⟨by rfl, fun w hSw => by obtain ⟨q1, q2, _⟩ := hSw; go_simp⟩) (by assumption) ?_
            try simp only [Act.put, List.setIfInBounds_toArray, List.set_cons_zero, List.set_cons_succ]
            refine wpAnyH_take (i := 22) (oi := ⟨some 196, _, _, _, _, _⟩) (v := .agg #[.int .i64 (n : Nat), .slice bo lo.length co]) rfl (by kernel_rfl) (by kernel_rfl) (by kernel_rfl) (fun _ _ _ h => h) (Or.inl ⟨by rfl, fun w hSw => by obtain ⟨_, _, q1, q2, _⟩ := hSw; go_simp⟩) (by assumption) ?_
            try simp only [Act.put, List.setIfInBounds_toArray, List.set_cons_zero, List.set_cons_succ]
            refine wpAnyH_ready (rs := [23]) (by kernel_rfl) (by simp) ?_
            refine AllReadyH.cons rfl (fun K hKK => ?_) AllReadyH.nil
            go_simp
            go_at_call 23
            refine (v_sv n b c zs bo co lo _ (HIr.out _ hbb1) (HIo.out _ hbb1) HO.out HOo.out HVO.out).mono ?_
            rintro e wk2 ⟨rfl, hc2⟩
            have hbb2 : Below (putR v111 n bh lh.length ch).heap.size (putR v111 n bh lh.length ch) wk2 := hbb1.trans (hc2.mono hbb1.size)
            clear hc2
            refine hKK.out _ _ (HK.out _ hbb2) (fun hSS2 => ?_)
            clear hKK K hbb1 hSS1
            try simp only [Act.put, List.setIfInBounds_toArray, List.set_cons_zero, List.set_cons_succ]
            refine wpAnyH_take (i := 24) (oi := ⟨some 198, _, _, _, _, _⟩) (v := .bool true) rfl (by kernel_rfl) (by kernel_rfl) (by kernel_rfl) (fun _ _ _ h => h) (Or.inl ⟨by rfl, fun w hSw => by go_simp⟩) (by assumption) ?_
            try simp only [Act.put, List.setIfInBounds_toArray, List.set_cons_zero, List.set_cons_succ]
            refine wpAnyH_take (i := 25) (oi := ⟨some 199, _, _, _, _, _⟩) (v := .bool true) rfl (by kernel_rfl) (by kernel_rfl) (by kernel_rfl) (fun _ _ _ h => h) (Or.inl ⟨by rfl, fun w hSw => by go_simp⟩) (by assumption) ?_
            try simp only [Act.put, List.setIfInBounds_toArray, List.set_cons_zero, List.set_cons_succ]
            refine wpAnyH_take (i := 26) (oi := ⟨some 200, _, _, _, _, _⟩) (v := .bool true) rfl (by kernel_rfl) (by kernel_rfl) (by kernel_rfl) (fun _ _ _ h => h) (Or.inl ⟨by rfl, fun w hSw => by go_simp⟩) (by assumption) ?_
            try simp only [Act.put, List.setIfInBounds_toArray, List.set_cons_zero, List.set_cons_succ]
            refine wpAnyH_take (i := 27) (oi := ⟨some 201, _, _, _, _, _⟩) (v := .agg #[.int .i64 (n : Nat), .slice b zs.length c]) rfl (by kernel_rfl) (by kernel_rfl) (by kernel_rfl) (fun _ _ _ h => h) (Or.inl ⟨by rfl, fun w hSw => by obtain ⟨q1, q2, _⟩ := hSw; go_simp⟩) (by assumption) ?_
            try simp only [Act.put, List.setIfInBounds_toArray, List.set_cons_zero, List.set_cons_succ]
            refine wpAnyH_take (i := 29) (oi := ⟨some 203, _, _, _, _, _⟩) (v := .agg #[.int .i64 (n : Nat), .slice bo lo.length co]) rfl (by kernel_rfl) (by kernel_rfl) (by kernel_rfl) (fun _ _ _ h => h) (Or.inl ⟨by rfl, fun w hSw => by obtain ⟨_, _, q1, q2, _⟩ := hSw; go_simp⟩) (by assumption) ?_
            try simp only [Act.put, List.setIfInBounds_toArray, List.set_cons_zero, List.set_cons_succ]
            refine wpAnyH_ready (rs := [28]) (by kernel_rfl) (by simp) ?_
            refine AllReadyH.cons rfl (fun K hKK => ?_) AllReadyH.nil
            go_simp
            go_at_call 28
            refine (v_flat n b c zs q _ (HIr.out _ hbb2) HO.out HQ.out).mono ?_
            rintro e wk3 ⟨rfl, hc3⟩
            have hbb3 : Below (putR v111 n bh lh.length ch).heap.size (putR v111 n bh lh.length ch) wk3 := hbb2.trans (hc3.mono hbb2.size)
            clear hc3
            refine hKK.out _ _ (HK.out _ hbb3) (fun hSS3 => ?_)
            clear hKK K hbb2 hSS2
            try simp only [Act.put, List.setIfInBounds_toArray, List.set_cons_zero, List.set_cons_succ]
            refine wpAnyH_ready (rs := [30]) (by kernel_rfl) (by simp) ?_
            refine AllReadyH.cons rfl (fun K hKK => ?_) AllReadyH.nil
            go_simp
            go_at_call 28
            refine (v_flat n bo co lo q _ (HIo.out _ hbb3) HOo.out HQO.out).mono ?_
            rintro e wk4 ⟨rfl, hc4⟩
            have hbb4 : Below (putR v111 n bh lh.length ch).heap.size (putR v111 n bh lh.length ch) wk4 := hbb3.trans (hc4.mono hbb3.size)
            clear hc4
            refine hKK.out _ _ (HK.out _ hbb4) (fun hSS4 => ?_)
            clear hKK K hbb3 hSS3
            try simp only [Act.put, List.setIfInBounds_toArray, List.set_cons_zero, List.set_cons_succ]
            refine wpAnyH_take (i := 31) (oi := ⟨some 205, _, _, _, _, _⟩) (v := .bool true) rfl (by kernel_rfl) (by kernel_rfl) (by kernel_rfl) (fun _ _ _ h => h) (Or.inl ⟨by rfl, fun w hSw => by first | (go_simp; done) | (go_simp; cases q <;> rfl)⟩) (by assumption) ?_
            try simp only [Act.put, List.setIfInBounds_toArray, List.set_cons_zero, List.set_cons_succ]
            refine wpAnyH_take (i := 32) (oi := ⟨some 206, _, _, _, _, _⟩) (v := .bool true) rfl (by kernel_rfl) (by kernel_rfl) (by kernel_rfl) (fun _ _ _ h => h) (Or.inl ⟨by rfl, fun w hSw => by go_simp⟩) (by assumption) ?_
            try simp only [Act.put, List.setIfInBounds_toArray, List.set_cons_zero, List.set_cons_succ]
            refine wpAnyH_take (i := 33) (oi := ⟨some 2, _, _, _, _, _⟩) (v := .bool true) rfl (by kernel_rfl) (by kernel_rfl) (by kernel_rfl) (fun _ _ _ h => h) (Or.inl ⟨by rfl, fun w hSw => by go_simp⟩) (by assumption) ?_
            try simp only [Act.put, List.setIfInBounds_toArray, List.set_cons_zero, List.set_cons_succ]
            refine wpAnyH_done (by kernel_rfl) ?_ _
            clear HK
            go_wp2
            go_ret
            exact ⟨rfl, HB112x.out.trans (hbb4.mono HB112x.out.size)⟩
          · skip
            have HHALF := Lib.hid hhalf
            clear hhalf
            have HK : Hid (∀ W' : World, Below (putR v111 n bh lh.length ch).heap.size (putR v111 n bh lh.length ch) W' → W'.cell? ⟨w1.heap.size, 0, none⟩ = some (.int .i64 (n : Nat)) ∧ W'.cell? ⟨w1.heap.size, 1, none⟩ = some (.slice b zs.length c) ∧ W'.cell? ⟨v3.heap.size, 0, none⟩ = some (.int .i64 (n : Nat)) ∧ W'.cell? ⟨v3.heap.size, 1, none⟩ = some (.slice bo lo.length co) ∧ W'.cell? ⟨v109.heap.size, 0, none⟩ = some (.int .i64 (n : Nat)) ∧ W'.cell? ⟨v109.heap.size, 1, none⟩ = some (.slice bm lm.length cm) ∧ Below (putR v111 n bh lh.length ch).heap.size (putR v111 n bh lh.length ch) W') :=
              Lib.hid (fun W' hW => ⟨(HXr112.out.keep hW).1.facts.1, (HXr112.out.keep hW).1.facts.2.1, (HXo112.out.keep hW).1.facts.1, (HXo112.out.keep hW).1.facts.2.1, (HXm112.out.keep hW).1.facts.1, (HXm112.out.keep hW).1.facts.2.1, hW⟩)
            have HIr : Hid (∀ W' : World, Below (putR v111 n bh lh.length ch).heap.size (putR v111 n bh lh.length ch) W' → IntsAt W' b zs.length zs) := Lib.hid (fun W' hW => (HXr112.out.keep hW).2)
            have HIo : Hid (∀ W' : World, Below (putR v111 n bh lh.length ch).heap.size (putR v111 n bh lh.length ch) W' → IntsAt W' bo lo.length lo) := Lib.hid (fun W' hW => (HXo112.out.keep hW).2)
            have HIm : Hid (∀ W' : World, Below (putR v111 n bh lh.length ch).heap.size (putR v111 n bh lh.length ch) W' → IntsAt W' bm lm.length lm) := Lib.hid (fun W' hW => (HXm112.out.keep hW).2)
            go_upto_region 23 with fail
            refine wp_region_held_drew (S := fun W' => W'.cell? ⟨w1.heap.size, 0, none⟩ = some (.int .i64 (n : Nat)) ∧ W'.cell? ⟨w1.heap.size, 1, none⟩ = some (.slice b zs.length c) ∧ W'.cell? ⟨v3.heap.size, 0, none⟩ = some (.int .i64 (n : Nat)) ∧ W'.cell? ⟨v3.heap.size, 1, none⟩ = some (.slice bo lo.length co) ∧ W'.cell? ⟨v109.heap.size, 0, none⟩ = some (.int .i64 (n : Nat)) ∧ W'.cell? ⟨v109.heap.size, 1, none⟩ = some (.slice bm lm.length cm) ∧ Below (putR v111 n bh lh.length ch).heap.size (putR v111 n bh lh.length ch) W') (by kernel_rfl) (HK.out _ (Below.refl _ _).drew) (fun hSS0 => ?_)
            refine wpAnyH_take (i := 0) (oi := ⟨some 174, _, _, _, _, _⟩) (v := .agg #[.int .i64 (n : Nat), .slice b zs.length c]) rfl (by kernel_rfl) (by kernel_rfl) (by kernel_rfl) (fun _ _ _ h => h) (Or.inl ⟨by rfl, fun w hSw => by obtain ⟨q1, q2, _⟩ := hSw; go_simp⟩) (by assumption) ?_
            try simp only [Act.put, List.setIfInBounds_toArray, List.set_cons_zero, List.set_cons_succ]
            refine wpAnyH_take (i := 1) (oi := ⟨some 175, _, _, _, _, _⟩) (v := .agg #[.int .i64 (n : Nat), .slice bm lm.length cm]) rfl (by kernel_rfl) (by kernel_rfl) (by kernel_rfl) (fun _ _ _ h => h) (Or.inl ⟨by rfl, fun w hSw => by obtain ⟨_, _, _, _, q1, q2, _⟩ := hSw; go_simp⟩) (by assumption) ?_
            try simp only [Act.put, List.setIfInBounds_toArray, List.set_cons_zero, List.set_cons_succ]
            refine wpAnyH_ready (rs := [2]) (by kernel_rfl) (by simp) ?_
            refine AllReadyH.cons rfl (fun K hKK => ?_) AllReadyH.nil
            go_simp
            go_at_call 23
            refine (v_sv n b c zs bm cm lm _ (HIr.out _ (Below.refl _ _).drew) (HIm.out _ (Below.refl _ _).drew) HO.out HOm.out HVM.out).mono ?_
            rintro e wk1 ⟨rfl, hc1⟩
            have hbb1 : Below (putR v111 n bh lh.length ch).heap.size (putR v111 n bh lh.length ch) wk1 := (Below.refl _ _).drew.trans hc1
            clear hc1
            refine hKK.out _ _ (HK.out _ hbb1) (fun hSS1 => ?_)
            clear hKK K hSS0
            try simp only [Act.put, List.setIfInBounds_toArray, List.set_cons_zero, List.set_cons_succ]
            refine wpAnyH_take (i := 3) (oi := ⟨some 177, _, _, _, _, _⟩) (v := .bool true) rfl (by kernel_rfl) (by kernel_rfl) (by kernel_rfl) (fun _ _ _ h => h) (Or.inl ⟨by rfl, fun w hSw => by go_simp⟩) (by assumption) ?_
            try simp only [Act.put, List.setIfInBounds_toArray, List.set_cons_zero, List.set_cons_succ]
            refine wpAnyH_take (i := 4) (oi := ⟨some 178, _, _, _, _, _⟩) (v := .int .i64 n) rfl (by kernel_rfl) (by kernel_rfl) (by kernel_rfl) (fun _ _ _ h => h) (Or.inl ⟨by rfl, fun w hSw => by go_simp⟩) (by assumption) ?_
            try simp only [Act.put, List.setIfInBounds_toArray, List.set_cons_zero, List.set_cons_succ]
            refine wpAnyH_take (i := 5) (oi := ⟨some 179, _, _, _, _, _⟩) (v := .bool true) rfl (by kernel_rfl) (by kernel_rfl) (by kernel_rfl) (fun _ _ _ h => h) (Or.inl ⟨by rfl, fun w hSw => by have h9 := HONE.out; first | (go_simp; done) | (go_simp; omega)⟩) (by assumption) ?_
            try simp only [Act.put, List.setIfInBounds_toArray, List.set_cons_zero, List.set_cons_succ]
            refine wpAnyH_take (i := 6) (oi := ⟨some 180, _, _, _, _, _⟩) (v := .bool true) rfl (by kernel_rfl) (by kernel_rfl) (by kernel_rfl) (fun _ _ _ h => h) (Or.inl ⟨by rfl, fun w hSw => by go_simp⟩) (by assumption) ?_
            try simp only [Act.put, List.setIfInBounds_toArray, List.set_cons_zero, List.set_cons_succ]
            refine wpAnyH_take (i := 7) (oi := ⟨some 181, _, _, _, _, _⟩) (v := undef) rfl (by kernel_rfl) (by kernel_rfl) (by kernel_rfl) (fun _ _ _ h => h) (Or.inr ⟨by rfl, rfl⟩) (by assumption) ?_
            try simp only [Act.put, List.setIfInBounds_toArray, List.set_cons_zero, List.set_cons_succ]
            refine wpAnyH_take (i := 8) (oi := ⟨some 182, _, _, _, _, _⟩) (v := undef) rfl (by kernel_rfl) (by kernel_rfl) (by kernel_rfl) (fun _ _ _ h => h) (Or.inr ⟨by rfl, rfl⟩) (by assumption) ?_
            try simp only [Act.put, List.setIfInBounds_toArray, List.set_cons_zero, List.set_cons_succ]
            refine wpAnyH_take (i := 9) (oi := ⟨some 183, _, _, _, _, _⟩) (v := undef) rfl (by kernel_rfl) (by kernel_rfl) (by kernel_rfl) (fun _ _ _ h => h) (Or.inr ⟨by rfl, rfl⟩) (by assumption) ?_
            try simp only [Act.put, List.setIfInBounds_toArray, List.set_cons_zero, List.set_cons_succ]
            refine wpAnyH_take (i := 10) (oi := ⟨some 184, _, _, _, _, _⟩) (v := undef) rfl (by kernel_rfl) (by kernel_rfl) (by kernel_rfl) (fun _ _ _ h => h) (Or.inr ⟨by rfl, rfl⟩) (by assumption) ?_
            try simp only [Act.put, List.setIfInBounds_toArray, List.set_cons_zero, List.set_cons_succ]
            refine wpAnyH_take (i := 11) (oi := ⟨some 185, _, _, _, _, _⟩) (v := undef) rfl (by kernel_rfl) (by kernel_rfl) (by kernel_rfl) (fun _ _ _ h => h) (Or.inr ⟨by rfl, rfl⟩) (by assumption) ?_
            try simp only [Act.put, List.setIfInBounds_toArray, List.set_cons_zero, List.set_cons_succ]
            refine wpAnyH_take (i := 12) (oi := ⟨some 186, _, _, _, _, _⟩) (v := undef) rfl (by kernel_rfl) (by kernel_rfl) (by kernel_rfl) (fun _ _ _ h => h) (Or.inr ⟨by rfl, rfl⟩) (by assumption) ?_
            try simp only [Act.put, List.setIfInBounds_toArray, List.set_cons_zero, List.set_cons_succ]
            refine wpAnyH_take (i := 13) (oi := ⟨some 187, _, _, _, _, _⟩) (v := .bool true) rfl (by kernel_rfl) (by kernel_rfl) (by kernel_rfl) (fun _ _ _ h => h) (Or.inl ⟨by rfl, fun w hSw => by go_simp⟩) (by assumption) ?_
            try simp only [Act.put, List.setIfInBounds_toArray, List.set_cons_zero, List.set_cons_succ]
            refine wpAnyH_take (i := 14) (oi := ⟨some 188, _, _, _, _, _⟩) (v := .bool true) rfl (by kernel_rfl) (by kernel_rfl) (by kernel_rfl) (fun _ _ _ h => h) (Or.inl ⟨by rfl, fun w hSw => by go_simp⟩) (by assumption) ?_
            try simp only [Act.put, List.setIfInBounds_toArray, List.set_cons_zero, List.set_cons_succ]
            refine wpAnyH_take (i := 15) (oi := ⟨some 189, _, _, _, _, _⟩) (v := .bool true) rfl (by kernel_rfl) (by kernel_rfl) (by kernel_rfl) (fun _ _ _ h => h) (Or.inl ⟨by rfl, fun w hSw => by go_simp⟩) (by assumption) ?_
            try simp only [Act.put, List.setIfInBounds_toArray, List.set_cons_zero, List.set_cons_succ]
            refine wpAnyH_take (i := 16) (oi := ⟨some 190, _, _, _, _, _⟩) (v := .int .i64 kI) rfl (by kernel_rfl) (by kernel_rfl) (by kernel_rfl) (fun _ _ _ h => h) (Or.inl ⟨by rfl, fun w hSw => by go_simp⟩) (by assumption) ?_
            try simp only [Act.put, List.setIfInBounds_toArray, List.set_cons_zero, List.set_cons_succ]
            refine wpAnyH_take (i := 17) (oi := ⟨some 191, _, _, _, _, _⟩) (v := .int .i64 (2 * kI)) rfl (by kernel_rfl) (by kernel_rfl) (by kernel_rfl) (fun _ _ _ h => h) (Or.inl ⟨by rfl, fun w hSw => by first | (go_simp; done) | (go_simp; exact (IntWalk.i64_in _ ⟨by omega, by omega⟩).trans (by omega))⟩) (by assumption) ?_
            try simp only [Act.put, List.setIfInBounds_toArray, List.set_cons_zero, List.set_cons_succ]
            refine wpAnyH_take (i := 18) (oi := ⟨some 192, _, _, _, _, _⟩) (v := .int .i64 n) rfl (by kernel_rfl) (by kernel_rfl) (by kernel_rfl) (fun _ _ _ h => h) (Or.inl ⟨by rfl, fun w hSw => by go_simp⟩) (by assumption) ?_
            try simp only [Act.put, List.setIfInBounds_toArray, List.set_cons_zero, List.set_cons_succ]
            refine wpAnyH_take (i := 19) (oi := ⟨some 193, _, _, _, _, _⟩) (v := .bool true) rfl (by kernel_rfl) (by kernel_rfl) (by kernel_rfl) (fun _ _ _ h => h) (Or.inl ⟨by rfl, fun w hSw => by have h9 := HHALF.out; first | (go_simp; done) | (go_simp; omega)⟩) (by assumption) ?_
            try simp only [Act.put, List.setIfInBounds_toArray, List.set_cons_zero, List.set_cons_succ]
            refine wpAnyH_take (i := 20) (oi := ⟨some 194, _, _, _, _, _⟩) (v := .bool true) rfl (by kernel_rfl) (by kernel_rfl) (by kernel_rfl) (fun _ _ _ h => h) (Or.inl ⟨by rfl, fun w hSw => by go_simp⟩) (by assumption) ?_
            try simp only [Act.put, List.setIfInBounds_toArray, List.set_cons_zero, List.set_cons_succ]
            refine wpAnyH_take (i := 21) (oi := ⟨some 195, _, _, _, _, _⟩) (v := undef) rfl (by kernel_rfl) (by kernel_rfl) (by kernel_rfl) (fun _ _ _ h => h) (Or.inr ⟨by rfl, rfl⟩) (by assumption) ?_
            try simp only [Act.put, List.setIfInBounds_toArray, List.set_cons_zero, List.set_cons_succ]
            refine wpAnyH_take (i := 22) (oi := ⟨some 196, _, _, _, _, _⟩) (v := undef) rfl (by kernel_rfl) (by kernel_rfl) (by kernel_rfl) (fun _ _ _ h => h) (Or.inr ⟨by rfl, rfl⟩) (by assumption) ?_
            try simp only [Act.put, List.setIfInBounds_toArray, List.set_cons_zero, List.set_cons_succ]
            refine wpAnyH_take (i := 23) (oi := ⟨some 197, _, _, _, _, _⟩) (v := undef) rfl (by kernel_rfl) (by kernel_rfl) (by kernel_rfl) (fun _ _ _ h => h) (Or.inr ⟨by rfl, rfl⟩) (by assumption) ?_
            try simp only [Act.put, List.setIfInBounds_toArray, List.set_cons_zero, List.set_cons_succ]
            refine wpAnyH_take (i := 24) (oi := ⟨some 198, _, _, _, _, _⟩) (v := .bool true) rfl (by kernel_rfl) (by kernel_rfl) (by kernel_rfl) (fun _ _ _ h => h) (Or.inl ⟨by rfl, fun w hSw => by go_simp⟩) (by assumption) ?_
            try simp only [Act.put, List.setIfInBounds_toArray, List.set_cons_zero, List.set_cons_succ]
            refine wpAnyH_take (i := 25) (oi := ⟨some 199, _, _, _, _, _⟩) (v := .bool true) rfl (by kernel_rfl) (by kernel_rfl) (by kernel_rfl) (fun _ _ _ h => h) (Or.inl ⟨by rfl, fun w hSw => by go_simp⟩) (by assumption) ?_
            try simp only [Act.put, List.setIfInBounds_toArray, List.set_cons_zero, List.set_cons_succ]
            refine wpAnyH_take (i := 26) (oi := ⟨some 200, _, _, _, _, _⟩) (v := .bool true) rfl (by kernel_rfl) (by kernel_rfl) (by kernel_rfl) (fun _ _ _ h => h) (Or.inl ⟨by rfl, fun w hSw => by go_simp⟩) (by assumption) ?_
            try simp only [Act.put, List.setIfInBounds_toArray, List.set_cons_zero, List.set_cons_succ]
            refine wpAnyH_take (i := 27) (oi := ⟨some 201, _, _, _, _, _⟩) (v := .agg #[.int .i64 (n : Nat), .slice b zs.length c]) rfl (by kernel_rfl) (by kernel_rfl) (by kernel_rfl) (fun _ _ _ h => h) (Or.inl ⟨by rfl, fun w hSw => by obtain ⟨q1, q2, _⟩ := hSw; go_simp⟩) (by assumption) ?_
            try simp only [Act.put, List.setIfInBounds_toArray, List.set_cons_zero, List.set_cons_succ]
            refine wpAnyH_take (i := 29) (oi := ⟨some 203, _, _, _, _, _⟩) (v := .agg #[.int .i64 (n : Nat), .slice bo lo.length co]) rfl (by kernel_rfl) (by kernel_rfl) (by kernel_rfl) (fun _ _ _ h => h) (Or.inl ⟨by rfl, fun w hSw => by obtain ⟨_, _, q1, q2, _⟩ := hSw; go_simp⟩) (by assumption) ?_
            try simp only [Act.put, List.setIfInBounds_toArray, List.set_cons_zero, List.set_cons_succ]
            refine wpAnyH_ready (rs := [28]) (by kernel_rfl) (by simp) ?_
            refine AllReadyH.cons rfl (fun K hKK => ?_) AllReadyH.nil
            go_simp
            go_at_call 28
            refine (v_flat n b c zs q _ (HIr.out _ hbb1) HO.out HQ.out).mono ?_
            rintro e wk2 ⟨rfl, hc2⟩
            have hbb2 : Below (putR v111 n bh lh.length ch).heap.size (putR v111 n bh lh.length ch) wk2 := hbb1.trans (hc2.mono hbb1.size)
            clear hc2
            refine hKK.out _ _ (HK.out _ hbb2) (fun hSS2 => ?_)
            clear hKK K hbb1 hSS1
            try simp only [Act.put, List.setIfInBounds_toArray, List.set_cons_zero, List.set_cons_succ]
            refine wpAnyH_ready (rs := [30]) (by kernel_rfl) (by simp) ?_
            refine AllReadyH.cons rfl (fun K hKK => ?_) AllReadyH.nil
            go_simp
            go_at_call 28
            refine (v_flat n bo co lo q _ (HIo.out _ hbb2) HOo.out HQO.out).mono ?_
            rintro e wk3 ⟨rfl, hc3⟩
            have hbb3 : Below (putR v111 n bh lh.length ch).heap.size (putR v111 n bh lh.length ch) wk3 := hbb2.trans (hc3.mono hbb2.size)
            clear hc3
            refine hKK.out _ _ (HK.out _ hbb3) (fun hSS3 => ?_)
            clear hKK K hbb2 hSS2
            try simp only [Act.put, List.setIfInBounds_toArray, List.set_cons_zero, List.set_cons_succ]
            refine wpAnyH_take (i := 31) (oi := ⟨some 205, _, _, _, _, _⟩) (v := .bool true) rfl (by kernel_rfl) (by kernel_rfl) (by kernel_rfl) (fun _ _ _ h => h) (Or.inl ⟨by rfl, fun w hSw => by first | (go_simp; done) | (go_simp; cases q <;> rfl)⟩) (by assumption) ?_
            try simp only [Act.put, List.setIfInBounds_toArray, List.set_cons_zero, List.set_cons_succ]
            refine wpAnyH_take (i := 32) (oi := ⟨some 206, _, _, _, _, _⟩) (v := .bool true) rfl (by kernel_rfl) (by kernel_rfl) (by kernel_rfl) (fun _ _ _ h => h) (Or.inl ⟨by rfl, fun w hSw => by go_simp⟩) (by assumption) ?_
            try simp only [Act.put, List.setIfInBounds_toArray, List.set_cons_zero, List.set_cons_succ]
            refine wpAnyH_take (i := 33) (oi := ⟨some 2, _, _, _, _, _⟩) (v := .bool true) rfl (by kernel_rfl) (by kernel_rfl) (by kernel_rfl) (fun _ _ _ h => h) (Or.inl ⟨by rfl, fun w hSw => by go_simp⟩) (by assumption) ?_
            try simp only [Act.put, List.setIfInBounds_toArray, List.set_cons_zero, List.set_cons_succ]
            refine wpAnyH_done (by kernel_rfl) ?_ _
            clear HK
            go_wp2
            go_ret
            exact ⟨rfl, HB112x.out.trans (hbb3.mono HB112x.out.size)⟩
        · obtain rfl : lh = lm := HHM.out hone
          have HONE := Lib.hid hone
          clear hone
          by_cases hhalf : 2 * kI = n
          · have HVO : Hid (vecZ n zs = vecZ n lo) := Lib.hid (by rw [← HElo.out, half_vec HO.out (by have := HKI.out; omega)])
            have HHALF := Lib.hid hhalf
            clear hhalf
            have HK : Hid (∀ W' : World, Below (putR v111 n bh lh.length ch).heap.size (putR v111 n bh lh.length ch) W' → W'.cell? ⟨w1.heap.size, 0, none⟩ = some (.int .i64 (n : Nat)) ∧ W'.cell? ⟨w1.heap.size, 1, none⟩ = some (.slice b zs.length c) ∧ W'.cell? ⟨v3.heap.size, 0, none⟩ = some (.int .i64 (n : Nat)) ∧ W'.cell? ⟨v3.heap.size, 1, none⟩ = some (.slice bo lo.length co) ∧ W'.cell? ⟨v109.heap.size, 0, none⟩ = some (.int .i64 (n : Nat)) ∧ W'.cell? ⟨v109.heap.size, 1, none⟩ = some (.slice bm lh.length cm) ∧ W'.cell? ⟨v111.heap.size, 0, none⟩ = some (.int .i64 (n : Nat)) ∧ W'.cell? ⟨v111.heap.size, 1, none⟩ = some (.slice bh lh.length ch) ∧ Below (putR v111 n bh lh.length ch).heap.size (putR v111 n bh lh.length ch) W') :=
              Lib.hid (fun W' hW => ⟨(HXr112.out.keep hW).1.facts.1, (HXr112.out.keep hW).1.facts.2.1, (HXo112.out.keep hW).1.facts.1, (HXo112.out.keep hW).1.facts.2.1, (HXm112.out.keep hW).1.facts.1, (HXm112.out.keep hW).1.facts.2.1, (HXh112.out.keep hW).1.facts.1, (HXh112.out.keep hW).1.facts.2.1, hW⟩)
            have HIr : Hid (∀ W' : World, Below (putR v111 n bh lh.length ch).heap.size (putR v111 n bh lh.length ch) W' → IntsAt W' b zs.length zs) := Lib.hid (fun W' hW => (HXr112.out.keep hW).2)
            have HIo : Hid (∀ W' : World, Below (putR v111 n bh lh.length ch).heap.size (putR v111 n bh lh.length ch) W' → IntsAt W' bo lo.length lo) := Lib.hid (fun W' hW => (HXo112.out.keep hW).2)
            have HIm : Hid (∀ W' : World, Below (putR v111 n bh lh.length ch).heap.size (putR v111 n bh lh.length ch) W' → IntsAt W' bm lh.length lh) := Lib.hid (fun W' hW => (HXm112.out.keep hW).2)
            have HIh : Hid (∀ W' : World, Below (putR v111 n bh lh.length ch).heap.size (putR v111 n bh lh.length ch) W' → IntsAt W' bh lh.length lh) := Lib.hid (fun W' hW => (HXh112.out.keep hW).2)
            go_upto_region 23 with fail
            refine wp_region_held_drew (S := fun W' => W'.cell? ⟨w1.heap.size, 0, none⟩ = some (.int .i64 (n : Nat)) ∧ W'.cell? ⟨w1.heap.size, 1, none⟩ = some (.slice b zs.length c) ∧ W'.cell? ⟨v3.heap.size, 0, none⟩ = some (.int .i64 (n : Nat)) ∧ W'.cell? ⟨v3.heap.size, 1, none⟩ = some (.slice bo lo.length co) ∧ W'.cell? ⟨v109.heap.size, 0, none⟩ = some (.int .i64 (n : Nat)) ∧ W'.cell? ⟨v109.heap.size, 1, none⟩ = some (.slice bm lh.length cm) ∧ W'.cell? ⟨v111.heap.size, 0, none⟩ = some (.int .i64 (n : Nat)) ∧ W'.cell? ⟨v111.heap.size, 1, none⟩ = some (.slice bh lh.length ch) ∧ Below (putR v111 n bh lh.length ch).heap.size (putR v111 n bh lh.length ch) W') (by kernel_rfl) (HK.out _ (Below.refl _ _).drew) (fun hSS0 => ?_)
            refine wpAnyH_take (i := 0) (oi := ⟨some 174, _, _, _, _, _⟩) (v := .agg #[.int .i64 (n : Nat), .slice b zs.length c]) rfl (by kernel_rfl) (by kernel_rfl) (by kernel_rfl) (fun _ _ _ h => h) (Or.inl ⟨by rfl, fun w hSw => by obtain ⟨q1, q2, _⟩ := hSw; go_simp⟩) (by assumption) ?_
            try simp only [Act.put, List.setIfInBounds_toArray, List.set_cons_zero, List.set_cons_succ]
            refine wpAnyH_take (i := 1) (oi := ⟨some 175, _, _, _, _, _⟩) (v := .agg #[.int .i64 (n : Nat), .slice bm lh.length cm]) rfl (by kernel_rfl) (by kernel_rfl) (by kernel_rfl) (fun _ _ _ h => h) (Or.inl ⟨by rfl, fun w hSw => by obtain ⟨_, _, _, _, q1, q2, _⟩ := hSw; go_simp⟩) (by assumption) ?_
            try simp only [Act.put, List.setIfInBounds_toArray, List.set_cons_zero, List.set_cons_succ]
            refine wpAnyH_ready (rs := [2]) (by kernel_rfl) (by simp) ?_
            refine AllReadyH.cons rfl (fun K hKK => ?_) AllReadyH.nil
            go_simp
            go_at_call 23
            refine (v_sv n b c zs bm cm lh _ (HIr.out _ (Below.refl _ _).drew) (HIm.out _ (Below.refl _ _).drew) HO.out HOm.out HVM.out).mono ?_
            rintro e wk1 ⟨rfl, hc1⟩
            have hbb1 : Below (putR v111 n bh lh.length ch).heap.size (putR v111 n bh lh.length ch) wk1 := (Below.refl _ _).drew.trans hc1
            clear hc1
            refine hKK.out _ _ (HK.out _ hbb1) (fun hSS1 => ?_)
            clear hKK K hSS0
            try simp only [Act.put, List.setIfInBounds_toArray, List.set_cons_zero, List.set_cons_succ]
            refine wpAnyH_take (i := 3) (oi := ⟨some 177, _, _, _, _, _⟩) (v := .bool true) rfl (by kernel_rfl) (by kernel_rfl) (by kernel_rfl) (fun _ _ _ h => h) (Or.inl ⟨by rfl, fun w hSw => by go_simp⟩) (by assumption) ?_
            try simp only [Act.put, List.setIfInBounds_toArray, List.set_cons_zero, List.set_cons_succ]
            refine wpAnyH_take (i := 4) (oi := ⟨some 178, _, _, _, _, _⟩) (v := .int .i64 n) rfl (by kernel_rfl) (by kernel_rfl) (by kernel_rfl) (fun _ _ _ h => h) (Or.inl ⟨by rfl, fun w hSw => by go_simp⟩) (by assumption) ?_
            try simp only [Act.put, List.setIfInBounds_toArray, List.set_cons_zero, List.set_cons_succ]
            refine wpAnyH_take (i := 5) (oi := ⟨some 179, _, _, _, _, _⟩) (v := .bool false) rfl (by kernel_rfl) (by kernel_rfl) (by kernel_rfl) (fun _ _ _ h => h) (Or.inl ⟨by rfl, fun w hSw => by have h9 := HONE.out; first | (go_simp; done) | (go_simp; omega)⟩) (by assumption) ?_
            try simp only [Act.put, List.setIfInBounds_toArray, List.set_cons_zero, List.set_cons_succ]
            refine wpAnyH_take (i := 6) (oi := ⟨some 180, _, _, _, _, _⟩) (v := .bool false) rfl (by kernel_rfl) (by kernel_rfl) (by kernel_rfl) (fun _ _ _ h => h) (Or.inl ⟨by rfl, fun w hSw => by go_simp⟩) (by assumption) ?_
            try simp only [Act.put, List.setIfInBounds_toArray, List.set_cons_zero, List.set_cons_succ]
            refine wpAnyH_take (i := 7) (oi := ⟨some 181, _, _, _, _, _⟩) (v := .bool true) rfl (by kernel_rfl) (by kernel_rfl) (by kernel_rfl) (fun _ _ _ h => h) (Or.inl ⟨by rfl, fun w hSw => by go_simp⟩) (by assumption) ?_
            try simp only [Act.put, List.setIfInBounds_toArray, List.set_cons_zero, List.set_cons_succ]
            refine wpAnyH_take (i := 8) (oi := ⟨some 182, _, _, _, _, _⟩) (v := .bool true) rfl (by kernel_rfl) (by kernel_rfl) (by kernel_rfl) (fun _ _ _ h => h) (Or.inl ⟨by rfl, fun w hSw => by go_simp⟩) (by assumption) ?_
            try simp only [Act.put, List.setIfInBounds_toArray, List.set_cons_zero, List.set_cons_succ]
            refine wpAnyH_take (i := 9) (oi := ⟨some 183, _, _, _, _, _⟩) (v := .agg #[.int .i64 (n : Nat), .slice bh lh.length ch]) rfl (by kernel_rfl) (by kernel_rfl) (by kernel_rfl) (fun _ _ _ h => h) (Or.inl ⟨by rfl, fun w hSw => by obtain ⟨_, _, _, _, _, _, q1, q2, _⟩ := hSw; go_simp⟩) (by assumption) ?_
            try simp only [Act.put, List.setIfInBounds_toArray, List.set_cons_zero, List.set_cons_succ]
            refine wpAnyH_take (i := 10) (oi := ⟨some 184, _, _, _, _, _⟩) (v := .agg #[.int .i64 (n : Nat), .slice bm lh.length cm]) rfl (by kernel_rfl) (by kernel_rfl) (by kernel_rfl) (fun _ _ _ h => h) (Or.inl ⟨by rfl, fun w hSw => by obtain ⟨_, _, _, _, q1, q2, _⟩ := hSw; go_simp⟩) (by assumption) ?_
            try simp only [Act.put, List.setIfInBounds_toArray, List.set_cons_zero, List.set_cons_succ]
            refine wpAnyH_ready (rs := [11]) (by kernel_rfl) (by simp) ?_
            refine AllReadyH.cons rfl (fun K hKK => ?_) AllReadyH.nil
            go_simp
            go_at_call 27
            refine (rhythms_law n bh bm ch cm lh _ (HIh.out _ hbb1) (HIm.out _ hbb1) (by have := ok_len HOm.out; omega)).mono ?_
            rintro e wk2 ⟨rfl, hc2⟩
            have hbb2 : Below (putR v111 n bh lh.length ch).heap.size (putR v111 n bh lh.length ch) wk2 := hbb1.trans (hc2.mono hbb1.size)
            clear hc2
            refine hKK.out _ _ (HK.out _ hbb2) (fun hSS2 => ?_)
            clear hKK K hbb1 hSS1
            try simp only [Act.put, List.setIfInBounds_toArray, List.set_cons_zero, List.set_cons_succ]
            refine wpAnyH_take (i := 12) (oi := ⟨some 186, _, _, _, _, _⟩) (v := .bool true) rfl (by kernel_rfl) (by kernel_rfl) (by kernel_rfl) (fun _ _ _ h => h) (Or.inl ⟨by rfl, fun w hSw => by go_simp⟩) (by assumption) ?_
            try simp only [Act.put, List.setIfInBounds_toArray, List.set_cons_zero, List.set_cons_succ]
            refine wpAnyH_take (i := 13) (oi := ⟨some 187, _, _, _, _, _⟩) (v := .bool true) rfl (by kernel_rfl) (by kernel_rfl) (by kernel_rfl) (fun _ _ _ h => h) (Or.inl ⟨by rfl, fun w hSw => by go_simp⟩) (by assumption) ?_
            try simp only [Act.put, List.setIfInBounds_toArray, List.set_cons_zero, List.set_cons_succ]
            refine wpAnyH_take (i := 14) (oi := ⟨some 188, _, _, _, _, _⟩) (v := .bool true) rfl (by kernel_rfl) (by kernel_rfl) (by kernel_rfl) (fun _ _ _ h => h) (Or.inl ⟨by rfl, fun w hSw => by go_simp⟩) (by assumption) ?_
            try simp only [Act.put, List.setIfInBounds_toArray, List.set_cons_zero, List.set_cons_succ]
            refine wpAnyH_take (i := 15) (oi := ⟨some 189, _, _, _, _, _⟩) (v := .bool true) rfl (by kernel_rfl) (by kernel_rfl) (by kernel_rfl) (fun _ _ _ h => h) (Or.inl ⟨by rfl, fun w hSw => by go_simp⟩) (by assumption) ?_
            try simp only [Act.put, List.setIfInBounds_toArray, List.set_cons_zero, List.set_cons_succ]
            refine wpAnyH_take (i := 16) (oi := ⟨some 190, _, _, _, _, _⟩) (v := .int .i64 kI) rfl (by kernel_rfl) (by kernel_rfl) (by kernel_rfl) (fun _ _ _ h => h) (Or.inl ⟨by rfl, fun w hSw => by go_simp⟩) (by assumption) ?_
            try simp only [Act.put, List.setIfInBounds_toArray, List.set_cons_zero, List.set_cons_succ]
            refine wpAnyH_take (i := 17) (oi := ⟨some 191, _, _, _, _, _⟩) (v := .int .i64 (2 * kI)) rfl (by kernel_rfl) (by kernel_rfl) (by kernel_rfl) (fun _ _ _ h => h) (Or.inl ⟨by rfl, fun w hSw => by first | (go_simp; done) | (go_simp; exact (IntWalk.i64_in _ ⟨by omega, by omega⟩).trans (by omega))⟩) (by assumption) ?_
            try simp only [Act.put, List.setIfInBounds_toArray, List.set_cons_zero, List.set_cons_succ]
            refine wpAnyH_take (i := 18) (oi := ⟨some 192, _, _, _, _, _⟩) (v := .int .i64 n) rfl (by kernel_rfl) (by kernel_rfl) (by kernel_rfl) (fun _ _ _ h => h) (Or.inl ⟨by rfl, fun w hSw => by go_simp⟩) (by assumption) ?_
            try simp only [Act.put, List.setIfInBounds_toArray, List.set_cons_zero, List.set_cons_succ]
            refine wpAnyH_take (i := 19) (oi := ⟨some 193, _, _, _, _, _⟩) (v := .bool false) rfl (by kernel_rfl) (by kernel_rfl) (by kernel_rfl) (fun _ _ _ h => h) (Or.inl ⟨by rfl, fun w hSw => by have h9 := HHALF.out; first | (go_simp; done) | (go_simp; omega)⟩) (by assumption) ?_
            try simp only [Act.put, List.setIfInBounds_toArray, List.set_cons_zero, List.set_cons_succ]
            refine wpAnyH_take (i := 20) (oi := ⟨some 194, _, _, _, _, _⟩) (v := .bool false) rfl (by kernel_rfl) (by kernel_rfl) (by kernel_rfl) (fun _ _ _ h => h) (Or.inl ⟨by rfl, fun w hSw => by go_simp⟩) (by assumption) ?_
            try simp only [Act.put, List.setIfInBounds_toArray, List.set_cons_zero, List.set_cons_succ]
            refine wpAnyH_take (i := 21) (oi := ⟨some 195, _, _, _, _, _⟩) (v := .agg #[.int .i64 (n : Nat), .slice b zs.length c]) rfl (by kernel_rfl) (by kernel_rfl) (by kernel_rfl) (fun _ _ _ h => h) (Or.inl ⟨by rfl, fun w hSw => by obtain ⟨q1, q2, _⟩ := hSw; go_simp⟩) (by assumption) ?_
            try simp only [Act.put, List.setIfInBounds_toArray, List.set_cons_zero, List.set_cons_succ]
            refine wpAnyH_take (i := 22) (oi := ⟨some 196, _, _, _, _, _⟩) (v := .agg #[.int .i64 (n : Nat), .slice bo lo.length co]) rfl (by kernel_rfl) (by kernel_rfl) (by kernel_rfl) (fun _ _ _ h => h) (Or.inl ⟨by rfl, fun w hSw => by obtain ⟨_, _, q1, q2, _⟩ := hSw; go_simp⟩) (by assumption) ?_
            try simp only [Act.put, List.setIfInBounds_toArray, List.set_cons_zero, List.set_cons_succ]
            refine wpAnyH_ready (rs := [23]) (by kernel_rfl) (by simp) ?_
            refine AllReadyH.cons rfl (fun K hKK => ?_) AllReadyH.nil
            go_simp
            go_at_call 23
            refine (v_sv n b c zs bo co lo _ (HIr.out _ hbb2) (HIo.out _ hbb2) HO.out HOo.out HVO.out).mono ?_
            rintro e wk3 ⟨rfl, hc3⟩
            have hbb3 : Below (putR v111 n bh lh.length ch).heap.size (putR v111 n bh lh.length ch) wk3 := hbb2.trans (hc3.mono hbb2.size)
            clear hc3
            refine hKK.out _ _ (HK.out _ hbb3) (fun hSS3 => ?_)
            clear hKK K hbb2 hSS2
            try simp only [Act.put, List.setIfInBounds_toArray, List.set_cons_zero, List.set_cons_succ]
            refine wpAnyH_take (i := 24) (oi := ⟨some 198, _, _, _, _, _⟩) (v := .bool true) rfl (by kernel_rfl) (by kernel_rfl) (by kernel_rfl) (fun _ _ _ h => h) (Or.inl ⟨by rfl, fun w hSw => by go_simp⟩) (by assumption) ?_
            try simp only [Act.put, List.setIfInBounds_toArray, List.set_cons_zero, List.set_cons_succ]
            refine wpAnyH_take (i := 25) (oi := ⟨some 199, _, _, _, _, _⟩) (v := .bool true) rfl (by kernel_rfl) (by kernel_rfl) (by kernel_rfl) (fun _ _ _ h => h) (Or.inl ⟨by rfl, fun w hSw => by go_simp⟩) (by assumption) ?_
            try simp only [Act.put, List.setIfInBounds_toArray, List.set_cons_zero, List.set_cons_succ]
            refine wpAnyH_take (i := 26) (oi := ⟨some 200, _, _, _, _, _⟩) (v := .bool true) rfl (by kernel_rfl) (by kernel_rfl) (by kernel_rfl) (fun _ _ _ h => h) (Or.inl ⟨by rfl, fun w hSw => by go_simp⟩) (by assumption) ?_
            try simp only [Act.put, List.setIfInBounds_toArray, List.set_cons_zero, List.set_cons_succ]
            refine wpAnyH_take (i := 27) (oi := ⟨some 201, _, _, _, _, _⟩) (v := .agg #[.int .i64 (n : Nat), .slice b zs.length c]) rfl (by kernel_rfl) (by kernel_rfl) (by kernel_rfl) (fun _ _ _ h => h) (Or.inl ⟨by rfl, fun w hSw => by obtain ⟨q1, q2, _⟩ := hSw; go_simp⟩) (by assumption) ?_
            try simp only [Act.put, List.setIfInBounds_toArray, List.set_cons_zero, List.set_cons_succ]
            refine wpAnyH_take (i := 29) (oi := ⟨some 203, _, _, _, _, _⟩) (v := .agg #[.int .i64 (n : Nat), .slice bo lo.length co]) rfl (by kernel_rfl) (by kernel_rfl) (by kernel_rfl) (fun _ _ _ h => h) (Or.inl ⟨by rfl, fun w hSw => by obtain ⟨_, _, q1, q2, _⟩ := hSw; go_simp⟩) (by assumption) ?_
            try simp only [Act.put, List.setIfInBounds_toArray, List.set_cons_zero, List.set_cons_succ]
            refine wpAnyH_ready (rs := [28]) (by kernel_rfl) (by simp) ?_
            refine AllReadyH.cons rfl (fun K hKK => ?_) AllReadyH.nil
            go_simp
            go_at_call 28
            refine (v_flat n b c zs q _ (HIr.out _ hbb3) HO.out HQ.out).mono ?_
            rintro e wk4 ⟨rfl, hc4⟩
            have hbb4 : Below (putR v111 n bh lh.length ch).heap.size (putR v111 n bh lh.length ch) wk4 := hbb3.trans (hc4.mono hbb3.size)
            clear hc4
            refine hKK.out _ _ (HK.out _ hbb4) (fun hSS4 => ?_)
            clear hKK K hbb3 hSS3
            try simp only [Act.put, List.setIfInBounds_toArray, List.set_cons_zero, List.set_cons_succ]
            refine wpAnyH_ready (rs := [30]) (by kernel_rfl) (by simp) ?_
            refine AllReadyH.cons rfl (fun K hKK => ?_) AllReadyH.nil
            go_simp
            go_at_call 28
            refine (v_flat n bo co lo q _ (HIo.out _ hbb4) HOo.out HQO.out).mono ?_
            rintro e wk5 ⟨rfl, hc5⟩
            have hbb5 : Below (putR v111 n bh lh.length ch).heap.size (putR v111 n bh lh.length ch) wk5 := hbb4.trans (hc5.mono hbb4.size)
            clear hc5
            refine hKK.out _ _ (HK.out _ hbb5) (fun hSS5 => ?_)
            clear hKK K hbb4 hSS4
            try simp only [Act.put, List.setIfInBounds_toArray, List.set_cons_zero, List.set_cons_succ]
            refine wpAnyH_take (i := 31) (oi := ⟨some 205, _, _, _, _, _⟩) (v := .bool true) rfl (by kernel_rfl) (by kernel_rfl) (by kernel_rfl) (fun _ _ _ h => h) (Or.inl ⟨by rfl, fun w hSw => by first | (go_simp; done) | (go_simp; cases q <;> rfl)⟩) (by assumption) ?_
            try simp only [Act.put, List.setIfInBounds_toArray, List.set_cons_zero, List.set_cons_succ]
            refine wpAnyH_take (i := 32) (oi := ⟨some 206, _, _, _, _, _⟩) (v := .bool true) rfl (by kernel_rfl) (by kernel_rfl) (by kernel_rfl) (fun _ _ _ h => h) (Or.inl ⟨by rfl, fun w hSw => by go_simp⟩) (by assumption) ?_
            try simp only [Act.put, List.setIfInBounds_toArray, List.set_cons_zero, List.set_cons_succ]
            refine wpAnyH_take (i := 33) (oi := ⟨some 2, _, _, _, _, _⟩) (v := .bool true) rfl (by kernel_rfl) (by kernel_rfl) (by kernel_rfl) (fun _ _ _ h => h) (Or.inl ⟨by rfl, fun w hSw => by go_simp⟩) (by assumption) ?_
            try simp only [Act.put, List.setIfInBounds_toArray, List.set_cons_zero, List.set_cons_succ]
            refine wpAnyH_done (by kernel_rfl) ?_ _
            clear HK
            go_wp2
            go_ret
            exact ⟨rfl, HB112x.out.trans (hbb5.mono HB112x.out.size)⟩
          · skip
            have HHALF := Lib.hid hhalf
            clear hhalf
            have HK : Hid (∀ W' : World, Below (putR v111 n bh lh.length ch).heap.size (putR v111 n bh lh.length ch) W' → W'.cell? ⟨w1.heap.size, 0, none⟩ = some (.int .i64 (n : Nat)) ∧ W'.cell? ⟨w1.heap.size, 1, none⟩ = some (.slice b zs.length c) ∧ W'.cell? ⟨v3.heap.size, 0, none⟩ = some (.int .i64 (n : Nat)) ∧ W'.cell? ⟨v3.heap.size, 1, none⟩ = some (.slice bo lo.length co) ∧ W'.cell? ⟨v109.heap.size, 0, none⟩ = some (.int .i64 (n : Nat)) ∧ W'.cell? ⟨v109.heap.size, 1, none⟩ = some (.slice bm lh.length cm) ∧ W'.cell? ⟨v111.heap.size, 0, none⟩ = some (.int .i64 (n : Nat)) ∧ W'.cell? ⟨v111.heap.size, 1, none⟩ = some (.slice bh lh.length ch) ∧ Below (putR v111 n bh lh.length ch).heap.size (putR v111 n bh lh.length ch) W') :=
              Lib.hid (fun W' hW => ⟨(HXr112.out.keep hW).1.facts.1, (HXr112.out.keep hW).1.facts.2.1, (HXo112.out.keep hW).1.facts.1, (HXo112.out.keep hW).1.facts.2.1, (HXm112.out.keep hW).1.facts.1, (HXm112.out.keep hW).1.facts.2.1, (HXh112.out.keep hW).1.facts.1, (HXh112.out.keep hW).1.facts.2.1, hW⟩)
            have HIr : Hid (∀ W' : World, Below (putR v111 n bh lh.length ch).heap.size (putR v111 n bh lh.length ch) W' → IntsAt W' b zs.length zs) := Lib.hid (fun W' hW => (HXr112.out.keep hW).2)
            have HIo : Hid (∀ W' : World, Below (putR v111 n bh lh.length ch).heap.size (putR v111 n bh lh.length ch) W' → IntsAt W' bo lo.length lo) := Lib.hid (fun W' hW => (HXo112.out.keep hW).2)
            have HIm : Hid (∀ W' : World, Below (putR v111 n bh lh.length ch).heap.size (putR v111 n bh lh.length ch) W' → IntsAt W' bm lh.length lh) := Lib.hid (fun W' hW => (HXm112.out.keep hW).2)
            have HIh : Hid (∀ W' : World, Below (putR v111 n bh lh.length ch).heap.size (putR v111 n bh lh.length ch) W' → IntsAt W' bh lh.length lh) := Lib.hid (fun W' hW => (HXh112.out.keep hW).2)
            go_upto_region 23 with fail
            refine wp_region_held_drew (S := fun W' => W'.cell? ⟨w1.heap.size, 0, none⟩ = some (.int .i64 (n : Nat)) ∧ W'.cell? ⟨w1.heap.size, 1, none⟩ = some (.slice b zs.length c) ∧ W'.cell? ⟨v3.heap.size, 0, none⟩ = some (.int .i64 (n : Nat)) ∧ W'.cell? ⟨v3.heap.size, 1, none⟩ = some (.slice bo lo.length co) ∧ W'.cell? ⟨v109.heap.size, 0, none⟩ = some (.int .i64 (n : Nat)) ∧ W'.cell? ⟨v109.heap.size, 1, none⟩ = some (.slice bm lh.length cm) ∧ W'.cell? ⟨v111.heap.size, 0, none⟩ = some (.int .i64 (n : Nat)) ∧ W'.cell? ⟨v111.heap.size, 1, none⟩ = some (.slice bh lh.length ch) ∧ Below (putR v111 n bh lh.length ch).heap.size (putR v111 n bh lh.length ch) W') (by kernel_rfl) (HK.out _ (Below.refl _ _).drew) (fun hSS0 => ?_)
            refine wpAnyH_take (i := 0) (oi := ⟨some 174, _, _, _, _, _⟩) (v := .agg #[.int .i64 (n : Nat), .slice b zs.length c]) rfl (by kernel_rfl) (by kernel_rfl) (by kernel_rfl) (fun _ _ _ h => h) (Or.inl ⟨by rfl, fun w hSw => by obtain ⟨q1, q2, _⟩ := hSw; go_simp⟩) (by assumption) ?_
            try simp only [Act.put, List.setIfInBounds_toArray, List.set_cons_zero, List.set_cons_succ]
            refine wpAnyH_take (i := 1) (oi := ⟨some 175, _, _, _, _, _⟩) (v := .agg #[.int .i64 (n : Nat), .slice bm lh.length cm]) rfl (by kernel_rfl) (by kernel_rfl) (by kernel_rfl) (fun _ _ _ h => h) (Or.inl ⟨by rfl, fun w hSw => by obtain ⟨_, _, _, _, q1, q2, _⟩ := hSw; go_simp⟩) (by assumption) ?_
            try simp only [Act.put, List.setIfInBounds_toArray, List.set_cons_zero, List.set_cons_succ]
            refine wpAnyH_ready (rs := [2]) (by kernel_rfl) (by simp) ?_
            refine AllReadyH.cons rfl (fun K hKK => ?_) AllReadyH.nil
            go_simp
            go_at_call 23
            refine (v_sv n b c zs bm cm lh _ (HIr.out _ (Below.refl _ _).drew) (HIm.out _ (Below.refl _ _).drew) HO.out HOm.out HVM.out).mono ?_
            rintro e wk1 ⟨rfl, hc1⟩
            have hbb1 : Below (putR v111 n bh lh.length ch).heap.size (putR v111 n bh lh.length ch) wk1 := (Below.refl _ _).drew.trans hc1
            clear hc1
            refine hKK.out _ _ (HK.out _ hbb1) (fun hSS1 => ?_)
            clear hKK K hSS0
            try simp only [Act.put, List.setIfInBounds_toArray, List.set_cons_zero, List.set_cons_succ]
            refine wpAnyH_take (i := 3) (oi := ⟨some 177, _, _, _, _, _⟩) (v := .bool true) rfl (by kernel_rfl) (by kernel_rfl) (by kernel_rfl) (fun _ _ _ h => h) (Or.inl ⟨by rfl, fun w hSw => by go_simp⟩) (by assumption) ?_
            try simp only [Act.put, List.setIfInBounds_toArray, List.set_cons_zero, List.set_cons_succ]
            refine wpAnyH_take (i := 4) (oi := ⟨some 178, _, _, _, _, _⟩) (v := .int .i64 n) rfl (by kernel_rfl) (by kernel_rfl) (by kernel_rfl) (fun _ _ _ h => h) (Or.inl ⟨by rfl, fun w hSw => by go_simp⟩) (by assumption) ?_
            try simp only [Act.put, List.setIfInBounds_toArray, List.set_cons_zero, List.set_cons_succ]
            refine wpAnyH_take (i := 5) (oi := ⟨some 179, _, _, _, _, _⟩) (v := .bool false) rfl (by kernel_rfl) (by kernel_rfl) (by kernel_rfl) (fun _ _ _ h => h) (Or.inl ⟨by rfl, fun w hSw => by have h9 := HONE.out; first | (go_simp; done) | (go_simp; omega)⟩) (by assumption) ?_
            try simp only [Act.put, List.setIfInBounds_toArray, List.set_cons_zero, List.set_cons_succ]
            refine wpAnyH_take (i := 6) (oi := ⟨some 180, _, _, _, _, _⟩) (v := .bool false) rfl (by kernel_rfl) (by kernel_rfl) (by kernel_rfl) (fun _ _ _ h => h) (Or.inl ⟨by rfl, fun w hSw => by go_simp⟩) (by assumption) ?_
            try simp only [Act.put, List.setIfInBounds_toArray, List.set_cons_zero, List.set_cons_succ]
            refine wpAnyH_take (i := 7) (oi := ⟨some 181, _, _, _, _, _⟩) (v := .bool true) rfl (by kernel_rfl) (by kernel_rfl) (by kernel_rfl) (fun _ _ _ h => h) (Or.inl ⟨by rfl, fun w hSw => by go_simp⟩) (by assumption) ?_
            try simp only [Act.put, List.setIfInBounds_toArray, List.set_cons_zero, List.set_cons_succ]
            refine wpAnyH_take (i := 8) (oi := ⟨some 182, _, _, _, _, _⟩) (v := .bool true) rfl (by kernel_rfl) (by kernel_rfl) (by kernel_rfl) (fun _ _ _ h => h) (Or.inl ⟨by rfl, fun w hSw => by go_simp⟩) (by assumption) ?_
            try simp only [Act.put, List.setIfInBounds_toArray, List.set_cons_zero, List.set_cons_succ]
            refine wpAnyH_take (i := 9) (oi := ⟨some 183, _, _, _, _, _⟩) (v := .agg #[.int .i64 (n : Nat), .slice bh lh.length ch]) rfl (by kernel_rfl) (by kernel_rfl) (by kernel_rfl) (fun _ _ _ h => h) (Or.inl ⟨by rfl, fun w hSw => by obtain ⟨_, _, _, _, _, _, q1, q2, _⟩ := hSw; go_simp⟩) (by assumption) ?_
            try simp only [Act.put, List.setIfInBounds_toArray, List.set_cons_zero, List.set_cons_succ]
            refine wpAnyH_take (i := 10) (oi := ⟨some 184, _, _, _, _, _⟩) (v := .agg #[.int .i64 (n : Nat), .slice bm lh.length cm]) rfl (by kernel_rfl) (by kernel_rfl) (by kernel_rfl) (fun _ _ _ h => h) (Or.inl ⟨by rfl, fun w hSw => by obtain ⟨_, _, _, _, q1, q2, _⟩ := hSw; go_simp⟩) (by assumption) ?_
            try simp only [Act.put, List.setIfInBounds_toArray, List.set_cons_zero, List.set_cons_succ]
            refine wpAnyH_ready (rs := [11]) (by kernel_rfl) (by simp) ?_
            refine AllReadyH.cons rfl (fun K hKK => ?_) AllReadyH.nil
            go_simp
            go_at_call 27
            refine (rhythms_law n bh bm ch cm lh _ (HIh.out _ hbb1) (HIm.out _ hbb1) (by have := ok_len HOm.out; omega)).mono ?_
            rintro e wk2 ⟨rfl, hc2⟩
            have hbb2 : Below (putR v111 n bh lh.length ch).heap.size (putR v111 n bh lh.length ch) wk2 := hbb1.trans (hc2.mono hbb1.size)
            clear hc2
            refine hKK.out _ _ (HK.out _ hbb2) (fun hSS2 => ?_)
            clear hKK K hbb1 hSS1
            try simp only [Act.put, List.setIfInBounds_toArray, List.set_cons_zero, List.set_cons_succ]
            refine wpAnyH_take (i := 12) (oi := ⟨some 186, _, _, _, _, _⟩) (v := .bool true) rfl (by kernel_rfl) (by kernel_rfl) (by kernel_rfl) (fun _ _ _ h => h) (Or.inl ⟨by rfl, fun w hSw => by go_simp⟩) (by assumption) ?_
            try simp only [Act.put, List.setIfInBounds_toArray, List.set_cons_zero, List.set_cons_succ]
            refine wpAnyH_take (i := 13) (oi := ⟨some 187, _, _, _, _, _⟩) (v := .bool true) rfl (by kernel_rfl) (by kernel_rfl) (by kernel_rfl) (fun _ _ _ h => h) (Or.inl ⟨by rfl, fun w hSw => by go_simp⟩) (by assumption) ?_
            try simp only [Act.put, List.setIfInBounds_toArray, List.set_cons_zero, List.set_cons_succ]
            refine wpAnyH_take (i := 14) (oi := ⟨some 188, _, _, _, _, _⟩) (v := .bool true) rfl (by kernel_rfl) (by kernel_rfl) (by kernel_rfl) (fun _ _ _ h => h) (Or.inl ⟨by rfl, fun w hSw => by go_simp⟩) (by assumption) ?_
            try simp only [Act.put, List.setIfInBounds_toArray, List.set_cons_zero, List.set_cons_succ]
            refine wpAnyH_take (i := 15) (oi := ⟨some 189, _, _, _, _, _⟩) (v := .bool true) rfl (by kernel_rfl) (by kernel_rfl) (by kernel_rfl) (fun _ _ _ h => h) (Or.inl ⟨by rfl, fun w hSw => by go_simp⟩) (by assumption) ?_
            try simp only [Act.put, List.setIfInBounds_toArray, List.set_cons_zero, List.set_cons_succ]
            refine wpAnyH_take (i := 16) (oi := ⟨some 190, _, _, _, _, _⟩) (v := .int .i64 kI) rfl (by kernel_rfl) (by kernel_rfl) (by kernel_rfl) (fun _ _ _ h => h) (Or.inl ⟨by rfl, fun w hSw => by go_simp⟩) (by assumption) ?_
            try simp only [Act.put, List.setIfInBounds_toArray, List.set_cons_zero, List.set_cons_succ]
            refine wpAnyH_take (i := 17) (oi := ⟨some 191, _, _, _, _, _⟩) (v := .int .i64 (2 * kI)) rfl (by kernel_rfl) (by kernel_rfl) (by kernel_rfl) (fun _ _ _ h => h) (Or.inl ⟨by rfl, fun w hSw => by first | (go_simp; done) | (go_simp; exact (IntWalk.i64_in _ ⟨by omega, by omega⟩).trans (by omega))⟩) (by assumption) ?_
            try simp only [Act.put, List.setIfInBounds_toArray, List.set_cons_zero, List.set_cons_succ]
            refine wpAnyH_take (i := 18) (oi := ⟨some 192, _, _, _, _, _⟩) (v := .int .i64 n) rfl (by kernel_rfl) (by kernel_rfl) (by kernel_rfl) (fun _ _ _ h => h) (Or.inl ⟨by rfl, fun w hSw => by go_simp⟩) (by assumption) ?_
            try simp only [Act.put, List.setIfInBounds_toArray, List.set_cons_zero, List.set_cons_succ]
            refine wpAnyH_take (i := 19) (oi := ⟨some 193, _, _, _, _, _⟩) (v := .bool true) rfl (by kernel_rfl) (by kernel_rfl) (by kernel_rfl) (fun _ _ _ h => h) (Or.inl ⟨by rfl, fun w hSw => by have h9 := HHALF.out; first | (go_simp; done) | (go_simp; omega)⟩) (by assumption) ?_
            try simp only [Act.put, List.setIfInBounds_toArray, List.set_cons_zero, List.set_cons_succ]
            refine wpAnyH_take (i := 20) (oi := ⟨some 194, _, _, _, _, _⟩) (v := .bool true) rfl (by kernel_rfl) (by kernel_rfl) (by kernel_rfl) (fun _ _ _ h => h) (Or.inl ⟨by rfl, fun w hSw => by go_simp⟩) (by assumption) ?_
            try simp only [Act.put, List.setIfInBounds_toArray, List.set_cons_zero, List.set_cons_succ]
            refine wpAnyH_take (i := 21) (oi := ⟨some 195, _, _, _, _, _⟩) (v := undef) rfl (by kernel_rfl) (by kernel_rfl) (by kernel_rfl) (fun _ _ _ h => h) (Or.inr ⟨by rfl, rfl⟩) (by assumption) ?_
            try simp only [Act.put, List.setIfInBounds_toArray, List.set_cons_zero, List.set_cons_succ]
            refine wpAnyH_take (i := 22) (oi := ⟨some 196, _, _, _, _, _⟩) (v := undef) rfl (by kernel_rfl) (by kernel_rfl) (by kernel_rfl) (fun _ _ _ h => h) (Or.inr ⟨by rfl, rfl⟩) (by assumption) ?_
            try simp only [Act.put, List.setIfInBounds_toArray, List.set_cons_zero, List.set_cons_succ]
            refine wpAnyH_take (i := 23) (oi := ⟨some 197, _, _, _, _, _⟩) (v := undef) rfl (by kernel_rfl) (by kernel_rfl) (by kernel_rfl) (fun _ _ _ h => h) (Or.inr ⟨by rfl, rfl⟩) (by assumption) ?_
            try simp only [Act.put, List.setIfInBounds_toArray, List.set_cons_zero, List.set_cons_succ]
            refine wpAnyH_take (i := 24) (oi := ⟨some 198, _, _, _, _, _⟩) (v := .bool true) rfl (by kernel_rfl) (by kernel_rfl) (by kernel_rfl) (fun _ _ _ h => h) (Or.inl ⟨by rfl, fun w hSw => by go_simp⟩) (by assumption) ?_
            try simp only [Act.put, List.setIfInBounds_toArray, List.set_cons_zero, List.set_cons_succ]
            refine wpAnyH_take (i := 25) (oi := ⟨some 199, _, _, _, _, _⟩) (v := .bool true) rfl (by kernel_rfl) (by kernel_rfl) (by kernel_rfl) (fun _ _ _ h => h) (Or.inl ⟨by rfl, fun w hSw => by go_simp⟩) (by assumption) ?_
            try simp only [Act.put, List.setIfInBounds_toArray, List.set_cons_zero, List.set_cons_succ]
            refine wpAnyH_take (i := 26) (oi := ⟨some 200, _, _, _, _, _⟩) (v := .bool true) rfl (by kernel_rfl) (by kernel_rfl) (by kernel_rfl) (fun _ _ _ h => h) (Or.inl ⟨by rfl, fun w hSw => by go_simp⟩) (by assumption) ?_
            try simp only [Act.put, List.setIfInBounds_toArray, List.set_cons_zero, List.set_cons_succ]
            refine wpAnyH_take (i := 27) (oi := ⟨some 201, _, _, _, _, _⟩) (v := .agg #[.int .i64 (n : Nat), .slice b zs.length c]) rfl (by kernel_rfl) (by kernel_rfl) (by kernel_rfl) (fun _ _ _ h => h) (Or.inl ⟨by rfl, fun w hSw => by obtain ⟨q1, q2, _⟩ := hSw; go_simp⟩) (by assumption) ?_
            try simp only [Act.put, List.setIfInBounds_toArray, List.set_cons_zero, List.set_cons_succ]
            refine wpAnyH_take (i := 29) (oi := ⟨some 203, _, _, _, _, _⟩) (v := .agg #[.int .i64 (n : Nat), .slice bo lo.length co]) rfl (by kernel_rfl) (by kernel_rfl) (by kernel_rfl) (fun _ _ _ h => h) (Or.inl ⟨by rfl, fun w hSw => by obtain ⟨_, _, q1, q2, _⟩ := hSw; go_simp⟩) (by assumption) ?_
            try simp only [Act.put, List.setIfInBounds_toArray, List.set_cons_zero, List.set_cons_succ]
            refine wpAnyH_ready (rs := [28]) (by kernel_rfl) (by simp) ?_
            refine AllReadyH.cons rfl (fun K hKK => ?_) AllReadyH.nil
            go_simp
            go_at_call 28
            refine (v_flat n b c zs q _ (HIr.out _ hbb2) HO.out HQ.out).mono ?_
            rintro e wk3 ⟨rfl, hc3⟩
            have hbb3 : Below (putR v111 n bh lh.length ch).heap.size (putR v111 n bh lh.length ch) wk3 := hbb2.trans (hc3.mono hbb2.size)
            clear hc3
            refine hKK.out _ _ (HK.out _ hbb3) (fun hSS3 => ?_)
            clear hKK K hbb2 hSS2
            try simp only [Act.put, List.setIfInBounds_toArray, List.set_cons_zero, List.set_cons_succ]
            refine wpAnyH_ready (rs := [30]) (by kernel_rfl) (by simp) ?_
            refine AllReadyH.cons rfl (fun K hKK => ?_) AllReadyH.nil
            go_simp
            go_at_call 28
            refine (v_flat n bo co lo q _ (HIo.out _ hbb3) HOo.out HQO.out).mono ?_
            rintro e wk4 ⟨rfl, hc4⟩
            have hbb4 : Below (putR v111 n bh lh.length ch).heap.size (putR v111 n bh lh.length ch) wk4 := hbb3.trans (hc4.mono hbb3.size)
            clear hc4
            refine hKK.out _ _ (HK.out _ hbb4) (fun hSS4 => ?_)
            clear hKK K hbb3 hSS3
            try simp only [Act.put, List.setIfInBounds_toArray, List.set_cons_zero, List.set_cons_succ]
            refine wpAnyH_take (i := 31) (oi := ⟨some 205, _, _, _, _, _⟩) (v := .bool true) rfl (by kernel_rfl) (by kernel_rfl) (by kernel_rfl) (fun _ _ _ h => h) (Or.inl ⟨by rfl, fun w hSw => by first | (go_simp; done) | (go_simp; cases q <;> rfl)⟩) (by assumption) ?_
            try simp only [Act.put, List.setIfInBounds_toArray, List.set_cons_zero, List.set_cons_succ]
            refine wpAnyH_take (i := 32) (oi := ⟨some 206, _, _, _, _, _⟩) (v := .bool true) rfl (by kernel_rfl) (by kernel_rfl) (by kernel_rfl) (fun _ _ _ h => h) (Or.inl ⟨by rfl, fun w hSw => by go_simp⟩) (by assumption) ?_
            try simp only [Act.put, List.setIfInBounds_toArray, List.set_cons_zero, List.set_cons_succ]
            refine wpAnyH_take (i := 33) (oi := ⟨some 2, _, _, _, _, _⟩) (v := .bool true) rfl (by kernel_rfl) (by kernel_rfl) (by kernel_rfl) (fun _ _ _ h => h) (Or.inl ⟨by rfl, fun w hSw => by go_simp⟩) (by assumption) ?_
            try simp only [Act.put, List.setIfInBounds_toArray, List.set_cons_zero, List.set_cons_succ]
            refine wpAnyH_done (by kernel_rfl) ?_ _
            clear HK
            go_wp2
            go_ret
            exact ⟨rfl, HB112x.out.trans (hbb4.mono HB112x.out.size)⟩
  · clear hb
    go_enter Try.func3, Try.ntmps3
    go_wp2
    go_ret
    exact ⟨rfl, Below.refl _ _⟩
end Go.Proofs.Ytcppmcacjjjjeaa.Rhy
