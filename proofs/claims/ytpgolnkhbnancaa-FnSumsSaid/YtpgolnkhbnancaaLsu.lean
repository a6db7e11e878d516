/-
  Helpers of the claims beside this text: the law on sums.
-/
import Derived.Test.YtpgolnkhbnancaaLsw
namespace Go.Proofs.Ytpgolnkhbnancaa.Rhy
open Go.RowKit
open Go.Proofs.Ytpgolnkhbnancaa.Cur
set_option linter.unusedVariables false
set_option linter.unusedSimpArgs false

theorem hasB_off {zs : List Int} {x : Int} (h : ¬ x ∈ zs) : hasB zs x = false := by
  cases hq : hasB zs x
  · rfl
  · exact absurd (hasB_mem.1 hq) h
/-- No difference below j is common. -/
def apZ (n : Nat) (xs ys : List Int) (j : Nat) : Bool := (List.range j).all fun i => i == 0 || (difAt n xs ((i : Nat) : Int) == 0 || difAt n ys ((i : Nat) : Int) == 0)
theorem apZ_one (n : Nat) (xs ys : List Int) : apZ n xs ys 1 = true := by simp [apZ, List.range_succ]
theorem apZ_next (n : Nat) (xs ys : List Int) (j : Nat) (hj : 1 ≤ j) : apZ n xs ys (j + 1) = (apZ n xs ys j && (difAt n xs (j : Int) == 0 || difAt n ys (j : Int) == 0)) := by
  unfold apZ
  rw [List.range_succ, List.all_append]
  have : (j == 0) = false := by simp; omega
  simp [this]
theorem apZ_iff (n : Nat) (xs ys : List Int) : apZ n xs ys n = true ↔ ∀ i : Nat, 1 ≤ i → i < n → difAt n xs (i : Int) = 0 ∨ difAt n ys (i : Int) = 0 := by
  unfold apZ
  rw [List.all_eq_true]
  constructor
  · intro h i h1 h2
    have := h i (List.mem_range.2 h2)
    simp at this
    omega
  · intro h i hi
    have := List.mem_range.1 hi
    by_cases e : i = 0
    · simp [e]
    · have := h i (by omega) (by omega)
      simp
      omega

set_option maxHeartbeats 8000000 in
set_option maxRecDepth 100000 in
theorem sums_walk (a : Option Addr) (len cap : Nat) (w : World) (hb : len ≤ 1048576 → BytesAt w.heap.size w a len) :
    Calls Try.prog 3 #[.slice a len cap] w fun e w' => e = .returned (.bool true) ∧ Below w.heap.size w w' := by
  by_cases hlen : len ≤ 1048576
  · skip
    have HBY := Lib.hid (hb hlen)
    clear hb
    go_enter Try.func3, Try.ntmps3
    go_wp2_with fail
    refine (num_any a len cap 0 w HBY.out (by omega)).mono ?_
    rintro e v1 ⟨q0, rfl, hq0, hq0', hb⟩
    have HB1x := Lib.hid (show Below w.heap.size w v1 from hb)
    clear hb
    obtain ⟨n, hn, hn1, hn14⟩ : ∃ n : Nat, 1 + q0 % 14 = (n : Int) ∧ 1 ≤ n ∧ n ≤ 14 := ⟨(1 + q0 % 14).toNat, by omega, by omega, by omega⟩
    have HN := Lib.hid hn
    clear hn
    go_wp2_with fail
    rw [HN.out]
    refine (mof_any a len cap 2 n v1 (bytes_up HBY.out HB1x.out HB1x.out.size) (by omega) (by omega) (by omega)).mono ?_
    rintro e v2 ⟨ba, ca, xs, rfl, hox, hown, hb⟩
    have HB2x := Lib.hid (show Below w.heap.size w v2 from HB1x.out.trans (hb.mono HB1x.out.size))
    clear HB1x
    clear hb
    clear hq0 hq0' HN
    have HOA := Lib.hid hox
    clear hox
    have HXn := Lib.hid (rhAt_put (n := n) hown (ok_allInt HOA.out))
    clear hown
    have hb := putR_below v2 n ba xs.length ca
    have HB3x := Lib.hid (show Below w.heap.size w (putR v2 n ba xs.length ca) from HB2x.out.trans (hb.mono HB2x.out.size))
    clear HB2x
    clear hb
    have HXa3 : Hid (RhAt (putR v2 n ba xs.length ca) v2.heap.size n ba ca xs) := HXn
    clear HXn
    go_upto_region 5 with fail
    obtain ⟨W3, hW⟩ : ∃ W9, putR v2 n ba xs.length ca = W9 := ⟨_, rfl⟩
    change Code.wp _ _ _ _ (putR v2 n ba xs.length ca)
    rw [hW]
    rw [hW] at HXa3 HB3x
    obtain ⟨ab, hxb⟩ : ∃ b, v2.heap.size = b := ⟨_, rfl⟩
    rw [hxb] at HXa3 ⊢
    clear hW hxb
    go_wp2_with fail
    refine (mof_any a len cap 30 n W3 (bytes_up HBY.out HB3x.out HB3x.out.size) (by omega) (by omega) (by omega)).mono ?_
    rintro e v4 ⟨bb', cb, ys, rfl, hox, hown, hb⟩
    have HXa4 := Lib.hid (HXa3.out.keep hb)
    clear HXa3
    have HB4x := Lib.hid (show Below w.heap.size w v4 from HB3x.out.trans (hb.mono HB3x.out.size))
    clear HB3x
    clear hb
    have HOB := Lib.hid hox
    clear hox
    have HXn := Lib.hid (rhAt_put (n := n) hown (ok_allInt HOB.out))
    clear hown
    have hb := putR_below v4 n bb' ys.length cb
    have HXa5 := Lib.hid (HXa4.out.keep hb)
    clear HXa4
    have HB5x := Lib.hid (show Below w.heap.size w (putR v4 n bb' ys.length cb) from HB4x.out.trans (hb.mono HB4x.out.size))
    clear HB4x
    clear hb
    have HXb5 : Hid (RhAt (putR v4 n bb' ys.length cb) v4.heap.size n bb' cb ys) := HXn
    clear HXn
    go_upto_region 6 with fail
    obtain ⟨W5, hW⟩ : ∃ W9, putR v4 n bb' ys.length cb = W9 := ⟨_, rfl⟩
    change Code.wp _ _ _ _ (putR v4 n bb' ys.length cb)
    rw [hW]
    rw [hW] at HXa5 HXb5 HB5x
    obtain ⟨bb, hxb⟩ : ∃ b, v4.heap.size = b := ⟨_, rfl⟩
    rw [hxb] at HXb5 ⊢
    clear hW hxb
    obtain ⟨L, hL⟩ : ∃ L, sumL (n : Int) xs ys = L := ⟨_, rfl⟩
    obtain ⟨C, hC⟩ : ∃ C, cntZ n L = C := ⟨_, rfl⟩
    obtain ⟨Z, hZ⟩ : ∃ Z, suZ (n : Int) xs ys = Z := ⟨_, rfl⟩
    obtain ⟨G, hG⟩ : ∃ G, gapZ (n : Int) xs ys = G := ⟨_, rfl⟩
    obtain ⟨p, hp⟩ : ∃ p : Nat, xs.length * ys.length = p := ⟨_, rfl⟩
    have hp576 : p ≤ 576 := by rw [← hp]; exact Nat.mul_le_mul (ok_len HOA.out) (ok_len HOB.out)
    have HMUL : Hid ((xs.length : Int) * (ys.length : Int) = (p : Int)) := Lib.hid (by rw [← hp]; simp)
    have HZO : Hid (Ok n Z) := Lib.hid (by rw [← hZ]; exact su_ok ⟨by omega, by omega⟩ xs ys)
    have HZ2 : Hid (suZ (n : Int) ys xs = Z) := Lib.hid (by rw [su_comm]; exact hZ)
    have HGZ : Hid (G.length + Z.length = n) := Lib.hid (by rw [← hG, ← hZ, gap_len]; rfl)
    have HSUM : Hid (C.sum = (p : Int)) := Lib.hid (by rw [← hC, ← hL, tot_sum (by omega), hp])
    have HCB : Hid (∀ x ∈ C, 0 ≤ x ∧ x ≤ 1000) := Lib.hid (fun x hx => by
      rw [← hC] at hx
      unfold cntZ at hx
      rw [List.mem_map] at hx
      obtain ⟨i, _, rfl⟩ := hx
      have h1 := List.count_le_length (a := (i : Int)) (l := L)
      have h2 := sum_few HOA.out HOB.out
      rw [hL] at h2
      omega)
    have HCA : Hid (∀ i : Nat, i < n → C[i]? = some ((L.count (i : Int) : Nat) : Int)) := Lib.hid (fun i hi => by rw [← hC]; exact cnt_at hi)
    have HCG : Hid (∀ i : Nat, i < n → (L.count (i : Int) = 0 ↔ (i : Int) ∈ G)) := Lib.hid (fun i hi => by rw [← hL, ← hG]; exact cnt_gap hi)
    have HCZ : Hid (∀ i : Nat, i < n → (0 < L.count (i : Int) ↔ (i : Int) ∈ Z)) := Lib.hid (fun i hi => by rw [← hL, ← hZ]; exact cnt_su hi)
    have HCL : Hid (∀ i : Int, L.count i ≤ 576) := Lib.hid (fun i => Nat.le_trans List.count_le_length (by rw [← hL]; exact sum_few HOA.out HOB.out))
    have HDQ : Hid (dirB n xs n ys = true ↔ Z.length = p) := Lib.hid (by
      have h := dir_len (n := (n : Int)) (xs := xs) (ys := ys) (by omega)
      rw [hZ, hp] at h
      rw [← h]
      refine ⟨fun q => ?_, fun q => cB_yes ⟨⟨HOA.out, HOB.out, rfl⟩, q⟩⟩
      by_cases hc : dirC n xs ys
      · exact hc
      · unfold dirB at q; rw [cB_no (fun z => hc z.2)] at q; cases q)
    have HAP : Hid (dirB n xs n ys = true ↔ ∀ i : Nat, 1 ≤ i → i < n → difAt n xs (i : Int) = 0 ∨ difAt n ys (i : Int) = 0) := Lib.hid (by
      have h := dir_apart HOA.out HOB.out
      constructor
      · intro q i h1 h2
        have hc : dirC n xs ys := by
          by_cases hc : dirC n xs ys
          · exact hc
          · unfold dirB at q; rw [cB_no (fun z => hc z.2)] at q; cases q
        exact h.1 hc (i : Int) (by omega) (by omega)
      · intro q
        refine cB_yes ⟨⟨HOA.out, HOB.out, rfl⟩, h.2 fun i h1 h2 => ?_⟩
        have := q i.toNat (by omega) (by omega)
        rwa [show ((i.toNat : Nat) : Int) = i by omega] at this)
    have HTQ : Hid (dirB n xs n ys = true → tilB n xs n ys = decide (G.length = 0)) := Lib.hid (fun q => by
      have h := gapZ_nil q
      have e : gapB n xs n ys = G := by unfold gapB; rw [cZ_yes ⟨HOA.out, HOB.out, rfl⟩, hG]
      rwa [e] at h)
    have HROT : Hid (∀ k : Int, suZ (n : Int) (rotZ n xs 1 k) ys = rotZ n Z 1 k) := Lib.hid (fun k => by rw [su_rot HOA.out, hZ])
    have HLC : Hid (cntZ n (sumL (n : Int) xs ys) = C) := Lib.hid (by rw [hL, hC])
    have HLZ := Lib.hid hZ
    have HLG := Lib.hid hG
    clear hL hC hZ hG hp
    obtain ⟨p0, p1, p2, p3⟩ := HXa5.out.1.facts
    have ltp := HXa5.out.1.lt
    obtain ⟨r0, r1, r2, r3⟩ := HXb5.out.1.facts
    have ltr := HXb5.out.1.lt
    go_wp2_with fail
    refine (v_sumc n ba ca xs bb' cb ys C _ HXa5.out.2 HXb5.out.2 HOA.out HOB.out HLC.out).mono ?_
    rintro e v6 ⟨vc, cc, rfl, hic, hb⟩
    clear p0 p1 p2 p3 ltp
    clear r0 r1 r2 r3 ltr
    have HXa6 := Lib.hid (HXa5.out.keep hb)
    clear HXa5
    have HXb6 := Lib.hid (HXb5.out.keep hb)
    clear HXb5
    have HB6x := Lib.hid (show Below w.heap.size w v6 from HB5x.out.trans (hb.mono HB5x.out.size))
    clear HB5x
    clear hb
    have HIc := Lib.hid hic
    clear hic
    obtain ⟨p0, p1, p2, p3⟩ := HXa6.out.1.facts
    have ltp := HXa6.out.1.lt
    obtain ⟨r0, r1, r2, r3⟩ := HXb6.out.1.facts
    have ltr := HXb6.out.1.lt
    go_wp2_with fail
    refine (v_sumr n ba ca xs bb' cb ys Z _ HXa6.out.2 HXb6.out.2 HOA.out HOB.out HLZ.out).mono ?_
    rintro e v7 ⟨bs, cs, rfl, hown, hb⟩
    clear p0 p1 p2 p3 ltp
    clear r0 r1 r2 r3 ltr
    have HXa7 := Lib.hid (HXa6.out.keep hb)
    clear HXa6
    have HXb7 := Lib.hid (HXb6.out.keep hb)
    clear HXb6
    have HIc7 := Lib.hid (HIc.out.below hb)
    clear HIc
    have HB7x := Lib.hid (show Below w.heap.size w v7 from HB6x.out.trans (hb.mono HB6x.out.size))
    clear HB6x
    clear hb
    have HXn := Lib.hid (rhAt_put (n := n) hown (ok_allInt HZO.out))
    clear hown
    have hb := putR_below v7 n bs Z.length cs
    have HXa8 := Lib.hid (HXa7.out.keep hb)
    clear HXa7
    have HXb8 := Lib.hid (HXb7.out.keep hb)
    clear HXb7
    have HIc8 := Lib.hid (HIc7.out.below hb)
    clear HIc7
    have HB8x := Lib.hid (show Below w.heap.size w (putR v7 n bs Z.length cs) from HB7x.out.trans (hb.mono HB7x.out.size))
    clear HB7x
    clear hb
    have HXs8 : Hid (RhAt (putR v7 n bs Z.length cs) v7.heap.size n bs cs Z) := HXn
    clear HXn
    go_upto_region 8 with fail
    obtain ⟨W8, hW⟩ : ∃ W9, putR v7 n bs Z.length cs = W9 := ⟨_, rfl⟩
    change Code.wp _ _ _ _ (putR v7 n bs Z.length cs)
    rw [hW]
    rw [hW] at HXa8 HXb8 HXs8 HIc8 HB8x
    obtain ⟨sb, hxb⟩ : ∃ b, v7.heap.size = b := ⟨_, rfl⟩
    rw [hxb] at HXs8 ⊢
    clear hW hxb
    obtain ⟨p0, p1, p2, p3⟩ := HXa8.out.1.facts
    have ltp := HXa8.out.1.lt
    obtain ⟨r0, r1, r2, r3⟩ := HXb8.out.1.facts
    have ltr := HXb8.out.1.lt
    go_wp2_with fail
    refine (v_sumr n bb' cb ys ba ca xs Z _ HXb8.out.2 HXa8.out.2 HOB.out HOA.out HZ2.out).mono ?_
    rintro e v9 ⟨bt, ct, rfl, hown, hb⟩
    clear p0 p1 p2 p3 ltp
    clear r0 r1 r2 r3 ltr
    have HXa9 := Lib.hid (HXa8.out.keep hb)
    clear HXa8
    have HXb9 := Lib.hid (HXb8.out.keep hb)
    clear HXb8
    have HXs9 := Lib.hid (HXs8.out.keep hb)
    clear HXs8
    have HIc9 := Lib.hid (HIc8.out.below hb)
    clear HIc8
    have HB9x := Lib.hid (show Below w.heap.size w v9 from HB8x.out.trans (hb.mono HB8x.out.size))
    clear HB8x
    clear hb
    have HXn := Lib.hid (rhAt_put (n := n) hown (ok_allInt HZO.out))
    clear hown
    have hb := putR_below v9 n bt Z.length ct
    have HXa10 := Lib.hid (HXa9.out.keep hb)
    clear HXa9
    have HXb10 := Lib.hid (HXb9.out.keep hb)
    clear HXb9
    have HXs10 := Lib.hid (HXs9.out.keep hb)
    clear HXs9
    have HIc10 := Lib.hid (HIc9.out.below hb)
    clear HIc9
    have HB10x := Lib.hid (show Below w.heap.size w (putR v9 n bt Z.length ct) from HB9x.out.trans (hb.mono HB9x.out.size))
    clear HB9x
    clear hb
    have HXt10 : Hid (RhAt (putR v9 n bt Z.length ct) v9.heap.size n bt ct Z) := HXn
    clear HXn
    go_upto_region 9 with fail
    obtain ⟨W10, hW⟩ : ∃ W9, putR v9 n bt Z.length ct = W9 := ⟨_, rfl⟩
    change Code.wp _ _ _ _ (putR v9 n bt Z.length ct)
    rw [hW]
    rw [hW] at HXa10 HXb10 HXs10 HXt10 HIc10 HB10x
    obtain ⟨tb, hxb⟩ : ∃ b, v9.heap.size = b := ⟨_, rfl⟩
    rw [hxb] at HXt10 ⊢
    clear hW hxb
    obtain ⟨p0, p1, p2, p3⟩ := HXa10.out.1.facts
    have ltp := HXa10.out.1.lt
    obtain ⟨r0, r1, r2, r3⟩ := HXb10.out.1.facts
    have ltr := HXb10.out.1.lt
    go_wp2_with fail
    refine (v_gap n ba ca xs bb' cb ys G _ HXa10.out.2 HXb10.out.2 HOA.out HOB.out HLG.out).mono ?_
    rintro e v11 ⟨bg, cg, rfl, hig, hb⟩
    clear p0 p1 p2 p3 ltp
    clear r0 r1 r2 r3 ltr
    have HXa11 := Lib.hid (HXa10.out.keep hb)
    clear HXa10
    have HXb11 := Lib.hid (HXb10.out.keep hb)
    clear HXb10
    have HXs11 := Lib.hid (HXs10.out.keep hb)
    clear HXs10
    have HXt11 := Lib.hid (HXt10.out.keep hb)
    clear HXt10
    have HIc11 := Lib.hid (HIc10.out.below hb)
    clear HIc10
    have HB11x := Lib.hid (show Below w.heap.size w v11 from HB10x.out.trans (hb.mono HB10x.out.size))
    clear HB10x
    clear hb
    have HIg := Lib.hid hig
    clear hig
    go_upto_region 10 with fail
    refine wp_code (c' := rgOf Try.f3 10) (by kernel_rfl) ?_
    refine sums10 n p xs ys Z G C _ _ _ _ ba bb' bs bt vc bg ca cb cs ct cc cg w v11 (by omega) (by omega) HOA.out HOB.out HZO.out HXa11.out HXb11.out HXs11.out HXt11.out HMUL.out hp576 ⟨HIc11.out, HCB.out⟩ HSUM.out HGZ.out (by intro c x x' y hd h; simpa +zetaDelta only [Exit.then, bodyPost, hd] using h) ?_
    intro x56 x57 x58 x59 x60 x61 x62 x63 x64 x65 x66 x67 x68 x69 x70 x71 x72 x73 x74 x75 x76 x77 x78 x79 x80 x81 x82 x83 x84 x85 x86 x87 x88 x89 x90 x91 x92 x93 v12 hb
    have HXa12 := Lib.hid (HXa11.out.keep hb)
    clear HXa11
    have HXb12 := Lib.hid (HXb11.out.keep hb)
    clear HXb11
    have HXs12 := Lib.hid (HXs11.out.keep hb)
    clear HXs11
    have HXt12 := Lib.hid (HXt11.out.keep hb)
    clear HXt11
    have HIc12 := Lib.hid (HIc11.out.below hb)
    clear HIc11
    have HIg12 := Lib.hid (HIg.out.below hb)
    clear HIg
    have HB12x := Lib.hid (show Below w.heap.size w v12 from HB11x.out.trans (hb.mono HB11x.out.size))
    clear HB11x
    clear hb
    go_wp2_with fail
    refine (num_any a len cap 60 v12 (bytes_up HBY.out HB12x.out HB12x.out.size) (by omega)).mono ?_
    rintro e v13 ⟨q1, rfl, hq1, hq1', hb⟩
    have HXa13 := Lib.hid (HXa12.out.keep hb)
    clear HXa12
    have HXb13 := Lib.hid (HXb12.out.keep hb)
    clear HXb12
    have HXs13 := Lib.hid (HXs12.out.keep hb)
    clear HXs12
    have HXt13 := Lib.hid (HXt12.out.keep hb)
    clear HXt12
    have HIc13 := Lib.hid (HIc12.out.below hb)
    clear HIc12
    have HIg13 := Lib.hid (HIg12.out.below hb)
    clear HIg12
    have HB13x := Lib.hid (show Below w.heap.size w v13 from HB12x.out.trans (hb.mono HB12x.out.size))
    clear HB12x
    clear hb
    obtain ⟨k, hk, hkn⟩ : ∃ k : Nat, q1 % (n : Int) = (k : Int) ∧ k < n := ⟨(q1 % (n : Int)).toNat, by have := em_bd q1 (n := (n : Int)) (by omega); omega, by have := em_bd q1 (n := (n : Int)) (by omega); omega⟩
    have HKK := Lib.hid hk
    have hnz : ((n : Int) == 0) = false := by simp; omega
    have htm : Int.tmod q1 (n : Int) = (k : Int) := by rw [Int.tmod_eq_emod_of_nonneg (by omega)]; exact hk
    clear hk
    obtain ⟨X, hX⟩ : ∃ X, rotZ (n : Int) xs 1 (k : Int) = X := ⟨_, rfl⟩
    obtain ⟨Y, hY⟩ : ∃ Y, rotZ (n : Int) Z 1 (k : Int) = Y := ⟨_, rfl⟩
    have HXO : Hid (Ok n X) := Lib.hid (by rw [← hX]; exact rot_ok HOA.out.1 _ _)
    have HYO : Hid (Ok n Y) := Lib.hid (by rw [← hY]; exact rot_ok HZO.out.1 _ _)
    have HXY : Hid (suZ (n : Int) X ys = Y) := Lib.hid (by rw [← hX, HROT.out, hY])
    have HLX := Lib.hid hX
    have HLY := Lib.hid hY
    clear hX hY
    obtain ⟨p0, p1, p2, p3⟩ := HXa13.out.1.facts
    have ltp := HXa13.out.1.lt
    go_wp2_with fail
    refine (r_rot n ba ca xs X (k : Int) _ HXa13.out.2 HOA.out (by omega) (by omega) HLX.out).mono ?_
    rintro e v14 ⟨bx, cx, rfl, hown, hb⟩
    clear p0 p1 p2 p3 ltp
    have HXa14 := Lib.hid (HXa13.out.keep hb)
    clear HXa13
    have HXb14 := Lib.hid (HXb13.out.keep hb)
    clear HXb13
    have HXs14 := Lib.hid (HXs13.out.keep hb)
    clear HXs13
    have HXt14 := Lib.hid (HXt13.out.keep hb)
    clear HXt13
    have HIc14 := Lib.hid (HIc13.out.below hb)
    clear HIc13
    have HIg14 := Lib.hid (HIg13.out.below hb)
    clear HIg13
    have HB14x := Lib.hid (show Below w.heap.size w v14 from HB13x.out.trans (hb.mono HB13x.out.size))
    clear HB13x
    clear hb
    clear hq1 hq1' htm HKK
    have HXn := Lib.hid (rhAt_put (n := n) hown (ok_allInt HXO.out))
    clear hown
    have hb := putR_below v14 n bx X.length cx
    have HXa15 := Lib.hid (HXa14.out.keep hb)
    clear HXa14
    have HXb15 := Lib.hid (HXb14.out.keep hb)
    clear HXb14
    have HXs15 := Lib.hid (HXs14.out.keep hb)
    clear HXs14
    have HXt15 := Lib.hid (HXt14.out.keep hb)
    clear HXt14
    have HIc15 := Lib.hid (HIc14.out.below hb)
    clear HIc14
    have HIg15 := Lib.hid (HIg14.out.below hb)
    clear HIg14
    have HB15x := Lib.hid (show Below w.heap.size w (putR v14 n bx X.length cx) from HB14x.out.trans (hb.mono HB14x.out.size))
    clear HB14x
    clear hb
    have HXx15 : Hid (RhAt (putR v14 n bx X.length cx) v14.heap.size n bx cx X) := HXn
    clear HXn
    go_upto_region 14 with fail
    obtain ⟨W15, hW⟩ : ∃ W9, putR v14 n bx X.length cx = W9 := ⟨_, rfl⟩
    change Code.wp _ _ _ _ (putR v14 n bx X.length cx)
    rw [hW]
    rw [hW] at HXa15 HXb15 HXs15 HXt15 HXx15 HIc15 HIg15 HB15x
    obtain ⟨xb, hxb⟩ : ∃ b, v14.heap.size = b := ⟨_, rfl⟩
    rw [hxb] at HXx15 ⊢
    clear hW hxb
    obtain ⟨p0, p1, p2, p3⟩ := HXx15.out.1.facts
    have ltp := HXx15.out.1.lt
    obtain ⟨r0, r1, r2, r3⟩ := HXb15.out.1.facts
    have ltr := HXb15.out.1.lt
    go_wp2_with fail
    refine (v_sumr n bx cx X bb' cb ys Y _ HXx15.out.2 HXb15.out.2 HXO.out HOB.out HXY.out).mono ?_
    rintro e v16 ⟨by', cy, rfl, hown, hb⟩
    clear p0 p1 p2 p3 ltp
    clear r0 r1 r2 r3 ltr
    have HXa16 := Lib.hid (HXa15.out.keep hb)
    clear HXa15
    have HXb16 := Lib.hid (HXb15.out.keep hb)
    clear HXb15
    have HXs16 := Lib.hid (HXs15.out.keep hb)
    clear HXs15
    have HXt16 := Lib.hid (HXt15.out.keep hb)
    clear HXt15
    have HXx16 := Lib.hid (HXx15.out.keep hb)
    clear HXx15
    have HIc16 := Lib.hid (HIc15.out.below hb)
    clear HIc15
    have HIg16 := Lib.hid (HIg15.out.below hb)
    clear HIg15
    have HB16x := Lib.hid (show Below w.heap.size w v16 from HB15x.out.trans (hb.mono HB15x.out.size))
    clear HB15x
    clear hb
    have HXn := Lib.hid (rhAt_put (n := n) hown (ok_allInt HYO.out))
    clear hown
    have hb := putR_below v16 n by' Y.length cy
    have HXa17 := Lib.hid (HXa16.out.keep hb)
    clear HXa16
    have HXb17 := Lib.hid (HXb16.out.keep hb)
    clear HXb16
    have HXs17 := Lib.hid (HXs16.out.keep hb)
    clear HXs16
    have HXt17 := Lib.hid (HXt16.out.keep hb)
    clear HXt16
    have HXx17 := Lib.hid (HXx16.out.keep hb)
    clear HXx16
    have HIc17 := Lib.hid (HIc16.out.below hb)
    clear HIc16
    have HIg17 := Lib.hid (HIg16.out.below hb)
    clear HIg16
    have HB17x := Lib.hid (show Below w.heap.size w (putR v16 n by' Y.length cy) from HB16x.out.trans (hb.mono HB16x.out.size))
    clear HB16x
    clear hb
    have HXy17 : Hid (RhAt (putR v16 n by' Y.length cy) v16.heap.size n by' cy Y) := HXn
    clear HXn
    go_upto_region 15 with fail
    obtain ⟨W17, hW⟩ : ∃ W9, putR v16 n by' Y.length cy = W9 := ⟨_, rfl⟩
    change Code.wp _ _ _ _ (putR v16 n by' Y.length cy)
    rw [hW]
    rw [hW] at HXa17 HXb17 HXs17 HXt17 HXx17 HXy17 HIc17 HIg17 HB17x
    obtain ⟨yb, hxb⟩ : ∃ b, v16.heap.size = b := ⟨_, rfl⟩
    rw [hxb] at HXy17 ⊢
    clear hW hxb
    obtain ⟨p0, p1, p2, p3⟩ := HXs17.out.1.facts
    have ltp := HXs17.out.1.lt
    go_wp2_with fail
    refine (r_rot n bs cs Z Y (k : Int) _ HXs17.out.2 HZO.out (by omega) (by omega) HLY.out).mono ?_
    rintro e v18 ⟨bz, cz, rfl, hown, hb⟩
    clear p0 p1 p2 p3 ltp
    have HXa18 := Lib.hid (HXa17.out.keep hb)
    clear HXa17
    have HXb18 := Lib.hid (HXb17.out.keep hb)
    clear HXb17
    have HXs18 := Lib.hid (HXs17.out.keep hb)
    clear HXs17
    have HXt18 := Lib.hid (HXt17.out.keep hb)
    clear HXt17
    have HXx18 := Lib.hid (HXx17.out.keep hb)
    clear HXx17
    have HXy18 := Lib.hid (HXy17.out.keep hb)
    clear HXy17
    have HIc18 := Lib.hid (HIc17.out.below hb)
    clear HIc17
    have HIg18 := Lib.hid (HIg17.out.below hb)
    clear HIg17
    have HB18x := Lib.hid (show Below w.heap.size w v18 from HB17x.out.trans (hb.mono HB17x.out.size))
    clear HB17x
    clear hb
    have HXn := Lib.hid (rhAt_put (n := n) hown (ok_allInt HYO.out))
    clear hown
    have hb := putR_below v18 n bz Y.length cz
    have HXa19 := Lib.hid (HXa18.out.keep hb)
    clear HXa18
    have HXb19 := Lib.hid (HXb18.out.keep hb)
    clear HXb18
    have HXs19 := Lib.hid (HXs18.out.keep hb)
    clear HXs18
    have HXt19 := Lib.hid (HXt18.out.keep hb)
    clear HXt18
    have HXx19 := Lib.hid (HXx18.out.keep hb)
    clear HXx18
    have HXy19 := Lib.hid (HXy18.out.keep hb)
    clear HXy18
    have HIc19 := Lib.hid (HIc18.out.below hb)
    clear HIc18
    have HIg19 := Lib.hid (HIg18.out.below hb)
    clear HIg18
    have HB19x := Lib.hid (show Below w.heap.size w (putR v18 n bz Y.length cz) from HB18x.out.trans (hb.mono HB18x.out.size))
    clear HB18x
    clear hb
    have HXz19 : Hid (RhAt (putR v18 n bz Y.length cz) v18.heap.size n bz cz Y) := HXn
    clear HXn
    go_upto_region 16 with fail
    obtain ⟨W19, hW⟩ : ∃ W9, putR v18 n bz Y.length cz = W9 := ⟨_, rfl⟩
    change Code.wp _ _ _ _ (putR v18 n bz Y.length cz)
    rw [hW]
    rw [hW] at HXa19 HXb19 HXs19 HXt19 HXx19 HXy19 HXz19 HIc19 HIg19 HB19x
    obtain ⟨zb, hxb⟩ : ∃ b, v18.heap.size = b := ⟨_, rfl⟩
    rw [hxb] at HXz19 ⊢
    clear hW hxb
    obtain ⟨D, hD⟩ : ∃ D, difZ (n : Int) xs = D := ⟨_, rfl⟩
    obtain ⟨E, hE⟩ : ∃ E, difZ (n : Int) ys = E := ⟨_, rfl⟩
    have HDA : Hid (∀ i : Nat, i < n → D[i]? = some ((difAt n xs (i : Int) : Nat) : Int)) := Lib.hid (fun i hi => by rw [← hD]; exact difZ_at (by simpa using hi))
    have HEA : Hid (∀ i : Nat, i < n → E[i]? = some ((difAt n ys (i : Int) : Nat) : Int)) := Lib.hid (fun i hi => by rw [← hE]; exact difZ_at (by simpa using hi))
    have HDD := Lib.hid hD
    have HEE := Lib.hid hE
    clear hD hE
    obtain ⟨p0, p1, p2, p3⟩ := HXa19.out.1.facts
    have ltp := HXa19.out.1.lt
    go_wp2_with fail
    refine (v_difs n ba ca xs D _ HXa19.out.2 HOA.out HDD.out).mono ?_
    rintro e v20 ⟨vd, cd, rfl, hid, hb⟩
    clear p0 p1 p2 p3 ltp
    have HXa20 := Lib.hid (HXa19.out.keep hb)
    clear HXa19
    have HXb20 := Lib.hid (HXb19.out.keep hb)
    clear HXb19
    have HXs20 := Lib.hid (HXs19.out.keep hb)
    clear HXs19
    have HXt20 := Lib.hid (HXt19.out.keep hb)
    clear HXt19
    have HXx20 := Lib.hid (HXx19.out.keep hb)
    clear HXx19
    have HXy20 := Lib.hid (HXy19.out.keep hb)
    clear HXy19
    have HXz20 := Lib.hid (HXz19.out.keep hb)
    clear HXz19
    have HIc20 := Lib.hid (HIc19.out.below hb)
    clear HIc19
    have HIg20 := Lib.hid (HIg19.out.below hb)
    clear HIg19
    have HB20x := Lib.hid (show Below w.heap.size w v20 from HB19x.out.trans (hb.mono HB19x.out.size))
    clear HB19x
    clear hb
    have HId := Lib.hid hid
    clear hid
    obtain ⟨p0, p1, p2, p3⟩ := HXb20.out.1.facts
    have ltp := HXb20.out.1.lt
    go_wp2_with fail
    refine (v_difs n bb' cb ys E _ HXb20.out.2 HOB.out HEE.out).mono ?_
    rintro e v21 ⟨ve, ce, rfl, hie, hb⟩
    clear p0 p1 p2 p3 ltp
    have HXa21 := Lib.hid (HXa20.out.keep hb)
    clear HXa20
    have HXb21 := Lib.hid (HXb20.out.keep hb)
    clear HXb20
    have HXs21 := Lib.hid (HXs20.out.keep hb)
    clear HXs20
    have HXt21 := Lib.hid (HXt20.out.keep hb)
    clear HXt20
    have HXx21 := Lib.hid (HXx20.out.keep hb)
    clear HXx20
    have HXy21 := Lib.hid (HXy20.out.keep hb)
    clear HXy20
    have HXz21 := Lib.hid (HXz20.out.keep hb)
    clear HXz20
    have HIc21 := Lib.hid (HIc20.out.below hb)
    clear HIc20
    have HIg21 := Lib.hid (HIg20.out.below hb)
    clear HIg20
    have HId21 := Lib.hid (HId.out.below hb)
    clear HId
    have HB21x := Lib.hid (show Below w.heap.size w v21 from HB20x.out.trans (hb.mono HB20x.out.size))
    clear HB20x
    clear hb
    have HIe := Lib.hid hie
    clear hie
    obtain ⟨p0, p1, p2, p3⟩ := HXy21.out.1.facts
    have ltp := HXy21.out.1.lt
    obtain ⟨r0, r1, r2, r3⟩ := HXz21.out.1.facts
    have ltr := HXz21.out.1.lt
    go_wp2_with fail
    refine (rhythms_law n by' bz cy cz Y _ HXy21.out.2 HXz21.out.2 (by have := ok_len HYO.out; omega)).mono ?_
    rintro e v22 ⟨rfl, hb⟩
    clear p0 p1 p2 p3 ltp
    clear r0 r1 r2 r3 ltr
    have HXa22 := Lib.hid (HXa21.out.keep hb)
    clear HXa21
    have HXb22 := Lib.hid (HXb21.out.keep hb)
    clear HXb21
    have HXs22 := Lib.hid (HXs21.out.keep hb)
    clear HXs21
    have HXt22 := Lib.hid (HXt21.out.keep hb)
    clear HXt21
    have HXx22 := Lib.hid (HXx21.out.keep hb)
    clear HXx21
    have HXy22 := Lib.hid (HXy21.out.keep hb)
    clear HXy21
    have HXz22 := Lib.hid (HXz21.out.keep hb)
    clear HXz21
    have HIc22 := Lib.hid (HIc21.out.below hb)
    clear HIc21
    have HIg22 := Lib.hid (HIg21.out.below hb)
    clear HIg21
    have HId22 := Lib.hid (HId21.out.below hb)
    clear HId21
    have HIe22 := Lib.hid (HIe.out.below hb)
    clear HIe
    have HB22x := Lib.hid (show Below w.heap.size w v22 from HB21x.out.trans (hb.mono HB21x.out.size))
    clear HB21x
    clear hb
    obtain ⟨wo, hwo⟩ : ∃ wo, wo = v22 := ⟨_, rfl⟩
    go_wp2
    clear hwo wo
    go_loopw [21, 22] (fun v i wr => ∃ j : Nat, 1 ≤ j ∧ j ≤ n ∧ i = .int .i64 j ∧ v = .bool (apZ n xs ys j) ∧ v22 = wr) (fun _ i _ => n - (intOf i).toNat)
    case atStart => exact ⟨1, by omega, by omega, rfl, by rw [apZ_one], rfl⟩
    case round =>
      obtain ⟨j, hj1, hj, rfl, rfl, rfl⟩ := hrel
      by_cases hlt : j < n
      · as_aux_lemma =>
          obtain ⟨gd, od, zd, rfl, ld, hzd, cd1, _, _⟩ := HId22.out.at hlt
          obtain ⟨ge, oe, ze, rfl, le, hze, ce1, _, _⟩ := HIe22.out.at hlt
          rw [HDA.out j hlt] at hzd
          rw [HEA.out j hlt] at hze
          obtain rfl := Option.some.inj hzd
          obtain rfl := Option.some.inj hze
          have HN := Lib.hid (apZ_next n xs ys j hj1)
          clear hzd hze
          generalize difAt n xs (j : Int) = A at cd1 HN
          generalize difAt n ys (j : Int) = B at ce1 HN
          cases hap : apZ n xs ys j
          · rw [hap] at HN
            go_wp2
            go_roundw
            case rel => exact ⟨j + 1, by omega, by omega, by go_num, by rw [HN.out]; rfl, by trivial⟩
            case measure => simp [intOf]; omega
          · rw [hap] at HN
            by_cases hA : A = 0
            · have hA1 : ((A : Int) == 0) = true := by simp [hA]
              have hA2 : (A == 0) = true := by simp [hA]
              go_wp2
              go_roundw
              case rel => exact ⟨j + 1, by omega, by omega, by go_num, by rw [HN.out, hA2]; rfl, by trivial⟩
              case measure => simp [intOf]; omega
            · have hA1 : ((A : Int) == 0) = false := by simp; omega
              have hA2 : (A == 0) = false := by simp [hA]
              by_cases hB : B = 0
              · have hB1 : ((B : Int) == 0) = true := by simp [hB]
                have hB2 : (B == 0) = true := by simp [hB]
                go_wp2
                go_roundw
                case rel => exact ⟨j + 1, by omega, by omega, by go_num, by rw [HN.out, hA2, hB2]; rfl, by trivial⟩
                case measure => simp [intOf]; omega
              · have hB1 : ((B : Int) == 0) = false := by simp; omega
                have hB2 : (B == 0) = false := by simp [hB]
                go_wp2
                go_roundw
                case rel => exact ⟨j + 1, by omega, by omega, by go_num, by rw [HN.out, hA2, hB2]; rfl, by trivial⟩
                case measure => simp [intOf]; omega
      · have HE : Hid (apZ n xs ys j = apZ n xs ys n) := Lib.hid (by rw [show j = n by omega])
        obtain ⟨ap, hap⟩ : ∃ ap, apZ n xs ys n = ap := ⟨_, rfl⟩
        rw [HE.out, hap]
        have HQ : Hid (dirB n xs n ys = ap) := Lib.hid (by
          rw [← hap]
          exact Bool.eq_iff_iff.2 (HAP.out.trans (apZ_iff n xs ys).symm))
        clear hap
        go_upto_region 25 with fail
        go_cut [181] (fun v wx => v = .bool false ∧ Below w.heap.size w wx ∧ RhAt wx ab n ba ca xs ∧ RhAt wx bb n bb' cb ys ∧ RhAt wx sb n bs cs Z ∧ RhAt wx tb n bt ct Z ∧ IntsAt wx vc n C ∧ IntsAt wx bg G.length G)
        case first =>
          obtain ⟨p0, p1, p2, p3⟩ := HXa22.out.1.facts
          have ltp := HXa22.out.1.lt
          obtain ⟨r0, r1, r2, r3⟩ := HXb22.out.1.facts
          have ltr := HXb22.out.1.lt
          by_cases hxl : 0 < xs.length
          · have hx1 : decide (0 < xs.length) = true := decide_eq_true (by omega)
            have hx2 : decide ((0 : Int) < (xs.length : Int)) = true := decide_eq_true (by omega)
            by_cases hyl : 0 < ys.length
            · have hy1 : decide (0 < ys.length) = true := decide_eq_true (by omega)
              have hy2 : decide ((0 : Int) < (ys.length : Int)) = true := decide_eq_true (by omega)
              cases ap
              · skip
                go_wp2_with fail
                refine (v_dir n ba ca xs bb' cb ys false _ HXa22.out.2 HXb22.out.2 HOA.out HOB.out HQ.out).mono ?_
                rintro e v23 ⟨rfl, hb⟩
                clear p0 p1 p2 p3 ltp
                clear r0 r1 r2 r3 ltr
                have HXa23 := Lib.hid (HXa22.out.keep hb)
                clear HXa22
                have HXb23 := Lib.hid (HXb22.out.keep hb)
                clear HXb22
                have HXs23 := Lib.hid (HXs22.out.keep hb)
                clear HXs22
                have HXt23 := Lib.hid (HXt22.out.keep hb)
                clear HXt22
                have HXx23 := Lib.hid (HXx22.out.keep hb)
                clear HXx22
                have HXy23 := Lib.hid (HXy22.out.keep hb)
                clear HXy22
                have HXz23 := Lib.hid (HXz22.out.keep hb)
                clear HXz22
                have HIc23 := Lib.hid (HIc22.out.below hb)
                clear HIc22
                have HIg23 := Lib.hid (HIg22.out.below hb)
                clear HIg22
                have HId23 := Lib.hid (HId22.out.below hb)
                clear HId22
                have HIe23 := Lib.hid (HIe22.out.below hb)
                clear HIe22
                have HB23x := Lib.hid (show Below w.heap.size w v23 from HB22x.out.trans (hb.mono HB22x.out.size))
                clear HB22x
                clear hb
                go_wp2_with fail
                go_meet
                exact ⟨rfl, HB23x.out, HXa23.out, HXb23.out, HXs23.out, HXt23.out, HIc23.out, HIg23.out⟩
              · skip
                go_wp2_with fail
                refine (v_dir n ba ca xs bb' cb ys true _ HXa22.out.2 HXb22.out.2 HOA.out HOB.out HQ.out).mono ?_
                rintro e v23 ⟨rfl, hb⟩
                clear p0 p1 p2 p3 ltp
                clear r0 r1 r2 r3 ltr
                have HXa23 := Lib.hid (HXa22.out.keep hb)
                clear HXa22
                have HXb23 := Lib.hid (HXb22.out.keep hb)
                clear HXb22
                have HXs23 := Lib.hid (HXs22.out.keep hb)
                clear HXs22
                have HXt23 := Lib.hid (HXt22.out.keep hb)
                clear HXt22
                have HXx23 := Lib.hid (HXx22.out.keep hb)
                clear HXx22
                have HXy23 := Lib.hid (HXy22.out.keep hb)
                clear HXy22
                have HXz23 := Lib.hid (HXz22.out.keep hb)
                clear HXz22
                have HIc23 := Lib.hid (HIc22.out.below hb)
                clear HIc22
                have HIg23 := Lib.hid (HIg22.out.below hb)
                clear HIg22
                have HId23 := Lib.hid (HId22.out.below hb)
                clear HId22
                have HIe23 := Lib.hid (HIe22.out.below hb)
                clear HIe22
                have HB23x := Lib.hid (show Below w.heap.size w v23 from HB22x.out.trans (hb.mono HB22x.out.size))
                clear HB22x
                clear hb
                go_wp2_with fail
                go_meet
                exact ⟨rfl, HB23x.out, HXa23.out, HXb23.out, HXs23.out, HXt23.out, HIc23.out, HIg23.out⟩
            · have hy1 : decide (0 < ys.length) = false := decide_eq_false (by omega)
              have hy2 : decide ((0 : Int) < (ys.length : Int)) = false := decide_eq_false (by omega)
              go_wp2_with fail
              go_meet
              exact ⟨rfl, HB22x.out, HXa22.out, HXb22.out, HXs22.out, HXt22.out, HIc22.out, HIg22.out⟩
          · have hx1 : decide (0 < xs.length) = false := decide_eq_false (by omega)
            have hx2 : decide ((0 : Int) < (xs.length : Int)) = false := decide_eq_false (by omega)
            go_wp2_with fail
            go_meet
            exact ⟨rfl, HB22x.out, HXa22.out, HXb22.out, HXs22.out, HXt22.out, HIc22.out, HIg22.out⟩
        case rest =>
          obtain ⟨rfl, hbl, hra, hrb, hrs, hrt, hic, hig⟩ := hcut
          obtain ⟨wq, rfl⟩ : ∃ wq : World, wq = wc := ⟨_, rfl⟩
          clear HXa22 HXb22 HXs22 HXt22 HXx22 HXy22 HXz22 HIc22 HIg22 HId22 HIe22 HB22x
          have HB0x := Lib.hid hbl
          have HXA := Lib.hid hra
          have HXB := Lib.hid hrb
          have HXS := Lib.hid hrs
          have HXT := Lib.hid hrt
          have HIC := Lib.hid hic
          have HIG := Lib.hid hig
          clear hbl hra hrb hrs hrt hic hig
          go_wp2
          go_loopw [184] (fun i wx => ∃ j : Nat, j ≤ n ∧ i = .int .i64 j ∧ Below w.heap.size w wx ∧ RhAt wx ab n ba ca xs ∧ RhAt wx bb n bb' cb ys ∧ RhAt wx sb n bs cs Z ∧ RhAt wx tb n bt ct Z ∧ IntsAt wx vc n C ∧ IntsAt wx bg G.length G) (fun i _ => n - (intOf i).toNat)
          case atStart => exact ⟨0, by omega, rfl, HB0x.out, HXA.out, HXB.out, HXS.out, HXT.out, HIC.out, HIG.out⟩
          case round =>
            clear HB0x HXA HXB HXS HXT HIC HIG
            obtain ⟨j2, hj2, rfl, hbl, hra, hrb, hrs, hrt, hic, hig⟩ := hrel
            have HB0x := Lib.hid hbl
            have HXA := Lib.hid hra
            have HXB := Lib.hid hrb
            have HXS := Lib.hid hrs
            have HXT := Lib.hid hrt
            have HIC := Lib.hid hic
            have HIG := Lib.hid hig
            clear hbl hra hrb hrs hrt hic hig
            by_cases hlt2 : j2 < n
            · as_aux_lemma =>
                obtain ⟨gc, oc, zc, rfl, lc, hzc, cc1, _, _⟩ := HIC.out.at hlt2
                rw [HCA.out j2 hlt2] at hzc
                obtain rfl := Option.some.inj hzc
                clear hzc
                have hmg := HCG.out j2 hlt2
                have hmz := HCZ.out j2 hlt2
                have hcl := HCL.out (j2 : Int)
                have hself : remB (j2 : Int) (n : Int) = j2 := by unfold remB; exact em_self ⟨by omega, by omega⟩
                obtain ⟨p0, p1, p2, p3⟩ := HXS.out.1.facts
                have ltp := HXS.out.1.lt
                by_cases hc0 : List.count (j2 : Int) L = 0
                · have HG1 : Hid (hasB G (j2 : Int) = true) := Lib.hid (hasB_mem.2 (hmg.1 hc0))
                  have HZ1 : Hid (hasB Z (remB (j2 : Int) (n : Int)) = false) := Lib.hid (by rw [hself]; exact hasB_off (fun q => by have := hmz.2 q; omega))
                  clear hmg hmz hself
                  generalize List.count (j2 : Int) L = c at hcl hc0 cc1
                  subst hc0
                  go_wp2_with fail
                  refine (v_lhas bg G.length cg G (j2 : Int) true _ HIG.out (by have := HGZ.out; omega) HG1.out).mono ?_
                  rintro e y1 ⟨rfl, hb⟩
                  clear p0 p1 p2 p3 ltp cc1
                  have HXA1 := Lib.hid (HXA.out.keep hb)
                  have HXB1 := Lib.hid (HXB.out.keep hb)
                  have HXS1 := Lib.hid (HXS.out.keep hb)
                  have HXT1 := Lib.hid (HXT.out.keep hb)
                  have HIC1 := Lib.hid (HIC.out.below hb)
                  have HIG1 := Lib.hid (HIG.out.below hb)
                  have HB1x := Lib.hid (HB0x.out.trans (hb.mono HB0x.out.size))
                  clear hb HXA HXB HXS HXT HIC HIG HB0x
                  obtain ⟨p0, p1, p2, p3⟩ := HXS1.out.1.facts
                  have ltp := HXS1.out.1.lt
                  go_wp2_with fail
                  refine (r_has n bs cs Z (j2 : Int) false _ HXS1.out.2 HZO.out (by omega) (by omega) HZ1.out).mono ?_
                  rintro e y2 ⟨rfl, hb⟩
                  clear p0 p1 p2 p3 ltp
                  have HXA2 := Lib.hid (HXA1.out.keep hb)
                  have HXB2 := Lib.hid (HXB1.out.keep hb)
                  have HXS2 := Lib.hid (HXS1.out.keep hb)
                  have HXT2 := Lib.hid (HXT1.out.keep hb)
                  have HIC2 := Lib.hid (HIC1.out.below hb)
                  have HIG2 := Lib.hid (HIG1.out.below hb)
                  have HB2x := Lib.hid (HB1x.out.trans (hb.mono HB1x.out.size))
                  clear hb HXA1 HXB1 HXS1 HXT1 HIC1 HIG1 HB1x
                  go_wp2
                  go_roundw
                  case rel => exact ⟨j2 + 1, by omega, by go_num, HB2x.out, HXA2.out, HXB2.out, HXS2.out, HXT2.out, HIC2.out, HIG2.out⟩
                  case measure => simp [intOf]; omega
                · have HG1 : Hid (hasB G (j2 : Int) = false) := Lib.hid (hasB_off (fun q => hc0 (hmg.2 q)))
                  have HZ1 : Hid (hasB Z (remB (j2 : Int) (n : Int)) = true) := Lib.hid (by rw [hself]; exact hasB_mem.2 (hmz.1 (by omega)))
                  clear hmg hmz hself
                  generalize List.count (j2 : Int) L = c at hcl hc0 cc1
                  have hc1 : (c == 0) = false := by simp [hc0]
                  have hc2 : ((c : Int) == 0) = false := by simp; omega
                  have hc3 : decide (0 < c) = true := by simp; omega
                  have hc4 : decide ((0 : Int) < (c : Int)) = true := by simp; omega
                  go_wp2_with fail
                  refine (v_lhas bg G.length cg G (j2 : Int) false _ HIG.out (by have := HGZ.out; omega) HG1.out).mono ?_
                  rintro e y1 ⟨rfl, hb⟩
                  clear p0 p1 p2 p3 ltp cc1
                  have HXA1 := Lib.hid (HXA.out.keep hb)
                  have HXB1 := Lib.hid (HXB.out.keep hb)
                  have HXS1 := Lib.hid (HXS.out.keep hb)
                  have HXT1 := Lib.hid (HXT.out.keep hb)
                  have HIC1 := Lib.hid (HIC.out.below hb)
                  have HIG1 := Lib.hid (HIG.out.below hb)
                  have HB1x := Lib.hid (HB0x.out.trans (hb.mono HB0x.out.size))
                  clear hb HXA HXB HXS HXT HIC HIG HB0x
                  obtain ⟨p0, p1, p2, p3⟩ := HXS1.out.1.facts
                  have ltp := HXS1.out.1.lt
                  go_wp2_with fail
                  refine (r_has n bs cs Z (j2 : Int) true _ HXS1.out.2 HZO.out (by omega) (by omega) HZ1.out).mono ?_
                  rintro e y2 ⟨rfl, hb⟩
                  clear p0 p1 p2 p3 ltp
                  have HXA2 := Lib.hid (HXA1.out.keep hb)
                  have HXB2 := Lib.hid (HXB1.out.keep hb)
                  have HXS2 := Lib.hid (HXS1.out.keep hb)
                  have HXT2 := Lib.hid (HXT1.out.keep hb)
                  have HIC2 := Lib.hid (HIC1.out.below hb)
                  have HIG2 := Lib.hid (HIG1.out.below hb)
                  have HB2x := Lib.hid (HB1x.out.trans (hb.mono HB1x.out.size))
                  clear hb HXA1 HXB1 HXS1 HXT1 HIC1 HIG1 HB1x
                  go_wp2
                  go_roundw
                  case rel => exact ⟨j2 + 1, by omega, by go_num, HB2x.out, HXA2.out, HXB2.out, HXS2.out, HXT2.out, HIC2.out, HIG2.out⟩
                  case measure => simp [intOf]; omega
            · go_upto_region 33 with fail
              refine wp_code (c' := rgOf Try.f3 33) (by kernel_rfl) ?_
              cases hd : dirB n xs n ys
              · have ht : tilB n xs n ys = false := tilB_dir hd
                have hzp : Z.length ≠ p := fun q => by have := HDQ.out.2 q; rw [hd] at this; cases this
                refine sums33_f n p xs ys Z G C _ _ _ _ ba bb' bs bt vc bg ca cb cs ct cc cg w _ (by omega) (by omega) HOA.out HOB.out HZO.out HXA.out HXB.out HXS.out HXT.out HMUL.out hp576 hd ht hzp ?_
                intro x204 x205 x206 x207 x208 x209 x210 x211 x212 x213 x214 x215 x216 x217 x218 x219 x220 x221 x222 x223 x224 x225 x226 x227 x228 x229 x230 x231 w4 hb
                go_wp2
                go_ret
                exact ⟨rfl, HB0x.out.trans (hb.mono HB0x.out.size)⟩
              · have hzp : Z.length = p := HDQ.out.1 hd
                have ht := HTQ.out hd
                by_cases hg0 : G.length = 0
                · rw [decide_eq_true hg0] at ht
                  refine sums33_d n p xs ys Z G C _ _ _ _ ba bb' bs bt vc bg ca cb cs ct cc cg w _ (by omega) (by omega) HOA.out HOB.out HZO.out HXA.out HXB.out HXS.out HXT.out HMUL.out hp576 hd ht hzp hg0 ?_
                  intro x204 x205 x206 x207 x208 x209 x210 x211 x212 x213 x214 x215 x216 x217 x218 x219 x220 x221 x222 x223 x224 x225 x226 x227 x228 x229 x230 x231 w4 hb
                  go_wp2
                  go_ret
                  exact ⟨rfl, HB0x.out.trans (hb.mono HB0x.out.size)⟩
                · rw [decide_eq_false hg0] at ht
                  refine sums33_e n p xs ys Z G C _ _ _ _ ba bb' bs bt vc bg ca cb cs ct cc cg w _ (by omega) (by omega) HOA.out HOB.out HZO.out HXA.out HXB.out HXS.out HXT.out HMUL.out hp576 hd ht hzp hg0 ?_
                  intro x204 x205 x206 x207 x208 x209 x210 x211 x212 x213 x214 x215 x216 x217 x218 x219 x220 x221 x222 x223 x224 x225 x226 x227 x228 x229 x230 x231 w4 hb
                  go_wp2
                  go_ret
                  exact ⟨rfl, HB0x.out.trans (hb.mono HB0x.out.size)⟩
  · clear hb
    go_enter Try.func3, Try.ntmps3
    go_wp2
    go_ret
    exact ⟨rfl, Below.refl _ _⟩
end Go.Proofs.Ytpgolnkhbnancaa.Rhy
