/-
  Helpers of the claims beside this text: NearestEven of the program.
-/
import Derived.Test.YthjkblekccpafaaEvq
import Derived.Test.YthjkblekccpafaaEve
import Derived.Test.YthjkblekccpafaaOvr
namespace Go.Proofs.Ythjkblekccpafaa.Rhy
open Go.RowKit
set_option linter.unusedVariables false
set_option linter.unusedSimpArgs false

set_option maxHeartbeats 2000000 in
set_option maxRecDepth 100000 in
theorem near_any (n : Nat) (a : Option Addr) (len cap : Nat) (zs : List Int) (w : World) (h : IntsAt w a len zs) (hm : len ≤ 1048576) (ho : Ok n zs) :
    Calls Try.prog 54 #[rhy n a len cap] w (RIPost n (nrZ n zs) ((comZ (nrZ n zs) zs : Nat) : Int) w) := by
  have HS := Lib.hid h
  have HOK := Lib.hid ho
  obtain rfl : zs.length = len := h.len
  have hl24 := ok_len ho
  have hn1 : 1 ≤ n := by have := ho.1.1; omega
  have hn24 : n ≤ 24 := by have := ho.1.2; omega
  have hsz := ok_size ho
  have hEC : EvC (zs.length : Nat) n := ⟨by omega, by omega, by omega, by omega⟩
  have HEC := Lib.hid hEC
  obtain ⟨E, hE⟩ : ∃ E, evZ (zs.length : Nat) n 0 = E := ⟨_, rfl⟩
  have HEE := Lib.hid hE
  have hOE : Ok n E := by rw [← hE]; exact evZ_ok hEC
  have HOE := Lib.hid hOE
  have hel : E.length ≤ 24 := ok_len hOE
  obtain ⟨i, hi, he, hmx, hfl⟩ := nrP_first (zs := zs) hOE (n - 1)
  have hcm : ∀ q : Nat, comZ (rotZ n E 1 (q : Int)) zs = comZ zs (rotZ n E 1 (q : Int)) := fun q => com_comm (rot_ok hOE.1 _ _) ho
  obtain ⟨N, hN⟩ : ∃ N, rotZ n E 1 (i : Int) = N := ⟨_, rfl⟩
  have HN := Lib.hid hN
  have hNZ : nrZ n zs = N := by rw [← hN, ← he]; unfold nrZ; rw [hE]
  obtain ⟨L, hL⟩ : ∃ L, overP n zs E n = L := ⟨_, rfl⟩
  have HL := Lib.hid hL
  have hLl : L.length = n := by rw [← hL]; exact overP_len _ _ _ _
  have hLI : AllInt L := by rw [← hL]; exact over_int hl24 n
  have hLa : ∀ q, q < n → L.getD q 0 = ((comZ zs (rotZ n E 1 (q : Int)) : Nat) : Int) := fun q hq => by
    rw [List.getD_eq_getElem?_getD, ← hL, overP_at _ _ _ hq]; rfl
  have hin : i < n := by omega
  obtain ⟨mx, hmxe⟩ : ∃ mx, Lib.maxOf L = mx := ⟨_, rfl⟩
  have hL0 : 0 < L.length := by omega
  have hmi : mx = L.getD i 0 := by
    have h1 := (maxOf_mem hL0).2 (L.getD i 0) (by rw [List.getD_eq_getElem?_getD, List.getElem?_eq_getElem (by omega)]; exact List.getElem_mem _)
    obtain ⟨q, hq, e⟩ := List.getElem_of_mem (maxOf_mem hL0).1
    have h2 : L.getD q 0 = Lib.maxOf L := by rw [List.getD_eq_getElem?_getD, List.getElem?_eq_getElem hq]; exact e
    have h3 := hmx q (by omega)
    rw [hcm, hcm] at h3
    have h4 := hLa q (by omega)
    have h5 := hLa i hin
    omega
  have hix : Lib.idxOf (L.take n) mx = i := Lib.idxOf_hit L n i mx hin (by omega) hmi.symm (fun j hj => by
    have h3 := hfl j hj
    rw [hcm, hcm] at h3
    have h4 := hLa j (by omega)
    have h5 := hLa i hin
    omega)
  have htk : L.take n = L := List.take_of_length_le (by omega)
  have hmc : mx = ((comZ (nrZ n zs) zs : Nat) : Int) := by rw [hmi, hLa i hin, hNZ, ← hN, hcm]
  rw [← hmc, hNZ]
  have hNl : N.length ≤ 24 := by rw [← hN]; exact rotZ_len (by omega)
  have HNI : Hid (AllInt N) := Lib.hid (by rw [← hN]; exact rotZ_int (by omega))
  rw [htk] at hix
  have HIX0 := Lib.hid hix
  have HMX0 := Lib.hid hmxe
  have HTK := Lib.hid htk
  have HLI := Lib.hid hLI
  have HLl := Lib.hid hLl
  clear h ho hEC hE hOE he hmx hfl hcm hN hNZ hL hLl hLI hLa hmxe hL0 hmi hix htk hmc
  obtain ⟨W0, hW⟩ : ∃ W0, W0 = (w.alloc (.cells #[.int .i64 n, .slice a zs.length cap] 24)).alloc (.cells #[.int .i64 0, .slice none 0 0] 24) := ⟨_, rfl⟩
  have HW := Lib.hid hW
  have HB := Lib.hid (show Below w.heap.size w W0 by rw [hW]; exact bel2 w _ _)
  have HT := Lib.hid (show Box W0 w.heap.size (.int .i64 n) (.slice a zs.length cap) 24 by rw [hW]; exact (box_new w _ _ _).keep (bel1 _ _) (by simp))
  have HU := Lib.hid (show Box W0 (w.heap.size + 1) (.int .i64 0) (.slice none 0 0) 24 by
    rw [hW]
    have := box_new (w.alloc (.cells #[.int .i64 n, .slice a zs.length cap] 24)) (.int .i64 0) (.slice none 0 0) 24
    simpa using this)
  have HSZ := Lib.hid (show W0.heap.size = w.heap.size + 2 by rw [hW]; simp)
  clear hW
  go_enter Try.func54, Try.ntmps54
  go_wp2_with fail
  rw [← HW.out]
  refine (evenR_any zs.length n 0 W0 HEC.out ⟨Int.le_refl 0, by omega⟩).mono ?_
  rintro e w1 ⟨ae, ce, rfl, hown, hb1⟩
  rw [HEE.out] at hown ⊢
  have hs1 := hb1.size
  obtain ⟨W4, hW4⟩ : ∃ W4, W4 = w1.alloc (.cells #[.int .i64 n, .slice ae E.length ce] 24) := ⟨_, rfl⟩
  have hb4 : Below w1.heap.size w1 W4 := by rw [hW4]; exact bel1 _ _
  have HB4 : Hid (Below W0.heap.size W0 W4) := Lib.hid (hb1.trans (hb4.mono hs1))
  have HT4 := Lib.hid (HT.out.keep HB4.out (by have := HSZ.out; omega))
  have HU4 := Lib.hid (HU.out.keep HB4.out (by have := HSZ.out; omega))
  have HE4 : Hid (Box W4 w1.heap.size (.int .i64 n) (.slice ae E.length ce) 24) := Lib.hid (by rw [hW4]; exact box_new _ _ _ _)
  have HIE : Hid (IntsAt W4 ae E.length E) := Lib.hid ((intsAt_own hown (ok_int' HOE.out)).below hb4)
  have HIr : Hid (IntsAt W4 a zs.length zs) := Lib.hid (HS.out.below (HB.out.trans (HB4.out.mono HB.out.size)))
  have hne : w.heap.size + 1 ≠ w1.heap.size := by have := HSZ.out; omega
  have hT1 := HT.out.keep hb1 (by have := HSZ.out; omega)
  obtain ⟨t0, t1, _, _⟩ := hT1.facts
  have tlt := hT1.lt
  clear hown hb1 hb4 hT1
  go_wp2_with fail
  rw [← hW4]
  clear hW4 t0 t1 tlt
  refine (over0_any n a zs.length cap zs ae E.length ce E W4 HIr.out HIE.out HOK.out HOE.out).mono ?_
  rintro e W5 ⟨a5, c5, rfl, hown5, hb5⟩
  rw [HL.out] at hown5 ⊢
  have HB5 := Lib.hid (HB4.out.trans (hb5.mono HB4.out.size))
  have HI5 : IntsAt W5 a5 L.length L := intsAt_own hown5 HLI.out
  rw [HLl.out] at HI5 ⊢
  have HE5 := Lib.hid (HE4.out.keep hb5 HE4.out.lt)
  have HRB := Lib.hid (HU4.out.keep hb5 HU4.out.lt)
  have HIE5 : Hid (IntsAt W5 ae E.length E) := Lib.hid (HIE.out.below hb5)
  obtain ⟨b, off, rfl, hblt, hcells⟩ := HI5.2.2 (by omega)
  have hcl : ∀ j, j < L.length → W5.cell? ⟨b, off + j, none⟩ = some (.int .i64 (L.getD j 0)) := fun j hj => hcells j _ (by rw [List.getD_eq_getElem?_getD, List.getElem?_eq_getElem hj]; rfl)
  have hmax := Try.slices_Max_int b off n c5 L W5 (by omega) (by rw [HLl.out]; exact Nat.le_refl _) (by omega) hcl
  rw [HTK.out, HMX0.out] at hmax
  have hidx := Try.slices_Index_int b off n c5 L mx W5.drew (by rw [HLl.out]; exact Nat.le_refl _) (by omega) hcl
  rw [HTK.out, HIX0.out] at hidx
  have HMAX := Lib.hid hmax
  have HIX := Lib.hid hidx
  have HK : Hid (∀ W' : World, Below W5.heap.size W5 W' → W'.cell? ⟨w1.heap.size, 0, none⟩ = some (.int .i64 n) ∧ W'.cell? ⟨w1.heap.size, 1, none⟩ = some (.slice ae E.length ce)) :=
    Lib.hid (fun W' hW => ⟨(HE5.out.keep hW HE5.out.lt).facts.1, (HE5.out.keep hW HE5.out.lt).facts.2.1⟩)
  clear hown5 hb5 HI5 hblt hcells hcl hmax hidx
  go_wp2_with fail
  refine HMAX.out.mono ?_
  rintro e w7 ⟨rfl, hw7⟩
  rw [hw7]
  clear hw7
  go_wp2
  refine wp_region_held_drew (S := fun W' => W'.cell? ⟨w1.heap.size, 0, none⟩ = some (.int .i64 n) ∧ W'.cell? ⟨w1.heap.size, 1, none⟩ = some (.slice ae E.length ce)) (by kernel_rfl) (HK.out _ (Below.refl _ _).drew) (fun hSS0 => ?_)
  refine wpAnyH_take (i := 0) (oi := ⟨some 18, _, _, _, _, _⟩) (v := .agg #[.int .i64 n, .slice ae E.length ce]) rfl (by kernel_rfl) (by kernel_rfl) (by kernel_rfl) (fun _ _ _ h => h) (Or.inl ⟨by rfl, fun w' hSw => by obtain ⟨q1, q2⟩ := hSw; go_simp⟩) (by assumption) ?_
  try simp only [Act.put, List.setIfInBounds_toArray, List.set_cons_zero, List.set_cons_succ]
  refine wpAnyH_take (i := 1) (oi := ⟨some 19, _, _, _, _, _⟩) (v := .slice (some ⟨b, off, none⟩) n c5) rfl (by kernel_rfl) (by kernel_rfl) (by kernel_rfl) (fun _ _ _ h => h) (Or.inl ⟨by rfl, fun w' hSw => by go_simp⟩) (by assumption) ?_
  try simp only [Act.put, List.setIfInBounds_toArray, List.set_cons_zero, List.set_cons_succ]
  refine wpAnyH_take (i := 2) (oi := ⟨some 20, _, _, _, _, _⟩) (v := .int .i64 mx) rfl (by kernel_rfl) (by kernel_rfl) (by kernel_rfl) (fun _ _ _ h => h) (Or.inl ⟨by rfl, fun w' hSw => by go_simp⟩) (by assumption) ?_
  try simp only [Act.put, List.setIfInBounds_toArray, List.set_cons_zero, List.set_cons_succ]
  refine wpAnyH_take (i := 5) (oi := ⟨some 23, _, _, _, _, _⟩) (v := .int .i64 mx) rfl (by kernel_rfl) (by kernel_rfl) (by kernel_rfl) (fun _ _ _ h => h) (Or.inl ⟨by rfl, fun w' hSw => by go_simp⟩) (by assumption) ?_
  try simp only [Act.put, List.setIfInBounds_toArray, List.set_cons_zero, List.set_cons_succ]
  refine wpAnyH_ready (rs := [3]) (by kernel_rfl) (by simp) ?_
  refine AllReadyH.cons rfl (fun K hKK => ?_) AllReadyH.nil
  go_simp
  go_at_call 74
  refine HIX.out.mono ?_
  rintro e w7 ⟨rfl, hw7⟩
  rw [hw7]
  clear hw7
  refine hKK.out _ _ (HK.out _ (Below.refl _ _).drew) (fun hSS1 => ?_)
  clear hKK K hSS0
  try simp only [Act.put, List.setIfInBounds_toArray, List.set_cons_zero, List.set_cons_succ]
  refine wpAnyH_ready (rs := [4]) (by kernel_rfl) (by simp) ?_
  refine AllReadyH.cons rfl (fun K hKK => ?_) AllReadyH.nil
  go_simp
  go_at_call 70
  refine (moved_of n ae E.length ce E 1 i _ (HIE5.out.below (Below.refl _ _).drew) (by omega) HOE.out (by omega) (by omega) (by omega) (by omega) (gcd_one n)).mono ?_
  rintro e w6 ⟨a6, c6, he6, hown6, hb6⟩
  rw [show ofZ (n : Int).toNat (mapL (n : Int) E 1 (i : Int)) = N from HN.out] at he6 hown6
  obtain rfl := he6
  have HO6 := Lib.hid hown6
  have HB6 : Hid (Below W5.heap.size W5 w6) := Lib.hid ((Below.refl W5.heap.size W5).drew.trans hb6)
  have HR6 := Lib.hid (HRB.out.keep HB6.out (by have := HRB.out.lt; omega))
  have HG6 := Lib.hid (HE5.out.keep HB6.out (by have := HE5.out.lt; omega))
  obtain ⟨r0, r1, r2, r3⟩ := HR6.out.facts
  have rlt := HR6.out.lt
  clear hown6 hb6
  refine hKK.out _ _ (HK.out _ HB6.out) (fun hSS2 => ?_)
  clear hKK K hSS1
  try simp only [Act.put, List.setIfInBounds_toArray, List.set_cons_zero, List.set_cons_succ]
  refine wpAnyH_ready (rs := [6]) (by kernel_rfl) (by simp) ?_
  refine AllReadyH.cons rfl (fun K hKK => ?_) AllReadyH.nil
  go_simp
  refine hKK.out _ _ (⟨(((HG6.out.other _ hne).other _ hne)).facts.1, (((HG6.out.other _ hne).other _ hne)).facts.2.1⟩) (fun hSS3 => ?_)
  clear hKK K hSS2
  try simp only [Act.put, List.setIfInBounds_toArray, List.set_cons_zero, List.set_cons_succ]
  refine wpAnyH_take (i := 7) (oi := ⟨some 3, _, _, _, _, _⟩) (v := .int .i64 mx) rfl (by kernel_rfl) (by kernel_rfl) (by kernel_rfl) (fun _ _ _ h => h) (Or.inl ⟨by rfl, fun w' hSw => by go_simp⟩) (by assumption) ?_
  try simp only [Act.put, List.setIfInBounds_toArray, List.set_cons_zero, List.set_cons_succ]
  refine wpAnyH_done (by kernel_rfl) ?_ _
  have z5 := HB5.out.size
  have hwz := HSZ.out
  have b05 : Below w.heap.size w W5 := HB.out.trans (HB5.out.mono HB.out.size)
  have HBF : Hid (Below w.heap.size w w6) := Lib.hid (b05.trans (HB6.out.mono b05.size))
  go_wp2
  refine bodyPost_ret (v := .tuple #[rhy n a6 N.length c6, .int .i64 mx]) (by simp [results, Try.results54, go_sem, *]) rfl ⟨a6, c6, rfl, ?_, ?_⟩
  · exact own_base (ownsRow_setCell_below (ownsRow_setCell_below HO6.out (by show w.heap.size + 1 < W5.heap.size; omega) _) (by show w.heap.size + 1 < W5.heap.size; omega) _) (by show w.heap.size ≤ W5.heap.size; omega)
  · exact (HBF.out.setCell (by simp) _).setCell (by simp) _

set_option maxHeartbeats 400000 in
theorem near_impl (s : Int) (a : Option Addr) (len cap : Nat) (zs : List Int) (w : World) (h : IntsAt w a len zs) (hm : zs.length ≤ 1048576) :
    Calls Try.prog 31 #[rhy s a len cap] w (RIPost (cS (Ok s zs) s) (cZ (Ok s zs) (nrZ s.toNat zs)) (nrB s zs) w) := by
  have HS := Lib.hid h
  have hl : len ≤ 1048576 := by have := h.1; omega
  clear h
  obtain ⟨W0, hW⟩ : ∃ W0, W0 = (w.alloc (.cells #[.int .i64 s, .slice a len cap] 24)).alloc (.cells #[.int .i64 0, .slice none 0 0] 24) := ⟨_, rfl⟩
  have HW := Lib.hid hW
  have HB := Lib.hid (show Below w.heap.size w W0 by rw [hW]; exact bel2 w _ _)
  have HT := Lib.hid (show Box W0 w.heap.size (.int .i64 s) (.slice a len cap) 24 by rw [hW]; exact (box_new w _ _ _).keep (bel1 _ _) (by simp))
  have HU := Lib.hid (show Box W0 (w.heap.size + 1) (.int .i64 0) (.slice none 0 0) 24 by
    rw [hW]
    have := box_new (w.alloc (.cells #[.int .i64 s, .slice a len cap] 24)) (.int .i64 0) (.slice none 0 0) 24
    simpa using this)
  have HSZ := Lib.hid (show W0.heap.size = w.heap.size + 2 by rw [hW]; simp)
  clear hW
  by_cases ho : Ok s zs
  · obtain ⟨n, rfl⟩ : ∃ n : Nat, s = n := ⟨s.toNat, by have := ho.1; omega⟩
    have HO := Lib.hid ho
    have HV : Hid (nrB n zs = ((comZ (nrZ n zs) zs : Nat) : Int)) := Lib.hid (nrB_yes ho)
    rw [cS_yes ho, cZ_yes ho, HV.out, Int.toNat_natCast]
    obtain ⟨q, hq⟩ : ∃ q : Int, ((comZ (nrZ n zs) zs : Nat) : Int) = q := ⟨_, rfl⟩
    have HQ := Lib.hid hq
    rw [hq]
    clear ho hq
    go_enter Try.func31, Try.ntmps31
    go_wp2_with fail
    rw [← HW.out]
    refine (valid_yes n a len cap zs _ (HS.out.below HB.out) hl HO.out).mono ?_
    rintro e w1 ⟨rfl, hb1⟩
    have HB1 := Lib.hid (HB.out.trans (hb1.mono HB.out.size))
    have HU1 := Lib.hid (HU.out.keep hb1 HU.out.lt)
    have hs1 := hb1.size
    obtain ⟨t0, t1, _, _⟩ := (HT.out.keep hb1 HT.out.lt).facts
    have lt1 := (HT.out.keep hb1 HT.out.lt).lt
    clear hb1
    go_wp2_with fail
    refine (near_any n a len cap zs _ (HS.out.below HB1.out) hl HO.out).mono ?_
    rintro e w2 ⟨a2, c2, rfl, hown, hb2⟩
    rw [HQ.out]
    have HW2 := Lib.hid hown
    have HB2 := Lib.hid (HB1.out.trans (hb2.mono HB1.out.size))
    obtain ⟨r0, r1, r2, r3⟩ := (HU1.out.keep hb2 HU1.out.lt).facts
    have rlt := (HU1.out.keep hb2 HU1.out.lt).lt
    have hsz := HSZ.out
    clear hown hb2 t0 t1 lt1
    go_wp2
    refine bodyPost_ret (v := .tuple #[rhy n a2 (nrZ n zs).length c2, .int .i64 q]) (by simp [results, Try.results31, go_sem, *]) rfl ⟨a2, c2, rfl, ?_, ?_⟩
    · exact own_base (ownsRow_setCell_below (ownsRow_setCell_below HW2.out (by show w.heap.size + 1 < w1.heap.size; omega) _) (by show w.heap.size + 1 < w1.heap.size; omega) _) (by omega)
    · exact (HB2.out.setCell (by simp) _).setCell (by simp) _
  · have HO := Lib.hid ho
    rw [cS_no ho, cZ_no ho, nrB_no ho]
    clear ho
    go_enter Try.func31, Try.ntmps31
    go_wp2_with fail
    rw [← HW.out]
    refine (valid_no s a len cap zs _ (HS.out.below HB.out) hl HO.out).mono ?_
    rintro e w1 ⟨rfl, hb1⟩
    have HB1 := Lib.hid (HB.out.trans (hb1.mono HB.out.size))
    obtain ⟨r0, r1, r2, r3⟩ := (HU.out.keep hb1 HU.out.lt).facts
    have rlt := (HU.out.keep hb1 HU.out.lt).lt
    clear hb1
    go_wp2
    refine bodyPost_ret (v := .tuple #[rhy 0 none 0 0, .int .i64 (-1)]) (by simp [results, Try.results31, go_sem, *]) rfl ⟨none, 0, rfl, World.ownsRow_nil _ _ _ _, ?_⟩
    exact (HB1.out.setCell (by simp) _).setCell (by simp) _
end Go.Proofs.Ythjkblekccpafaa.Rhy
