/-
  Helpers of the claims beside this text: patterns on a line: LineTiling of both sides.
-/
import Derived.Test.YtldpikcgeijkpaaLnh
import Derived.Test.YtldpikcgeijkpaaSuk
import Derived.Test.YtldpikcgeijkpaaOf
namespace Go.Proofs.Ytldpikcgeijkpaa.Rhy
open Go.RowKit Go.Maps
set_option linter.unusedVariables false
set_option linter.unusedSimpArgs false
set_option maxRecDepth 100000
set_option maxHeartbeats 1000000

/-- What both answer. -/
abbrev LtV (zs : List Int) (w : World) : Ending → World → Prop := C2Post (GoC zs) (linS zs) zs (linS zs) (perL zs) w
theorem clone_ln (a : Option Addr) (len cap : Nat) (zs : List Int) (w : World) (h : IntsAt w a len zs) (hm : len ≤ 1048576) :
    Calls Try.prog 77 #[.slice a len cap] w (IPost zs w) := by
  have hl := h.1
  subst hl
  by_cases h0 : zs.length = 0
  · have hz : zs = [] := List.eq_nil_of_length_eq_zero h0
    subst hz
    cases a with
    | none => exact (Try.slices_Clone_int_nil 0 cap w).mono fun e w' h => ⟨none, 0, by rw [h.1]; rfl, by rw [h.2]; exact World.ownsRow_nil _ _ _ _, by rw [h.2]; exact Below.refl _ _⟩
    | some p =>
      refine (Try.slices_Clone_int_zero p cap w).mono ?_
      rintro e w' ⟨v', rfl, ho, _, hb⟩
      obtain ⟨_, a', cap', rfl, _⟩ := own_shape (l := []) (by simpa [ints] using ho)
      exact ⟨a', cap', rfl, by simpa [ints] using ho, hb⟩
  · obtain ⟨b, off, rfl, hb, hc⟩ := h.2.2 (by omega)
    refine (Try.slices_Clone_int b off zs.length cap zs w (Nat.le_refl _) (by omega) (fun j hj => ?_)).mono ?_
    · rw [hc j _ (List.getElem?_eq_getElem hj), List.getD_eq_getElem?_getD, List.getElem?_eq_getElem hj]
      rfl
    · rintro e w' ⟨v', rfl, ho, _, hbel⟩
      rw [List.take_of_length_le (Nat.le_refl _)] at ho
      obtain ⟨_, a', cap', rfl, _⟩ := own_shape (l := zs) ho
      exact ⟨a', cap', rfl, ho, hbel⟩
theorem ofZ_range {n : Nat} {l : List Int} (h : ofZ n l = l) : ∀ z ∈ l, 0 ≤ z ∧ z < n := fun z hz => by
  rw [← h] at hz
  exact (ofZ_mem.1 hz).1

theorem llt_impl (a : Option Addr) (len cap : Nat) (zs : List Int) (w : World) (h : IntsAt w a len zs) (hm0 : zs.length ≤ 1048576) (hcap : len ≤ cap) :
    Calls Try.prog 44 #[.slice a len cap] w (LtV zs w) := by
  have HS := Lib.hid h
  have hm : len ≤ 1048576 := by have := h.1; omega
  have hlen := h.1
  have HLEN := Lib.hid hlen
  clear h hlen
  obtain ⟨W0, HW⟩ : ∃ W0, Hid (W0 = (w.alloc (.cells #[.int .i64 0, .slice none 0 0] 25)).alloc (.cells #[.int .i64 0, .slice none 0 0] 25)) := ⟨_, Lib.hid rfl⟩
  have HB0 : Hid (Below w.heap.size w W0) := Lib.hid (by rw [HW.out]; exact bel2 w _ _)
  have HU0 : Hid (Box W0 w.heap.size (.int .i64 0) (.slice none 0 0) 25) := Lib.hid (by rw [HW.out]; exact (box_new w _ _ _).keep (bel1 _ _) (by simp))
  have HV0 : Hid (Box W0 (w.heap.size + 1) (.int .i64 0) (.slice none 0 0) 25) := Lib.hid (by rw [HW.out]; simpa using box_new (w.alloc (.cells #[.int .i64 0, .slice none 0 0] 25)) (.int .i64 0) (.slice none 0 0) 25)
  have HZ0 : Hid (W0.heap.size = w.heap.size + 2) := Lib.hid (by rw [HW.out]; simp)
  have HS0 := Lib.hid (HS.out.below HB0.out)
  have HLP := Lib.hid (llp_impl a len cap zs W0 HS0.out hm0 hcap)
  by_cases hg : GoC zs
  · obtain ⟨xs, es, t, g, C⟩ := crs_of hg.1
    have hgt : g = true := by
      cases g with
      | true => rfl
      | false => exact absurd hg (goC_no C rfl)
    subst hgt
    have HG := Lib.hid hg
    have ht0 : 0 < t := by obtain ⟨s, _, h1, _⟩ := C.fin; exact (h1 rfl).2
    have ht24 := C.tle
    have HT := Lib.hid (linS_yes hg.1 C rfl)
    have HPE := Lib.hid (perL_yes hg.1 C rfl)
    have HOX := Lib.hid (C.ofX rfl)
    have HOE := Lib.hid (C.ofE rfl)
    have HRX := Lib.hid (ofZ_range HOX.out)
    have ht1 : ((t : Int) == 0) = false := by simp; omega
    have hpl := (perL_fact zs).2
    have HPI := Lib.hid (perL_fact zs).1
    rw [HT.out] at HLP
    clear C hg
    go_enter Try.func44, Try.ntmps44
    go_wp2_with fail
    rw [← HW.out]
    refine HLP.out.mono ?_
    rintro e w1 ⟨rfl, hb1⟩
    have HB1 := Lib.hid (HB0.out.trans (hb1.mono HB0.out.size))
    have HU1 := Lib.hid (HU0.out.keep hb1 HU0.out.lt)
    have HV1 := Lib.hid (HV0.out.keep hb1 HV0.out.lt)
    have hsz1 := hb1.size
    have HS1 := Lib.hid (HS0.out.below hb1)
    clear hb1
    go_wp2_with fail
    refine (clone_ln a len cap zs _ HS1.out hm).mono ?_
    rintro e w2 ⟨b2, c2, rfl, hown2, hb2⟩
    have HR2 := Lib.hid (row_of hown2)
    have HB2 := Lib.hid (HB1.out.trans (hb2.mono HB1.out.size))
    have HU2 := Lib.hid (HU1.out.keep hb2 HU1.out.lt)
    have HV2 := Lib.hid (HV1.out.keep hb2 HV1.out.lt)
    have hsz2 := hb2.size
    have HS2 := Lib.hid (HS1.out.below hb2)
    clear hown2 hb2
    go_wp2_with fail
    refine (lpe_impl a len cap zs _ HS2.out hm0 hcap).mono ?_
    rintro e w3 ⟨b3, c3, rfl, hown3, hb3⟩
    have HR3 := Lib.hid (row_of hown3)
    have HR2' := Lib.hid (HR2.out.keep hb3)
    have HB3 := Lib.hid (HB2.out.trans (hb3.mono HB2.out.size))
    have HU3 := Lib.hid (HU2.out.keep hb3 HU2.out.lt)
    have HV3 := Lib.hid (HV2.out.keep hb3 HV2.out.lt)
    have hsz3 := hb3.size
    have hz0 := HZ0.out
    clear hown3 hb3
    obtain ⟨q0, q1, q2, q3⟩ := HU3.out.facts
    have l1 := HU3.out.lt
    obtain ⟨r0, r1, r2, r3⟩ := HV3.out.facts
    have l2 := HV3.out.lt
    go_wp2
    have EU := Lib.hid ((((HU3.out.set0 (.int .i64 (t : Nat))).set1 (.slice b2 zs.length c2)).other (c := w.heap.size + 1) (o := 0) (.int .i64 (t : Nat)) (by omega)).other (c := w.heap.size + 1) (o := 1) (.slice b3 (perL zs).length c3) (by omega))
    have EV := Lib.hid ((((HV3.out.other (c := w.heap.size) (o := 0) (.int .i64 (t : Nat)) (by omega)).other (c := w.heap.size) (o := 1) (.slice b2 zs.length c2) (by omega)).set0 (.int .i64 (t : Nat))).set1 (.slice b3 (perL zs).length c3))
    obtain ⟨u0, u1, u2, u3⟩ := EU.out.facts
    obtain ⟨v0, v1, v2, v3⟩ := EV.out.facts
    refine bodyPost_ret (v := .tuple #[rhy (t : Nat) b2 zs.length c2, rhy (t : Nat) b3 (perL zs).length c3, .bool true]) (by simp [results, Try.results44, go_sem, *]) rfl (c2_yes HG.out ?_)
    rw [HT.out]
    exact ⟨b2, c2, b3, c3, w2.heap.size, rfl, (((((HR2'.out).set (by omega) _ _).set (by omega) _ _).set (by omega) _ _).set (by omega) _ _).lo (by omega), by simpa using (((((HR3.out).set (by omega) _ _).set (by omega) _ _).set (by omega) _ _).set (by omega) _ _), by omega, (((HB3.out.setCell (by show w.heap.size ≤ w.heap.size; omega) _).setCell (by show w.heap.size ≤ w.heap.size; omega) _).setCell (by show w.heap.size ≤ w.heap.size + 1; omega) _).setCell (by show w.heap.size ≤ w.heap.size + 1; omega) _⟩
  · have HN := Lib.hid hg
    have HT := Lib.hid (linS_no hg)
    rw [HT.out] at HLP
    clear hg
    go_enter Try.func44, Try.ntmps44
    go_wp2_with fail
    rw [← HW.out]
    refine HLP.out.mono ?_
    rintro e w1 ⟨rfl, hb1⟩
    have HB1 := Lib.hid (HB0.out.trans (hb1.mono HB0.out.size))
    have HU1 := Lib.hid (HU0.out.keep hb1 HU0.out.lt)
    have HV1 := Lib.hid (HV0.out.keep hb1 HV0.out.lt)
    have hsz1 := hb1.size
    clear hb1
    obtain ⟨q0, q1, q2, q3⟩ := HU1.out.facts
    have l1 := HU1.out.lt
    obtain ⟨r0, r1, r2, r3⟩ := HV1.out.facts
    have l2 := HV1.out.lt
    go_wp2
    refine bodyPost_ret (v := .tuple #[rhy 0 none 0 0, rhy 0 none 0 0, .bool false]) (by simp [results, Try.results44, go_sem, *]) rfl (c2_no HN.out ?_)
    exact (((HB1.out.setCell (by show w.heap.size ≤ w.heap.size; omega) _).setCell (by show w.heap.size ≤ w.heap.size; omega) _).setCell (by show w.heap.size ≤ w.heap.size + 1; omega) _).setCell (by show w.heap.size ≤ w.heap.size + 1; omega) _
theorem llt_spec (a : Option Addr) (len cap : Nat) (zs : List Int) (w : World) (h : IntsAt w a len zs) (hm0 : zs.length ≤ 1048576) :
    Calls Try.prog 43 #[.slice a len cap] w (LtV zs w) := by
  have HS := Lib.hid h
  have hm : len ≤ 1048576 := by have := h.1; omega
  have hlen := h.1
  have HLEN := Lib.hid hlen
  clear h hlen
  obtain ⟨W0, HW⟩ : ∃ W0, Hid (W0 = (w.alloc (.cells #[.int .i64 0, .slice none 0 0] 25)).alloc (.cells #[.int .i64 0, .slice none 0 0] 25)) := ⟨_, Lib.hid rfl⟩
  have HB0 : Hid (Below w.heap.size w W0) := Lib.hid (by rw [HW.out]; exact bel2 w _ _)
  have HU0 : Hid (Box W0 w.heap.size (.int .i64 0) (.slice none 0 0) 25) := Lib.hid (by rw [HW.out]; exact (box_new w _ _ _).keep (bel1 _ _) (by simp))
  have HV0 : Hid (Box W0 (w.heap.size + 1) (.int .i64 0) (.slice none 0 0) 25) := Lib.hid (by rw [HW.out]; simpa using box_new (w.alloc (.cells #[.int .i64 0, .slice none 0 0] 25)) (.int .i64 0) (.slice none 0 0) 25)
  have HZ0 : Hid (W0.heap.size = w.heap.size + 2) := Lib.hid (by rw [HW.out]; simp)
  have HS0 := Lib.hid (HS.out.below HB0.out)
  have HLP := Lib.hid (llp_spec a len cap zs W0 HS0.out hm0)
  by_cases hg : GoC zs
  · obtain ⟨xs, es, t, g, C⟩ := crs_of hg.1
    have hgt : g = true := by
      cases g with
      | true => rfl
      | false => exact absurd hg (goC_no C rfl)
    subst hgt
    have HG := Lib.hid hg
    have ht0 : 0 < t := by obtain ⟨s, _, h1, _⟩ := C.fin; exact (h1 rfl).2
    have ht24 := C.tle
    have HT := Lib.hid (linS_yes hg.1 C rfl)
    have HPE := Lib.hid (perL_yes hg.1 C rfl)
    have HOX := Lib.hid (C.ofX rfl)
    have HOE := Lib.hid (C.ofE rfl)
    have HRX := Lib.hid (ofZ_range HOX.out)
    have ht1 : ((t : Int) == 0) = false := by simp; omega
    have hpl := (perL_fact zs).2
    have HPI := Lib.hid (perL_fact zs).1
    rw [HT.out] at HLP
    clear C hg
    go_enter Try.func43, Try.ntmps43
    go_wp2_with fail
    rw [← HW.out]
    refine HLP.out.mono ?_
    rintro e w1 ⟨rfl, hb1⟩
    have HB1 := Lib.hid (HB0.out.trans (hb1.mono HB0.out.size))
    have HU1 := Lib.hid (HU0.out.keep hb1 HU0.out.lt)
    have HV1 := Lib.hid (HV0.out.keep hb1 HV0.out.lt)
    have hsz1 := hb1.size
    have HS1 := Lib.hid (HS0.out.below hb1)
    clear hb1
    go_wp2_with fail
    refine (in_yes (t : Int) 1 24 _ (by omega) (by omega)).mono ?_
    rintro e w' ⟨rfl, rfl⟩
    go_wp2
    go_loopw [6, 19] (fun v i wr => ∃ k : Nat, k ≤ len ∧ i = .int .i64 (k : Nat) ∧ VecAt (zs.take k) w1 wr v) (fun _ i _ => len - (intOf i).toNat)
    case atStart => exact ⟨0, by omega, rfl, by rw [List.take_zero]; exact vec_made w1⟩
    case round =>
      obtain ⟨k, hk, rfl, ⟨av, cv, rfl, hown, hnx, hsz⟩⟩ := hrel
      obtain ⟨P, hP⟩ : ∃ P, zs.take k = P := ⟨_, rfl⟩
      rw [hP] at hown ⊢
      have HPP := Lib.hid hP
      have HPN : Hid (P.length = k) := Lib.hid (by rw [← hP, List.length_take]; have := HLEN.out; omega)
      have HPL : P.length ≤ 1048577 := by have := HPN.out; omega
      have HOW := Lib.hid hown
      have HXX := Lib.hid hnx
      have HZ := Lib.hid hsz
      clear hown hnx hsz hP
      have HI := Lib.hid (HS1.out.below HXX.out)
      by_cases hlt : k < len
      · obtain ⟨gb, off, z, rfl, hb, hs, hcc, hz1, hz2⟩ := HI.out.at hlt
        obtain ⟨hza, hzb⟩ := HRX.out z (List.mem_of_getElem? hs)
        have hmod : z.tmod (t : Int) = z := Int.tmod_eq_of_lt hza hzb
        have HTK : Hid (zs.take (k + 1) = P ++ [z]) := Lib.hid (by rw [List.take_add_one, hs, HPP.out]; rfl)
        clear hs
        go_wp2_with (at_builtin; refine append_int rfl _ _ rfl w1.heap.size _ P z _ HOW.out HPL HZ.out _ rfl rfl rfl ?_; intro a' c' w' hown' hb'; have HO2 := Lib.hid hown'; have HX2 := Lib.hid hb'; clear hown' hb')
        go_roundw
        case rel =>
          refine ⟨k + 1, by omega, by go_num, ?_⟩
          rw [HTK.out]
          have := vec_snoc HXX.out HZ.out HO2.out HX2.out
          simpa using this
        case measure => simp [intOf]; omega
      · obtain ⟨w2, hw2⟩ : ∃ w2, w2 = wr := ⟨_, rfl⟩
        rw [← hw2] at HOW HXX HZ HI ⊢
        clear hw2
        have hPz : P = zs := by rw [← HPP.out, List.take_of_length_le (by have := HLEN.out; omega)]
        subst hPz
        have HIL := Lib.hid (intsAt_own HOW.out HS.out.int)
        have HB2 := Lib.hid (HB1.out.trans (HXX.out.mono HB1.out.size))
        have HU2 := Lib.hid (HU1.out.keep HXX.out HU1.out.lt)
        have HV2 := Lib.hid (HV1.out.keep HXX.out HV1.out.lt)
        have hsz2 := HXX.out.size
        have HS2 := Lib.hid (HS1.out.below HXX.out)
        go_wp2_with fail
        refine (of_any t av P.length cv P _ HIL.out (by omega) (by omega)).mono ?_
        rw [HOX.out]
        rintro e w3 ⟨b3, c3, rfl, hown3, hb3⟩
        have HR3 := Lib.hid (row_of hown3)
        have HB3 := Lib.hid (HB2.out.trans (hb3.mono HB2.out.size))
        have HU3 := Lib.hid (HU2.out.keep hb3 HU2.out.lt)
        have HV3 := Lib.hid (HV2.out.keep hb3 HV2.out.lt)
        have hsz3 := hb3.size
        have HS3 := Lib.hid (HS2.out.below hb3)
        clear hown3 hb3
        go_wp2_with fail
        refine (lpe_spec a len cap P _ HS3.out hm0).mono ?_
        rintro e w4 ⟨b4, c4, rfl, hown4, hb4⟩
        have HI4 := Lib.hid (intsAt_own hown4 HPI.out)
        have HR34 := Lib.hid (HR3.out.keep hb4)
        have HB4 := Lib.hid (HB3.out.trans (hb4.mono HB3.out.size))
        have HU4 := Lib.hid (HU3.out.keep hb4 HU3.out.lt)
        have HV4 := Lib.hid (HV3.out.keep hb4 HV3.out.lt)
        have hsz4 := hb4.size
        clear hown4 hb4
        go_wp2_with fail
        refine (of_any t b4 (perL P).length c4 (perL P) _ HI4.out (by omega) (by omega)).mono ?_
        rw [show ofZ t (perL P) = perL P by rw [HPE.out]; exact HOE.out]
        rintro e w5 ⟨b5, c5, rfl, hown5, hb5⟩
        have HR5 := Lib.hid (row_of (own_base hown5 hsz4))
        have HR35 := Lib.hid (HR34.out.keep hb5)
        have HB5 := Lib.hid (HB4.out.trans (hb5.mono HB4.out.size))
        have HU5 := Lib.hid (HU4.out.keep hb5 HU4.out.lt)
        have HV5 := Lib.hid (HV4.out.keep hb5 HV4.out.lt)
        have hsz5 := hb5.size
        have hz0 := HZ0.out
        clear hown5 hb5
        obtain ⟨q0, q1, q2, q3⟩ := HU5.out.facts
        have l1 := HU5.out.lt
        obtain ⟨r0, r1, r2, r3⟩ := HV5.out.facts
        have l2 := HV5.out.lt
        go_wp2
        have EU := Lib.hid ((((HU5.out.set0 (.int .i64 (t : Nat))).set1 (.slice b3 P.length c3)).other (c := w.heap.size + 1) (o := 0) (.int .i64 (t : Nat)) (by omega)).other (c := w.heap.size + 1) (o := 1) (.slice b5 (perL P).length c5) (by omega))
        have EV := Lib.hid ((((HV5.out.other (c := w.heap.size) (o := 0) (.int .i64 (t : Nat)) (by omega)).other (c := w.heap.size) (o := 1) (.slice b3 P.length c3) (by omega)).set0 (.int .i64 (t : Nat))).set1 (.slice b5 (perL P).length c5))
        obtain ⟨u0, u1, u2, u3⟩ := EU.out.facts
        obtain ⟨v0, v1, v2, v3⟩ := EV.out.facts
        refine bodyPost_ret (v := .tuple #[rhy (t : Nat) b3 P.length c3, rhy (t : Nat) b5 (perL P).length c5, .bool true]) (by simp [results, Try.results43, go_sem, *]) rfl (c2_yes HG.out ?_)
        rw [HT.out]
        exact ⟨b3, c3, b5, c5, w3.heap.size, rfl, (((((HR35.out).set (by omega) _ _).set (by omega) _ _).set (by omega) _ _).set (by omega) _ _).lo (by omega), by simpa using (((((HR5.out).set (by omega) _ _).set (by omega) _ _).set (by omega) _ _).set (by omega) _ _), by omega, (((HB5.out.setCell (by show w.heap.size ≤ w.heap.size; omega) _).setCell (by show w.heap.size ≤ w.heap.size; omega) _).setCell (by show w.heap.size ≤ w.heap.size + 1; omega) _).setCell (by show w.heap.size ≤ w.heap.size + 1; omega) _⟩
  · have HN := Lib.hid hg
    have HT := Lib.hid (linS_no hg)
    rw [HT.out] at HLP
    clear hg
    go_enter Try.func43, Try.ntmps43
    go_wp2_with fail
    rw [← HW.out]
    refine HLP.out.mono ?_
    rintro e w1 ⟨rfl, hb1⟩
    have HB1 := Lib.hid (HB0.out.trans (hb1.mono HB0.out.size))
    have HU1 := Lib.hid (HU0.out.keep hb1 HU0.out.lt)
    have HV1 := Lib.hid (HV0.out.keep hb1 HV0.out.lt)
    have hsz1 := hb1.size
    clear hb1
    go_wp2_with fail
    refine (in_no 0 1 24 _ (by omega)).mono ?_
    rintro e w' ⟨rfl, rfl⟩
    obtain ⟨q0, q1, q2, q3⟩ := HU1.out.facts
    have l1 := HU1.out.lt
    obtain ⟨r0, r1, r2, r3⟩ := HV1.out.facts
    have l2 := HV1.out.lt
    go_wp2
    refine bodyPost_ret (v := .tuple #[rhy 0 none 0 0, rhy 0 none 0 0, .bool false]) (by simp [results, Try.results43, go_sem, *]) rfl (c2_no HN.out ?_)
    exact (((HB1.out.setCell (by show w.heap.size ≤ w.heap.size; omega) _).setCell (by show w.heap.size ≤ w.heap.size; omega) _).setCell (by show w.heap.size ≤ w.heap.size + 1; omega) _).setCell (by show w.heap.size ≤ w.heap.size + 1; omega) _
theorem lt_x (zs : List Int) : AllInt (cZ (GoC zs) zs) ∧ (cZ (GoC zs) zs).length ≤ 576 := by
  by_cases h : GoC zs
  · rw [cZ_yes h]
    obtain ⟨xs, es, t, g, C⟩ := crs_of h.1
    refine ⟨fun z hz => ?_, by rw [C.pat, zsN_len]; have := C.len; omega⟩
    rw [C.pat] at hz
    obtain ⟨n, h1, rfl⟩ := zsN_mem hz
    have := C.small h.1 n h1
    omega
  · rw [cZ_no h]; exact ⟨(fun z hz => by cases hz), by simp⟩
theorem lt_y (zs : List Int) : AllInt (cZ (GoC zs) (perL zs)) ∧ (cZ (GoC zs) (perL zs)).length ≤ 576 := by
  by_cases h : GoC zs
  · rw [cZ_yes h]
    exact ⟨(perL_fact zs).1, Nat.le_trans (perL_fact zs).2 (by omega)⟩
  · rw [cZ_no h]; exact ⟨(fun z hz => by cases hz), by simp⟩
end Go.Proofs.Ytldpikcgeijkpaa.Rhy
