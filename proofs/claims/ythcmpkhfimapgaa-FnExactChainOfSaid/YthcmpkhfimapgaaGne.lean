/-
  Helpers of the claims beside this text: ExtendChain of the model.
-/
import Derived.Test.YthcmpkhfimapgaaGnc
import Derived.Test.YthcmpkhfimapgaaIvs
namespace Go.Proofs.Ythcmpkhfimapgaa.Rhy
open Go.RowKit
set_option linter.unusedVariables false
set_option linter.unusedSimpArgs false

/-- What comes behind the chain. -/
noncomputable def exP (s : Int) (zs : List Int) (g : Int) : Int := ((chB s zs g)[(chB s zs g).length - 1]?.getD 0 + g) % s
def exC (s : Int) (zs : List Int) (g : Int) : Prop := 0 < (chB s zs g).length ∧ hasB zs (exP s zs g) = false
noncomputable def exZ (s : Int) (zs : List Int) (g : Int) : List Int := ofZ s.toNat (chB s zs g ++ [exP s zs g])
theorem chB_pos {s g : Int} {zs : List Int} (h : 0 < (chB s zs g).length) : hasB (gnB s zs) g = true := by
  cases hq : hasB (gnB s zs) g
  · rw [chB_no hq] at h; simp at h
  · rfl
theorem chB_bd {s g : Int} {zs : List Int} : ∀ x ∈ chB s zs g, 0 ≤ x ∧ x < s := by
  intro x hx
  have hq := chB_pos (List.length_pos_of_mem hx)
  have ho := (gnB_in hq).1
  rw [chB_yes hq] at hx
  unfold chP at hx
  rw [List.mem_map] at hx
  obtain ⟨i, _, rfl⟩ := hx
  exact em_bd _ ho.1.1

set_option maxHeartbeats 1000000 in
set_option maxRecDepth 100000 in
theorem ext_spec (s : Int) (a : Option Addr) (len cap : Nat) (zs : List Int) (g : Int) (w : World) (h : IntsAt w a len zs) (hm : zs.length ≤ 1048576) (h3 : -9223372036854775808 ≤ g) (h4 : g ≤ 9223372036854775807) :
    Calls Try.prog 44 #[rhy s a len cap, .int .i64 g] w (CPost (exC s zs g) s (exZ s zs g) w) := by
  have HS := Lib.hid h
  obtain rfl : zs.length = len := h.len
  clear h
  obtain ⟨L, hL⟩ : ∃ L, chB s zs g = L := ⟨_, rfl⟩
  have hml : L.length ≤ 1048577 := by rw [← hL]; have := chB_len s zs g; omega
  have hl24 : L.length ≤ 24 := by rw [← hL]; exact chB_len s zs g
  have HLI : Hid (AllInt L) := Lib.hid (by rw [← hL]; exact chB_int s zs g)
  have HLB : Hid (∀ x ∈ L, 0 ≤ x ∧ x < s) := Lib.hid (by rw [← hL]; exact chB_bd)
  have HL := Lib.hid hL
  have HPOS : Hid (0 < L.length → hasB (gnB s zs) g = true) := Lib.hid (by rw [← hL]; exact chB_pos)
  clear hL
  obtain ⟨W0, hW⟩ : ∃ W0, W0 = (w.alloc (.cells #[.int .i64 s, .slice a zs.length cap] 26)).alloc (.cells #[.int .i64 0, .slice none 0 0] 26) := ⟨_, rfl⟩
  have HW := Lib.hid hW
  have HB := Lib.hid (show Below w.heap.size w W0 by rw [hW]; exact bel2 w _ _)
  have HT := Lib.hid (show Box W0 w.heap.size (.int .i64 s) (.slice a zs.length cap) 26 by rw [hW]; exact (box_new w _ _ _).keep (bel1 _ _) (by simp))
  have HU := Lib.hid (show Box W0 (w.heap.size + 1) (.int .i64 0) (.slice none 0 0) 26 by
    rw [hW]
    have := box_new (w.alloc (.cells #[.int .i64 s, .slice a zs.length cap] 26)) (.int .i64 0) (.slice none 0 0) 26
    simpa using this)
  have HSZ := Lib.hid (show W0.heap.size = w.heap.size + 2 by rw [hW]; simp)
  clear hW
  go_enter Try.func44, Try.ntmps44
  go_wp2_with fail
  rw [← HW.out]
  refine (chn_spec s a zs.length cap zs g W0 (HS.out.below HB.out) hm h3 h4).mono ?_
  rintro e W1 ⟨av, cv, rfl, hown, hb1⟩
  rw [HL.out] at hown ⊢
  have HO1 := Lib.hid hown
  have HI1 : Hid (IntsAt W1 av L.length L) := Lib.hid (intsAt_own hown HLI.out)
  have HZ1 := Lib.hid hb1.size
  have HB0S := Lib.hid HB.out.size
  have HB1 := Lib.hid (HB.out.trans (hb1.mono HB.out.size))
  have HAL := Lib.hid (show w.heap.size < W0.heap.size by have := HSZ.out; omega)
  have HRL := Lib.hid (show w.heap.size + 1 < W0.heap.size by have := HSZ.out; omega)
  have HA1 := Lib.hid (HT.out.keep hb1 HAL.out)
  have HR1 := Lib.hid (HU.out.keep hb1 HRL.out)
  have HIz : Hid (IntsAt W1 a zs.length zs) := Lib.hid (HS.out.below HB1.out)
  obtain ⟨x0, x1, _, _⟩ := HA1.out.facts
  have xl := HA1.out.lt
  obtain ⟨r0, r1, r2, r3⟩ := HR1.out.facts
  have rlt := HR1.out.lt
  clear hown hb1
  by_cases h0 : L.length = 0
  · have hd : ((L.length : Int) == 0) = true := by rw [h0]; rfl
    have HC := Lib.hid (show ¬ exC s zs g from fun q => by have := q.1; rw [HL.out] at this; omega)
    go_wp2
    refine bodyPost_ret (v := .tuple #[rhy 0 none 0 0, .bool false]) (by simp [results, Try.results44, go_sem, *]) rfl ?_
    exact cpost_no HC.out ((HB1.out.setCell (by simp) _).setCell (by simp) _)
  · have hd : ((L.length : Int) == 0) = false := by rw [beq_eq_false_iff_ne]; omega
    obtain ⟨ho, hg1, hgs, _⟩ := gnB_in (HPOS.out (by omega))
    obtain ⟨n, rfl⟩ : ∃ n : Nat, s = n := ⟨s.toNat, by have := ho.1; omega⟩
    have hn1 : 1 ≤ n := by have := ho.1.1; omega
    have hn24 : n ≤ 24 := by have := ho.1.2; omega
    have hz24 := ok_len ho
    clear ho
    obtain ⟨b, off, y, rfl, hb, hy, hcy, hy1, hy2⟩ := HI1.out.at (k := L.length - 1) (by omega)
    have hyb := HLB.out y (List.mem_of_getElem? hy)
    obtain ⟨p, hp⟩ : ∃ p, (y + g) % (n : Int) = p := ⟨_, rfl⟩
    have hpb := em_bd (y + g) (show (1 : Int) ≤ (n : Int) by omega)
    rw [hp] at hpb
    have HP : Hid (exP n zs g = p) := Lib.hid (by unfold exP; rw [HL.out, hy, ← hp]; rfl)
    have HLPI : Hid (AllInt (L ++ [p])) := Lib.hid (fun z hz => by
      rcases List.mem_append.1 hz with q | q
      · exact HLI.out z q
      · rw [List.mem_singleton] at q; omega)
    have hw1 : IntKind.i64.wrap ((L.length : Int) - 1) = ((L.length - 1 : Nat) : Int) := (IntWalk.i64_in _ ⟨by omega, by omega⟩).trans (by omega)
    have hw2 : IntKind.i64.wrap (y + g) = y + g := IntWalk.i64_in _ ⟨by omega, by omega⟩
    have hq : Int.tmod (y + g) n = p := by rw [Int.tmod_eq_emod_of_nonneg (by omega)]; exact hp
    have hw3 : IntKind.i64.wrap p = p := IntWalk.i64_in _ ⟨by omega, by omega⟩
    have hn0 : ¬ n = 0 := by omega
    have k0 : (0 : Int) ≤ ((L.length - 1 : Nat) : Int) := by omega
    have k1 : ((L.length - 1 : Nat) : Int) < (L.length : Int) := by omega
    clear hy hp
    go_wp2
    refine wp_region_held_drew (S := fun W' => W'.cell? ⟨b, off + (L.length - 1), none⟩ = some (.int .i64 y) ∧ W'.cell? ⟨w.heap.size, 0, none⟩ = some (.int .i64 n)) (by kernel_rfl) ⟨hcy, x0⟩ (fun hSS0 => ?_)
    refine wpAnyH_take (i := 0) (oi := ⟨some 15, _, _, _, _, _⟩) (v := .slice (some ⟨b, off, none⟩) L.length cv) rfl (by kernel_rfl) (by kernel_rfl) (by kernel_rfl) (fun _ _ _ h => h) (Or.inl ⟨by rfl, fun w' hSw => by go_simp⟩) (by assumption) ?_
    try simp only [Act.put, List.setIfInBounds_toArray, List.set_cons_zero, List.set_cons_succ]
    refine wpAnyH_take (i := 1) (oi := ⟨some 16, _, _, _, _, _⟩) (v := .slice (some ⟨b, off, none⟩) L.length cv) rfl (by kernel_rfl) (by kernel_rfl) (by kernel_rfl) (fun _ _ _ h => h) (Or.inl ⟨by rfl, fun w' hSw => by go_simp⟩) (by assumption) ?_
    try simp only [Act.put, List.setIfInBounds_toArray, List.set_cons_zero, List.set_cons_succ]
    refine wpAnyH_take (i := 2) (oi := ⟨some 17, _, _, _, _, _⟩) (v := .int .i64 (L.length : Nat)) rfl (by kernel_rfl) (by kernel_rfl) (by kernel_rfl) (fun _ _ _ h => h) (Or.inl ⟨by rfl, fun w' hSw => by go_simp⟩) (by assumption) ?_
    try simp only [Act.put, List.setIfInBounds_toArray, List.set_cons_zero, List.set_cons_succ]
    refine wpAnyH_take (i := 3) (oi := ⟨some 18, _, _, _, _, _⟩) (v := .int .i64 ((L.length - 1 : Nat) : Int)) rfl (by kernel_rfl) (by kernel_rfl) (by kernel_rfl) (fun _ _ _ h => h) (Or.inl ⟨by rfl, fun w' hSw => by go_simp⟩) (by assumption) ?_
    try simp only [Act.put, List.setIfInBounds_toArray, List.set_cons_zero, List.set_cons_succ]
    refine wpAnyH_take (i := 4) (oi := ⟨some 19, _, _, _, _, _⟩) (v := .pointer (some ⟨b, off + (L.length - 1), none⟩)) rfl (by kernel_rfl) (by kernel_rfl) (by kernel_rfl) (fun _ _ _ h => h) (Or.inl ⟨by rfl, fun w' hSw => by go_simp⟩) (by assumption) ?_
    try simp only [Act.put, List.setIfInBounds_toArray, List.set_cons_zero, List.set_cons_succ]
    refine wpAnyH_take (i := 5) (oi := ⟨some 20, _, _, _, _, _⟩) (v := .int .i64 y) rfl (by kernel_rfl) (by kernel_rfl) (by kernel_rfl) (fun _ _ _ h => h) (Or.inl ⟨by rfl, fun w' hSw => by obtain ⟨q1, _⟩ := hSw; go_simp⟩) (by assumption) ?_
    try simp only [Act.put, List.setIfInBounds_toArray, List.set_cons_zero, List.set_cons_succ]
    refine wpAnyH_take (i := 6) (oi := ⟨some 21, _, _, _, _, _⟩) (v := .int .i64 g) rfl (by kernel_rfl) (by kernel_rfl) (by kernel_rfl) (fun _ _ _ h => h) (Or.inl ⟨by rfl, fun w' hSw => by go_simp⟩) (by assumption) ?_
    try simp only [Act.put, List.setIfInBounds_toArray, List.set_cons_zero, List.set_cons_succ]
    refine wpAnyH_take (i := 7) (oi := ⟨some 22, _, _, _, _, _⟩) (v := .int .i64 (y + g)) rfl (by kernel_rfl) (by kernel_rfl) (by kernel_rfl) (fun _ _ _ h => h) (Or.inl ⟨by rfl, fun w' hSw => by go_simp⟩) (by assumption) ?_
    try simp only [Act.put, List.setIfInBounds_toArray, List.set_cons_zero, List.set_cons_succ]
    refine wpAnyH_take (i := 8) (oi := ⟨some 23, _, _, _, _, _⟩) (v := .pointer (some ⟨w.heap.size, 0, none⟩)) rfl (by kernel_rfl) (by kernel_rfl) (by kernel_rfl) (fun _ _ _ h => h) (Or.inl ⟨by rfl, fun w' hSw => by go_simp⟩) (by assumption) ?_
    try simp only [Act.put, List.setIfInBounds_toArray, List.set_cons_zero, List.set_cons_succ]
    refine wpAnyH_take (i := 9) (oi := ⟨some 24, _, _, _, _, _⟩) (v := .int .i64 n) rfl (by kernel_rfl) (by kernel_rfl) (by kernel_rfl) (fun _ _ _ h => h) (Or.inl ⟨by rfl, fun w' hSw => by obtain ⟨_, q1⟩ := hSw; go_simp⟩) (by assumption) ?_
    try simp only [Act.put, List.setIfInBounds_toArray, List.set_cons_zero, List.set_cons_succ]
    refine wpAnyH_take (i := 10) (oi := ⟨some 25, _, _, _, _, _⟩) (v := .int .i64 p) rfl (by kernel_rfl) (by kernel_rfl) (by kernel_rfl) (fun _ _ _ h => h) (Or.inl ⟨by rfl, fun w' hSw => by go_simp⟩) (by assumption) ?_
    try simp only [Act.put, List.setIfInBounds_toArray, List.set_cons_zero, List.set_cons_succ]
    refine wpAnyH_take (i := 11) (oi := ⟨some 7, _, _, _, _, _⟩) (v := .int .i64 p) rfl (by kernel_rfl) (by kernel_rfl) (by kernel_rfl) (fun _ _ _ h => h) (Or.inl ⟨by rfl, fun w' hSw => by go_simp⟩) (by assumption) ?_
    try simp only [Act.put, List.setIfInBounds_toArray, List.set_cons_zero, List.set_cons_succ]
    refine wpAnyH_done (by kernel_rfl) ?_ _
    clear hSS0
    cases hc : hasB zs p
    · have HH := Lib.hid hc
      have HC := Lib.hid (show exC n zs g from ⟨by rw [HL.out]; omega, by rw [HP.out]; exact hc⟩)
      have HEZ : Hid (exZ n zs g = ofZ (n : Int).toNat (L ++ [p])) := Lib.hid (by unfold exZ; rw [HL.out, HP.out])
      have HK : Hid (∀ W' : World, Below W0.heap.size W1 W' → W'.cell? ⟨w.heap.size, 0, none⟩ = some (.int .i64 n)) := Lib.hid (fun W' hW => (HA1.out.keep hW HAL.out).facts.1)
      clear hc
      go_wp2_with fail
      refine (has_any a zs.length cap zs p _ (HIz.out.below (Below.refl _ _).drew) (by omega)).mono ?_
      rintro e w' ⟨rfl, rfl⟩
      rw [HH.out]
      go_wp2
      obtain ⟨W2, hW2⟩ : ∃ W2, W2 = W1.drew := ⟨_, rfl⟩
      have HB2 := Lib.hid (show Below W0.heap.size W1 W2 by rw [hW2]; exact (Below.refl _ _).drew)
      have HO2 := Lib.hid (show W2.ownsRow W0.heap.size 3 1 (.slice (some ⟨b, off, none⟩) L.length cv) L.length (ints L) by rw [hW2]; exact own_below HO1.out (Below.refl _ _).drew)
      have HZ2 := Lib.hid (show W0.heap.size ≤ W2.heap.size from Nat.le_trans HZ1.out HB2.out.size)
      have y0 : W2.cell? ⟨w.heap.size, 0, none⟩ = some (.int .i64 n) := HK.out _ HB2.out
      rw [← hW2]
      clear hW2
      refine wp_region_held_drew (S := fun W' => W'.cell? ⟨w.heap.size, 0, none⟩ = some (.int .i64 n)) (by kernel_rfl) (HK.out _ HB2.out.drew) (fun hSS0 => ?_)
      refine wpAnyH_take (i := 0) (oi := ⟨some 31, _, _, _, _, _⟩) (v := .pointer (some ⟨w.heap.size, 0, none⟩)) rfl (by kernel_rfl) (by kernel_rfl) (by kernel_rfl) (fun _ _ _ h => h) (Or.inl ⟨by rfl, fun w' hSw => by go_simp⟩) (by assumption) ?_
      try simp only [Act.put, List.setIfInBounds_toArray, List.set_cons_zero, List.set_cons_succ]
      refine wpAnyH_take (i := 1) (oi := ⟨some 32, _, _, _, _, _⟩) (v := .int .i64 n) rfl (by kernel_rfl) (by kernel_rfl) (by kernel_rfl) (fun _ _ _ h => h) (Or.inl ⟨by rfl, fun w' hSw => by go_simp⟩) (by assumption) ?_
      try simp only [Act.put, List.setIfInBounds_toArray, List.set_cons_zero, List.set_cons_succ]
      refine wpAnyH_take (i := 2) (oi := ⟨some 33, _, _, _, _, _⟩) (v := .slice (some ⟨b, off, none⟩) L.length cv) rfl (by kernel_rfl) (by kernel_rfl) (by kernel_rfl) (fun _ _ _ h => h) (Or.inl ⟨by rfl, fun w' hSw => by go_simp⟩) (by assumption) ?_
      try simp only [Act.put, List.setIfInBounds_toArray, List.set_cons_zero, List.set_cons_succ]
      refine wpAnyH_take (i := 3) (oi := ⟨some 34, _, _, _, _, _⟩) (v := .int .i64 p) rfl (by kernel_rfl) (by kernel_rfl) (by kernel_rfl) (fun _ _ _ h => h) (Or.inl ⟨by rfl, fun w' hSw => by go_simp⟩) (by assumption) ?_
      try simp only [Act.put, List.setIfInBounds_toArray, List.set_cons_zero, List.set_cons_succ]
      refine wpAnyH_ready (rs := [4]) (by kernel_rfl) (by simp) ?_
      refine AllReadyH.cons rfl (fun K hKK => ?_) AllReadyH.nil
      go_simp
      have hbb1 : Below W0.heap.size W1 (W2.drew.alloc (.cells #[.int .i64 p] 3)) := (HB2.out.drew).alloc HZ2.out _
      refine hKK.out _ _ (HK.out _ hbb1) (fun hSS1 => ?_)
      clear hKK K hSS0
      try simp only [Act.put, List.setIfInBounds_toArray, List.set_cons_zero, List.set_cons_succ]
      refine wpAnyH_ready (rs := [5]) (by kernel_rfl) (by simp) ?_
      refine AllReadyH.cons rfl (fun K hKK => ?_) AllReadyH.nil
      rw [show (W2.alloc (.cells #[.int .i64 p] 3)).drew = W2.drew.alloc (.cells #[.int .i64 p] 3) from rfl]
      refine step_append_int rfl _ _ rfl W0.heap.size _ L p W2.drew (own_below HO2.out (Below.refl _ _).drew) hml HZ2.out _ rfl rfl rfl ?_
      intro a' c' w4 hown4 hb4
      have hbb4 : Below W0.heap.size W1 w4 := HB2.out.drew.trans hb4
      have hI4 : IntsAt w4 a' (L.length + 1) (L ++ [p]) := by have := intsAt_own hown4 HLPI.out; rwa [List.length_append, List.length_singleton] at this
      clear hown4 hb4 hbb1
      refine hKK.out _ _ (HK.out _ hbb4) (fun hSS2 => ?_)
      clear hKK K hSS1
      try simp only [Act.put, List.setIfInBounds_toArray, List.set_cons_zero, List.set_cons_succ]
      refine wpAnyH_ready (rs := [6]) (by kernel_rfl) (by simp) ?_
      refine AllReadyH.cons rfl (fun K hKK => ?_) AllReadyH.nil
      go_simp
      go_at_call 71
      refine (of_int n a' (L.length + 1) c' (L ++ [p]) w4 hI4 (by omega) (by omega) (by omega)).mono ?_
      rintro e w5 ⟨a5, c5, rfl, hown5, hb5⟩
      have hs4 := hbb4.size
      have hbb5 : Below W0.heap.size W1 w5 := hbb4.trans (hb5.mono (Nat.le_trans HZ1.out hs4))
      have HO5 := Lib.hid hown5
      have HR5 := Lib.hid (HR1.out.keep hbb5 HRL.out)
      have HA5 := Lib.hid (HA1.out.keep hbb5 HAL.out)
      obtain ⟨r0, r1, r2, r3⟩ := HR5.out.facts
      have rlt := HR5.out.lt
      have HBF := Lib.hid (HB1.out.trans (hbb5.mono HB0S.out))
      have hs5 : W0.heap.size ≤ w4.heap.size := Nat.le_trans HZ1.out hs4
      clear hown5 hb5 hI4 hbb4
      refine hKK.out _ _ (HK.out _ hbb5) (fun hSS3 => ?_)
      clear hKK K hSS2
      try simp only [Act.put, List.setIfInBounds_toArray, List.set_cons_zero, List.set_cons_succ]
      refine wpAnyH_ready (rs := [7]) (by kernel_rfl) (by simp) ?_
      refine AllReadyH.cons rfl (fun K hKK => ?_) AllReadyH.nil
      go_simp
      refine hKK.out _ _ (((HA5.out.other _ (by omega)).other _ (by omega)).facts.1) (fun hSS4 => ?_)
      clear hKK K hSS3
      try simp only [Act.put, List.setIfInBounds_toArray, List.set_cons_zero, List.set_cons_succ]
      refine wpAnyH_take (i := 8) (oi := ⟨some 5, _, _, _, _, _⟩) (v := .bool true) rfl (by kernel_rfl) (by kernel_rfl) (by kernel_rfl) (fun _ _ _ h => h) (Or.inl ⟨by rfl, fun w' hSw => by go_simp⟩) (by assumption) ?_
      try simp only [Act.put, List.setIfInBounds_toArray, List.set_cons_zero, List.set_cons_succ]
      refine wpAnyH_done (by kernel_rfl) ?_ _
      go_wp2
      refine bodyPost_ret (v := .tuple #[rhy n a5 (ofZ (n : Int).toNat (L ++ [p])).length c5, .bool true]) (by simp [results, Try.results44, go_sem, *]) rfl ?_
      refine cpost_yes HC.out (by rw [HEZ.out]) ?_ ?_
      · rw [HEZ.out]
        exact own_base (ownsRow_setCell_below (ownsRow_setCell_below HO5.out (by show w.heap.size + 1 < w4.heap.size; have := HRL.out; omega) _) (by show w.heap.size + 1 < w4.heap.size; have := HRL.out; omega) _) (by have := HSZ.out; omega)
      · exact (HBF.out.setCell (by simp) _).setCell (by simp) _
    · have HH := Lib.hid hc
      have HC := Lib.hid (show ¬ exC n zs g from fun q => by have := q.2; rw [HP.out, hc] at this; cases this)
      clear hc
      go_wp2_with fail
      refine (has_any a zs.length cap zs p _ (HIz.out.below (Below.refl _ _).drew) (by omega)).mono ?_
      rintro e w' ⟨rfl, rfl⟩
      rw [HH.out]
      go_wp2
      refine bodyPost_ret (v := .tuple #[rhy 0 none 0 0, .bool false]) (by simp [results, Try.results44, go_sem, *]) rfl ?_
      exact cpost_no HC.out ((HB1.out.drew.setCell (by simp) _).setCell (by simp) _)
end Go.Proofs.Ythcmpkhfimapgaa.Rhy
