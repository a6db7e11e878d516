/-
  Helpers of the claims beside this text: DifferencesOf, VectorOf, SameVector, AreTwins of the program.
-/
import Derived.Test.YtcppmcacjjjjeaaDfk
import Derived.Test.YtcppmcacjjjjeaaIvs
namespace Go.Proofs.Ytcppmcacjjjjeaa.Rhy
open Go.RowKit
set_option linter.unusedVariables false
set_option linter.unusedSimpArgs false

set_option maxHeartbeats 400000 in
theorem difs_impl (s : Int) (a : Option Addr) (len cap : Nat) (zs : List Int) (w : World) (h : IntsAt w a len zs) (hm : zs.length ≤ 1048576) :
    Calls Try.prog 16 #[rhy s a len cap] w (IPost (difB s zs) w) := by
  have HS := Lib.hid h
  have hl : len ≤ 1048576 := by have := h.1; omega
  clear h
  by_cases ho : Ok s zs
  · obtain ⟨n, rfl⟩ : ∃ n : Nat, s = n := ⟨s.toNat, by have := ho.1; omega⟩
    have HO := Lib.hid ho
    have HE : Hid (difB n zs = difZ n zs) := Lib.hid (cZ_yes ho)
    clear ho
    go_enter Try.func16, Try.ntmps16
    go_wp2_with fail
    refine (valid_yes n a len cap zs _ (HS.out.below (bel1 w _)) hl HO.out).mono ?_
    rintro e w1 ⟨rfl, hb1⟩
    have HB := Lib.hid ((bel1 w (.cells #[.int .i64 n, .slice a len cap] 25)).trans (hb1.mono (by simp)))
    have HT := Lib.hid ((two_new w (.int .i64 n) (.slice a len cap) 25).keep hb1)
    obtain ⟨t1, t1a, t1b⟩ := HT.out
    clear hb1
    go_wp2_with fail
    refine (counts_any n a len cap zs w1 (HS.out.below HB.out) hl HO.out).mono ?_
    rintro e w2 ⟨b, c, rfl, hown, hb⟩
    have HW := Lib.hid hown
    have HB2 := Lib.hid hb
    clear hown hb
    go_wp2
    go_ret
    rw [HE.out]
    exact ⟨b, c, rfl, own_base HW.out HB.out.size, HB.out.trans (HB2.out.mono HB.out.size)⟩
  · have HO := Lib.hid ho
    clear ho
    go_enter Try.func16, Try.ntmps16
    go_wp2_with fail
    refine (valid_no s a len cap zs _ (HS.out.below (bel1 w _)) hl HO.out).mono ?_
    rintro e w1 ⟨rfl, hb1⟩
    have HB := Lib.hid ((bel1 w (.cells #[.int .i64 s, .slice a len cap] 25)).trans (hb1.mono (by simp)))
    clear hb1
    go_wp2
    go_ret
    exact ipost_nil HO.out HB.out


set_option maxHeartbeats 400000 in
theorem vec_impl (s : Int) (a : Option Addr) (len cap : Nat) (zs : List Int) (w : World) (h : IntsAt w a len zs) (hm : zs.length ≤ 1048576) :
    Calls Try.prog 17 #[rhy s a len cap] w (IPost (vecB s zs) w) := by
  have HS := Lib.hid h
  have hl : len ≤ 1048576 := by have := h.1; omega
  clear h
  by_cases ho : Ok s zs
  · obtain ⟨n, rfl⟩ : ∃ n : Nat, s = n := ⟨s.toNat, by have := ho.1; omega⟩
    have HO := Lib.hid ho
    have HE : Hid (vecB n zs = vecZ n zs) := Lib.hid (cZ_yes ho)
    clear ho
    go_enter Try.func17, Try.ntmps17
    go_wp2_with fail
    refine (valid_yes n a len cap zs _ (HS.out.below (bel1 w _)) hl HO.out).mono ?_
    rintro e w1 ⟨rfl, hb1⟩
    have HB := Lib.hid ((bel1 w (.cells #[.int .i64 n, .slice a len cap] 25)).trans (hb1.mono (by simp)))
    have HT := Lib.hid ((two_new w (.int .i64 n) (.slice a len cap) 25).keep hb1)
    obtain ⟨t1, t1a, t1b⟩ := HT.out
    clear hb1
    go_wp2_with fail
    refine (vector_any n a len cap zs w1 (HS.out.below HB.out) hl HO.out).mono ?_
    rintro e w2 ⟨b, c, rfl, hown, hb⟩
    have HW := Lib.hid hown
    have HB2 := Lib.hid hb
    clear hown hb
    go_wp2
    go_ret
    rw [HE.out]
    exact ⟨b, c, rfl, own_base HW.out HB.out.size, HB.out.trans (HB2.out.mono HB.out.size)⟩
  · have HO := Lib.hid ho
    clear ho
    go_enter Try.func17, Try.ntmps17
    go_wp2_with fail
    refine (valid_no s a len cap zs _ (HS.out.below (bel1 w _)) hl HO.out).mono ?_
    rintro e w1 ⟨rfl, hb1⟩
    have HB := Lib.hid ((bel1 w (.cells #[.int .i64 s, .slice a len cap] 25)).trans (hb1.mono (by simp)))
    clear hb1
    go_wp2
    go_ret
    exact ipost_nil HO.out HB.out

theorem same_iq (a b : Option Addr) (n m ca cb : Nat) (xs ys : List Int) (q : Bool) (w : World) (ha : IntsAt w a n xs) (hb : IntsAt w b m ys) (hn : n ≤ 1048576) (hm : m ≤ 1048576) (hq : eqB xs ys = q) :
    Calls Try.prog 67 #[.slice a n ca, .slice b m cb] w fun e w' => e = .returned (.bool q) ∧ Below w.heap.size w w' :=
  (same_impl0 a b n m ca cb xs ys w ha hb hn hm).mono fun e w' h => ⟨by rw [h.1, hq], h.2⟩
theorem one_q (s : Int) (a : Option Addr) (n ca : Nat) (xs : List Int) (t : Int) (b : Option Addr) (m cb : Nat) (ys : List Int) (q : Bool) (w : World) (ha : IntsAt w a n xs) (hn : xs.length ≤ 1048576) (hb : IntsAt w b m ys) (hm : ys.length ≤ 1048576) (hq : oneB s xs t ys = q) :
    Calls Try.prog 63 #[rhy s a n ca, rhy t b m cb] w fun e w' => e = .returned (.bool q) ∧ Below w.heap.size w w' :=
  (one_any s a n ca xs t b m cb ys w ha hn hb hm).mono fun e w' h => ⟨by rw [h.1, hq], h.2⟩

set_option maxHeartbeats 1000000 in
theorem samevec_impl (s : Int) (a : Option Addr) (n ca : Nat) (xs : List Int) (t : Int) (b : Option Addr) (m cb : Nat) (ys : List Int) (w : World) (ha : IntsAt w a n xs) (hn : xs.length ≤ 1048576) (hb : IntsAt w b m ys) (hm : ys.length ≤ 1048576) :
    Calls Try.prog 23 #[rhy s a n ca, rhy t b m cb] w fun e w' => e = .returned (.bool (svB s xs t ys)) ∧ Below w.heap.size w w' := by
  have FA := Lib.hid ha
  have FB := Lib.hid hb
  have hn' : n ≤ 1048576 := by have := ha.1; omega
  have hm' : m ≤ 1048576 := by have := hb.1; omega
  clear ha hb
  obtain ⟨W0, hW⟩ : ∃ W0, W0 = (w.alloc (.cells #[.int .i64 s, .slice a n ca] 25)).alloc (.cells #[.int .i64 t, .slice b m cb] 25) := ⟨_, rfl⟩
  have HW := Lib.hid hW
  have HB0 := Lib.hid (show Below w.heap.size w W0 by rw [hW]; exact bel2 w _ _)
  have HX0 : Hid (RhI W0 w.heap.size s a n ca xs) := Lib.hid ⟨by rw [hW]; exact (box_new w _ _ _).keep (bel1 _ _) (by simp), FA.out.below HB0.out⟩
  have HY0 : Hid (RhI W0 (w.heap.size + 1) t b m cb ys) := Lib.hid ⟨by rw [hW]; simpa using box_new (w.alloc (.cells #[.int .i64 s, .slice a n ca] 25)) (.int .i64 t) (.slice b m cb) 25, FB.out.below HB0.out⟩
  clear hW FA FB
  by_cases ho : Ok s xs ∧ Ok t ys ∧ s = t
  · obtain ⟨hx, hy, hst⟩ := ho
    subst hst
    obtain ⟨nn, rfl⟩ : ∃ nn : Nat, s = nn := ⟨s.toNat, by have := hx.1; omega⟩
    obtain ⟨q, hq⟩ : ∃ q, eqB (vecZ nn xs) (vecZ nn ys) = q := ⟨_, rfl⟩
    have HQ := Lib.hid hq
    have HO := Lib.hid hx
    have HP := Lib.hid hy
    have HON := Lib.hid (oneB_yes (⟨hx, hy, rfl⟩ : Ok (nn : Int) xs ∧ Ok (nn : Int) ys ∧ (nn : Int) = nn))
    have HE : Hid (svB nn xs nn ys = q) := Lib.hid (by rw [svB_yes hx hy, hq])
    have HVX := Lib.hid (vec_int hx)
    have HVY := Lib.hid (vec_int hy)
    have HLX : Hid ((vecZ nn xs).length ≤ 24) := Lib.hid (by rw [vec_len]; have := hx.1; omega)
    have HLY : Hid ((vecZ nn ys).length ≤ 24) := Lib.hid (by rw [vec_len]; have := hx.1; omega)
    clear hx hy hq
    go_enter Try.func23, Try.ntmps23
    go_wp2
    rw [← HW.out]
    have HK : Hid (∀ W' : World, Below W0.heap.size W0 W' → W'.cell? ⟨w.heap.size, 0, none⟩ = some (.int .i64 nn) ∧ W'.cell? ⟨w.heap.size, 1, none⟩ = some (.slice a n ca) ∧ W'.cell? ⟨(w.heap.size + 1), 0, none⟩ = some (.int .i64 nn) ∧ W'.cell? ⟨(w.heap.size + 1), 1, none⟩ = some (.slice b m cb) ∧ Below W0.heap.size W0 W') :=
      Lib.hid (fun W' hW => ⟨(HX0.out.keep hW).1.facts.1, (HX0.out.keep hW).1.facts.2.1, (HY0.out.keep hW).1.facts.1, (HY0.out.keep hW).1.facts.2.1, hW⟩)
    have HIx : Hid (∀ W' : World, Below W0.heap.size W0 W' → IntsAt W' a n xs) := Lib.hid (fun W' hW => (HX0.out.keep hW).2)
    have HIy : Hid (∀ W' : World, Below W0.heap.size W0 W' → IntsAt W' b m ys) := Lib.hid (fun W' hW => (HY0.out.keep hW).2)
    refine wp_region_held_drew (S := fun W' => W'.cell? ⟨w.heap.size, 0, none⟩ = some (.int .i64 nn) ∧ W'.cell? ⟨w.heap.size, 1, none⟩ = some (.slice a n ca) ∧ W'.cell? ⟨(w.heap.size + 1), 0, none⟩ = some (.int .i64 nn) ∧ W'.cell? ⟨(w.heap.size + 1), 1, none⟩ = some (.slice b m cb) ∧ Below W0.heap.size W0 W') (by kernel_rfl) (HK.out _ (Below.refl _ _).drew) (fun hSS0 => ?_)
    refine wpAnyH_take (i := 0) (oi := ⟨some 5, _, _, _, _, _⟩) (v := .agg #[.int .i64 nn, .slice a n ca]) rfl (by kernel_rfl) (by kernel_rfl) (by kernel_rfl) (fun _ _ _ h => h) (Or.inl ⟨by rfl, fun w hSw => by obtain ⟨q1, q2, _⟩ := hSw; go_simp⟩) (by assumption) ?_
    try simp only [Act.put, List.setIfInBounds_toArray, List.set_cons_zero, List.set_cons_succ]
    refine wpAnyH_take (i := 1) (oi := ⟨some 6, _, _, _, _, _⟩) (v := .agg #[.int .i64 nn, .slice b m cb]) rfl (by kernel_rfl) (by kernel_rfl) (by kernel_rfl) (fun _ _ _ h => h) (Or.inl ⟨by rfl, fun w hSw => by obtain ⟨_, _, q1, q2, _⟩ := hSw; go_simp⟩) (by assumption) ?_
    try simp only [Act.put, List.setIfInBounds_toArray, List.set_cons_zero, List.set_cons_succ]
    refine wpAnyH_ready (rs := [2]) (by kernel_rfl) (by simp) ?_
    refine AllReadyH.cons rfl (fun K hKK => ?_) AllReadyH.nil
    go_simp
    go_at_call 63
    refine (one_q nn a n ca xs nn b m cb ys true _ (HIx.out _ (Below.refl _ _).drew) hn (HIy.out _ (Below.refl _ _).drew) hm HON.out).mono ?_
    rintro e wk1 ⟨rfl, hc1⟩
    have hbb1 : Below W0.heap.size W0 wk1 := (Below.refl _ _).drew.trans hc1
    clear hc1
    refine hKK.out _ _ (HK.out _ hbb1) (fun hSS1 => ?_)
    clear hKK K hSS0
    try simp only [Act.put, List.setIfInBounds_toArray, List.set_cons_zero, List.set_cons_succ]
    refine wpAnyH_take (i := 3) (oi := ⟨some 8, _, _, _, _, _⟩) (v := .bool true) rfl (by kernel_rfl) (by kernel_rfl) (by kernel_rfl) (fun _ _ _ h => h) (Or.inl ⟨by rfl, fun w hSw => by go_simp⟩) (by assumption) ?_
    try simp only [Act.put, List.setIfInBounds_toArray, List.set_cons_zero, List.set_cons_succ]
    refine wpAnyH_take (i := 4) (oi := ⟨some 9, _, _, _, _, _⟩) (v := .agg #[.int .i64 nn, .slice a n ca]) rfl (by kernel_rfl) (by kernel_rfl) (by kernel_rfl) (fun _ _ _ h => h) (Or.inl ⟨by rfl, fun w hSw => by obtain ⟨q1, q2, _⟩ := hSw; go_simp⟩) (by assumption) ?_
    try simp only [Act.put, List.setIfInBounds_toArray, List.set_cons_zero, List.set_cons_succ]
    refine wpAnyH_take (i := 6) (oi := ⟨some 11, _, _, _, _, _⟩) (v := .agg #[.int .i64 nn, .slice b m cb]) rfl (by kernel_rfl) (by kernel_rfl) (by kernel_rfl) (fun _ _ _ h => h) (Or.inl ⟨by rfl, fun w hSw => by obtain ⟨_, _, q1, q2, _⟩ := hSw; go_simp⟩) (by assumption) ?_
    try simp only [Act.put, List.setIfInBounds_toArray, List.set_cons_zero, List.set_cons_succ]
    refine wpAnyH_ready (rs := [5]) (by kernel_rfl) (by simp) ?_
    refine AllReadyH.cons rfl (fun K hKK => ?_) AllReadyH.nil
    go_simp
    go_at_call 61
    refine (vector_any nn a n ca xs _ (HIx.out _ hbb1) hn' HO.out).mono ?_
    rintro e wk2 ⟨av, cv, rfl, hown2, hc2⟩
    have HV20 := Lib.hid (intsAt_own hown2 HVX.out)
    clear hown2
    have hbb2 : Below W0.heap.size W0 wk2 := hbb1.trans (hc2.mono hbb1.size)
    clear hc2
    refine hKK.out _ _ (HK.out _ hbb2) (fun hSS2 => ?_)
    clear hKK K hbb1 hSS1
    try simp only [Act.put, List.setIfInBounds_toArray, List.set_cons_zero, List.set_cons_succ]
    refine wpAnyH_ready (rs := [7]) (by kernel_rfl) (by simp) ?_
    refine AllReadyH.cons rfl (fun K hKK => ?_) AllReadyH.nil
    go_simp
    go_at_call 61
    refine (vector_any nn b m cb ys _ (HIy.out _ hbb2) hm' HP.out).mono ?_
    rintro e wk3 ⟨aw, cw, rfl, hown3, hc3⟩
    have HV22 := Lib.hid (intsAt_own hown3 HVY.out)
    have HV21 := Lib.hid (HV20.out.below hc3)
    clear hown3
    have hbb3 : Below W0.heap.size W0 wk3 := hbb2.trans (hc3.mono hbb2.size)
    clear hc3
    refine hKK.out _ _ (HK.out _ hbb3) (fun hSS3 => ?_)
    clear hKK K hbb2 hSS2
    try simp only [Act.put, List.setIfInBounds_toArray, List.set_cons_zero, List.set_cons_succ]
    refine wpAnyH_ready (rs := [8]) (by kernel_rfl) (by simp) ?_
    refine AllReadyH.cons rfl (fun K hKK => ?_) AllReadyH.nil
    go_simp
    go_at_call 67
    refine (same_iq av aw (vecZ nn xs).length (vecZ nn ys).length cv cw (vecZ nn xs) (vecZ nn ys) q _ HV21.out HV22.out (by have := HLX.out; omega) (by have := HLY.out; omega) HQ.out).mono ?_
    rintro e wk4 ⟨rfl, hc4⟩
    have hbb4 : Below W0.heap.size W0 wk4 := hbb3.trans (hc4.mono hbb3.size)
    clear hc4
    refine hKK.out _ _ (HK.out _ hbb4) (fun hSS4 => ?_)
    clear hKK K hbb3 hSS3
    try simp only [Act.put, List.setIfInBounds_toArray, List.set_cons_zero, List.set_cons_succ]
    refine wpAnyH_take (i := 9) (oi := ⟨some 14, _, _, _, _, _⟩) (v := .bool q) rfl (by kernel_rfl) (by kernel_rfl) (by kernel_rfl) (fun _ _ _ h => h) (Or.inl ⟨by rfl, fun w hSw => by go_simp⟩) (by assumption) ?_
    try simp only [Act.put, List.setIfInBounds_toArray, List.set_cons_zero, List.set_cons_succ]
    refine wpAnyH_take (i := 10) (oi := ⟨some 4, _, _, _, _, _⟩) (v := .bool q) rfl (by kernel_rfl) (by kernel_rfl) (by kernel_rfl) (fun _ _ _ h => h) (Or.inl ⟨by rfl, fun w hSw => by go_simp⟩) (by assumption) ?_
    try simp only [Act.put, List.setIfInBounds_toArray, List.set_cons_zero, List.set_cons_succ]
    refine wpAnyH_done (by kernel_rfl) ?_ _
    clear HK
    go_wp2
    go_ret
    rw [HE.out]
    exact ⟨rfl, HB0.out.trans (hbb4.mono HB0.out.size)⟩
  · have HE : Hid (svB s xs t ys = false) := Lib.hid (svB_no ho)
    have HON := Lib.hid (oneB_no ho)
    clear ho
    go_enter Try.func23, Try.ntmps23
    go_wp2
    rw [← HW.out]
    have HK : Hid (∀ W' : World, Below W0.heap.size W0 W' → W'.cell? ⟨w.heap.size, 0, none⟩ = some (.int .i64 s) ∧ W'.cell? ⟨w.heap.size, 1, none⟩ = some (.slice a n ca) ∧ W'.cell? ⟨(w.heap.size + 1), 0, none⟩ = some (.int .i64 t) ∧ W'.cell? ⟨(w.heap.size + 1), 1, none⟩ = some (.slice b m cb) ∧ Below W0.heap.size W0 W') :=
      Lib.hid (fun W' hW => ⟨(HX0.out.keep hW).1.facts.1, (HX0.out.keep hW).1.facts.2.1, (HY0.out.keep hW).1.facts.1, (HY0.out.keep hW).1.facts.2.1, hW⟩)
    have HIx : Hid (∀ W' : World, Below W0.heap.size W0 W' → IntsAt W' a n xs) := Lib.hid (fun W' hW => (HX0.out.keep hW).2)
    have HIy : Hid (∀ W' : World, Below W0.heap.size W0 W' → IntsAt W' b m ys) := Lib.hid (fun W' hW => (HY0.out.keep hW).2)
    refine wp_region_held_drew (S := fun W' => W'.cell? ⟨w.heap.size, 0, none⟩ = some (.int .i64 s) ∧ W'.cell? ⟨w.heap.size, 1, none⟩ = some (.slice a n ca) ∧ W'.cell? ⟨(w.heap.size + 1), 0, none⟩ = some (.int .i64 t) ∧ W'.cell? ⟨(w.heap.size + 1), 1, none⟩ = some (.slice b m cb) ∧ Below W0.heap.size W0 W') (by kernel_rfl) (HK.out _ (Below.refl _ _).drew) (fun hSS0 => ?_)
    refine wpAnyH_take (i := 0) (oi := ⟨some 5, _, _, _, _, _⟩) (v := .agg #[.int .i64 s, .slice a n ca]) rfl (by kernel_rfl) (by kernel_rfl) (by kernel_rfl) (fun _ _ _ h => h) (Or.inl ⟨by rfl, fun w hSw => by obtain ⟨q1, q2, _⟩ := hSw; go_simp⟩) (by assumption) ?_
    try simp only [Act.put, List.setIfInBounds_toArray, List.set_cons_zero, List.set_cons_succ]
    refine wpAnyH_take (i := 1) (oi := ⟨some 6, _, _, _, _, _⟩) (v := .agg #[.int .i64 t, .slice b m cb]) rfl (by kernel_rfl) (by kernel_rfl) (by kernel_rfl) (fun _ _ _ h => h) (Or.inl ⟨by rfl, fun w hSw => by obtain ⟨_, _, q1, q2, _⟩ := hSw; go_simp⟩) (by assumption) ?_
    try simp only [Act.put, List.setIfInBounds_toArray, List.set_cons_zero, List.set_cons_succ]
    refine wpAnyH_ready (rs := [2]) (by kernel_rfl) (by simp) ?_
    refine AllReadyH.cons rfl (fun K hKK => ?_) AllReadyH.nil
    go_simp
    go_at_call 63
    refine (one_q s a n ca xs t b m cb ys false _ (HIx.out _ (Below.refl _ _).drew) hn (HIy.out _ (Below.refl _ _).drew) hm HON.out).mono ?_
    rintro e wk1 ⟨rfl, hc1⟩
    have hbb1 : Below W0.heap.size W0 wk1 := (Below.refl _ _).drew.trans hc1
    clear hc1
    refine hKK.out _ _ (HK.out _ hbb1) (fun hSS1 => ?_)
    clear hKK K hSS0
    try simp only [Act.put, List.setIfInBounds_toArray, List.set_cons_zero, List.set_cons_succ]
    refine wpAnyH_take (i := 3) (oi := ⟨some 8, _, _, _, _, _⟩) (v := .bool false) rfl (by kernel_rfl) (by kernel_rfl) (by kernel_rfl) (fun _ _ _ h => h) (Or.inl ⟨by rfl, fun w hSw => by go_simp⟩) (by assumption) ?_
    try simp only [Act.put, List.setIfInBounds_toArray, List.set_cons_zero, List.set_cons_succ]
    refine wpAnyH_take (i := 4) (oi := ⟨some 9, _, _, _, _, _⟩) (v := undef) rfl (by kernel_rfl) (by kernel_rfl) (by kernel_rfl) (fun _ _ _ h => h) (Or.inr ⟨by rfl, rfl⟩) (by assumption) ?_
    try simp only [Act.put, List.setIfInBounds_toArray, List.set_cons_zero, List.set_cons_succ]
    refine wpAnyH_take (i := 5) (oi := ⟨some 10, _, _, _, _, _⟩) (v := undef) rfl (by kernel_rfl) (by kernel_rfl) (by kernel_rfl) (fun _ _ _ h => h) (Or.inr ⟨by rfl, rfl⟩) (by assumption) ?_
    try simp only [Act.put, List.setIfInBounds_toArray, List.set_cons_zero, List.set_cons_succ]
    refine wpAnyH_take (i := 6) (oi := ⟨some 11, _, _, _, _, _⟩) (v := undef) rfl (by kernel_rfl) (by kernel_rfl) (by kernel_rfl) (fun _ _ _ h => h) (Or.inr ⟨by rfl, rfl⟩) (by assumption) ?_
    try simp only [Act.put, List.setIfInBounds_toArray, List.set_cons_zero, List.set_cons_succ]
    refine wpAnyH_take (i := 7) (oi := ⟨some 12, _, _, _, _, _⟩) (v := undef) rfl (by kernel_rfl) (by kernel_rfl) (by kernel_rfl) (fun _ _ _ h => h) (Or.inr ⟨by rfl, rfl⟩) (by assumption) ?_
    try simp only [Act.put, List.setIfInBounds_toArray, List.set_cons_zero, List.set_cons_succ]
    refine wpAnyH_take (i := 8) (oi := ⟨some 13, _, _, _, _, _⟩) (v := undef) rfl (by kernel_rfl) (by kernel_rfl) (by kernel_rfl) (fun _ _ _ h => h) (Or.inr ⟨by rfl, rfl⟩) (by assumption) ?_
    try simp only [Act.put, List.setIfInBounds_toArray, List.set_cons_zero, List.set_cons_succ]
    refine wpAnyH_take (i := 9) (oi := ⟨some 14, _, _, _, _, _⟩) (v := .bool false) rfl (by kernel_rfl) (by kernel_rfl) (by kernel_rfl) (fun _ _ _ h => h) (Or.inl ⟨by rfl, fun w hSw => by go_simp⟩) (by assumption) ?_
    try simp only [Act.put, List.setIfInBounds_toArray, List.set_cons_zero, List.set_cons_succ]
    refine wpAnyH_take (i := 10) (oi := ⟨some 4, _, _, _, _, _⟩) (v := .bool false) rfl (by kernel_rfl) (by kernel_rfl) (by kernel_rfl) (fun _ _ _ h => h) (Or.inl ⟨by rfl, fun w hSw => by go_simp⟩) (by assumption) ?_
    try simp only [Act.put, List.setIfInBounds_toArray, List.set_cons_zero, List.set_cons_succ]
    refine wpAnyH_done (by kernel_rfl) ?_ _
    clear HK
    go_wp2
    go_ret
    rw [HE.out]
    exact ⟨rfl, HB0.out.trans (hbb1.mono HB0.out.size)⟩
set_option maxHeartbeats 400000 in
theorem twins_impl (s : Int) (a : Option Addr) (n ca : Nat) (xs : List Int) (t : Int) (b : Option Addr) (m cb : Nat) (ys : List Int) (w : World) (ha : IntsAt w a n xs) (hn : xs.length ≤ 1048576) (hb : IntsAt w b m ys) (hm : ys.length ≤ 1048576) :
    Calls Try.prog 24 #[rhy s a n ca, rhy t b m cb] w fun e w' => e = .returned (.bool (twB s xs t ys)) ∧ Below w.heap.size w w' := by
  have FA := Lib.hid ha
  have FB := Lib.hid hb
  have hn' : n ≤ 1048576 := by have := ha.1; omega
  have hm' : m ≤ 1048576 := by have := hb.1; omega
  clear ha hb
  obtain ⟨W0, hW⟩ : ∃ W0, W0 = (w.alloc (.cells #[.int .i64 s, .slice a n ca] 25)).alloc (.cells #[.int .i64 t, .slice b m cb] 25) := ⟨_, rfl⟩
  have HW := Lib.hid hW
  have HB0 := Lib.hid (show Below w.heap.size w W0 by rw [hW]; exact bel2 w _ _)
  have HX0 : Hid (RhI W0 w.heap.size s a n ca xs) := Lib.hid ⟨by rw [hW]; exact (box_new w _ _ _).keep (bel1 _ _) (by simp), FA.out.below HB0.out⟩
  have HY0 : Hid (RhI W0 (w.heap.size + 1) t b m cb ys) := Lib.hid ⟨by rw [hW]; simpa using box_new (w.alloc (.cells #[.int .i64 s, .slice a n ca] 25)) (.int .i64 t) (.slice b m cb) 25, FB.out.below HB0.out⟩
  clear hW FA FB
  obtain ⟨q, hq⟩ : ∃ q, svB s xs t ys = q := ⟨_, rfl⟩
  obtain ⟨r, hr⟩ : ∃ r, aforB s xs t ys = r := ⟨_, rfl⟩
  have HE : Hid (twB s xs t ys = (q && !r)) := Lib.hid (by unfold twB; rw [hq, hr])
  have HQ := Lib.hid hq
  have HR := Lib.hid hr
  clear hq hr
  rw [HE.out]
  obtain ⟨c0, c1, f0, f1⟩ := HX0.out.1.facts
  obtain ⟨d0, d1, g0, g1⟩ := HY0.out.1.facts
  go_enter Try.func24, Try.ntmps24
  go_wp2_with fail
  rw [← HW.out]
  refine (samevec_impl s a n ca xs t b m cb ys _ HX0.out.2 hn HY0.out.2 hm).mono ?_
  rintro e w1 ⟨rfl, hb1⟩
  rw [HQ.out]
  have HB1 := Lib.hid (HB0.out.trans (hb1.mono HB0.out.size))
  have HX1 := Lib.hid (HX0.out.keep hb1)
  have HY1 := Lib.hid (HY0.out.keep hb1)
  clear c0 c1 f0 f1 d0 d1 g0 g1 hb1
  obtain ⟨c0, c1, f0, f1⟩ := HX1.out.1.facts
  obtain ⟨d0, d1, g0, g1⟩ := HY1.out.1.facts
  cases q
  · go_wp2
    go_ret
    exact ⟨rfl, HB1.out⟩
  · go_wp2_with fail
    refine (afor_impl s a n ca xs t b m cb ys _ HX1.out.2 hn HY1.out.2 hm).mono ?_
    rintro e w2 ⟨rfl, hb2⟩
    rw [HR.out]
    have HB2 := Lib.hid (HB1.out.trans (hb2.mono HB1.out.size))
    clear hb2
    go_wp2
    go_ret
    exact ⟨by simp, HB2.out⟩


end Go.Proofs.Ytcppmcacjjjjeaa.Rhy
