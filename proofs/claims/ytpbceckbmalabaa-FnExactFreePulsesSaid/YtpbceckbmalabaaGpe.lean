/-
  Helpers of the claims beside this text: the program's withBeat, ExtendChain.
-/
import Derived.Test.YtpbceckbmalabaaGpg
import Derived.Test.YtpbceckbmalabaaGnm
import Derived.Test.YtpbceckbmalabaaJoin
namespace Go.Proofs.Ytpbceckbmalabaa.Rhy
open Go.RowKit
set_option linter.unusedVariables false
set_option linter.unusedSimpArgs false

theorem one_ok {n : Nat} {p : Int} (h : 1 ≤ n ∧ n ≤ 24) (hp : 0 ≤ p ∧ p < n) : Ok n [p] :=
  ok_of (by omega) (by omega) (by simp) (fun z hz => by rw [List.mem_singleton] at hz; subst hz; exact hp)
theorem chB_mem {s g : Int} {zs : List Int} (h : hasB (gnB s zs) g = true) {x : Int} : x ∈ chB s zs g ↔ x ∈ zs := by
  have hi := gnB_in h
  obtain ⟨n, rfl⟩ : ∃ n : Nat, s = n := ⟨s.toNat, by have := hi.1.1; omega⟩
  obtain ⟨k, rfl⟩ : ∃ k : Nat, g = k := ⟨g.toNat, by omega⟩
  obtain ⟨q, hq⟩ := chQ_ex hi.1 (k : Int)
  have hql : q = zs.length := (chQ_iff hi.1 ⟨by omega, by omega⟩ hq).1 h
  rw [chB_yes h]
  rcases Nat.eq_zero_or_pos zs.length with e | e
  · have e2 : zs = [] := List.eq_nil_of_length_eq_zero e
    subst e2
    simp [chP]
  · have hM := hq.1 e
    have hb := chF_bd hi.1 e (k : Int)
    rw [hql] at hM
    exact ⟨chP_in hM x, (sub_all _ _ (chP_nodup hb hM) (chP_in hM)).2 (by rw [chP_len]; omega) x⟩
theorem exZ_same {s g : Int} {zs : List Int} (h : hasB (gnB s zs) g = true) : exZ s zs g = ofZ s.toNat (zs ++ [exP s zs g]) :=
  ofZ_congr fun x => by rw [List.mem_append, List.mem_append, chB_mem h]
theorem cell_other2 (w : World) {b c o : Nat} (h : b ≠ c) (u v : Value) : ((w.setCell ⟨c, 0, none⟩ u).setCell ⟨c, 1, none⟩ v).cell? ⟨b, o, none⟩ = w.cell? ⟨b, o, none⟩ :=
  World.cell?_of_block (by rw [heap_setCell_other _ _ _ _ h, heap_setCell_other _ _ _ _ h])
theorem cpost_iff {c d : Prop} {s : Int} {l : List Int} {w w' : World} {e : Ending} (h : c ↔ d) (hp : CPost c s l w e w') : CPost d s l w e w' := by
  rw [← propext h]; exact hp
theorem ints_one (w : World) (y : Int) (h : -9223372036854775808 ≤ y ∧ y ≤ 9223372036854775807) : IntsAt (w.alloc (.cells #[.int .i64 y] 3)) (some ⟨w.heap.size, 0, none⟩) 1 [y] := by
  have := World.ownsRow_made (base := w.heap.size) (e := 3) (size := 1) w #[.int .i64 y] 1 (Nat.le_refl _) (by unfold maxLen; omega) rfl
  have h2 : (w.alloc (.cells #[.int .i64 y] 3)).ownsRow w.heap.size 3 1 (.slice (some ⟨w.heap.size, 0, none⟩) 1 1) 1 (ints [y]) :=
    ⟨rfl, .inr ⟨w.heap.size, 1, #[.int .i64 y], rfl, Nat.le_refl _, heap_alloc_new w _, Nat.le_refl _, by unfold maxLen; omega, rfl, rfl⟩⟩
  exact intsAt_own h2 (fun z hz => by rw [List.mem_singleton] at hz; subst hz; exact h)

set_option maxHeartbeats 1000000 in
theorem addBeat_any (n : Nat) (a : Option Addr) (cap : Nat) (zs : List Int) (p : Int) (w : World) (h : IntsAt w a zs.length zs) (ho : Ok n zs) (h3 : -9223372036854775808 ≤ p) (h4 : p ≤ 9223372036854775807) :
    Calls Try.prog 80 #[rhy n a zs.length cap, .int .i64 p] w (CPost (hasB zs (p % n) = false) n (ofZ n (zs ++ [p % n])) w) := by
  have HS := Lib.hid h
  have HOK := Lib.hid ho
  have hl24 := ok_len ho
  have hn1 : 1 ≤ n := by have := ho.1.1; omega
  have hn24 : n ≤ 24 := by have := ho.1.2; omega
  have hpb := em_bd p (n := n) (by omega)
  clear h ho
  obtain ⟨W0, hW⟩ : ∃ W0, W0 = (w.alloc (.cells #[.int .i64 n, .slice a zs.length cap] 30)).alloc (.cells #[.int .i64 0, .slice none 0 0] 30) := ⟨_, rfl⟩
  have HW := Lib.hid hW
  have HB := Lib.hid (show Below w.heap.size w W0 by rw [hW]; exact bel2 w _ _)
  have HT := Lib.hid (show Box W0 w.heap.size (.int .i64 n) (.slice a zs.length cap) 30 by rw [hW]; exact (box_new w _ _ _).keep (bel1 _ _) (by simp))
  have HU := Lib.hid (show Box W0 (w.heap.size + 1) (.int .i64 0) (.slice none 0 0) 30 by
    rw [hW]
    have := box_new (w.alloc (.cells #[.int .i64 n, .slice a zs.length cap] 30)) (.int .i64 0) (.slice none 0 0) 30
    simpa using this)
  have HSZ := Lib.hid (show W0.heap.size = w.heap.size + 2 by rw [hW]; simp)
  clear hW
  obtain ⟨t0, t1, _, _⟩ := HT.out.facts
  go_enter Try.func80, Try.ntmps80
  go_wp2_with fail
  rw [← HW.out]
  refine (hasBeat_any n a zs.length cap zs p W0 (HS.out.below HB.out) (by omega) (by omega) (by omega) h3 h4).mono ?_
  rintro e w1 ⟨rfl, hb1⟩
  have HB1 := Lib.hid (HB.out.trans (hb1.mono HB.out.size))
  have s1 := hb1.size
  have HT1 := Lib.hid (HT.out.keep hb1 HT.out.lt)
  have HU1 := Lib.hid (HU.out.keep hb1 HU.out.lt)
  clear hb1 t0 t1
  obtain ⟨t0, t1, _, _⟩ := HT1.out.facts
  obtain ⟨u0, u1, u2, u3⟩ := HU1.out.facts
  have ult := HU1.out.lt
  have htlt := HT1.out.lt
  cases hc : hasB zs (p % n)
  · have HC : Hid (hasB zs (p % n) = false) := Lib.hid hc
    have HCr : Hid (hasB zs (remB p n) = false) := Lib.hid hc
    obtain ⟨y, hy⟩ : ∃ y, p % (n : Int) = y := ⟨_, rfl⟩
    have HY := Lib.hid hy
    have HYr : Hid (remB p n = y) := Lib.hid hy
    have hyb : 0 ≤ y ∧ y < n := by omega
    rw [HCr.out]
    rw [hy]
    clear hc hy hpb
    have HJC : Hid (JC n zs n [y]) := Lib.hid ⟨HOK.out, one_ok ⟨hn1, hn24⟩ hyb, rfl⟩
    have HK : Hid (∀ W : World, Below w1.heap.size w1 W → W.cell? ⟨w.heap.size, 0, none⟩ = some (.int .i64 n) ∧ W.cell? ⟨w.heap.size, 1, none⟩ = some (.slice a zs.length cap)) :=
      Lib.hid (fun W hW => ⟨(HT1.out.keep hW htlt).facts.1, (HT1.out.keep hW htlt).facts.2.1⟩)
    go_wp2
    refine wp_region_held_drew (S := fun W => W.cell? ⟨w.heap.size, 0, none⟩ = some (.int .i64 n) ∧ W.cell? ⟨w.heap.size, 1, none⟩ = some (.slice a zs.length cap)) (by kernel_rfl) (HK.out _ (Below.refl _ _).drew) (fun hSS0 => ?_)
    refine wpAnyH_take (i := 0) (oi := ⟨some 10, _, _, _, _, _⟩) (v := .agg #[.int .i64 n, .slice a zs.length cap]) rfl (by kernel_rfl) (by kernel_rfl) (by kernel_rfl) (fun _ _ _ h => h) (Or.inl ⟨by rfl, fun W hSw => by obtain ⟨q1, q2⟩ := hSw; go_simp⟩) (by assumption) ?_
    try simp only [Act.put, List.setIfInBounds_toArray, List.set_cons_zero, List.set_cons_succ]
    refine wpAnyH_take (i := 1) (oi := ⟨some 11, _, _, _, _, _⟩) (v := .pointer (some ⟨w.heap.size, 0, none⟩)) rfl (by kernel_rfl) (by kernel_rfl) (by kernel_rfl) (fun _ _ _ h => h) (Or.inl ⟨by rfl, fun W hSw => by go_simp⟩) (by assumption) ?_
    try simp only [Act.put, List.setIfInBounds_toArray, List.set_cons_zero, List.set_cons_succ]
    refine wpAnyH_take (i := 2) (oi := ⟨some 12, _, _, _, _, _⟩) (v := .int .i64 n) rfl (by kernel_rfl) (by kernel_rfl) (by kernel_rfl) (fun _ _ _ h => h) (Or.inl ⟨by rfl, fun W hSw => by obtain ⟨q1, q2⟩ := hSw; go_simp⟩) (by assumption) ?_
    try simp only [Act.put, List.setIfInBounds_toArray, List.set_cons_zero, List.set_cons_succ]
    refine wpAnyH_take (i := 3) (oi := ⟨some 13, _, _, _, _, _⟩) (v := .int .i64 p) rfl (by kernel_rfl) (by kernel_rfl) (by kernel_rfl) (fun _ _ _ h => h) (Or.inl ⟨by rfl, fun W hSw => by go_simp⟩) (by assumption) ?_
    try simp only [Act.put, List.setIfInBounds_toArray, List.set_cons_zero, List.set_cons_succ]
    refine wpAnyH_take (i := 4) (oi := ⟨some 14, _, _, _, _, _⟩) (v := .pointer (some ⟨w.heap.size, 0, none⟩)) rfl (by kernel_rfl) (by kernel_rfl) (by kernel_rfl) (fun _ _ _ h => h) (Or.inl ⟨by rfl, fun W hSw => by go_simp⟩) (by assumption) ?_
    try simp only [Act.put, List.setIfInBounds_toArray, List.set_cons_zero, List.set_cons_succ]
    refine wpAnyH_take (i := 5) (oi := ⟨some 15, _, _, _, _, _⟩) (v := .int .i64 n) rfl (by kernel_rfl) (by kernel_rfl) (by kernel_rfl) (fun _ _ _ h => h) (Or.inl ⟨by rfl, fun W hSw => by obtain ⟨q1, q2⟩ := hSw; go_simp⟩) (by assumption) ?_
    try simp only [Act.put, List.setIfInBounds_toArray, List.set_cons_zero, List.set_cons_succ]
    refine wpAnyH_ready (rs := [6]) (by kernel_rfl) (by simp) ?_
    refine AllReadyH.cons rfl (fun K hKK => ?_) AllReadyH.nil
    go_simp
    go_at_call 90
    refine (around_any p n _ (by omega) (by omega) h3 h4).mono ?_
    rintro e w2 ⟨rfl, rfl⟩
    rw [HYr.out]
    refine hKK.out _ _ (HK.out _ (Below.refl _ _).drew) (fun hSS1 => ?_)
    clear hKK K hSS0
    try simp only [Act.put, List.setIfInBounds_toArray, List.set_cons_zero, List.set_cons_succ]
    refine wpAnyH_ready (rs := [7]) (by kernel_rfl) (by simp) ?_
    refine AllReadyH.cons rfl (fun K hKK => ?_) AllReadyH.nil
    go_simp
    have HBa : Hid (Below w1.heap.size w1 (w1.drew.alloc (.cells #[.int .i64 y] 3))) := Lib.hid ((Below.refl w1.heap.size w1).drew.trans (bel1 w1.drew _))
    have HIy : Hid (IntsAt (w1.drew.alloc (.cells #[.int .i64 y] 3)) (some ⟨w1.heap.size, 0, none⟩) 1 [y]) := Lib.hid (by simpa using ints_one w1.drew y (by omega))
    refine hKK.out _ _ (HK.out _ HBa.out) (fun hSS2 => ?_)
    clear hKK K hSS1
    try simp only [Act.put, List.setIfInBounds_toArray, List.set_cons_zero, List.set_cons_succ]
    refine wpAnyH_take (i := 8) (oi := ⟨some 18, _, _, _, _, _⟩) (v := .agg #[.int .i64 n, .slice (some ⟨w1.heap.size, 0, none⟩) 1 1]) rfl (by kernel_rfl) (by kernel_rfl) (by kernel_rfl) (fun _ _ _ h => h) (Or.inl ⟨by rfl, fun W hSw => by go_simp⟩) (by assumption) ?_
    try simp only [Act.put, List.setIfInBounds_toArray, List.set_cons_zero, List.set_cons_succ]
    refine wpAnyH_ready (rs := [9]) (by kernel_rfl) (by simp) ?_
    refine AllReadyH.cons rfl (fun K hKK => ?_) AllReadyH.nil
    go_simp
    go_at_call 22
    refine (join_impl n a zs.length cap zs n (some ⟨w1.heap.size, 0, none⟩) 1 1 [y] _ (HS.out.below (HB1.out.trans (HBa.out.mono HB1.out.size))) (by omega) HIy.out (by simp)).mono ?_
    rintro e w3 hp
    unfold CPost at hp
    rw [cS_yes HJC.out, cZ_yes HJC.out, cB_yes HJC.out, Int.toNat_natCast] at hp
    obtain ⟨a3, c3, he3, hown3, hb3⟩ := hp
    obtain ⟨N, hN⟩ : ∃ N, ofZ n (zs ++ [y]) = N := ⟨_, rfl⟩
    rw [hN] at he3 hown3
    obtain rfl := he3
    have HN : Hid (ofZ n (zs ++ [p % n]) = N) := Lib.hid (by rw [HY.out]; exact hN)
    have HO3 := Lib.hid hown3
    have HB3 : Hid (Below w1.heap.size w1 w3) := Lib.hid (HBa.out.trans (hb3.mono HBa.out.size))
    have HU3 := Lib.hid (HU1.out.keep HB3.out ult)
    have HT3 := Lib.hid (HT1.out.keep HB3.out htlt)
    obtain ⟨r0, r1, r2, r3⟩ := HU3.out.facts
    have rlt := HU3.out.lt
    clear hown3 hb3 hN u0 u1 u2 u3
    refine hKK.out _ _ (HK.out _ HB3.out) (fun hSS3 => ?_)
    clear hKK K hSS2
    try simp only [Act.put, List.setIfInBounds_toArray, List.set_cons_zero, List.set_cons_succ]
    refine wpAnyH_take (i := 10) (oi := ⟨some 20, _, _, _, _, _⟩) (v := rhy n a3 N.length c3) rfl (by kernel_rfl) (by kernel_rfl) (by kernel_rfl) (fun _ _ _ h => h) (Or.inl ⟨by rfl, fun W hSw => by go_simp⟩) (by assumption) ?_
    try simp only [Act.put, List.setIfInBounds_toArray, List.set_cons_zero, List.set_cons_succ]
    refine wpAnyH_take (i := 11) (oi := ⟨some 21, _, _, _, _, _⟩) (v := .bool true) rfl (by kernel_rfl) (by kernel_rfl) (by kernel_rfl) (fun _ _ _ h => h) (Or.inl ⟨by rfl, fun W hSw => by go_simp⟩) (by assumption) ?_
    try simp only [Act.put, List.setIfInBounds_toArray, List.set_cons_zero, List.set_cons_succ]
    refine wpAnyH_ready (rs := [12]) (by kernel_rfl) (by simp) ?_
    refine AllReadyH.cons rfl (fun K hKK => ?_) AllReadyH.nil
    go_simp
    have hne : w.heap.size + 1 ≠ w.heap.size := by omega
    refine hKK.out _ _ (⟨((HT3.out.other _ hne).other _ hne).facts.1, ((HT3.out.other _ hne).other _ hne).facts.2.1⟩) (fun hSS4 => ?_)
    clear hKK K hSS3
    try simp only [Act.put, List.setIfInBounds_toArray, List.set_cons_zero, List.set_cons_succ]
    refine wpAnyH_take (i := 13) (oi := ⟨some 5, _, _, _, _, _⟩) (v := .bool true) rfl (by kernel_rfl) (by kernel_rfl) (by kernel_rfl) (fun _ _ _ h => h) (Or.inl ⟨by rfl, fun W hSw => by go_simp⟩) (by assumption) ?_
    try simp only [Act.put, List.setIfInBounds_toArray, List.set_cons_zero, List.set_cons_succ]
    refine wpAnyH_done (by kernel_rfl) ?_ _
    clear HK
    go_wp2
    refine bodyPost_ret (v := .tuple #[rhy n a3 N.length c3, .bool true]) (by simp [results, Try.results80, go_sem, *]) rfl ?_
    rw [HN.out]
    refine cpost_yes HC.out rfl ?_ ?_
    · exact own_base (ownsRow_setCell_below (ownsRow_setCell_below HO3.out (by show w.heap.size + 1 < _; have := HBa.out.size; omega) _) (by show w.heap.size + 1 < _; have := HBa.out.size; omega) _) (by have := HBa.out.size; omega)
    · exact ((HB1.out.trans (HB3.out.mono HB1.out.size)).setCell (by show w.heap.size ≤ w.heap.size + 1; omega) _).setCell (by show w.heap.size ≤ w.heap.size + 1; omega) _
  · have HO : Hid (¬ hasB zs (p % n) = false) := Lib.hid (by rw [hc]; simp)
    have HCr : Hid (hasB zs (remB p n) = true) := Lib.hid hc
    rw [HCr.out]
    clear hc
    go_wp2
    refine bodyPost_ret (v := .tuple #[rhy 0 none 0 0, .bool false]) (by simp [results, Try.results80, go_sem, *]) rfl ?_
    exact cpost_no HO.out ((HB1.out.setCell (by show w.heap.size ≤ w.heap.size + 1; omega) _).setCell (by show w.heap.size ≤ w.heap.size + 1; omega) _)


end Go.Proofs.Ytpbceckbmalabaa.Rhy
