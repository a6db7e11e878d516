/-
  Helpers of the claims beside this text: common beats and overlaps, as the program counts them.
-/
import Derived.Test.YthjkblekccpafaaDif
import Derived.Test.YthjkblekccpafaaIvs
import Derived.Test.YthjkblekccpafaaCmp
import Derived.Lib.LazyBuf
import Derived.Test.YthjkblekccpafaaLsi
namespace Go.Proofs.Ythjkblekccpafaa.Rhy
open Go.RowKit
set_option linter.unusedVariables false
set_option linter.unusedSimpArgs false

set_option maxHeartbeats 400000 in
theorem com_any (s : Int) (a : Option Addr) (n ca : Nat) (xs : List Int) (b : Option Addr) (m cb : Nat) (ys : List Int) (w : World) (ha : IntsAt w a n xs) (hn : n ≤ 1048576) (hb : IntsAt w b m ys) (hm : m ≤ 1048576) (hx : Ok s xs) (hy : Ok s ys) :
    Calls Try.prog 80 #[rhy s a n ca, rhy s b m cb] w fun e w' => e = .returned (.int .i64 (comZ xs ys : Nat)) ∧ Below w.heap.size w w' := by
  have FA := Lib.hid ha
  have FB := Lib.hid hb
  have HO := Lib.hid hx
  have hs1 := hx.1.1
  have hs2 := hx.1.2
  clear ha hb hx hy
  obtain ⟨W0, hW⟩ : ∃ W0, W0 = (w.alloc (.cells #[.int .i64 s, .slice a n ca] 24)).alloc (.cells #[.int .i64 s, .slice b m cb] 24) := ⟨_, rfl⟩
  have HW := Lib.hid hW
  have HB0 := Lib.hid (show Below w.heap.size w W0 by rw [hW]; exact bel2 w _ _)
  have HX0 : Hid (RhI W0 w.heap.size s a n ca xs) := Lib.hid ⟨by rw [hW]; exact (box_new w _ _ _).keep (bel1 _ _) (by simp), FA.out.below HB0.out⟩
  have HY0 : Hid (RhI W0 (w.heap.size + 1) s b m cb ys) := Lib.hid ⟨by rw [hW]; simpa using box_new (w.alloc (.cells #[.int .i64 s, .slice a n ca] 24)) (.int .i64 s) (.slice b m cb) 24, FB.out.below HB0.out⟩
  have HL : Hid (xs.length = n) := Lib.hid FA.out.1
  clear hW FA FB
  obtain ⟨c0, c1, f0, f1⟩ := HX0.out.1.facts
  obtain ⟨d0, d1, g0, g1⟩ := HY0.out.1.facts
  go_enter Try.func80, Try.ntmps80
  go_wp2
  rw [← HW.out]
  clear c0 c1 f0 f1 d0 d1 g0 g1
  go_loopw [5, 11] (fun c i wr => ∃ (k q : Nat), k ≤ n ∧ i = .int .i64 k ∧ c = .int .i64 q ∧ q ≤ k ∧ Hid (comZ (xs.take k) ys = q) ∧ Below W0.heap.size W0 wr) (fun _ i _ => n - (intOf i).toNat)
  case atStart => exact ⟨0, 0, by omega, rfl, rfl, by omega, Lib.hid rfl, Below.refl _ _⟩
  case round =>
    obtain ⟨k, q, hk, rfl, rfl, hq, HQ, hbw⟩ := hrel
    have HBW := Lib.hid hbw
    clear hbw
    have HXr := Lib.hid (HX0.out.keep HBW.out)
    have HYr := Lib.hid (HY0.out.keep HBW.out)
    obtain ⟨d0, d1, g0, g1⟩ := HYr.out.1.facts
    by_cases hlt : k < n
    · obtain ⟨g, off, z, rfl, hg, hs, hc, hz1, hz2⟩ := HXr.out.2.at hlt
      obtain ⟨hz0, hzn⟩ := ok_at HO.out hs
      have HRM := Lib.hid (show remB z s = z from em_self ⟨hz0, hzn⟩)
      cases hh : hasB ys z
      · have HQ2 : Hid (comZ (xs.take (k + 1)) ys = q) := Lib.hid (by rw [com_snoc_no hs hh, HQ.out])
        have HH := Lib.hid hh
        clear hs hh
        go_wp2_with fail
        refine (hasBeat_any s b m cb ys z _ HYr.out.2 hm hs1 hs2 hz1 hz2).mono ?_
        rw [HRM.out, HH.out]
        rintro e w' ⟨rfl, hb'⟩
        have HB' := Lib.hid (HBW.out.trans (hb'.mono HBW.out.size))
        clear hb' d0 d1 g0 g1 hc
        go_wp2
        go_roundw
        case rel => exact ⟨k + 1, q, by omega, by go_num, rfl, by omega, HQ2, HB'.out⟩
        case measure => simp [intOf]; omega
      · have HQ2 : Hid (comZ (xs.take (k + 1)) ys = q + 1) := Lib.hid (by rw [com_snoc_yes hs hh, HQ.out])
        have HH := Lib.hid hh
        clear hs hh
        go_wp2_with fail
        refine (hasBeat_any s b m cb ys z _ HYr.out.2 hm hs1 hs2 hz1 hz2).mono ?_
        rw [HRM.out, HH.out]
        rintro e w' ⟨rfl, hb'⟩
        have HB' := Lib.hid (HBW.out.trans (hb'.mono HBW.out.size))
        clear hb' d0 d1 g0 g1 hc
        go_wp2
        go_roundw
        case rel => exact ⟨k + 1, q + 1, by omega, by go_num, by go_num, by omega, HQ2, HB'.out⟩
        case measure => simp [intOf]; omega
    · have e : k = xs.length := by have := HL.out; omega
      have HE : Hid (comZ xs ys = q) := Lib.hid (by have := HQ.out; rwa [e, List.take_length] at this)
      clear e
      go_wp2
      go_ret
      rw [HE.out]
      exact ⟨rfl, HB0.out.trans (HBW.out.mono HB0.out.size)⟩

theorem mid_at (l : List Int) (n k : Nat) (hl : l.length = n) (hk : k < n) : (ints (l.take k) ++ List.replicate (n - k) (Value.int .i64 0))[k]? = some (.int .i64 0) := by
  have e : (ints (l.take k)).length = k := by simp [ints]; omega
  rw [List.getElem?_append_right (by omega), e, Nat.sub_self, List.getElem?_replicate, if_pos (by omega)]
theorem overP_at (n : Int) (xs ys : List Int) {k m : Nat} (h : k < m) : (overP n xs ys m)[k]? = some ((comZ xs (rotZ n ys 1 (k : Int)) : Nat) : Int) := by simp [overP, h]
theorem cell_set_ne' (w : World) (c o b p : Nat) (v : Value) (h : c ≠ b) : (w.setCell ⟨c, o, none⟩ v).cell? ⟨b, p, none⟩ = w.cell? ⟨b, p, none⟩ :=
  World.cell?_of_block (Below.heap_setCell _ _ _ _ (by show b ≠ c; omega))
set_option maxHeartbeats 1000000 in
theorem over0_any (n : Nat) (a : Option Addr) (na ca : Nat) (xs : List Int) (b : Option Addr) (nb cb : Nat) (ys : List Int) (w : World) (ha : IntsAt w a na xs) (hb : IntsAt w b nb ys) (hx : Ok n xs) (hy : Ok n ys) :
    Calls Try.prog 73 #[rhy n a na ca, rhy n b nb cb] w (IPost (overP n xs ys n) w) := by
  have FA := Lib.hid ha
  have FB := Lib.hid hb
  have HO := Lib.hid hx
  have HP := Lib.hid hy
  have hn1 : 1 ≤ n := by have := hx.1.1; omega
  have hn24 : n ≤ 24 := by have := hx.1.2; omega
  have hna : na ≤ 24 := by have := ha.1; have := ok_len hx; omega
  have hnb : nb ≤ 24 := by have := hb.1; have := ok_len hy; omega
  clear ha hb hx hy
  obtain ⟨i0, hi, hz0, hz1, hz2⟩ := info_parts infoInt
  have HI := Lib.hid (show _ ∧ _ ∧ _ ∧ _ from ⟨hi, hz0, hz1, hz2⟩)
  clear hi hz0 hz1 hz2
  obtain ⟨g, hg⟩ : ∃ g, g = w.heap.size := ⟨_, rfl⟩
  have HG := Lib.hid hg
  clear hg
  obtain ⟨W0, hW⟩ : ∃ W0, W0 = (w.alloc (.cells #[.int .i64 n, .slice a na ca] 24)).alloc (.cells #[.int .i64 n, .slice b nb cb] 24) := ⟨_, rfl⟩
  have HW := Lib.hid hW
  have HSZ := Lib.hid (show W0.heap.size = g + 2 by rw [hW, HG.out]; simp)
  have HB0 := Lib.hid (show Below g w W0 by rw [hW, HG.out]; exact bel2 w _ _)
  have HX0 : Hid (RhI W0 g n a na ca xs) := Lib.hid ⟨by rw [hW, HG.out]; exact (box_new w _ _ _).keep (bel1 _ _) (by simp), FA.out.below (by rw [← HG.out]; exact HB0.out)⟩
  have HY0 : Hid (RhI W0 (g + 1) n b nb cb ys) := Lib.hid ⟨by rw [hW, HG.out]; simpa using box_new (w.alloc (.cells #[.int .i64 n, .slice a na ca] 24)) (.int .i64 n) (.slice b nb cb) 24, FB.out.below (by rw [← HG.out]; exact HB0.out)⟩
  clear hW FA FB
  obtain ⟨c0, c1, f0, f1⟩ := HX0.out.1.facts
  obtain ⟨d0, d1, g0, g1⟩ := HY0.out.1.facts
  rw [HG.out] at c0 c1 f0 f1 d0 d1 g0 g1
  go_enter Try.func73, Try.ntmps73
  go_wp2_with (at_make; rw [← HW.out]; refine wpList_make_full _ rfl _ _ 22 rfl (g + 2) 3 i0 (.int .i64 0) 1 Try.underlying22 HI.out.1 HI.out.2.1 HI.out.2.2.1 .i64 .i64 n n n rfl rfl rfl rfl ?b2 ?b3 ?b4 ?_)
  case b2 => rw [HI.out.2.2.2]; omega
  case b3 => unfold maxLen; omega
  case b4 => rw [HSZ.out]; omega
  intro w1 hown hgrow
  rw [toList_madeCells_one, HSZ.out] at hown
  rw [HSZ.out, ← HG.out]
  have HXB : Hid (Below (g + 2) W0 w1) := Lib.hid ((Below.refl (g + 2) W0).grown hgrow (by have := HSZ.out; omega) (by intro k hk; cases hk))
  have HZ1 := HSZ.out
  have HA : Hid (w1.ownsRow (g + 2) 3 1 (.slice (some ⟨g + 2, 0, none⟩) n n) n (ints ((overP n xs ys n).take 0) ++ List.replicate (n - 0) (Value.int .i64 0))) := Lib.hid (by simpa [ints] using hown)
  have hsz1 := (hown.lt (g + 2) rfl).2
  clear hown hgrow c0 c1 f0 f1 d0 d1 g0 g1
  go_wp2
  go_loopw [12] (fun i wr => ∃ k : Nat, k ≤ n ∧ i = .int .i64 k ∧ wr.ownsRow (g + 2) 3 1 (.slice (some ⟨g + 2, 0, none⟩) n n) n (ints ((overP n xs ys n).take k) ++ List.replicate (n - k) (Value.int .i64 0)) ∧ Below (g + 2) W0 wr) (fun i _ => n - (intOf i).toNat)
  case atStart => exact ⟨0, by omega, rfl, HA.out, HXB.out⟩
  case round =>
    clear HA
    obtain ⟨k, hk, rfl, hown, hnx⟩ := hrel
    have HOW := Lib.hid hown
    have HX := Lib.hid hnx
    have HRX := Lib.hid (HX0.out.keep (by rw [HSZ.out]; exact hnx))
    have HRY := Lib.hid (HY0.out.keep (by rw [HSZ.out]; exact hnx))
    have hzw := (hown.lt (g + 2) rfl).2
    clear hown hnx
    by_cases hlt : k < n
    · have HRO : Hid (Ok n (rotZ n ys 1 k)) := Lib.hid (rot_ok HP.out.1 _ _)
      obtain ⟨c, hc⟩ : ∃ c : Nat, comZ xs (rotZ n ys 1 k) = c := ⟨_, rfl⟩
      have HV := Lib.hid hc
      have HCS := Lib.hid (copy_step (overP n xs ys n) n k c (overP_len _ _ _ _) (by rw [overP_at n xs ys hlt, hc]))
      have hc24 : c ≤ 24 := by rw [← hc]; exact Nat.le_trans (com_le _ _) (ok_len HO.out)
      clear hc
      obtain ⟨c0, c1, f0, f1⟩ := HRX.out.1.facts
      obtain ⟨d0, d1, g0, g1⟩ := HRY.out.1.facts
      go_upto_region 5 with fail
      clear c0 c1 f0 f1 d0 d1 g0 g1
      have HIX : Hid (∀ W' : World, Below wr.heap.size wr W' → IntsAt W' a na xs) := Lib.hid (fun W' hW => (HRX.out.keep hW).2)
      have HIY : Hid (∀ W' : World, Below wr.heap.size wr W' → IntsAt W' b nb ys) := Lib.hid (fun W' hW => (HRY.out.keep hW).2)
      have HK : Hid (∀ W' : World, Below wr.heap.size wr W' → W'.cell? ⟨g, 0, none⟩ = some (.int .i64 n) ∧ W'.cell? ⟨g, 1, none⟩ = some (.slice a na ca) ∧ W'.cell? ⟨g + 1, 0, none⟩ = some (.int .i64 n) ∧ W'.cell? ⟨g + 1, 1, none⟩ = some (.slice b nb cb)) :=
        Lib.hid (fun W' hW => ⟨(HRX.out.keep hW).1.facts.1, (HRX.out.keep hW).1.facts.2.1, (HRY.out.keep hW).1.facts.1, (HRY.out.keep hW).1.facts.2.1⟩)
      refine wp_region_held_drew (S := (fun W' => W'.cell? ⟨g, 0, none⟩ = some (.int .i64 n) ∧ W'.cell? ⟨g, 1, none⟩ = some (.slice a na ca) ∧ W'.cell? ⟨g + 1, 0, none⟩ = some (.int .i64 n) ∧ W'.cell? ⟨g + 1, 1, none⟩ = some (.slice b nb cb))) (by kernel_rfl) (HK.out _ (Below.refl _ _).drew) (fun hSS0 => ?_)
      refine wpAnyH_take (i := 0) (oi := ⟨some 15, _, _, _, _, _⟩) (v := .slice (some ⟨g + 2, 0, none⟩) n n) rfl (by kernel_rfl) (by kernel_rfl) (by kernel_rfl) (fun _ _ _ h => h) (Or.inl ⟨by rfl, fun W hSw => by go_simp⟩) (by assumption) ?_
      try simp only [Act.put, List.setIfInBounds_toArray, List.set_cons_zero, List.set_cons_succ]
      refine wpAnyH_take (i := 1) (oi := ⟨some 16, _, _, _, _, _⟩) (v := .int .i64 k) rfl (by kernel_rfl) (by kernel_rfl) (by kernel_rfl) (fun _ _ _ h => h) (Or.inl ⟨by rfl, fun W hSw => by go_simp⟩) (by assumption) ?_
      try simp only [Act.put, List.setIfInBounds_toArray, List.set_cons_zero, List.set_cons_succ]
      refine wpAnyH_take (i := 2) (oi := ⟨some 17, _, _, _, _, _⟩) (v := .agg #[.int .i64 n, .slice a na ca]) rfl (by kernel_rfl) (by kernel_rfl) (by kernel_rfl) (fun _ _ _ h => h) (Or.inl ⟨by rfl, fun W hSw => by obtain ⟨q1, q2, q3, q4⟩ := hSw; go_simp⟩) (by assumption) ?_
      try simp only [Act.put, List.setIfInBounds_toArray, List.set_cons_zero, List.set_cons_succ]
      refine wpAnyH_take (i := 3) (oi := ⟨some 18, _, _, _, _, _⟩) (v := .agg #[.int .i64 n, .slice b nb cb]) rfl (by kernel_rfl) (by kernel_rfl) (by kernel_rfl) (fun _ _ _ h => h) (Or.inl ⟨by rfl, fun W hSw => by obtain ⟨q1, q2, q3, q4⟩ := hSw; go_simp⟩) (by assumption) ?_
      try simp only [Act.put, List.setIfInBounds_toArray, List.set_cons_zero, List.set_cons_succ]
      refine wpAnyH_take (i := 4) (oi := ⟨some 19, _, _, _, _, _⟩) (v := .int .i64 k) rfl (by kernel_rfl) (by kernel_rfl) (by kernel_rfl) (fun _ _ _ h => h) (Or.inl ⟨by rfl, fun W hSw => by go_simp⟩) (by assumption) ?_
      try simp only [Act.put, List.setIfInBounds_toArray, List.set_cons_zero, List.set_cons_succ]
      refine wpAnyH_ready (rs := [5]) (by kernel_rfl) (by simp) ?_
      refine AllReadyH.cons rfl (fun K hKK => ?_) AllReadyH.nil
      go_simp
      go_at_call 70
      refine (moved_of n b nb cb ys 1 k _ (HIY.out _ (Below.refl _ _).drew) (by omega) HP.out (by omega) (by omega) (by omega) (by omega) (gcd_one _)).mono ?_
      rintro e wk1 ⟨ay, cy, rfl, hown1, hc1⟩
      have hbb1 : Below wr.heap.size wr wk1 := (Below.refl _ _).drew.trans hc1
      have HM1 := Lib.hid (intsAt_own hown1 (ok_int HRO.out))
      clear hown1 hc1
      refine hKK.out _ _ (HK.out _ hbb1) (fun hSS1 => ?_)
      clear hKK K hSS0
      try simp only [Act.put, List.setIfInBounds_toArray, List.set_cons_zero, List.set_cons_succ]
      refine wpAnyH_ready (rs := [6]) (by kernel_rfl) (by simp) ?_
      refine AllReadyH.cons rfl (fun K hKK => ?_) AllReadyH.nil
      go_simp
      go_at_call 80
      refine (com_any n a na ca xs ay (rotZ n ys 1 k).length cy (rotZ n ys 1 k) _ (HIX.out _ hbb1) (by omega) HM1.out (by have := ok_len HRO.out; omega) HO.out HRO.out).mono ?_
      rw [HV.out]
      rintro e wk2 ⟨rfl, hc2⟩
      have hbb2 : Below wr.heap.size wr wk2 := hbb1.trans (hc2.mono hbb1.size)
      clear hc2
      have HO2 := Lib.hid (own_below HOW.out hbb2)
      have hcr : wk2.cell? ⟨g + 2, k, none⟩ = some (.int .i64 0) := by
        rw [HO2.out.cellAt k (by omega), mid_at _ n k (overP_len _ _ _ _) hlt]
      have hfr := HO2.out.frozenAt k
      have hz2 := hbb2.size
      refine hKK.out _ _ (HK.out _ hbb2) (fun hSS2 => ?_)
      clear hKK K hSS1
      try simp only [Act.put, List.setIfInBounds_toArray, List.set_cons_zero, List.set_cons_succ]
      refine wpAnyH_take (i := 7) (oi := ⟨some 22, _, _, _, _, _⟩) (v := .pointer (some ⟨g + 2, k, none⟩)) rfl (by kernel_rfl) (by kernel_rfl) (by kernel_rfl) (fun _ _ _ h => h) (Or.inl ⟨by rfl, fun W hSw => by go_simp⟩) (by assumption) ?_
      try simp only [Act.put, List.setIfInBounds_toArray, List.set_cons_zero, List.set_cons_succ]
      refine wpAnyH_ready (rs := [8]) (by kernel_rfl) (by simp) ?_
      refine AllReadyH.cons rfl (fun K hKK => ?_) AllReadyH.nil
      go_simp
      refine hKK.out _ _ ⟨?_, ?_, ?_, ?_⟩ (fun hSS3 => ?_)
      all_goals first
        | (rw [cell_set_ne' _ _ _ _ _ _ (by omega)]; first | exact hSS2.1 | exact hSS2.2.1 | exact hSS2.2.2.1 | exact hSS2.2.2.2)
        | skip
      clear hKK K hSS2 HK
      try simp only [Act.put, List.setIfInBounds_toArray, List.set_cons_zero, List.set_cons_succ]
      refine wpAnyH_done (by kernel_rfl) ?_ _
      go_wp2
      go_roundw
      case rel =>
        have hst := HO2.out.stored k (.int .i64 (c : Nat))
        rw [HCS.out] at hst
        refine ⟨k + 1, by omega, by go_num, hst.1, ?_⟩
        exact (HX.out.trans (hbb2.mono (by omega))).setCell (Nat.le_refl _) _
      case measure => simp [intOf]; omega
    · have e : k = n := by omega
      have HE := Lib.hid e
      clear e
      go_wp2
      go_ret
      have h1 := HOW.out
      rw [HE.out, List.take_of_length_le (by rw [overP_len]; omega), Nat.sub_self, List.replicate_zero, List.append_nil] at h1
      refine ⟨some ⟨g + 2, 0, none⟩, n, ?_, ?_, ?_⟩
      · simp [overP_len]
      · rw [overP_len, ← HG.out]
        exact own_base h1 (by omega)
      · rw [← HG.out]
        exact HB0.out.trans (HX.out.mono (by omega))
end Go.Proofs.Ythjkblekccpafaa.Rhy
