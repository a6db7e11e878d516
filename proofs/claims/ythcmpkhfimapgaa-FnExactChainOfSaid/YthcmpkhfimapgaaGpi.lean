/-
  Helpers of the claims beside this text: the program's links of a rhythm: the walk of links.
-/
import Derived.Test.YthcmpkhfimapgaaGpk
namespace Go.Proofs.Ythcmpkhfimapgaa.Rhy
open Go.RowKit
set_option linter.unusedVariables false
set_option linter.unusedSimpArgs false

theorem take_snoc' {zs : List Int} {j : Nat} {z : Int} (h : zs[j]? = some z) : zs.take (j + 1) = zs.take j ++ [z] := by
  rw [List.take_add_one, h]; rfl
theorem take_not {s : Int} {zs : List Int} (ho : Ok s zs) {j : Nat} {z : Int} (h : zs[j]? = some z) : z ∉ zs.take j := by
  intro hm
  obtain ⟨i, hi, e⟩ := List.getElem_of_mem hm
  rw [List.length_take] at hi
  have e2 : zs[i]? = some z := by rw [← e, List.getElem_take, List.getElem?_eq_getElem]
  have hj : j < zs.length := by
    rcases Nat.lt_or_ge j zs.length with q | q
    · exact q
    · rw [List.getElem?_eq_none q] at h; cases h
  have hs := List.pairwise_iff_getElem.1 (ok_sorted ho) i j (by omega) hj (by omega)
  rw [List.getElem?_eq_getElem (by omega)] at e2
  rw [List.getElem?_eq_getElem hj] at h
  have e3 := Option.some.inj e2
  have e4 := Option.some.inj h
  omega

set_option maxHeartbeats 1000000 in
theorem links_any (n : Nat) (a : Option Addr) (cap : Nat) (zs : List Int) (g : Int) (w : World) (h : IntsAt w a zs.length zs) (ho : Ok n zs) (hg1 : 1 ≤ g) (hg2 : g < n) (h0 : 0 < zs.length) :
    Calls Try.prog 106 #[rhy n a zs.length cap, .int .i64 g] w (LksPost n zs g w) := by
  have HS := Lib.hid h
  have HOK := Lib.hid ho
  have hl24 := ok_len ho
  have hn1 : 1 ≤ n := by have := ho.1.1; omega
  have hn24 : n ≤ 24 := by have := ho.1.2; omega
  have HRNG := Lib.hid (ok_range ho)
  clear h ho
  go_enter Try.func106, Try.ntmps106
  go_wp2_with fail
  have HR0 := Lib.hid (lk1_start n a zs.length cap (fun _ => 0) w)
  obtain ⟨W0, hW⟩ : ∃ W0, W0 = ((w.alloc (.cells #[.int .i64 n, .slice a zs.length cap] 26)).alloc (.cells #[.pointer none, .pointer none, .pointer none, .pointer none, .pointer none, .pointer none, .pointer none, .pointer none, .pointer none, .pointer none, .pointer none, .pointer none, .pointer none, .pointer none, .pointer none, .pointer none, .pointer none, .pointer none, .pointer none, .pointer none, .pointer none, .pointer none, .pointer none, .pointer none] 110)) := ⟨_, rfl⟩
  rw [← hW] at HR0 ⊢
  clear hW
  go_loopw [6, 14] (fun v i wr => ∃ (j : Nat) (B : Int → Nat), j ≤ zs.length ∧ i = .int .i64 j ∧ Lk1 n a zs.length cap B (zs.take j) w wr v) (fun _ i _ => zs.length - (intOf i).toNat)
  case atStart => exact ⟨0, fun _ => 0, by omega, rfl, HR0.out⟩
  case round =>
    clear HR0
    obtain ⟨j, B, hj, rfl, hr⟩ := hrel
    obtain ⟨T, hT⟩ : ∃ T, zs.take j = T := ⟨_, rfl⟩
    rw [hT] at hr
    have HT := Lib.hid hT
    have HTL : Hid (T.length = j) := Lib.hid (by rw [← hT, List.length_take]; omega)
    clear hT
    have HR := Lib.hid hr
    obtain ⟨av, cv, rfl, hown, harr, hlk, htw, hbl, hsz⟩ := hr
    obtain ⟨x0, x1, x2⟩ := htw
    by_cases hlt : j < zs.length
    · obtain ⟨b, off, z, rfl, hb, hs, hc, hz1, hz2⟩ := (HS.out.below hbl).at hlt
      have hz := HRNG.out z (List.mem_of_getElem? hs)
      obtain ⟨k, rfl⟩ : ∃ k : Nat, z = k := ⟨z.toNat, by omega⟩
      have hk24 : k < 24 := by omega
      have HSN := Lib.hid (take_snoc' hs)
      rw [HT.out] at HSN
      have HNT : Hid ((k : Int) ∉ T) := Lib.hid (by rw [← HT.out]; exact take_not HOK.out hs)
      have harc : wr.cell? ⟨w.heap.size + 1, k, none⟩ = some (.pointer (lkO B T k)) := by rw [cell_of_row _ _ _ _ _ _ harr, opV_at hk24]
      have harf := frozen_of_row wr (w.heap.size + 1) k _ _ harr
      have htl : T.length ≤ 1000 := by have := HTL.out; omega
      have hs1 : w.heap.size + 1 < wr.heap.size := by omega
      have HO2 := Lib.hid ((ownsRow_setCell_below hown (show (⟨w.heap.size + 1, k, none⟩ : Addr).block < w.heap.size + 2 by show w.heap.size + 1 < w.heap.size + 2; omega) (.pointer (some ⟨wr.heap.size, 0, none⟩))).alloc (.cells #[.int .i64 k, .pointer none, .pointer none] 82))
      clear hs hown harr hlk hbl hz1 hz2
      go_wp2_with (at_builtin; refine append_lnk rfl _ _ rfl (w.heap.size + 2) _ _ _ _ _ HO2.out htl (by simp; omega) _ (by simp) rfl rfl ?_; intro a' c' w2 hown2 hsz2 hkeep2 hb2; have HST := Lib.hid (lk1_step HR.out hk24 HNT.out hown2 hkeep2 hb2); clear hown2 hsz2 hkeep2 hb2)
      go_roundw
      case rel => exact ⟨j + 1, _, by omega, by go_num, by rw [HSN.out]; exact HST.out⟩
      case measure => simp [intOf]; omega
    · have e : j = zs.length := by omega
      obtain rfl : zs = T := by rw [← HT.out, List.take_of_length_le (by omega)]
      subst e
      have HL0 := Lib.hid (lk2_start g HR.out)
      obtain ⟨gb, rfl, hcv, hrow⟩ := lk2_row HL0.out h0
      clear HR hown harr hlk hbl hrow
      go_wp2
      go_loopw [32] (fun i wr => ∃ j : Nat, j ≤ zs.length ∧ i = .int .i64 j ∧ Lk2 n a zs.length cap B (zs.take j) zs g w wr (some ⟨gb, 0, none⟩) cv) (fun i _ => zs.length - (intOf i).toNat)
      case atStart => exact ⟨0, by omega, rfl, HL0.out⟩
      case round =>
        clear HL0 x0 x1 x2
        obtain ⟨j, hj, rfl, hr⟩ := hrel
        have HR2 := Lib.hid hr
        obtain ⟨hown, harr, hlk, htw, hbl, hsz⟩ := hr
        obtain ⟨x0, x1, x2⟩ := htw
        obtain ⟨gb', e', _, hrow⟩ := lk2_row HR2.out h0
        cases e'
        by_cases hlt : j < zs.length
        · obtain ⟨z, hs⟩ : ∃ z, zs[j]? = some z := ⟨_, List.getElem?_eq_getElem hlt⟩
          have hzm := List.mem_of_getElem? hs
          have hc := hrow j z hs
          have hz := HRNG.out z hzm
          obtain ⟨hB, hL⟩ := hlk z hzm
          have hBlt := hL.lt
          obtain ⟨⟨l0, _, _⟩, _⟩ := hL.facts
          obtain ⟨y, hy⟩ : ∃ y : Nat, (z + g) % n = y := ⟨((z + g) % n).toNat, by have := em_bd (z + g) (n := n) (by omega); omega⟩
          have hyb : y < n := by have := em_bd (z + g) (n := n) (by omega); omega
          have hac : wr.cell? ⟨w.heap.size + 1, y, none⟩ = some (.pointer (lkO B zs y)) := by rw [cell_of_row _ _ _ _ _ _ harr, opV_at (by omega)]
          have HRB : Hid (remB (z + g) n = y) := Lib.hid hy
          have HSN := Lib.hid (take_snoc' hs)
          have hw0 : IntKind.i64.wrap (z + g) = z + g := IntWalk.i64_in _ ⟨by omega, by omega⟩
          have HRd := Lib.hid (lk2_keep HR2.out (Below.refl _ _).drew)
          have hs0 : w.heap.size < wr.heap.size := by omega
          have hs1 : w.heap.size + 1 < wr.heap.size := by omega
          have y24 : (y : Int) < 24 := by omega
          have y0 : (0 : Int) ≤ (y : Int) := by omega
          by_cases hm : (y : Int) ∈ zs
          · rw [lkO_yes hm] at hac
            have HST := Lib.hid (lk2_step HRd.out HRNG.out ⟨hg1, hg2⟩ hzm hm hy)
            have HLz := Lib.hid (HRd.out.2.2.1 z hzm).2
            have HLy := Lib.hid (HRd.out.2.2.1 y hm).2
            have HNE : Hid (B y ≠ B z) := Lib.hid (by
              intro e
              have h1 := HLz.out
              rw [← e] at h1
              have h2 := lnk_inj h1 HLy.out
              rw [h2] at hy
              have h3 := (back_iff (g := g) (HRNG.out y hm) (HRNG.out y hm)).2 hy.symm
              rcases Int.lt_or_le ((y : Int) - g) 0 with q | q
              · have : ((y : Int) - g) % n = y - g + n := by
                  rw [← Int.add_emod_right, Int.emod_eq_of_lt (by omega) (by omega)]
                omega
              · rw [Int.emod_eq_of_lt q (by omega)] at h3
                omega)
            have hyB : w.heap.size + 2 ≤ B y := (hlk y hm).1
            have HK : Hid (∀ W : World, Below wr.heap.size wr W → W.cell? ⟨B z, 0, none⟩ = some (.int .i64 z) ∧ W.cell? ⟨w.heap.size, 0, none⟩ = some (.int .i64 n) ∧ W.cell? ⟨w.heap.size + 1, y, none⟩ = some (.pointer (some ⟨B y, 0, none⟩))) :=
              Lib.hid (fun W hW => ⟨by rw [hW.cell (p := ⟨B z, 0, none⟩) hBlt]; exact l0, by rw [hW.cell (p := ⟨w.heap.size, 0, none⟩) hs0]; exact x1, by rw [hW.cell (p := ⟨w.heap.size + 1, y, none⟩) hs1]; exact hac⟩)
            have HSE := Lib.hid (show ((wr.drew.setCell ⟨B z, 2, none⟩ (.pointer (some ⟨B y, 0, none⟩))).setCell ⟨B y, 1, none⟩ (.pointer (some ⟨B z, 0, none⟩))).cell? ⟨B z, 0, none⟩ = some (.int .i64 z) ∧
                ((wr.drew.setCell ⟨B z, 2, none⟩ (.pointer (some ⟨B y, 0, none⟩))).setCell ⟨B y, 1, none⟩ (.pointer (some ⟨B z, 0, none⟩))).cell? ⟨w.heap.size, 0, none⟩ = some (.int .i64 n) ∧
                ((wr.drew.setCell ⟨B z, 2, none⟩ (.pointer (some ⟨B y, 0, none⟩))).setCell ⟨B y, 1, none⟩ (.pointer (some ⟨B z, 0, none⟩))).cell? ⟨w.heap.size + 1, y, none⟩ = some (.pointer (some ⟨B y, 0, none⟩)) from
              ⟨(HST.out.2.2.1 z hzm).2.facts.1.1, HST.out.2.2.2.1.2.1, by rw [cell_of_row _ _ _ _ _ _ HST.out.2.1, opV_at (by omega), lkO_yes hm]⟩)
            clear hs hy hown harr hlk hrow hL hbl x2
            go_wp2
            refine wp_region_held_drew (S := fun W => W.cell? ⟨B z, 0, none⟩ = some (.int .i64 z) ∧ W.cell? ⟨w.heap.size, 0, none⟩ = some (.int .i64 n) ∧ W.cell? ⟨w.heap.size + 1, y, none⟩ = some (.pointer (some ⟨B y, 0, none⟩))) (by kernel_rfl) (HK.out _ (Below.refl _ _).drew) (fun hSS0 => ?_)
            refine wpAnyH_take (i := 0) (oi := ⟨some 36, _, _, _, _, _⟩) (v := .pointer (some ⟨B z, 0, none⟩)) rfl (by kernel_rfl) (by kernel_rfl) (by kernel_rfl) (fun _ _ _ h => h) (Or.inl ⟨by rfl, fun W hSw => by go_simp⟩) (by assumption) ?_
            try simp only [Act.put, List.setIfInBounds_toArray, List.set_cons_zero, List.set_cons_succ]
            refine wpAnyH_take (i := 1) (oi := ⟨some 37, _, _, _, _, _⟩) (v := .pointer (some ⟨B z, 0, none⟩)) rfl (by kernel_rfl) (by kernel_rfl) (by kernel_rfl) (fun _ _ _ h => h) (Or.inl ⟨by rfl, fun W hSw => by go_simp⟩) (by assumption) ?_
            try simp only [Act.put, List.setIfInBounds_toArray, List.set_cons_zero, List.set_cons_succ]
            refine wpAnyH_take (i := 2) (oi := ⟨some 38, _, _, _, _, _⟩) (v := .pointer (some ⟨B z, 0, none⟩)) rfl (by kernel_rfl) (by kernel_rfl) (by kernel_rfl) (fun _ _ _ h => h) (Or.inl ⟨by rfl, fun W hSw => by go_simp⟩) (by assumption) ?_
            try simp only [Act.put, List.setIfInBounds_toArray, List.set_cons_zero, List.set_cons_succ]
            refine wpAnyH_take (i := 3) (oi := ⟨some 39, _, _, _, _, _⟩) (v := .pointer (some ⟨B z, 0, none⟩)) rfl (by kernel_rfl) (by kernel_rfl) (by kernel_rfl) (fun _ _ _ h => h) (Or.inl ⟨by rfl, fun W hSw => by go_simp⟩) (by assumption) ?_
            try simp only [Act.put, List.setIfInBounds_toArray, List.set_cons_zero, List.set_cons_succ]
            refine wpAnyH_take (i := 4) (oi := ⟨some 40, _, _, _, _, _⟩) (v := .int .i64 z) rfl (by kernel_rfl) (by kernel_rfl) (by kernel_rfl) (fun _ _ _ h => h) (Or.inl ⟨by rfl, fun W hSw => by obtain ⟨q1, q2, q3⟩ := hSw; go_simp⟩) (by assumption) ?_
            try simp only [Act.put, List.setIfInBounds_toArray, List.set_cons_zero, List.set_cons_succ]
            refine wpAnyH_take (i := 5) (oi := ⟨some 41, _, _, _, _, _⟩) (v := .int .i64 g) rfl (by kernel_rfl) (by kernel_rfl) (by kernel_rfl) (fun _ _ _ h => h) (Or.inl ⟨by rfl, fun W hSw => by go_simp⟩) (by assumption) ?_
            try simp only [Act.put, List.setIfInBounds_toArray, List.set_cons_zero, List.set_cons_succ]
            refine wpAnyH_take (i := 6) (oi := ⟨some 42, _, _, _, _, _⟩) (v := .int .i64 (z + g)) rfl (by kernel_rfl) (by kernel_rfl) (by kernel_rfl) (fun _ _ _ h => h) (Or.inl ⟨by rfl, fun W hSw => by go_simp⟩) (by assumption) ?_
            try simp only [Act.put, List.setIfInBounds_toArray, List.set_cons_zero, List.set_cons_succ]
            refine wpAnyH_take (i := 7) (oi := ⟨some 43, _, _, _, _, _⟩) (v := .pointer (some ⟨w.heap.size, 0, none⟩)) rfl (by kernel_rfl) (by kernel_rfl) (by kernel_rfl) (fun _ _ _ h => h) (Or.inl ⟨by rfl, fun W hSw => by go_simp⟩) (by assumption) ?_
            try simp only [Act.put, List.setIfInBounds_toArray, List.set_cons_zero, List.set_cons_succ]
            refine wpAnyH_take (i := 8) (oi := ⟨some 44, _, _, _, _, _⟩) (v := .int .i64 n) rfl (by kernel_rfl) (by kernel_rfl) (by kernel_rfl) (fun _ _ _ h => h) (Or.inl ⟨by rfl, fun W hSw => by obtain ⟨q1, q2, q3⟩ := hSw; go_simp⟩) (by assumption) ?_
            try simp only [Act.put, List.setIfInBounds_toArray, List.set_cons_zero, List.set_cons_succ]
            refine wpAnyH_ready (rs := [9]) (by kernel_rfl) (by simp) ?_
            refine AllReadyH.cons rfl (fun K hKK => ?_) AllReadyH.nil
            go_simp
            go_at_call 52
            refine (around_any (z + g) n _ (by omega) (by omega) (by omega) (by omega)).mono ?_
            rintro e w2 ⟨rfl, rfl⟩
            rw [HRB.out]
            refine hKK.out _ _ (HK.out _ (Below.refl _ _).drew) (fun hSS1 => ?_)
            clear hKK K hSS0
            try simp only [Act.put, List.setIfInBounds_toArray, List.set_cons_zero, List.set_cons_succ]
            refine wpAnyH_take (i := 10) (oi := ⟨some 46, _, _, _, _, _⟩) (v := .pointer (some ⟨w.heap.size + 1, y, none⟩)) rfl (by kernel_rfl) (by kernel_rfl) (by kernel_rfl) (fun _ _ _ h => h) (Or.inl ⟨by rfl, fun W hSw => by go_simp⟩) (by assumption) ?_
            try simp only [Act.put, List.setIfInBounds_toArray, List.set_cons_zero, List.set_cons_succ]
            refine wpAnyH_take (i := 11) (oi := ⟨some 47, _, _, _, _, _⟩) (v := .pointer (some ⟨B y, 0, none⟩)) rfl (by kernel_rfl) (by kernel_rfl) (by kernel_rfl) (fun _ _ _ h => h) (Or.inl ⟨by rfl, fun W hSw => by obtain ⟨q1, q2, q3⟩ := hSw; go_simp⟩) (by assumption) ?_
            try simp only [Act.put, List.setIfInBounds_toArray, List.set_cons_zero, List.set_cons_succ]
            refine wpAnyH_ready (rs := [12]) (by kernel_rfl) (by simp) ?_
            refine AllReadyH.cons rfl (fun K hKK => ?_) AllReadyH.nil
            go_simp
            go_at_call 123
            refine (lead_next (B z) (B y) _ _ _ _ _ _ _ HLz.out HLy.out HNE.out).mono ?_
            rintro e w2 ⟨rfl, rfl⟩
            refine hKK.out _ _ HSE.out (fun hSS2 => ?_)
            clear hKK K hSS1
            try simp only [Act.put, List.setIfInBounds_toArray, List.set_cons_zero, List.set_cons_succ]
            refine wpAnyH_done (by kernel_rfl) ?_ _
            clear HK
            go_wp2
            go_roundw
            case rel => exact ⟨j + 1, by omega, by go_num, by rw [HSN.out]; exact HST.out⟩
            case measure => simp [intOf]; omega
          · rw [lkO_no hm] at hac
            have HST := Lib.hid (lk2_skip HRd.out HRNG.out hzm (by rw [hy]; exact hm))
            have HK : Hid (∀ W : World, Below wr.heap.size wr W → W.cell? ⟨B z, 0, none⟩ = some (.int .i64 z) ∧ W.cell? ⟨w.heap.size, 0, none⟩ = some (.int .i64 n) ∧ W.cell? ⟨w.heap.size + 1, y, none⟩ = some (.pointer none)) :=
              Lib.hid (fun W hW => ⟨by rw [hW.cell (p := ⟨B z, 0, none⟩) hBlt]; exact l0, by rw [hW.cell (p := ⟨w.heap.size, 0, none⟩) hs0]; exact x1, by rw [hW.cell (p := ⟨w.heap.size + 1, y, none⟩) hs1]; exact hac⟩)
            clear hs hy hown harr hlk hrow hL hbl x2
            go_wp2
            refine wp_region_held_drew (S := fun W => W.cell? ⟨B z, 0, none⟩ = some (.int .i64 z) ∧ W.cell? ⟨w.heap.size, 0, none⟩ = some (.int .i64 n) ∧ W.cell? ⟨w.heap.size + 1, y, none⟩ = some (.pointer none)) (by kernel_rfl) (HK.out _ (Below.refl _ _).drew) (fun hSS0 => ?_)
            refine wpAnyH_take (i := 0) (oi := ⟨some 36, _, _, _, _, _⟩) (v := .pointer (some ⟨B z, 0, none⟩)) rfl (by kernel_rfl) (by kernel_rfl) (by kernel_rfl) (fun _ _ _ h => h) (Or.inl ⟨by rfl, fun W hSw => by go_simp⟩) (by assumption) ?_
            try simp only [Act.put, List.setIfInBounds_toArray, List.set_cons_zero, List.set_cons_succ]
            refine wpAnyH_take (i := 1) (oi := ⟨some 37, _, _, _, _, _⟩) (v := .pointer (some ⟨B z, 0, none⟩)) rfl (by kernel_rfl) (by kernel_rfl) (by kernel_rfl) (fun _ _ _ h => h) (Or.inl ⟨by rfl, fun W hSw => by go_simp⟩) (by assumption) ?_
            try simp only [Act.put, List.setIfInBounds_toArray, List.set_cons_zero, List.set_cons_succ]
            refine wpAnyH_take (i := 2) (oi := ⟨some 38, _, _, _, _, _⟩) (v := .pointer (some ⟨B z, 0, none⟩)) rfl (by kernel_rfl) (by kernel_rfl) (by kernel_rfl) (fun _ _ _ h => h) (Or.inl ⟨by rfl, fun W hSw => by go_simp⟩) (by assumption) ?_
            try simp only [Act.put, List.setIfInBounds_toArray, List.set_cons_zero, List.set_cons_succ]
            refine wpAnyH_take (i := 3) (oi := ⟨some 39, _, _, _, _, _⟩) (v := .pointer (some ⟨B z, 0, none⟩)) rfl (by kernel_rfl) (by kernel_rfl) (by kernel_rfl) (fun _ _ _ h => h) (Or.inl ⟨by rfl, fun W hSw => by go_simp⟩) (by assumption) ?_
            try simp only [Act.put, List.setIfInBounds_toArray, List.set_cons_zero, List.set_cons_succ]
            refine wpAnyH_take (i := 4) (oi := ⟨some 40, _, _, _, _, _⟩) (v := .int .i64 z) rfl (by kernel_rfl) (by kernel_rfl) (by kernel_rfl) (fun _ _ _ h => h) (Or.inl ⟨by rfl, fun W hSw => by obtain ⟨q1, q2, q3⟩ := hSw; go_simp⟩) (by assumption) ?_
            try simp only [Act.put, List.setIfInBounds_toArray, List.set_cons_zero, List.set_cons_succ]
            refine wpAnyH_take (i := 5) (oi := ⟨some 41, _, _, _, _, _⟩) (v := .int .i64 g) rfl (by kernel_rfl) (by kernel_rfl) (by kernel_rfl) (fun _ _ _ h => h) (Or.inl ⟨by rfl, fun W hSw => by go_simp⟩) (by assumption) ?_
            try simp only [Act.put, List.setIfInBounds_toArray, List.set_cons_zero, List.set_cons_succ]
            refine wpAnyH_take (i := 6) (oi := ⟨some 42, _, _, _, _, _⟩) (v := .int .i64 (z + g)) rfl (by kernel_rfl) (by kernel_rfl) (by kernel_rfl) (fun _ _ _ h => h) (Or.inl ⟨by rfl, fun W hSw => by go_simp⟩) (by assumption) ?_
            try simp only [Act.put, List.setIfInBounds_toArray, List.set_cons_zero, List.set_cons_succ]
            refine wpAnyH_take (i := 7) (oi := ⟨some 43, _, _, _, _, _⟩) (v := .pointer (some ⟨w.heap.size, 0, none⟩)) rfl (by kernel_rfl) (by kernel_rfl) (by kernel_rfl) (fun _ _ _ h => h) (Or.inl ⟨by rfl, fun W hSw => by go_simp⟩) (by assumption) ?_
            try simp only [Act.put, List.setIfInBounds_toArray, List.set_cons_zero, List.set_cons_succ]
            refine wpAnyH_take (i := 8) (oi := ⟨some 44, _, _, _, _, _⟩) (v := .int .i64 n) rfl (by kernel_rfl) (by kernel_rfl) (by kernel_rfl) (fun _ _ _ h => h) (Or.inl ⟨by rfl, fun W hSw => by obtain ⟨q1, q2, q3⟩ := hSw; go_simp⟩) (by assumption) ?_
            try simp only [Act.put, List.setIfInBounds_toArray, List.set_cons_zero, List.set_cons_succ]
            refine wpAnyH_ready (rs := [9]) (by kernel_rfl) (by simp) ?_
            refine AllReadyH.cons rfl (fun K hKK => ?_) AllReadyH.nil
            go_simp
            go_at_call 52
            refine (around_any (z + g) n _ (by omega) (by omega) (by omega) (by omega)).mono ?_
            rintro e w2 ⟨rfl, rfl⟩
            rw [HRB.out]
            refine hKK.out _ _ (HK.out _ (Below.refl _ _).drew) (fun hSS1 => ?_)
            clear hKK K hSS0
            try simp only [Act.put, List.setIfInBounds_toArray, List.set_cons_zero, List.set_cons_succ]
            refine wpAnyH_take (i := 10) (oi := ⟨some 46, _, _, _, _, _⟩) (v := .pointer (some ⟨w.heap.size + 1, y, none⟩)) rfl (by kernel_rfl) (by kernel_rfl) (by kernel_rfl) (fun _ _ _ h => h) (Or.inl ⟨by rfl, fun W hSw => by go_simp⟩) (by assumption) ?_
            try simp only [Act.put, List.setIfInBounds_toArray, List.set_cons_zero, List.set_cons_succ]
            refine wpAnyH_take (i := 11) (oi := ⟨some 47, _, _, _, _, _⟩) (v := .pointer none) rfl (by kernel_rfl) (by kernel_rfl) (by kernel_rfl) (fun _ _ _ h => h) (Or.inl ⟨by rfl, fun W hSw => by obtain ⟨q1, q2, q3⟩ := hSw; go_simp⟩) (by assumption) ?_
            try simp only [Act.put, List.setIfInBounds_toArray, List.set_cons_zero, List.set_cons_succ]
            refine wpAnyH_ready (rs := [12]) (by kernel_rfl) (by simp) ?_
            refine AllReadyH.cons rfl (fun K hKK => ?_) AllReadyH.nil
            go_simp
            go_at_call 123
            refine (lead_nil (B z) _).mono ?_
            rintro e w2 ⟨rfl, rfl⟩
            refine hKK.out _ _ (HK.out _ (Below.refl _ _).drew) (fun hSS2 => ?_)
            clear hKK K hSS1
            try simp only [Act.put, List.setIfInBounds_toArray, List.set_cons_zero, List.set_cons_succ]
            refine wpAnyH_done (by kernel_rfl) ?_ _
            clear HK
            go_wp2
            go_roundw
            case rel => exact ⟨j + 1, by omega, by go_num, by rw [HSN.out]; exact HST.out⟩
            case measure => simp [intOf]; omega
        · have e : j = zs.length := by omega
          have HE := Lib.hid (show zs.take j = zs from List.take_of_length_le (by omega))
          rw [HE.out] at HR2
          have HP := Lib.hid (lk2_end HR2.out h0)
          clear hown harr hlk hrow hbl HE
          subst e
          go_wp2
          go_ret
          exact HP.out
end Go.Proofs.Ythcmpkhfimapgaa.Rhy
