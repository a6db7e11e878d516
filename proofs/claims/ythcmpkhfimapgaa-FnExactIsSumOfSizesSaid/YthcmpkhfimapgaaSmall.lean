/-
  Helpers of the claims beside this text: CountBeats and HasBeat of the model and of the program.
-/
import Derived.Test.YthcmpkhfimapgaaHasBeat
namespace Go.Proofs.Ythcmpkhfimapgaa.Rhy
open Go.RowKit
set_option linter.unusedVariables false

open Classical in
noncomputable def okB (s : Int) (zs : List Int) : Bool := decide (Ok s zs)
theorem okB_yes {s : Int} {zs : List Int} (h : Ok s zs) : okB s zs = true := by simp [okB, h]
theorem okB_no {s : Int} {zs : List Int} (h : ¬ Ok s zs) : okB s zs = false := by simp [okB, h]

open Classical in
noncomputable def countB (s : Int) (zs : List Int) : Int := if Ok s zs then zs.length else -1
theorem countB_yes {s : Int} {zs : List Int} (h : Ok s zs) : countB s zs = zs.length := by simp [countB, h]
theorem countB_no {s : Int} {zs : List Int} (h : ¬ Ok s zs) : countB s zs = -1 := by simp [countB, h]


theorem count_impl (s : Int) (a : Option Addr) (len cap : Nat) (zs : List Int) (w : World) (h : IntsAt w a len zs) (hm : zs.length ≤ 1048576) :
    Calls Try.prog 27 #[rhy s a len cap] w fun e w' => e = .returned (.int .i64 (countB s zs)) ∧ Below w.heap.size w w' := by
  have HS := Lib.hid h
  have hl : len ≤ 1048576 := by have := h.1; omega
  clear h
  by_cases ho : Ok s zs
  · have HO := Lib.hid ho
    clear ho
    go_enter Try.func27, Try.ntmps27
    go_wp2_with fail
    refine (valid_yes s a len cap zs _ (HS.out.below (bel1 w _)) hl HO.out).mono ?_
    rintro e w1 ⟨rfl, hb⟩
    have HB := Lib.hid hb
    obtain ⟨c1, f1⟩ := bcell hb
    clear hb
    go_wp2
    go_ret
    exact ⟨ret_int (by rw [countB_yes HO.out, HS.out.1]), (bel1 w _).trans (HB.out.mono (by simp))⟩
  · have HO := Lib.hid ho
    clear ho
    go_enter Try.func27, Try.ntmps27
    go_wp2_with fail
    refine (valid_no s a len cap zs _ (HS.out.below (bel1 w _)) hl HO.out).mono ?_
    rintro e w1 ⟨rfl, hb⟩
    have HB := Lib.hid hb
    clear hb
    go_wp2
    go_ret
    exact ⟨ret_int (by rw [countB_no HO.out]), (bel1 w _).trans (HB.out.mono (by simp))⟩

noncomputable def beatB (s : Int) (zs : List Int) (k : Int) : Bool := okB s zs && hasB zs (remB k s)
theorem beatB_yes {s : Int} {zs : List Int} {k : Int} (h : Ok s zs) : beatB s zs k = hasB zs (remB k s) := by simp [beatB, okB_yes h]
theorem beatB_no {s : Int} {zs : List Int} {k : Int} (h : ¬ Ok s zs) : beatB s zs k = false := by simp [beatB, okB_no h]

theorem beat_impl (s : Int) (a : Option Addr) (len cap : Nat) (zs : List Int) (k : Int) (w : World) (h : IntsAt w a len zs) (hm : zs.length ≤ 1048576) (h3 : -9223372036854775808 ≤ k) (h4 : k ≤ 9223372036854775807) :
    Calls Try.prog 25 #[rhy s a len cap, .int .i64 k] w fun e w' => e = .returned (.bool (beatB s zs k)) ∧ Below w.heap.size w w' := by
  have HS := Lib.hid h
  have hl : len ≤ 1048576 := by have := h.1; omega
  clear h
  by_cases ho : Ok s zs
  · have HO := Lib.hid ho
    have hs1 := ho.1.1
    have hs2 := ho.1.2
    have HE := Lib.hid (beatB_yes (k := k) ho)
    clear ho
    go_enter Try.func25, Try.ntmps25
    go_wp2_with fail
    refine (valid_yes s a len cap zs _ (HS.out.below (bel1 w _)) hl HO.out).mono ?_
    rintro e w1 ⟨rfl, hb⟩
    have HB := Lib.hid ((bel1 w (.cells #[.int .i64 s, .slice a len cap] 26)).trans (hb.mono (by simp)))
    obtain ⟨c1, f1⟩ := bcell hb
    clear hb
    go_wp2_with fail
    refine (hasBeat_any s a len cap zs k _ (HS.out.below HB.out) hl hs1 hs2 h3 h4).mono ?_
    rintro e w2 ⟨rfl, hb2⟩
    have HB2 := Lib.hid hb2
    clear hb2
    go_wp2
    go_ret
    exact ⟨ret_bool HE.out.symm, HB.out.trans (HB2.out.mono HB.out.size)⟩
  · have HO := Lib.hid ho
    have HE := Lib.hid (beatB_no (k := k) ho)
    clear ho
    go_enter Try.func25, Try.ntmps25
    go_wp2_with fail
    refine (valid_no s a len cap zs _ (HS.out.below (bel1 w _)) hl HO.out).mono ?_
    rintro e w1 ⟨rfl, hb⟩
    have HB := Lib.hid hb
    clear hb
    go_wp2
    go_ret
    exact ⟨ret_bool HE.out.symm, (bel1 w _).trans (HB.out.mono (by simp))⟩

set_option maxHeartbeats 1000000 in
theorem beat_spec (s : Int) (a : Option Addr) (len cap : Nat) (zs : List Int) (k : Int) (w : World) (h : IntsAt w a len zs) (hm : zs.length ≤ 1048576) (h3 : -9223372036854775808 ≤ k) (h4 : k ≤ 9223372036854775807) :
    Calls Try.prog 75 #[rhy s a len cap, .int .i64 k] w fun e w' => e = .returned (.bool (beatB s zs k)) ∧ Below w.heap.size w w' := by
  have HS := Lib.hid h
  have hl : len ≤ 1048576 := by have := h.1; omega
  clear h
  by_cases ho : Ok s zs
  · have HO := Lib.hid ho
    have hs1 := ho.1.1
    have hs2 := ho.1.2
    have HE := Lib.hid (beatB_yes (k := k) ho)
    clear ho
    go_enter Try.func75, Try.ntmps75
    go_wp2
    obtain ⟨W0, HW⟩ : ∃ W0, Hid (W0 = w.alloc (.cells #[.int .i64 s, .slice a len cap] 26)) := ⟨_, Lib.hid rfl⟩
    have HT : Hid (Two W0 w.heap.size (.int .i64 s) (.slice a len cap)) := Lib.hid (by rw [HW.out]; exact two_new w _ _ _)
    have B0 : Hid (Below w.heap.size w W0) := Lib.hid (by rw [HW.out]; exact bel1 w _)
    rw [← HW.out]
    obtain ⟨t, ta, tb⟩ := HT.out
    have HK : Hid (∀ W, Below W0.heap.size W0 W → W.cell? ⟨w.heap.size, 0, none⟩ = some (.int .i64 s) ∧ W.cell? ⟨w.heap.size, 1, none⟩ = some (.slice a len cap) ∧ Below W0.heap.size W0 W) :=
      Lib.hid (fun W hW => ⟨(HT.out.keep hW).2.1, (HT.out.keep hW).2.2, hW⟩)
    go_region_held3 (fun w' => w'.cell? ⟨w.heap.size, 0, none⟩ = some (.int .i64 s) ∧ w'.cell? ⟨w.heap.size, 1, none⟩ = some (.slice a len cap) ∧ Below W0.heap.size W0 w')
      (first | exact HK.out _ (Below.refl _ _).drew | exact HK.out _ hb1)
      ((first
        | (go_at_call 56; refine (ok_yes s a len cap zs _ ((HS.out.below B0.out).below (Below.refl _ _).drew) hl HO.out).mono ?_; rintro e w1 ⟨rfl, hc1⟩; have hb1 := (Below.refl W0.heap.size W0).drew.trans hc1; clear hc1)
        | (go_at_call 82; refine (mod_any k s _ hs1 (by omega) h3 h4).mono ?_; rintro e w2 ⟨rfl, rfl⟩)
        | (go_at_call 70; refine (has_any a len cap zs _ _ ((HS.out.below B0.out).below hb1) (by omega)).mono ?_; rintro e w3 ⟨rfl, rfl⟩)))
    rename_i hh
    have hb := hh.2.2
    clear hh HK
    go_wp2
    go_ret
    exact ⟨ret_bool HE.out.symm, B0.out.trans (hb.mono B0.out.size)⟩
  · have HO := Lib.hid ho
    have HE := Lib.hid (beatB_no (k := k) ho)
    clear ho
    go_enter Try.func75, Try.ntmps75
    go_wp2
    obtain ⟨W0, HW⟩ : ∃ W0, Hid (W0 = w.alloc (.cells #[.int .i64 s, .slice a len cap] 26)) := ⟨_, Lib.hid rfl⟩
    have HT : Hid (Two W0 w.heap.size (.int .i64 s) (.slice a len cap)) := Lib.hid (by rw [HW.out]; exact two_new w _ _ _)
    have B0 : Hid (Below w.heap.size w W0) := Lib.hid (by rw [HW.out]; exact bel1 w _)
    rw [← HW.out]
    obtain ⟨t, ta, tb⟩ := HT.out
    have HK : Hid (∀ W, Below W0.heap.size W0 W → W.cell? ⟨w.heap.size, 0, none⟩ = some (.int .i64 s) ∧ W.cell? ⟨w.heap.size, 1, none⟩ = some (.slice a len cap) ∧ Below W0.heap.size W0 W) :=
      Lib.hid (fun W hW => ⟨(HT.out.keep hW).2.1, (HT.out.keep hW).2.2, hW⟩)
    refine wp_region_held_drew (S := fun W => W.cell? ⟨w.heap.size, 0, none⟩ = some (.int .i64 s) ∧ W.cell? ⟨w.heap.size, 1, none⟩ = some (.slice a len cap) ∧ Below W0.heap.size W0 W) (by kernel_rfl) (HK.out _ (Below.refl _ _).drew) (fun hS0 => ?_)
    refine wpAnyH_take (i := 0) (oi := ⟨some 5, _, _, _, _, _⟩) (v := .agg #[.int .i64 s, .slice a len cap]) rfl (by kernel_rfl) (by kernel_rfl) (by kernel_rfl) (fun _ _ _ h => h) (Or.inl ⟨by rfl, fun w hSw => by obtain ⟨q1, q2, _⟩ := hSw; go_simp⟩) (by assumption) ?_
    try simp only [Act.put, List.setIfInBounds_toArray, List.set_cons_zero, List.set_cons_succ]
    refine wpAnyH_ready (rs := [1]) (by kernel_rfl) (by simp) ?_
    refine AllReadyH.cons rfl (fun K hKK => ?_) AllReadyH.nil
    go_simp
    go_at_call 56
    refine (ok_no s a len cap zs _ ((HS.out.below B0.out).below (Below.refl _ _).drew) hl HO.out).mono ?_
    rintro e w1 ⟨rfl, hc1⟩
    have hb1 := (Below.refl W0.heap.size W0).drew.trans hc1
    clear hc1
    refine hKK.out _ _ (HK.out _ hb1) (fun hS1 => ?_)
    refine wpAnyH_take (i := 2) (oi := ⟨some 7, _, _, _, _, _⟩) (v := .bool false) rfl (by kernel_rfl) (by kernel_rfl) (by kernel_rfl) (fun _ _ _ h => h) (Or.inl ⟨by rfl, fun w hSw => by go_simp⟩) (by assumption) ?_
    try simp only [Act.put, List.setIfInBounds_toArray, List.set_cons_zero, List.set_cons_succ]
    refine wpAnyH_take (i := 3) (oi := ⟨some 8, _, _, _, _, _⟩) (v := undef) rfl (by kernel_rfl) (by kernel_rfl) (by kernel_rfl) (fun _ _ _ h => h) (Or.inr ⟨by rfl, rfl⟩) (by assumption) ?_
    try simp only [Act.put, List.setIfInBounds_toArray, List.set_cons_zero, List.set_cons_succ]
    refine wpAnyH_take (i := 4) (oi := ⟨some 9, _, _, _, _, _⟩) (v := undef) rfl (by kernel_rfl) (by kernel_rfl) (by kernel_rfl) (fun _ _ _ h => h) (Or.inr ⟨by rfl, rfl⟩) (by assumption) ?_
    try simp only [Act.put, List.setIfInBounds_toArray, List.set_cons_zero, List.set_cons_succ]
    refine wpAnyH_take (i := 5) (oi := ⟨some 10, _, _, _, _, _⟩) (v := undef) rfl (by kernel_rfl) (by kernel_rfl) (by kernel_rfl) (fun _ _ _ h => h) (Or.inr ⟨by rfl, rfl⟩) (by assumption) ?_
    try simp only [Act.put, List.setIfInBounds_toArray, List.set_cons_zero, List.set_cons_succ]
    refine wpAnyH_take (i := 6) (oi := ⟨some 11, _, _, _, _, _⟩) (v := undef) rfl (by kernel_rfl) (by kernel_rfl) (by kernel_rfl) (fun _ _ _ h => h) (Or.inr ⟨by rfl, rfl⟩) (by assumption) ?_
    try simp only [Act.put, List.setIfInBounds_toArray, List.set_cons_zero, List.set_cons_succ]
    refine wpAnyH_take (i := 7) (oi := ⟨some 12, _, _, _, _, _⟩) (v := undef) rfl (by kernel_rfl) (by kernel_rfl) (by kernel_rfl) (fun _ _ _ h => h) (Or.inr ⟨by rfl, rfl⟩) (by assumption) ?_
    try simp only [Act.put, List.setIfInBounds_toArray, List.set_cons_zero, List.set_cons_succ]
    refine wpAnyH_take (i := 8) (oi := ⟨some 13, _, _, _, _, _⟩) (v := undef) rfl (by kernel_rfl) (by kernel_rfl) (by kernel_rfl) (fun _ _ _ h => h) (Or.inr ⟨by rfl, rfl⟩) (by assumption) ?_
    try simp only [Act.put, List.setIfInBounds_toArray, List.set_cons_zero, List.set_cons_succ]
    refine wpAnyH_take (i := 9) (oi := ⟨some 14, _, _, _, _, _⟩) (v := undef) rfl (by kernel_rfl) (by kernel_rfl) (by kernel_rfl) (fun _ _ _ h => h) (Or.inr ⟨by rfl, rfl⟩) (by assumption) ?_
    try simp only [Act.put, List.setIfInBounds_toArray, List.set_cons_zero, List.set_cons_succ]
    refine wpAnyH_take (i := 10) (oi := ⟨some 15, _, _, _, _, _⟩) (v := .bool false) rfl (by kernel_rfl) (by kernel_rfl) (by kernel_rfl) (fun _ _ _ h => h) (Or.inl ⟨by rfl, fun w hSw => by go_simp⟩) (by assumption) ?_
    try simp only [Act.put, List.setIfInBounds_toArray, List.set_cons_zero, List.set_cons_succ]
    refine wpAnyH_take (i := 11) (oi := ⟨some 4, _, _, _, _, _⟩) (v := .bool false) rfl (by kernel_rfl) (by kernel_rfl) (by kernel_rfl) (fun _ _ _ h => h) (Or.inl ⟨by rfl, fun w hSw => by go_simp⟩) (by assumption) ?_
    try simp only [Act.put, List.setIfInBounds_toArray, List.set_cons_zero, List.set_cons_succ]
    refine wpAnyH_done (by kernel_rfl) ?_ _
    clear HK hS0 hS1 hKK
    go_wp2
    go_ret
    exact ⟨ret_bool HE.out.symm, B0.out.trans (hb1.mono B0.out.size)⟩
end Go.Proofs.Ythcmpkhfimapgaa.Rhy
