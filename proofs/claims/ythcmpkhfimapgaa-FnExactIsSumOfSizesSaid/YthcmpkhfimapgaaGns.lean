/-
  Helpers of the claims beside this text: GeneratedRhythm of the model.
-/
import Derived.Test.YthcmpkhfimapgaaGnm
namespace Go.Proofs.Ythcmpkhfimapgaa.Rhy
open Go.RowKit
set_option linter.unusedVariables false
set_option linter.unusedSimpArgs false

/-- A list that grows behind the result's box. -/
def LsAt (g : Nat) (l : List Int) (v : Value) (w wr : World) : Prop :=
  ∃ av cv, v = .slice av l.length cv ∧ Box wr g (.int .i64 0) (.slice none 0 0) 26 ∧
    wr.ownsRow (g + 1) 3 1 (.slice av l.length cv) l.length (ints l) ∧ Below g w wr ∧ g + 1 ≤ wr.heap.size
theorem genP_int {n g : Int} (h : 1 ≤ n ∧ n ≤ 24) (j : Nat) : AllInt (genP n g j) := by
  intro z hz
  obtain ⟨i, _, rfl⟩ := genP_mem.1 hz
  have := genT_bd h.1 g i
  omega
theorem genP_pre {n g : Int} {j k : Nat} (h : (genP n g k).Nodup) (hj : j ≤ k) : (genP n g j).Nodup := by
  rw [genP_nodup] at h ⊢
  exact fun i i' h1 h2 => h i i' h1 (by omega)
theorem genP_next {n g : Int} {j : Nat} (h : (genP n g j).Nodup) (hn : hasB (genP n g j) (genT n g j) = false) : (genP n g (j + 1)).Nodup := by
  rw [genP_snoc, List.nodup_append]
  refine ⟨h, by simp, fun x hx y hy => ?_⟩
  rw [List.mem_singleton] at hy
  subst hy
  rintro rfl
  unfold hasB at hn
  rw [List.contains_iff_mem.2 hx] at hn
  cases hn
theorem genP_twice {n g : Int} {j k : Nat} (h : hasB (genP n g j) (genT n g j) = true) (hj : j < k) : ¬ (genP n g k).Nodup := by
  intro hd
  have h2 := genP_pre hd (show j + 1 ≤ k by omega)
  rw [genP_snoc, List.nodup_append] at h2
  unfold hasB at h
  exact h2.2.2 _ (List.contains_iff_mem.1 h) _ (by simp) rfl
theorem prod24 {j : Nat} {g : Int} (hj : j ≤ 24) (hg : 0 ≤ g ∧ g ≤ 24) : 0 ≤ (j : Int) * g ∧ (j : Int) * g ≤ 576 := by
  have h1 : 0 ≤ (j : Int) * g := Int.mul_nonneg (by omega) hg.1
  have h2 : (j : Int) * g ≤ 24 * 24 := Int.mul_le_mul (by omega) hg.2 hg.1 (by omega)
  omega

set_option maxHeartbeats 1000000 in
theorem gen_spec (n k g : Int) (w : World) (h1 : -9223372036854775808 ≤ n) (h2 : n ≤ 9223372036854775807) (h3 : -9223372036854775808 ≤ k) (h4 : k ≤ 9223372036854775807) (h5 : -9223372036854775808 ≤ g) (h6 : g ≤ 9223372036854775807) :
    Calls Try.prog 32 #[.int .i64 n, .int .i64 k, .int .i64 g] w (CPost (GenC n k g) n (genZ n k g) w) := by
  have HX := Lib.hid (box_new w (.int .i64 0) (.slice none 0 0) 26)
  by_cases ho : EvC k n
  · have HE := Lib.hid ho
    by_cases hg : 1 ≤ g ∧ g ≤ n
    · obtain ⟨hn1, hn2, hk1, hk2⟩ := ho
      obtain ⟨K, rfl⟩ : ∃ K : Nat, k = K := ⟨k.toNat, by omega⟩
      have hK : K ≤ 24 := by omega
      obtain ⟨b, hb⟩ : ∃ b, b = w.heap.size := ⟨_, rfl⟩
      have HB := Lib.hid hb
      have HGG := Lib.hid hg
      clear hb
      go_enter Try.func32, Try.ntmps32
      go_wp2_with fail
      refine (six_yes K n _ HE.out).mono ?_
      rintro e w' ⟨rfl, rfl⟩
      go_wp2_with fail
      refine (in_yes _ _ _ _ hg.1 hg.2).mono ?_
      rintro e w' ⟨rfl, rfl⟩
      go_wp2
      rw [← HB.out]
      go_loopw [8, 9] (fun v i wr => ∃ j : Nat, j ≤ K ∧ i = .int .i64 j ∧ Hid ((genP n g j).Nodup) ∧ LsAt b (genP n g j) v w wr) (fun _ i _ => K - (intOf i).toNat)
      case atStart =>
        refine ⟨0, by omega, rfl, Lib.hid (by simp [genP]), some ⟨b + 1, 0, none⟩, 0, rfl, ?_, ?_, ?_, ?_⟩
        · rw [HB.out]
          exact (box_new w (.int .i64 0) (.slice none 0 0) 26).keep (B := w.heap.size + 1) ((Below.refl _ _).alloc (by simp) _) (by omega)
        · have := World.ownsRow_made (base := w.heap.size + 1) (e := 3) (size := 1) (w.alloc (.cells #[.int .i64 0, .slice none 0 0] 26)) #[] 0 (by simp) (by unfold maxLen; omega) rfl
          rw [HB.out]
          simpa [genP, ints] using this
        · rw [HB.out]; exact bel2 w _ _
        · rw [HB.out]; simp
      case round =>
        obtain ⟨j, hj, rfl, HND, av, cv, rfl, hb0, hown, hnx, hsz⟩ := hrel
        have hml : (genP n g j).length ≤ 1048577 := by rw [genP_len]; omega
        have hml2 : (genP n g j).length ≤ 1048576 := by rw [genP_len]; omega
        have HI : Hid (IntsAt wr av (genP n g j).length (genP n g j)) := Lib.hid (intsAt_own hown (genP_int ⟨hn1, hn2⟩ j))
        have H0 := Lib.hid hb0
        have HO := Lib.hid hown
        have HN := Lib.hid hnx
        have HZ := Lib.hid hsz
        obtain ⟨c0, c1, f0, f1⟩ := H0.out.facts
        have lt0 := hb0.lt
        clear hb0 hown hnx hsz
        by_cases hlt : j < K
        · have hp := prod24 (j := j) (g := g) (by omega) ⟨by omega, by omega⟩
          obtain ⟨t, ht⟩ : ∃ t, genT n g j = t := ⟨_, rfl⟩
          have hTB := genT_bd hn1 g j
          have HSN := Lib.hid (genP_snoc n g j)
          rw [ht] at hTB HSN
          obtain ⟨p, hpe⟩ : ∃ p : Int, (j : Int) * g = p := ⟨_, rfl⟩
          have hq : Int.tmod p n = t := by rw [Int.tmod_eq_emod_of_nonneg (by omega), ← ht]; unfold genT; rw [hpe]
          rw [hpe] at hp
          have hw1 : wrap64 ((j : Int) * g) = p := by rw [hpe]; unfold wrap64; omega
          have hw2 : wrap64 t = t := by unfold wrap64; omega
          have hn0 : ¬ n = 0 := by omega
          cases hc : hasB (genP n g j) t
          · have HC := Lib.hid hc
            have HND2 : Hid ((genP n g (j + 1)).Nodup) := Lib.hid (genP_next HND.out (by rw [ht]; exact hc))
            have HPE := Lib.hid hpe
            clear hc ht hpe
            go_wp2_with (first
              | (go_at_call 70; refine (has_any av (genP n g j).length cv (genP n g j) t _ HI.out (by omega)).mono ?_; rintro e w' ⟨rfl, rfl⟩; rw [HC.out])
              | (at_builtin; refine append_int rfl _ _ rfl (b + 1) _ (genP n g j) _ _ HO.out hml HZ.out _ rfl rfl rfl ?_; intro a' c' w' hown' hb'; have HO2 := Lib.hid hown'; have HX2 := Lib.hid hb'; clear hown' hb'))
            go_roundw
            case rel =>
              refine ⟨j + 1, by omega, by go_num, HND2, a', c', by rw [HSN.out]; simp, H0.out.keep HX2.out (by omega), by rw [HSN.out]; exact HO2.out, HN.out.trans (HX2.out.mono (by omega)), Nat.le_trans HZ.out HX2.out.size⟩
            case measure => simp [intOf]; omega
          · have HC := Lib.hid hc
            have HO3 : Hid (¬ GenC n K g) := Lib.hid (fun q => genP_twice (by rw [ht]; exact hc) hlt (by have := q.2.2; rwa [Int.toNat_natCast] at this))
            have HPE := Lib.hid hpe
            clear hc ht hpe
            go_wp2_with (go_at_call 70; refine (has_any av (genP n g j).length cv (genP n g j) t _ HI.out (by omega)).mono ?_; rintro e w' ⟨rfl, rfl⟩; rw [HC.out])
            refine bodyPost_ret (v := .tuple #[rhy 0 none 0 0, .bool false]) (by simp [results, Try.results32, go_sem, *]) rfl ?_
            refine cpost_no HO3.out ?_
            rw [← HB.out]
            exact (HN.out.setCell (by show b ≤ b; omega) _).setCell (by show b ≤ b; omega) _
        · have e : j = K := by omega
          subst e
          have hn0 : 0 ≤ n ∧ n ≤ 1000 := by omega
          have HO3 : Hid (GenC n j g) := Lib.hid ⟨HE.out, HGG.out, by rw [Int.toNat_natCast]; exact HND.out⟩
          go_wp2_with fail
          refine (of_int n av (genP n g j).length cv (genP n g j) wr HI.out hml2 hn0.1 hn0.2).mono ?_
          rintro e w2 ⟨a2, cap2, rfl, hown2, hb2⟩
          have HO2 := Lib.hid hown2
          have HB2 := Lib.hid hb2
          have HF := Lib.hid (show w2.frozen? ⟨b, 0, none⟩ = false ∧ w2.frozen? ⟨b, 1, none⟩ = false ∧ b < w2.heap.size from ⟨(H0.out.keep hb2 lt0).facts.2.2.1, (H0.out.keep hb2 lt0).facts.2.2.2, (H0.out.keep hb2 lt0).lt⟩)
          obtain ⟨q0, q1, q2⟩ := HF.out
          obtain ⟨r0, r1, _, _⟩ := (H0.out.keep hb2 lt0).facts
          clear hown2 hb2
          go_wp2
          have HE2 : Hid (genZ n j g = ofZ n.toNat (genP n g j)) := Lib.hid (by unfold genZ; rw [Int.toNat_natCast])
          refine bodyPost_ret (v := .tuple #[rhy n a2 (ofZ n.toNat (genP n g j)).length cap2, .bool true]) (by simp [results, Try.results32, go_sem, *]) rfl ?_
          refine cpost_yes HO3.out (by rw [HE2.out]) ?_ ?_
          · rw [HE2.out]; exact own_base (ownsRow_setCell_below (ownsRow_setCell_below HO2.out (by show b < wr.heap.size; omega) _) (by show b < wr.heap.size; omega) _) (by have := HB.out; omega)
          · rw [← HB.out]; exact ((HN.out.trans (HB2.out.mono (by omega))).setCell (by show b ≤ b; omega) _).setCell (by show b ≤ b; omega) _
    · have HG := Lib.hid hg
      have HO := Lib.hid (show ¬ GenC n k g from fun q => hg q.2.1)
      clear ho hg
      go_enter Try.func32, Try.ntmps32
      go_wp2_with fail
      refine (six_yes k n _ HE.out).mono ?_
      rintro e w' ⟨rfl, rfl⟩
      go_wp2_with fail
      refine (in_no _ _ _ _ HG.out).mono ?_
      rintro e w' ⟨rfl, rfl⟩
      obtain ⟨c0, c1, c2, c3⟩ := HX.out.facts
      have lt0 := HX.out.lt
      go_wp2
      refine bodyPost_ret (v := .tuple #[rhy 0 none 0 0, .bool false]) (by simp [results, Try.results32, go_sem, *]) rfl ?_
      exact cpost_no HO.out (bel1 w _)
  · have HE := Lib.hid ho
    have HO := Lib.hid (show ¬ GenC n k g from fun q => ho q.1)
    clear ho
    go_enter Try.func32, Try.ntmps32
    go_wp2_with fail
    refine (six_no k n _ HE.out).mono ?_
    rintro e w' ⟨rfl, rfl⟩
    obtain ⟨c0, c1, c2, c3⟩ := HX.out.facts
    have lt0 := HX.out.lt
    go_wp2
    refine bodyPost_ret (v := .tuple #[rhy 0 none 0 0, .bool false]) (by simp [results, Try.results32, go_sem, *]) rfl ?_
    exact cpost_no HO.out (bel1 w _)
end Go.Proofs.Ythcmpkhfimapgaa.Rhy
