/-
  Helpers of the claims beside this text: FirstAvoiding of the model, the function itself.
-/
import Derived.Test.YtjgjcppkbfojpaaOcg
namespace Go.Proofs.Ytjgjcppkbfojpaa.Rhy
open Go.RowKit
set_option linter.unusedVariables false
set_option linter.unusedSimpArgs false
set_option maxRecDepth 100000

set_option maxHeartbeats 1000000 in
theorem fiav_spec (n d k : Int) (w : World) (h1 : -9223372036854775808 ≤ n) (h2 : n ≤ 9223372036854775807) (h3 : -9223372036854775808 ≤ d) (h4 : d ≤ 9223372036854775807) (h5 : -9223372036854775808 ≤ k) (h6 : k ≤ 9223372036854775807) :
    Calls Try.prog 54 #[.int .i64 n, .int .i64 d, .int .i64 k] w (CPost (fiC n d k) n (fiZ n d k) w) := by
  obtain ⟨W0, hW⟩ : ∃ W0, W0 = w.alloc (.cells #[.int .i64 0, .slice none 0 0] 25) := ⟨_, rfl⟩
  have HW := Lib.hid hW
  have HB0 := Lib.hid (show Below w.heap.size w W0 by rw [hW]; exact bel1 w _)
  have HU := Lib.hid (show Box W0 w.heap.size (.int .i64 0) (.slice none 0 0) 25 by rw [hW]; exact box_new w _ _ _)
  clear hW
  obtain ⟨u0, u1, u2, u3⟩ := HU.out.facts
  have ult := HU.out.lt
  by_cases hn : 2 ≤ n ∧ n ≤ 16
  · by_cases hd : 1 ≤ d ∧ d ≤ n - 1
    · by_cases hk : 0 ≤ k ∧ k ≤ n
      · have HC : Hid (CoC n d k) := Lib.hid ⟨hn, hd, hk⟩
        obtain ⟨N, rfl⟩ : ∃ N : Nat, n = N := ⟨n.toNat, by omega⟩
        obtain ⟨D, rfl⟩ : ∃ D : Nat, d = D := ⟨d.toNat, by omega⟩
        obtain ⟨C, rfl⟩ : ∃ C : Nat, k = C := ⟨k.toNat, by omega⟩
        have HF : Hid (∀ W : World, Below w.heap.size w W → Calls Try.prog 107 #[rhy N none 0 0, .int .i64 D, .int .i64 C, .int .i64 0] W (FsPost w.heap.size N (firstN N D N 0 C) W)) := Lib.hid (fun W hW => by
          have h := fs_any N D (by omega) (by omega) w.heap.size N 0 C none 0 W (Nat.le_refl _) (by rw [Nat.mul_zero]; exact Nat.two_pow_pos N) (by rw [Nat.mul_zero]; exact good_zero N D) (by omega) hW.size (by rw [Nat.mul_zero, bits_zero]; exact World.ownsRow_nil _ _ _ _)
          rw [Nat.mul_zero, bits_zero, Nat.sub_self] at h
          exact h)
        obtain ⟨hn1, hn2⟩ := hn
        obtain ⟨hd1, hd2⟩ := hd
        obtain ⟨hk1, hk2⟩ := hk
        clear u0 u1 u2 u3 ult
        go_enter Try.func54, Try.ntmps54
        go_wp2_with fail
        rw [← HW.out]
        refine (in_yes _ _ _ _ hn1 hn2).mono ?_
        rintro e w' ⟨rfl, rfl⟩
        go_wp2_with fail
        refine (in_yes _ _ _ _ hd1 hd2).mono ?_
        rintro e w' ⟨rfl, rfl⟩
        go_wp2_with fail
        refine (in_yes _ _ _ _ hk1 hk2).mono ?_
        rintro e w' ⟨rfl, rfl⟩
        go_wp2_with fail
        refine (HF.out W0 HB0.out).mono ?_
        rintro e wy ⟨hby, hmm⟩
        have HBY := Lib.hid (HB0.out.trans (hby.mono HB0.out.size))
        have HUY := Lib.hid (HU.out.keep hby HU.out.lt)
        clear hby
        cases hf : firstN N D N 0 C with
        | none =>
          rw [hf] at hmm
          obtain rfl := hmm
          have HNO : Hid (¬ fiC N D C) := Lib.hid (fun x => by have := x.2; simp only [Int.toNat_natCast] at this; rw [hf] at this; cases this)
          clear hf
          obtain ⟨u0, u1, u2, u3⟩ := HUY.out.facts
          have ult := HUY.out.lt
          go_wp2
          refine bodyPost_ret (v := .tuple #[rhy 0 none 0 0, .bool false]) (by simp [results, Try.results54, go_sem, *]) rfl ?_
          exact cpost_no HNO.out ((HBY.out.setCell (Nat.le_refl _) _).setCell (Nat.le_refl _) _)
        | some z =>
          rw [hf] at hmm
          obtain ⟨a5, c5, rfl, hown5⟩ := hmm
          have HYES : Hid (fiC N D C) := Lib.hid ⟨HC.out, by simp only [Int.toNat_natCast]; rw [hf]; rfl⟩
          have HZ : Hid (fiZ N D C = bitsL N z) := Lib.hid (by unfold fiZ; simp only [Int.toNat_natCast]; rw [hf]; rfl)
          have HO5 := Lib.hid hown5
          clear hf hown5
          obtain ⟨u0, u1, u2, u3⟩ := HUY.out.facts
          have ult := HUY.out.lt
          go_wp2
          refine bodyPost_ret (v := .tuple #[rhy N a5 (bitsL N z).length c5, .bool true]) (by simp [results, Try.results54, go_sem, *]) rfl ?_
          rw [HZ.out]
          exact cpost_yes HYES.out rfl (own_past HO5.out HUY.out _ _) ((HBY.out.setCell (Nat.le_refl _) _).setCell (Nat.le_refl _) _)
      · have HK := Lib.hid hk
        obtain ⟨hn1, hn2⟩ := hn
        obtain ⟨hd1, hd2⟩ := hd
        have HNO : Hid (¬ fiC n d k) := Lib.hid (fun x => hk x.1.2.2)
        clear hk
        go_enter Try.func54, Try.ntmps54
        go_wp2_with fail
        rw [← HW.out]
        refine (in_yes _ _ _ _ hn1 hn2).mono ?_
        rintro e w' ⟨rfl, rfl⟩
        go_wp2_with fail
        refine (in_yes _ _ _ _ hd1 hd2).mono ?_
        rintro e w' ⟨rfl, rfl⟩
        go_wp2_with fail
        refine (in_no _ _ _ _ HK.out).mono ?_
        rintro e w' ⟨rfl, rfl⟩
        go_wp2
        refine bodyPost_ret (v := .tuple #[rhy 0 none 0 0, .bool false]) (by simp [results, Try.results54, go_sem, *]) rfl ?_
        exact cpost_no HNO.out ((HB0.out.setCell (Nat.le_refl _) _).setCell (Nat.le_refl _) _)
    · have HD := Lib.hid hd
      obtain ⟨hn1, hn2⟩ := hn
      have HNO : Hid (¬ fiC n d k) := Lib.hid (fun x => hd x.1.2.1)
      clear hd
      go_enter Try.func54, Try.ntmps54
      go_wp2_with fail
      rw [← HW.out]
      refine (in_yes _ _ _ _ hn1 hn2).mono ?_
      rintro e w' ⟨rfl, rfl⟩
      go_wp2_with fail
      refine (in_no _ _ _ _ HD.out).mono ?_
      rintro e w' ⟨rfl, rfl⟩
      go_wp2
      refine bodyPost_ret (v := .tuple #[rhy 0 none 0 0, .bool false]) (by simp [results, Try.results54, go_sem, *]) rfl ?_
      exact cpost_no HNO.out ((HB0.out.setCell (Nat.le_refl _) _).setCell (Nat.le_refl _) _)
  · have HN := Lib.hid hn
    have HNO : Hid (¬ fiC n d k) := Lib.hid (fun x => hn x.1.1)
    clear hn
    go_enter Try.func54, Try.ntmps54
    go_wp2_with fail
    rw [← HW.out]
    refine (in_no _ _ _ _ HN.out).mono ?_
    rintro e w' ⟨rfl, rfl⟩
    go_wp2
    refine bodyPost_ret (v := .tuple #[rhy 0 none 0 0, .bool false]) (by simp [results, Try.results54, go_sem, *]) rfl ?_
    exact cpost_no HNO.out ((HB0.out.setCell (Nat.le_refl _) _).setCell (Nat.le_refl _) _)
end Go.Proofs.Ytjgjcppkbfojpaa.Rhy
