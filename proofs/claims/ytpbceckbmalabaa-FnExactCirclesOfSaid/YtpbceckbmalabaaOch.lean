/-
  Helpers of the claims beside this text: CirclesOf of the model.
-/
import Derived.Test.YtpbceckbmalabaaOct
namespace Go.Proofs.Ytpbceckbmalabaa.Rhy
open Go.RowKit
set_option linter.unusedVariables false
set_option linter.unusedSimpArgs false

set_option maxHeartbeats 1000000 in
theorem cir_spec (n d : Int) (w : World) (h1 : -9223372036854775808 ≤ n) (h2 : n ≤ 9223372036854775807) (h3 : -9223372036854775808 ≤ d) (h4 : d ≤ 9223372036854775807) :
    Calls Try.prog 37 #[.int .i64 n, .int .i64 d] w (LSPost (cirB n d) w) := by
  by_cases hn : 2 ≤ n ∧ n ≤ 24
  · by_cases hd : 1 ≤ d ∧ d ≤ n - 1
    · have HE := Lib.hid (cirB_yes (n := n) (d := d) ⟨hn, hd⟩)
      obtain ⟨N, rfl⟩ : ∃ N : Nat, n = N := ⟨n.toNat, by omega⟩
      obtain ⟨D, rfl⟩ : ∃ D : Nat, d = D := ⟨d.toNat, by omega⟩
      obtain ⟨hn1, hn2⟩ := hn
      obtain ⟨hd1, hd2⟩ := hd
      have hN2 : 2 ≤ N ∧ N ≤ 24 := by omega
      have hD2 : 1 ≤ D ∧ D < N := by omega
      obtain ⟨g, hg⟩ : ∃ g, Nat.gcd N D = g := ⟨_, rfl⟩
      have hgn : g ≤ N := by rw [← hg]; exact Nat.gcd_le_left _ (by omega)
      obtain ⟨m, hm⟩ : ∃ m, N / Nat.gcd N D = m := ⟨_, rfl⟩
      have hm1 : 1 ≤ m := by rw [← hm]; exact circ_pos hN2.1 hD2
      have hm24 : m ≤ 24 := by rw [← hm]; have : N / Nat.gcd N D ≤ N := Nat.div_le_self _ _; omega
      have HTK : Hid (∀ k, k < g → (cirsZ N D).take (k + 1) = (cirsZ N D).take k ++ [cirZ N D k]) := Lib.hid (fun k hk => cirsZ_take (by rw [hg]; exact hk))
      have HPL : Hid ((cirsZ N D).length = g) := Lib.hid (by rw [cirsZ_len, hg])
      have HCT : Hid (∀ p i, i < m → (cirZ N D p).take (i + 1) = (cirZ N D p).take i ++ [(((p + i * D) % N : Nat) : Int)]) := Lib.hid (fun p i hi => cirZ_take (by rw [hm]; exact hi))
      have HON : Hid (∀ p i, p < N → 0 < i → i < m → (p + i * D) % N ≠ p) := Lib.hid (fun p i hp h0 hi => circ_on hN2 hD2 hp h0 (by rw [hm]; exact hi))
      have HBK : Hid (∀ p, p < N → (p + m * D) % N = p) := Lib.hid (fun p hp => by rw [← hm]; exact circ_back hN2 hD2 hp)
      have HCL : Hid (∀ p, (cirZ N D p).length = m) := Lib.hid (fun p => by rw [cirZ_len, hm])
      have HNX : Hid (∀ p i : Nat, ((p + i * D) % N + D) % N = (p + (i + 1) * D) % N) := Lib.hid (fun p i => by rw [Nat.mod_add_mod, Nat.add_assoc, Nat.add_mul, Nat.one_mul])
      have HMD : Hid (∀ x : Nat, x % N < N) := Lib.hid (fun x => Nat.mod_lt _ (by omega))
      have HG := Lib.hid hg
      have hN0 : ¬ N = 0 := by omega
      rw [Int.toNat_natCast, Int.toNat_natCast] at HE
      clear hg hm hN2 hD2
      rw [HE.out]
      go_enter Try.func37, Try.ntmps37
      go_wp2_with fail
      refine (in_yes _ _ _ _ hn1 hn2).mono ?_
      rintro e w' ⟨rfl, rfl⟩
      go_wp2_with fail
      refine (in_yes _ _ _ _ hd1 hd2).mono ?_
      rintro e w' ⟨rfl, rfl⟩
      go_wp2
      go_loopw [5, 6] (fun v i wr => ∃ (k : Nat) (L : List Lit) (av : Option Addr) (cv : Nat), k ≤ g ∧ i = .int .i64 k ∧ v = .slice av L.length cv ∧ Lits wr w.heap.size (.slice av L.length cv) L ∧ valsL L = (cirsZ N D).take k ∧ L.length = k ∧ Below w.heap.size w wr) (fun _ i _ => g - (intOf i).toNat)
      case atStart => exact ⟨0, [], _, 0, by omega, rfl, rfl, lits_made w (Nat.le_refl _), rfl, rfl, (Below.refl _ _).alloc (Nat.le_refl _) _⟩
      case round =>
        obtain ⟨k, L, av, cv, hk, rfl, rfl, hli, hvl, hll, hbw⟩ := hrel
        have HLI := Lib.hid hli
        have HVL := Lib.hid hvl
        have HLL := Lib.hid hll
        have HBW := Lib.hid hbw
        have hl1 : L.length ≤ 1048577 := by omega
        have hww := hbw.size
        clear hli hvl hll hbw
        obtain ⟨wo, rfl⟩ : ∃ wo : World, wo = wr := ⟨_, rfl⟩
        go_wp2_with fail
        refine (gcd_spec N D _ (by omega) (by omega)).mono ?_
        rintro e w2 ⟨rfl, rfl⟩
        rw [HG.out]
        by_cases hlt : k < g
        · have hkN : k < N := by omega
          have HO0 : Hid ((wo.alloc (.cells #[.int .i64 k] 3)).ownsRow wo.heap.size 3 1 (.slice (some ⟨wo.heap.size, 0, none⟩) 1 1) 1 (ints ((cirZ N D k).take 1))) := Lib.hid (by
            have e := HCT.out k 0 (by omega)
            rw [Nat.zero_add, List.take_zero, List.nil_append, Nat.zero_mul, Nat.add_zero, Nat.mod_eq_of_lt hkN] at e
            rw [e]
            exact ⟨rfl, .inr ⟨wo.heap.size, 1, #[.int .i64 k], rfl, Nat.le_refl _, heap_alloc_new wo _, Nat.le_refl _, by unfold maxLen; omega, rfl, rfl⟩⟩)
          have HQ1 : Hid ((((k + D) % N : Nat) : Int) = (((k + 1 * D) % N : Nat) : Int)) := Lib.hid (by rw [Nat.one_mul])
          have hq1 : ((k : Int) + (D : Int)) % (N : Int) = (((k + D) % N : Nat) : Int) := by simp
          have hqb := HMD.out (k + D)
          go_wp2
          clear hq1
          go_loopw [7, 8] (fun v x wr => ∃ i : Nat, 1 ≤ i ∧ i ≤ m ∧ x = .int .i64 (((k + i * D) % N : Nat) : Int) ∧ (∃ bv dv, v = .slice bv i dv ∧ wr.ownsRow wo.heap.size 3 1 (.slice bv i dv) i (ints ((cirZ N D k).take i))) ∧ Below wo.heap.size wo wr) (fun v _ _ => m + 1 - (match v with | .slice _ k _ => k | _ => 0))
          case atStart => exact ⟨1, by omega, hm1, by rw [← HQ1.out]; simp, ⟨_, _, rfl, HO0.out⟩, bel1 _ _⟩
          case round =>
            obtain ⟨i, hi1, him, rfl, ⟨bv, dv, rfl, hown⟩, hbx⟩ := hrel
            have HO4 := Lib.hid hown
            have HBX := Lib.hid hbx
            have hzz := hbx.size
            have hqi := HMD.out (k + i * D)
            have hqj := HMD.out (k + (i + 1) * D)
            clear hown hbx hqb
            obtain ⟨y, hy⟩ : ∃ y, (k + i * D) % N = y := ⟨_, rfl⟩
            have HY := Lib.hid hy
            rw [hy] at hqi ⊢
            clear hy
            by_cases hli : i < m
            · have hne : ¬ y = k := by rw [← HY.out]; exact HON.out k i hkN (by omega) hli
              have hne2 : ((y : Int) == (k : Int)) = false := by simp; omega
              have hne3 : ((y : Int) != (k : Int)) = true := by simp; omega
              obtain ⟨M, hM⟩ : ∃ M, (cirZ N D k).take i = M := ⟨_, rfl⟩
              have hml : M.length = i := by rw [← hM, List.length_take, HCL.out]; omega
              have HML := Lib.hid hml
              have HT2 : Hid ((cirZ N D k).take (i + 1) = M ++ [(y : Int)]) := Lib.hid (by rw [HCT.out k i hli, hM, HY.out])
              have HOM : Hid (wr.ownsRow wo.heap.size 3 1 (.slice bv i dv) M.length (ints M)) := Lib.hid (by have := HO4.out; rw [hM] at this; rw [hml]; exact this)
              have HNY : Hid (((y : Int) + (D : Int)) % (N : Int) = (((k + (i + 1) * D) % N : Nat) : Int)) := Lib.hid (by rw [← HNX.out k i, HY.out]; simp)
              clear hM hml
              go_wp2_with (at_builtin; refine append_int rfl _ _ rfl wo.heap.size _ M _ _ HOM.out (by have := HML.out; omega) hzz _ rfl rfl rfl ?_; intro a' c' w4 hown' hb'; have HO5 := Lib.hid hown'; have HX5 := Lib.hid hb'; clear hown' hb')
              have HLN : Hid ((M ++ [(y : Int)]).length = i + 1) := Lib.hid (by rw [List.length_append, HML.out]; rfl)
              have HO6 : Hid (w4.ownsRow wo.heap.size 3 1 (.slice a' (i + 1) c') (i + 1) (ints ((cirZ N D k).take (i + 1)))) := Lib.hid (by
                have h5 := HO5.out
                rw [HLN.out, ← HT2.out] at h5
                exact h5)
              try rw [HLN.out]
              go_wp2
              go_roundw
              case rel => exact ⟨i + 1, by omega, by omega, by rw [← HNY.out], ⟨a', c', by rw [HML.out], HO6.out⟩, HBX.out.trans HX5.out⟩
              case measure => have := HML.out; simp; omega
            · have e : i = m := by omega
              subst e
              have hyp : y = k := by rw [← HY.out]; exact HBK.out k hkN
              subst hyp
              obtain ⟨M, hM⟩ : ∃ M, cirZ N D y = M := ⟨_, rfl⟩
              have HMM := Lib.hid hM
              have hml : M.length = i := by rw [← hM]; exact HCL.out y
              have HML := Lib.hid hml
              have HOM : Hid (wr.ownsRow wo.heap.size 3 1 (.slice bv M.length dv) M.length (ints M)) := Lib.hid (by
                have h4 := HO4.out
                rw [List.take_of_length_le (by rw [HCL.out]; exact Nat.le_refl _), hM] at h4
                rw [hml]
                exact h4)
              have HLI2 := Lib.hid (HLI.out.keep (HBX.out))
              clear hM hml
              rw [← HML.out]
              go_wp2_with (at_builtin; refine append_lit rfl _ _ rfl w.heap.size _ L ⟨bv, dv, M⟩ wo wr HLI2.out (fun i r x hi hx => ((HLI.out.each i r hi).lt x hx).2) (fun x hx => (HLI.out.outer.lt x hx).2) hzz hww hl1 HOM.out _ rfl rfl rfl ?_; intro a' c' w3 hli3 hb3 hz3 _; have HLI3 := Lib.hid hli3; have HB3 := Lib.hid hb3; have HZ3 := Lib.hid hz3; clear hli3 hb3 hz3)
              go_roundw
              case rel => exact ⟨y + 1, L ++ [⟨bv, dv, M⟩], a', c', by omega, by go_num, by rw [List.length_append]; rfl, by rw [List.length_append]; exact HLI3.out, by rw [HTK.out y hlt, HMM.out]; exact valsL_snoc HVL.out, by rw [List.length_append, HLL.out]; rfl, (HBW.out.trans (HBX.out.mono HBW.out.size)).trans HB3.out⟩
              case measure => simp [intOf]; omega
        · have e : k = g := by omega
          have HE2 : Hid (valsL L = cirsZ N D) := Lib.hid (by have := HVL.out; rwa [e, List.take_of_length_le (by rw [HPL.out]; exact Nat.le_refl _)] at this)
          have HL2 : Hid (L.length = (cirsZ N D).length) := Lib.hid (by rw [HLL.out, HPL.out, e])
          clear e
          go_wp2
          go_ret
          exact ⟨av, cv, L, by rw [HL2.out]; rfl, by have := HLI.out; rwa [HL2.out] at this, HE2.out, HBW.out⟩
    · have HD := Lib.hid hd
      obtain ⟨hn1, hn2⟩ := hn
      have HE := Lib.hid (cirB_no (n := n) (d := d) (fun x => hd x.2))
      clear hd
      rw [HE.out]
      go_enter Try.func37, Try.ntmps37
      go_wp2_with fail
      refine (in_yes _ _ _ _ hn1 hn2).mono ?_
      rintro e w' ⟨rfl, rfl⟩
      go_wp2_with fail
      refine (in_no _ _ _ _ HD.out).mono ?_
      rintro e w' ⟨rfl, rfl⟩
      go_wp2
      go_ret
      exact ls_none (Below.refl _ _)
  · have HN := Lib.hid hn
    have HE := Lib.hid (cirB_no (n := n) (d := d) (fun x => hn x.1))
    clear hn
    rw [HE.out]
    go_enter Try.func37, Try.ntmps37
    go_wp2_with fail
    refine (in_no _ _ _ _ HN.out).mono ?_
    rintro e w' ⟨rfl, rfl⟩
    go_wp2
    go_ret
    exact ls_none (Below.refl _ _)
end Go.Proofs.Ytpbceckbmalabaa.Rhy
