/-
  Helpers of the claims beside this text: CountAvoiding of the model.
-/
import Derived.Test.YtpbceckbmalabaaOdn
import Derived.Test.YtpbceckbmalabaaOba
namespace Go.Proofs.Ytpbceckbmalabaa.Rhy
open Go.RowKit
set_option linter.unusedVariables false
set_option linter.unusedSimpArgs false

def CoC (n d k : Int) : Prop := (2 ≤ n ∧ n ≤ 16) ∧ (1 ≤ d ∧ d ≤ n - 1) ∧ (0 ≤ k ∧ k ≤ n)
noncomputable def coaB (n d k : Int) : Int := @ite _ (CoC n d k) (Classical.propDecidable _) (cntF n.toNat d.toNat k.toNat : Nat) (-1)
theorem coaB_yes {n d k : Int} (h : CoC n d k) : coaB n d k = (cntF n.toNat d.toNat k.toNat : Nat) := by simp [coaB, h]
theorem coaB_no {n d k : Int} (h : ¬ CoC n d k) : coaB n d k = -1 := by simp [coaB, h]

theorem ints_own' {w : World} {B : Nat} {a : Option Addr} {len c : Nat} {l : List Int} (hl : l.length = len) (h : w.ownsRow B 3 1 (.slice a len c) len (ints l)) (hi : AllInt l) : IntsAt w a len l := by
  subst hl
  exact intsAt_own h hi

set_option maxHeartbeats 2000000 in
theorem coa_spec (n d k : Int) (w : World) (h1 : -9223372036854775808 ≤ n) (h2 : n ≤ 9223372036854775807) (h3 : -9223372036854775808 ≤ d) (h4 : d ≤ 9223372036854775807) (h5 : -9223372036854775808 ≤ k) (h6 : k ≤ 9223372036854775807) :
    Calls Try.prog 41 #[.int .i64 n, .int .i64 d, .int .i64 k] w fun e w' => e = .returned (.int .i64 (coaB n d k)) ∧ Below w.heap.size w w' := by
  by_cases hn : 2 ≤ n ∧ n ≤ 16
  · by_cases hd : 1 ≤ d ∧ d ≤ n - 1
    · by_cases hk : 0 ≤ k ∧ k ≤ n
      · have HE := Lib.hid (coaB_yes ⟨hn, hd, hk⟩)
        obtain ⟨N, rfl⟩ : ∃ N : Nat, n = N := ⟨n.toNat, by omega⟩
        obtain ⟨D, rfl⟩ : ∃ D : Nat, d = D := ⟨d.toNat, by omega⟩
        obtain ⟨C, rfl⟩ : ∃ C : Nat, k = C := ⟨k.toNat, by omega⟩
        obtain ⟨hn1, hn2⟩ := hn
        obtain ⟨hd1, hd2⟩ := hd
        obtain ⟨hk1, hk2⟩ := hk
        obtain ⟨g, hg⟩ : ∃ g, Nat.gcd N D = g := ⟨_, rfl⟩
        have hg1 : 1 ≤ g := by rw [← hg]; exact Nat.gcd_pos_of_pos_left _ (by omega)
        have hgn : g ≤ N := by rw [← hg]; exact Nat.gcd_le_left _ (by omega)
        obtain ⟨m, hm⟩ : ∃ m, N / g = m := ⟨_, rfl⟩
        have hm16 : m ≤ 16 := by rw [← hm]; have : N / g ≤ N := Nat.div_le_self _ _; omega
        have hmg : m * g ≤ 16 := by rw [← hm]; have := Nat.div_mul_le_self N g; omega
        have HMG := Lib.hid hmg
        have HV : Hid ((cntF (N : Int).toNat (D : Int).toNat (C : Int).toNat : Nat) = (waysN m C g)[C]?.getD 0) := Lib.hid (by unfold cntF; rw [Int.toNat_natCast, Int.toNat_natCast, Int.toNat_natCast, hg, hm])
        have HG := Lib.hid hg
        have HMI : Hid ((N : Int) / (g : Int) = (m : Int)) := Lib.hid (by rw [← hm]; simp)
        have HWB : Hid (∀ i x : Nat, i ≤ g → (waysN m C i)[x]?.getD 0 ≤ 65536) := Lib.hid (fun i x hi => by
          have h1 := ways_bd (m := m) (k := C) hm16 (by omega) i x
          have h2 : m * i ≤ m * g := Nat.mul_le_mul_left m hi
          exact Nat.le_trans h1 (Nat.pow_le_pow_right (n := 2) (by omega) (show m * i ≤ 16 by omega)))
        have HNB : Hid (∀ i a b c : Nat, i < g → a ≤ c → c ≤ C → nxN (waysN m C i) m a b c ≤ 65536) := Lib.hid (fun i a b c hi ha hc => by
          have h1 := nxN_bd (w := waysN m C i) (S := 2 ^ (m * i)) (b := b) (ways_bd hm16 (by omega) i) hm16 (show c ≤ 16 by omega) ha
          rw [← Nat.pow_add] at h1
          have h2 : m * (i + 1) ≤ m * g := Nat.mul_le_mul_left m hi
          rw [Nat.mul_add, Nat.mul_one] at h2
          exact Nat.le_trans h1 (Nat.pow_le_pow_right (n := 2) (by omega) (show m * i + m ≤ 16 by omega)))
        obtain ⟨i0, hi0, hz0, hz1, hz2⟩ := info_parts infoInt
        have HI := Lib.hid (show _ ∧ _ ∧ _ ∧ _ from ⟨hi0, hz0, hz1, hz2⟩)
        have hg0 : ¬ g = 0 := by omega
        have hC1 : wrap64 ((C : Int) + 1) = ((C + 1 : Nat) : Int) := by unfold wrap64; omega
        have HC1 := Lib.hid hC1
        clear hi0 hz0 hz1 hz2 hg hm hmg
        rw [HE.out, HV.out]
        go_enter Try.func41, Try.ntmps41
        go_wp2_with fail
        refine (in_yes _ _ _ _ hn1 hn2).mono ?_
        rintro e w' ⟨rfl, rfl⟩
        go_wp2_with fail
        refine (in_yes _ _ _ _ hd1 hd2).mono ?_
        rintro e w' ⟨rfl, rfl⟩
        go_wp2_with fail
        refine (in_yes _ _ _ _ hk1 hk2).mono ?_
        rintro e w' ⟨rfl, rfl⟩
        go_wp2_with fail
        refine (gcd_spec N D _ (by omega) (by omega)).mono ?_
        rintro e w2 ⟨rfl, rfl⟩
        rw [HG.out]
        go_wp2_with (at_make; refine wpList_make_full _ rfl _ _ 26 rfl w.heap.size 3 i0 (.int .i64 0) 1 Try.underlying26 HI.out.1 HI.out.2.1 HI.out.2.2.1 .i64 .i64 ((C + 1 : Nat) : Int) ((C + 1 : Nat) : Int) (C + 1) rfl rfl rfl rfl ?b2 ?b3 ?b4 ?_)
        case b2 => rw [HI.out.2.2.2]; omega
        case b3 => unfold maxLen; omega
        case b4 => omega
        intro w1 hown hgrow
        clear hC1
        rw [toList_madeCells_one] at hown
        have HB1 : Hid (Below w.heap.size w w1) := Lib.hid ((Below.refl w.heap.size w).grown hgrow (Nat.le_refl _) (by intro k hk; cases hk))
        have hcell0 : w1.cell? ⟨w.heap.size, 0, none⟩ = some (.int .i64 0) := by rw [hown.cellAt 0 (by omega)]; rfl
        have hfz0 := hown.frozenAt 0
        obtain ⟨W2, hW2⟩ : ∃ W2, W2 = w1.setCell ⟨w.heap.size, 0, none⟩ (.int .i64 1) := ⟨_, rfl⟩
        have HW2 := Lib.hid hW2
        have HA : Hid (IntsAt W2 (some ⟨w.heap.size, 0, none⟩) (C + 1) (zN (waysN m C 0))) := Lib.hid (by
          have hst := (hown.stored 0 (.int .i64 1)).1
          rw [← hW2, zN_rep, show (Value.int .i64 1) = Value.int .i64 ((1 : Nat) : Int) from rfl, zN_set] at hst
          have e : (List.replicate (C + 1) 0).set 0 1 = waysN m C 0 := by rw [List.replicate_succ]; rfl
          rw [e] at hst
          exact ints_own' (by rw [zN_len, ways_len]) hst (zN_int (by omega) (fun x => HWB.out 0 x (by omega))))
        have HB2 : Hid (Below w.heap.size w W2) := Lib.hid (by rw [hW2]; exact HB1.out.setCell (Nat.le_refl _) _)
        clear hown hgrow hW2
        go_wp2_with fail
        rw [← HW2.out]
        clear hcell0 hfz0
        go_loopw [8, 9] (fun v i wr => ∃ (j : Nat) (av : Option Addr) (cv : Nat), j ≤ g ∧ i = .int .i64 j ∧ v = .slice av (C + 1) cv ∧ IntsAt wr av (C + 1) (zN (waysN m C j)) ∧ Below w.heap.size w wr) (fun _ i _ => g - (intOf i).toNat)
        case atStart => exact ⟨0, _, _, by omega, rfl, rfl, HA.out, HB2.out⟩
        case round =>
          obtain ⟨i, av, cv, hig, rfl, rfl, hia, hbw⟩ := hrel
          have HIA := Lib.hid hia
          have HBW := Lib.hid hbw
          clear hia hbw
          obtain ⟨wo, rfl⟩ : ∃ wo : World, wo = wr := ⟨_, rfl⟩
          by_cases hlt : i < g
          · obtain ⟨V, hV⟩ : ∃ V, waysN m C i = V := ⟨_, rfl⟩
            have HV2 := Lib.hid hV
            have hVl : V.length = C + 1 := by rw [← hV]; exact ways_len _ _ _
            have HVL := Lib.hid hVl
            have HVB : Hid (∀ x : Nat, V[x]?.getD 0 ≤ 65536) := Lib.hid (fun x => by rw [← hV]; exact HWB.out i x (by omega))
            have HNV : Hid (∀ a b c : Nat, a ≤ c → c ≤ C → nxN V m a b c ≤ 65536) := Lib.hid (fun a b c ha hc => by rw [← hV]; exact HNB.out i a b c hlt ha hc)
            have HNX : Hid (waysN m C (i + 1) = wayN m C V) := Lib.hid (by rw [waysN, hV])
            rw [hV] at HIA
            clear hV hVl
            have hC1 := HC1.out
            go_wp2_with (at_make; refine wpList_make_full _ rfl _ _ 26 rfl wo.heap.size 3 i0 (.int .i64 0) 1 Try.underlying26 HI.out.1 HI.out.2.1 HI.out.2.2.1 .i64 .i64 ((C + 1 : Nat) : Int) ((C + 1 : Nat) : Int) (C + 1) rfl rfl rfl rfl ?b2 ?b3 ?b4 ?_)
            case b2 => rw [HI.out.2.2.2]; omega
            case b3 => unfold maxLen; omega
            case b4 => omega
            intro w3 hown hgrow
            clear hC1
            rw [toList_madeCells_one, zN_rep, ← nxL_zero V m C] at hown
            have HO3 := Lib.hid hown
            have HB3 : Hid (Below wo.heap.size wo w3) := Lib.hid ((Below.refl wo.heap.size wo).grown hgrow (Nat.le_refl _) (by intro k hk; cases hk))
            clear hown hgrow
            go_wp2
            go_loopw [48] (fun x wr => ∃ a : Nat, a ≤ C + 1 ∧ x = .int .i64 a ∧ wr.ownsRow wo.heap.size 3 1 (.slice (some ⟨wo.heap.size, 0, none⟩) (C + 1) (C + 1)) (C + 1) (ints (zN (nxL V m C a 0))) ∧ Below wo.heap.size wo wr) (fun x _ => C + 1 - (intOf x).toNat)
            case atStart => exact ⟨0, by omega, rfl, HO3.out, HB3.out⟩
            case round =>
              clear HO3 HB3
              obtain ⟨a, ha, rfl, hown, hbx⟩ := hrel
              have HOA := Lib.hid hown
              have HBX := Lib.hid hbx
              clear hown hbx
              by_cases hlta : a < C + 1
              · obtain ⟨y, hy⟩ : ∃ y, V[a]? = some y := ⟨_, List.getElem?_eq_getElem (by have := HVL.out; omega)⟩
                have HY := Lib.hid hy
                have hyb : y ≤ 65536 := by have := HVB.out a; rw [hy] at this; exact this
                obtain ⟨b0, off, z, rfl, hb0, hs, hc, hz1, hz2⟩ := (HIA.out.below HBX.out).at hlta
                have hzy : z = (y : Int) := by rw [zN_at hy] at hs; exact (Option.some.inj hs).symm
                subst hzy
                clear hs hy hz1 hz2
                go_wp2
                clear hc hb0
                go_loopw [13] (fun x wr => ∃ b : Nat, a + b ≤ C + 1 ∧ x = .int .i64 b ∧ wr.ownsRow wo.heap.size 3 1 (.slice (some ⟨wo.heap.size, 0, none⟩) (C + 1) (C + 1)) (C + 1) (ints (zN (nxL V m C a b))) ∧ Below wo.heap.size wo wr) (fun x _ => C + 1 - (intOf x).toNat)
                case atStart => exact ⟨0, by omega, rfl, HOA.out, HBX.out⟩
                case round =>
                  clear HOA HBX
                  obtain ⟨b, hb, rfl, hown, hbx⟩ := hrel
                  have HOB := Lib.hid hown
                  have HBY := Lib.hid hbx
                  clear hown hbx
                  by_cases hq : a + b ≤ C
                  · obtain ⟨q, hqq⟩ : ∃ q, a + b = q := ⟨_, rfl⟩
                    have HQ := Lib.hid hqq
                    have hle : decide ((a : Int) + (b : Int) ≤ (C : Int)) = true := by simp; omega
                    have hle2 : decide (a + b ≤ C) = true := by simp; omega
                    have HWR : Hid (IntKind.i64.wrap ((a : Int) + (b : Int)) = (q : Int)) := Lib.hid ((IntWalk.i64_in _ ⟨by omega, by omega⟩).trans (by omega))
                    have hab : (a : Int) + (b : Int) = (q : Int) := by omega
                    obtain ⟨x, hx⟩ : ∃ x, nxN V m a b q = x := ⟨_, rfl⟩
                    have HX := Lib.hid hx
                    have hxb : x ≤ 65536 := by rw [← hx]; exact HNV.out a b q (by omega) (by omega)
                    obtain ⟨c, hcc⟩ : ∃ c, ccN m b = c := ⟨_, rfl⟩
                    have HCC := Lib.hid hcc
                    obtain ⟨p, hp⟩ : ∃ p, y * c = p := ⟨_, rfl⟩
                    have HP := Lib.hid hp
                    have hsb : x + p ≤ 65536 := by
                      have h1 := HNV.out a (b + 1) q (by omega) (by omega)
                      rw [← hqq, nxN_new, hqq, hx, HY.out, hcc] at h1
                      simp only [Option.getD_some] at h1
                      omega
                    have HWP : Hid (IntKind.i64.wrap ((y : Int) * (c : Int)) = (p : Int)) := Lib.hid (by
                      have e : (y : Int) * (c : Int) = (p : Int) := by rw [← hp]; simp
                      rw [e]
                      exact IntWalk.i64_in _ ⟨by omega, by omega⟩)
                    have HWX : Hid (IntKind.i64.wrap ((x : Int) + (p : Int)) = ((x + p : Nat) : Int)) := Lib.hid ((IntWalk.i64_in _ ⟨by omega, by omega⟩).trans (by omega))
                    have HST : Hid ((nxL V m C a b).set q (x + p) = nxL V m C a (b + 1)) := Lib.hid (by
                      have h1 := nxL_step (w := V) (m := m) (k := C) hq
                      rw [hqq, hx, HY.out, hcc] at h1
                      simp only [Option.getD_some] at h1
                      rw [hp] at h1
                      exact h1)
                    have hcell : wr.cell? ⟨wo.heap.size, q, none⟩ = some (.int .i64 (x : Int)) := by
                      rw [HOB.out.cellAt q (by omega), ints, List.getElem?_map, zN_at (nxL_at (show q ≤ C by omega)), hx]
                      rfl
                    have hfz := HOB.out.frozenAt q
                    have hq0 : (0 : Int) ≤ (q : Int) := by omega
                    have hq1 : (q : Int) < ((C + 1 : Nat) : Int) := by omega
                    have hmi := HMI.out
                    have htd : Int.tdiv (N : Int) (g : Int) = (m : Int) := by rw [Int.tdiv_eq_ediv_of_nonneg (by omega)]; exact hmi
                    have HWM : Hid (IntKind.i64.wrap (m : Int) = (m : Int)) := Lib.hid (IntWalk.i64_in _ ⟨by omega, by omega⟩)
                    clear hqq hx hcc hp
                    have HCL := Lib.hid hcell
                    have HFZ := Lib.hid hfz
                    have HTD := Lib.hid htd
                    have HON : Hid ((wr.drew.setCell ⟨wo.heap.size, q, none⟩ (.int .i64 ((x + p : Nat) : Int))).ownsRow wo.heap.size 3 1 (.slice (some ⟨wo.heap.size, 0, none⟩) (C + 1) (C + 1)) (C + 1) (ints (zN (nxL V m C a (b + 1))))) := Lib.hid (by
                      have h1 := ((own_below HOB.out (Below.refl wr.heap.size wr).drew).stored q (.int .i64 ((x + p : Nat) : Int))).1
                      rw [zN_set, HST.out] at h1
                      exact h1)
                    have HBN : Hid (Below wo.heap.size wo (wr.drew.setCell ⟨wo.heap.size, q, none⟩ (.int .i64 ((x + p : Nat) : Int)))) := Lib.hid (HBY.out.drew.setCell (Nat.le_refl _) _)
                    clear hab htd hcell hfz hmi
                    go_upto_region 16 with fail
                    have hq2 : ¬ ((C : Int) + 1 ≤ (q : Int)) := by omega
                    have hq3 : ¬ (C + 1 ≤ q) := by omega
                    refine wp_region_held_drew (S := fun _ => True) (by kernel_rfl) trivial (fun hSS0 => ?_)
                    refine wpAnyH_take (i := 0) (oi := ⟨some 60, _, _, _, _, _⟩) (v := .slice (some ⟨wo.heap.size, 0, none⟩) (C + 1) (C + 1)) rfl (by kernel_rfl) (by kernel_rfl) (by kernel_rfl) (fun _ _ _ h => h) (Or.inl ⟨by rfl, fun W hSw => by go_simp⟩) (by assumption) ?_
                    try simp only [Act.put, List.setIfInBounds_toArray, List.set_cons_zero, List.set_cons_succ]
                    refine wpAnyH_take (i := 1) (oi := ⟨some 61, _, _, _, _, _⟩) (v := .int .i64 a) rfl (by kernel_rfl) (by kernel_rfl) (by kernel_rfl) (fun _ _ _ h => h) (Or.inl ⟨by rfl, fun W hSw => by go_simp⟩) (by assumption) ?_
                    try simp only [Act.put, List.setIfInBounds_toArray, List.set_cons_zero, List.set_cons_succ]
                    refine wpAnyH_take (i := 2) (oi := ⟨some 62, _, _, _, _, _⟩) (v := .int .i64 b) rfl (by kernel_rfl) (by kernel_rfl) (by kernel_rfl) (fun _ _ _ h => h) (Or.inl ⟨by rfl, fun W hSw => by go_simp⟩) (by assumption) ?_
                    try simp only [Act.put, List.setIfInBounds_toArray, List.set_cons_zero, List.set_cons_succ]
                    refine wpAnyH_take (i := 3) (oi := ⟨some 63, _, _, _, _, _⟩) (v := .int .i64 q) rfl (by kernel_rfl) (by kernel_rfl) (by kernel_rfl) (fun _ _ _ h => h) (Or.inl ⟨by rfl, fun W hSw => by have hwr := HWR.out; go_simp⟩) (by assumption) ?_
                    try simp only [Act.put, List.setIfInBounds_toArray, List.set_cons_zero, List.set_cons_succ]
                    refine wpAnyH_take (i := 4) (oi := ⟨some 64, _, _, _, _, _⟩) (v := .slice (some ⟨wo.heap.size, 0, none⟩) (C + 1) (C + 1)) rfl (by kernel_rfl) (by kernel_rfl) (by kernel_rfl) (fun _ _ _ h => h) (Or.inl ⟨by rfl, fun W hSw => by go_simp⟩) (by assumption) ?_
                    try simp only [Act.put, List.setIfInBounds_toArray, List.set_cons_zero, List.set_cons_succ]
                    refine wpAnyH_take (i := 5) (oi := ⟨some 65, _, _, _, _, _⟩) (v := .int .i64 a) rfl (by kernel_rfl) (by kernel_rfl) (by kernel_rfl) (fun _ _ _ h => h) (Or.inl ⟨by rfl, fun W hSw => by go_simp⟩) (by assumption) ?_
                    try simp only [Act.put, List.setIfInBounds_toArray, List.set_cons_zero, List.set_cons_succ]
                    refine wpAnyH_take (i := 6) (oi := ⟨some 66, _, _, _, _, _⟩) (v := .int .i64 b) rfl (by kernel_rfl) (by kernel_rfl) (by kernel_rfl) (fun _ _ _ h => h) (Or.inl ⟨by rfl, fun W hSw => by go_simp⟩) (by assumption) ?_
                    try simp only [Act.put, List.setIfInBounds_toArray, List.set_cons_zero, List.set_cons_succ]
                    refine wpAnyH_take (i := 7) (oi := ⟨some 67, _, _, _, _, _⟩) (v := .int .i64 q) rfl (by kernel_rfl) (by kernel_rfl) (by kernel_rfl) (fun _ _ _ h => h) (Or.inl ⟨by rfl, fun W hSw => by have hwr := HWR.out; go_simp⟩) (by assumption) ?_
                    try simp only [Act.put, List.setIfInBounds_toArray, List.set_cons_zero, List.set_cons_succ]
                    refine wpAnyH_take (i := 8) (oi := ⟨some 68, _, _, _, _, _⟩) (v := .pointer (some ⟨wo.heap.size, q, none⟩)) rfl (by kernel_rfl) (by kernel_rfl) (by kernel_rfl) (fun _ _ _ h => h) (Or.inl ⟨by rfl, fun W hSw => by go_simp⟩) (by assumption) ?_
                    try simp only [Act.put, List.setIfInBounds_toArray, List.set_cons_zero, List.set_cons_succ]
                    refine wpAnyH_take (i := 10) (oi := ⟨some 70, _, _, _, _, _⟩) (v := .int .i64 y) rfl (by kernel_rfl) (by kernel_rfl) (by kernel_rfl) (fun _ _ _ h => h) (Or.inl ⟨by rfl, fun W hSw => by go_simp⟩) (by assumption) ?_
                    try simp only [Act.put, List.setIfInBounds_toArray, List.set_cons_zero, List.set_cons_succ]
                    refine wpAnyH_take (i := 11) (oi := ⟨some 71, _, _, _, _, _⟩) (v := .int .i64 N) rfl (by kernel_rfl) (by kernel_rfl) (by kernel_rfl) (fun _ _ _ h => h) (Or.inl ⟨by rfl, fun W hSw => by go_simp⟩) (by assumption) ?_
                    try simp only [Act.put, List.setIfInBounds_toArray, List.set_cons_zero, List.set_cons_succ]
                    refine wpAnyH_take (i := 12) (oi := ⟨some 72, _, _, _, _, _⟩) (v := .int .i64 g) rfl (by kernel_rfl) (by kernel_rfl) (by kernel_rfl) (fun _ _ _ h => h) (Or.inl ⟨by rfl, fun W hSw => by go_simp⟩) (by assumption) ?_
                    try simp only [Act.put, List.setIfInBounds_toArray, List.set_cons_zero, List.set_cons_succ]
                    refine wpAnyH_take (i := 13) (oi := ⟨some 73, _, _, _, _, _⟩) (v := .int .i64 m) rfl (by kernel_rfl) (by kernel_rfl) (by kernel_rfl) (fun _ _ _ h => h) (Or.inl ⟨by rfl, fun W hSw => by have hmi := HMI.out; have htd := HTD.out; have hwm := HWM.out; go_simp⟩) (by assumption) ?_
                    try simp only [Act.put, List.setIfInBounds_toArray, List.set_cons_zero, List.set_cons_succ]
                    refine wpAnyH_take (i := 14) (oi := ⟨some 74, _, _, _, _, _⟩) (v := .int .i64 b) rfl (by kernel_rfl) (by kernel_rfl) (by kernel_rfl) (fun _ _ _ h => h) (Or.inl ⟨by rfl, fun W hSw => by go_simp⟩) (by assumption) ?_
                    try simp only [Act.put, List.setIfInBounds_toArray, List.set_cons_zero, List.set_cons_succ]
                    refine wpAnyH_ready (rs := [9, 15]) (by kernel_rfl) (by simp) ?_
                    refine AllReadyH.cons rfl (fun K hKK => ?_) (AllReadyH.cons rfl (fun K hKK => ?_) AllReadyH.nil)
                    · have hcell := HCL.out
                      go_simp
                      refine hKK.out _ _ trivial (fun hSS1 => ?_)
                      clear hKK K hSS0
                      try simp only [Act.put, List.setIfInBounds_toArray, List.set_cons_zero, List.set_cons_succ]
                      clear hcell
                      refine wpAnyH_ready (rs := [15]) (by kernel_rfl) (by simp) ?_
                      refine AllReadyH.cons rfl (fun K hKK => ?_) AllReadyH.nil
                      go_simp
                      go_at_call 71
                      refine (count0_spec m b _ (by omega) (by omega)).mono ?_
                      rintro e w' ⟨rfl, rfl⟩
                      rw [HCC.out]
                      refine hKK.out _ _ trivial (fun hSS2 => ?_)
                      clear hKK K hSS1
                      try simp only [Act.put, List.setIfInBounds_toArray, List.set_cons_zero, List.set_cons_succ]
                      refine wpAnyH_take (i := 16) (oi := ⟨some 76, _, _, _, _, _⟩) (v := .int .i64 p) rfl (by kernel_rfl) (by kernel_rfl) (by kernel_rfl) (fun _ _ _ h => h) (Or.inl ⟨by rfl, fun W hSw => by have hwp := HWP.out; go_simp⟩) (by assumption) ?_
                      try simp only [Act.put, List.setIfInBounds_toArray, List.set_cons_zero, List.set_cons_succ]
                      refine wpAnyH_take (i := 17) (oi := ⟨some 77, _, _, _, _, _⟩) (v := .int .i64 ((x + p : Nat) : Int)) rfl (by kernel_rfl) (by kernel_rfl) (by kernel_rfl) (fun _ _ _ h => h) (Or.inl ⟨by rfl, fun W hSw => by have hwx := HWX.out; go_simp⟩) (by assumption) ?_
                      try simp only [Act.put, List.setIfInBounds_toArray, List.set_cons_zero, List.set_cons_succ]
                      refine wpAnyH_take (i := 18) (oi := ⟨some 78, _, _, _, _, _⟩) (v := .pointer (some ⟨wo.heap.size, q, none⟩)) rfl (by kernel_rfl) (by kernel_rfl) (by kernel_rfl) (fun _ _ _ h => h) (Or.inl ⟨by rfl, fun W hSw => by go_simp⟩) (by assumption) ?_
                      try simp only [Act.put, List.setIfInBounds_toArray, List.set_cons_zero, List.set_cons_succ]
                      refine wpAnyH_ready (rs := [19]) (by kernel_rfl) (by simp) ?_
                      refine AllReadyH.cons rfl (fun K hKK => ?_) AllReadyH.nil
                      have hcell := HCL.out
                      have hfz := HFZ.out
                      go_simp
                      refine hKK.out _ _ trivial (fun hSS3 => ?_)
                      clear hKK K hSS2
                      try simp only [Act.put, List.setIfInBounds_toArray, List.set_cons_zero, List.set_cons_succ]
                      clear hcell hfz
                      refine wpAnyH_done (by kernel_rfl) ?_ _
                      go_wp2
                      go_roundw
                      case rel => exact ⟨b + 1, by omega, by go_num, HON.out, HBN.out⟩
                      case measure => simp [intOf]; omega
                    · go_simp
                      go_at_call 71
                      refine (count0_spec m b _ (by omega) (by omega)).mono ?_
                      rintro e w' ⟨rfl, rfl⟩
                      rw [HCC.out]
                      refine hKK.out _ _ trivial (fun hSS1 => ?_)
                      clear hKK K hSS0
                      try simp only [Act.put, List.setIfInBounds_toArray, List.set_cons_zero, List.set_cons_succ]
                      refine wpAnyH_take (i := 16) (oi := ⟨some 76, _, _, _, _, _⟩) (v := .int .i64 p) rfl (by kernel_rfl) (by kernel_rfl) (by kernel_rfl) (fun _ _ _ h => h) (Or.inl ⟨by rfl, fun W hSw => by have hwp := HWP.out; go_simp⟩) (by assumption) ?_
                      try simp only [Act.put, List.setIfInBounds_toArray, List.set_cons_zero, List.set_cons_succ]
                      refine wpAnyH_ready (rs := [9]) (by kernel_rfl) (by simp) ?_
                      refine AllReadyH.cons rfl (fun K hKK => ?_) AllReadyH.nil
                      have hcell := HCL.out
                      go_simp
                      refine hKK.out _ _ trivial (fun hSS2 => ?_)
                      clear hKK K hSS1
                      try simp only [Act.put, List.setIfInBounds_toArray, List.set_cons_zero, List.set_cons_succ]
                      clear hcell
                      refine wpAnyH_take (i := 17) (oi := ⟨some 77, _, _, _, _, _⟩) (v := .int .i64 ((x + p : Nat) : Int)) rfl (by kernel_rfl) (by kernel_rfl) (by kernel_rfl) (fun _ _ _ h => h) (Or.inl ⟨by rfl, fun W hSw => by have hwx := HWX.out; go_simp⟩) (by assumption) ?_
                      try simp only [Act.put, List.setIfInBounds_toArray, List.set_cons_zero, List.set_cons_succ]
                      refine wpAnyH_take (i := 18) (oi := ⟨some 78, _, _, _, _, _⟩) (v := .pointer (some ⟨wo.heap.size, q, none⟩)) rfl (by kernel_rfl) (by kernel_rfl) (by kernel_rfl) (fun _ _ _ h => h) (Or.inl ⟨by rfl, fun W hSw => by go_simp⟩) (by assumption) ?_
                      try simp only [Act.put, List.setIfInBounds_toArray, List.set_cons_zero, List.set_cons_succ]
                      refine wpAnyH_ready (rs := [19]) (by kernel_rfl) (by simp) ?_
                      refine AllReadyH.cons rfl (fun K hKK => ?_) AllReadyH.nil
                      have hcell := HCL.out
                      have hfz := HFZ.out
                      go_simp
                      refine hKK.out _ _ trivial (fun hSS3 => ?_)
                      clear hKK K hSS2
                      try simp only [Act.put, List.setIfInBounds_toArray, List.set_cons_zero, List.set_cons_succ]
                      clear hcell hfz
                      refine wpAnyH_done (by kernel_rfl) ?_ _
                      go_wp2
                      go_roundw
                      case rel => exact ⟨b + 1, by omega, by go_num, HON.out, HBN.out⟩
                      case measure => simp [intOf]; omega
                  · have e : a + b = C + 1 := by omega
                    have HOE : Hid (wr.ownsRow wo.heap.size 3 1 (.slice (some ⟨wo.heap.size, 0, none⟩) (C + 1) (C + 1)) (C + 1) (ints (zN (nxL V m C (a + 1) 0)))) := Lib.hid (by
                      have h1 := HOB.out
                      rw [nxL_next (by omega)] at h1
                      exact h1)
                    have hle : decide ((a : Int) + (b : Int) ≤ (C : Int)) = false := by simp; omega
                    have hle2 : decide (a + b ≤ C) = false := by simp; omega
                    clear e
                    go_wp2
                    go_roundw
                    case rel => exact ⟨a + 1, by omega, by go_num, HOE.out, HBY.out⟩
                    case measure => simp [intOf]; omega
              · have e : a = C + 1 := by omega
                have HIN : Hid (IntsAt wr (some ⟨wo.heap.size, 0, none⟩) (C + 1) (zN (waysN m C (i + 1)))) := Lib.hid (by
                  have h1 := HOA.out
                  rw [e, nxL_all, ← HNX.out] at h1
                  exact ints_own' (by rw [zN_len, ways_len]) h1 (zN_int (by omega) (fun x => HWB.out (i + 1) x (by omega))))
                clear e
                go_wp2
                go_roundw
                case rel => exact ⟨i + 1, _, _, by omega, by go_num, rfl, HIN.out, HBW.out.trans (HBX.out.mono HBW.out.size)⟩
                case measure => simp [intOf]; omega
          · have e : i = g := by omega
            obtain ⟨y, hy⟩ : ∃ y, (waysN m C g)[C]? = some y := ⟨_, List.getElem?_eq_getElem (by rw [ways_len]; omega)⟩
            rw [e] at HIA
            obtain ⟨b0, off, z, rfl, hb0, hs, hc, hz1, hz2⟩ := HIA.out.at (show C < C + 1 by omega)
            have hzy : z = (y : Int) := by rw [zN_at hy] at hs; exact (Option.some.inj hs).symm
            subst hzy
            have HY : Hid ((waysN m C g)[C]?.getD 0 = y) := Lib.hid (by rw [hy]; rfl)
            clear hs hy e
            go_wp2
            go_ret
            exact ⟨by rw [HY.out]; rfl, HBW.out⟩
      · have HK := Lib.hid hk
        obtain ⟨hn1, hn2⟩ := hn
        obtain ⟨hd1, hd2⟩ := hd
        have HE := Lib.hid (coaB_no (n := n) (d := d) (k := k) (fun x => hk x.2.2))
        clear hk
        rw [HE.out]
        go_enter Try.func41, Try.ntmps41
        go_wp2_with fail
        refine (in_yes _ _ _ _ hn1 hn2).mono ?_
        rintro e w' ⟨rfl, rfl⟩
        go_wp2_with fail
        refine (in_yes _ _ _ _ hd1 hd2).mono ?_
        rintro e w' ⟨rfl, rfl⟩
        go_wp2_with fail
        refine (in_no _ _ _ _ HK.out).mono ?_
        rintro e w' ⟨rfl, rfl⟩
        go_wp2
        go_ret
        exact ⟨rfl, Below.refl _ _⟩
    · have HD := Lib.hid hd
      obtain ⟨hn1, hn2⟩ := hn
      have HE := Lib.hid (coaB_no (n := n) (d := d) (k := k) (fun x => hd x.2.1))
      clear hd
      rw [HE.out]
      go_enter Try.func41, Try.ntmps41
      go_wp2_with fail
      refine (in_yes _ _ _ _ hn1 hn2).mono ?_
      rintro e w' ⟨rfl, rfl⟩
      go_wp2_with fail
      refine (in_no _ _ _ _ HD.out).mono ?_
      rintro e w' ⟨rfl, rfl⟩
      go_wp2
      go_ret
      exact ⟨rfl, Below.refl _ _⟩
  · have HN := Lib.hid hn
    have HE := Lib.hid (coaB_no (n := n) (d := d) (k := k) (fun x => hn x.1))
    clear hn
    rw [HE.out]
    go_enter Try.func41, Try.ntmps41
    go_wp2_with fail
    refine (in_no _ _ _ _ HN.out).mono ?_
    rintro e w' ⟨rfl, rfl⟩
    go_wp2
    go_ret
    exact ⟨rfl, Below.refl _ _⟩
end Go.Proofs.Ytpbceckbmalabaa.Rhy
