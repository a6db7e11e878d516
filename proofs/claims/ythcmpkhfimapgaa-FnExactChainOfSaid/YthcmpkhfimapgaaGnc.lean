/-
  Helpers of the claims beside this text: ChainOf, ExtendChain of the model.
-/
import Derived.Test.YthcmpkhfimapgaaGno
import Derived.Test.YthcmpkhfimapgaaSmall
namespace Go.Proofs.Ythcmpkhfimapgaa.Rhy
open Go.RowKit
set_option linter.unusedVariables false
set_option linter.unusedSimpArgs false

/-- The first beat from place i on that is not g after a beat; the first beat at all if there is none. -/
noncomputable def chG (n : Int) (zs : List Int) (g : Int) : Nat → Nat → Int
  | 0, _ => zs[0]?.getD 0
  | f + 1, i => if beatB n zs (zs[i]?.getD 0 - g) = false then zs[i]?.getD 0 else chG n zs g f (i + 1)
noncomputable def chF (n : Int) (zs : List Int) (g : Int) : Int := chG n zs g zs.length 0
def chP (n s g : Int) (j : Nat) : List Int := (List.range j).map fun (i : Nat) => (s + (i : Int) * g) % n
noncomputable def chB (s : Int) (zs : List Int) (g : Int) : List Int := cZ (hasB (gnB s zs) g = true) (chP s (chF s zs g) g zs.length)
theorem chP_len (n s g : Int) (j : Nat) : (chP n s g j).length = j := by simp [chP]
theorem chP_snoc (n s g : Int) (j : Nat) : chP n s g (j + 1) = chP n s g j ++ [(s + (j : Int) * g) % n] := by simp [chP, List.range_succ]
theorem chG_in {n : Int} {zs : List Int} (h : Ok n zs) (h0 : 0 < zs.length) (g : Int) : ∀ f i, 0 ≤ chG n zs g f i ∧ (i + f ≤ zs.length → chG n zs g f i < n)
  | 0, i => by
    have := beat_bd h h0
    simp only [chG]
    omega
  | f + 1, i => by
    have ih := chG_in h h0 g f (i + 1)
    simp only [chG]
    by_cases hc : beatB n zs (zs[i]?.getD 0 - g) = false
    · rw [if_pos hc]
      by_cases hi : i < zs.length
      · have := beat_bd h hi
        exact ⟨this.1, fun _ => this.2⟩
      · have e : zs[i]? = none := List.getElem?_eq_none (by omega)
        rw [e]
        exact ⟨Int.le_refl 0, fun q => absurd q (by omega)⟩
    · rw [if_neg hc]
      exact ⟨ih.1, fun q => ih.2 (by omega)⟩
theorem chF_bd {n : Int} {zs : List Int} (h : Ok n zs) (h0 : 0 < zs.length) (g : Int) : 0 ≤ chF n zs g ∧ chF n zs g < n := by
  have := chG_in h h0 g zs.length 0
  exact ⟨this.1, this.2 (by omega)⟩
theorem chP_int {n : Int} (h : 1 ≤ n ∧ n ≤ 24) (s g : Int) (j : Nat) : AllInt (chP n s g j) := by
  intro z hz
  unfold chP at hz
  rw [List.mem_map] at hz
  obtain ⟨i, _, rfl⟩ := hz
  have := em_bd (s + (i : Int) * g) h.1
  omega
theorem gnB_in {s g : Int} {zs : List Int} (h : hasB (gnB s zs) g = true) : Ok s zs ∧ 1 ≤ g ∧ g < s ∧ gnQ s zs g := by
  have hm : g ∈ gnB s zs := by unfold hasB at h; exact List.contains_iff_mem.1 h
  by_cases ho : Ok s zs
  · rw [gnB_yes ho] at hm
    have h1 := gnP_mem.1 hm
    have h2 := ho.1
    exact ⟨ho, by omega, by omega, h1.2⟩
  · rw [gnB_no ho] at hm; cases hm
theorem chB_yes {s g : Int} {zs : List Int} (h : hasB (gnB s zs) g = true) : chB s zs g = chP s (chF s zs g) g zs.length := cZ_yes h
theorem chB_no {s g : Int} {zs : List Int} (h : hasB (gnB s zs) g = false) : chB s zs g = [] := cZ_no (by rw [h]; simp)
theorem chB_int (s : Int) (zs : List Int) (g : Int) : AllInt (chB s zs g) := by
  cases h : hasB (gnB s zs) g
  · rw [chB_no h]; intro z hz; cases hz
  · rw [chB_yes h]; exact chP_int (gnB_in h).1.1 _ _ _
theorem chB_len (s : Int) (zs : List Int) (g : Int) : (chB s zs g).length ≤ 24 := by
  cases h : hasB (gnB s zs) g
  · rw [chB_no h]; simp
  · rw [chB_yes h, chP_len]; exact ok_len (gnB_in h).1

set_option maxHeartbeats 4000000 in
set_option maxRecDepth 100000 in
theorem chn_spec (s : Int) (a : Option Addr) (len cap : Nat) (zs : List Int) (g : Int) (w : World) (h : IntsAt w a len zs) (hm : zs.length ≤ 1048576) (h3 : -9223372036854775808 ≤ g) (h4 : g ≤ 9223372036854775807) :
    Calls Try.prog 43 #[rhy s a len cap, .int .i64 g] w (IPost (chB s zs g) w) := by
  have HS := Lib.hid h
  obtain rfl : zs.length = len := h.len
  clear h
  have hgl := gnB_len s zs
  have HGI := Lib.hid (gnB_int s zs)
  obtain ⟨G, hG⟩ : ∃ G, gnB s zs = G := ⟨_, rfl⟩
  rw [hG] at hgl HGI
  have HG := Lib.hid hG
  clear hG
  cases hq : hasB (gnB s zs) g
  · have HE := Lib.hid (chB_no hq)
    rw [HG.out] at hq
    have HQ := Lib.hid hq
    clear hq
    rw [HE.out]
    go_enter Try.func43, Try.ntmps43
    go_wp2_with fail
    refine (gens_spec s a zs.length cap zs _ (HS.out.below (bel1 w _)) hm).mono ?_
    rintro e w1 ⟨a1, c1, rfl, hown, hb1⟩
    rw [HG.out] at hown ⊢
    have HI := Lib.hid (intsAt_own hown HGI.out)
    have HB := Lib.hid ((bel1 w (.cells #[.int .i64 s, .slice a zs.length cap] 26)).trans (hb1.mono (by simp)))
    clear hown hb1
    go_wp2_with fail
    refine (has_any a1 G.length c1 G g _ HI.out (by omega)).mono ?_
    rintro e w' ⟨rfl, rfl⟩
    rw [HQ.out]
    go_wp2
    go_ret
    exact ⟨none, 0, rfl, World.ownsRow_nil _ _ _ _, HB.out⟩
  · have HE := Lib.hid (chB_yes hq)
    obtain ⟨ho, hg1, hgs, _⟩ := gnB_in hq
    obtain ⟨n, rfl⟩ : ∃ n : Nat, s = n := ⟨s.toNat, by have := ho.1; omega⟩
    have HO := Lib.hid ho
    have hn1 : 1 ≤ n := by have := ho.1.1; omega
    have hn24 : n ≤ 24 := by have := ho.1.2; omega
    have hl24 := ok_len ho
    rw [HG.out] at hq
    have HQ := Lib.hid hq
    clear hq ho
    rw [HE.out]
    go_enter Try.func43, Try.ntmps43
    go_wp2_with fail
    refine (gens_spec n a zs.length cap zs _ (HS.out.below (bel1 w _)) hm).mono ?_
    rintro e w1 ⟨a1, c1, rfl, hown, hb1⟩
    rw [HG.out] at hown ⊢
    have HI1 := Lib.hid (intsAt_own hown HGI.out)
    have HB := Lib.hid ((bel1 w (.cells #[.int .i64 n, .slice a zs.length cap] 26)).trans (hb1.mono (by simp)))
    have HT := Lib.hid ((two_new w (.int .i64 n) (.slice a zs.length cap) 26).keep hb1)
    obtain ⟨t1, t1a, t1b⟩ := HT.out
    clear hown hb1
    go_wp2_with fail
    refine (has_any a1 G.length c1 G g _ HI1.out (by omega)).mono ?_
    rintro e w' ⟨rfl, rfl⟩
    rw [HQ.out]
    by_cases h0 : zs.length = 0
    · have hd : ((zs.length : Int) == 0) = true := by rw [h0]; rfl
      have HE0 : Hid (chP n (chF n zs g) g zs.length = []) := Lib.hid (by rw [h0]; rfl)
      clear h0
      go_wp2
      go_ret
      rw [HE0.out]
      have hv := World.ownsRow_made (base := w1.heap.size) (e := 3) (size := 1) w1 #[] 0 (Nat.le_refl _) (by unfold maxLen; omega) rfl
      exact ⟨_, 0, rfl, own_base (by simpa [ints] using hv) HB.out.size, HB.out.alloc HB.out.size _⟩
    · have hd : ((zs.length : Int) == 0) = false := by rw [beq_eq_false_iff_ne]; omega
      obtain ⟨b, off, z0, rfl, hb, hs0, hc0, hz1, hz2⟩ := (HS.out.below HB.out).at (k := 0) (by omega)
      have hc0' : w1.cell? ⟨b, off, none⟩ = some (.int .i64 z0) := hc0
      have HZ0 : Hid (z0 = chG n zs g 0 zs.length) := Lib.hid (by simp only [chG]; rw [hs0]; rfl)
      have hw1 : wrap64 ((zs.length : Int) - 1) = (zs.length : Int) - 1 := by unfold wrap64; omega
      have hl1 : (0 : Int) < (zs.length : Int) := by omega
      clear hc0 hs0
      go_wp2
      go_loopw [5, 6] (fun v i wr => ∃ j : Nat, j ≤ zs.length ∧ i = .int .i64 ((j : Int) - 1) ∧ v = .int .i64 (chG n zs g (zs.length - j) j) ∧ Below w1.heap.size w1 wr) (fun _ i _ => (intOf i + 1).toNat)
      case atStart => exact ⟨zs.length, Nat.le_refl _, rfl, by rw [Nat.sub_self, HZ0.out], Below.refl _ _⟩
      case round =>
        clear t1 t1a t1b hc0' hw1
        obtain ⟨j, hj, rfl, rfl, hbl⟩ := hrel
        have HX := Lib.hid hbl
        have HTr := Lib.hid (HT.out.keep hbl)
        obtain ⟨t1, t1a, t1b⟩ := HTr.out
        have HI : Hid (IntsAt wr (some ⟨b, off, none⟩) zs.length zs) := Lib.hid (HS.out.below (HB.out.trans (hbl.mono HB.out.size)))
        clear hbl
        obtain ⟨F, hF⟩ : ∃ F, chG n zs g (zs.length - j) j = F := ⟨_, rfl⟩
        rw [hF]
        have HF := Lib.hid hF
        clear hF
        by_cases hj0 : 0 < j
        · obtain ⟨k, rfl⟩ : ∃ k, j = k + 1 := ⟨j - 1, by omega⟩
          have hkl : k < zs.length := by omega
          obtain ⟨b', off', z, he, hb', hs, hc, hz1, hz2⟩ := HI.out.at hkl
          cases he
          have hz := ok_at HO.out hs
          rw [show (((k + 1 : Nat) : Int) - 1) = (k : Int) by omega]
          have hk0 : (0 : Int) ≤ (k : Int) := by omega
          have hk1 : (k : Int) < (zs.length : Int) := by omega
          have hw2 : IntKind.i64.wrap (z - g) = z - g := IntWalk.i64_in _ ⟨by omega, by omega⟩
          have hw3 : wrap64 ((k : Int) - 1) = (k : Int) - 1 := by unfold wrap64; omega
          have HK : Hid (∀ W' : World, Below wr.heap.size wr W' → W'.cell? ⟨w.heap.size, 0, none⟩ = some (.int .i64 n) ∧ W'.cell? ⟨w.heap.size, 1, none⟩ = some (.slice (some ⟨b, off, none⟩) zs.length cap) ∧ W'.cell? ⟨b, off + k, none⟩ = some (.int .i64 z) ∧ Below wr.heap.size wr W') :=
            Lib.hid (fun W' hW => ⟨(HTr.out.keep hW).2.1, (HTr.out.keep hW).2.2, by rw [hW.cell (p := ⟨b, off + k, none⟩) hb']; exact hc, hW⟩)
          have HST : Hid (chG n zs g (zs.length - k) k = if beatB n zs (z - g) = false then z else F) := Lib.hid (by
            rw [show zs.length - k = (zs.length - (k + 1)) + 1 by omega]
            simp only [chG]
            rw [hs, HF.out]
            rfl)
          clear hs
          cases hbt : beatB n zs (z - g)
          · have HBT := Lib.hid hbt
            have HSU : Hid (chG n zs g (zs.length - k) k = z) := Lib.hid (by rw [HST.out, if_pos hbt])
            clear hbt
            go_wp2
            refine wp_region_held_drew (S := fun W' => W'.cell? ⟨w.heap.size, 0, none⟩ = some (.int .i64 n) ∧ W'.cell? ⟨w.heap.size, 1, none⟩ = some (.slice (some ⟨b, off, none⟩) zs.length cap) ∧ W'.cell? ⟨b, off + k, none⟩ = some (.int .i64 z) ∧ Below wr.heap.size wr W') (by kernel_rfl) (HK.out _ (Below.refl _ _).drew) (fun hSS0 => ?_)
            refine wpAnyH_take (i := 0) (oi := ⟨some 31, _, _, _, _, _⟩) (v := .agg #[.int .i64 n, .slice (some ⟨b, off, none⟩) zs.length cap]) rfl (by kernel_rfl) (by kernel_rfl) (by kernel_rfl) (fun _ _ _ h => h) (Or.inl ⟨by rfl, fun w' hSw => by obtain ⟨q1, q2, _⟩ := hSw; go_simp⟩) (by assumption) ?_
            try simp only [Act.put, List.setIfInBounds_toArray, List.set_cons_zero, List.set_cons_succ]
            refine wpAnyH_take (i := 1) (oi := ⟨some 32, _, _, _, _, _⟩) (v := .pointer (some ⟨w.heap.size, 1, none⟩)) rfl (by kernel_rfl) (by kernel_rfl) (by kernel_rfl) (fun _ _ _ h => h) (Or.inl ⟨by rfl, fun w' hSw => by go_simp⟩) (by assumption) ?_
            try simp only [Act.put, List.setIfInBounds_toArray, List.set_cons_zero, List.set_cons_succ]
            refine wpAnyH_take (i := 2) (oi := ⟨some 33, _, _, _, _, _⟩) (v := .slice (some ⟨b, off, none⟩) zs.length cap) rfl (by kernel_rfl) (by kernel_rfl) (by kernel_rfl) (fun _ _ _ h => h) (Or.inl ⟨by rfl, fun w' hSw => by obtain ⟨q1, q2, _⟩ := hSw; go_simp⟩) (by assumption) ?_
            try simp only [Act.put, List.setIfInBounds_toArray, List.set_cons_zero, List.set_cons_succ]
            refine wpAnyH_take (i := 3) (oi := ⟨some 34, _, _, _, _, _⟩) (v := .int .i64 (k : Nat)) rfl (by kernel_rfl) (by kernel_rfl) (by kernel_rfl) (fun _ _ _ h => h) (Or.inl ⟨by rfl, fun w' hSw => by go_simp⟩) (by assumption) ?_
            try simp only [Act.put, List.setIfInBounds_toArray, List.set_cons_zero, List.set_cons_succ]
            refine wpAnyH_take (i := 4) (oi := ⟨some 35, _, _, _, _, _⟩) (v := .pointer (some ⟨b, off + k, none⟩)) rfl (by kernel_rfl) (by kernel_rfl) (by kernel_rfl) (fun _ _ _ h => h) (Or.inl ⟨by rfl, fun w' hSw => by go_simp⟩) (by assumption) ?_
            try simp only [Act.put, List.setIfInBounds_toArray, List.set_cons_zero, List.set_cons_succ]
            refine wpAnyH_take (i := 5) (oi := ⟨some 36, _, _, _, _, _⟩) (v := .int .i64 z) rfl (by kernel_rfl) (by kernel_rfl) (by kernel_rfl) (fun _ _ _ h => h) (Or.inl ⟨by rfl, fun w' hSw => by obtain ⟨_, _, q1, _⟩ := hSw; go_simp⟩) (by assumption) ?_
            try simp only [Act.put, List.setIfInBounds_toArray, List.set_cons_zero, List.set_cons_succ]
            refine wpAnyH_take (i := 6) (oi := ⟨some 37, _, _, _, _, _⟩) (v := .int .i64 g) rfl (by kernel_rfl) (by kernel_rfl) (by kernel_rfl) (fun _ _ _ h => h) (Or.inl ⟨by rfl, fun w' hSw => by go_simp⟩) (by assumption) ?_
            try simp only [Act.put, List.setIfInBounds_toArray, List.set_cons_zero, List.set_cons_succ]
            refine wpAnyH_take (i := 7) (oi := ⟨some 38, _, _, _, _, _⟩) (v := .int .i64 (z - g)) rfl (by kernel_rfl) (by kernel_rfl) (by kernel_rfl) (fun _ _ _ h => h) (Or.inl ⟨by rfl, fun w' hSw => by go_simp⟩) (by assumption) ?_
            try simp only [Act.put, List.setIfInBounds_toArray, List.set_cons_zero, List.set_cons_succ]
            refine wpAnyH_ready (rs := [8]) (by kernel_rfl) (by simp) ?_
            refine AllReadyH.cons rfl (fun K hKK => ?_) AllReadyH.nil
            go_simp
            go_at_call 75
            refine (beat_spec n (some ⟨b, off, none⟩) zs.length cap zs (z - g) _ (HI.out.below (Below.refl _ _).drew) hm (by omega) (by omega)).mono ?_
            rintro e w3 ⟨rfl, hb3⟩
            rw [HBT.out]
            have hbb3 : Below wr.heap.size wr w3 := (Below.refl wr.heap.size wr).drew.trans hb3
            refine hKK.out _ _ (HK.out _ hbb3) (fun hSS1 => ?_)
            clear hKK K hSS0
            try simp only [Act.put, List.setIfInBounds_toArray, List.set_cons_zero, List.set_cons_succ]
            refine wpAnyH_take (i := 9) (oi := ⟨some 40, _, _, _, _, _⟩) (v := .bool true) rfl (by kernel_rfl) (by kernel_rfl) (by kernel_rfl) (fun _ _ _ h => h) (Or.inl ⟨by rfl, fun w' hSw => by go_simp⟩) (by assumption) ?_
            try simp only [Act.put, List.setIfInBounds_toArray, List.set_cons_zero, List.set_cons_succ]
            refine wpAnyH_done (by kernel_rfl) ?_ _
            have HB3 := Lib.hid (HX.out.trans (hbb3.mono HX.out.size))
            have HT3 := Lib.hid (HTr.out.keep hbb3)
            have hc3 : w3.cell? ⟨b, off + k, none⟩ = some (.int .i64 z) := (HK.out _ hbb3).2.2.1
            clear t1 t1a t1b hc hb3 hbb3 HK
            obtain ⟨t1, t1a, t1b⟩ := HT3.out
            go_wp2
            go_roundw
            case rel => exact ⟨k, by omega, rfl, by rw [HSU.out], HB3.out⟩
            case measure => show (((k : Int) - 1) + 1).toNat < ((k : Int) + 1).toNat; omega
          · have HBT := Lib.hid hbt
            have HSU : Hid (chG n zs g (zs.length - k) k = F) := Lib.hid (by rw [HST.out, if_neg (by rw [hbt]; simp)])
            clear hbt
            go_wp2
            refine wp_region_held_drew (S := fun W' => W'.cell? ⟨w.heap.size, 0, none⟩ = some (.int .i64 n) ∧ W'.cell? ⟨w.heap.size, 1, none⟩ = some (.slice (some ⟨b, off, none⟩) zs.length cap) ∧ W'.cell? ⟨b, off + k, none⟩ = some (.int .i64 z) ∧ Below wr.heap.size wr W') (by kernel_rfl) (HK.out _ (Below.refl _ _).drew) (fun hSS0 => ?_)
            refine wpAnyH_take (i := 0) (oi := ⟨some 31, _, _, _, _, _⟩) (v := .agg #[.int .i64 n, .slice (some ⟨b, off, none⟩) zs.length cap]) rfl (by kernel_rfl) (by kernel_rfl) (by kernel_rfl) (fun _ _ _ h => h) (Or.inl ⟨by rfl, fun w' hSw => by obtain ⟨q1, q2, _⟩ := hSw; go_simp⟩) (by assumption) ?_
            try simp only [Act.put, List.setIfInBounds_toArray, List.set_cons_zero, List.set_cons_succ]
            refine wpAnyH_take (i := 1) (oi := ⟨some 32, _, _, _, _, _⟩) (v := .pointer (some ⟨w.heap.size, 1, none⟩)) rfl (by kernel_rfl) (by kernel_rfl) (by kernel_rfl) (fun _ _ _ h => h) (Or.inl ⟨by rfl, fun w' hSw => by go_simp⟩) (by assumption) ?_
            try simp only [Act.put, List.setIfInBounds_toArray, List.set_cons_zero, List.set_cons_succ]
            refine wpAnyH_take (i := 2) (oi := ⟨some 33, _, _, _, _, _⟩) (v := .slice (some ⟨b, off, none⟩) zs.length cap) rfl (by kernel_rfl) (by kernel_rfl) (by kernel_rfl) (fun _ _ _ h => h) (Or.inl ⟨by rfl, fun w' hSw => by obtain ⟨q1, q2, _⟩ := hSw; go_simp⟩) (by assumption) ?_
            try simp only [Act.put, List.setIfInBounds_toArray, List.set_cons_zero, List.set_cons_succ]
            refine wpAnyH_take (i := 3) (oi := ⟨some 34, _, _, _, _, _⟩) (v := .int .i64 (k : Nat)) rfl (by kernel_rfl) (by kernel_rfl) (by kernel_rfl) (fun _ _ _ h => h) (Or.inl ⟨by rfl, fun w' hSw => by go_simp⟩) (by assumption) ?_
            try simp only [Act.put, List.setIfInBounds_toArray, List.set_cons_zero, List.set_cons_succ]
            refine wpAnyH_take (i := 4) (oi := ⟨some 35, _, _, _, _, _⟩) (v := .pointer (some ⟨b, off + k, none⟩)) rfl (by kernel_rfl) (by kernel_rfl) (by kernel_rfl) (fun _ _ _ h => h) (Or.inl ⟨by rfl, fun w' hSw => by go_simp⟩) (by assumption) ?_
            try simp only [Act.put, List.setIfInBounds_toArray, List.set_cons_zero, List.set_cons_succ]
            refine wpAnyH_take (i := 5) (oi := ⟨some 36, _, _, _, _, _⟩) (v := .int .i64 z) rfl (by kernel_rfl) (by kernel_rfl) (by kernel_rfl) (fun _ _ _ h => h) (Or.inl ⟨by rfl, fun w' hSw => by obtain ⟨_, _, q1, _⟩ := hSw; go_simp⟩) (by assumption) ?_
            try simp only [Act.put, List.setIfInBounds_toArray, List.set_cons_zero, List.set_cons_succ]
            refine wpAnyH_take (i := 6) (oi := ⟨some 37, _, _, _, _, _⟩) (v := .int .i64 g) rfl (by kernel_rfl) (by kernel_rfl) (by kernel_rfl) (fun _ _ _ h => h) (Or.inl ⟨by rfl, fun w' hSw => by go_simp⟩) (by assumption) ?_
            try simp only [Act.put, List.setIfInBounds_toArray, List.set_cons_zero, List.set_cons_succ]
            refine wpAnyH_take (i := 7) (oi := ⟨some 38, _, _, _, _, _⟩) (v := .int .i64 (z - g)) rfl (by kernel_rfl) (by kernel_rfl) (by kernel_rfl) (fun _ _ _ h => h) (Or.inl ⟨by rfl, fun w' hSw => by go_simp⟩) (by assumption) ?_
            try simp only [Act.put, List.setIfInBounds_toArray, List.set_cons_zero, List.set_cons_succ]
            refine wpAnyH_ready (rs := [8]) (by kernel_rfl) (by simp) ?_
            refine AllReadyH.cons rfl (fun K hKK => ?_) AllReadyH.nil
            go_simp
            go_at_call 75
            refine (beat_spec n (some ⟨b, off, none⟩) zs.length cap zs (z - g) _ (HI.out.below (Below.refl _ _).drew) hm (by omega) (by omega)).mono ?_
            rintro e w3 ⟨rfl, hb3⟩
            rw [HBT.out]
            have hbb3 : Below wr.heap.size wr w3 := (Below.refl wr.heap.size wr).drew.trans hb3
            refine hKK.out _ _ (HK.out _ hbb3) (fun hSS1 => ?_)
            clear hKK K hSS0
            try simp only [Act.put, List.setIfInBounds_toArray, List.set_cons_zero, List.set_cons_succ]
            refine wpAnyH_take (i := 9) (oi := ⟨some 40, _, _, _, _, _⟩) (v := .bool false) rfl (by kernel_rfl) (by kernel_rfl) (by kernel_rfl) (fun _ _ _ h => h) (Or.inl ⟨by rfl, fun w' hSw => by go_simp⟩) (by assumption) ?_
            try simp only [Act.put, List.setIfInBounds_toArray, List.set_cons_zero, List.set_cons_succ]
            refine wpAnyH_done (by kernel_rfl) ?_ _
            have HB3 := Lib.hid (HX.out.trans (hbb3.mono HX.out.size))
            clear hb3 hbb3 HK
            go_wp2
            go_roundw
            case rel => exact ⟨k, by omega, rfl, by rw [HSU.out], HB3.out⟩
            case measure => show (((k : Int) - 1) + 1).toNat < ((k : Int) + 1).toNat; omega
        · obtain rfl : j = 0 := by omega
          have HFF : Hid (chF n zs g = F) := Lib.hid (by rw [← HF.out]; rfl)
          have hFb := chF_bd HO.out (by omega) g
          rw [HFF.out] at hFb
          obtain ⟨wo, rfl⟩ : ∃ wo : World, wo = wr := ⟨_, rfl⟩
          rw [show (((0 : Nat) : Int) - 1) = (-1 : Int) from rfl]
          go_wp2
          go_loopw [7, 50] (fun v i w2 => ∃ j : Nat, j ≤ zs.length ∧ i = .int .i64 j ∧ VecAt (chP n F g j) wo w2 v) (fun _ i _ => zs.length - (intOf i).toNat)
          case atStart => exact ⟨0, by omega, rfl, vec_made wo⟩
          case round =>
            obtain ⟨j, hj, rfl, av, cv, rfl, hown, hnx, hsz⟩ := hrel
            have hml : (chP n F g j).length ≤ 1048577 := by rw [chP_len]; omega
            have HSN := Lib.hid (chP_snoc n F g j)
            obtain ⟨L, hL⟩ : ∃ L, chP n F g j = L := ⟨_, rfl⟩
            rw [hL] at hown hml HSN ⊢
            have HL := Lib.hid hL
            have HO1 := Lib.hid hown
            have HN := Lib.hid hnx
            have HZ := Lib.hid hsz
            have HT2 := Lib.hid (HTr.out.keep hnx)
            clear t1 t1a t1b hL hown hnx hsz
            obtain ⟨t1, t1a, t1b⟩ := HT2.out
            by_cases hlt : j < zs.length
            · have hp := prod24 (j := j) (g := g) (by omega) ⟨by omega, by omega⟩
              obtain ⟨p, hpe⟩ : ∃ p : Int, (j : Int) * g = p := ⟨_, rfl⟩
              rw [hpe] at hp HSN
              have hw1 : wrap64 ((j : Int) * g) = p := by rw [hpe]; unfold wrap64; omega
              have hw2 : wrap64 (F + p) = F + p := by unfold wrap64; omega
              obtain ⟨t, ht⟩ : ∃ t, (F + p) % (n : Int) = t := ⟨_, rfl⟩
              have htb := em_bd (F + p) (show (1 : Int) ≤ (n : Int) by omega)
              rw [ht] at htb HSN
              have hq : Int.tmod (F + p) n = t := by rw [Int.tmod_eq_emod_of_nonneg (by omega)]; exact ht
              have hw3 : wrap64 t = t := by unfold wrap64; omega
              have hn0 : ¬ (n : Int) = 0 := by omega
              have HPE := Lib.hid hpe
              have HTE := Lib.hid ht
              clear hpe ht
              go_wp2_with (at_builtin; refine append_int rfl _ _ rfl wo.heap.size _ L _ _ HO1.out hml HZ.out _ rfl rfl rfl ?_; intro a' c' w' hown' hb'; have HO2 := Lib.hid hown'; have HX2 := Lib.hid hb'; clear hown' hb')
              go_roundw
              case rel =>
                refine ⟨j + 1, by omega, by go_num, ?_⟩
                rw [HSN.out]
                have := vec_snoc HN.out HZ.out HO2.out HX2.out
                simpa using this
              case measure => simp [intOf]; omega
            · have e : j = zs.length := by omega
              have HLE : Hid (chP n F g zs.length = L) := Lib.hid (by have := HL.out; rw [e] at this; exact this)
              clear e
              go_wp2
              go_ret
              rw [HFF.out, HLE.out]
              have b1 := HB.out.size
              have b2 := HX.out.size
              exact ⟨av, cv, rfl, own_base HO1.out (by omega), (HB.out.trans (HX.out.mono b1)).trans (HN.out.mono (by omega))⟩
end Go.Proofs.Ythcmpkhfimapgaa.Rhy
