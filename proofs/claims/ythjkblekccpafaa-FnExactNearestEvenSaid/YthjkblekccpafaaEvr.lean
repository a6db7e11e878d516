/-
  Helpers of the claims beside this text: NearestEven of the model.
-/
import Derived.Test.YthjkblekccpafaaEvn
import Derived.Test.YthjkblekccpafaaIvs
import Derived.Deep.DeepCutAuto
namespace Go.Proofs.Ythjkblekccpafaa.Rhy
open Go.RowKit
set_option linter.unusedVariables false
set_option linter.unusedSimpArgs false

/-- What a function that answers with a rhythm and a number leaves. -/
def RIPost (s : Int) (zs : List Int) (q : Int) (w : World) (e : Ending) (w' : World) : Prop :=
  ∃ a cap, e = .returned (.tuple #[rhy s a zs.length cap, .int .i64 q]) ∧ w'.ownsRow w.heap.size 3 1 (.slice a zs.length cap) zs.length (ints zs) ∧ Below w.heap.size w w'
/-- The nearest one among the first k + 1 rotations. -/
def nrP (n : Nat) (E zs : List Int) : Nat → List Int
  | 0 => E
  | k + 1 => if comZ (nrP n E zs k) zs < comZ (rotZ n E 1 ((k + 1 : Nat) : Int)) zs then rotZ n E 1 ((k + 1 : Nat) : Int) else nrP n E zs k
def nrZ (n : Nat) (zs : List Int) : List Int := nrP n (evZ zs.length n 0) zs (n - 1)
theorem nrP_yes {n : Nat} {E zs : List Int} {k : Nat} (h : 1 ≤ k) (hc : comZ (nrP n E zs (k - 1)) zs < comZ (rotZ n E 1 k) zs) : nrP n E zs k = rotZ n E 1 k := by
  obtain ⟨j, rfl⟩ : ∃ j, k = j + 1 := ⟨k - 1, by omega⟩
  rw [Nat.add_sub_cancel] at hc
  simp only [nrP]
  rw [if_pos hc]
theorem nrP_no {n : Nat} {E zs : List Int} {k : Nat} (h : 1 ≤ k) (hc : ¬ comZ (nrP n E zs (k - 1)) zs < comZ (rotZ n E 1 k) zs) : nrP n E zs k = nrP n E zs (k - 1) := by
  obtain ⟨j, rfl⟩ : ∃ j, k = j + 1 := ⟨k - 1, by omega⟩
  rw [Nat.add_sub_cancel] at hc ⊢
  simp only [nrP]
  rw [if_neg hc]
theorem nrP_ok {n : Nat} {E zs : List Int} (h : Ok n E) : ∀ k, Ok n (nrP n E zs k) := by
  intro k
  induction k with
  | zero => exact h
  | succ k ih =>
    simp only [nrP]
    split
    · exact rot_ok h.1 _ _
    · exact ih
noncomputable def nrB (s : Int) (zs : List Int) : Int := @ite _ (Ok s zs) (Classical.propDecidable _) ((comZ (nrZ s.toNat zs) zs : Nat) : Int) (-1)
theorem nrB_yes {n : Nat} {zs : List Int} (h : Ok n zs) : nrB n zs = (comZ (nrZ n zs) zs : Nat) := by simp [nrB, h]
theorem nrB_no {s : Int} {zs : List Int} (h : ¬ Ok s zs) : nrB s zs = -1 := by simp [nrB, h]
theorem map_rot6 (n : Nat) (a : Option Addr) (len cap : Nat) (zs : List Int) (u k : Int) (w : World) (h : IntsAt w a len zs) (hm : len ≤ 1048576) (ho : Ok n zs) (hu1 : -1000 ≤ u) (hu2 : u ≤ 1000) (hk1 : -1000 ≤ k) (hk2 : k ≤ 1000) :
    Calls Try.prog 52 #[rhy n a len cap, .int .i64 u, .int .i64 k] w (RhyPost n (rotZ n zs u k) w) := map_any n a len cap zs u k w h hm ho hu1 hu2 hk1 hk2
theorem com_q (s : Int) (a : Option Addr) (n ca : Nat) (xs : List Int) (t : Int) (b : Option Addr) (m cb : Nat) (ys : List Int) (q : Nat) (w : World) (ha : IntsAt w a n xs) (hn : n ≤ 1048576) (hb : IntsAt w b m ys) (hm : m ≤ 1048576) (hq : comZ xs ys = q) :
    Calls Try.prog 53 #[rhy s a n ca, rhy t b m cb] w fun e w' => e = .returned (.int .i64 (q : Nat)) ∧ Below w.heap.size w w' := by
  have := com0_spec s a n ca xs t b m cb ys w ha hn hb hm
  rwa [hq] at this
/-- A rhythm in a box. -/
def RhB (w : World) (b : Nat) (n : Nat) (a : Option Addr) (cap : Nat) (zs : List Int) : Prop := Box w b (.int .i64 n) (.slice a zs.length cap) 24 ∧ IntsAt w a zs.length zs
theorem RhB.keep {w w' : World} {b n : Nat} {a : Option Addr} {cap : Nat} {zs : List Int} (h : RhB w b n a cap zs) (hb : Below w.heap.size w w') : RhB w' b n a cap zs := ⟨h.1.keep hb h.1.lt, h.2.below hb⟩
def NrAt (n gb lo : Nat) (best : List Int) (W4 wr : World) : Prop :=
  ∃ av cv, Box wr gb (.int .i64 n) (.slice av best.length cv) 24 ∧ wr.ownsRow lo 3 1 (.slice av best.length cv) best.length (ints best) ∧ Below gb W4 wr ∧ gb + 1 ≤ wr.heap.size

set_option maxHeartbeats 2000000 in
set_option maxRecDepth 100000 in
theorem near_spec (s : Int) (a : Option Addr) (len cap : Nat) (zs : List Int) (w : World) (h : IntsAt w a len zs) (hm : zs.length ≤ 1048576) :
    Calls Try.prog 30 #[rhy s a len cap] w (RIPost (cS (Ok s zs) s) (cZ (Ok s zs) (nrZ s.toNat zs)) (nrB s zs) w) := by
  obtain rfl : len = zs.length := h.1.symm
  have HS := Lib.hid h
  clear h
  obtain ⟨W0, hW⟩ : ∃ W0, W0 = (w.alloc (.cells #[.int .i64 s, .slice a zs.length cap] 24)).alloc (.cells #[.int .i64 0, .slice none 0 0] 24) := ⟨_, rfl⟩
  have HW := Lib.hid hW
  have HB := Lib.hid (show Below w.heap.size w W0 by rw [hW]; exact bel2 w _ _)
  have HT := Lib.hid (show Box W0 w.heap.size (.int .i64 s) (.slice a zs.length cap) 24 by rw [hW]; exact (box_new w _ _ _).keep (bel1 _ _) (by simp))
  have HU := Lib.hid (show Box W0 (w.heap.size + 1) (.int .i64 0) (.slice none 0 0) 24 by
    rw [hW]
    have := box_new (w.alloc (.cells #[.int .i64 s, .slice a zs.length cap] 24)) (.int .i64 0) (.slice none 0 0) 24
    simpa using this)
  have hz0 := HU.out.lt
  have HSZ := Lib.hid (show W0.heap.size = w.heap.size + 2 by rw [hW]; simp)
  clear hW
  by_cases ho : Ok s zs
  · obtain ⟨n, rfl⟩ : ∃ n : Nat, s = n := ⟨s.toNat, by have := ho.1; omega⟩
    have HO := Lib.hid ho
    have hn1 : 1 ≤ n := by have := ho.1.1; omega
    have hn24 : n ≤ 24 := by have := ho.1.2; omega
    have hzl := ok_len ho
    have HEC : Hid (EvC (zs.length : Nat) n) := Lib.hid ⟨by omega, by omega, by omega, by have := ok_size ho; omega⟩
    clear ho
    obtain ⟨E, hE⟩ : ∃ E, evZ (zs.length : Nat) n 0 = E := ⟨_, rfl⟩
    have HEE := Lib.hid hE
    have HOE : Hid (Ok n E) := Lib.hid (by rw [← hE]; exact evZ_ok HEC.out)
    clear hE
    have hel : E.length ≤ 24 := ok_len HOE.out
    go_enter Try.func30, Try.ntmps30
    go_wp2_with fail
    rw [← HW.out]
    refine (ok_yes n a zs.length cap zs _ (HS.out.below HB.out) hm HO.out).mono ?_
    rintro e w1 ⟨rfl, hb1⟩
    have HT1 := Lib.hid (HT.out.keep hb1 (by omega))
    have HU1 := Lib.hid (HU.out.keep hb1 hz0)
    have HB1 := Lib.hid (HB.out.trans (hb1.mono HB.out.size))
    have hs1 := hb1.size
    obtain ⟨t0, t1, _, _⟩ := HT1.out.facts
    have lt1 := HT1.out.lt
    clear hb1
    go_wp2_with fail
    refine (even0_spec zs.length n 0 w1 HEC.out (by omega) (by omega)).mono ?_
    rintro e w2 ⟨ae, ce, rfl, hown, hb2⟩
    rw [HEE.out] at hown ⊢
    have hs2 := hb2.size
    obtain ⟨gb, hgb⟩ : ∃ gb, gb = w2.heap.size + 1 := ⟨_, rfl⟩
    obtain ⟨W4, hW4⟩ : ∃ W4, W4 = w2.alloc (.cells #[.int .i64 n, .slice ae E.length ce] 24) := ⟨_, rfl⟩
    have hz4 : W4.heap.size = gb := by rw [hW4, hgb]; simp
    have hb4 : Below w2.heap.size w2 W4 := by rw [hW4]; exact bel1 _ _
    have HT4 := Lib.hid ((HT1.out.keep hb2 (by omega)).keep hb4 (by omega))
    have HU4 := Lib.hid ((HU1.out.keep hb2 (by have := HSZ.out; omega)).keep hb4 (by have := HSZ.out; omega))
    have HE4 : Hid (Box W4 w2.heap.size (.int .i64 n) (.slice ae E.length ce) 24) := Lib.hid (by rw [hW4]; exact box_new _ _ _ _)
    have HIE : Hid (IntsAt W4 ae E.length E) := Lib.hid ((intsAt_own hown (ok_int' HOE.out)).below hb4)
    have HB4 : Hid (Below w.heap.size w W4) := Lib.hid ((HB1.out.trans (hb2.mono (by have := HSZ.out; omega))).trans (hb4.mono (by have := HSZ.out; omega)))
    have HIr : Hid (IntsAt W4 a zs.length zs) := Lib.hid (HS.out.below HB4.out)
    have HA : Hid (NrAt n gb W0.heap.size (nrP n E zs 0) W4 (W4.alloc (.cells #[.int .i64 n, .slice ae E.length ce] 24))) := Lib.hid ⟨ae, ce, by rw [← hz4]; exact box_new _ _ _ _, (own_base (own_below (own_below hown hb4) (bel1 _ _)) hs1), by rw [← hz4]; exact bel1 _ _, by simp; omega⟩
    have q0 : (w2.alloc (.cells #[.int .i64 n, .slice ae E.length ce] 24)).heap.size = gb := by rw [hgb]; simp
    clear hown hb2 hb4
    go_wp2_with fail
    go_upto_region 5 with fail
    rw [← hW4]
    rw [show w2.heap.size + 1 = gb from hgb.symm]
    have h2gb : w2.heap.size < gb := by omega
    have hW0gb : W0.heap.size ≤ gb := by omega
    clear hW4 q0 t0 t1
    obtain ⟨W5, hW5⟩ : ∃ W5, W5 = W4.alloc (.cells #[.int .i64 n, .slice ae E.length ce] 24) := ⟨_, rfl⟩
    rw [← hW5] at HA ⊢
    clear hW5
    obtain ⟨ge, hge⟩ : ∃ ge, ge = w2.heap.size := ⟨_, rfl⟩
    rw [← hge] at HE4 h2gb ⊢
    clear hge hgb
    go_wp2
    go_loopw [6] (fun i wr => ∃ k : Nat, 1 ≤ k ∧ k ≤ n ∧ i = .int .i64 k ∧ NrAt n gb W0.heap.size (nrP n E zs (k - 1)) W4 wr) (fun i _ => n - (intOf i).toNat)
    case atStart => exact ⟨1, by omega, by omega, rfl, HA.out⟩
    case round =>
      clear HA
      obtain ⟨k, hk1, hk, rfl, av, cv, hG, hown, hbel, hsz⟩ := hrel
      obtain ⟨B, hB⟩ : ∃ B, nrP n E zs (k - 1) = B := ⟨_, rfl⟩
      rw [hB] at hG hown
      have HBB := Lib.hid hB
      have HOB : Hid (Ok n B) := Lib.hid (by rw [← hB]; exact nrP_ok HOE.out _)
      clear hB
      have hbl : B.length ≤ 24 := ok_len HOB.out
      have hbel' : Below W4.heap.size W4 wr := by rw [hz4]; exact hbel
      have HO2 := Lib.hid hown
      have HBE := Lib.hid hbel
      have HTr := Lib.hid (HT4.out.keep hbel' HT4.out.lt)
      have HUr := Lib.hid (HU4.out.keep hbel' HU4.out.lt)
      have HEr := Lib.hid (HE4.out.keep hbel' HE4.out.lt)
      have HGr := Lib.hid hG
      have HIEr := Lib.hid (HIE.out.below hbel')
      have HIrr := Lib.hid (HIr.out.below hbel')
      have HBw : Hid (Below w.heap.size w wr) := Lib.hid (HB4.out.trans (hbel'.mono HB4.out.size))
      have hszw := hbel'.size
      clear hG hown hbel hbel'
      obtain ⟨t0, t1, _, _⟩ := HTr.out.facts
      obtain ⟨e0, e1, _, _⟩ := HEr.out.facts
      have ltr := HTr.out.lt
      have lte := HEr.out.lt
      by_cases hlt : k < n
      · obtain ⟨X, hX⟩ : ∃ X, rotZ n E 1 (k : Int) = X := ⟨_, rfl⟩
        have HXE := Lib.hid hX
        have HOX : Hid (Ok n X) := Lib.hid (by rw [← hX]; exact rot_ok HOE.out.1 _ _)
        clear hX
        have hxl : X.length ≤ 24 := ok_len HOX.out
        obtain ⟨cx, hcx⟩ : ∃ q, comZ X zs = q := ⟨_, rfl⟩
        have HCX := Lib.hid hcx
        obtain ⟨cb, hcb⟩ : ∃ q, comZ B zs = q := ⟨_, rfl⟩
        have HCB := Lib.hid hcb
        clear hcx hcb
        go_wp2_with fail
        refine (map_rot6 n ae E.length ce E 1 k wr HIEr.out (by omega) HOE.out (by omega) (by omega) (by omega) (by omega)).mono ?_
        rintro e w3 ⟨b2, c2, rfl, hown2, hb3⟩
        rw [HXE.out] at hown2 ⊢
        have hs3 := hb3.size
        obtain ⟨W2, hW2⟩ : ∃ W2, W2 = w3.alloc (.cells #[.int .i64 n, .slice b2 X.length c2] 24) := ⟨_, rfl⟩
        have hbw : Below w3.heap.size w3 W2 := by rw [hW2]; exact bel1 _ _
        have HOX2 : Hid (W2.ownsRow wr.heap.size 3 1 (.slice b2 X.length c2) X.length (ints X)) := Lib.hid (own_below hown2 hbw)
        have HX6 : Hid (RhB W2 w3.heap.size n b2 c2 X) := Lib.hid ⟨by rw [hW2]; exact box_new _ _ _ _, (intsAt_own hown2 (ok_int' HOX.out)).below hbw⟩
        have HR6 : Hid (RhB W2 w.heap.size n a cap zs) := Lib.hid ⟨(HTr.out.keep hb3 ltr).keep hbw (by omega), (HIrr.out.below hb3).below hbw⟩
        have HG6 : Hid (RhB W2 gb n av cv B) := Lib.hid ⟨(HGr.out.keep hb3 (by omega)).keep hbw (by omega), ((intsAt_own HO2.out (ok_int' HOB.out)).below hb3).below hbw⟩
        have HB6 : Hid (Below gb W4 W2) := Lib.hid ((HBE.out.trans (hb3.mono (by omega))).trans (hbw.mono (by omega)))
        have HO6 : Hid (W2.ownsRow W0.heap.size 3 1 (.slice av B.length cv) B.length (ints B)) := Lib.hid (own_below (own_below HO2.out hb3) hbw)
        have hs4 := hbw.size
        have q3 : w3.cell? ⟨ge, 0, none⟩ = w3.cell? ⟨ge, 0, none⟩ := rfl
        clear hown2 hb3 hbw q3 t0 t1 e0 e1
        go_upto_region 9 with fail
        rw [← hW2]
        clear hW2
        have HK : Hid (∀ W' : World, Below W2.heap.size W2 W' → W'.cell? ⟨w3.heap.size, 0, none⟩ = some (.int .i64 (n : Nat)) ∧ W'.cell? ⟨w3.heap.size, 1, none⟩ = some (.slice b2 X.length c2) ∧ W'.cell? ⟨w.heap.size, 0, none⟩ = some (.int .i64 (n : Nat)) ∧ W'.cell? ⟨w.heap.size, 1, none⟩ = some (.slice a zs.length cap) ∧ W'.cell? ⟨gb, 0, none⟩ = some (.int .i64 (n : Nat)) ∧ W'.cell? ⟨gb, 1, none⟩ = some (.slice av B.length cv) ∧ Below W2.heap.size W2 W') :=
          Lib.hid (fun W' hW => ⟨(HX6.out.keep hW).1.facts.1, (HX6.out.keep hW).1.facts.2.1, (HR6.out.keep hW).1.facts.1, (HR6.out.keep hW).1.facts.2.1, (HG6.out.keep hW).1.facts.1, (HG6.out.keep hW).1.facts.2.1, hW⟩)
        have HIx : Hid (∀ W' : World, Below W2.heap.size W2 W' → IntsAt W' b2 X.length X) := Lib.hid (fun W' hW => (HX6.out.keep hW).2)
        have HIr : Hid (∀ W' : World, Below W2.heap.size W2 W' → IntsAt W' a zs.length zs) := Lib.hid (fun W' hW => (HR6.out.keep hW).2)
        have HIb : Hid (∀ W' : World, Below W2.heap.size W2 W' → IntsAt W' av B.length B) := Lib.hid (fun W' hW => (HG6.out.keep hW).2)
        refine wp_region_held_drew (S := fun W' => W'.cell? ⟨w3.heap.size, 0, none⟩ = some (.int .i64 (n : Nat)) ∧ W'.cell? ⟨w3.heap.size, 1, none⟩ = some (.slice b2 X.length c2) ∧ W'.cell? ⟨w.heap.size, 0, none⟩ = some (.int .i64 (n : Nat)) ∧ W'.cell? ⟨w.heap.size, 1, none⟩ = some (.slice a zs.length cap) ∧ W'.cell? ⟨gb, 0, none⟩ = some (.int .i64 (n : Nat)) ∧ W'.cell? ⟨gb, 1, none⟩ = some (.slice av B.length cv) ∧ Below W2.heap.size W2 W') (by kernel_rfl) (HK.out _ (Below.refl _ _).drew) (fun hSS0 => ?_)
        refine wpAnyH_take (i := 0) (oi := ⟨some 28, _, _, _, _, _⟩) (v := .agg #[.int .i64 (n : Nat), .slice b2 X.length c2]) rfl (by kernel_rfl) (by kernel_rfl) (by kernel_rfl) (fun _ _ _ h => h) (Or.inl ⟨by rfl, fun w hSw => by obtain ⟨q1, q2, _⟩ := hSw; go_simp⟩) (by assumption) ?_
        try simp only [Act.put, List.setIfInBounds_toArray, List.set_cons_zero, List.set_cons_succ]
        refine wpAnyH_take (i := 1) (oi := ⟨some 29, _, _, _, _, _⟩) (v := .agg #[.int .i64 (n : Nat), .slice a zs.length cap]) rfl (by kernel_rfl) (by kernel_rfl) (by kernel_rfl) (fun _ _ _ h => h) (Or.inl ⟨by rfl, fun w hSw => by obtain ⟨_, _, q1, q2, _⟩ := hSw; go_simp⟩) (by assumption) ?_
        try simp only [Act.put, List.setIfInBounds_toArray, List.set_cons_zero, List.set_cons_succ]
        refine wpAnyH_take (i := 3) (oi := ⟨some 31, _, _, _, _, _⟩) (v := .agg #[.int .i64 (n : Nat), .slice av B.length cv]) rfl (by kernel_rfl) (by kernel_rfl) (by kernel_rfl) (fun _ _ _ h => h) (Or.inl ⟨by rfl, fun w hSw => by obtain ⟨_, _, _, _, q1, q2, _⟩ := hSw; go_simp⟩) (by assumption) ?_
        try simp only [Act.put, List.setIfInBounds_toArray, List.set_cons_zero, List.set_cons_succ]
        refine wpAnyH_take (i := 4) (oi := ⟨some 32, _, _, _, _, _⟩) (v := .agg #[.int .i64 (n : Nat), .slice a zs.length cap]) rfl (by kernel_rfl) (by kernel_rfl) (by kernel_rfl) (fun _ _ _ h => h) (Or.inl ⟨by rfl, fun w hSw => by obtain ⟨_, _, q1, q2, _⟩ := hSw; go_simp⟩) (by assumption) ?_
        try simp only [Act.put, List.setIfInBounds_toArray, List.set_cons_zero, List.set_cons_succ]
        refine wpAnyH_ready (rs := [2]) (by kernel_rfl) (by simp) ?_
        refine AllReadyH.cons rfl (fun K hKK => ?_) AllReadyH.nil
        go_simp
        go_at_call 53
        refine (com_q n b2 X.length c2 X n a zs.length cap zs cx _ (HIx.out _ (Below.refl _ _).drew) (by omega) (HIr.out _ (Below.refl _ _).drew) hm HCX.out).mono ?_
        rintro e wk1 ⟨rfl, hc1⟩
        have hbb1 : Below W2.heap.size W2 wk1 := (Below.refl _ _).drew.trans hc1
        clear hc1
        refine hKK.out _ _ (HK.out _ hbb1) (fun hSS1 => ?_)
        clear hKK K hSS0
        try simp only [Act.put, List.setIfInBounds_toArray, List.set_cons_zero, List.set_cons_succ]
        refine wpAnyH_ready (rs := [5]) (by kernel_rfl) (by simp) ?_
        refine AllReadyH.cons rfl (fun K hKK => ?_) AllReadyH.nil
        go_simp
        go_at_call 53
        refine (com_q n av B.length cv B n a zs.length cap zs cb _ (HIb.out _ hbb1) (by omega) (HIr.out _ hbb1) hm HCB.out).mono ?_
        rintro e wk2 ⟨rfl, hc2⟩
        have hbb2 : Below W2.heap.size W2 wk2 := hbb1.trans (hc2.mono hbb1.size)
        clear hc2
        refine hKK.out _ _ (HK.out _ hbb2) (fun hSS2 => ?_)
        clear hKK K hbb1 hSS1
        try simp only [Act.put, List.setIfInBounds_toArray, List.set_cons_zero, List.set_cons_succ]
        refine wpAnyH_take (i := 6) (oi := ⟨some 34, _, _, _, _, _⟩) (v := .bool (decide ((cb : Int) < (cx : Int)))) rfl (by kernel_rfl) (by kernel_rfl) (by kernel_rfl) (fun _ _ _ h => h) (Or.inl ⟨by rfl, fun w hSw => by go_simp⟩) (by assumption) ?_
        try simp only [Act.put, List.setIfInBounds_toArray, List.set_cons_zero, List.set_cons_succ]
        refine wpAnyH_done (by kernel_rfl) ?_ _
        clear HK
        have HXk := Lib.hid (HX6.out.keep hbb2)
        have HGk := Lib.hid (HG6.out.keep hbb2)
        have HOk := Lib.hid (own_below HOX2.out hbb2)
        have HOb := Lib.hid (own_below HO6.out hbb2)
        have HBk := Lib.hid (HB6.out.trans (hbb2.mono (by omega)))
        have hsk := hbb2.size
        clear hbb2 hSS2 HIx HIr HIb
        by_cases hc : cb < cx
        · have hcd : decide ((cb : Int) < (cx : Int)) = true := by simp; omega
          have HN : Hid (nrP n E zs k = X) := Lib.hid (by rw [nrP_yes hk1 (by rw [HBB.out, HXE.out, HCX.out, HCB.out]; exact hc), HXE.out])
          obtain ⟨x0, x1, x2, x3⟩ := HXk.out.1.facts
          obtain ⟨g0, g1, g2, g3⟩ := HGk.out.1.facts
          have ltx := HXk.out.1.lt
          have ltg := HGk.out.1.lt
          go_wp2
          go_roundw
          case rel =>
            refine ⟨k + 1, by omega, by omega, by go_num, ?_⟩
            rw [Nat.add_sub_cancel, HN.out]
            exact ⟨b2, c2, (HGk.out.1.set0 _).set1 _, own_base (ownsRow_setCell_below (ownsRow_setCell_below HOk.out (by show gb < wr.heap.size; omega) _) (by show gb < wr.heap.size; omega) _) (by omega), (HBk.out.setCell (by show gb ≤ gb; omega) _).setCell (by show gb ≤ gb; omega) _, by simp; omega⟩
          case measure => simp [intOf]; omega
        · have hcd : decide ((cb : Int) < (cx : Int)) = false := by simp; omega
          have HN : Hid (nrP n E zs k = B) := Lib.hid (by rw [nrP_no hk1 (by rw [HBB.out, HXE.out, HCX.out, HCB.out]; exact hc), HBB.out])
          go_wp2
          go_roundw
          case rel =>
            refine ⟨k + 1, by omega, by omega, by go_num, ?_⟩
            rw [Nat.add_sub_cancel, HN.out]
            exact ⟨av, cv, HGk.out.1, HOb.out, HBk.out, by omega⟩
          case measure => simp [intOf]; omega
      · have HZ : Hid (nrZ n zs = B) := Lib.hid (by unfold nrZ; rw [HEE.out, ← HBB.out, show k = n by omega])
        obtain ⟨cb, hcb⟩ : ∃ q, comZ B zs = q := ⟨_, rfl⟩
        have HCB := Lib.hid hcb
        have HNB : Hid (nrB n zs = (cb : Nat)) := Lib.hid (by rw [nrB_yes HO.out, HZ.out, hcb])
        clear hcb
        have HIB := Lib.hid (intsAt_own HO2.out (ok_int' HOB.out))
        obtain ⟨g0, g1, g2, g3⟩ := HGr.out.facts
        obtain ⟨u0, u1, u2, u3⟩ := HUr.out.facts
        have ltg := HGr.out.lt
        have ltu := HUr.out.lt
        go_wp2_with fail
        go_region_with (go_at_call 53; refine (com_q n av B.length cv B n a zs.length cap zs cb _ (HIB.out.below (Below.refl _ _).drew) (by omega) (HIrr.out.below (Below.refl _ _).drew) hm HCB.out).mono ?_; rintro e w5 ⟨rfl, hb5⟩; have hx5 := HUr.out.keep ((Below.refl _ _).drew.trans hb5) HUr.out.lt; have HU5 := Lib.hid hx5; obtain ⟨v0, v1, v2, v3⟩ := hx5.facts; have ltv := hx5.lt; have hg5 := HGr.out.keep ((Below.refl _ _).drew.trans hb5) HGr.out.lt; obtain ⟨k0, k1, k2, k3⟩ := hg5.facts; have ltk := hg5.lt; clear hg5; have HB5 := Lib.hid hb5; clear hb5 hx5)
        all_goals
          go_wp2
          refine bodyPost_ret (v := .tuple #[rhy n av B.length cv, .int .i64 (cb : Nat)]) (by simp [results, Try.results30, go_sem, *]) rfl ?_
          rw [cS_yes HO.out, cZ_yes HO.out, Int.toNat_natCast, HZ.out, HNB.out]
          exact ⟨av, cv, rfl, own_base (ownsRow_setCell_below (ownsRow_setCell_below (own_below HO2.out ((Below.refl _ _).drew.trans HB5.out)) (by show w.heap.size + 1 < W0.heap.size; omega) _) (by show w.heap.size + 1 < W0.heap.size; omega) _) HB.out.size, ((HBw.out.trans (((Below.refl _ _).drew.trans HB5.out).mono HBw.out.size)).setCell (by simp) _).setCell (by simp) _⟩
  · have HO := Lib.hid ho
    clear ho
    go_enter Try.func30, Try.ntmps30
    go_wp2_with fail
    rw [← HW.out]
    refine (ok_no s a zs.length cap zs _ (HS.out.below HB.out) hm HO.out).mono ?_
    rintro e w1 ⟨rfl, hb1⟩
    have HU1 := Lib.hid (HU.out.keep hb1 hz0)
    have HB1 := Lib.hid (HB.out.trans (hb1.mono HB.out.size))
    obtain ⟨u0, u1, u2, u3⟩ := HU1.out.facts
    have ltu := HU1.out.lt
    clear hb1
    go_wp2
    refine bodyPost_ret (v := .tuple #[rhy 0 none 0 0, .int .i64 (-1)]) (by simp [results, Try.results30, go_sem, *]) rfl ?_
    rw [cS_no HO.out, cZ_no HO.out, nrB_no HO.out]
    exact ⟨none, 0, rfl, World.ownsRow_nil _ _ _ _, (HB1.out.setCell (by simp) _).setCell (by simp) _⟩
end Go.Proofs.Ythjkblekccpafaa.Rhy
