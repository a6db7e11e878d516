/-
  Helpers of the claims beside this text: a tiling drawn from bytes (the model's MakeTile).
-/
import Derived.Test.YtldpikcgeijkpaaFnd
import Derived.Test.YtldpikcgeijkpaaDrw
import Derived.Deep.RegionHeld3
namespace Go.Proofs.Ytldpikcgeijkpaa.Rhy
open Go.RowKit Cur
set_option linter.unusedVariables false
set_option linter.unusedSimpArgs false
set_option maxRecDepth 100000

theorem below_big (m : Nat) (B g : Nat) (a : Option Addr) (len cap : Nat) (w : World) (hB : B ≤ g) (hw : B ≤ w.heap.size) (hc : CurAt B g a len cap w) (hb : BytesAt B w a len) (h1 : 257 ≤ m) (h2 : m ≤ 5000) :
    Calls Try.prog 79 #[.pointer (some ⟨g, 0, none⟩), .int .i64 m] w (Drawn ((m : Int) - 1) B g a len cap w) := by
  have HBY := Lib.hid (fun (W : World) (hW : w.grownBy W (some g)) (hC : CurAt B g a len cap W) => byte_any B g a len cap W hC (hb.below (below_of_own hB hw hW)))
  have HC0 := Lib.hid hc
  clear hc hb
  go_enter Try.func79, Try.ntmps79
  go_wp2_with fail
  refine (HBY.out w (World.grownBy.refl _ _) HC0.out).mono ?_
  rintro e w1 ⟨x, rfl, hx0, hx1, hc1, hg1⟩
  have G1 := Lib.hid hg1
  have C1 := Lib.hid hc1
  clear hc1 hg1
  go_wp2_with fail
  refine (HBY.out w1 G1.out C1.out).mono ?_
  rintro e w2 ⟨y, rfl, hy0, hy1, hc2, hg2⟩
  have G2 := Lib.hid (grown_trans G1.out hg2)
  have C2 := Lib.hid hc2
  clear hc2 hg2
  go_wp2_with fail
  refine (HBY.out w2 G2.out C2.out).mono ?_
  rintro e w3 ⟨z, rfl, hz0, hz1, hc3, hg3⟩
  have G3 := Lib.hid (grown_trans G2.out hg3)
  have C3 := Lib.hid hc3
  clear hc3 hg3
  go_wp2_with fail
  refine (HBY.out w3 G3.out C3.out).mono ?_
  rintro e w4 ⟨v, rfl, hv0, hv1, hc4, hg4⟩
  have G4 := Lib.hid (grown_trans G3.out hg4)
  have C4 := Lib.hid hc4
  clear hc4 hg4
  obtain ⟨T, hT⟩ : ∃ T, x * 16777216 + y * 65536 + z * 256 + v = T := ⟨_, rfl⟩
  have hT0 : 0 ≤ T := by omega
  have hT1 : T ≤ 4294967295 := by omega
  have hm0 : ((m : Int) == 0) = false := by rw [beq_eq_false_iff_ne]; omega
  have hr0 := Int.emod_nonneg T (show (m : Int) ≠ 0 by omega)
  have hr1 := Int.emod_lt_of_pos T (show (0 : Int) < m by omega)
  go_wp2
  go_ret
  exact ⟨_, rfl, hr0, by omega, C4.out, G4.out⟩
theorem below_all (m : Nat) (B g : Nat) (a : Option Addr) (len cap : Nat) (w : World) (hB : B ≤ g) (hw : B ≤ w.heap.size) (hc : CurAt B g a len cap w) (hb : BytesAt B w a len) (h1 : 1 ≤ m) (h2 : m ≤ 5000) :
    Calls Try.prog 79 #[.pointer (some ⟨g, 0, none⟩), .int .i64 m] w (Drawn ((m : Int) - 1) B g a len cap w) := by
  by_cases h : m ≤ 256
  · exact below_any m B g a len cap w hc hb h1 h
  · exact below_big m B g a len cap w hB hw hc hb (by omega) h2
theorem ints_grown {w w' : World} {g : Nat} {a : Option Addr} {len : Nat} {zs : List Int} (hg : w.grownBy w' (some g)) (hi : IntsAt w a len zs) (hne : 0 < len → ∀ b off, a = some ⟨b, off, none⟩ → b ≠ g) : IntsAt w' a len zs := by
  refine ⟨hi.1, hi.2.1, fun hp => ?_⟩
  obtain ⟨b, off, rfl, hlt, hc⟩ := hi.2.2 hp
  refine ⟨b, off, rfl, Nat.lt_of_lt_of_le hlt hg.size, fun j z hj => ?_⟩
  rw [World.cell?_of_block (hg.block b hlt (fun e => hne hp b off rfl (by simpa using e)))]
  exact hc j z hj
theorem box_grown {w w' : World} {g b : Nat} {v0 v1 : Value} {t : TypeId} (hg : w.grownBy w' (some g)) (h : Box w b v0 v1 t) (hne : b ≠ g) : Box w' b v0 v1 t := (hg.block b h.lt (by simpa using hne)).trans h
theorem gb_of {w w' : World} {row : Option Nat} (hb : Below w.heap.size w w') : w.grownBy w' row := ⟨hb.os, hb.tape, hb.output, hb.size, fun k hk _ => hb.block k hk⟩
theorem ofZ_okN {n : Nat} {l : List Int} (h1 : 1 ≤ n) (h2 : n ≤ 24) : Ok (n : Int) (ofZ n l) := by
  refine ok_of (by omega) (by omega) (ofZ_sorted n l) (fun z hz => ?_)
  have := ofZ_mem.1 hz
  omega
theorem ofZ_pos {n : Nat} {l : List Int} (h1 : 1 ≤ n) (h : (0 : Int) ∈ l) : 1 ≤ (ofZ n l).length := by
  have : (0 : Int) ∈ ofZ n l := ofZ_mem.2 ⟨⟨by omega, by omega⟩, h⟩
  rcases hl : ofZ n l with _ | ⟨x, m⟩
  · rw [hl] at this; cases this
  · simp
theorem two_grown {w w' : World} {g b : Nat} {v0 v1 : Value} (hg : w.grownBy w' (some g)) (h : Two w b v0 v1) (hne : b ≠ g) : Two w' b v0 v1 := by
  have e := hg.block b h.1 (by simpa using hne)
  exact ⟨Nat.lt_of_lt_of_le h.1 hg.size, by rw [World.cell?_of_block e]; exact h.2.1, by rw [World.cell?_of_block e]; exact h.2.2⟩
theorem two_set2' {W : World} {b g : Nat} {v0 v1 x y : Value} (h : Two W b v0 v1) (hg : g ≠ b) : Two ((W.setCell ⟨g, 0, none⟩ x).setCell ⟨g, 1, none⟩ y) b v0 v1 :=
  h.within (((Within.refl g (g + 1) W).setCell g (by omega) 0 x).setCell g (by omega) 1 y) (by omega)
theorem ints_set2 {w : World} {g : Nat} {a : Option Addr} {len : Nat} {zs : List Int} {x y : Value} (hi : IntsAt w a len zs) (hne : 0 < len → ∀ b off, a = some ⟨b, off, none⟩ → b ≠ g) : IntsAt ((w.setCell ⟨g, 0, none⟩ x).setCell ⟨g, 1, none⟩ y) a len zs := by
  refine ⟨hi.1, hi.2.1, fun hp => ?_⟩
  obtain ⟨b, off, rfl, hlt, hc⟩ := hi.2.2 hp
  have hb := hne hp b off rfl
  refine ⟨b, off, rfl, by simpa using hlt, fun j z hj => ?_⟩
  have W := ((Within.refl g (g + 1) w).setCell g (by omega) 0 x).setCell g (by omega) 1 y
  rw [W.cell hlt (by omega)]
  exact hc j z hj
theorem cur_set2 {B g b : Nat} {a : Option Addr} {len cap : Nat} {w : World} {x y : Value} (h : CurAt B g a len cap w) (hne : g ≠ b) : CurAt B g a len cap ((w.setCell ⟨b, 0, none⟩ x).setCell ⟨b, 1, none⟩ y) := by
  obtain ⟨h1, k, z, g1, g2, g3, hr⟩ := h
  exact ⟨h1, k, z, g1, g2, g3, by rw [heap_setCell_other _ _ _ _ hne, heap_setCell_other _ _ _ _ hne]; exact hr⟩
theorem grown_set2 {w W : World} {row : Option Nat} {b : Nat} {x y : Value} (h : w.grownBy W row) (hb : w.heap.size ≤ b) : w.grownBy ((W.setCell ⟨b, 0, none⟩ x).setCell ⟨b, 1, none⟩ y) row := by
  obtain ⟨h1, h2, h3, h4, h5⟩ := h
  exact ⟨h1, h2, h3, by simpa using h4, fun k hk hn => by rw [heap_setCell_other _ _ _ _ (show k ≠ b by omega), heap_setCell_other _ _ _ _ (show k ≠ b by omega)]; exact h5 k hk hn⟩
theorem part_mem {n : Nat} {X Y : List Int} (hn : 1 ≤ n ∧ n ≤ 24) (hY : Y ∈ partL n X) : Ok (n : Int) Y ∧ tilC n X Y := by
  unfold partL at hY
  rw [List.mem_filter] at hY
  refine ⟨bars_ok hn (by omega) (ok_of (by omega) (by omega) (List.pairwise_singleton _ _) (fun z hz => by simp at hz; omega)) (fun x hx => by simp at hx; omega) hY.1, (tile_iff (by omega)).1 hY.2⟩
theorem pick_any (zs : List Int) (la : Option Addr) (lc : Nat) (B g : Nat) (a : Option Addr) (len cap : Nat) (w : World) (hB : B ≤ g) (hw : B ≤ w.heap.size) (hc : CurAt B g a len cap w) (hb : BytesAt B w a len) (hl : IntsAt w la zs.length zs) (h1 : 1 ≤ zs.length) (h2 : zs.length ≤ 5000)
    (hne : ∀ b off, la = some ⟨b, off, none⟩ → b ≠ g) :
    Calls Try.prog 78 #[.pointer (some ⟨g, 0, none⟩), .slice la zs.length lc] w fun e w' => ∃ z, z ∈ zs ∧ e = .returned (.int .i64 z) ∧ CurAt B g a len cap w' ∧ w.grownBy w' (some g) := by
  have HB := Lib.hid (below_all zs.length B g a len cap w hB hw hc hb h1 h2)
  have HL := Lib.hid hl
  clear hc hb hl
  go_enter Try.func78, Try.ntmps78
  go_wp2_with fail
  refine HB.out.mono ?_
  rintro e w1 ⟨r, rfl, hr0, hr1, hc1, hg1⟩
  obtain ⟨k, rfl⟩ : ∃ k : Nat, r = k := ⟨r.toNat, by omega⟩
  obtain ⟨b1, off, z, rfl, hb1, hs, hcl, hz1, hz2⟩ := (ints_grown hg1 HL.out (fun _ => hne)).at (k := k) (by omega)
  have hmem := List.mem_of_getElem? hs
  have HC := Lib.hid (And.intro hc1 hg1)
  clear hs hc1 hg1 HL
  go_wp2
  go_ret
  exact ⟨z, hmem, rfl, HC.out.1, HC.out.2⟩

/-- What a function hands back that draws a tiling. -/
def Tiled (B g : Nat) (a : Option Addr) (len cap : Nat) (w : World) (e : Ending) (w' : World) : Prop :=
  ∃ (n : Nat) (pa : Option Addr) (ca : Nat) (xs : List Int) (pb : Option Addr) (cb : Nat) (ys : List Int), e = .returned (.tuple #[rhy n pa xs.length ca, rhy n pb ys.length cb]) ∧
    1 ≤ n ∧ n ≤ 12 ∧ Ok (n : Int) xs ∧ Ok (n : Int) ys ∧ 1 ≤ xs.length ∧ 1 ≤ ys.length ∧ tilC n xs ys ∧ IntsAt w' pa xs.length xs ∧ IntsAt w' pb ys.length ys ∧ (∀ b off, pa = some ⟨b, off, none⟩ → w.heap.size ≤ b) ∧ (∀ b off, pb = some ⟨b, off, none⟩ → w.heap.size ≤ b) ∧ CurAt B g a len cap w' ∧ w.grownBy w' (some g)

theorem ones_til : ∀ n : Nat, n < 13 → 1 ≤ n → ofZ n [0] = [0] ∧ 1 ≤ (evZ (n : Int) n 0).length ∧ ∀ x : Nat, x < n → (sumL (n : Int) (ofZ n [0]) (evZ (n : Int) n 0)).count (x : Int) = 1 := by decide
set_option maxHeartbeats 20000000 in
theorem tile_any (B g : Nat) (a : Option Addr) (len cap : Nat) (w : World) (hB : B ≤ g) (hw : B ≤ w.heap.size) (hc : CurAt B g a len cap w) (hb : BytesAt B w a len) :
    Calls Try.prog 52 #[.pointer (some ⟨g, 0, none⟩)] w (Tiled B g a len cap w) := by
  have HBY := Lib.hid (fun (W : World) (hW : w.grownBy W (some g)) => hb.below (below_of_own hB hw hW))
  have hgl := hc.lt.2
  have HC0 := Lib.hid hc
  clear hc hb
  obtain ⟨W1, hW⟩ : ∃ W1, W1 = (w.alloc (.cells #[.int .i64 0, .slice none 0 0] 25)).alloc (.cells #[.int .i64 0, .slice none 0 0] 25) := ⟨_, rfl⟩
  have HW := Lib.hid hW
  have B1 := Lib.hid (show Below w.heap.size w W1 by rw [hW]; exact bel2 w _ _)
  have U1 := Lib.hid (show Box W1 w.heap.size (.int .i64 0) (.slice none 0 0) 25 by rw [hW]; exact (box_new w _ _ _).keep (bel1 _ _) (by simp))
  have V1 := Lib.hid (show Box W1 (w.heap.size + 1) (.int .i64 0) (.slice none 0 0) 25 by
    rw [hW]
    have := box_new (w.alloc (.cells #[.int .i64 0, .slice none 0 0] 25)) (.int .i64 0) (.slice none 0 0) 25
    simpa using this)
  have hz1 : W1.heap.size = w.heap.size + 2 := by rw [hW]; simp
  clear hW
  obtain ⟨W2, hW2⟩ : ∃ W2, W2 = W1.alloc (.cells #[.int .i64 1, .int .i64 2, .int .i64 4, .int .i64 6, .int .i64 8, .int .i64 9, .int .i64 12] 3) := ⟨_, rfl⟩
  have HW2 := Lib.hid hW2
  have B2 := Lib.hid (show Below w.heap.size w W2 by rw [hW2]; exact B1.out.trans ((bel1 W1 _).mono B1.out.size))
  have hz2 : W2.heap.size = w.heap.size + 3 := by rw [hW2]; simp; omega
  have U2 := Lib.hid (show Box W2 w.heap.size (.int .i64 0) (.slice none 0 0) 25 by rw [hW2]; exact U1.out.keep (bel1 _ _) U1.out.lt)
  have V2 := Lib.hid (show Box W2 (w.heap.size + 1) (.int .i64 0) (.slice none 0 0) 25 by rw [hW2]; exact V1.out.keep (bel1 _ _) V1.out.lt)
  have L2 : Hid (IntsAt W2 (some ⟨w.heap.size + 2, 0, none⟩) [1, 2, 4, 6, 8, 9, 12].length [1, 2, 4, 6, 8, 9, 12]) := Lib.hid ⟨rfl, (fun z hz => by simp at hz; omega), fun _ => ⟨w.heap.size + 2, 0, rfl, by omega, fun j z hj => by
    rw [hW2, ← hz1]
    match j, hj with
    | 0, hj => simp at hj; subst hj; simp
    | 1, hj => simp at hj; subst hj; simp
    | 2, hj => simp at hj; subst hj; simp
    | 3, hj => simp at hj; subst hj; simp
    | 4, hj => simp at hj; subst hj; simp
    | 5, hj => simp at hj; subst hj; simp
    | 6, hj => simp at hj; subst hj; simp
    | (j + 7), hj => simp at hj⟩⟩
  clear hW2
  go_enter Try.func52, Try.ntmps52
  go_wp2_with fail
  rw [← HW.out]
  go_wp2_with fail
  rw [← HW2.out]
  refine (pick_any [1, 2, 4, 6, 8, 9, 12] (some ⟨w.heap.size + 2, 0, none⟩) 7 B g a len cap W2 hB (by omega) (cur_below HC0.out B2.out hgl) (HBY.out W2 (gb_of B2.out)) L2.out (by simp) (by simp) (fun b off e => by simp at e; omega)).mono ?_
  rintro e w3 ⟨z, hz, rfl, hc3, hg3⟩
  obtain ⟨n, rfl, hn1, hn2⟩ : ∃ n : Nat, z = n ∧ 1 ≤ n ∧ n ≤ 12 := ⟨z.toNat, by simp at hz; omega, by simp at hz; omega, by simp at hz; omega⟩
  have G3 := Lib.hid (grown_trans (gb_of B2.out) hg3)
  have C3 := Lib.hid hc3
  have U3 := Lib.hid (box_grown hg3 U2.out (by omega))
  have V3 := Lib.hid (box_grown hg3 V2.out (by omega))
  have hz3 : w.heap.size + 3 ≤ w3.heap.size := by have := hg3.size; omega
  clear hz hc3 hg3
  go_wp2
  go_loopw [5] (fun iv wr => ∃ i : Nat, i ≤ 6 ∧ iv = .int .i64 i ∧ CurAt B g a len cap wr ∧ w3.grownBy wr (some g)) (fun iv _ => 6 - (intOf iv).toNat)
  case atStart => exact ⟨0, by omega, rfl, C3.out, World.grownBy.refl _ _⟩
  case round =>
    obtain ⟨i, hi, rfl, hcr, hgr⟩ := hrel
    have CR := Lib.hid hcr
    have GR := Lib.hid hgr
    have GW := Lib.hid (grown_trans G3.out hgr)
    have hzr : w3.heap.size ≤ wr.heap.size := hgr.size
    clear hcr hgr
    by_cases hlt : i < 6
    · have HBL := Lib.hid (fun (W : World) (hW : w3.grownBy W (some g)) (hC : CurAt B g a len cap W) => below_all n B g a len cap W hB (Nat.le_trans hw (grown_trans G3.out hW).size) hC (HBY.out W (grown_trans G3.out hW)) hn1 (by omega))
      go_wp2_with fail
      refine (HBL.out wr GR.out CR.out).mono ?_
      rintro e w4 ⟨r1, rfl, hr10, hr11, hc4, hg4⟩
      have C4 := Lib.hid hc4
      have G4 := Lib.hid (grown_trans GR.out hg4)
      clear hc4 hg4
      go_wp2_with fail
      refine (HBL.out w4 G4.out C4.out).mono ?_
      rintro e w5 ⟨r2, rfl, hr20, hr21, hc5, hg5⟩
      have C5 := Lib.hid hc5
      have G5 := Lib.hid (grown_trans G4.out hg5)
      clear hc5 hg5
      go_wp2_with fail
      refine (HBL.out w5 G5.out C5.out).mono ?_
      rintro e w6 ⟨r3, rfl, hr30, hr31, hc6, hg6⟩
      have C6 := Lib.hid hc6
      have G6 := Lib.hid (grown_trans G5.out hg6)
      have hz6 : w3.heap.size ≤ w6.heap.size := G6.out.size
      clear hc6 hg6
      obtain ⟨w7, hw7⟩ : ∃ w7, w7 = w6.alloc (.cells #[.int .i64 0, .int .i64 r1, .int .i64 r2, .int .i64 r3] 3) := ⟨_, rfl⟩
      have HW7 := Lib.hid hw7
      have L7 : Hid (IntsAt w7 (some ⟨w6.heap.size, 0, none⟩) 4 [0, r1, r2, r3]) := Lib.hid ⟨rfl, (fun z hz => by simp at hz; omega), fun _ => ⟨w6.heap.size, 0, rfl, by rw [hw7]; simp, fun j z hj => by
        rw [hw7]
        match j, hj with
        | 0, hj => simp at hj; subst hj; simp
        | 1, hj => simp at hj; subst hj; simp
        | 2, hj => simp at hj; subst hj; simp
        | 3, hj => simp at hj; subst hj; simp
        | (j + 4), hj => simp at hj⟩⟩
      have B7 := Lib.hid (show Below w6.heap.size w6 w7 by rw [hw7]; exact bel1 _ _)
      clear hw7
      go_wp2_with fail
      rw [← HW7.out]
      refine (of_any n (some ⟨w6.heap.size, 0, none⟩) 4 4 [0, r1, r2, r3] w7 L7.out (by omega) (by omega)).mono ?_
      rintro e w8 ⟨p8, c8, rfl, hown8, hb8⟩
      have B8 := Lib.hid (B7.out.trans (hb8.mono B7.out.size))
      have hok : Ok (n : Int) (ofZ n [0, r1, r2, r3]) := ofZ_okN hn1 (by omega)
      have hpos : 1 ≤ (ofZ n [0, r1, r2, r3]).length := ofZ_pos hn1 (by simp)
      have hln : (ofZ n [0, r1, r2, r3]).length ≤ n := ofZ_len _ _
      obtain ⟨X, hX⟩ : ∃ X, ofZ n [0, r1, r2, r3] = X := ⟨_, rfl⟩
      rw [hX] at hown8 hok hpos hln ⊢
      have I8 := Lib.hid (intsAt_own hown8 (ok_int'' hok))
      have HOK := Lib.hid hok
      have P8 : Hid (∀ b off, p8 = some ⟨b, off, none⟩ → w6.heap.size ≤ b) := Lib.hid (fun b off e => by
        obtain ⟨_, a', c', hv', hg'⟩ := own_shape hown8
        obtain ⟨g', hg'', hge, _⟩ := hg' (by omega)
        simp at hv'
        rw [← hv'.1, e] at hg''
        simp at hg''
        have := B7.out.size
        omega)
      clear hown8 hb8 hX hok
      obtain ⟨w9, hw9⟩ : ∃ w9, w9 = w8.alloc (.cells #[.int .i64 n, .slice p8 X.length c8] 25) := ⟨_, rfl⟩
      have HW9 := Lib.hid hw9
      have B9 := Lib.hid (show Below w6.heap.size w6 w9 by rw [hw9]; exact B8.out.trans ((bel1 w8 _).mono B8.out.size))
      have T9 := Lib.hid (show Two w9 w8.heap.size (.int .i64 n) (.slice p8 X.length c8) by rw [hw9]; exact two_new w8 _ _ _)
      have I9 := Lib.hid (show IntsAt w9 p8 X.length X by rw [hw9]; exact I8.out.below (bel1 _ _))
      have C9 := Lib.hid (cur_below C6.out B9.out C6.out.lt.2)
      have G9 := Lib.hid (grown_trans G6.out (gb_of B9.out))
      have hz9 : w8.heap.size < w9.heap.size := T9.out.1
      have hz8 : w6.heap.size ≤ w8.heap.size := B8.out.size
      clear hw9
      have hx0 : ((X.length : Int) == 0) = false := by rw [beq_eq_false_iff_ne]; omega
      have hmod : (n : Int).tmod (X.length : Int) = ((n % X.length : Nat) : Int) := by rw [Int.tmod_eq_emod_of_nonneg (by omega)]; simp
      obtain ⟨q, hq⟩ : ∃ q, n % X.length = q := ⟨_, rfl⟩
      have hmod2 : (n : Int) % (X.length : Int) = (q : Int) := by rw [← hq]; simp
      rw [hq] at hmod
      obtain ⟨t0, t1, t2⟩ := T9.out
      have hql : q ≤ 12 := by rw [← hq]; exact Nat.le_trans (Nat.mod_le _ _) hn2
      by_cases hq0 : q = 0
      · have hqb : ((q : Int) == 0) = true := by rw [hq0]; rfl
        have HPC : Hid (ParC (n : Int) X) := Lib.hid ⟨HOK.out, by omega, by omega, by rw [Int.toNat_natCast, hq]; exact hq0⟩
        clear hq hq0
        go_wp2_with fail
        rw [← HW9.out]
        refine (par_spec n p8 X.length c8 X w9 I9.out (by omega) (by omega) (by omega)).mono ?_
        rintro e w10 ⟨la, lc, Ls, rfl, hit, hv, hb10⟩
        obtain ⟨P, hP⟩ : ∃ P, parZ (n : Int) X = P := ⟨_, rfl⟩
        have HPP : Hid (P = partL n X) := Lib.hid (by rw [← hP, parZ_yes HPC.out, Int.toNat_natCast])
        rw [hP] at hit hv ⊢
        have hPl : P.length ≤ 2048 := by rw [HPP.out]; exact part_few X hn2
        have hLl : Ls.length = P.length := by have := congrArg List.length hv; simpa [vals] using this
        have HV := Lib.hid hv
        have HIT := Lib.hid hit
        have B10 := Lib.hid (B9.out.trans (hb10.mono B9.out.size))
        have T10 := Lib.hid (T9.out.keep hb10)
        have I10 := Lib.hid (I9.out.below hb10)
        have C10 := Lib.hid (cur_below C9.out hb10 C9.out.lt.2)
        have G10 := Lib.hid (grown_trans G9.out (gb_of hb10))
        have hz10 := hb10.size
        clear hit hv hb10 hP t0 t1 t2
        obtain ⟨t0, t1, t2⟩ := T10.out
        by_cases hPp : 0 < P.length
        · have HIA : Hid (∀ (j : Nat) (r : Item), Ls[j]? = some r → AllInt r.zs ∧ r.s = (n : Int) ∧ Ok (n : Int) r.zs ∧ tilC n X r.zs) := Lib.hid (fun j r hj => by
            have h1 := vals_at HV.out hj
            rw [List.getElem?_map, Option.map_eq_some_iff] at h1
            obtain ⟨Y, hY, he⟩ := h1
            simp only [Prod.mk.injEq] at he
            have hm := List.mem_of_getElem? hY
            rw [HPP.out] at hm
            obtain ⟨h2, h3⟩ := part_mem ⟨by omega, by omega⟩ hm
            rw [he.2] at h2 h3
            exact ⟨ok_int'' h2, he.1.symm, h2, h3⟩)
          have hat := HIT.out.at (fun j r hj => (HIA.out j r hj).1)
          obtain ⟨a9, cap9, hv9, hcap, hcell⟩ := hat
          obtain ⟨bi, oi, rfl, hbi, hci⟩ := hcell (by omega)
          obtain ⟨hla, hpl9, hlc⟩ : la = some ⟨bi, oi, none⟩ ∧ P.length = Ls.length ∧ lc = cap9 := by simpa using hv9
          subst hla
          have hbig : w9.heap.size ≤ bi := by
            have := (HIT.out.outer.lt bi (by
              have hsh := HIT.out.outer
              obtain ⟨_, ⟨h0, h1⟩ | ⟨g', c', cur', h0, _⟩⟩ := hsh
              · simp at h0
              · simp at h0
                simp [Value.ownBlock, h0.1])).1
            exact this
          have HCI : Hid (∀ (W : World) (j : Nat), w10.grownBy W (some g) → j < P.length → ∃ r : Item, Ls[j]? = some r ∧ W.cell? ⟨bi, oi + j * 2, none⟩ = some (.int .i64 n) ∧ W.cell? ⟨bi, oi + j * 2 + 1, none⟩ = some r.slc ∧ IntsAt W r.a r.zs.length r.zs) := Lib.hid (fun W j hW hj => by
            obtain ⟨r, hr⟩ : ∃ r, Ls[j]? = some r := ⟨_, List.getElem?_eq_getElem (by omega)⟩
            obtain ⟨c1, c2, c3⟩ := hci j r hr
            have hblk := hW.block bi hbi (by simp; omega)
            refine ⟨r, hr, ?_, ?_, ?_⟩
            · rw [World.cell?_of_block hblk, c1, (HIA.out j r hr).2.1]
            · rw [World.cell?_of_block hblk, c2]
            · refine ints_grown hW c3 (fun hp b off e => ?_)
              have h1 := HIT.out.each j r hr
              obtain ⟨_, a', c', hv', hg'⟩ := own_shape h1
              obtain ⟨g', hg'', hge, _⟩ := hg' hp
              simp [Item.slc] at hv'
              rw [hv'.1, hg''] at e
              simp at e
              omega)
          have GD := Lib.hid (show w10.grownBy w10.drew (some g) from gb_of (Below.refl w10.heap.size w10).drew)
          have HBD := Lib.hid (below_all P.length B g a len cap w10.drew hB (Nat.le_trans hw (grown_trans G3.out (grown_trans G10.out GD.out)).size) (cur_below C10.out (Below.refl w10.heap.size w10).drew C10.out.lt.2) (HBY.out _ (grown_trans G3.out (grown_trans G10.out GD.out))) (by omega) (by omega))
          have U10 := Lib.hid (box_grown (grown_trans G10.out GD.out) U3.out (by omega))
          have V10 := Lib.hid (box_grown (grown_trans G10.out GD.out) V3.out (by omega))
          have TD := Lib.hid (two_grown GD.out T10.out (by omega))
          obtain ⟨SA, SN, SC, hSF⟩ : ∃ (SA : Nat → Option Addr) (SN SC : Nat → Nat), ∀ (j : Nat) (r : Item), Ls[j]? = some r → SA j = r.a ∧ SN j = r.zs.length ∧ SC j = r.cap := ⟨fun j => (Ls[j]?.getD ⟨0, none, 0, []⟩).a, fun j => (Ls[j]?.getD ⟨0, none, 0, []⟩).zs.length, fun j => (Ls[j]?.getD ⟨0, none, 0, []⟩).cap, fun j r hj => by simp [hj]⟩
          have HSF := Lib.hid hSF
          clear hSF
          have HKB : Hid (∀ W : World, W.heap[bi]? = w10.heap[bi]? → (∀ j, j < P.length → W.cell? ⟨bi, oi + j * 2, none⟩ = some (.int .i64 n)) ∧ (∀ j, j < P.length → W.cell? ⟨bi, oi + j * 2 + 1, none⟩ = some (.slice (SA j) (SN j) (SC j)))) := Lib.hid (fun W hW => by
            refine ⟨fun j hj => ?_, fun j hj => ?_⟩
            · obtain ⟨r, hr⟩ : ∃ r, Ls[j]? = some r := ⟨_, List.getElem?_eq_getElem (by omega)⟩
              obtain ⟨c1, c2, c3⟩ := hci j r hr
              rw [World.cell?_of_block hW, c1, (HIA.out j r hr).2.1]
            · obtain ⟨r, hr⟩ : ∃ r, Ls[j]? = some r := ⟨_, List.getElem?_eq_getElem (by omega)⟩
              obtain ⟨c1, c2, c3⟩ := hci j r hr
              rw [World.cell?_of_block hW, c2, (HSF.out j r hr).1, (HSF.out j r hr).2.1, (HSF.out j r hr).2.2]; rfl)
          have HK : Hid (∀ W : World, Two W w8.heap.size (.int .i64 n) (.slice p8 X.length c8) → W.heap[bi]? = w10.heap[bi]? → W.cell? ⟨w8.heap.size, 0, none⟩ = some (.int .i64 n) ∧ W.cell? ⟨w8.heap.size, 1, none⟩ = some (.slice p8 X.length c8) ∧ (∀ j, j < P.length → W.cell? ⟨bi, oi + j * 2, none⟩ = some (.int .i64 n)) ∧ (∀ j, j < P.length → W.cell? ⟨bi, oi + j * 2 + 1, none⟩ = some (.slice (SA j) (SN j) (SC j)))) := Lib.hid (fun W h hW => ⟨h.2.1, h.2.2, (HKB.out W hW).1, (HKB.out W hW).2⟩)
          have HBS : Hid (∀ (W : World) (b : Nat) (x y : Value), b ≠ bi → W.heap[bi]? = w10.heap[bi]? → ((W.setCell ⟨b, 0, none⟩ x).setCell ⟨b, 1, none⟩ y).heap[bi]? = w10.heap[bi]?) := Lib.hid (fun W b x y hne hW => by
            rw [heap_setCell_other _ _ _ _ (show bi ≠ b by omega), heap_setCell_other _ _ _ _ (show bi ≠ b by omega)]; exact hW)
          have hci0 := hci
          clear hci hcell hv9 t0 t1 t2 hcap hlc hpl9
          have HC3 : Hid (∀ (j : Nat) (r : Item), Ls[j]? = some r → IntsAt w10 r.a r.zs.length r.zs ∧ (0 < r.zs.length → ∀ b off, r.a = some ⟨b, off, none⟩ → w9.heap.size ≤ b)) := Lib.hid (fun j r hj => ⟨(hci0 j r hj).2.2, fun hp b off e => by
            obtain ⟨_, a', c', hv', hg'⟩ := own_shape (HIT.out.each j r hj)
            obtain ⟨g', hg'', hge, _⟩ := hg' hp
            simp [Item.slc] at hv'
            rw [← hv'.1, e] at hg''
            simp at hg''
            omega⟩)
          clear hci0
          clear hx0 hmod hmod2 hqb hql I8 L7 HW7 B7 HW9 hr10 hr11 hr20 hr21 hr30 hr31 HBL HKB
          go_wp2
          go_region_held3 (fun W => W.cell? ⟨w8.heap.size, 0, none⟩ = some (.int .i64 n) ∧ W.cell? ⟨w8.heap.size, 1, none⟩ = some (.slice p8 X.length c8) ∧ (∀ j, j < P.length → W.cell? ⟨bi, oi + j * 2, none⟩ = some (.int .i64 n)) ∧ (∀ j, j < P.length → W.cell? ⟨bi, oi + j * 2 + 1, none⟩ = some (.slice (SA j) (SN j) (SC j))))
            (first | exact HK.out _ TD.out rfl | exact HK.out _ T11.out BB11.out | exact HK.out _ (two_set2' T11.out (by omega)) (HBS.out _ _ _ _ (by omega) BB11.out) | exact HK.out _ (two_set2' (two_set2' T11.out (by omega)) (by omega)) (HBS.out _ _ _ _ (by omega) (HBS.out _ _ _ _ (by omega) BB11.out)))
            ((go_at_call 79; (with_reducible refine HBD.out.mono ?_); rintro e w11 ⟨r, rfl, hr0, hr1, hc11, hg11⟩; obtain ⟨k, rfl⟩ : ∃ k : Nat, r = k := ⟨r.toNat, by omega⟩; have C11 := Lib.hid hc11; have G11 := Lib.hid (grown_trans GD.out hg11); have T11 := Lib.hid (two_grown hg11 TD.out (by omega)); have U11 := Lib.hid (box_grown hg11 U10.out (by omega)); have V11 := Lib.hid (box_grown hg11 V10.out (by omega)); have BB11 := Lib.hid (G11.out.block bi hbi (fun e => by have := Option.some.inj e; omega)); obtain ⟨q0, q1, q2, q3⟩ := U11.out.facts; obtain ⟨o0, o1, o2, o3⟩ := V11.out.facts; have hul := U11.out.lt; have hvl := V11.out.lt; have hkk : k < P.length := (by omega); clear hc11 hg11))
          rename_i hh
          clear hh q0 q1 q2 q3 o0 o1 o2 o3 hul hvl
          obtain ⟨it, hit⟩ : ∃ it, Ls[k]? = some it := ⟨_, List.getElem?_eq_getElem (by omega)⟩
          obtain ⟨sa, sn, sc⟩ := HSF.out k it hit
          obtain ⟨hi1, hi2⟩ := HC3.out k it hit
          obtain ⟨hi3, hi4, hi5, hi6⟩ := HIA.out k it hit
          have E1 := (((box_two U11.out (.int .i64 n) (.slice p8 X.length c8)).other (c := w.heap.size + 1) (o := 0) (.int .i64 n) (by omega)).other (c := w.heap.size + 1) (o := 1) (.slice (SA k) (SN k) (SC k)) (by omega))
          have E2 := box_two ((V11.out.other (c := w.heap.size) (o := 0) (.int .i64 n) (by omega)).other (c := w.heap.size) (o := 1) (.slice p8 X.length c8) (by omega)) (.int .i64 n) (.slice (SA k) (SN k) (SC k))
          obtain ⟨q0, q1, q2, q3⟩ := E1.facts
          obtain ⟨o0, o1, o2, o3⟩ := E2.facts
          have HE1 := Lib.hid (show IntsAt w11 p8 X.length X from ints_grown G11.out I10.out (fun _ b off e => by have := P8.out b off e; omega))
          have HE2 := Lib.hid (show IntsAt w11 it.a it.zs.length it.zs from ints_grown G11.out hi1 (fun hp b off e => by have := hi2 hp b off e; omega))
          have HOX := HPC.out.1
          have hyl : 1 ≤ it.zs.length := by
            have h1 := (tile_len (by omega)).1 ((tile_iff (by omega)).2 hi6)
            rcases Nat.eq_zero_or_pos it.zs.length with h | h
            · rw [h] at h1; omega
            · exact h
          have HR : Hid (1 ≤ it.zs.length ∧ Ok (n : Int) it.zs ∧ tilC n X it.zs ∧ (0 < it.zs.length → ∀ b off, it.a = some ⟨b, off, none⟩ → w9.heap.size ≤ b) ∧ SA k = it.a ∧ SN k = it.zs.length) := Lib.hid ⟨hyl, hi5, hi6, hi2, sa, sn⟩
          have HOX2 := Lib.hid HOX
          clear hit sa sn sc hi1 hi2 hi3 hi4 hi5 hi6 hyl HOX E1 E2
          go_wp2
          refine bodyPost_ret (v := .tuple #[rhy n p8 X.length c8, rhy n (SA k) (SN k) (SC k)]) (by simp [results, Try.results52, go_sem, *]) rfl ?_
          obtain ⟨hyl, hi5, hi6, hi2, sa, sn⟩ := HR.out
          rw [sa, sn]
          refine ⟨n, p8, c8, X, it.a, SC k, it.zs, rfl, hn1, hn2, HOX2.out, hi5, hpos, hyl, hi6, ?_, ?_, (fun b off e => by have := P8.out b off e; omega), (fun b off e => by have := hi2 (by omega) b off e; omega), ?_, ?_⟩
          · exact ints_set2 (ints_set2 HE1.out (fun _ b off e => by have := P8.out b off e; omega)) (fun _ b off e => by have := P8.out b off e; omega)
          · exact ints_set2 (ints_set2 HE2.out (fun hp b off e => by have := hi2 hp b off e; omega)) (fun hp b off e => by have := hi2 hp b off e; omega)
          · exact cur_set2 (cur_set2 C11.out (by omega)) (by omega)
          · exact grown_set2 (grown_set2 (grown_trans G3.out (grown_trans G10.out G11.out)) (by omega)) (by omega)
        · go_wp2
          go_roundw
          case rel => exact ⟨i + 1, by omega, by go_num, C10.out, G10.out⟩
          case measure => simp [intOf]; omega
      · have hqb : ((q : Int) == 0) = false := by rw [beq_eq_false_iff_ne]; omega
        clear hq
        go_wp2_with fail
        rw [← HW9.out]
        go_wp2
        go_roundw
        case rel => exact ⟨i + 1, by omega, by go_num, C9.out, G9.out⟩
        case measure => simp [intOf]; omega
    · obtain ⟨w4, hw4⟩ : ∃ w4, w4 = wr.alloc (.cells #[.int .i64 0] 3) := ⟨_, rfl⟩
      have HW4 := Lib.hid hw4
      have L4 : Hid (IntsAt w4 (some ⟨wr.heap.size, 0, none⟩) 1 [0]) := Lib.hid ⟨rfl, (fun z hz => by simp at hz; omega), fun _ => ⟨wr.heap.size, 0, rfl, by rw [hw4]; simp, fun j z hj => by
        rw [hw4]
        match j, hj with
        | 0, hj => simp at hj; subst hj; simp
        | (j + 1), hj => simp at hj⟩⟩
      have B4 := Lib.hid (show Below wr.heap.size wr w4 by rw [hw4]; exact bel1 _ _)
      clear hw4
      obtain ⟨e1, e2, e3⟩ := ones_til n (by omega) hn1
      have HT : Hid (tilC (n : Int) (ofZ n [0]) (evZ (n : Int) n 0)) := Lib.hid (fun x hx0 hx1 => by
        have := e3 x.toNat (by omega)
        rwa [Int.toNat_of_nonneg hx0] at this)
      have HE : EvC (n : Int) n := ⟨by omega, by omega, by omega, by omega⟩
      have HOX := Lib.hid (ofZ_okN (l := [0]) hn1 (by omega))
      have HOY := Lib.hid (evZ_ok (m := 0) HE)
      have hxl : 1 ≤ (ofZ n [0]).length := by rw [e1]; simp
      clear e1 e3
      go_wp2_with fail
      rw [← HW4.out]
      refine (of_any n (some ⟨wr.heap.size, 0, none⟩) 1 1 [0] w4 L4.out (by omega) (by omega)).mono ?_
      rintro e w5 ⟨p5, c5, rfl, hown5, hb5⟩
      obtain ⟨X, hX⟩ : ∃ X, ofZ n [0] = X := ⟨_, rfl⟩
      rw [hX] at hown5 HOX HT hxl ⊢
      have I5 := Lib.hid (intsAt_own hown5 (ok_int'' HOX.out))
      have P5 : Hid (∀ b off, p5 = some ⟨b, off, none⟩ → wr.heap.size ≤ b) := Lib.hid (fun b off e => by
        obtain ⟨_, a', c', hv', hg'⟩ := own_shape hown5
        obtain ⟨g', hg'', hge, _⟩ := hg' (by omega)
        simp at hv'
        rw [← hv'.1, e] at hg''
        simp at hg''
        have := B4.out.size
        omega)
      have B5 := Lib.hid (B4.out.trans (hb5.mono B4.out.size))
      have U5 := Lib.hid (box_grown (grown_trans GR.out (gb_of B5.out)) U3.out (by omega))
      have V5 := Lib.hid (box_grown (grown_trans GR.out (gb_of B5.out)) V3.out (by omega))
      have hz5 : w3.heap.size ≤ w5.heap.size := Nat.le_trans hzr B5.out.size
      clear hown5 hb5 hX
      go_wp2_with fail
      refine (even0_spec n n 0 w5 HE (by omega) (by omega)).mono ?_
      rintro e w6 ⟨p6, c6, rfl, hown6, hb6⟩
      obtain ⟨Y, hY⟩ : ∃ Y, evZ (n : Int) n 0 = Y := ⟨_, rfl⟩
      rw [hY] at hown6 HOY HT e2 ⊢
      have I6 := Lib.hid (intsAt_own hown6 (ok_int'' HOY.out))
      have P6 : Hid (∀ b off, p6 = some ⟨b, off, none⟩ → w5.heap.size ≤ b) := Lib.hid (fun b off e => by
        obtain ⟨_, a', c', hv', hg'⟩ := own_shape hown6
        obtain ⟨g', hg'', hge, _⟩ := hg' (by omega)
        simp at hv'
        rw [← hv'.1, e] at hg''
        simp at hg''
        omega)
      have B6 := Lib.hid (B5.out.trans (hb6.mono B5.out.size))
      have U6 := Lib.hid (U5.out.keep hb6 U5.out.lt)
      have V6 := Lib.hid (V5.out.keep hb6 V5.out.lt)
      have X6 := Lib.hid (I5.out.below hb6)
      have C6 := Lib.hid (cur_below CR.out B6.out CR.out.lt.2)
      have G6 := Lib.hid (grown_trans GW.out (gb_of B6.out))
      clear hown6 hb6 hY
      have E1 := (((box_two U6.out (.int .i64 n) (.slice p5 X.length c5)).other (c := w.heap.size + 1) (o := 0) (.int .i64 n) (by omega)).other (c := w.heap.size + 1) (o := 1) (.slice p6 Y.length c6) (by omega))
      have E2 := box_two ((V6.out.other (c := w.heap.size) (o := 0) (.int .i64 n) (by omega)).other (c := w.heap.size) (o := 1) (.slice p5 X.length c5) (by omega)) (.int .i64 n) (.slice p6 Y.length c6)
      obtain ⟨q0, q1, q2, q3⟩ := E1.facts
      obtain ⟨o0, o1, o2, o3⟩ := E2.facts
      obtain ⟨r0, r1, r2, r3⟩ := U6.out.facts
      obtain ⟨s0, s1, s2, s3⟩ := V6.out.facts
      clear E1 E2
      go_wp2
      refine bodyPost_ret (v := .tuple #[rhy n p5 X.length c5, rhy n p6 Y.length c6]) (by simp [results, Try.results52, go_sem, *]) rfl ?_
      refine ⟨n, p5, c5, X, p6, c6, Y, rfl, hn1, hn2, HOX.out, HOY.out, hxl, e2, HT.out, ?_, ?_, (fun b off e => by have := P5.out b off e; omega), (fun b off e => by have := P6.out b off e; omega), ?_, ?_⟩
      · exact ints_set2 (ints_set2 X6.out (fun _ b off e => by have := P5.out b off e; omega)) (fun _ b off e => by have := P5.out b off e; omega)
      · exact ints_set2 (ints_set2 I6.out (fun hp b off e => by have := P6.out b off e; omega)) (fun hp b off e => by have := P6.out b off e; omega)
      · exact cur_set2 (cur_set2 C6.out (by omega)) (by omega)
      · exact grown_set2 (grown_set2 G6.out (by omega)) (by omega)
end Go.Proofs.Ytldpikcgeijkpaa.Rhy

/-
  Helpers of the claims beside this text: the model's MakeTile.
-/
namespace Go.Proofs.Ytldpikcgeijkpaa.Rhy
open Go.RowKit Cur
set_option linter.unusedVariables false
set_option linter.unusedSimpArgs false
set_option maxRecDepth 100000
/-- What MakeTile hands back: a tiling. -/
def MadeTile (w : World) (e : Ending) (w' : World) : Prop :=
  ∃ (n : Nat) (pa : Option Addr) (ca : Nat) (xs : List Int) (pb : Option Addr) (cb : Nat) (ys : List Int), e = .returned (.tuple #[rhy n pa xs.length ca, rhy n pb ys.length cb]) ∧
    1 ≤ n ∧ n ≤ 12 ∧ Ok (n : Int) xs ∧ Ok (n : Int) ys ∧ 1 ≤ xs.length ∧ 1 ≤ ys.length ∧ tilC n xs ys ∧ IntsAt w' pa xs.length xs ∧ IntsAt w' pb ys.length ys ∧ Below w.heap.size w w'
set_option maxHeartbeats 400000 in
theorem mtile_any (a : Option Addr) (len cap m : Nat) (w : World) (hb : BytesAt w.heap.size w a len) (hm : m ≤ 1048576) :
    Calls Try.prog 12 #[.slice a len cap, .int .i64 m] w (MadeTile w) := by
  have HB := Lib.hid hb
  clear hb
  obtain ⟨W1, hW⟩ : ∃ W1, W1 = (w.alloc (.cells #[.int .i64 0, .slice none 0 0] 25)).alloc (.cells #[.int .i64 0, .slice none 0 0] 25) := ⟨_, rfl⟩
  have HW := Lib.hid hW
  have B1 := Lib.hid (show Below w.heap.size w W1 by rw [hW]; exact bel2 w _ _)
  have U1 := Lib.hid (show Box W1 w.heap.size (.int .i64 0) (.slice none 0 0) 25 by rw [hW]; exact (box_new w _ _ _).keep (bel1 _ _) (by simp))
  have V1 := Lib.hid (show Box W1 (w.heap.size + 1) (.int .i64 0) (.slice none 0 0) 25 by
    rw [hW]
    have := box_new (w.alloc (.cells #[.int .i64 0, .slice none 0 0] 25)) (.int .i64 0) (.slice none 0 0) 25
    simpa using this)
  have hz1 : W1.heap.size = w.heap.size + 2 := by rw [hW]; simp
  clear hW
  go_enter Try.func12, Try.ntmps12
  go_wp2_with fail
  rw [← HW.out]
  refine (skip_any a len cap m W1 (bytes_up HB.out B1.out B1.out.size) hm).mono ?_
  rintro e w2 ⟨rfl, hcur, hb2⟩
  have U2 := Lib.hid (U1.out.keep hb2 (by omega))
  have V2 := Lib.hid (V1.out.keep hb2 (by omega))
  have C2 := Lib.hid hcur
  have hgt : W1.heap.size < w2.heap.size := hcur.lt.2
  have B2 := Lib.hid (B1.out.trans (hb2.mono B1.out.size))
  have Y2 := Lib.hid ((bytes_up HB.out B1.out B1.out.size).below hb2)
  clear hcur hb2
  go_wp2_with fail
  have HTL := tile_any W1.heap.size W1.heap.size a len cap w2 (Nat.le_refl _) (by omega) C2.out Y2.out
  rw [hz1] at HTL
  refine HTL.mono ?_
  rintro e w3 ⟨n, pa, ca, xs, pb, cb, ys, rfl, hn1, hn2, hx, hy, hxl, hyl, ht, ha, hb, fa, fb, hc, hg⟩
  have U3 := Lib.hid (box_grown hg U2.out (by omega))
  have V3 := Lib.hid (box_grown hg V2.out (by omega))
  have B3 := Lib.hid (show Below w.heap.size w w3 from B2.out.trans (below_of_own (by omega) (by omega) hg))
  have HA := Lib.hid ha
  have HBB := Lib.hid hb
  have HR : Hid (Ok (n : Int) xs ∧ Ok (n : Int) ys ∧ tilC n xs ys) := Lib.hid ⟨hx, hy, ht⟩
  have FA := Lib.hid fa
  have FB := Lib.hid fb
  clear ha hb fa fb hc hg hx hy ht
  have E1 := (((box_two U3.out (.int .i64 n) (.slice pa xs.length ca)).other (c := w.heap.size + 1) (o := 0) (.int .i64 n) (by omega)).other (c := w.heap.size + 1) (o := 1) (.slice pb ys.length cb) (by omega))
  have E2 := box_two ((V3.out.other (c := w.heap.size) (o := 0) (.int .i64 n) (by omega)).other (c := w.heap.size) (o := 1) (.slice pa xs.length ca) (by omega)) (.int .i64 n) (.slice pb ys.length cb)
  obtain ⟨q0, q1, q2, q3⟩ := E1.facts
  obtain ⟨o0, o1, o2, o3⟩ := E2.facts
  obtain ⟨r0, r1, r2, r3⟩ := U3.out.facts
  obtain ⟨s0, s1, s2, s3⟩ := V3.out.facts
  clear E1 E2
  go_wp2
  refine bodyPost_ret (v := .tuple #[rhy n pa xs.length ca, rhy n pb ys.length cb]) (by simp [results, Try.results12, go_sem, *]) rfl ?_
  refine ⟨n, pa, ca, xs, pb, cb, ys, rfl, hn1, hn2, HR.out.1, HR.out.2.1, hxl, hyl, HR.out.2.2, ?_, ?_, ?_⟩
  · exact ints_set2 (ints_set2 HA.out (fun _ b off e => by have := FA.out b off e; omega)) (fun _ b off e => by have := FA.out b off e; omega)
  · exact ints_set2 (ints_set2 HBB.out (fun _ b off e => by have := FB.out b off e; omega)) (fun _ b off e => by have := FB.out b off e; omega)
  · exact (((B3.out.setCell (by simp) _).setCell (by simp) _).setCell (by simp) _).setCell (by simp) _
end Go.Proofs.Ytldpikcgeijkpaa.Rhy
