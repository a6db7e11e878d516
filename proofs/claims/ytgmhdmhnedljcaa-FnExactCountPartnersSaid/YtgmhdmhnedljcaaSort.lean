/-
  Helpers of the claims beside this text: the library's sort at a slice of the call's own; the program's moved beats.
-/
import Derived.Test.YtgmhdmhnedljcaaOf
import Derived.Sort.OwnSortedInts
import Derived.Lib.OwnBridge
namespace Go.Proofs.Ytgmhdmhnedljcaa.Rhy
open Go.RowKit
set_option linter.unusedVariables false

def sortZ (l : List Int) : List Int := l.mergeSort fun x y => decide (x ≤ y)
theorem sortZ_len (l : List Int) : (sortZ l).length = l.length := List.length_mergeSort l

theorem sort_own (B : Nat) (a : Option Addr) (n cap : Nat) (l : List Int) (w : World) (h : w.ownsRow B 3 1 (.slice a n cap) n (ints l)) (hn : n ≤ 1048576) (hB : B ≤ w.heap.size) :
    Calls Try.prog 41 #[.slice a n cap] w fun e w' => e = .returned (.tuple #[]) ∧ w'.ownsRow B 3 1 (.slice a n cap) n (ints (sortZ l)) ∧ Below B w w' := by
  have hl : l.length = n := (own_shape h).1
  by_cases h0 : n = 0
  · subst h0
    have e : l = [] := List.eq_nil_of_length_eq_zero hl
    refine (Try.slices_Sort_int_none a cap w).mono ?_
    rintro e' w' ⟨rfl, rfl⟩
    subst e
    exact ⟨rfl, by rw [show sortZ [] = [] by simp [sortZ]]; exact h, Below.refl _ _⟩
  · obtain ⟨h1, ⟨hv, hn0⟩ | ⟨g, cap', cur, hv, hBg, hg, hnc, hm, hs, ht⟩⟩ := h
    · exact absurd hn0 h0
    · simp at hv
      obtain ⟨rfl, rfl⟩ := hv
      have ht' : cur.toList.take l.length = l.map (Value.int .i64) := by rw [hl]; simpa [ints] using ht
      subst hl
      refine (Try.slices_Sort_int g 0 cap l w (holds_of_blockI hg ht') (by have := (Array.getElem?_eq_some_iff.1 hg).1; exact this) (by omega)).mono ?_
      rintro e' w' ⟨rfl, q, os, rfl⟩
      refine ⟨rfl, ?_, ?_⟩
      · have := ownsRow_sortedI (n := q) (os := os) (ss := l) (ts := sortZ l) (sortZ_len l) hBg hg hnc hm (by simpa using hs)
        exact this
      · exact (Below.refl B w).grown (grownBy_sortedI _) hB (fun k hk => by cases hk; exact hBg)

theorem map_step (s : Int) (zs : List Int) (u k : Int) (n j : Nat) (z : Int) (hn : zs.length = n) (hs : zs[j]? = some z) :
    (ints (mapL s (zs.take j) u k) ++ List.replicate (n - j) (Value.int .i64 0)).set j (.int .i64 (remB (u * z + k) s)) = ints (mapL s (zs.take (j + 1)) u k) ++ List.replicate (n - (j + 1)) (Value.int .i64 0) := by
  have hk : j < zs.length := by
    rcases Nat.lt_or_ge j zs.length with h | h
    · exact h
    · rw [List.getElem?_eq_none h] at hs; cases hs
  have e : n - j = (n - (j + 1)) + 1 := by omega
  rw [e, List.replicate_succ, mapL_snoc hs]
  have h := set_mid (ints (mapL s (zs.take j) u k)) (List.replicate (n - (j + 1)) (Value.int .i64 0)) (.int .i64 0) (.int .i64 (remB (u * z + k) s))
  rw [show (ints (mapL s (zs.take j) u k)).length = j by simp [ints, mapL]; omega] at h
  rw [h]
  simp [ints]

def MovAt (g len j : Nat) (s : Int) (a : Option Addr) (cap : Nat) (zs : List Int) (u k : Int) (w wr : World) : Prop :=
  Box wr g (.int .i64 s) (.slice a len cap) 28 ∧ Box wr (g + 1) (.int .i64 0) (.slice none 0 0) 28 ∧
    wr.ownsRow (g + 2) 3 1 (.slice (some ⟨g + 1 + 1, 0, none⟩) len len) len (ints (mapL s (zs.take j) u k) ++ List.replicate (len - j) (Value.int .i64 0)) ∧ Below g w wr ∧ g + 2 ≤ wr.heap.size

set_option maxHeartbeats 1000000 in
theorem moved_any (s : Int) (a : Option Addr) (len cap : Nat) (zs : List Int) (u k : Int) (w : World) (h : IntsAt w a len zs) (hm : len ≤ 1048576) (ho : Ok s zs) (hu1 : -1000 ≤ u) (hu2 : u ≤ 1000) (hk1 : -1000 ≤ k) (hk2 : k ≤ 1000) :
    Calls Try.prog 36 #[rhy s a len cap, .int .i64 u, .int .i64 k] w (RhyPost s (sortZ (mapL s zs u k)) w) := by
  have HS := Lib.hid h
  have HOK := Lib.hid ho
  obtain ⟨hs1, hs2⟩ := ho.1
  clear h ho
  obtain ⟨i0, hi, hz0, hz1, hz2⟩ := info_parts infoInt
  have HI := Lib.hid (show _ ∧ _ ∧ _ ∧ _ from ⟨hi, hz0, hz1, hz2⟩)
  clear hi hz0 hz1 hz2
  obtain ⟨g, hg⟩ : ∃ g, g = w.heap.size := ⟨_, rfl⟩
  have HG := Lib.hid hg
  clear hg
  obtain ⟨W0, hW⟩ : ∃ W0, W0 = (w.alloc (.cells #[.int .i64 s, .slice a len cap] 28)).alloc (.cells #[.int .i64 0, .slice none 0 0] 28) := ⟨_, rfl⟩
  have HW := Lib.hid hW
  clear hW
  have hsz : W0.heap.size = g + 2 := by rw [HW.out, HG.out]; simp
  have HSZ := Lib.hid hsz
  have HB0 := Lib.hid (show Box W0 g (.int .i64 s) (.slice a len cap) 28 by
    rw [HW.out, HG.out]
    exact (box_new w (.int .i64 s) (.slice a len cap) 28).keep (B := w.heap.size + 1) ((Below.refl _ _).alloc (by simp) _) (by omega))
  have HB1 := Lib.hid (show Box W0 (g + 1) (.int .i64 0) (.slice none 0 0) 28 by
    rw [HW.out, HG.out]
    have := box_new (w.alloc (.cells #[.int .i64 s, .slice a len cap] 28)) (.int .i64 0) (.slice none 0 0) 28
    simpa using this)
  have HBW := Lib.hid (show Below g w W0 by rw [HW.out, HG.out]; exact bel2 w _ _)
  clear hsz
  go_enter Try.func36, Try.ntmps36
  go_wp2_with (at_make; refine wpList_make_full _ rfl _ _ 22 rfl (g + 2) 3 i0 (.int .i64 0) 1 Try.underlying22 HI.out.1 HI.out.2.1 HI.out.2.2.1 .i64 .i64 len len len rfl rfl rfl rfl ?b2 ?b3 ?b4 ?_)
  case b2 => rw [HI.out.2.2.2]; omega
  case b3 => unfold maxLen; omega
  case b4 => have := HSZ.out; rw [HW.out] at this; omega
  rw [← HW.out]
  intro w1 hown hgrow
  have HO := Lib.hid hown
  have HX : Hid (Below (g + 2) W0 w1) := Lib.hid ((Below.refl (g + 2) W0).grown hgrow (by have := HSZ.out; omega) (by intro k hk; cases hk))
  clear hown hgrow
  rw [← HG.out]
  rw [← HG.out] at HO
  obtain ⟨c0, c1, f0, f1⟩ := (HB0.out.keep HX.out (by omega)).facts
  have HA : Hid (MovAt g len 0 s a cap zs u k w w1) := Lib.hid ⟨HB0.out.keep HX.out (by omega), HB1.out.keep HX.out (by omega), by
    have := HO.out
    rw [toList_madeCells_one] at this
    simpa [mapL, ints] using this, HBW.out.trans (HX.out.mono (by omega)), by have h1 := HX.out.size; have h2 := HSZ.out; omega⟩
  clear HO HX
  go_wp2
  go_loopw [17] (fun i wr => ∃ j : Nat, j ≤ len ∧ i = .int .i64 j ∧ MovAt g len j s a cap zs u k w wr) (fun i _ => len - (intOf i).toNat)
  case atStart => exact ⟨0, by omega, rfl, HA.out⟩
  case round =>
    obtain ⟨j, hj, rfl, hb0, hb1, hown, hnx, hsz⟩ := hrel
    have H0 := Lib.hid hb0
    have H1 := Lib.hid hb1
    have HO := Lib.hid hown
    have HX := Lib.hid hnx
    have HZ := Lib.hid hsz
    clear HA c0 c1 f0 f1
    obtain ⟨c0, c1, f0, f1⟩ := H0.out.facts
    obtain ⟨d0, d1, e0, e1⟩ := H1.out.facts
    obtain ⟨lt0, lt1⟩ := And.intro hb0.lt hb1.lt
    clear hb0 hb1 hown hnx hsz
    have HJ : Hid (IntsAt wr a len zs) := Lib.hid (HS.out.below (by rw [← HG.out]; exact HX.out))
    by_cases hlt : j < len
    · obtain ⟨b, off, z, rfl, hb, hs, hc, hz1, hz2⟩ := HJ.out.at hlt
      have hz := ok_at HOK.out hs
      have HC := Lib.hid (map_step s zs u k len j z HS.out.len hs)
      obtain ⟨hz0, hzs⟩ := hz
      obtain ⟨m1, m2⟩ := mul_bd hu1 hu2 hz0 (show z < 24 by omega)
      have hfz := HO.out.frozenAt j
      obtain ⟨old, hold⟩ : ∃ v, wr.cell? ⟨g + 1 + 1, j, none⟩ = some v := by
        rw [HO.out.cellAt j (by omega)]
        exact ⟨_, List.getElem?_eq_getElem (by have := HO.out.1; omega)⟩
      clear hs
      go_wp2_with (go_at_call 40; ((with_reducible refine (around_any (u * z + k) s _ hs1 (by omega) (by omega) (by omega)).mono ?_); rintro e w' ⟨rfl, rfl⟩))
      go_roundw
      case rel =>
        have hst := HO.out.stored j (.int .i64 (remB (u * z + k) s))
        rw [HC.out] at hst
        exact ⟨j + 1, by omega, by go_num, H0.out.other _ (by omega), H1.out.other _ (by omega), hst.1, HX.out.setCell (by show g ≤ g + 1 + 1; omega) _, by simpa using HZ.out⟩
      case measure => simp [intOf]; omega
    · have e : j = len := by omega
      have HT : Hid (zs.take len = zs) := Lib.hid (List.take_of_length_le (by have := HS.out.len; omega))
      subst e
      have HO2 := Lib.hid (show wr.ownsRow (g + 2) 3 1 (.slice (some ⟨g + 1 + 1, 0, none⟩) j j) j (ints (mapL s zs u k)) by
        have := HO.out
        rw [HT.out, Nat.sub_self] at this
        simpa using this)
      go_wp2_with fail
      refine (sort_own (g + 2) _ j j (mapL s zs u k) wr HO2.out hm HZ.out).mono ?_
      rintro e w2 ⟨rfl, hown2, hb2⟩
      have HO3 := Lib.hid hown2
      have HB2 := Lib.hid hb2
      have g0 := (H0.out.keep hb2 (by omega)).facts
      have g1 := (H1.out.keep hb2 (by omega)).facts
      have l1 := (H1.out.keep hb2 (by omega)).lt
      obtain ⟨p0, p1, p2, p3⟩ := g0
      obtain ⟨q0, q1, q2, q3⟩ := g1
      clear hown2 hb2
      go_wp2
      have hlz : (sortZ (mapL s zs u k)).length = j := by rw [sortZ_len, mapL_len]; exact HS.out.len
      refine bodyPost_ret (v := rhy s (some ⟨g + 1 + 1, 0, none⟩) j j) (by simp [results, Try.results36, go_sem, *]) rfl ⟨some ⟨g + 1 + 1, 0, none⟩, j, by rw [hlz], ?_, ?_⟩
      · rw [hlz]
        exact own_base (ownsRow_setCell_below (ownsRow_setCell_below HO3.out (by show g + 1 < g + 2; omega) _) (by show g + 1 < g + 2; omega) _) (by have := HG.out; omega)
      · rw [← HG.out]; exact ((HX.out.trans (HB2.out.mono (by omega))).setCell (by show g ≤ g + 1; omega) _).setCell (by show g ≤ g + 1; omega) _
end Go.Proofs.Ytgmhdmhnedljcaa.Rhy
