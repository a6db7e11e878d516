/-
  Helpers of the claims beside this text: OtherRhythm of the model and of the program.
-/
import Derived.Test.YtcppmcacjjjjeaaRot
namespace Go.Proofs.Ytcppmcacjjjjeaa.Rhy
open Go.RowKit
set_option linter.unusedVariables false

/-- The numbers from 0 up to n that are not in a list. -/
def notZ (n : Nat) (l : List Int) : List Int := ((List.range n).map Int.ofNat).filter (fun x => !l.contains x)
theorem notZ_len (n : Nat) (l : List Int) : (notZ n l).length ≤ n := by
  unfold notZ
  refine Nat.le_trans (List.length_filter_le _ _) ?_
  simp
theorem notZ_zero (l : List Int) : notZ 0 l = [] := rfl
theorem notZ_no {k : Nat} {l : List Int} (h : l.contains (k : Int) = true) : notZ (k + 1) l = notZ k l := by
  unfold notZ
  rw [List.range_succ, List.map_append, List.filter_append]
  simp only [List.map_cons, List.map_nil, List.filter_cons, List.filter_nil]
  rw [show Int.ofNat k = (k : Int) from rfl, h]
  simp
theorem notZ_yes {k : Nat} {l : List Int} (h : l.contains (k : Int) = false) : notZ (k + 1) l = notZ k l ++ [(k : Int)] := by
  unfold notZ
  rw [List.range_succ, List.map_append, List.filter_append]
  simp only [List.map_cons, List.map_nil, List.filter_cons, List.filter_nil]
  rw [show Int.ofNat k = (k : Int) from rfl, h]
  simp
theorem notZ_int {n : Nat} {l : List Int} (h : n ≤ 1000) : AllInt (notZ n l) := by
  intro z hz
  unfold notZ at hz
  rw [List.mem_filter, List.mem_map] at hz
  obtain ⟨⟨a, ha, rfl⟩, _⟩ := hz
  rw [List.mem_range] at ha
  simp
  omega

def OthAt (s : Int) (k : Nat) (zs : List Int) (w1 wr : World) : Prop :=
  ∃ av cv, Box wr w1.heap.size (.int .i64 s) (.slice av (notZ k zs).length cv) 25 ∧ wr.ownsRow (w1.heap.size + 1) 3 1 (.slice av (notZ k zs).length cv) (notZ k zs).length (ints (notZ k zs)) ∧ Below w1.heap.size w1 wr ∧ w1.heap.size + 1 ≤ wr.heap.size
theorem oth_start (s : Int) (zs : List Int) (w1 : World) : OthAt s 0 zs w1 (w1.alloc (.cells #[.int .i64 s, .slice none 0 0] 25)) :=
  ⟨none, 0, box_new w1 _ _ _, World.ownsRow_nil _ _ _ _, bel1 w1 _, by simp⟩
theorem oth_keep {s : Int} {k : Nat} {zs : List Int} {w1 wr w2 : World} (h : OthAt s k zs w1 wr) (hb : Below wr.heap.size wr w2) : OthAt s k zs w1 w2 := by
  obtain ⟨av, cv, h1, h2, h3, h4⟩ := h
  exact ⟨av, cv, h1.keep hb h1.lt, own_below h2 hb, h3.trans (hb.mono (by omega)), Nat.le_trans h4 hb.size⟩


-- the program
theorem remB_self {k n : Int} (h0 : 0 ≤ k) (h1 : k < n) : remB k n = k := Int.emod_eq_of_lt h0 h1

set_option maxHeartbeats 1000000 in
theorem inv_any (s : Int) (a : Option Addr) (len cap : Nat) (zs : List Int) (w : World) (h : IntsAt w a len zs) (hl : len ≤ 1048576) (ho : Ok s zs) :
    Calls Try.prog 62 #[rhy s a len cap] w (RhyPost s (notZ s.toNat zs) w) := by
  have HS := Lib.hid h
  clear h
  obtain ⟨w1, hW⟩ : ∃ w1, w1 = (w.alloc (.cells #[.int .i64 s, .slice a len cap] 25)).alloc (.cells #[.int .i64 0, .slice none 0 0] 25) := ⟨_, rfl⟩
  have HW := Lib.hid hW
  have B1 := Lib.hid (show Below w.heap.size w w1 by rw [hW]; exact bel2 w _ _)
  have T1 := Lib.hid (show Two w1 w.heap.size (.int .i64 s) (.slice a len cap) by rw [hW]; exact (two_new w _ _ _).keep (bel1 _ _))
  have U1 := Lib.hid (show Box w1 (w.heap.size + 1) (.int .i64 0) (.slice none 0 0) 25 by
    rw [hW]
    have := box_new (w.alloc (.cells #[.int .i64 s, .slice a len cap] 25)) (.int .i64 0) (.slice none 0 0) 25
    simpa using this)
  have hz1 := U1.out.lt
  have HSZ := Lib.hid (show w1.heap.size = w.heap.size + 1 + 1 by rw [hW]; simp)
  clear hW
  obtain ⟨n, hn⟩ : ∃ n : Nat, s = n := ⟨s.toNat, by have := ho.1; omega⟩
  have hn24 : n ≤ 24 := by have := ho.1; omega
  have hs1 := ho.1.1
  have hs2 := ho.1.2
  have HN := Lib.hid hn
  clear ho hn
  go_enter Try.func62, Try.ntmps62
  go_wp2
  rw [← HW.out, ← HSZ.out]
  go_loopw [10] (fun i wr => ∃ k : Nat, k ≤ n ∧ i = .int .i64 k ∧ OthAt s k zs w1 wr) (fun i _ => n - (intOf i).toNat)
  case atStart => exact ⟨0, by omega, rfl, oth_start s zs w1⟩
  case round =>
    obtain ⟨k, hk, rfl, hat⟩ := hrel
    obtain ⟨av, cv, hb0, hown, hnx, hsz⟩ := hat
    have H0 := Lib.hid hb0
    have HO := Lib.hid hown
    have HX := Lib.hid hnx
    have HZ := Lib.hid hsz
    have lt0 := hb0.lt
    obtain ⟨x1, x1a, x1b⟩ := (T1.out.keep hnx)
    clear hb0 hown hnx hsz
    have HI : Hid (IntsAt wr a len zs) := Lib.hid (HS.out.below (B1.out.trans (HX.out.mono (by have := B1.out.size; omega))))
    by_cases hlt : k < n
    · have hks : decide ((k : Int) < s) = true := by have := HN.out; simp; omega
      have HR := Lib.hid (remB_self (k := (k : Int)) (n := s) (by omega) (by have := HN.out; omega))
      cases hc : zs.contains (k : Int)
      · have HC' := Lib.hid hc
        clear hc
        go_wp2_with fail
        refine (hasBeat_any s a len cap zs k wr HI.out hl hs1 hs2 (by omega) (by omega)).mono ?_
        rintro e w2 ⟨rfl, hb2⟩
        rw [HR.out, show hasB zs (k : Int) = false from HC'.out]
        have HY := Lib.hid (HX.out.trans (hb2.mono (by omega)))
        have HO' := Lib.hid (own_below HO.out hb2)
        have HZ' := Lib.hid (Nat.le_trans HZ.out hb2.size)
        have H0' := Lib.hid (H0.out.keep hb2 lt0)
        obtain ⟨c0, c1, f0, f1⟩ := H0'.out.facts
        have lt1 := H0'.out.lt
        clear hb2
        go_wp2_with (at_builtin; refine append_int rfl _ _ rfl (w1.heap.size + 1) _ (notZ k zs) _ _ HO'.out (by have := notZ_len k zs; omega) HZ'.out _ rfl rfl rfl ?_; intro a' c' w' hown' hb'; have HO2 := Lib.hid hown'; have HX2 := Lib.hid hb'; have hq := HX2.out.frozen (p := ⟨w1.heap.size, 1, none⟩) (by show w1.heap.size < w1.heap.size + 1; omega); have hq2 := HX2.out.cell (p := ⟨w1.heap.size, 1, none⟩) (by show w1.heap.size < w1.heap.size + 1; omega); clear hown' hb')
        go_roundw
        case rel =>
          refine ⟨k + 1, by omega, by go_num, a', c', ?_, ?_, ?_, ?_⟩
          · rw [notZ_yes HC'.out]
            have := (H0'.out.keep HX2.out (by omega)).set1 (.slice a' ((notZ k zs).length + 1) c')
            simpa using this
          · rw [notZ_yes HC'.out]
            exact ownsRow_setCell_below HO2.out (by show w1.heap.size < w1.heap.size + 1; omega) _
          · exact (HY.out.trans (HX2.out.mono (by omega))).setCell (by show w1.heap.size ≤ w1.heap.size; omega) _
          · have := HX2.out.size
            have := HZ'.out
            simp; omega
        case measure => simp [intOf]; omega
      · have HC' := Lib.hid hc
        clear hc
        go_wp2_with fail
        refine (hasBeat_any s a len cap zs k wr HI.out hl hs1 hs2 (by omega) (by omega)).mono ?_
        rintro e w2 ⟨rfl, hb2⟩
        rw [HR.out, show hasB zs (k : Int) = true from HC'.out]
        have HY := Lib.hid (HX.out.trans (hb2.mono (by omega)))
        have HO' := Lib.hid (own_below HO.out hb2)
        have HZ' := Lib.hid (Nat.le_trans HZ.out hb2.size)
        have H0' := Lib.hid (H0.out.keep hb2 lt0)
        clear hb2
        go_wp2
        go_roundw
        case rel => exact ⟨k + 1, by omega, by go_num, av, cv, by rw [notZ_no HC'.out]; exact H0'.out, by rw [notZ_no HC'.out]; exact HO'.out, HY.out, HZ'.out⟩
        case measure => simp [intOf]; omega
    · have hks : decide ((k : Int) < s) = false := by have := HN.out; simp; omega
      have e : k = s.toNat := by have := HN.out; omega
      have b1 := B1.out.size
      obtain ⟨c0, c1, f0, f1⟩ := H0.out.facts
      obtain ⟨y1, y2, y3, y4⟩ := (U1.out.keep HX.out U1.out.lt).facts
      have y5 := (U1.out.keep HX.out U1.out.lt).lt
      go_wp2
      refine bodyPost_ret (v := rhy s av (notZ k zs).length cv) (by simp [results, Try.results62, go_sem, *]) rfl ?_
      rw [e] at HO ⊢
      refine ⟨av, cv, rfl, ?_, ?_⟩
      · exact own_base (ownsRow_setCell_below (ownsRow_setCell_below HO.out (by show w.heap.size + 1 < w1.heap.size + 1; have := U1.out.lt; omega) _) (by show w.heap.size + 1 < w1.heap.size + 1; have := U1.out.lt; omega) _) (by omega)
      · exact ((B1.out.trans (HX.out.mono (by omega))).setCell (by simp) _).setCell (by simp) _

set_option maxHeartbeats 1000000 in
theorem oth_impl (s : Int) (a : Option Addr) (len cap : Nat) (zs : List Int) (w : World) (h : IntsAt w a len zs) (hm : zs.length ≤ 1048576) :
    Calls Try.prog 18 #[rhy s a len cap] w (CPost (Ok s zs) s (notZ s.toNat zs) w) := by
  have HS := Lib.hid h
  have hl : len ≤ 1048576 := by have := h.1; omega
  clear h
  obtain ⟨W0, hW⟩ : ∃ W0, W0 = (w.alloc (.cells #[.int .i64 s, .slice a len cap] 25)).alloc (.cells #[.int .i64 0, .slice none 0 0] 25) := ⟨_, rfl⟩
  have HW := Lib.hid hW
  have HB := Lib.hid (show Below w.heap.size w W0 by rw [hW]; exact bel2 w _ _)
  have HT := Lib.hid (show Two W0 w.heap.size (.int .i64 s) (.slice a len cap) by rw [hW]; exact (two_new w _ _ _).keep (bel1 _ _))
  have HU := Lib.hid (show Box W0 (w.heap.size + 1) (.int .i64 0) (.slice none 0 0) 25 by
    rw [hW]
    have := box_new (w.alloc (.cells #[.int .i64 s, .slice a len cap] 25)) (.int .i64 0) (.slice none 0 0) 25
    simpa using this)
  have hz0 := HU.out.lt
  clear hW
  by_cases ho : Ok s zs
  · have HO := Lib.hid ho
    have HC := Lib.hid ho
    clear ho
    go_enter Try.func18, Try.ntmps18
    go_wp2_with fail
    rw [← HW.out]
    refine (valid_yes s a len cap zs _ (HS.out.below HB.out) hl HO.out).mono ?_
    rintro e w1 ⟨rfl, hb1⟩
    have B1 := Lib.hid (HB.out.trans (hb1.mono HB.out.size))
    have T1 := Lib.hid (HT.out.keep hb1)
    have U1 := Lib.hid (HU.out.keep hb1 hz0)
    obtain ⟨t1, t1a, t1b⟩ := T1.out
    clear hb1
    go_wp2_with fail
    refine (inv_any s a len cap zs w1 (HS.out.below B1.out) hl HO.out).mono ?_
    rintro e w2 ⟨a2, cap2, rfl, hown2, hb2⟩
    have HO2 := Lib.hid hown2
    have HB2 := Lib.hid hb2
    obtain ⟨q0, q1, q2, q3⟩ := (U1.out.keep hb2 U1.out.lt).facts
    have l1 := (U1.out.keep hb2 U1.out.lt).lt
    have l2 := U1.out.lt
    clear hown2 hb2
    go_wp2
    refine bodyPost_ret (v := .tuple #[rhy s a2 (notZ s.toNat zs).length cap2, .bool true]) (by simp [results, Try.results18, go_sem, *]) rfl (cpost_yes HC.out rfl ?_ ?_)
    · exact own_base (ownsRow_setCell_below (ownsRow_setCell_below HO2.out (by show w.heap.size + 1 < w1.heap.size; omega) _) (by show w.heap.size + 1 < w1.heap.size; omega) _) (by omega)
    · exact ((B1.out.trans (HB2.out.mono (by omega))).setCell (by simp) _).setCell (by simp) _
  · have HO := Lib.hid ho
    have HC := Lib.hid ho
    clear ho
    go_enter Try.func18, Try.ntmps18
    go_wp2_with fail
    rw [← HW.out]
    refine (valid_no s a len cap zs _ (HS.out.below HB.out) hl HO.out).mono ?_
    rintro e w1 ⟨rfl, hb1⟩
    have B1 := Lib.hid (HB.out.trans (hb1.mono HB.out.size))
    have T1 := Lib.hid (HT.out.keep hb1)
    have U1 := Lib.hid (HU.out.keep hb1 hz0)
    obtain ⟨t1, t1a, t1b⟩ := T1.out
    clear hb1
    obtain ⟨q0, q1, q2, q3⟩ := U1.out.facts
    have l1 := U1.out.lt
    go_wp2
    refine bodyPost_ret (v := .tuple #[rhy 0 none 0 0, .bool false]) (by simp [results, Try.results18, go_sem, *]) rfl (cpost_no HC.out ?_)
    exact (B1.out.setCell (by simp) _).setCell (by simp) _
end Go.Proofs.Ytcppmcacjjjjeaa.Rhy
