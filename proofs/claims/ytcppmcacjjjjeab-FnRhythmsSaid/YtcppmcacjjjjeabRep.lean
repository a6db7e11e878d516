/-
  Helpers of the claims beside this text: RepeatRhythm of the model and of the program.
-/
import Derived.Test.YtcppmcacjjjjeabGcd
namespace Go.Proofs.Ytcppmcacjjjjeab.Rhy
open Go.RowKit
set_option linter.unusedVariables false

def barL (s : Int) (zs : List Int) (b : Nat) : List Int := zs.map fun p => (b : Int) * s + p
def repL (s : Int) (zs : List Int) (n : Nat) : List Int := (List.range n).flatMap (barL s zs)
def repP (s : Int) (zs : List Int) (b j : Nat) : List Int := repL s zs b ++ barL s (zs.take j) b
theorem repP_zero (s : Int) (zs : List Int) (b : Nat) : repP s zs b 0 = repL s zs b := by simp [repP, barL]
theorem repL_zero (s : Int) (zs : List Int) : repL s zs 0 = [] := rfl
theorem repP_all (s : Int) (zs : List Int) (b j : Nat) (h : zs.length ≤ j) : repP s zs b j = repL s zs (b + 1) := by
  unfold repP repL
  rw [List.take_of_length_le h, List.range_succ, List.flatMap_append]
  simp
theorem repP_snoc {s : Int} {zs : List Int} {b j : Nat} {z : Int} (h : zs[j]? = some z) : repP s zs b (j + 1) = repP s zs b j ++ [(b : Int) * s + z] := by
  unfold repP barL
  rw [List.take_add_one, h]
  simp
theorem repL_len (s : Int) (zs : List Int) (n : Nat) : (repL s zs n).length = n * zs.length := by
  induction n with
  | zero => simp [repL]
  | succ n ih =>
    rw [← repP_all s zs n zs.length (Nat.le_refl _)]
    unfold repP
    rw [List.length_append, ih, List.take_length]
    simp [barL, Nat.succ_mul]
theorem repP_len (s : Int) (zs : List Int) (b j : Nat) : (repP s zs b j).length ≤ (b + 1) * zs.length := by
  unfold repP
  rw [List.length_append, repL_len, Nat.succ_mul]
  simp [barL]
  omega
theorem len_bd {b n : Nat} (h1 : b ≤ 24) (h2 : n ≤ 24) : (b + 1) * n ≤ 600 := Nat.le_trans (Nat.mul_le_mul (show b + 1 ≤ 25 by omega) h2) (by omega)
theorem bs_bd {b : Nat} {s : Int} (h1 : b ≤ 24) (h2 : 0 ≤ s) (h3 : s ≤ 24) : 0 ≤ (b : Int) * s ∧ (b : Int) * s ≤ 576 := by
  refine ⟨Int.mul_nonneg (by omega) h2, ?_⟩
  have := Int.mul_le_mul (show (b : Int) ≤ 24 by omega) h3 h2 (by omega)
  omega
theorem repL_int {s : Int} {zs : List Int} {n : Nat} (ho : Ok s zs) (hn : n ≤ 24) : AllInt (repL s zs n) := by
  intro z hz
  unfold repL barL at hz
  rw [List.mem_flatMap] at hz
  obtain ⟨b, hb, hz⟩ := hz
  rw [List.mem_map] at hz
  obtain ⟨p, hp, rfl⟩ := hz
  rw [List.mem_range] at hb
  have h1 := ok_range ho p hp
  have h2 := ho.1
  have h3 := bs_bd (b := b) (s := s) (by omega) (by omega) h2.2
  omega

/-- A box that holds a number and a list of the call's own: block number 'w1.heap.size'. -/
def LstAt (sz : Int) (l : List Int) (w1 wr : World) : Prop :=
  ∃ av cv, Box wr w1.heap.size (.int .i64 sz) (.slice av l.length cv) 25 ∧ wr.ownsRow (w1.heap.size + 1) 3 1 (.slice av l.length cv) l.length (ints l) ∧ Below w1.heap.size w1 wr ∧ w1.heap.size + 1 ≤ wr.heap.size
theorem lst_start (sz : Int) (w1 : World) : LstAt sz [] w1 (w1.alloc (.cells #[.int .i64 sz, .slice none 0 0] 25)) :=
  ⟨none, 0, box_new w1 _ _ _, World.ownsRow_nil _ _ _ _, bel1 w1 _, by simp⟩
theorem lst_snoc {sz t : Int} {l : List Int} {w1 wr w2 : World} {a' : Option Addr} {c' : Nat} {v : Value} (hB : Box wr w1.heap.size (.int .i64 sz) v 25) (hX : Below w1.heap.size w1 wr) (hZ : w1.heap.size + 1 ≤ wr.heap.size)
    (hO : w2.ownsRow (w1.heap.size + 1) 3 1 (.slice a' (l ++ [t]).length c') (l ++ [t]).length (ints (l ++ [t]))) (hb : Below (w1.heap.size + 1) wr w2) :
    LstAt sz (l ++ [t]) w1 (w2.setCell ⟨w1.heap.size, 1, none⟩ (.slice a' (l ++ [t]).length c')) :=
  ⟨a', c', (hB.keep hb (by omega)).set1 _, ownsRow_setCell_below hO (by show w1.heap.size < w1.heap.size + 1; omega) _, (hX.trans (hb.mono (by omega))).setCell (by show w1.heap.size ≤ w1.heap.size; omega) _, by have := hb.size; simp; omega⟩


set_option maxHeartbeats 1000000 in
theorem rep_any (s : Int) (a : Option Addr) (len cap : Nat) (zs : List Int) (n : Nat) (w : World) (h : IntsAt w a len zs) (hl : len ≤ 1048576) (ho : Ok s zs) (hn : n ≤ 24) :
    Calls Try.prog 41 #[rhy s a len cap, .int .i64 n] w (RhyPost ((n : Int) * s) (repL s zs n) w) := by
  have HS := Lib.hid h
  have HO' := Lib.hid ho
  have hs1 := ho.1.1
  have hs2 := ho.1.2
  have hzl := ok_len ho
  have hbn := bs_bd (b := n) (s := s) hn (by omega) hs2
  obtain ⟨hbn1, hbn2⟩ := hbn
  clear h ho
  obtain ⟨w1, hW⟩ : ∃ w1, w1 = (w.alloc (.cells #[.int .i64 s, .slice a len cap] 25)).alloc (.cells #[.int .i64 0, .slice none 0 0] 25) := ⟨_, rfl⟩
  have HW := Lib.hid hW
  have B1 := Lib.hid (show Below w.heap.size w w1 by rw [hW]; exact bel2 w _ _)
  have T1 := Lib.hid (show Two w1 w.heap.size (.int .i64 s) (.slice a len cap) by rw [hW]; exact (two_new w _ _ _).keep (bel1 _ _))
  have U1 := Lib.hid (show Box w1 (w.heap.size + 1) (.int .i64 0) (.slice none 0 0) 25 by
    rw [hW]
    have := box_new (w.alloc (.cells #[.int .i64 s, .slice a len cap] 25)) (.int .i64 0) (.slice none 0 0) 25
    simpa using this)
  have hz1 := U1.out.lt
  have HSZ := Lib.hid (show w1.heap.size = w.heap.size + 1 + 1 by rw [hW]; simp)
  clear hW
  go_enter Try.func41, Try.ntmps41
  go_wp2
  rw [← HW.out, ← HSZ.out]
  go_loopw [15] (fun i wr => ∃ b : Nat, b ≤ n ∧ i = .int .i64 b ∧ LstAt ((n : Int) * s) (repL s zs b) w1 wr) (fun i _ => n - (intOf i).toNat)
  case atStart => exact ⟨0, by omega, rfl, lst_start _ w1⟩
  case round =>
    obtain ⟨b, hb, rfl, hat⟩ := hrel
    have HA := Lib.hid hat
    clear hat
    obtain ⟨wo, rfl⟩ : ∃ wo : World, wo = wr := ⟨_, rfl⟩
    have hxx : Below w1.heap.size w1 wo := by obtain ⟨_, _, _, _, h, _⟩ := HA.out; exact h
    obtain ⟨x1, x1a, x1b⟩ := (T1.out.keep hxx)
    clear hxx
    by_cases hlt : b < n
    · have hbs := bs_bd (b := b) (s := s) (by omega) (by omega) hs2
      obtain ⟨hbs1, hbs2⟩ := hbs
      go_wp2
      go_loopw [21] (fun i wr => ∃ j : Nat, j ≤ len ∧ i = .int .i64 j ∧ LstAt ((n : Int) * s) (repP s zs b j) w1 wr) (fun i _ => len - (intOf i).toNat)
      case atStart => exact ⟨0, by omega, rfl, by rw [repP_zero]; exact HA.out⟩
      case round =>
        obtain ⟨j, hj, rfl, av, cv, hb0, hown, hnx, hsz⟩ := hrel
        have H0 := Lib.hid hb0
        have HO := Lib.hid hown
        have HX := Lib.hid hnx
        have HZ := Lib.hid hsz
        obtain ⟨c0, c1, f0, f1⟩ := H0.out.facts
        have lt0 := hb0.lt
        obtain ⟨y1, y1a, y1b⟩ := (T1.out.keep hnx)
        clear hb0 hown hnx hsz
        have HI : Hid (IntsAt wr a len zs) := Lib.hid (HS.out.below (B1.out.trans (HX.out.mono (by have := B1.out.size; omega))))
        by_cases hjl : j < len
        · obtain ⟨g, off, z, rfl, hg, hs, hc, hz1, hz2⟩ := HI.out.at hjl
          obtain ⟨hz0, hzs⟩ := ok_at HO'.out hs
          have HN := Lib.hid (repP_snoc (s := s) (b := b) hs)
          clear hs
          go_wp2_with (at_builtin; refine append_int rfl _ _ rfl (w1.heap.size + 1) _ (repP s zs b j) _ _ HO.out (by have := repP_len s zs b j; have := len_bd (b := b) (n := zs.length) (by omega) hzl; omega) HZ.out _ rfl rfl rfl ?_; intro a' c' w' hown' hb'; have HO2 := Lib.hid hown'; have HX2 := Lib.hid hb'; have hq := HX2.out.frozen (p := ⟨w1.heap.size, 1, none⟩) (by show w1.heap.size < w1.heap.size + 1; omega); have hq2 := HX2.out.cell (p := ⟨w1.heap.size, 1, none⟩) (by show w1.heap.size < w1.heap.size + 1; omega); clear hown' hb')
          go_roundw
          case rel =>
            refine ⟨j + 1, by omega, by go_num, ?_⟩
            rw [HN.out]
            have := lst_snoc H0.out HX.out HZ.out HO2.out HX2.out
            simpa using this
          case measure => simp [intOf]; omega
        · have HL : Hid (LstAt ((n : Int) * s) (repL s zs (b + 1)) w1 wr) := Lib.hid (by rw [← repP_all s zs b j (by have := HS.out.len; omega)]; exact ⟨av, cv, H0.out, HO.out, HX.out, HZ.out⟩)
          go_wp2
          go_roundw
          case rel => exact ⟨b + 1, by omega, by go_num, HL.out⟩
          case measure => simp [intOf]; omega
    · obtain ⟨av, cv, hb0, hown, hnx, hsz⟩ := HA.out
      have e : b = n := by omega
      have H0 := Lib.hid hb0
      have HO := Lib.hid hown
      have HX := Lib.hid hnx
      obtain ⟨c0, c1, f0, f1⟩ := H0.out.facts
      have lt0 := hb0.lt
      obtain ⟨y1, y2, y3, y4⟩ := (U1.out.keep hnx U1.out.lt).facts
      have y5 := (U1.out.keep hnx U1.out.lt).lt
      have b1 := B1.out.size
      clear hb0 hown hnx hsz
      subst e
      go_wp2
      refine bodyPost_ret (v := rhy ((b : Int) * s) av (repL s zs b).length cv) (by simp [results, Try.results41, go_sem, *]) rfl ⟨av, cv, rfl, ?_, ?_⟩
      · exact own_base (ownsRow_setCell_below (ownsRow_setCell_below HO.out (by show w.heap.size + 1 < w1.heap.size + 1; have := U1.out.lt; omega) _) (by show w.heap.size + 1 < w1.heap.size + 1; have := U1.out.lt; omega) _) (by omega)
      · exact ((B1.out.trans (HX.out.mono (by omega))).setCell (by simp) _).setCell (by simp) _

set_option maxHeartbeats 1000000 in
theorem rep_impl (s : Int) (a : Option Addr) (len cap : Nat) (zs : List Int) (k : Int) (w : World) (h : IntsAt w a len zs) (hm : zs.length ≤ 1048576) (h3 : -9223372036854775808 ≤ k) (h4 : k ≤ 9223372036854775807) :
    Calls Try.prog 17 #[rhy s a len cap, .int .i64 k] w (CPost (Ok s zs ∧ 1 ≤ k ∧ k * s ≤ 24) (k * s) (repL s zs k.toNat) w) := by
  have HS := Lib.hid h
  have hl : len ≤ 1048576 := by have := h.1; omega
  clear h
  obtain ⟨W0, hW⟩ : ∃ W0, W0 = (w.alloc (.cells #[.int .i64 s, .slice a len cap] 25)).alloc (.cells #[.int .i64 0, .slice none 0 0] 25) := ⟨_, rfl⟩
  have HW := Lib.hid hW
  have HB := Lib.hid (show Below w.heap.size w W0 by rw [hW]; exact bel2 w _ _)
  have HT := Lib.hid (show Two W0 w.heap.size (.int .i64 s) (.slice a len cap) by rw [hW]; exact (two_new w _ _ _).keep (bel1 _ _))
  have HU := Lib.hid (show Box W0 (w.heap.size + 1) (.int .i64 0) (.slice none 0 0) 25 by
    rw [hW]
    have := box_new (w.alloc (.cells #[.int .i64 s, .slice a len cap] 25)) (.int .i64 0) (.slice none 0 0) 25
    simpa using this)
  have hz0 := HU.out.lt
  clear hW
  by_cases ho : Ok s zs
  · have HO := Lib.hid ho
    have hs1 := ho.1.1
    have hs2 := ho.1.2
    have hzl := ok_len ho
    have hsz : (s == 0) = false := by simp; omega
    by_cases hk1 : 1 ≤ k
    · have hd0 : decide (k < 1) = false := by simp; omega
      by_cases hks : k * s ≤ 24
      · have hd1 : decide (24 / s < k) = false := by
          have := (Int.le_ediv_iff_mul_le (show 0 < s by omega)).2 hks
          simp; omega
        have hk24 : k ≤ 24 := by have := Int.mul_le_mul_of_nonneg_left hs1 (show 0 ≤ k by omega); omega
        obtain ⟨n, rfl⟩ : ∃ n : Nat, k = n := ⟨k.toNat, by omega⟩
        have HC := Lib.hid (show Ok s zs ∧ 1 ≤ (n : Int) ∧ (n : Int) * s ≤ 24 from ⟨ho, hk1, hks⟩)
        clear ho hks
        go_enter Try.func17, Try.ntmps17
        go_wp2_with fail
        rw [← HW.out]
        refine (valid_yes s a len cap zs _ (HS.out.below HB.out) hl HO.out).mono ?_
        rintro e w1 ⟨rfl, hb1⟩
        have B1 := Lib.hid (HB.out.trans (hb1.mono HB.out.size))
        have T1 := Lib.hid (HT.out.keep hb1)
        have U1 := Lib.hid (HU.out.keep hb1 hz0)
        obtain ⟨t1, t1a, t1b⟩ := T1.out
        clear hb1
        go_wp2_with fail
        refine (rep_any s a len cap zs n w1 (HS.out.below B1.out) hl HO.out (by omega)).mono ?_
        rintro e w2 ⟨a2, cap2, rfl, hown2, hb2⟩
        have HO2 := Lib.hid hown2
        have HB2 := Lib.hid hb2
        obtain ⟨q0, q1, q2, q3⟩ := (U1.out.keep hb2 U1.out.lt).facts
        have l1 := (U1.out.keep hb2 U1.out.lt).lt
        have l2 := U1.out.lt
        clear hown2 hb2
        go_wp2
        refine bodyPost_ret (v := .tuple #[rhy ((n : Int) * s) a2 (repL s zs n).length cap2, .bool true]) (by simp [results, Try.results17, go_sem, *]) rfl (cpost_yes HC.out rfl ?_ ?_)
        · exact own_base (ownsRow_setCell_below (ownsRow_setCell_below HO2.out (by show w.heap.size + 1 < w1.heap.size; omega) _) (by show w.heap.size + 1 < w1.heap.size; omega) _) (by omega)
        · exact ((B1.out.trans (HB2.out.mono (by omega))).setCell (by simp) _).setCell (by simp) _
      · have hd1 : decide (24 / s < k) = true := by
          have := (Int.le_ediv_iff_mul_le (a := k) (b := 24) (show 0 < s by omega)).1
          simp
          rcases (show 24 / s < k ∨ k ≤ 24 / s by omega) with h | h
          · exact h
          · exact absurd (this h) hks
        have HC := Lib.hid (show ¬ (Ok s zs ∧ 1 ≤ k ∧ k * s ≤ 24) from fun q => hks q.2.2)
        clear ho hks
        go_enter Try.func17, Try.ntmps17
        go_wp2_with fail
        rw [← HW.out]
        refine (valid_yes s a len cap zs _ (HS.out.below HB.out) hl HO.out).mono ?_
        rintro e w1 ⟨rfl, hb1⟩
        have B1 := Lib.hid (HB.out.trans (hb1.mono HB.out.size))
        have T1 := Lib.hid (HT.out.keep hb1)
        have U1 := Lib.hid (HU.out.keep hb1 hz0)
        obtain ⟨t1, t1a, t1b⟩ := T1.out
        clear hb1
        obtain ⟨q0, q1, q2, q3⟩ := U1.out.facts
        have l1 := U1.out.lt
        go_wp2
        refine bodyPost_ret (v := .tuple #[rhy 0 none 0 0, .bool false]) (by simp [results, Try.results17, go_sem, *]) rfl (cpost_no HC.out ?_)
        exact (B1.out.setCell (by simp) _).setCell (by simp) _
    · have hd0 : decide (k < 1) = true := by simp; omega
      have HC := Lib.hid (show ¬ (Ok s zs ∧ 1 ≤ k ∧ k * s ≤ 24) from fun q => hk1 q.2.1)
      clear ho hk1
      go_enter Try.func17, Try.ntmps17
      go_wp2_with fail
      rw [← HW.out]
      refine (valid_yes s a len cap zs _ (HS.out.below HB.out) hl HO.out).mono ?_
      rintro e w1 ⟨rfl, hb1⟩
      have B1 := Lib.hid (HB.out.trans (hb1.mono HB.out.size))
      have T1 := Lib.hid (HT.out.keep hb1)
      have U1 := Lib.hid (HU.out.keep hb1 hz0)
      obtain ⟨t1, t1a, t1b⟩ := T1.out
      clear hb1
      obtain ⟨q0, q1, q2, q3⟩ := U1.out.facts
      have l1 := U1.out.lt
      go_wp2
      refine bodyPost_ret (v := .tuple #[rhy 0 none 0 0, .bool false]) (by simp [results, Try.results17, go_sem, *]) rfl (cpost_no HC.out ?_)
      exact (B1.out.setCell (by simp) _).setCell (by simp) _
  · have HO := Lib.hid ho
    have HC := Lib.hid (show ¬ (Ok s zs ∧ 1 ≤ k ∧ k * s ≤ 24) from fun q => ho q.1)
    clear ho
    go_enter Try.func17, Try.ntmps17
    go_wp2_with fail
    rw [← HW.out]
    refine (valid_no s a len cap zs _ (HS.out.below HB.out) hl HO.out).mono ?_
    rintro e w1 ⟨rfl, hb1⟩
    have B1 := Lib.hid (HB.out.trans (hb1.mono HB.out.size))
    have T1 := Lib.hid (HT.out.keep hb1)
    have U1 := Lib.hid (HU.out.keep hb1 hz0)
    obtain ⟨t1, t1a, t1b⟩ := T1.out
    clear hb1
    obtain ⟨q0, q1, q2, q3⟩ := U1.out.facts
    have l1 := U1.out.lt
    go_wp2
    refine bodyPost_ret (v := .tuple #[rhy 0 none 0 0, .bool false]) (by simp [results, Try.results17, go_sem, *]) rfl (cpost_no HC.out ?_)
    exact (B1.out.setCell (by simp) _).setCell (by simp) _
end Go.Proofs.Ytcppmcacjjjjeab.Rhy
