/-
  Helpers of the claims beside this text: IntervalBetween, IsFlat, IsDeep of the program.
-/
import Derived.Test.YtcppmcacjjjjeaaDfk
import Derived.Test.YtcppmcacjjjjeaaIvu
import Derived.Test.YtcppmcacjjjjeaaCpt
import Derived.Lib.LazyBuf
namespace Go.Proofs.Ytcppmcacjjjjeaa.Rhy
open Go.RowKit Go.Maps
set_option linter.unusedVariables false
set_option linter.unusedSimpArgs false

set_option maxHeartbeats 1000000 in
theorem bet_impl (s : Int) (a : Option Addr) (len cap : Nat) (zs : List Int) (p q : Int) (w : World) (h : IntsAt w a len zs) (hm : zs.length ≤ 1048576) (hp1 : -9223372036854775808 ≤ p) (hp2 : p ≤ 9223372036854775807) (hq1 : -9223372036854775808 ≤ q) (hq2 : q ≤ 9223372036854775807) :
    Calls Try.prog 34 #[rhy s a len cap, .int .i64 p, .int .i64 q] w fun e w' => e = .returned (.int .i64 (betB s zs p q)) ∧ Below w.heap.size w w' := by
  have HS := Lib.hid h
  have hl : len ≤ 1048576 := by have := h.1; omega
  clear h
  by_cases ho : Ok s zs
  · have HO := Lib.hid ho
    have hs1 := ho.1.1
    have hs2 := ho.1.2
    by_cases hp : p ∈ zs
    · have HP := Lib.hid (hasB_mem.2 hp)
      by_cases hq : q ∈ zs
      · obtain ⟨n, rfl⟩ : ∃ n : Nat, s = n := ⟨s.toNat, by omega⟩
        obtain ⟨r, hr⟩ : ∃ r : Nat, remB (p - q) n = r := ⟨(remB (p - q) n).toNat, by have := remB_bd (p - q) n (by omega); omega⟩
        have HR := Lib.hid hr
        have HQ := Lib.hid (hasB_mem.2 hq)
        have HE := Lib.hid (betB_yes ⟨ho, hp, hq⟩)
        obtain ⟨hpa, hpb⟩ := ok_range ho p hp
        obtain ⟨hqa, hqb⟩ := ok_range ho q hq
        obtain ⟨ra, rb⟩ := remB_bd (p - q) n (by omega)
        rw [hr] at ra rb
        have hrn : r < n := by omega
        have HV : Hid (betB n zs p q = (shB n r : Nat)) := Lib.hid (by rw [HE.out, hr]; unfold shB; omega)
        clear ho hp hq hr ra rb HE
        rw [HV.out]
        go_enter Try.func34, Try.ntmps34
        go_wp2_with fail
        refine (valid_yes n a len cap zs _ (HS.out.below (bel1 w _)) hl HO.out).mono ?_
        rintro e w1 ⟨rfl, hb1⟩
        have HB := Lib.hid ((bel1 w (.cells #[.int .i64 n, .slice a len cap] 25)).trans (hb1.mono (by simp)))
        have HT := Lib.hid ((two_new w (.int .i64 n) (.slice a len cap) 25).keep hb1)
        obtain ⟨t1, t1a, t1b⟩ := HT.out
        clear hb1
        go_wp2_with fail
        refine (same_of (contains_any a len cap zs p w1 (HS.out.below HB.out) (by omega))).mono ?_
        rintro e w' ⟨rfl, rfl⟩
        rw [HP.out]
        go_wp2_with fail
        refine (same_of (contains_any a len cap zs q w1 (HS.out.below HB.out) (by omega))).mono ?_
        rintro e w' ⟨rfl, rfl⟩
        rw [HQ.out]
        go_wp2_with fail
        refine (difOf_any n r a len cap p q w1 (by omega) (by omega) ⟨hpa, hpb⟩ ⟨hqa, hqb⟩ HR.out).mono ?_
        rintro e w2 ⟨rfl, hb2⟩
        have HB2 := Lib.hid (HB.out.trans (hb2.mono HB.out.size))
        clear hb2 t1 t1a t1b
        go_wp2_with fail
        refine (short_any n r w2 (by omega) (by omega) hrn).mono ?_
        rintro e w3 ⟨rfl, hb3⟩
        have HB3 := Lib.hid (HB2.out.trans (hb3.mono HB2.out.size))
        clear hb3
        go_wp2
        go_ret
        exact ⟨rfl, HB3.out⟩
      · have HQ := Lib.hid (hasB_no hq)
        have HE := Lib.hid (betB_no (s := s) (zs := zs) (p := p) (q := q) (fun x => hq x.2.2))
        clear ho hp hq
        rw [HE.out]
        go_enter Try.func34, Try.ntmps34
        go_wp2_with fail
        refine (valid_yes s a len cap zs _ (HS.out.below (bel1 w _)) hl HO.out).mono ?_
        rintro e w1 ⟨rfl, hb1⟩
        have HB := Lib.hid ((bel1 w (.cells #[.int .i64 s, .slice a len cap] 25)).trans (hb1.mono (by simp)))
        have HT := Lib.hid ((two_new w (.int .i64 s) (.slice a len cap) 25).keep hb1)
        obtain ⟨t1, t1a, t1b⟩ := HT.out
        clear hb1
        go_wp2_with fail
        refine (same_of (contains_any a len cap zs p w1 (HS.out.below HB.out) (by omega))).mono ?_
        rintro e w' ⟨rfl, rfl⟩
        rw [HP.out]
        go_wp2_with fail
        refine (same_of (contains_any a len cap zs q w1 (HS.out.below HB.out) (by omega))).mono ?_
        rintro e w' ⟨rfl, rfl⟩
        rw [HQ.out]
        go_wp2
        go_ret
        exact ⟨rfl, HB.out⟩
    · have HP := Lib.hid (hasB_no hp)
      have HE := Lib.hid (betB_no (s := s) (zs := zs) (p := p) (q := q) (fun x => hp x.2.1))
      clear ho hp
      rw [HE.out]
      go_enter Try.func34, Try.ntmps34
      go_wp2_with fail
      refine (valid_yes s a len cap zs _ (HS.out.below (bel1 w _)) hl HO.out).mono ?_
      rintro e w1 ⟨rfl, hb1⟩
      have HB := Lib.hid ((bel1 w (.cells #[.int .i64 s, .slice a len cap] 25)).trans (hb1.mono (by simp)))
      have HT := Lib.hid ((two_new w (.int .i64 s) (.slice a len cap) 25).keep hb1)
      obtain ⟨t1, t1a, t1b⟩ := HT.out
      clear hb1
      go_wp2_with fail
      refine (same_of (contains_any a len cap zs p w1 (HS.out.below HB.out) (by omega))).mono ?_
      rintro e w' ⟨rfl, rfl⟩
      rw [HP.out]
      go_wp2
      go_ret
      exact ⟨rfl, HB.out⟩
  · have HO := Lib.hid ho
    have HE := Lib.hid (betB_no (s := s) (zs := zs) (p := p) (q := q) (fun x => ho x.1))
    clear ho
    rw [HE.out]
    go_enter Try.func34, Try.ntmps34
    go_wp2_with fail
    refine (valid_no s a len cap zs _ (HS.out.below (bel1 w _)) hl HO.out).mono ?_
    rintro e w1 ⟨rfl, hb1⟩
    have HB := Lib.hid ((bel1 w (.cells #[.int .i64 s, .slice a len cap] 25)).trans (hb1.mono (by simp)))
    clear hb1
    go_wp2
    go_ret
    exact ⟨rfl, HB.out⟩


/-! ### are all the same -/
theorem cup_one (d : Array Int) : ∀ m, 1 ≤ m → 1 ≤ (Lib.compactUpTo d m).length ∧ ((Lib.compactUpTo d m).length ≤ 1 ↔ ∀ j, j < m → d[j]! = d[0]!) := by
  intro m
  induction m with
  | zero => intro h; omega
  | succ m ih =>
    intro _
    rw [Lib.compactUpTo_succ]
    rcases Nat.eq_zero_or_pos m with h0 | h0
    · subst h0
      have e : Lib.compactUpTo d 0 = [] := by simp [Lib.compactUpTo]
      rw [e, Lib.keeps_lt_one d 0 (by omega)]
      refine ⟨by simp, ⟨fun _ j hj => ?_, fun _ => by simp⟩⟩
      rw [show j = 0 by omega]
    · obtain ⟨h1, h2⟩ := ih h0
      by_cases he : d[m]! = d[m - 1]!
      · rw [Lib.keeps_neg h0 he]
        simp only [Bool.false_eq_true, if_false, List.append_nil]
        refine ⟨h1, h2.trans ⟨fun h j hj => ?_, fun h j hj => h j (by omega)⟩⟩
        by_cases q : j = m
        · rw [q, he]; exact h (m - 1) (by omega)
        · exact h j (by omega)
      · rw [Lib.keeps_pos he]
        simp only [if_true, List.length_append, List.length_cons, List.length_nil]
        refine ⟨by omega, ⟨fun h => by omega, fun h => ?_⟩⟩
        exact absurd ((h m (by omega)).trans (h (m - 1) (by omega)).symm) he
theorem compact_one {l : List Int} (h : 1 ≤ l.length) : (Lib.compact l).length ≤ 1 ↔ ∀ (j : Nat) (x y : Int), l[j]? = some x → l[0]? = some y → x = y := by
  have h2 := (cup_one l.toArray l.length h).2
  have hat : ∀ {j : Nat} {x : Int}, l[j]? = some x → l.toArray[j]! = x := fun {j x} e => by simp [e]
  unfold Lib.compact
  rw [h2]
  constructor
  · intro hh j x y hx hy
    have hj : j < l.length := by
      rcases Nat.lt_or_ge j l.length with q | q
      · exact q
      · rw [List.getElem?_eq_none q] at hx; cases hx
    have := hh j hj
    rwa [hat hx, hat hy] at this
  · intro hh j hj
    have e1 := List.getElem?_eq_getElem hj
    have e0 := List.getElem?_eq_getElem (show 0 < l.length by omega)
    rw [hat e1, hat e0]
    exact hh j _ _ e1 e0
theorem flat_iff {n : Nat} {zs : List Int} (ho : Ok n zs) (hn : 2 ≤ n) : (Lib.compact ((difZ n zs).drop 1)).length ≤ 1 ↔ flatZ n zs := by
  have hl : (difZ n zs).length = n := by rw [difZ_len]; omega
  rw [compact_one (by rw [List.length_drop, hl]; omega)]
  have hat : ∀ i, i + 1 < n → ((difZ n zs).drop 1)[i]? = some ((difAt n zs ((i + 1 : Nat) : Int) : Nat) : Int) := fun i hi => by
    rw [List.getElem?_drop, Nat.add_comm, difZ_at (by omega)]
  unfold flatZ
  constructor
  · intro h i h2 h3
    have := h (i - 1) _ _ (hat (i - 1) (by omega)) (hat 0 (by omega))
    rw [show i - 1 + 1 = i by omega] at this
    have e : ((0 + 1 : Nat) : Int) = 1 := rfl
    rw [e] at this
    omega
  · intro h j x y hx hy
    rcases Nat.lt_or_ge (j + 1) n with q | q
    · rw [hat j q] at hx
      rw [hat 0 (by omega)] at hy
      have e : ((0 + 1 : Nat) : Int) = 1 := rfl
      rw [e] at hy
      rw [← Option.some.inj hx, ← Option.some.inj hy]
      by_cases q2 : j = 0
      · subst q2; rfl
      · have := h (j + 1) (by omega) (by omega)
        rw [this]
    · rw [List.getElem?_eq_none (by rw [List.length_drop, hl]; omega)] at hx
      cases hx
theorem flat_one {n : Nat} {zs : List Int} (hn : n ≤ 1) : flatZ n zs := by
  intro i h2 h3
  omega

theorem below_setCells' {B b : Nat} {a : World} (hb : B ≤ b) : ∀ (vs : List Value) (o : Nat) (w : World), Below B a w → Below B a (w.setCells b o vs)
  | [], _, _, h => h
  | v :: vs, o, w, h => below_setCells' hb vs (o + 1) _ (h.setCell (p := ⟨b, o, none⟩) hb v)

/-- slices.Compact at what lies behind the first number of a row of the call's own. -/
theorem compact_rest (B g n cap : Nat) (l : List Int) (w : World) (h : w.ownsRow B 3 1 (.slice (some ⟨g, 0, none⟩) n cap) n (ints l)) (hn1 : 1 ≤ n) (hn : n ≤ 1048576) (hB : B ≤ g) :
    Calls Try.prog 103 #[.slice (some ⟨g, 1, none⟩) (n - 1) (cap - 1)] w fun e w' => (∃ a c, e = .returned (.slice a (Lib.compact (l.drop 1)).length c)) ∧ Below B w w' := by
  have hl : l.length = n := (own_shape h).1
  have hcap := own_cap h
  have hdl : (l.drop 1).length = n - 1 := by rw [List.length_drop, hl]
  refine (Try.slices_Compact_int_cells g 1 (n - 1) (cap - 1) (l.drop 1) w (by omega) (by omega) (by omega) (fun j hj => ?_) (fun j hj => ?_)).mono ?_
  · have hc := h.cellAt (j + 1) (by omega)
    rw [Nat.add_comm 1 j, hc, ints, List.getElem?_map, List.getD_eq_getElem?_getD, List.getElem?_drop, Nat.add_comm 1 j, List.getElem?_eq_getElem (by omega)]
    rfl
  · rw [Nat.add_comm 1 j]
    exact h.frozenAt (j + 1)
  · rintro e w' ⟨rfl, q, rfl⟩
    rw [List.take_of_length_le (by omega)]
    exact ⟨⟨_, _, rfl⟩, below_setCells' hB _ _ _ (below_drewN (Below.refl _ _) q)⟩

set_option maxHeartbeats 400000 in
theorem flat_any (n : Nat) (a : Option Addr) (len cap : Nat) (zs : List Int) (q : Bool) (w : World) (h : IntsAt w a len zs) (hm : len ≤ 1048576) (ho : Ok n zs) (hq : flatB n zs = q) :
    Calls Try.prog 70 #[rhy n a len cap] w fun e w' => e = .returned (.bool q) ∧ Below w.heap.size w w' := by
  have HS := Lib.hid h
  have HO := Lib.hid ho
  have hn1 : 1 ≤ n := by have := ho.1.1; omega
  have hn24 : n ≤ 24 := by have := ho.1.2; omega
  have hdl : (difZ n zs).length = n := by rw [difZ_len]; omega
  have HQ := Lib.hid hq
  have HV : Hid (decide (((Lib.compact ((difZ n zs).drop 1)).length : Int) ≤ 1) = q) := Lib.hid (by
    rw [← hq]
    by_cases h2 : 2 ≤ n
    · by_cases hf : flatZ n zs
      · rw [flatB_yes ⟨ho, hf⟩]
        have := (flat_iff ho h2).2 hf
        exact decide_eq_true (by omega)
      · rw [flatB_no (fun x => hf x.2)]
        have : ¬ _ := fun x => hf ((flat_iff ho h2).1 x)
        exact decide_eq_false (by omega)
    · rw [flatB_yes ⟨ho, flat_one (by omega)⟩]
      have := Lib.compact_length_le ((difZ n zs).drop 1)
      rw [List.length_drop, hdl] at this
      exact decide_eq_true (by omega))
  have HDI := Lib.hid (dif_int ho)
  have HDL := Lib.hid hdl
  have hcl : (Lib.compact ((difZ n zs).drop 1)).length ≤ 24 := by
    have := Lib.compact_length_le ((difZ n zs).drop 1)
    rw [List.length_drop, hdl] at this
    omega
  clear h ho hq hdl
  go_enter Try.func70, Try.ntmps70
  go_wp2_with fail
  refine (counts_any n a len cap zs _ (HS.out.below (bel1 w _)) hm HO.out).mono ?_
  rintro e w1 ⟨b, c, rfl, hown, hb1⟩
  rw [HDL.out] at hown ⊢
  have hsh := hown
  obtain ⟨_, b', c', hv, hg⟩ := own_shape hown
  obtain ⟨g, hbg, hBg, hgl, _⟩ := hg (by omega)
  simp only [Value.slice.injEq] at hv
  obtain ⟨rfl, _, rfl⟩ := hv
  subst hbg
  have hcap := own_cap hown
  have HB := Lib.hid ((bel1 w (.cells #[.int .i64 n, .slice a len cap] 25)).trans (hb1.mono (by simp)))
  have HOW := Lib.hid hown
  have hBg' : w.heap.size ≤ g := by simp at hBg; omega
  clear hown hb1 hsh
  obtain ⟨L, hL⟩ : ∃ L, (Lib.compact ((difZ n zs).drop 1)).length = L := ⟨_, rfl⟩
  have HLL := Lib.hid hL
  rw [hL] at HV hcl
  have hlq := HV.out
  clear hL
  go_wp2_with fail
  · rename_i hc1
    have hn2 : n = 1 := by omega
    have hL0 : L = 0 := by
      have := Lib.compact_length_le ((difZ n zs).drop 1)
      rw [List.length_drop, HDL.out, HLL.out] at this
      omega
    have HC : ∀ (p : Option Addr) (c : Nat) (W : World), Calls Try.prog 103 #[.slice p (n - 1) c] W fun e w' => (∃ a c, e = .returned (.slice a L c)) ∧ Below w.heap.size W w' := fun p c W => by
      rw [hn2, hL0]
      refine (Try.slices_Compact_int_empty p c W).mono ?_
      rintro e w' ⟨rfl, rfl⟩
      exact ⟨⟨_, _, rfl⟩, Below.refl _ _⟩
    refine (HC _ _ w1).mono ?_
    rintro e w2 ⟨⟨p2, c2, rfl⟩, hb2⟩
    have HB2 := Lib.hid (HB.out.trans hb2)
    have HQT : Hid (true = q) := Lib.hid (by rw [← HV.out]; exact (decide_eq_true (by omega)).symm)
    clear hb2
    go_wp2
    go_ret
    exact ⟨ret_bool HQT.out, HB2.out⟩
  · refine (compact_rest _ g n c _ _ HOW.out (by omega) (by omega) hBg).mono ?_
    rw [HLL.out]
    rintro e w2 ⟨⟨p2, c2, rfl⟩, hb2⟩
    have HB2 := Lib.hid (HB.out.trans (hb2.mono (by simp)))
    clear hb2
    go_wp2
    go_ret
    exact ⟨rfl, HB2.out⟩

theorem flat_impl (s : Int) (a : Option Addr) (len cap : Nat) (zs : List Int) (w : World) (h : IntsAt w a len zs) (hm : zs.length ≤ 1048576) :
    Calls Try.prog 28 #[rhy s a len cap] w fun e w' => e = .returned (.bool (flatB s zs)) ∧ Below w.heap.size w w' := by
  have HS := Lib.hid h
  have hl : len ≤ 1048576 := by have := h.1; omega
  clear h
  by_cases ho : Ok s zs
  · obtain ⟨n, rfl⟩ : ∃ n : Nat, s = n := ⟨s.toNat, by have := ho.1; omega⟩
    have HO := Lib.hid ho
    obtain ⟨q, hq⟩ : ∃ q, flatB n zs = q := ⟨_, rfl⟩
    have HQ := Lib.hid hq
    clear ho hq
    rw [HQ.out]
    go_enter Try.func28, Try.ntmps28
    go_wp2_with fail
    refine (valid_yes n a len cap zs _ (HS.out.below (bel1 w _)) hl HO.out).mono ?_
    rintro e w1 ⟨rfl, hb1⟩
    have HB := Lib.hid ((bel1 w (.cells #[.int .i64 n, .slice a len cap] 25)).trans (hb1.mono (by simp)))
    have HT := Lib.hid ((two_new w (.int .i64 n) (.slice a len cap) 25).keep hb1)
    obtain ⟨t1, t1a, t1b⟩ := HT.out
    clear hb1
    go_wp2_with fail
    refine (flat_any n a len cap zs q w1 (HS.out.below HB.out) hl HO.out HQ.out).mono ?_
    rintro e w2 ⟨rfl, hb⟩
    have HB2 := Lib.hid (HB.out.trans (hb.mono HB.out.size))
    clear hb
    go_wp2
    go_ret
    exact ⟨rfl, HB2.out⟩
  · have HO := Lib.hid ho
    have HE := Lib.hid (flatB_no (s := s) (zs := zs) (fun x => ho x.1))
    clear ho
    rw [HE.out]
    go_enter Try.func28, Try.ntmps28
    go_wp2_with fail
    refine (valid_no s a len cap zs _ (HS.out.below (bel1 w _)) hl HO.out).mono ?_
    rintro e w1 ⟨rfl, hb1⟩
    have HB := Lib.hid ((bel1 w (.cells #[.int .i64 s, .slice a len cap] 25)).trans (hb1.mono (by simp)))
    clear hb1
    go_wp2
    go_ret
    exact ⟨rfl, HB.out⟩
end Go.Proofs.Ytcppmcacjjjjeaa.Rhy
