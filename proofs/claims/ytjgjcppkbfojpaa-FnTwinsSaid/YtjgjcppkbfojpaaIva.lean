/-
  Helpers of the claims beside this text: IntervalBetween, IsFlat, IsDeep of the program.
-/
import Derived.Test.YtjgjcppkbfojpaaDfi
import Derived.Test.YtjgjcppkbfojpaaOvr
import Derived.Test.YtjgjcppkbfojpaaIvs
import Derived.Test.YtjgjcppkbfojpaaCmp
import Derived.Test.YtjgjcppkbfojpaaLsi
import Derived.Lib.LazyBuf
namespace Go.Proofs.Ytjgjcppkbfojpaa.Rhy
open Go.RowKit Go.Maps
set_option linter.unusedVariables false
set_option linter.unusedSimpArgs false

set_option maxHeartbeats 1000000 in
theorem bet_impl (s : Int) (a : Option Addr) (len cap : Nat) (zs : List Int) (p q : Int) (w : World) (h : IntsAt w a len zs) (hm : zs.length ≤ 1048576) (hp1 : -9223372036854775808 ≤ p) (hp2 : p ≤ 9223372036854775807) (hq1 : -9223372036854775808 ≤ q) (hq2 : q ≤ 9223372036854775807) :
    Calls Try.prog 29 #[rhy s a len cap, .int .i64 p, .int .i64 q] w fun e w' => e = .returned (.int .i64 (betB s zs p q)) ∧ Below w.heap.size w w' := by
  have HS := Lib.hid h
  have hl : len ≤ 1048576 := by have := h.1; omega
  clear h
  by_cases ho : Ok s zs
  · have HO := Lib.hid ho
    have hs1 := ho.1.1
    have hs2 := ho.1.2
    by_cases hp : p ∈ zs
    · have HP := Lib.hid (hasB_mem.2 hp)
      by_cases hq : q ∈ zs
      · obtain ⟨n, rfl⟩ : ∃ n : Nat, s = n := ⟨s.toNat, by omega⟩
        obtain ⟨r, hr⟩ : ∃ r : Nat, remB (p - q) n = r := ⟨(remB (p - q) n).toNat, by have := remB_bd (p - q) n (by omega); omega⟩
        have HR := Lib.hid hr
        have HQ := Lib.hid (hasB_mem.2 hq)
        have HE := Lib.hid (betB_yes ⟨ho, hp, hq⟩)
        obtain ⟨hpa, hpb⟩ := ok_range ho p hp
        obtain ⟨hqa, hqb⟩ := ok_range ho q hq
        obtain ⟨ra, rb⟩ := remB_bd (p - q) n (by omega)
        rw [hr] at ra rb
        have hrn : r < n := by omega
        have HV : Hid (betB n zs p q = (shB n r : Nat)) := Lib.hid (by rw [HE.out, hr]; unfold shB; omega)
        clear ho hp hq hr ra rb HE
        rw [HV.out]
        go_enter Try.func29, Try.ntmps29
        go_wp2_with fail
        refine (valid_yes n a len cap zs _ (HS.out.below (bel1 w _)) hl HO.out).mono ?_
        rintro e w1 ⟨rfl, hb1⟩
        have HB := Lib.hid ((bel1 w (.cells #[.int .i64 n, .slice a len cap] 25)).trans (hb1.mono (by simp)))
        have HT := Lib.hid ((two_new w (.int .i64 n) (.slice a len cap) 25).keep hb1)
        obtain ⟨t1, t1a, t1b⟩ := HT.out
        clear hb1
        go_wp2_with fail
        refine (same_of (contains_any a len cap zs p w1 (HS.out.below HB.out) (by omega))).mono ?_
        rintro e w' ⟨rfl, rfl⟩
        rw [HP.out]
        go_wp2_with fail
        refine (same_of (contains_any a len cap zs q w1 (HS.out.below HB.out) (by omega))).mono ?_
        rintro e w' ⟨rfl, rfl⟩
        rw [HQ.out]
        go_wp2_with fail
        refine (difOf_any n r a len cap p q w1 (by omega) (by omega) ⟨hpa, hpb⟩ ⟨hqa, hqb⟩ HR.out).mono ?_
        rintro e w2 ⟨rfl, hb2⟩
        have HB2 := Lib.hid (HB.out.trans (hb2.mono HB.out.size))
        clear hb2 t1 t1a t1b
        go_wp2_with fail
        refine (short_any n r w2 (by omega) (by omega) hrn).mono ?_
        rintro e w3 ⟨rfl, hb3⟩
        have HB3 := Lib.hid (HB2.out.trans (hb3.mono HB2.out.size))
        clear hb3
        go_wp2
        go_ret
        exact ⟨rfl, HB3.out⟩
      · have HQ := Lib.hid (hasB_no hq)
        have HE := Lib.hid (betB_no (s := s) (zs := zs) (p := p) (q := q) (fun x => hq x.2.2))
        clear ho hp hq
        rw [HE.out]
        go_enter Try.func29, Try.ntmps29
        go_wp2_with fail
        refine (valid_yes s a len cap zs _ (HS.out.below (bel1 w _)) hl HO.out).mono ?_
        rintro e w1 ⟨rfl, hb1⟩
        have HB := Lib.hid ((bel1 w (.cells #[.int .i64 s, .slice a len cap] 25)).trans (hb1.mono (by simp)))
        have HT := Lib.hid ((two_new w (.int .i64 s) (.slice a len cap) 25).keep hb1)
        obtain ⟨t1, t1a, t1b⟩ := HT.out
        clear hb1
        go_wp2_with fail
        refine (same_of (contains_any a len cap zs p w1 (HS.out.below HB.out) (by omega))).mono ?_
        rintro e w' ⟨rfl, rfl⟩
        rw [HP.out]
        go_wp2_with fail
        refine (same_of (contains_any a len cap zs q w1 (HS.out.below HB.out) (by omega))).mono ?_
        rintro e w' ⟨rfl, rfl⟩
        rw [HQ.out]
        go_wp2
        go_ret
        exact ⟨rfl, HB.out⟩
    · have HP := Lib.hid (hasB_no hp)
      have HE := Lib.hid (betB_no (s := s) (zs := zs) (p := p) (q := q) (fun x => hp x.2.1))
      clear ho hp
      rw [HE.out]
      go_enter Try.func29, Try.ntmps29
      go_wp2_with fail
      refine (valid_yes s a len cap zs _ (HS.out.below (bel1 w _)) hl HO.out).mono ?_
      rintro e w1 ⟨rfl, hb1⟩
      have HB := Lib.hid ((bel1 w (.cells #[.int .i64 s, .slice a len cap] 25)).trans (hb1.mono (by simp)))
      have HT := Lib.hid ((two_new w (.int .i64 s) (.slice a len cap) 25).keep hb1)
      obtain ⟨t1, t1a, t1b⟩ := HT.out
      clear hb1
      go_wp2_with fail
      refine (same_of (contains_any a len cap zs p w1 (HS.out.below HB.out) (by omega))).mono ?_
      rintro e w' ⟨rfl, rfl⟩
      rw [HP.out]
      go_wp2
      go_ret
      exact ⟨rfl, HB.out⟩
  · have HO := Lib.hid ho
    have HE := Lib.hid (betB_no (s := s) (zs := zs) (p := p) (q := q) (fun x => ho x.1))
    clear ho
    rw [HE.out]
    go_enter Try.func29, Try.ntmps29
    go_wp2_with fail
    refine (valid_no s a len cap zs _ (HS.out.below (bel1 w _)) hl HO.out).mono ?_
    rintro e w1 ⟨rfl, hb1⟩
    have HB := Lib.hid ((bel1 w (.cells #[.int .i64 s, .slice a len cap] 25)).trans (hb1.mono (by simp)))
    clear hb1
    go_wp2
    go_ret
    exact ⟨rfl, HB.out⟩


/-! ### are all the same -/
theorem cup_one (d : Array Int) : ∀ m, 1 ≤ m → 1 ≤ (Lib.compactUpTo d m).length ∧ ((Lib.compactUpTo d m).length ≤ 1 ↔ ∀ j, j < m → d[j]! = d[0]!) := by
  intro m
  induction m with
  | zero => intro h; omega
  | succ m ih =>
    intro _
    rw [Lib.compactUpTo_succ]
    rcases Nat.eq_zero_or_pos m with h0 | h0
    · subst h0
      have e : Lib.compactUpTo d 0 = [] := by simp [Lib.compactUpTo]
      rw [e, Lib.keeps_lt_one d 0 (by omega)]
      refine ⟨by simp, ⟨fun _ j hj => ?_, fun _ => by simp⟩⟩
      rw [show j = 0 by omega]
    · obtain ⟨h1, h2⟩ := ih h0
      by_cases he : d[m]! = d[m - 1]!
      · rw [Lib.keeps_neg h0 he]
        simp only [Bool.false_eq_true, if_false, List.append_nil]
        refine ⟨h1, h2.trans ⟨fun h j hj => ?_, fun h j hj => h j (by omega)⟩⟩
        by_cases q : j = m
        · rw [q, he]; exact h (m - 1) (by omega)
        · exact h j (by omega)
      · rw [Lib.keeps_pos he]
        simp only [if_true, List.length_append, List.length_cons, List.length_nil]
        refine ⟨by omega, ⟨fun h => by omega, fun h => ?_⟩⟩
        exact absurd ((h m (by omega)).trans (h (m - 1) (by omega)).symm) he
theorem compact_one {l : List Int} (h : 1 ≤ l.length) : (Lib.compact l).length ≤ 1 ↔ ∀ (j : Nat) (x y : Int), l[j]? = some x → l[0]? = some y → x = y := by
  have h2 := (cup_one l.toArray l.length h).2
  have hat : ∀ {j : Nat} {x : Int}, l[j]? = some x → l.toArray[j]! = x := fun {j x} e => by simp [e]
  unfold Lib.compact
  rw [h2]
  constructor
  · intro hh j x y hx hy
    have hj : j < l.length := by
      rcases Nat.lt_or_ge j l.length with q | q
      · exact q
      · rw [List.getElem?_eq_none q] at hx; cases hx
    have := hh j hj
    rwa [hat hx, hat hy] at this
  · intro hh j hj
    have e1 := List.getElem?_eq_getElem hj
    have e0 := List.getElem?_eq_getElem (show 0 < l.length by omega)
    rw [hat e1, hat e0]
    exact hh j _ _ e1 e0
theorem flat_iff {n : Nat} {zs : List Int} (ho : Ok n zs) (hn : 2 ≤ n) : (Lib.compact ((difZ n zs).drop 1)).length ≤ 1 ↔ flatZ n zs := by
  have hl : (difZ n zs).length = n := by rw [difZ_len]; omega
  rw [compact_one (by rw [List.length_drop, hl]; omega)]
  have hat : ∀ i, i + 1 < n → ((difZ n zs).drop 1)[i]? = some ((difAt n zs ((i + 1 : Nat) : Int) : Nat) : Int) := fun i hi => by
    rw [List.getElem?_drop, Nat.add_comm, difZ_at (by omega)]
  unfold flatZ
  constructor
  · intro h i h2 h3
    have := h (i - 1) _ _ (hat (i - 1) (by omega)) (hat 0 (by omega))
    rw [show i - 1 + 1 = i by omega] at this
    have e : ((0 + 1 : Nat) : Int) = 1 := rfl
    rw [e] at this
    omega
  · intro h j x y hx hy
    rcases Nat.lt_or_ge (j + 1) n with q | q
    · rw [hat j q] at hx
      rw [hat 0 (by omega)] at hy
      have e : ((0 + 1 : Nat) : Int) = 1 := rfl
      rw [e] at hy
      rw [← Option.some.inj hx, ← Option.some.inj hy]
      by_cases q2 : j = 0
      · subst q2; rfl
      · have := h (j + 1) (by omega) (by omega)
        rw [this]
    · rw [List.getElem?_eq_none (by rw [List.length_drop, hl]; omega)] at hx
      cases hx
theorem flat_one {n : Nat} {zs : List Int} (hn : n ≤ 1) : flatZ n zs := by
  intro i h2 h3
  omega

theorem below_setCells' {B b : Nat} {a : World} (hb : B ≤ b) : ∀ (vs : List Value) (o : Nat) (w : World), Below B a w → Below B a (w.setCells b o vs)
  | [], _, _, h => h
  | v :: vs, o, w, h => below_setCells' hb vs (o + 1) _ (h.setCell (p := ⟨b, o, none⟩) hb v)

/-- slices.Compact at what lies behind the first number of a row of the call's own. -/
theorem compact_rest (B g n cap : Nat) (l : List Int) (w : World) (h : w.ownsRow B 3 1 (.slice (some ⟨g, 0, none⟩) n cap) n (ints l)) (hn1 : 1 ≤ n) (hn : n ≤ 1048576) (hB : B ≤ g) :
    Calls Try.prog 66 #[.slice (some ⟨g, 1, none⟩) (n - 1) (cap - 1)] w fun e w' => (∃ a c, e = .returned (.slice a (Lib.compact (l.drop 1)).length c)) ∧ Below B w w' := by
  have hl : l.length = n := (own_shape h).1
  have hcap := own_cap h
  have hdl : (l.drop 1).length = n - 1 := by rw [List.length_drop, hl]
  refine (Try.slices_Compact_int_cells g 1 (n - 1) (cap - 1) (l.drop 1) w (by omega) (by omega) (by omega) (fun j hj => ?_) (fun j hj => ?_)).mono ?_
  · have hc := h.cellAt (j + 1) (by omega)
    rw [Nat.add_comm 1 j, hc, ints, List.getElem?_map, List.getD_eq_getElem?_getD, List.getElem?_drop, Nat.add_comm 1 j, List.getElem?_eq_getElem (by omega)]
    rfl
  · rw [Nat.add_comm 1 j]
    exact h.frozenAt (j + 1)
  · rintro e w' ⟨rfl, q, rfl⟩
    rw [List.take_of_length_le (by omega)]
    exact ⟨⟨_, _, rfl⟩, below_setCells' hB _ _ _ (below_drewN (Below.refl _ _) q)⟩

set_option maxHeartbeats 400000 in
theorem flat_any (n : Nat) (a : Option Addr) (len cap : Nat) (zs : List Int) (q : Bool) (w : World) (h : IntsAt w a len zs) (hm : len ≤ 1048576) (ho : Ok n zs) (hq : flatB n zs = q) :
    Calls Try.prog 81 #[rhy n a len cap] w fun e w' => e = .returned (.bool q) ∧ Below w.heap.size w w' := by
  have HS := Lib.hid h
  have HO := Lib.hid ho
  have hn1 : 1 ≤ n := by have := ho.1.1; omega
  have hn24 : n ≤ 24 := by have := ho.1.2; omega
  have hdl : (difZ n zs).length = n := by rw [difZ_len]; omega
  have HQ := Lib.hid hq
  have HV : Hid (decide (((Lib.compact ((difZ n zs).drop 1)).length : Int) ≤ 1) = q) := Lib.hid (by
    rw [← hq]
    by_cases h2 : 2 ≤ n
    · by_cases hf : flatZ n zs
      · rw [flatB_yes ⟨ho, hf⟩]
        have := (flat_iff ho h2).2 hf
        exact decide_eq_true (by omega)
      · rw [flatB_no (fun x => hf x.2)]
        have : ¬ _ := fun x => hf ((flat_iff ho h2).1 x)
        exact decide_eq_false (by omega)
    · rw [flatB_yes ⟨ho, flat_one (by omega)⟩]
      have := Lib.compact_length_le ((difZ n zs).drop 1)
      rw [List.length_drop, hdl] at this
      exact decide_eq_true (by omega))
  have HDI := Lib.hid (dif_int ho)
  have HDL := Lib.hid hdl
  have hcl : (Lib.compact ((difZ n zs).drop 1)).length ≤ 24 := by
    have := Lib.compact_length_le ((difZ n zs).drop 1)
    rw [List.length_drop, hdl] at this
    omega
  clear h ho hq hdl
  go_enter Try.func81, Try.ntmps81
  go_wp2_with fail
  refine (counts_any n a len cap zs _ (HS.out.below (bel1 w _)) hm HO.out).mono ?_
  rintro e w1 ⟨b, c, rfl, hown, hb1⟩
  rw [HDL.out] at hown ⊢
  have hsh := hown
  obtain ⟨_, b', c', hv, hg⟩ := own_shape hown
  obtain ⟨g, hbg, hBg, hgl, _⟩ := hg (by omega)
  simp only [Value.slice.injEq] at hv
  obtain ⟨rfl, _, rfl⟩ := hv
  subst hbg
  have hcap := own_cap hown
  have HB := Lib.hid ((bel1 w (.cells #[.int .i64 n, .slice a len cap] 25)).trans (hb1.mono (by simp)))
  have HOW := Lib.hid hown
  have hBg' : w.heap.size ≤ g := by simp at hBg; omega
  clear hown hb1 hsh
  obtain ⟨L, hL⟩ : ∃ L, (Lib.compact ((difZ n zs).drop 1)).length = L := ⟨_, rfl⟩
  have HLL := Lib.hid hL
  rw [hL] at HV hcl
  have hlq := HV.out
  clear hL
  go_wp2_with fail
  · rename_i hc1
    have hn2 : n = 1 := by omega
    have hL0 : L = 0 := by
      have := Lib.compact_length_le ((difZ n zs).drop 1)
      rw [List.length_drop, HDL.out, HLL.out] at this
      omega
    have HC : ∀ (p : Option Addr) (c : Nat) (W : World), Calls Try.prog 66 #[.slice p (n - 1) c] W fun e w' => (∃ a c, e = .returned (.slice a L c)) ∧ Below w.heap.size W w' := fun p c W => by
      rw [hn2, hL0]
      refine (Try.slices_Compact_int_empty p c W).mono ?_
      rintro e w' ⟨rfl, rfl⟩
      exact ⟨⟨_, _, rfl⟩, Below.refl _ _⟩
    refine (HC _ _ w1).mono ?_
    rintro e w2 ⟨⟨p2, c2, rfl⟩, hb2⟩
    have HB2 := Lib.hid (HB.out.trans hb2)
    have HQT : Hid (true = q) := Lib.hid (by rw [← HV.out]; exact (decide_eq_true (by omega)).symm)
    clear hb2
    go_wp2
    go_ret
    exact ⟨ret_bool HQT.out, HB2.out⟩
  · refine (compact_rest _ g n c _ _ HOW.out (by omega) (by omega) hBg).mono ?_
    rw [HLL.out]
    rintro e w2 ⟨⟨p2, c2, rfl⟩, hb2⟩
    have HB2 := Lib.hid (HB.out.trans (hb2.mono (by simp)))
    clear hb2
    go_wp2
    go_ret
    exact ⟨rfl, HB2.out⟩

theorem flat_impl (s : Int) (a : Option Addr) (len cap : Nat) (zs : List Int) (w : World) (h : IntsAt w a len zs) (hm : zs.length ≤ 1048576) :
    Calls Try.prog 31 #[rhy s a len cap] w fun e w' => e = .returned (.bool (flatB s zs)) ∧ Below w.heap.size w w' := by
  have HS := Lib.hid h
  have hl : len ≤ 1048576 := by have := h.1; omega
  clear h
  by_cases ho : Ok s zs
  · obtain ⟨n, rfl⟩ : ∃ n : Nat, s = n := ⟨s.toNat, by have := ho.1; omega⟩
    have HO := Lib.hid ho
    obtain ⟨q, hq⟩ : ∃ q, flatB n zs = q := ⟨_, rfl⟩
    have HQ := Lib.hid hq
    clear ho hq
    rw [HQ.out]
    go_enter Try.func31, Try.ntmps31
    go_wp2_with fail
    refine (valid_yes n a len cap zs _ (HS.out.below (bel1 w _)) hl HO.out).mono ?_
    rintro e w1 ⟨rfl, hb1⟩
    have HB := Lib.hid ((bel1 w (.cells #[.int .i64 n, .slice a len cap] 25)).trans (hb1.mono (by simp)))
    have HT := Lib.hid ((two_new w (.int .i64 n) (.slice a len cap) 25).keep hb1)
    obtain ⟨t1, t1a, t1b⟩ := HT.out
    clear hb1
    go_wp2_with fail
    refine (flat_any n a len cap zs q w1 (HS.out.below HB.out) hl HO.out HQ.out).mono ?_
    rintro e w2 ⟨rfl, hb⟩
    have HB2 := Lib.hid (HB.out.trans (hb.mono HB.out.size))
    clear hb
    go_wp2
    go_ret
    exact ⟨rfl, HB2.out⟩
  · have HO := Lib.hid ho
    have HE := Lib.hid (flatB_no (s := s) (zs := zs) (fun x => ho x.1))
    clear ho
    rw [HE.out]
    go_enter Try.func31, Try.ntmps31
    go_wp2_with fail
    refine (valid_no s a len cap zs _ (HS.out.below (bel1 w _)) hl HO.out).mono ?_
    rintro e w1 ⟨rfl, hb1⟩
    have HB := Lib.hid ((bel1 w (.cells #[.int .i64 s, .slice a len cap] 25)).trans (hb1.mono (by simp)))
    clear hb1
    go_wp2
    go_ret
    exact ⟨rfl, HB.out⟩
end Go.Proofs.Ytjgjcppkbfojpaa.Rhy

/-
  Helpers of the claims beside this text: IsDeep of the program.
-/
namespace Go.Proofs.Ytjgjcppkbfojpaa.Rhy
open Go.RowKit Go.Maps
set_option linter.unusedVariables false
set_option linter.unusedSimpArgs false
set_option maxRecDepth 100000

theorem lookup_seen {w : World} {b m : Nat} {L : List Int} {z : Int} {t : TypeId} (ht : Try.prog.underlying t = some (.map 3 4)) (hz : -9223372036854775808 ≤ z ∧ z ≤ 9223372036854775807) (h : Seen w b m L) :
    (Instr.lookup t (.map (some b)) (.int .i64 z) false).run Try.prog w = .ok (.bool (decide (z ∈ L))) w := by
  obtain ⟨D, hown, h1⟩ := h
  obtain ⟨v, ps, hrun, hv⟩ := hown.lookup lawN ht (zeroB w) (plainElem_bool Try.underlying4 false) (keyOf_int_mk Try.underlying3 (wfi hz))
  rw [h1 z] at hv
  obtain ⟨x', rfl, hx'⟩ := plainElem_bool_inv Try.underlying4 hv
  have e : decide (z ∈ L) = x' := by
    injection hx' with e1 _; injection e1 with e2; injection e2
  rw [e]
  exact hrun
theorem vec_nonneg {n : Int} {zs : List Int} : ∀ z ∈ vecZ n zs, 0 ≤ z ∧ z ≤ 9223372036854775807 → 0 ≤ z := fun z _ h => h.1
theorem vec_bd {n : Int} {zs : List Int} (ho : Ok n zs) : ∀ z ∈ vecZ n zs, 0 ≤ z ∧ z ≤ 24 := by
  intro z hz
  unfold vecZ at hz
  rw [List.mem_map] at hz
  obtain ⟨j, _, rfl⟩ := hz
  have := dif_le ho ((j + 1 : Nat) : Int)
  split <;> omega
set_option maxHeartbeats 1000000 in
theorem deep_any (n : Nat) (a : Option Addr) (len cap : Nat) (zs : List Int) (q : Bool) (w : World) (h : IntsAt w a len zs) (hm : len ≤ 1048576) (ho : Ok n zs) (hq : deepB n zs = q) :
    Calls Try.prog 80 #[rhy n a len cap] w fun e w' => e = .returned (.bool q) ∧ Below w.heap.size w w' := by
  have HS := Lib.hid h
  have HO := Lib.hid ho
  obtain ⟨V, hV⟩ : ∃ V, vecZ n zs = V := ⟨_, rfl⟩
  have HVE := Lib.hid hV
  have HQ := Lib.hid hq
  have HVB : Hid (∀ z ∈ V, 0 ≤ z ∧ z ≤ 24) := Lib.hid (by rw [← hV]; exact vec_bd ho)
  obtain ⟨vl, hvl⟩ : ∃ vl, V.length = vl := ⟨_, rfl⟩
  have HVL := Lib.hid hvl
  have hvl24 : vl ≤ 24 := by rw [← hvl, ← hV, vec_len]; have := ho.1; omega
  have HYES : Hid (deepZ V → true = q) := Lib.hid (fun x => by rw [← hq, deepB_yes ⟨ho, by rw [hV]; exact x⟩])
  have HNO : Hid (¬ deepZ V → false = q) := Lib.hid (fun x => by rw [← hq, deepB_no (fun y => x (by rw [← hV]; exact y.2))])
  clear h ho hV hq hvl
  obtain ⟨g, hg⟩ : ∃ g, g = w.heap.size := ⟨_, rfl⟩
  have HG := Lib.hid hg
  clear hg
  obtain ⟨W0, hW⟩ : ∃ W0, W0 = (w.alloc (.cells #[.int .i64 n, .slice a len cap] 25)).alloc (.map #[] 0) := ⟨_, rfl⟩
  have HW := Lib.hid hW
  have HSZ := Lib.hid (show W0.heap.size = g + 2 by rw [hW, HG.out]; simp)
  have HB0 := Lib.hid (show Below g w W0 by rw [hW, HG.out]; exact bel2 w _ _)
  have HX0 : Hid (Box W0 g (.int .i64 n) (.slice a len cap) 25) := Lib.hid (by rw [hW, HG.out]; exact (box_new w _ _ _).keep (bel1 _ _) (by simp))
  have HM0 : Hid (Seen W0 (g + 1) 0 []) := Lib.hid (by rw [hW, HG.out]; have := Seen.made (w.alloc (.cells #[.int .i64 n, .slice a len cap] 25)); simpa using this)
  clear hW
  have hmm := @run_makeMap Try.prog
  obtain ⟨c0, c1, f0, f1⟩ := HX0.out.facts
  rw [HG.out] at c0 c1 f0 f1
  go_enter Try.func80, Try.ntmps80
  go_wp2_with fail
  rw [← HW.out, ← HG.out]
  rw [← HG.out] at c0 c1
  refine (vector_any n a len cap zs W0 (HS.out.below (by rw [← HG.out]; exact HB0.out)) hm HO.out).mono ?_
  rw [HVE.out]
  rintro e w1 ⟨b, c, rfl, hown, hb1⟩
  rw [HVL.out, HSZ.out] at hown
  rw [HVL.out]
  have HOW0 := Lib.hid hown
  have HS1 := Lib.hid (HM0.out.below hb1)
  have hz1 := hb1.size
  have hsz := HSZ.out
  have HB1 := Lib.hid (HB0.out.trans (hb1.mono (by omega)))
  clear hown hb1 c0 c1 f0 f1
  go_wp2
  go_loopw [10] (fun i wr => ∃ k : Nat, k ≤ vl ∧ i = .int .i64 k ∧ Seen wr (g + 1) k (V.take k) ∧ deepP V k ∧ wr.ownsRow (g + 2) 3 1 (.slice b vl c) vl (ints V) ∧ Below g w wr) (fun i _ => vl - (intOf i).toNat)
  case atStart => exact ⟨0, by omega, rfl, HS1.out, fun j z hj => by omega, HOW0.out, HB1.out⟩
  case round =>
    clear HOW0 HS1 HB1
    obtain ⟨k, hk, rfl, hse, hdp, hown, hnx⟩ := hrel
    have HSE := Lib.hid hse
    have HDP := Lib.hid hdp
    have HX := Lib.hid hnx
    have hsl := HSE.out.lt
    by_cases hlt : k < vl
    · have HIA := Lib.hid (intsAt_own hown (fun z hz => by have := HVB.out z hz; omega))
      obtain ⟨gb, off, z, rfl, hb, hs, hc, hz1', hz2'⟩ := HIA.out.at hlt
      obtain ⟨hz0, hz24⟩ := HVB.out z (List.mem_of_getElem? hs)
      have HOW := Lib.hid hown
      have HTK : Hid (V.take (k + 1) = V.take k ++ [z]) := Lib.hid (by rw [List.take_add_one, hs]; rfl)
      clear hse hdp hnx hown
      by_cases h0 : z = 0
      · have HDN : Hid (deepP V (k + 1)) := Lib.hid (deep_next HDP.out hs (fun h => by omega))
        have hzb : (z != 0) = false := by simp [h0]
        clear hs h0
        go_wp2_with (at_mapUpdate; refine wpList_store_seen _ rfl _ _ _ _ rfl Try.underlying111 (g + 1) k (by omega) (V.take k) z ⟨by omega, by omega⟩ rfl HSE.out rfl rfl ?_; intro w3 hse3 hg3; go_frame)
        go_roundw
        case rel =>
          refine ⟨k + 1, by omega, by go_num, ?_, HDN.out, own_grown HOW.out hg3 (fun j hj e => by have h1 := (HOW.out.lt j hj).1; have h2 : g + 1 = j := Option.some.inj e; omega), HX.out.grown hg3 (by omega) (fun j e => by have h2 : g + 1 = j := Option.some.inj e; omega)⟩
          rw [HTK.out]
          exact hse3
        case measure => simp [intOf]; omega
      · have hzb : (z != 0) = true := by simp [h0]
        have hlk := lookup_seen Try.underlying111 ⟨hz1', hz2'⟩ HSE.out
        by_cases hin : z ∈ V.take k
        · have HQF := Lib.hid (HNO.out (fun h => h k z (by rw [HVL.out]; omega) hs (by omega) hin))
          rw [decide_eq_true hin] at hlk
          clear hs hin
          go_wp2
          go_ret
          exact ⟨ret_bool HQF.out, by rw [← HG.out]; exact HX.out⟩
        · have HDN : Hid (deepP V (k + 1)) := Lib.hid (deep_next HDP.out hs (fun _ => hin))
          rw [decide_eq_false hin] at hlk
          clear hs hin h0
          go_wp2_with (at_mapUpdate; refine wpList_store_seen _ rfl _ _ _ _ rfl Try.underlying111 (g + 1) k (by omega) (V.take k) z ⟨by omega, by omega⟩ rfl HSE.out rfl rfl ?_; intro w3 hse3 hg3; go_frame)
          go_roundw
          case rel =>
            refine ⟨k + 1, by omega, by go_num, ?_, HDN.out, own_grown HOW.out hg3 (fun j hj e => by have h1 := (HOW.out.lt j hj).1; have h2 : g + 1 = j := Option.some.inj e; omega), HX.out.grown hg3 (by omega) (fun j e => by have h2 : g + 1 = j := Option.some.inj e; omega)⟩
            rw [HTK.out]
            exact hse3
          case measure => simp [intOf]; omega
    · have e : k = V.length := by have := HVL.out; omega
      have HQT := Lib.hid (HYES.out (show deepZ V by unfold deepZ; rw [← e]; exact HDP.out))
      clear e hse hdp hnx
      go_wp2
      go_ret
      exact ⟨ret_bool HQT.out, by rw [← HG.out]; exact HX.out⟩
theorem deep_impl (s : Int) (a : Option Addr) (len cap : Nat) (zs : List Int) (w : World) (h : IntsAt w a len zs) (hm : zs.length ≤ 1048576) :
    Calls Try.prog 30 #[rhy s a len cap] w fun e w' => e = .returned (.bool (deepB s zs)) ∧ Below w.heap.size w w' := by
  have HS := Lib.hid h
  have hl : len ≤ 1048576 := by have := h.1; omega
  clear h
  by_cases ho : Ok s zs
  · obtain ⟨n, rfl⟩ : ∃ n : Nat, s = n := ⟨s.toNat, by have := ho.1; omega⟩
    have HO := Lib.hid ho
    obtain ⟨q, hq⟩ : ∃ q, deepB n zs = q := ⟨_, rfl⟩
    have HQ := Lib.hid hq
    clear ho hq
    rw [HQ.out]
    go_enter Try.func30, Try.ntmps30
    go_wp2_with fail
    refine (valid_yes n a len cap zs _ (HS.out.below (bel1 w _)) hl HO.out).mono ?_
    rintro e w1 ⟨rfl, hb1⟩
    have HB := Lib.hid ((bel1 w (.cells #[.int .i64 n, .slice a len cap] 25)).trans (hb1.mono (by simp)))
    have HT := Lib.hid ((two_new w (.int .i64 n) (.slice a len cap) 25).keep hb1)
    obtain ⟨t1, t1a, t1b⟩ := HT.out
    clear hb1
    go_wp2_with fail
    refine (deep_any n a len cap zs q w1 (HS.out.below HB.out) hl HO.out HQ.out).mono ?_
    rintro e w2 ⟨rfl, hb⟩
    have HB2 := Lib.hid (HB.out.trans (hb.mono HB.out.size))
    clear hb
    go_wp2
    go_ret
    exact ⟨rfl, HB2.out⟩
  · have HO := Lib.hid ho
    have HE := Lib.hid (deepB_no (s := s) (zs := zs) (fun x => ho x.1))
    clear ho
    rw [HE.out]
    go_enter Try.func30, Try.ntmps30
    go_wp2_with fail
    refine (valid_no s a len cap zs _ (HS.out.below (bel1 w _)) hl HO.out).mono ?_
    rintro e w1 ⟨rfl, hb1⟩
    have HB := Lib.hid ((bel1 w (.cells #[.int .i64 s, .slice a len cap] 25)).trans (hb1.mono (by simp)))
    clear hb1
    go_wp2
    go_ret
    exact ⟨rfl, HB.out⟩

end Go.Proofs.Ytjgjcppkbfojpaa.Rhy

/-
  Helpers of the claims beside this text: DifferencesOf, VectorOf, SameVector, AreTwins of the program.
-/
namespace Go.Proofs.Ytjgjcppkbfojpaa.Rhy
open Go.RowKit
set_option linter.unusedVariables false
set_option linter.unusedSimpArgs false

set_option maxHeartbeats 400000 in
theorem difs_impl (s : Int) (a : Option Addr) (len cap : Nat) (zs : List Int) (w : World) (h : IntsAt w a len zs) (hm : zs.length ≤ 1048576) :
    Calls Try.prog 40 #[rhy s a len cap] w (IPost (difB s zs) w) := by
  have HS := Lib.hid h
  have hl : len ≤ 1048576 := by have := h.1; omega
  clear h
  by_cases ho : Ok s zs
  · obtain ⟨n, rfl⟩ : ∃ n : Nat, s = n := ⟨s.toNat, by have := ho.1; omega⟩
    have HO := Lib.hid ho
    have HE : Hid (difB n zs = difZ n zs) := Lib.hid (cZ_yes ho)
    clear ho
    go_enter Try.func40, Try.ntmps40
    go_wp2_with fail
    refine (valid_yes n a len cap zs _ (HS.out.below (bel1 w _)) hl HO.out).mono ?_
    rintro e w1 ⟨rfl, hb1⟩
    have HB := Lib.hid ((bel1 w (.cells #[.int .i64 n, .slice a len cap] 25)).trans (hb1.mono (by simp)))
    have HT := Lib.hid ((two_new w (.int .i64 n) (.slice a len cap) 25).keep hb1)
    obtain ⟨t1, t1a, t1b⟩ := HT.out
    clear hb1
    go_wp2_with fail
    refine (counts_any n a len cap zs w1 (HS.out.below HB.out) hl HO.out).mono ?_
    rintro e w2 ⟨b, c, rfl, hown, hb⟩
    have HW := Lib.hid hown
    have HB2 := Lib.hid hb
    clear hown hb
    go_wp2
    go_ret
    rw [HE.out]
    exact ⟨b, c, rfl, own_base HW.out HB.out.size, HB.out.trans (HB2.out.mono HB.out.size)⟩
  · have HO := Lib.hid ho
    clear ho
    go_enter Try.func40, Try.ntmps40
    go_wp2_with fail
    refine (valid_no s a len cap zs _ (HS.out.below (bel1 w _)) hl HO.out).mono ?_
    rintro e w1 ⟨rfl, hb1⟩
    have HB := Lib.hid ((bel1 w (.cells #[.int .i64 s, .slice a len cap] 25)).trans (hb1.mono (by simp)))
    clear hb1
    go_wp2
    go_ret
    exact ipost_nil HO.out HB.out



theorem same_iq (a b : Option Addr) (n m ca cb : Nat) (xs ys : List Int) (q : Bool) (w : World) (ha : IntsAt w a n xs) (hb : IntsAt w b m ys) (hn : n ≤ 1048576) (hm : m ≤ 1048576) (hq : eqB xs ys = q) :
    Calls Try.prog 119 #[.slice a n ca, .slice b m cb] w fun e w' => e = .returned (.bool q) ∧ Below w.heap.size w w' :=
  (same_impl0 a b n m ca cb xs ys w ha hb hn hm).mono fun e w' h => ⟨by rw [h.1, hq], h.2⟩
theorem one_q (s : Int) (a : Option Addr) (n ca : Nat) (xs : List Int) (t : Int) (b : Option Addr) (m cb : Nat) (ys : List Int) (q : Bool) (w : World) (ha : IntsAt w a n xs) (hn : xs.length ≤ 1048576) (hb : IntsAt w b m ys) (hm : ys.length ≤ 1048576) (hq : oneB s xs t ys = q) :
    Calls Try.prog 63 #[rhy s a n ca, rhy t b m cb] w fun e w' => e = .returned (.bool q) ∧ Below w.heap.size w w' :=
  (one_any s a n ca xs t b m cb ys w ha hn hb hm).mono fun e w' h => ⟨by rw [h.1, hq], h.2⟩

set_option maxHeartbeats 1000000 in
theorem samevec_impl (s : Int) (a : Option Addr) (n ca : Nat) (xs : List Int) (t : Int) (b : Option Addr) (m cb : Nat) (ys : List Int) (w : World) (ha : IntsAt w a n xs) (hn : xs.length ≤ 1048576) (hb : IntsAt w b m ys) (hm : ys.length ≤ 1048576) :
    Calls Try.prog 74 #[rhy s a n ca, rhy t b m cb] w fun e w' => e = .returned (.bool (svB s xs t ys)) ∧ Below w.heap.size w w' := by
  have FA := Lib.hid ha
  have FB := Lib.hid hb
  have hn' : n ≤ 1048576 := by have := ha.1; omega
  have hm' : m ≤ 1048576 := by have := hb.1; omega
  clear ha hb
  obtain ⟨W0, hW⟩ : ∃ W0, W0 = (w.alloc (.cells #[.int .i64 s, .slice a n ca] 25)).alloc (.cells #[.int .i64 t, .slice b m cb] 25) := ⟨_, rfl⟩
  have HW := Lib.hid hW
  have HB0 := Lib.hid (show Below w.heap.size w W0 by rw [hW]; exact bel2 w _ _)
  have HX0 : Hid (RhI W0 w.heap.size s a n ca xs) := Lib.hid ⟨by rw [hW]; exact (box_new w _ _ _).keep (bel1 _ _) (by simp), FA.out.below HB0.out⟩
  have HY0 : Hid (RhI W0 (w.heap.size + 1) t b m cb ys) := Lib.hid ⟨by rw [hW]; simpa using box_new (w.alloc (.cells #[.int .i64 s, .slice a n ca] 25)) (.int .i64 t) (.slice b m cb) 25, FB.out.below HB0.out⟩
  clear hW FA FB
  by_cases ho : Ok s xs ∧ Ok t ys ∧ s = t
  · obtain ⟨hx, hy, hst⟩ := ho
    subst hst
    obtain ⟨nn, rfl⟩ : ∃ nn : Nat, s = nn := ⟨s.toNat, by have := hx.1; omega⟩
    obtain ⟨q, hq⟩ : ∃ q, eqB (vecZ nn xs) (vecZ nn ys) = q := ⟨_, rfl⟩
    have HQ := Lib.hid hq
    have HO := Lib.hid hx
    have HP := Lib.hid hy
    have HON := Lib.hid (oneB_yes (⟨hx, hy, rfl⟩ : Ok (nn : Int) xs ∧ Ok (nn : Int) ys ∧ (nn : Int) = nn))
    have HE : Hid (svB nn xs nn ys = q) := Lib.hid (by rw [svB_yes hx hy, hq])
    have HVX := Lib.hid (vec_int hx)
    have HVY := Lib.hid (vec_int hy)
    have HLX : Hid ((vecZ nn xs).length ≤ 24) := Lib.hid (by rw [vec_len]; have := hx.1; omega)
    have HLY : Hid ((vecZ nn ys).length ≤ 24) := Lib.hid (by rw [vec_len]; have := hx.1; omega)
    clear hx hy hq
    go_enter Try.func74, Try.ntmps74
    go_wp2
    rw [← HW.out]
    have HK : Hid (∀ W' : World, Below W0.heap.size W0 W' → W'.cell? ⟨w.heap.size, 0, none⟩ = some (.int .i64 nn) ∧ W'.cell? ⟨w.heap.size, 1, none⟩ = some (.slice a n ca) ∧ W'.cell? ⟨(w.heap.size + 1), 0, none⟩ = some (.int .i64 nn) ∧ W'.cell? ⟨(w.heap.size + 1), 1, none⟩ = some (.slice b m cb) ∧ Below W0.heap.size W0 W') :=
      Lib.hid (fun W' hW => ⟨(HX0.out.keep hW).1.facts.1, (HX0.out.keep hW).1.facts.2.1, (HY0.out.keep hW).1.facts.1, (HY0.out.keep hW).1.facts.2.1, hW⟩)
    have HIx : Hid (∀ W' : World, Below W0.heap.size W0 W' → IntsAt W' a n xs) := Lib.hid (fun W' hW => (HX0.out.keep hW).2)
    have HIy : Hid (∀ W' : World, Below W0.heap.size W0 W' → IntsAt W' b m ys) := Lib.hid (fun W' hW => (HY0.out.keep hW).2)
    refine wp_region_held_drew (S := fun W' => W'.cell? ⟨w.heap.size, 0, none⟩ = some (.int .i64 nn) ∧ W'.cell? ⟨w.heap.size, 1, none⟩ = some (.slice a n ca) ∧ W'.cell? ⟨(w.heap.size + 1), 0, none⟩ = some (.int .i64 nn) ∧ W'.cell? ⟨(w.heap.size + 1), 1, none⟩ = some (.slice b m cb) ∧ Below W0.heap.size W0 W') (by kernel_rfl) (HK.out _ (Below.refl _ _).drew) (fun hSS0 => ?_)
    refine wpAnyH_take (i := 0) (oi := ⟨some 5, _, _, _, _, _⟩) (v := .agg #[.int .i64 nn, .slice a n ca]) rfl (by kernel_rfl) (by kernel_rfl) (by kernel_rfl) (fun _ _ _ h => h) (Or.inl ⟨by rfl, fun w hSw => by obtain ⟨q1, q2, _⟩ := hSw; go_simp⟩) (by assumption) ?_
    try simp only [Act.put, List.setIfInBounds_toArray, List.set_cons_zero, List.set_cons_succ]
    refine wpAnyH_take (i := 1) (oi := ⟨some 6, _, _, _, _, _⟩) (v := .agg #[.int .i64 nn, .slice b m cb]) rfl (by kernel_rfl) (by kernel_rfl) (by kernel_rfl) (fun _ _ _ h => h) (Or.inl ⟨by rfl, fun w hSw => by obtain ⟨_, _, q1, q2, _⟩ := hSw; go_simp⟩) (by assumption) ?_
    try simp only [Act.put, List.setIfInBounds_toArray, List.set_cons_zero, List.set_cons_succ]
    refine wpAnyH_ready (rs := [2]) (by kernel_rfl) (by simp) ?_
    refine AllReadyH.cons rfl (fun K hKK => ?_) AllReadyH.nil
    go_simp
    go_at_call 63
    refine (one_q nn a n ca xs nn b m cb ys true _ (HIx.out _ (Below.refl _ _).drew) hn (HIy.out _ (Below.refl _ _).drew) hm HON.out).mono ?_
    rintro e wk1 ⟨rfl, hc1⟩
    have hbb1 : Below W0.heap.size W0 wk1 := (Below.refl _ _).drew.trans hc1
    clear hc1
    refine hKK.out _ _ (HK.out _ hbb1) (fun hSS1 => ?_)
    clear hKK K hSS0
    try simp only [Act.put, List.setIfInBounds_toArray, List.set_cons_zero, List.set_cons_succ]
    refine wpAnyH_take (i := 3) (oi := ⟨some 8, _, _, _, _, _⟩) (v := .bool true) rfl (by kernel_rfl) (by kernel_rfl) (by kernel_rfl) (fun _ _ _ h => h) (Or.inl ⟨by rfl, fun w hSw => by go_simp⟩) (by assumption) ?_
    try simp only [Act.put, List.setIfInBounds_toArray, List.set_cons_zero, List.set_cons_succ]
    refine wpAnyH_take (i := 4) (oi := ⟨some 9, _, _, _, _, _⟩) (v := .agg #[.int .i64 nn, .slice a n ca]) rfl (by kernel_rfl) (by kernel_rfl) (by kernel_rfl) (fun _ _ _ h => h) (Or.inl ⟨by rfl, fun w hSw => by obtain ⟨q1, q2, _⟩ := hSw; go_simp⟩) (by assumption) ?_
    try simp only [Act.put, List.setIfInBounds_toArray, List.set_cons_zero, List.set_cons_succ]
    refine wpAnyH_take (i := 6) (oi := ⟨some 11, _, _, _, _, _⟩) (v := .agg #[.int .i64 nn, .slice b m cb]) rfl (by kernel_rfl) (by kernel_rfl) (by kernel_rfl) (fun _ _ _ h => h) (Or.inl ⟨by rfl, fun w hSw => by obtain ⟨_, _, q1, q2, _⟩ := hSw; go_simp⟩) (by assumption) ?_
    try simp only [Act.put, List.setIfInBounds_toArray, List.set_cons_zero, List.set_cons_succ]
    refine wpAnyH_ready (rs := [5]) (by kernel_rfl) (by simp) ?_
    refine AllReadyH.cons rfl (fun K hKK => ?_) AllReadyH.nil
    go_simp
    go_at_call 120
    refine (vector_any nn a n ca xs _ (HIx.out _ hbb1) hn' HO.out).mono ?_
    rintro e wk2 ⟨av, cv, rfl, hown2, hc2⟩
    have HV20 := Lib.hid (intsAt_own hown2 HVX.out)
    clear hown2
    have hbb2 : Below W0.heap.size W0 wk2 := hbb1.trans (hc2.mono hbb1.size)
    clear hc2
    refine hKK.out _ _ (HK.out _ hbb2) (fun hSS2 => ?_)
    clear hKK K hbb1 hSS1
    try simp only [Act.put, List.setIfInBounds_toArray, List.set_cons_zero, List.set_cons_succ]
    refine wpAnyH_ready (rs := [7]) (by kernel_rfl) (by simp) ?_
    refine AllReadyH.cons rfl (fun K hKK => ?_) AllReadyH.nil
    go_simp
    go_at_call 120
    refine (vector_any nn b m cb ys _ (HIy.out _ hbb2) hm' HP.out).mono ?_
    rintro e wk3 ⟨aw, cw, rfl, hown3, hc3⟩
    have HV22 := Lib.hid (intsAt_own hown3 HVY.out)
    have HV21 := Lib.hid (HV20.out.below hc3)
    clear hown3
    have hbb3 : Below W0.heap.size W0 wk3 := hbb2.trans (hc3.mono hbb2.size)
    clear hc3
    refine hKK.out _ _ (HK.out _ hbb3) (fun hSS3 => ?_)
    clear hKK K hbb2 hSS2
    try simp only [Act.put, List.setIfInBounds_toArray, List.set_cons_zero, List.set_cons_succ]
    refine wpAnyH_ready (rs := [8]) (by kernel_rfl) (by simp) ?_
    refine AllReadyH.cons rfl (fun K hKK => ?_) AllReadyH.nil
    go_simp
    go_at_call 119
    refine (same_iq av aw (vecZ nn xs).length (vecZ nn ys).length cv cw (vecZ nn xs) (vecZ nn ys) q _ HV21.out HV22.out (by have := HLX.out; omega) (by have := HLY.out; omega) HQ.out).mono ?_
    rintro e wk4 ⟨rfl, hc4⟩
    have hbb4 : Below W0.heap.size W0 wk4 := hbb3.trans (hc4.mono hbb3.size)
    clear hc4
    refine hKK.out _ _ (HK.out _ hbb4) (fun hSS4 => ?_)
    clear hKK K hbb3 hSS3
    try simp only [Act.put, List.setIfInBounds_toArray, List.set_cons_zero, List.set_cons_succ]
    refine wpAnyH_take (i := 9) (oi := ⟨some 14, _, _, _, _, _⟩) (v := .bool q) rfl (by kernel_rfl) (by kernel_rfl) (by kernel_rfl) (fun _ _ _ h => h) (Or.inl ⟨by rfl, fun w hSw => by go_simp⟩) (by assumption) ?_
    try simp only [Act.put, List.setIfInBounds_toArray, List.set_cons_zero, List.set_cons_succ]
    refine wpAnyH_take (i := 10) (oi := ⟨some 4, _, _, _, _, _⟩) (v := .bool q) rfl (by kernel_rfl) (by kernel_rfl) (by kernel_rfl) (fun _ _ _ h => h) (Or.inl ⟨by rfl, fun w hSw => by go_simp⟩) (by assumption) ?_
    try simp only [Act.put, List.setIfInBounds_toArray, List.set_cons_zero, List.set_cons_succ]
    refine wpAnyH_done (by kernel_rfl) ?_ _
    clear HK
    go_wp2
    go_ret
    rw [HE.out]
    exact ⟨rfl, HB0.out.trans (hbb4.mono HB0.out.size)⟩
  · have HE : Hid (svB s xs t ys = false) := Lib.hid (svB_no ho)
    have HON := Lib.hid (oneB_no ho)
    clear ho
    go_enter Try.func74, Try.ntmps74
    go_wp2
    rw [← HW.out]
    have HK : Hid (∀ W' : World, Below W0.heap.size W0 W' → W'.cell? ⟨w.heap.size, 0, none⟩ = some (.int .i64 s) ∧ W'.cell? ⟨w.heap.size, 1, none⟩ = some (.slice a n ca) ∧ W'.cell? ⟨(w.heap.size + 1), 0, none⟩ = some (.int .i64 t) ∧ W'.cell? ⟨(w.heap.size + 1), 1, none⟩ = some (.slice b m cb) ∧ Below W0.heap.size W0 W') :=
      Lib.hid (fun W' hW => ⟨(HX0.out.keep hW).1.facts.1, (HX0.out.keep hW).1.facts.2.1, (HY0.out.keep hW).1.facts.1, (HY0.out.keep hW).1.facts.2.1, hW⟩)
    have HIx : Hid (∀ W' : World, Below W0.heap.size W0 W' → IntsAt W' a n xs) := Lib.hid (fun W' hW => (HX0.out.keep hW).2)
    have HIy : Hid (∀ W' : World, Below W0.heap.size W0 W' → IntsAt W' b m ys) := Lib.hid (fun W' hW => (HY0.out.keep hW).2)
    refine wp_region_held_drew (S := fun W' => W'.cell? ⟨w.heap.size, 0, none⟩ = some (.int .i64 s) ∧ W'.cell? ⟨w.heap.size, 1, none⟩ = some (.slice a n ca) ∧ W'.cell? ⟨(w.heap.size + 1), 0, none⟩ = some (.int .i64 t) ∧ W'.cell? ⟨(w.heap.size + 1), 1, none⟩ = some (.slice b m cb) ∧ Below W0.heap.size W0 W') (by kernel_rfl) (HK.out _ (Below.refl _ _).drew) (fun hSS0 => ?_)
    refine wpAnyH_take (i := 0) (oi := ⟨some 5, _, _, _, _, _⟩) (v := .agg #[.int .i64 s, .slice a n ca]) rfl (by kernel_rfl) (by kernel_rfl) (by kernel_rfl) (fun _ _ _ h => h) (Or.inl ⟨by rfl, fun w hSw => by obtain ⟨q1, q2, _⟩ := hSw; go_simp⟩) (by assumption) ?_
    try simp only [Act.put, List.setIfInBounds_toArray, List.set_cons_zero, List.set_cons_succ]
    refine wpAnyH_take (i := 1) (oi := ⟨some 6, _, _, _, _, _⟩) (v := .agg #[.int .i64 t, .slice b m cb]) rfl (by kernel_rfl) (by kernel_rfl) (by kernel_rfl) (fun _ _ _ h => h) (Or.inl ⟨by rfl, fun w hSw => by obtain ⟨_, _, q1, q2, _⟩ := hSw; go_simp⟩) (by assumption) ?_
    try simp only [Act.put, List.setIfInBounds_toArray, List.set_cons_zero, List.set_cons_succ]
    refine wpAnyH_ready (rs := [2]) (by kernel_rfl) (by simp) ?_
    refine AllReadyH.cons rfl (fun K hKK => ?_) AllReadyH.nil
    go_simp
    go_at_call 63
    refine (one_q s a n ca xs t b m cb ys false _ (HIx.out _ (Below.refl _ _).drew) hn (HIy.out _ (Below.refl _ _).drew) hm HON.out).mono ?_
    rintro e wk1 ⟨rfl, hc1⟩
    have hbb1 : Below W0.heap.size W0 wk1 := (Below.refl _ _).drew.trans hc1
    clear hc1
    refine hKK.out _ _ (HK.out _ hbb1) (fun hSS1 => ?_)
    clear hKK K hSS0
    try simp only [Act.put, List.setIfInBounds_toArray, List.set_cons_zero, List.set_cons_succ]
    refine wpAnyH_take (i := 3) (oi := ⟨some 8, _, _, _, _, _⟩) (v := .bool false) rfl (by kernel_rfl) (by kernel_rfl) (by kernel_rfl) (fun _ _ _ h => h) (Or.inl ⟨by rfl, fun w hSw => by go_simp⟩) (by assumption) ?_
    try simp only [Act.put, List.setIfInBounds_toArray, List.set_cons_zero, List.set_cons_succ]
    refine wpAnyH_take (i := 4) (oi := ⟨some 9, _, _, _, _, _⟩) (v := undef) rfl (by kernel_rfl) (by kernel_rfl) (by kernel_rfl) (fun _ _ _ h => h) (Or.inr ⟨by rfl, rfl⟩) (by assumption) ?_
    try simp only [Act.put, List.setIfInBounds_toArray, List.set_cons_zero, List.set_cons_succ]
    refine wpAnyH_take (i := 5) (oi := ⟨some 10, _, _, _, _, _⟩) (v := undef) rfl (by kernel_rfl) (by kernel_rfl) (by kernel_rfl) (fun _ _ _ h => h) (Or.inr ⟨by rfl, rfl⟩) (by assumption) ?_
    try simp only [Act.put, List.setIfInBounds_toArray, List.set_cons_zero, List.set_cons_succ]
    refine wpAnyH_take (i := 6) (oi := ⟨some 11, _, _, _, _, _⟩) (v := undef) rfl (by kernel_rfl) (by kernel_rfl) (by kernel_rfl) (fun _ _ _ h => h) (Or.inr ⟨by rfl, rfl⟩) (by assumption) ?_
    try simp only [Act.put, List.setIfInBounds_toArray, List.set_cons_zero, List.set_cons_succ]
    refine wpAnyH_take (i := 7) (oi := ⟨some 12, _, _, _, _, _⟩) (v := undef) rfl (by kernel_rfl) (by kernel_rfl) (by kernel_rfl) (fun _ _ _ h => h) (Or.inr ⟨by rfl, rfl⟩) (by assumption) ?_
    try simp only [Act.put, List.setIfInBounds_toArray, List.set_cons_zero, List.set_cons_succ]
    refine wpAnyH_take (i := 8) (oi := ⟨some 13, _, _, _, _, _⟩) (v := undef) rfl (by kernel_rfl) (by kernel_rfl) (by kernel_rfl) (fun _ _ _ h => h) (Or.inr ⟨by rfl, rfl⟩) (by assumption) ?_
    try simp only [Act.put, List.setIfInBounds_toArray, List.set_cons_zero, List.set_cons_succ]
    refine wpAnyH_take (i := 9) (oi := ⟨some 14, _, _, _, _, _⟩) (v := .bool false) rfl (by kernel_rfl) (by kernel_rfl) (by kernel_rfl) (fun _ _ _ h => h) (Or.inl ⟨by rfl, fun w hSw => by go_simp⟩) (by assumption) ?_
    try simp only [Act.put, List.setIfInBounds_toArray, List.set_cons_zero, List.set_cons_succ]
    refine wpAnyH_take (i := 10) (oi := ⟨some 4, _, _, _, _, _⟩) (v := .bool false) rfl (by kernel_rfl) (by kernel_rfl) (by kernel_rfl) (fun _ _ _ h => h) (Or.inl ⟨by rfl, fun w hSw => by go_simp⟩) (by assumption) ?_
    try simp only [Act.put, List.setIfInBounds_toArray, List.set_cons_zero, List.set_cons_succ]
    refine wpAnyH_done (by kernel_rfl) ?_ _
    clear HK
    go_wp2
    go_ret
    rw [HE.out]
    exact ⟨rfl, HB0.out.trans (hbb1.mono HB0.out.size)⟩
set_option maxHeartbeats 400000 in
theorem twins_impl (s : Int) (a : Option Addr) (n ca : Nat) (xs : List Int) (t : Int) (b : Option Addr) (m cb : Nat) (ys : List Int) (w : World) (ha : IntsAt w a n xs) (hn : xs.length ≤ 1048576) (hb : IntsAt w b m ys) (hm : ys.length ≤ 1048576) :
    Calls Try.prog 26 #[rhy s a n ca, rhy t b m cb] w fun e w' => e = .returned (.bool (twB s xs t ys)) ∧ Below w.heap.size w w' := by
  have FA := Lib.hid ha
  have FB := Lib.hid hb
  have hn' : n ≤ 1048576 := by have := ha.1; omega
  have hm' : m ≤ 1048576 := by have := hb.1; omega
  clear ha hb
  obtain ⟨W0, hW⟩ : ∃ W0, W0 = (w.alloc (.cells #[.int .i64 s, .slice a n ca] 25)).alloc (.cells #[.int .i64 t, .slice b m cb] 25) := ⟨_, rfl⟩
  have HW := Lib.hid hW
  have HB0 := Lib.hid (show Below w.heap.size w W0 by rw [hW]; exact bel2 w _ _)
  have HX0 : Hid (RhI W0 w.heap.size s a n ca xs) := Lib.hid ⟨by rw [hW]; exact (box_new w _ _ _).keep (bel1 _ _) (by simp), FA.out.below HB0.out⟩
  have HY0 : Hid (RhI W0 (w.heap.size + 1) t b m cb ys) := Lib.hid ⟨by rw [hW]; simpa using box_new (w.alloc (.cells #[.int .i64 s, .slice a n ca] 25)) (.int .i64 t) (.slice b m cb) 25, FB.out.below HB0.out⟩
  clear hW FA FB
  obtain ⟨q, hq⟩ : ∃ q, svB s xs t ys = q := ⟨_, rfl⟩
  obtain ⟨r, hr⟩ : ∃ r, aforB s xs t ys = r := ⟨_, rfl⟩
  have HE : Hid (twB s xs t ys = (q && !r)) := Lib.hid (by unfold twB; rw [hq, hr])
  have HQ := Lib.hid hq
  have HR := Lib.hid hr
  clear hq hr
  rw [HE.out]
  obtain ⟨c0, c1, f0, f1⟩ := HX0.out.1.facts
  obtain ⟨d0, d1, g0, g1⟩ := HY0.out.1.facts
  go_enter Try.func26, Try.ntmps26
  go_wp2_with fail
  rw [← HW.out]
  refine (samevec_impl s a n ca xs t b m cb ys _ HX0.out.2 hn HY0.out.2 hm).mono ?_
  rintro e w1 ⟨rfl, hb1⟩
  rw [HQ.out]
  have HB1 := Lib.hid (HB0.out.trans (hb1.mono HB0.out.size))
  have HX1 := Lib.hid (HX0.out.keep hb1)
  have HY1 := Lib.hid (HY0.out.keep hb1)
  clear c0 c1 f0 f1 d0 d1 g0 g1 hb1
  obtain ⟨c0, c1, f0, f1⟩ := HX1.out.1.facts
  obtain ⟨d0, d1, g0, g1⟩ := HY1.out.1.facts
  cases q
  · go_wp2
    go_ret
    exact ⟨rfl, HB1.out⟩
  · go_wp2_with fail
    refine (afor_impl s a n ca xs t b m cb ys _ HX1.out.2 hn HY1.out.2 hm).mono ?_
    rintro e w2 ⟨rfl, hb2⟩
    rw [HR.out]
    have HB2 := Lib.hid (HB1.out.trans (hb2.mono HB1.out.size))
    clear hb2
    go_wp2
    go_ret
    exact ⟨by simp, HB2.out⟩


end Go.Proofs.Ytjgjcppkbfojpaa.Rhy
namespace Go.Proofs.Ytjgjcppkbfojpaa.Rhy
open Go.RowKit

end Go.Proofs.Ytjgjcppkbfojpaa.Rhy

/-
  Helpers of the claims beside this text: the program's contracts on intervals, together.
-/
