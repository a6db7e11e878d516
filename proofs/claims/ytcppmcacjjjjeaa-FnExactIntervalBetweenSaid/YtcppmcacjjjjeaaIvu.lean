/-
  Helpers of the claims beside this text: intervals between beats, flat and deep rhythms: the model's.
-/
import Derived.Test.YtcppmcacjjjjeaaIvt
import Derived.Test.YtcppmcacjjjjeaaOut
namespace Go.Proofs.Ytcppmcacjjjjeaa.Rhy
open Go.RowKit
set_option linter.unusedVariables false
set_option linter.unusedSimpArgs false

open Classical in
/-- What both answer. -/
noncomputable def betB (s : Int) (zs : List Int) (p q : Int) : Int := if Ok s zs ∧ p ∈ zs ∧ q ∈ zs then min (remB (p - q) s) (s - remB (p - q) s) else -1
theorem betB_yes {s p q : Int} {zs : List Int} (h : Ok s zs ∧ p ∈ zs ∧ q ∈ zs) : betB s zs p q = min (remB (p - q) s) (s - remB (p - q) s) := if_pos h
theorem betB_no {s p q : Int} {zs : List Int} (h : ¬ (Ok s zs ∧ p ∈ zs ∧ q ∈ zs)) : betB s zs p q = -1 := if_neg h
theorem hasB_no {zs : List Int} {x : Int} (h : ¬ x ∈ zs) : hasB zs x = false := by
  cases hh : hasB zs x with
  | false => rfl
  | true => exact absurd (hasB_mem.1 hh) h

set_option maxHeartbeats 1000000 in
theorem bet_spec (s : Int) (a : Option Addr) (len cap : Nat) (zs : List Int) (p q : Int) (w : World) (h : IntsAt w a len zs) (hm : zs.length ≤ 1048576) (hp1 : -9223372036854775808 ≤ p) (hp2 : p ≤ 9223372036854775807) (hq1 : -9223372036854775808 ≤ q) (hq2 : q ≤ 9223372036854775807) :
    Calls Try.prog 56 #[rhy s a len cap, .int .i64 p, .int .i64 q] w fun e w' => e = .returned (.int .i64 (betB s zs p q)) ∧ Below w.heap.size w w' := by
  have HS := Lib.hid h
  have hl : len ≤ 1048576 := by have := h.1; omega
  clear h
  by_cases ho : Ok s zs
  · have HO := Lib.hid ho
    have hs1 := ho.1.1
    have hs2 := ho.1.2
    by_cases hp : p ∈ zs
    · have HP := Lib.hid (hasB_mem.2 hp)
      by_cases hq : q ∈ zs
      · have HQ := Lib.hid (hasB_mem.2 hq)
        have HE := Lib.hid (betB_yes ⟨ho, hp, hq⟩)
        obtain ⟨hpa, hpb⟩ := ok_range ho p hp
        obtain ⟨hqa, hqb⟩ := ok_range ho q hq
        obtain ⟨ra, rb⟩ := remB_bd (p - q) s (by omega)
        clear ho hp hq
        rw [HE.out]
        go_enter Try.func56, Try.ntmps56
        go_wp2_with fail
        refine (ok_yes s a len cap zs _ (HS.out.below (bel1 w _)) hl HO.out).mono ?_
        rintro e w1 ⟨rfl, hb1⟩
        have HB := Lib.hid ((bel1 w (.cells #[.int .i64 s, .slice a len cap] 25)).trans (hb1.mono (by simp)))
        have HT := Lib.hid ((two_new w (.int .i64 s) (.slice a len cap) 25).keep hb1)
        obtain ⟨t1, t1a, t1b⟩ := HT.out
        clear hb1
        go_wp2_with fail
        refine (has_any a len cap zs p w1 (HS.out.below HB.out) (by omega)).mono ?_
        rintro e w' ⟨rfl, rfl⟩
        rw [HP.out]
        go_wp2_with fail
        refine (has_any a len cap zs q w1 (HS.out.below HB.out) (by omega)).mono ?_
        rintro e w' ⟨rfl, rfl⟩
        rw [HQ.out]
        go_wp2_with fail
        refine (mod_any (p - q) s w1 (by omega) (by omega) (by omega) (by omega)).mono ?_
        rintro e w' ⟨rfl, rfl⟩
        go_wp2
        go_ret
        exact ⟨rfl, HB.out⟩
      · have HQ := Lib.hid (hasB_no hq)
        have HE := Lib.hid (betB_no (s := s) (zs := zs) (p := p) (q := q) (fun x => hq x.2.2))
        clear ho hp hq
        rw [HE.out]
        go_enter Try.func56, Try.ntmps56
        go_wp2_with fail
        refine (ok_yes s a len cap zs _ (HS.out.below (bel1 w _)) hl HO.out).mono ?_
        rintro e w1 ⟨rfl, hb1⟩
        have HB := Lib.hid ((bel1 w (.cells #[.int .i64 s, .slice a len cap] 25)).trans (hb1.mono (by simp)))
        have HT := Lib.hid ((two_new w (.int .i64 s) (.slice a len cap) 25).keep hb1)
        obtain ⟨t1, t1a, t1b⟩ := HT.out
        clear hb1
        go_wp2_with fail
        refine (has_any a len cap zs p w1 (HS.out.below HB.out) (by omega)).mono ?_
        rintro e w' ⟨rfl, rfl⟩
        rw [HP.out]
        go_wp2_with fail
        refine (has_any a len cap zs q w1 (HS.out.below HB.out) (by omega)).mono ?_
        rintro e w' ⟨rfl, rfl⟩
        rw [HQ.out]
        go_wp2
        go_ret
        exact ⟨rfl, HB.out⟩
    · have HP := Lib.hid (hasB_no hp)
      have HE := Lib.hid (betB_no (s := s) (zs := zs) (p := p) (q := q) (fun x => hp x.2.1))
      clear ho hp
      rw [HE.out]
      go_enter Try.func56, Try.ntmps56
      go_wp2_with fail
      refine (ok_yes s a len cap zs _ (HS.out.below (bel1 w _)) hl HO.out).mono ?_
      rintro e w1 ⟨rfl, hb1⟩
      have HB := Lib.hid ((bel1 w (.cells #[.int .i64 s, .slice a len cap] 25)).trans (hb1.mono (by simp)))
      have HT := Lib.hid ((two_new w (.int .i64 s) (.slice a len cap) 25).keep hb1)
      obtain ⟨t1, t1a, t1b⟩ := HT.out
      clear hb1
      go_wp2_with fail
      refine (has_any a len cap zs p w1 (HS.out.below HB.out) (by omega)).mono ?_
      rintro e w' ⟨rfl, rfl⟩
      rw [HP.out]
      go_wp2
      go_ret
      exact ⟨rfl, HB.out⟩
  · have HO := Lib.hid ho
    have HE := Lib.hid (betB_no (s := s) (zs := zs) (p := p) (q := q) (fun x => ho x.1))
    clear ho
    rw [HE.out]
    go_enter Try.func56, Try.ntmps56
    go_wp2_with fail
    refine (ok_no s a len cap zs _ (HS.out.below (bel1 w _)) hl HO.out).mono ?_
    rintro e w1 ⟨rfl, hb1⟩
    have HB := Lib.hid ((bel1 w (.cells #[.int .i64 s, .slice a len cap] 25)).trans (hb1.mono (by simp)))
    clear hb1
    go_wp2
    go_ret
    exact ⟨rfl, HB.out⟩

/-! flat -/
open Classical in
noncomputable def flatB (s : Int) (zs : List Int) : Bool := decide (Ok s zs ∧ flatZ s zs)
theorem flatB_yes {s : Int} {zs : List Int} (h : Ok s zs ∧ flatZ s zs) : flatB s zs = true := by simp [flatB, h.1, h.2]
theorem flatB_no {s : Int} {zs : List Int} (h : ¬ (Ok s zs ∧ flatZ s zs)) : flatB s zs = false := by unfold flatB; rw [decide_eq_false_iff_not]; exact h

set_option maxHeartbeats 1000000 in
theorem flat_spec (s : Int) (a : Option Addr) (len cap : Nat) (zs : List Int) (w : World) (h : IntsAt w a len zs) (hm : zs.length ≤ 1048576) :
    Calls Try.prog 53 #[rhy s a len cap] w fun e w' => e = .returned (.bool (flatB s zs)) ∧ Below w.heap.size w w' := by
  have HS := Lib.hid h
  have hl : len ≤ 1048576 := by have := h.1; omega
  clear h
  by_cases ho : Ok s zs
  · obtain ⟨n, rfl⟩ : ∃ n : Nat, s = n := ⟨s.toNat, by have := ho.1; omega⟩
    have HO := Lib.hid ho
    have hn1 : 1 ≤ n := by have := ho.1; omega
    have hn24 : n ≤ 24 := by have := ho.1; omega
    clear ho
    go_enter Try.func53, Try.ntmps53
    go_wp2_with fail
    refine (ok_yes n a len cap zs _ (HS.out.below (bel1 w _)) hl HO.out).mono ?_
    rintro e w1 ⟨rfl, hb1⟩
    have HB := Lib.hid ((bel1 w (.cells #[.int .i64 n, .slice a len cap] 25)).trans (hb1.mono (by simp)))
    have HT := Lib.hid ((two_new w (.int .i64 n) (.slice a len cap) 25).keep hb1)
    obtain ⟨t1, t1a, t1b⟩ := HT.out
    clear hb1
    go_wp2_with fail
    refine (difs0_spec n a len cap zs w1 (HS.out.below HB.out) hl HO.out).mono ?_
    rintro e w2 ⟨b, c, rfl, hown, hb⟩
    have HD := Lib.hid (intsAt_own hown (dif_int HO.out))
    have HB2 := Lib.hid (HB.out.trans (hb.mono HB.out.size))
    have HT2 := Lib.hid (HT.out.keep hb)
    have hdl : (difZ n zs).length = n := by rw [difZ_len]; omega
    clear hown hb t1 t1a t1b
    rw [hdl] at HD ⊢
    clear hdl
    obtain ⟨gd, od, rfl⟩ := addr_at HD.out (by omega)
    obtain ⟨t1, t1a, t1b⟩ := HT2.out
    go_wp2
    go_loopw [4] (fun i wr => ∃ k : Nat, 2 ≤ k ∧ k ≤ max 2 n ∧ i = .int .i64 k ∧ Hid (∀ i : Nat, 2 ≤ i → i < k → difAt n zs (i : Int) = difAt n zs 1) ∧ Below w2.heap.size w2 wr) (fun i _ => 30 - (intOf i).toNat)
    case atStart => exact ⟨2, by omega, by omega, rfl, Lib.hid (fun i h1 h2 => by omega), Below.refl _ _⟩
    case round =>
      obtain ⟨k, hk2, hk, rfl, HF, hbl⟩ := hrel
      have HX0 := Lib.hid hbl
      clear hbl t1 t1a t1b
      obtain ⟨t1, t1a, t1b⟩ := HT2.out.keep HX0.out
      by_cases hlt : k < n
      · have c1 : wr.cell? ⟨gd, od + 1, none⟩ = some (.int .i64 (difAt n zs 1 : Nat)) := by
          have h1 := cell_at (HD.out.below HX0.out) (show 1 < n by omega)
          rw [difZ_at (by omega)] at h1
          exact h1
        have c2 : wr.cell? ⟨gd, od + k, none⟩ = some (.int .i64 (difAt n zs (k : Int) : Nat)) := by
          have h1 := cell_at (HD.out.below HX0.out) (show k < n by omega)
          rw [difZ_at (by omega)] at h1
          exact h1
        obtain ⟨x, hx⟩ : ∃ x, difAt n zs (k : Int) = x := ⟨_, rfl⟩
        obtain ⟨y, hy⟩ : ∃ y, difAt n zs 1 = y := ⟨_, rfl⟩
        have HX := Lib.hid hx
        have HY := Lib.hid hy
        rw [hy] at c1
        rw [hx] at c2
        clear hx hy
        have hn2 : 1 < n := by omega
        by_cases hxy : x = y
        · subst hxy
          have HF2 : Hid (∀ i : Nat, 2 ≤ i → i < k + 1 → difAt n zs (i : Int) = difAt n zs 1) := Lib.hid (fun i h1 h2 => by
            by_cases q : i = k
            · subst q; rw [HX.out, HY.out]
            · exact HF.out i h1 (by omega))
          go_wp2
          go_quiet (fail)
          go_wp2
          go_roundw
          case rel => exact ⟨k + 1, by omega, by omega, by go_num, HF2, below_drewN HX0.out _⟩
          case measure => simp [intOf]; omega
        · have hxb : ((x : Int) != (y : Int)) = true := by simp; omega
          have HE := Lib.hid (flatB_no (s := (n : Int)) (zs := zs) (fun q => by
            have h1 := q.2 k hk2 (by omega)
            rw [HX.out, HY.out] at h1
            exact hxy h1))
          go_wp2
          go_quiet (fail)
          go_wp2
          go_ret
          rw [HE.out]
          exact ⟨rfl, below_drewN (HB2.out.trans (HX0.out.mono HB2.out.size)) _⟩
      · have HE := Lib.hid (flatB_yes (s := (n : Int)) (zs := zs) ⟨HO.out, fun i h1 h2 => HF.out i h1 (by omega)⟩)
        go_wp2
        go_ret
        rw [HE.out]
        exact ⟨rfl, HB2.out.trans (HX0.out.mono HB2.out.size)⟩
  · have HO := Lib.hid ho
    have HE := Lib.hid (flatB_no (s := s) (zs := zs) (fun x => ho x.1))
    clear ho
    rw [HE.out]
    go_enter Try.func53, Try.ntmps53
    go_wp2_with fail
    refine (ok_no s a len cap zs _ (HS.out.below (bel1 w _)) hl HO.out).mono ?_
    rintro e w1 ⟨rfl, hb1⟩
    have HB := Lib.hid ((bel1 w (.cells #[.int .i64 s, .slice a len cap] 25)).trans (hb1.mono (by simp)))
    clear hb1
    go_wp2
    go_ret
    exact ⟨rfl, HB.out⟩

/-! deep -/
def deepP (l : List Int) (k : Nat) : Prop := ∀ j z, j < k → l[j]? = some z → 0 < z → ¬ z ∈ l.take j
def deepZ (l : List Int) : Prop := deepP l l.length
open Classical in
noncomputable def deepB (s : Int) (zs : List Int) : Bool := decide (Ok s zs ∧ deepZ (vecZ s zs))
theorem deepB_yes {s : Int} {zs : List Int} (h : Ok s zs ∧ deepZ (vecZ s zs)) : deepB s zs = true := by simp [deepB, h.1, h.2]
theorem deepB_no {s : Int} {zs : List Int} (h : ¬ (Ok s zs ∧ deepZ (vecZ s zs))) : deepB s zs = false := by unfold deepB; rw [decide_eq_false_iff_not]; exact h
theorem deep_next {l : List Int} {k : Nat} {z : Int} (h : deepP l k) (hs : l[k]? = some z) (hz : 0 < z → ¬ z ∈ l.take k) : deepP l (k + 1) := by
  intro j y hj hy h0
  by_cases e : j = k
  · subst e
    rw [hs] at hy
    obtain rfl := Option.some.inj hy
    exact hz h0
  · exact h j y (by omega) hy h0

/-- The numbers seen so far; the vector's own row lies between lo and hi. -/
def DeepAt (V : List Int) (k lo hi : Nat) (w1 w2 wr : World) (v : Value) : Prop :=
  ∃ av cv, v = .slice av (V.take k).length cv ∧ wr.ownsRow w1.heap.size 3 1 (.slice av (V.take k).length cv) (V.take k).length (ints (V.take k)) ∧ Below w1.heap.size w1 wr ∧ Same lo hi w2 wr ∧ Outside lo hi (.slice av (V.take k).length cv) ∧ hi ≤ wr.heap.size

set_option maxHeartbeats 1000000 in
theorem deep_spec (s : Int) (a : Option Addr) (len cap : Nat) (zs : List Int) (w : World) (h : IntsAt w a len zs) (hm : zs.length ≤ 1048576) :
    Calls Try.prog 52 #[rhy s a len cap] w fun e w' => e = .returned (.bool (deepB s zs)) ∧ Below w.heap.size w w' := by
  have HS := Lib.hid h
  have hl : len ≤ 1048576 := by have := h.1; omega
  clear h
  by_cases ho : Ok s zs
  · obtain ⟨n, rfl⟩ : ∃ n : Nat, s = n := ⟨s.toNat, by have := ho.1; omega⟩
    have HO := Lib.hid ho
    have hn24 : n ≤ 24 := by have := ho.1; omega
    obtain ⟨V, hV⟩ : ∃ V, vecZ n zs = V := ⟨_, rfl⟩
    have HV := Lib.hid hV
    have hvl : V.length ≤ 12 := by rw [← hV, vec_len]; omega
    have HVI : Hid (AllInt V) := Lib.hid (by rw [← hV]; exact vec_int ho)
    clear ho hV
    go_enter Try.func52, Try.ntmps52
    go_wp2_with fail
    refine (ok_yes n a len cap zs _ (HS.out.below (bel1 w _)) hl HO.out).mono ?_
    rintro e w1 ⟨rfl, hb1⟩
    have HB := Lib.hid ((bel1 w (.cells #[.int .i64 n, .slice a len cap] 25)).trans (hb1.mono (by simp)))
    have HT := Lib.hid ((two_new w (.int .i64 n) (.slice a len cap) 25).keep hb1)
    obtain ⟨t1, t1a, t1b⟩ := HT.out
    clear hb1
    go_wp2_with fail
    refine (vec0_spec n a len cap zs _ (HS.out.below (HB.out.alloc HB.out.size _)) hl HO.out).mono ?_
    rintro e w2 hp
    rw [HV.out] at hp
    obtain ⟨b, c, rfl, hown, hb⟩ := hp
    obtain ⟨w1a, hw1a⟩ : ∃ x, x = w1.alloc (.cells #[] 3) := ⟨_, rfl⟩
    rw [← hw1a] at hown hb
    have hsz : w1a.heap.size = w1.heap.size + 1 := by rw [hw1a]; simp
    obtain ⟨lo, hlo⟩ : ∃ lo, w1a.heap.size = lo := ⟨_, rfl⟩
    obtain ⟨hi, hhi⟩ : ∃ hi, w2.heap.size = hi := ⟨_, rfl⟩
    rw [hlo] at hown
    have HOV := Lib.hid hown
    have hB12 : Below w1.heap.size w1 w2 := by
      have h1 : Below w1.heap.size w1 w1a := by rw [hw1a]; exact (Below.refl _ _).alloc (Nat.le_refl _) _
      exact h1.trans (hb.mono (by omega))
    have HLO := Lib.hid (show lo = w1.heap.size + 1 by omega)
    have HHI2 := Lib.hid hhi
    have hle : w1a.heap.size ≤ w2.heap.size := hb.size
    have HA : Hid (DeepAt V 0 lo hi w1 w2 w2 (.slice (some ⟨w1.heap.size, 0, none⟩) 0 0)) := Lib.hid ⟨some ⟨w1.heap.size, 0, none⟩, 0, rfl, by
      have h0 := World.ownsRow_made (base := w1.heap.size) (e := 3) (size := 1) w1 #[] 0 (Nat.le_refl _) (by unfold maxLen; omega) rfl
      rw [← hw1a] at h0
      simpa [ints] using own_below h0 hb, hB12, Same.refl _ _ _, fun k hk => by
        have : k = w1.heap.size := by simpa [Value.ownBlock] using hk.symm
        omega, by omega⟩
    have HB2 := Lib.hid (HB.out.trans (hB12.mono HB.out.size))
    clear hown hb hw1a hsz hlo hhi hB12 hle t1 t1a t1b
    go_wp2
    go_loopw [3, 13] (fun v i wr => ∃ k : Nat, k ≤ V.length ∧ i = .int .i64 k ∧ DeepAt V k lo hi w1 w2 wr v ∧ Hid (deepP V k)) (fun _ i _ => V.length - (intOf i).toNat)
    case atStart => exact ⟨0, by omega, rfl, HA.out, Lib.hid (fun j z hj => by omega)⟩
    case round =>
      clear HA
      obtain ⟨k, hk, rfl, ⟨av, cv, rfl, hown, hb, hsm, hou, hhi⟩, HP⟩ := hrel
      obtain ⟨L, hL⟩ : ∃ L, V.take k = L := ⟨_, rfl⟩
      rw [hL] at hown hou ⊢
      have HLV := Lib.hid hL
      have hll : L.length ≤ 12 := by rw [← hL]; simp; omega
      clear hL
      have HOW := Lib.hid hown
      have HX := Lib.hid hb
      have HSM := Lib.hid hsm
      have HOU := Lib.hid hou
      have HHI := Lib.hid hhi
      have HZ1 := Lib.hid (hb.size)
      clear hown hb hsm hou hhi
      have HIV : Hid (IntsAt wr b V.length V) := Lib.hid (intsAt_own (owns_same HOV.out (by rw [HHI2.out]; exact HSM.out)) HVI.out)
      by_cases hlt : k < V.length
      · obtain ⟨gb, ob, z, rfl, hgb, hs, hc, hz1, hz2⟩ := HIV.out.at hlt
        have HSZ := Lib.hid hs
        have hts : V.take (k + 1) = L ++ [z] := by rw [← HLV.out, List.take_add_one, hs]; rfl
        have HTS := Lib.hid hts
        have HSI : Hid (IntsAt wr av L.length L) := Lib.hid (intsAt_own HOW.out (fun y hy => HVI.out y (by rw [← HLV.out] at hy; exact List.mem_of_mem_take hy)))
        clear hs hts
        by_cases h0 : 0 < z
        · have h0b : decide (0 < z) = true := decide_eq_true h0
          by_cases hm2 : z ∈ L
          · have HH := Lib.hid (hasB_mem.2 hm2)
            have HE := Lib.hid (deepB_no (s := (n : Int)) (zs := zs) (fun q => by
              have h1 := q.2
              rw [HV.out] at h1
              exact h1 k z hlt HSZ.out h0 (by rw [HLV.out]; exact hm2)))
            clear hm2
            go_wp2_with fail
            refine (has_any av L.length cv L z wr HSI.out (by omega)).mono ?_
            rintro e w' ⟨rfl, rfl⟩
            rw [HH.out]
            go_wp2
            go_ret
            rw [HE.out]
            exact ⟨rfl, HB.out.trans (HX.out.mono HB.out.size)⟩
          · have HH := Lib.hid (hasB_no hm2)
            have HD := Lib.hid (deep_next HP.out HSZ.out (fun _ => by rw [HLV.out]; exact hm2))
            clear hm2
            go_wp2_with fail
            refine (has_any av L.length cv L z wr HSI.out (by omega)).mono ?_
            rintro e w' ⟨rfl, rfl⟩
            rw [HH.out]
            go_wp2_with (at_builtin; refine append_out lo hi rfl _ _ rfl w1.heap.size _ L z wr HOW.out (by omega) HZ1.out HOU.out HHI.out _ rfl rfl rfl ?_; intro a' c' w' hown' hb' hs' ho'; have HO2 := Lib.hid hown'; have HX2 := Lib.hid hb'; have HS2 := Lib.hid hs'; have HU2 := Lib.hid ho'; clear hown' hb' hs' ho')
            go_roundw
            case rel =>
              refine ⟨k + 1, by omega, by go_num, ⟨a', c', ?_, ?_, HX.out.trans HX2.out, HSM.out.trans HS2.out, ?_, Nat.le_trans HHI.out HX2.out.size⟩, HD⟩
              · rw [HTS.out]; simp
              · rw [HTS.out]; exact HO2.out
              · rw [HTS.out]; exact HU2.out
            case measure => simp [intOf]; omega
        · have h0b : decide (0 < z) = false := decide_eq_false h0
          have HD := Lib.hid (deep_next HP.out HSZ.out (fun q => absurd q h0))
          go_wp2_with (at_builtin; refine append_out lo hi rfl _ _ rfl w1.heap.size _ L z wr HOW.out (by omega) HZ1.out HOU.out HHI.out _ rfl rfl rfl ?_; intro a' c' w' hown' hb' hs' ho'; have HO2 := Lib.hid hown'; have HX2 := Lib.hid hb'; have HS2 := Lib.hid hs'; have HU2 := Lib.hid ho'; clear hown' hb' hs' ho')
          go_roundw
          case rel =>
            refine ⟨k + 1, by omega, by go_num, ⟨a', c', ?_, ?_, HX.out.trans HX2.out, HSM.out.trans HS2.out, ?_, Nat.le_trans HHI.out HX2.out.size⟩, HD⟩
            · rw [HTS.out]; simp
            · rw [HTS.out]; exact HO2.out
            · rw [HTS.out]; exact HU2.out
          case measure => simp [intOf]; omega
      · have e : k = V.length := by omega
        have HE := Lib.hid (deepB_yes (s := (n : Int)) (zs := zs) ⟨HO.out, by rw [HV.out]; unfold deepZ; rw [← e]; exact HP.out⟩)
        clear e
        go_wp2
        go_ret
        rw [HE.out]
        exact ⟨rfl, HB.out.trans (HX.out.mono HB.out.size)⟩
  · have HO := Lib.hid ho
    have HE := Lib.hid (deepB_no (s := s) (zs := zs) (fun x => ho x.1))
    clear ho
    rw [HE.out]
    go_enter Try.func52, Try.ntmps52
    go_wp2_with fail
    refine (ok_no s a len cap zs _ (HS.out.below (bel1 w _)) hl HO.out).mono ?_
    rintro e w1 ⟨rfl, hb1⟩
    have HB := Lib.hid ((bel1 w (.cells #[.int .i64 s, .slice a len cap] 25)).trans (hb1.mono (by simp)))
    clear hb1
    go_wp2
    go_ret
    exact ⟨rfl, HB.out⟩
end Go.Proofs.Ytcppmcacjjjjeaa.Rhy
