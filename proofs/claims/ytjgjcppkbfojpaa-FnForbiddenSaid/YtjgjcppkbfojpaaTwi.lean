/-
  Helpers of the claims beside this text: rhythms out of numbers, twins: the model's.
-/
import Derived.Test.YtjgjcppkbfojpaaIvs
import Derived.Test.YtjgjcppkbfojpaaLsk
namespace Go.Proofs.Ytjgjcppkbfojpaa.Rhy
open Go.RowKit
set_option linter.unusedVariables false
set_option linter.unusedSimpArgs false

/-- The pulses below k where a number of n bits has its bits, the highest bit first. -/
def bitP (n bits k : Nat) : List Int := ((List.range k).filter fun p => decide (bits / 2 ^ (n - 1 - p) % 2 = 1)).map fun p => ((p : Nat) : Int)
def bitsL (n bits : Nat) : List Int := bitP n bits n
theorem bitP_yes {n bits k : Nat} (h : bits / 2 ^ (n - 1 - k) % 2 = 1) : bitP n bits (k + 1) = bitP n bits k ++ [(k : Int)] := by
  unfold bitP
  rw [List.range_succ, List.filter_append, List.map_append]
  congr 1
  rw [List.filter_cons_of_pos (by simpa using h)]
  rfl
theorem bitP_no {n bits k : Nat} (h : ¬ bits / 2 ^ (n - 1 - k) % 2 = 1) : bitP n bits (k + 1) = bitP n bits k := by
  unfold bitP
  rw [List.range_succ, List.filter_append, List.map_append]
  rw [List.filter_cons_of_neg (by simpa using h)]
  simp
theorem bitP_len (n bits k : Nat) : (bitP n bits k).length ≤ k := by
  unfold bitP
  rw [List.length_map]
  exact Nat.le_trans (List.length_filter_le _ _) (by simp)

theorem and_one (x : Nat) (hx : x < 9223372036854775808) : bits .and .i64 (x : Int) 1 = ((x % 2 : Nat) : Int) := by
  have e : bits .and .i64 (x : Int) 1 = ((BitVec.ofInt 64 (x : Int) &&& BitVec.ofInt 64 (1 : Int)).toNat : Int) := by
    show IntKind.i64.wrap _ = _
    have h : ((BitVec.ofInt 64 (x : Int) &&& BitVec.ofInt 64 (1 : Int)).toNat) ≤ 1 := by
      rw [BitVec.toNat_and]
      exact Nat.le_trans Nat.and_le_right (by decide)
    exact IntWalk.i64_in _ ⟨by omega, by show ((BitVec.ofInt 64 (x : Int) &&& BitVec.ofInt 64 (1 : Int)).toNat : Int) ≤ _; omega⟩
  rw [e, BitVec.toNat_and, BitVec.toNat_ofInt]
  have h1 : ((x : Int) % ((2 ^ 64 : Nat) : Int)).toNat = x := by
    rw [Int.emod_eq_of_lt (by omega) (by omega)]; omega
  rw [h1, show (BitVec.ofInt 64 (1 : Int)).toNat = 1 by decide, Nat.and_one_is_mod]
theorem bit_val (b m : Nat) (hb : b < 16777216) : bits .and .i64 ((b : Int) / 2 ^ m) 1 = ((b / 2 ^ m % 2 : Nat) : Int) := by
  have e : (b : Int) / 2 ^ m = ((b / 2 ^ m : Nat) : Int) := by simp
  rw [e, and_one _ (Nat.lt_of_le_of_lt (Nat.div_le_self _ _) (by omega))]

set_option maxHeartbeats 1000000 in
theorem of_spec (n bits : Nat) (w : World) (hn1 : 1 ≤ n) (hn : n ≤ 24) (hb : bits < 2 ^ n) :
    Calls Try.prog 100 #[.int .i64 n, .int .i64 bits] w (RhyPost n (bitsL n bits) w) := by
  have hbb : bits < 16777216 := Nat.lt_of_lt_of_le hb (Nat.pow_le_pow_right (by omega) hn)
  have HB := Lib.hid hb
  clear hb
  obtain ⟨w1, hW⟩ : ∃ w1, w1 = w.alloc (.cells #[.int .i64 0, .slice none 0 0] 25) := ⟨_, rfl⟩
  have HW := Lib.hid hW
  have B1 := Lib.hid (show Below w.heap.size w w1 by rw [hW]; exact bel1 w _)
  have U1 := Lib.hid (show Box w1 w.heap.size (.int .i64 0) (.slice none 0 0) 25 by rw [hW]; exact box_new w _ _ _)
  have HSZ := Lib.hid (show w1.heap.size = w.heap.size + 1 by rw [hW]; simp)
  clear hW
  go_enter Try.func100, Try.ntmps100
  go_wp2
  rw [← HW.out, ← HSZ.out]
  go_loopw [6] (fun i wr => ∃ k : Nat, k ≤ n ∧ i = .int .i64 k ∧ LstAt n (bitP n bits k) w1 wr) (fun i _ => n - (intOf i).toNat)
  case atStart => exact ⟨0, by omega, rfl, lst_start n w1⟩
  case round =>
    obtain ⟨k, hk, rfl, hat⟩ := hrel
    obtain ⟨av, cv, hb0, hown, hnx, hsz⟩ := hat
    obtain ⟨L, hL⟩ : ∃ L, bitP n bits k = L := ⟨_, rfl⟩
    rw [hL] at hb0 hown
    have HL := Lib.hid hL
    have H0 := Lib.hid hb0
    have HO := Lib.hid hown
    have HX := Lib.hid hnx
    have HZ := Lib.hid hsz
    have lt0 := hb0.lt
    clear hb0 hown hnx hsz hL
    obtain ⟨c0, c1, f0, f1⟩ := H0.out.facts
    by_cases hlt : k < n
    · have hv := bit_val bits (n - 1 - k) hbb
      by_cases hbit : bits / 2 ^ (n - 1 - k) % 2 = 1
      · have HN := Lib.hid (bitP_yes hbit)
        have hbv : (Go.bits .and .i64 ((bits : Int) / 2 ^ (n - 1 - k)) 1 == 1) = true := by rw [hv, hbit]; rfl
        have hsl : L.length ≤ 1048577 := by rw [← HL.out]; have := bitP_len n bits k; omega
        clear hbit hv
        go_wp2_with (at_builtin; refine append_int rfl _ _ rfl (w1.heap.size + 1) _ L _ _ HO.out hsl HZ.out _ rfl rfl rfl ?_; intro a' c' w' hown' hb'; have HO2 := Lib.hid hown'; have HX2 := Lib.hid hb'; have hq := HX2.out.frozen (p := ⟨w1.heap.size, 1, none⟩) (by show w1.heap.size < w1.heap.size + 1; omega); have hq2 := HX2.out.cell (p := ⟨w1.heap.size, 1, none⟩) (by show w1.heap.size < w1.heap.size + 1; omega); clear hown' hb')
        go_roundw
        case rel =>
          refine ⟨k + 1, by omega, by go_num, ?_⟩
          rw [HN.out, HL.out]
          have := lst_snoc H0.out HX.out HZ.out HO2.out HX2.out
          simpa using this
        case measure => simp [intOf]; omega
      · have HN := Lib.hid (bitP_no hbit)
        have hbv : (Go.bits .and .i64 ((bits : Int) / 2 ^ (n - 1 - k)) 1 == 1) = false := by rw [hv, beq_eq_false_iff_ne]; omega
        clear hbit hv
        go_wp2
        go_roundw
        case rel => exact ⟨k + 1, by omega, by go_num, by rw [HN.out, HL.out]; exact ⟨av, cv, H0.out, HO.out, HX.out, HZ.out⟩⟩
        case measure => simp [intOf]; omega
    · have e : k = n := by omega
      have HE : Hid (bitsL n bits = L) := Lib.hid (by rw [← HL.out, e]; rfl)
      have b1 := B1.out.size
      obtain ⟨y1, y2, y3, y4⟩ := (U1.out.keep HX.out U1.out.lt).facts
      have y5 := (U1.out.keep HX.out U1.out.lt).lt
      clear e
      go_wp2
      refine bodyPost_ret (v := rhy n av L.length cv) (by simp [results, Try.results100, go_sem, *]) rfl ?_
      rw [HE.out]
      refine ⟨av, cv, rfl, ?_, ?_⟩
      · exact own_base (ownsRow_setCell_below (ownsRow_setCell_below HO.out (by show w.heap.size < w1.heap.size + 1; have := U1.out.lt; omega) _) (by show w.heap.size < w1.heap.size + 1; have := U1.out.lt; omega) _) (by omega)
      · exact ((B1.out.trans (HX.out.mono (by omega))).setCell (by simp) _).setCell (by simp) _

/-! twins -/
/-- A twin of zs: as many beats, the same vector, the least of its forms, no form of zs. -/
noncomputable def twQ (n : Int) (zs x : List Int) : Bool := decide (x.length = zs.length) && (eqB (vecZ n x) (vecZ n zs) && (eqB (formZ n x) x && !aforB n zs n x))
noncomputable def twJ (n : Nat) (zs : List Int) (j : Nat) : List (List Int) := ((List.range j).map fun i => bitsL n (2 ^ n - 1 - i)).filter (twQ n zs)
noncomputable def twZ (n : Nat) (zs : List Int) : List (List Int) := twJ n zs (2 ^ n)
theorem twJ_yes {n : Nat} {zs : List Int} {j m : Nat} (hm : 2 ^ n - 1 - j = m) (h : twQ n zs (bitsL n m) = true) : twJ n zs (j + 1) = twJ n zs j ++ [bitsL n m] := by
  unfold twJ
  rw [List.range_succ, List.map_append, List.filter_append]
  simp only [List.map_cons, List.map_nil, hm]
  rw [List.filter_cons_of_pos h]
  rfl
theorem twJ_no {n : Nat} {zs : List Int} {j m : Nat} (hm : 2 ^ n - 1 - j = m) (h : twQ n zs (bitsL n m) = false) : twJ n zs (j + 1) = twJ n zs j := by
  unfold twJ
  rw [List.range_succ, List.map_append, List.filter_append]
  simp only [List.map_cons, List.map_nil, hm]
  rw [List.filter_cons_of_neg (by rw [h]; simp)]
  simp
theorem twJ_len (n : Nat) (zs : List Int) (j : Nat) : (twJ n zs j).length ≤ j := by
  unfold twJ
  exact Nat.le_trans (List.length_filter_le _ _) (by simp)
theorem bits_ok {n bits : Nat} (h1 : 1 ≤ n) (h2 : n ≤ 24) : Ok n (bitsL n bits) := by
  refine ok_of (by omega) (by omega) ?_ fun z hz => ?_
  · unfold bitsL bitP
    rw [List.pairwise_map]
    exact (List.pairwise_lt_range.filter _).imp fun h => by omega
  · unfold bitsL bitP at hz
    rw [List.mem_map] at hz
    obtain ⟨p, hp, rfl⟩ := hz
    have := List.mem_range.1 (List.mem_filter.1 hp).1
    omega
open Classical in
/-- What both answer. -/
noncomputable def twinsB (s : Int) (zs : List Int) : List (List Int) := if Ok s zs ∧ s ≤ 12 then twZ s.toNat zs else []
theorem twinsB_yes {n : Nat} {zs : List Int} (h : Ok n zs ∧ (n : Int) ≤ 12) : twinsB n zs = twZ n zs := by unfold twinsB; rw [if_pos h]; rfl
theorem twinsB_no {s : Int} {zs : List Int} (h : ¬ (Ok s zs ∧ s ≤ 12)) : twinsB s zs = [] := if_neg h
def TwAt (n : Nat) (zs : List Int) (j : Nat) (w1 wr : World) (v : Value) : Prop :=
  ∃ av cv q L, v = .slice av q cv ∧ L.length = q ∧ q ≤ j ∧ Items wr w1.heap.size (.slice av q cv) L ∧ vals L = (twJ n zs j).map (fun z => ((n : Int), z)) ∧ Below w1.heap.size w1 wr ∧ w1.heap.size ≤ wr.heap.size
theorem tw_snoc {n : Nat} {zs X : List Int} {j : Nat} {L : List Item} {r : Item} (h : vals L = (twJ n zs j).map (fun z => ((n : Int), z))) (e : twJ n zs (j + 1) = twJ n zs j ++ [X]) (hs : r.s = n) (hz : r.zs = X) : vals (L ++ [r]) = (twJ n zs (j + 1)).map (fun z => ((n : Int), z)) := by
  rw [e, List.map_append, ← h]
  simp [vals, hs, hz]
theorem cp_open {c : Prop} {s : Int} {l : List Int} {w w' : World} {e : Ending} (hc : c) (h : CPost c s l w e w') : RetPost s l true w e w' := by
  unfold CPost at h
  rwa [cS_yes hc, cZ_yes hc, cB_yes hc] at h
/-- A box that a rhythm of the program's was put into. -/
theorem rhi_put {w' : World} {n : Int} {a : Option Addr} {cap : Nat} {zs : List Int} {B : Nat} (h : w'.ownsRow B 3 1 (.slice a zs.length cap) zs.length (ints zs)) (hi : AllInt zs) : RhI (w'.alloc (.cells #[.int .i64 n, .slice a zs.length cap] 25)) w'.heap.size n a zs.length cap zs :=
  ⟨box_new _ _ _ _, (intsAt_own h hi).below (bel1 _ _)⟩

set_option maxHeartbeats 2000000 in
set_option maxRecDepth 100000 in
theorem twinsOf_spec (s : Int) (a : Option Addr) (len cap : Nat) (zs : List Int) (w : World) (h : IntsAt w a len zs) (hm : zs.length ≤ 1048576) :
    Calls Try.prog 49 #[rhy s a len cap] w (RSPost s (twinsB s zs) w) := by
  have HS := Lib.hid h
  have hl : len ≤ 1048576 := by have := h.1; omega
  have HLN := Lib.hid h.1
  clear h
  by_cases ho : Ok s zs
  · have HO := Lib.hid ho
    obtain ⟨n, rfl⟩ : ∃ n : Nat, s = n := ⟨s.toNat, by have := ho.1; omega⟩
    by_cases h12 : n ≤ 12
    · have h12b : decide ((12 : Int) < (n : Int)) = false := by simp; omega
      have HE := Lib.hid (twinsB_yes ⟨ho, by omega⟩)
      have hn1 : 1 ≤ n := by have := ho.1; omega
      have hlz : zs.length ≤ 24 := ok_len ho
      have hlen : len ≤ 24 := by have := HLN.out; omega
      clear ho
      obtain ⟨N, hN⟩ : ∃ N, 2 ^ n = N := ⟨_, rfl⟩
      have hN1 : 1 ≤ N := by rw [← hN]; exact Nat.one_le_two_pow
      have hN4 : N ≤ 4096 := by rw [← hN]; exact Nat.pow_le_pow_right (by omega) h12
      have HN := Lib.hid hN
      have hNi : (2 : Int) ^ n = (N : Int) := by rw [← hN]; simp
      have HNI := Lib.hid hNi
      clear hN
      rw [HE.out]
      go_enter Try.func49, Try.ntmps49
      go_wp2_with fail
      refine (ok_yes n a len cap zs _ (HS.out.below (bel1 w _)) hl HO.out).mono ?_
      rintro e w0 ⟨rfl, hb1⟩
      have HB := Lib.hid ((bel1 w (.cells #[.int .i64 n, .slice a len cap] 25)).trans (hb1.mono (by simp)))
      have HT : Hid (RhI w0 w.heap.size n a len cap zs) := Lib.hid ⟨(box_new w _ _ _).keep hb1 (by simp), HS.out.below HB.out⟩
      obtain ⟨t1, t1a, t1b, t1c⟩ := HT.out.1.facts
      have lt0 := HT.out.1.lt
      clear hb1
      go_wp2
      clear t1 t1a t1b t1c
      go_loopw [3, 4] (fun v i wr => ∃ j : Nat, j ≤ N ∧ i = .int .i64 ((N : Int) - 1 - j) ∧ TwAt n zs j w0 wr v) (fun _ i _ => (intOf i + 1).toNat)
      case atStart => exact ⟨0, by omega, by simp, _, 0, 0, [], rfl, rfl, Nat.le_refl _, items_made w0 (Nat.le_refl _), rfl, (Below.refl _ _).alloc (Nat.le_refl _) _, by simp⟩
      case round =>
        obtain ⟨j, hj, rfl, av, cv, q, L, rfl, hlq, hqj, hit, hvl, hnx, hsz⟩ := hrel
        have HLQ := Lib.hid hlq
        have HIT := Lib.hid hit
        have HVL := Lib.hid hvl
        have HX := Lib.hid hnx
        have HZ := Lib.hid hsz
        clear hlq hit hvl hnx hsz
        have HTr := Lib.hid (HT.out.keep HX.out)
        obtain ⟨t1, t1a, t1b, t1c⟩ := HTr.out.1.facts
        have lt1 := HTr.out.1.lt
        by_cases hlt : j < N
        · obtain ⟨m, hm0⟩ : ∃ m, N - 1 - j = m := ⟨_, rfl⟩
          have hmi : (N : Int) - 1 - (j : Int) = (m : Int) := by omega
          have hmN : m < 2 ^ n := by rw [HN.out]; omega
          have hm12 : 2 ^ n - 1 - j = m := by rw [HN.out]; exact hm0
          have HM12 := Lib.hid hm12
          have HMN := Lib.hid hmN
          have hgeq : decide ((0 : Int) ≤ (N : Int) - 1 - (j : Int)) = true := by simp; omega
          have hdec : (m : Int) - 1 = (N : Int) - 1 - ((j + 1 : Nat) : Int) := by omega
          have HDEC := Lib.hid hdec
          have hm4 : m ≤ 4096 := by omega
          obtain ⟨X, hX⟩ : ∃ X, bitsL n m = X := ⟨_, rfl⟩
          have HXE := Lib.hid hX
          have HOX : Hid (Ok n X) := Lib.hid (by rw [← hX]; exact bits_ok hn1 (by omega))
          have hxl : X.length ≤ 24 := ok_len HOX.out
          clear hm0 hm12 hmN hX hdec
          rw [hmi] at hgeq ⊢
          have HGQ := Lib.hid hgeq
          have HMI := Lib.hid hmi
          clear hgeq hmi
          have hge0 : (0 : Int) ≤ (m : Int) := by omega
          go_wp2_with fail
          refine (of_spec n m wr hn1 (by omega) HMN.out).mono ?_
          rw [HXE.out]
          rintro e w2 ⟨bx, cx, rfl, hown, hb2⟩
          have HOW := Lib.hid hown
          have HB2 := Lib.hid hb2
          have HT2 := Lib.hid ((HTr.out.keep hb2).keep (bel1 w2 (.cells #[.int .i64 n, .slice bx X.length cx] 25)))
          have HXX := Lib.hid (rhi_put (n := n) hown (ok_int HOX.out))
          obtain ⟨w3, hw3⟩ : ∃ w3, w3 = w2.alloc (.cells #[.int .i64 n, .slice bx X.length cx] 25) := ⟨_, rfl⟩
          have HW3 := Lib.hid hw3
          rw [← hw3] at HT2 HXX
          have HB3 : Hid (Below wr.heap.size wr w3) := Lib.hid (by rw [hw3]; exact hb2.alloc hb2.size _)
          have HO3 : Hid (w3.ownsRow wr.heap.size 3 1 (.slice bx X.length cx) X.length (ints X)) := Lib.hid (by rw [hw3]; exact own_below hown (bel1 _ _))
          clear hown hb2 hw3 t1 t1a t1b t1c lt1
          obtain ⟨t1, t1a, t1b, t1c⟩ := HT2.out.1.facts
          have lt1 := HT2.out.1.lt
          obtain ⟨x1, x1a, x1b, x1c⟩ := HXX.out.1.facts
          have lx1 := HXX.out.1.lt
          by_cases hlen2 : X.length = len
          · have hneb : ((X.length : Int) != (len : Int)) = false := by rw [hlen2]; simp
            have HL2 := Lib.hid hlen2
            clear hlen2
            obtain ⟨v1, hv1⟩ : ∃ v1, eqB (vecZ n X) (vecZ n zs) = v1 := ⟨_, rfl⟩
            have HV1 := Lib.hid hv1
            have HVX := Lib.hid (vec_int HOX.out)
            have HVZ := Lib.hid (vec_int HO.out)
            have HVL1 : Hid ((vecZ n X).length ≤ 24) := Lib.hid (by rw [vec_len]; omega)
            have HVL2 : Hid ((vecZ n zs).length ≤ 24) := Lib.hid (by rw [vec_len]; omega)
            clear hv1
            cases v1
            · have HF : Hid (twQ n zs X = false) := Lib.hid (by unfold twQ; rw [HV1.out]; simp)
              go_upto_region 8 with fail
              rw [← HW3.out]
              clear t1 t1a t1b t1c lt1 x1 x1a x1b x1c lx1
              have HK : Hid (∀ W' : World, Below w3.heap.size w3 W' → W'.cell? ⟨w.heap.size, 0, none⟩ = some (.int .i64 n) ∧ W'.cell? ⟨w.heap.size, 1, none⟩ = some (.slice a len cap) ∧ W'.cell? ⟨w2.heap.size, 0, none⟩ = some (.int .i64 n) ∧ W'.cell? ⟨w2.heap.size, 1, none⟩ = some (.slice bx X.length cx) ∧ Below w3.heap.size w3 W') :=
                Lib.hid (fun W' hW => ⟨(HT2.out.keep hW).1.facts.1, (HT2.out.keep hW).1.facts.2.1, (HXX.out.keep hW).1.facts.1, (HXX.out.keep hW).1.facts.2.1, hW⟩)
              have HIr : Hid (∀ W' : World, Below w3.heap.size w3 W' → IntsAt W' a len zs) := Lib.hid (fun W' hW => (HT2.out.keep hW).2)
              have HIx : Hid (∀ W' : World, Below w3.heap.size w3 W' → IntsAt W' bx X.length X) := Lib.hid (fun W' hW => (HXX.out.keep hW).2)
              refine wp_region_held_drew (S := fun W' => W'.cell? ⟨w.heap.size, 0, none⟩ = some (.int .i64 n) ∧ W'.cell? ⟨w.heap.size, 1, none⟩ = some (.slice a len cap) ∧ W'.cell? ⟨w2.heap.size, 0, none⟩ = some (.int .i64 n) ∧ W'.cell? ⟨w2.heap.size, 1, none⟩ = some (.slice bx X.length cx) ∧ Below w3.heap.size w3 W') (by kernel_rfl) (HK.out _ (Below.refl _ _).drew) (fun hSS0 => ?_)
              refine wpAnyH_take (i := 0) (oi := ⟨some 29, _, _, _, _, _⟩) (v := .pointer (some ⟨w2.heap.size, 1, none⟩)) rfl (by kernel_rfl) (by kernel_rfl) (by kernel_rfl) (fun _ _ _ h => h) (Or.inl ⟨by rfl, fun w hSw => by go_simp⟩) (by assumption) ?_
              try simp only [Act.put, List.setIfInBounds_toArray, List.set_cons_zero, List.set_cons_succ]
              refine wpAnyH_take (i := 1) (oi := ⟨some 30, _, _, _, _, _⟩) (v := .slice bx X.length cx) rfl (by kernel_rfl) (by kernel_rfl) (by kernel_rfl) (fun _ _ _ h => h) (Or.inl ⟨by rfl, fun w hSw => by obtain ⟨_, _, q1, q2, _⟩ := hSw; go_simp⟩) (by assumption) ?_
              try simp only [Act.put, List.setIfInBounds_toArray, List.set_cons_zero, List.set_cons_succ]
              refine wpAnyH_take (i := 2) (oi := ⟨some 31, _, _, _, _, _⟩) (v := .int .i64 (X.length : Nat)) rfl (by kernel_rfl) (by kernel_rfl) (by kernel_rfl) (fun _ _ _ h => h) (Or.inl ⟨by rfl, fun w hSw => by go_simp⟩) (by assumption) ?_
              try simp only [Act.put, List.setIfInBounds_toArray, List.set_cons_zero, List.set_cons_succ]
              refine wpAnyH_take (i := 3) (oi := ⟨some 32, _, _, _, _, _⟩) (v := .pointer (some ⟨w.heap.size, 1, none⟩)) rfl (by kernel_rfl) (by kernel_rfl) (by kernel_rfl) (fun _ _ _ h => h) (Or.inl ⟨by rfl, fun w hSw => by go_simp⟩) (by assumption) ?_
              try simp only [Act.put, List.setIfInBounds_toArray, List.set_cons_zero, List.set_cons_succ]
              refine wpAnyH_take (i := 4) (oi := ⟨some 33, _, _, _, _, _⟩) (v := .slice a len cap) rfl (by kernel_rfl) (by kernel_rfl) (by kernel_rfl) (fun _ _ _ h => h) (Or.inl ⟨by rfl, fun w hSw => by obtain ⟨q1, q2, _⟩ := hSw; go_simp⟩) (by assumption) ?_
              try simp only [Act.put, List.setIfInBounds_toArray, List.set_cons_zero, List.set_cons_succ]
              refine wpAnyH_take (i := 5) (oi := ⟨some 34, _, _, _, _, _⟩) (v := .int .i64 (len : Nat)) rfl (by kernel_rfl) (by kernel_rfl) (by kernel_rfl) (fun _ _ _ h => h) (Or.inl ⟨by rfl, fun w hSw => by go_simp⟩) (by assumption) ?_
              try simp only [Act.put, List.setIfInBounds_toArray, List.set_cons_zero, List.set_cons_succ]
              refine wpAnyH_take (i := 6) (oi := ⟨some 35, _, _, _, _, _⟩) (v := .bool false) rfl (by kernel_rfl) (by kernel_rfl) (by kernel_rfl) (fun _ _ _ h => h) (Or.inl ⟨by rfl, fun w hSw => by have h9 := HL2.out; first | (go_simp; done) | (go_simp; omega)⟩) (by assumption) ?_
              try simp only [Act.put, List.setIfInBounds_toArray, List.set_cons_zero, List.set_cons_succ]
              refine wpAnyH_take (i := 7) (oi := ⟨some 36, _, _, _, _, _⟩) (v := .bool false) rfl (by kernel_rfl) (by kernel_rfl) (by kernel_rfl) (fun _ _ _ h => h) (Or.inl ⟨by rfl, fun w hSw => by go_simp⟩) (by assumption) ?_
              try simp only [Act.put, List.setIfInBounds_toArray, List.set_cons_zero, List.set_cons_succ]
              refine wpAnyH_take (i := 8) (oi := ⟨some 37, _, _, _, _, _⟩) (v := .agg #[.int .i64 n, .slice bx X.length cx]) rfl (by kernel_rfl) (by kernel_rfl) (by kernel_rfl) (fun _ _ _ h => h) (Or.inl ⟨by rfl, fun w hSw => by obtain ⟨_, _, q1, q2, _⟩ := hSw; go_simp⟩) (by assumption) ?_
              try simp only [Act.put, List.setIfInBounds_toArray, List.set_cons_zero, List.set_cons_succ]
              refine wpAnyH_take (i := 10) (oi := ⟨some 39, _, _, _, _, _⟩) (v := .agg #[.int .i64 n, .slice a len cap]) rfl (by kernel_rfl) (by kernel_rfl) (by kernel_rfl) (fun _ _ _ h => h) (Or.inl ⟨by rfl, fun w hSw => by obtain ⟨q1, q2, _⟩ := hSw; go_simp⟩) (by assumption) ?_
              try simp only [Act.put, List.setIfInBounds_toArray, List.set_cons_zero, List.set_cons_succ]
              refine wpAnyH_ready (rs := [9]) (by kernel_rfl) (by simp) ?_
              refine AllReadyH.cons rfl (fun K hKK => ?_) AllReadyH.nil
              go_simp
              go_at_call 102
              refine (vec0_spec n bx X.length cx X _ (HIx.out _ (Below.refl _ _).drew) (by omega) HOX.out).mono ?_
              rintro e wk1 ⟨ay, cy, rfl, hown1, hc1⟩
              have HV38 := Lib.hid (intsAt_own hown1 HVX.out)
              clear hown1
              have hbb1 : Below w3.heap.size w3 wk1 := (Below.refl _ _).drew.trans hc1
              clear hc1
              refine hKK.out _ _ (HK.out _ hbb1) (fun hSS1 => ?_)
              clear hKK K hSS0
              try simp only [Act.put, List.setIfInBounds_toArray, List.set_cons_zero, List.set_cons_succ]
              refine wpAnyH_ready (rs := [11]) (by kernel_rfl) (by simp) ?_
              refine AllReadyH.cons rfl (fun K hKK => ?_) AllReadyH.nil
              go_simp
              go_at_call 102
              refine (vec0_spec n a len cap zs _ (HIr.out _ hbb1) hl HO.out).mono ?_
              rintro e wk2 ⟨az, cz, rfl, hown2, hc2⟩
              have HV40 := Lib.hid (intsAt_own hown2 HVZ.out)
              have HV39 := Lib.hid (HV38.out.below hc2)
              clear hown2
              have hbb2 : Below w3.heap.size w3 wk2 := hbb1.trans (hc2.mono hbb1.size)
              clear hc2
              refine hKK.out _ _ (HK.out _ hbb2) (fun hSS2 => ?_)
              clear hKK K hbb1 hSS1
              try simp only [Act.put, List.setIfInBounds_toArray, List.set_cons_zero, List.set_cons_succ]
              refine wpAnyH_ready (rs := [12]) (by kernel_rfl) (by simp) ?_
              refine AllReadyH.cons rfl (fun K hKK => ?_) AllReadyH.nil
              go_simp
              go_at_call 101
              refine (same_q ay az (vecZ n X).length (vecZ n zs).length cy cz (vecZ n X) (vecZ n zs) false _ HV39.out HV40.out (by have := HVL1.out; omega) (by have := HVL2.out; omega) HV1.out).mono ?_
              rintro e wk3 ⟨rfl, hc3⟩
              have hbb3 : Below w3.heap.size w3 wk3 := hbb2.trans (hc3.mono hbb2.size)
              clear hc3
              refine hKK.out _ _ (HK.out _ hbb3) (fun hSS3 => ?_)
              clear hKK K hbb2 hSS2
              try simp only [Act.put, List.setIfInBounds_toArray, List.set_cons_zero, List.set_cons_succ]
              refine wpAnyH_take (i := 13) (oi := ⟨some 42, _, _, _, _, _⟩) (v := .bool true) rfl (by kernel_rfl) (by kernel_rfl) (by kernel_rfl) (fun _ _ _ h => h) (Or.inl ⟨by rfl, fun w hSw => by go_simp⟩) (by assumption) ?_
              try simp only [Act.put, List.setIfInBounds_toArray, List.set_cons_zero, List.set_cons_succ]
              refine wpAnyH_take (i := 14) (oi := ⟨some 43, _, _, _, _, _⟩) (v := .bool true) rfl (by kernel_rfl) (by kernel_rfl) (by kernel_rfl) (fun _ _ _ h => h) (Or.inl ⟨by rfl, fun w hSw => by go_simp⟩) (by assumption) ?_
              try simp only [Act.put, List.setIfInBounds_toArray, List.set_cons_zero, List.set_cons_succ]
              refine wpAnyH_done (by kernel_rfl) ?_ _
              clear HK
              have HBB : Hid (Below wr.heap.size wr wk3) := Lib.hid (HB3.out.trans (hbb3.mono HB3.out.size))
              clear hbb3 hSS3 HIr HIx
              go_wp2
              go_roundw
              case rel => exact ⟨j + 1, by omega, by rw [HDEC.out], av, cv, q, L, rfl, HLQ.out, by omega, HIT.out.keep HBB.out, by rw [twJ_no HM12.out (by rw [HXE.out]; exact HF.out)]; exact HVL.out, HX.out.trans (HBB.out.mono HZ.out), Nat.le_trans HZ.out HBB.out.size⟩
              case measure => first | (simp [intOf]; done) | (simp [intOf]; omega)
            · go_upto_region 8 with fail
              rw [← HW3.out]
              clear t1 t1a t1b t1c lt1 x1 x1a x1b x1c lx1
              have HK : Hid (∀ W' : World, Below w3.heap.size w3 W' → W'.cell? ⟨w.heap.size, 0, none⟩ = some (.int .i64 n) ∧ W'.cell? ⟨w.heap.size, 1, none⟩ = some (.slice a len cap) ∧ W'.cell? ⟨w2.heap.size, 0, none⟩ = some (.int .i64 n) ∧ W'.cell? ⟨w2.heap.size, 1, none⟩ = some (.slice bx X.length cx) ∧ Below w3.heap.size w3 W') :=
                Lib.hid (fun W' hW => ⟨(HT2.out.keep hW).1.facts.1, (HT2.out.keep hW).1.facts.2.1, (HXX.out.keep hW).1.facts.1, (HXX.out.keep hW).1.facts.2.1, hW⟩)
              have HIr : Hid (∀ W' : World, Below w3.heap.size w3 W' → IntsAt W' a len zs) := Lib.hid (fun W' hW => (HT2.out.keep hW).2)
              have HIx : Hid (∀ W' : World, Below w3.heap.size w3 W' → IntsAt W' bx X.length X) := Lib.hid (fun W' hW => (HXX.out.keep hW).2)
              refine wp_region_held_drew (S := fun W' => W'.cell? ⟨w.heap.size, 0, none⟩ = some (.int .i64 n) ∧ W'.cell? ⟨w.heap.size, 1, none⟩ = some (.slice a len cap) ∧ W'.cell? ⟨w2.heap.size, 0, none⟩ = some (.int .i64 n) ∧ W'.cell? ⟨w2.heap.size, 1, none⟩ = some (.slice bx X.length cx) ∧ Below w3.heap.size w3 W') (by kernel_rfl) (HK.out _ (Below.refl _ _).drew) (fun hSS0 => ?_)
              refine wpAnyH_take (i := 0) (oi := ⟨some 29, _, _, _, _, _⟩) (v := .pointer (some ⟨w2.heap.size, 1, none⟩)) rfl (by kernel_rfl) (by kernel_rfl) (by kernel_rfl) (fun _ _ _ h => h) (Or.inl ⟨by rfl, fun w hSw => by go_simp⟩) (by assumption) ?_
              try simp only [Act.put, List.setIfInBounds_toArray, List.set_cons_zero, List.set_cons_succ]
              refine wpAnyH_take (i := 1) (oi := ⟨some 30, _, _, _, _, _⟩) (v := .slice bx X.length cx) rfl (by kernel_rfl) (by kernel_rfl) (by kernel_rfl) (fun _ _ _ h => h) (Or.inl ⟨by rfl, fun w hSw => by obtain ⟨_, _, q1, q2, _⟩ := hSw; go_simp⟩) (by assumption) ?_
              try simp only [Act.put, List.setIfInBounds_toArray, List.set_cons_zero, List.set_cons_succ]
              refine wpAnyH_take (i := 2) (oi := ⟨some 31, _, _, _, _, _⟩) (v := .int .i64 (X.length : Nat)) rfl (by kernel_rfl) (by kernel_rfl) (by kernel_rfl) (fun _ _ _ h => h) (Or.inl ⟨by rfl, fun w hSw => by go_simp⟩) (by assumption) ?_
              try simp only [Act.put, List.setIfInBounds_toArray, List.set_cons_zero, List.set_cons_succ]
              refine wpAnyH_take (i := 3) (oi := ⟨some 32, _, _, _, _, _⟩) (v := .pointer (some ⟨w.heap.size, 1, none⟩)) rfl (by kernel_rfl) (by kernel_rfl) (by kernel_rfl) (fun _ _ _ h => h) (Or.inl ⟨by rfl, fun w hSw => by go_simp⟩) (by assumption) ?_
              try simp only [Act.put, List.setIfInBounds_toArray, List.set_cons_zero, List.set_cons_succ]
              refine wpAnyH_take (i := 4) (oi := ⟨some 33, _, _, _, _, _⟩) (v := .slice a len cap) rfl (by kernel_rfl) (by kernel_rfl) (by kernel_rfl) (fun _ _ _ h => h) (Or.inl ⟨by rfl, fun w hSw => by obtain ⟨q1, q2, _⟩ := hSw; go_simp⟩) (by assumption) ?_
              try simp only [Act.put, List.setIfInBounds_toArray, List.set_cons_zero, List.set_cons_succ]
              refine wpAnyH_take (i := 5) (oi := ⟨some 34, _, _, _, _, _⟩) (v := .int .i64 (len : Nat)) rfl (by kernel_rfl) (by kernel_rfl) (by kernel_rfl) (fun _ _ _ h => h) (Or.inl ⟨by rfl, fun w hSw => by go_simp⟩) (by assumption) ?_
              try simp only [Act.put, List.setIfInBounds_toArray, List.set_cons_zero, List.set_cons_succ]
              refine wpAnyH_take (i := 6) (oi := ⟨some 35, _, _, _, _, _⟩) (v := .bool false) rfl (by kernel_rfl) (by kernel_rfl) (by kernel_rfl) (fun _ _ _ h => h) (Or.inl ⟨by rfl, fun w hSw => by have h9 := HL2.out; first | (go_simp; done) | (go_simp; omega)⟩) (by assumption) ?_
              try simp only [Act.put, List.setIfInBounds_toArray, List.set_cons_zero, List.set_cons_succ]
              refine wpAnyH_take (i := 7) (oi := ⟨some 36, _, _, _, _, _⟩) (v := .bool false) rfl (by kernel_rfl) (by kernel_rfl) (by kernel_rfl) (fun _ _ _ h => h) (Or.inl ⟨by rfl, fun w hSw => by go_simp⟩) (by assumption) ?_
              try simp only [Act.put, List.setIfInBounds_toArray, List.set_cons_zero, List.set_cons_succ]
              refine wpAnyH_take (i := 8) (oi := ⟨some 37, _, _, _, _, _⟩) (v := .agg #[.int .i64 n, .slice bx X.length cx]) rfl (by kernel_rfl) (by kernel_rfl) (by kernel_rfl) (fun _ _ _ h => h) (Or.inl ⟨by rfl, fun w hSw => by obtain ⟨_, _, q1, q2, _⟩ := hSw; go_simp⟩) (by assumption) ?_
              try simp only [Act.put, List.setIfInBounds_toArray, List.set_cons_zero, List.set_cons_succ]
              refine wpAnyH_take (i := 10) (oi := ⟨some 39, _, _, _, _, _⟩) (v := .agg #[.int .i64 n, .slice a len cap]) rfl (by kernel_rfl) (by kernel_rfl) (by kernel_rfl) (fun _ _ _ h => h) (Or.inl ⟨by rfl, fun w hSw => by obtain ⟨q1, q2, _⟩ := hSw; go_simp⟩) (by assumption) ?_
              try simp only [Act.put, List.setIfInBounds_toArray, List.set_cons_zero, List.set_cons_succ]
              refine wpAnyH_ready (rs := [9]) (by kernel_rfl) (by simp) ?_
              refine AllReadyH.cons rfl (fun K hKK => ?_) AllReadyH.nil
              go_simp
              go_at_call 102
              refine (vec0_spec n bx X.length cx X _ (HIx.out _ (Below.refl _ _).drew) (by omega) HOX.out).mono ?_
              rintro e wk1 ⟨ay, cy, rfl, hown1, hc1⟩
              have HV38 := Lib.hid (intsAt_own hown1 HVX.out)
              clear hown1
              have hbb1 : Below w3.heap.size w3 wk1 := (Below.refl _ _).drew.trans hc1
              clear hc1
              refine hKK.out _ _ (HK.out _ hbb1) (fun hSS1 => ?_)
              clear hKK K hSS0
              try simp only [Act.put, List.setIfInBounds_toArray, List.set_cons_zero, List.set_cons_succ]
              refine wpAnyH_ready (rs := [11]) (by kernel_rfl) (by simp) ?_
              refine AllReadyH.cons rfl (fun K hKK => ?_) AllReadyH.nil
              go_simp
              go_at_call 102
              refine (vec0_spec n a len cap zs _ (HIr.out _ hbb1) hl HO.out).mono ?_
              rintro e wk2 ⟨az, cz, rfl, hown2, hc2⟩
              have HV40 := Lib.hid (intsAt_own hown2 HVZ.out)
              have HV39 := Lib.hid (HV38.out.below hc2)
              clear hown2
              have hbb2 : Below w3.heap.size w3 wk2 := hbb1.trans (hc2.mono hbb1.size)
              clear hc2
              refine hKK.out _ _ (HK.out _ hbb2) (fun hSS2 => ?_)
              clear hKK K hbb1 hSS1
              try simp only [Act.put, List.setIfInBounds_toArray, List.set_cons_zero, List.set_cons_succ]
              refine wpAnyH_ready (rs := [12]) (by kernel_rfl) (by simp) ?_
              refine AllReadyH.cons rfl (fun K hKK => ?_) AllReadyH.nil
              go_simp
              go_at_call 101
              refine (same_q ay az (vecZ n X).length (vecZ n zs).length cy cz (vecZ n X) (vecZ n zs) true _ HV39.out HV40.out (by have := HVL1.out; omega) (by have := HVL2.out; omega) HV1.out).mono ?_
              rintro e wk3 ⟨rfl, hc3⟩
              have hbb3 : Below w3.heap.size w3 wk3 := hbb2.trans (hc3.mono hbb2.size)
              clear hc3
              refine hKK.out _ _ (HK.out _ hbb3) (fun hSS3 => ?_)
              clear hKK K hbb2 hSS2
              try simp only [Act.put, List.setIfInBounds_toArray, List.set_cons_zero, List.set_cons_succ]
              refine wpAnyH_take (i := 13) (oi := ⟨some 42, _, _, _, _, _⟩) (v := .bool false) rfl (by kernel_rfl) (by kernel_rfl) (by kernel_rfl) (fun _ _ _ h => h) (Or.inl ⟨by rfl, fun w hSw => by go_simp⟩) (by assumption) ?_
              try simp only [Act.put, List.setIfInBounds_toArray, List.set_cons_zero, List.set_cons_succ]
              refine wpAnyH_take (i := 14) (oi := ⟨some 43, _, _, _, _, _⟩) (v := .bool false) rfl (by kernel_rfl) (by kernel_rfl) (by kernel_rfl) (fun _ _ _ h => h) (Or.inl ⟨by rfl, fun w hSw => by go_simp⟩) (by assumption) ?_
              try simp only [Act.put, List.setIfInBounds_toArray, List.set_cons_zero, List.set_cons_succ]
              refine wpAnyH_done (by kernel_rfl) ?_ _
              clear HK
              have HBB : Hid (Below wr.heap.size wr wk3) := Lib.hid (HB3.out.trans (hbb3.mono HB3.out.size))
              have HT4 := Lib.hid (HT2.out.keep hbb3)
              have HX4 := Lib.hid (HXX.out.keep hbb3)
              have HO4 := Lib.hid (own_below HO3.out hbb3)
              clear hbb3 hSS3 HIr HIx
              obtain ⟨F, hF⟩ : ∃ F, formZ n X = F := ⟨_, rfl⟩
              have HFE := Lib.hid hF
              have HOF : Hid (Ok n F) := Lib.hid (by rw [← hF]; exact form_ok HOX.out)
              clear hF
              have hfl : F.length ≤ 24 := ok_len HOF.out
              obtain ⟨x1, x1a, x1b, x1c⟩ := HX4.out.1.facts
              have lx1 := HX4.out.1.lt
              go_wp2_with fail
              refine (form_spec n bx X.length cx X _ HX4.out.2 (by omega)).mono ?_
              rintro e w5 hcp
              have hcp2 := cp_open HOX.out hcp
              rw [HFE.out] at hcp2
              obtain ⟨bf, cf, rfl, hownf, hb5⟩ := hcp2
              have HXF := Lib.hid (rhi_put (n := n) hownf (ok_int HOF.out))
              obtain ⟨w6, hw6⟩ : ∃ w6, w6 = w5.alloc (.cells #[.int .i64 n, .slice bf F.length cf] 25) := ⟨_, rfl⟩
              have HW6 := Lib.hid hw6
              rw [← hw6] at HXF
              have h56 : Below w5.heap.size w5 w6 := by rw [hw6]; exact bel1 _ _
              have HB6 : Hid (Below wr.heap.size wr w6) := Lib.hid ((HBB.out.trans (hb5.mono HBB.out.size)).trans (h56.mono (HBB.out.trans (hb5.mono HBB.out.size)).size))
              have HT5 := Lib.hid (HT4.out.keep hb5)
              have HX5 := Lib.hid (HX4.out.keep hb5)
              have HT6 := Lib.hid ((HT4.out.keep hb5).keep h56)
              have HX6 := Lib.hid ((HX4.out.keep hb5).keep h56)
              have HO6 := Lib.hid (own_below (own_below HO4.out hb5) h56)
              clear hcp hownf hb5 hw6 h56 x1 x1a x1b x1c lx1
              obtain ⟨v2, hv2⟩ : ∃ v2, eqB F X = v2 := ⟨_, rfl⟩
              have HV2 := Lib.hid hv2
              obtain ⟨v3, hv3⟩ : ∃ v3, aforB n zs n X = v3 := ⟨_, rfl⟩
              have HV3 := Lib.hid hv3
              clear hv2 hv3
              have HQ : Hid (twQ n zs X = (v2 && !v3)) := Lib.hid (by unfold twQ; rw [HV1.out, HFE.out, HV2.out, HV3.out, HL2.out, HLN.out]; simp)
              obtain ⟨t1, t1a, t1b, t1c⟩ := HT5.out.1.facts
              have lt1 := HT5.out.1.lt
              obtain ⟨x1, x1a, x1b, x1c⟩ := HX5.out.1.facts
              have lx1 := HX5.out.1.lt
              go_wp2_with fail
              rw [← HW6.out]
              refine (same_q bf bx F.length X.length cf cx F X v2 _ HXF.out.2 HX6.out.2 (by omega) (by omega) HV2.out).mono ?_
              rintro e w7 ⟨rfl, hb7⟩
              have HB7 := Lib.hid (HB6.out.trans (hb7.mono HB6.out.size))
              have HT7 := Lib.hid (HT6.out.keep hb7)
              have HX7 := Lib.hid (HX6.out.keep hb7)
              have HO7 := Lib.hid (own_below HO6.out hb7)
              clear hb7 t1 t1a t1b t1c lt1 x1 x1a x1b x1c lx1
              obtain ⟨t1, t1a, t1b, t1c⟩ := HT7.out.1.facts
              have lt1 := HT7.out.1.lt
              obtain ⟨x1, x1a, x1b, x1c⟩ := HX7.out.1.facts
              have lx1 := HX7.out.1.lt
              cases v2
              · have HF : Hid (twQ n zs X = false) := Lib.hid (by rw [HQ.out]; rfl)
                go_wp2
                go_roundw
                case rel => exact ⟨j + 1, by omega, by rw [HDEC.out], av, cv, q, L, rfl, HLQ.out, by omega, HIT.out.keep HB7.out, by rw [twJ_no HM12.out (by rw [HXE.out]; exact HF.out)]; exact HVL.out, HX.out.trans (HB7.out.mono HZ.out), Nat.le_trans HZ.out HB7.out.size⟩
                case measure => first | (simp [intOf]; done) | (simp [intOf]; omega)
              · go_wp2_with fail
                refine (afor_spec n a len cap zs n bx X.length cx X _ HT7.out.2 hm HX7.out.2 (by omega)).mono ?_
                rintro e w8 ⟨rfl, hb8⟩
                rw [HV3.out]
                have HB8 := Lib.hid (HB7.out.trans (hb8.mono HB7.out.size))
                have HX8 := Lib.hid (HX7.out.keep hb8)
                have HO8 := Lib.hid (own_below HO7.out hb8)
                clear hb8 t1 t1a t1b t1c lt1 x1 x1a x1b x1c lx1
                cases v3
                · have HF : Hid (twQ n zs (bitsL n m) = true) := Lib.hid (by rw [HXE.out, HQ.out]; rfl)
                  obtain ⟨x1, x1a, x1b, x1c⟩ := HX8.out.1.facts
                  have lx1 := HX8.out.1.lt
                  go_wp2_with (at_builtin; refine append_rhy rfl _ _ rfl w0.heap.size (.slice av q cv) L ⟨n, bx, cx, X⟩ wr w8 HIT.out HB8.out HZ.out (by have := HLQ.out; omega) HO8.out _ rfl rfl rfl ?_; rw [HLQ.out]; intro a' c' w9 hit' hb9; have HIT9 := Lib.hid hit'; have HB9 := Lib.hid hb9; clear hit' hb9)
                  go_roundw
                  case rel => exact ⟨j + 1, by omega, by rw [HDEC.out], a', c', q + 1, L ++ [⟨n, bx, cx, X⟩], rfl, by simp [HLQ.out], by omega, HIT9.out, tw_snoc HVL.out (by rw [twJ_yes HM12.out HF.out, HXE.out]) rfl rfl, (HX.out.trans (HB8.out.mono HZ.out)).trans HB9.out, Nat.le_trans (Nat.le_trans HZ.out HB8.out.size) HB9.out.size⟩
                  case measure => first | (simp [intOf]; done) | (simp [intOf]; omega)
                · have HF : Hid (twQ n zs X = false) := Lib.hid (by rw [HQ.out]; rfl)
                  go_wp2
                  go_roundw
                  case rel => exact ⟨j + 1, by omega, by rw [HDEC.out], av, cv, q, L, rfl, HLQ.out, by omega, HIT.out.keep HB8.out, by rw [twJ_no HM12.out (by rw [HXE.out]; exact HF.out)]; exact HVL.out, HX.out.trans (HB8.out.mono HZ.out), Nat.le_trans HZ.out HB8.out.size⟩
                  case measure => first | (simp [intOf]; done) | (simp [intOf]; omega)
          · have HF : Hid (twQ n zs X = false) := Lib.hid (by unfold twQ; rw [decide_eq_false (by rw [HLN.out]; exact hlen2)]; rfl)
            have HL2 := Lib.hid hlen2
            clear hlen2
            go_upto_region 8 with fail
            rw [← HW3.out]
            clear t1 t1a t1b t1c lt1 x1 x1a x1b x1c lx1
            have HKK : Hid (∀ W' : World, Below w3.heap.size w3 W' → Below wr.heap.size wr W') := Lib.hid (fun W' hW => HB3.out.trans (hW.mono HB3.out.size))
            have HK : Hid (∀ W' : World, Below w3.heap.size w3 W' → W'.cell? ⟨w.heap.size, 0, none⟩ = some (.int .i64 n) ∧ W'.cell? ⟨w.heap.size, 1, none⟩ = some (.slice a len cap) ∧ W'.cell? ⟨w2.heap.size, 0, none⟩ = some (.int .i64 n) ∧ W'.cell? ⟨w2.heap.size, 1, none⟩ = some (.slice bx X.length cx) ∧ Below w3.heap.size w3 W') :=
              Lib.hid (fun W' hW => ⟨(HT2.out.keep hW).1.facts.1, (HT2.out.keep hW).1.facts.2.1, (HXX.out.keep hW).1.facts.1, (HXX.out.keep hW).1.facts.2.1, hW⟩)
            have HIr : Hid (∀ W' : World, Below w3.heap.size w3 W' → IntsAt W' a len zs) := Lib.hid (fun W' hW => (HT2.out.keep hW).2)
            have HIx : Hid (∀ W' : World, Below w3.heap.size w3 W' → IntsAt W' bx X.length X) := Lib.hid (fun W' hW => (HXX.out.keep hW).2)
            refine wp_region_held_drew (S := fun W' => W'.cell? ⟨w.heap.size, 0, none⟩ = some (.int .i64 n) ∧ W'.cell? ⟨w.heap.size, 1, none⟩ = some (.slice a len cap) ∧ W'.cell? ⟨w2.heap.size, 0, none⟩ = some (.int .i64 n) ∧ W'.cell? ⟨w2.heap.size, 1, none⟩ = some (.slice bx X.length cx) ∧ Below w3.heap.size w3 W') (by kernel_rfl) (HK.out _ (Below.refl _ _).drew) (fun hSS0 => ?_)
            refine wpAnyH_take (i := 0) (oi := ⟨some 29, _, _, _, _, _⟩) (v := .pointer (some ⟨w2.heap.size, 1, none⟩)) rfl (by kernel_rfl) (by kernel_rfl) (by kernel_rfl) (fun _ _ _ h => h) (Or.inl ⟨by rfl, fun w hSw => by go_simp⟩) (by assumption) ?_
            try simp only [Act.put, List.setIfInBounds_toArray, List.set_cons_zero, List.set_cons_succ]
            refine wpAnyH_take (i := 1) (oi := ⟨some 30, _, _, _, _, _⟩) (v := .slice bx X.length cx) rfl (by kernel_rfl) (by kernel_rfl) (by kernel_rfl) (fun _ _ _ h => h) (Or.inl ⟨by rfl, fun w hSw => by obtain ⟨_, _, q1, q2, _⟩ := hSw; go_simp⟩) (by assumption) ?_
            try simp only [Act.put, List.setIfInBounds_toArray, List.set_cons_zero, List.set_cons_succ]
            refine wpAnyH_take (i := 2) (oi := ⟨some 31, _, _, _, _, _⟩) (v := .int .i64 (X.length : Nat)) rfl (by kernel_rfl) (by kernel_rfl) (by kernel_rfl) (fun _ _ _ h => h) (Or.inl ⟨by rfl, fun w hSw => by go_simp⟩) (by assumption) ?_
            try simp only [Act.put, List.setIfInBounds_toArray, List.set_cons_zero, List.set_cons_succ]
            refine wpAnyH_take (i := 3) (oi := ⟨some 32, _, _, _, _, _⟩) (v := .pointer (some ⟨w.heap.size, 1, none⟩)) rfl (by kernel_rfl) (by kernel_rfl) (by kernel_rfl) (fun _ _ _ h => h) (Or.inl ⟨by rfl, fun w hSw => by go_simp⟩) (by assumption) ?_
            try simp only [Act.put, List.setIfInBounds_toArray, List.set_cons_zero, List.set_cons_succ]
            refine wpAnyH_take (i := 4) (oi := ⟨some 33, _, _, _, _, _⟩) (v := .slice a len cap) rfl (by kernel_rfl) (by kernel_rfl) (by kernel_rfl) (fun _ _ _ h => h) (Or.inl ⟨by rfl, fun w hSw => by obtain ⟨q1, q2, _⟩ := hSw; go_simp⟩) (by assumption) ?_
            try simp only [Act.put, List.setIfInBounds_toArray, List.set_cons_zero, List.set_cons_succ]
            refine wpAnyH_take (i := 5) (oi := ⟨some 34, _, _, _, _, _⟩) (v := .int .i64 (len : Nat)) rfl (by kernel_rfl) (by kernel_rfl) (by kernel_rfl) (fun _ _ _ h => h) (Or.inl ⟨by rfl, fun w hSw => by go_simp⟩) (by assumption) ?_
            try simp only [Act.put, List.setIfInBounds_toArray, List.set_cons_zero, List.set_cons_succ]
            refine wpAnyH_take (i := 6) (oi := ⟨some 35, _, _, _, _, _⟩) (v := .bool true) rfl (by kernel_rfl) (by kernel_rfl) (by kernel_rfl) (fun _ _ _ h => h) (Or.inl ⟨by rfl, fun w hSw => by have h9 := HL2.out; first | (go_simp; done) | (go_simp; omega)⟩) (by assumption) ?_
            try simp only [Act.put, List.setIfInBounds_toArray, List.set_cons_zero, List.set_cons_succ]
            refine wpAnyH_take (i := 7) (oi := ⟨some 36, _, _, _, _, _⟩) (v := .bool true) rfl (by kernel_rfl) (by kernel_rfl) (by kernel_rfl) (fun _ _ _ h => h) (Or.inl ⟨by rfl, fun w hSw => by go_simp⟩) (by assumption) ?_
            try simp only [Act.put, List.setIfInBounds_toArray, List.set_cons_zero, List.set_cons_succ]
            refine wpAnyH_take (i := 8) (oi := ⟨some 37, _, _, _, _, _⟩) (v := undef) rfl (by kernel_rfl) (by kernel_rfl) (by kernel_rfl) (fun _ _ _ h => h) (Or.inr ⟨by rfl, rfl⟩) (by assumption) ?_
            try simp only [Act.put, List.setIfInBounds_toArray, List.set_cons_zero, List.set_cons_succ]
            refine wpAnyH_take (i := 9) (oi := ⟨some 38, _, _, _, _, _⟩) (v := undef) rfl (by kernel_rfl) (by kernel_rfl) (by kernel_rfl) (fun _ _ _ h => h) (Or.inr ⟨by rfl, rfl⟩) (by assumption) ?_
            try simp only [Act.put, List.setIfInBounds_toArray, List.set_cons_zero, List.set_cons_succ]
            refine wpAnyH_take (i := 10) (oi := ⟨some 39, _, _, _, _, _⟩) (v := undef) rfl (by kernel_rfl) (by kernel_rfl) (by kernel_rfl) (fun _ _ _ h => h) (Or.inr ⟨by rfl, rfl⟩) (by assumption) ?_
            try simp only [Act.put, List.setIfInBounds_toArray, List.set_cons_zero, List.set_cons_succ]
            refine wpAnyH_take (i := 11) (oi := ⟨some 40, _, _, _, _, _⟩) (v := undef) rfl (by kernel_rfl) (by kernel_rfl) (by kernel_rfl) (fun _ _ _ h => h) (Or.inr ⟨by rfl, rfl⟩) (by assumption) ?_
            try simp only [Act.put, List.setIfInBounds_toArray, List.set_cons_zero, List.set_cons_succ]
            refine wpAnyH_take (i := 12) (oi := ⟨some 41, _, _, _, _, _⟩) (v := undef) rfl (by kernel_rfl) (by kernel_rfl) (by kernel_rfl) (fun _ _ _ h => h) (Or.inr ⟨by rfl, rfl⟩) (by assumption) ?_
            try simp only [Act.put, List.setIfInBounds_toArray, List.set_cons_zero, List.set_cons_succ]
            refine wpAnyH_take (i := 13) (oi := ⟨some 42, _, _, _, _, _⟩) (v := undef) rfl (by kernel_rfl) (by kernel_rfl) (by kernel_rfl) (fun _ _ _ h => h) (Or.inr ⟨by rfl, rfl⟩) (by assumption) ?_
            try simp only [Act.put, List.setIfInBounds_toArray, List.set_cons_zero, List.set_cons_succ]
            refine wpAnyH_take (i := 14) (oi := ⟨some 43, _, _, _, _, _⟩) (v := .bool true) rfl (by kernel_rfl) (by kernel_rfl) (by kernel_rfl) (fun _ _ _ h => h) (Or.inl ⟨by rfl, fun w hSw => by go_simp⟩) (by assumption) ?_
            try simp only [Act.put, List.setIfInBounds_toArray, List.set_cons_zero, List.set_cons_succ]
            refine wpAnyH_done (by kernel_rfl) ?_ _
            clear HK
            have HBB : Hid (Below wr.heap.size wr w3.drew) := Lib.hid HB3.out.drew
            clear hSS0 HIr HIx HKK
            go_wp2
            go_roundw
            case rel => exact ⟨j + 1, by omega, by rw [HDEC.out], av, cv, q, L, rfl, HLQ.out, by omega, HIT.out.keep HBB.out, by rw [twJ_no HM12.out (by rw [HXE.out]; exact HF.out)]; exact HVL.out, HX.out.trans (HBB.out.mono HZ.out), Nat.le_trans HZ.out HBB.out.size⟩
            case measure => first | (simp [intOf]; done) | (simp [intOf]; omega)
        · have hje : j = N := by omega
          have hmi : (N : Int) - 1 - (j : Int) = -1 := by omega
          rw [hmi]
          have HJE := Lib.hid hje
          have HTW : Hid (twZ n zs = twJ n zs j) := Lib.hid (by unfold twZ; rw [HN.out, hje])
          have HPL : Hid ((twJ n zs j).length = q) := Lib.hid (by have h1 := vals_len HVL.out; rw [List.length_map, HLQ.out] at h1; exact h1.symm)
          clear hje
          go_wp2
          go_ret
          have h1 := HB.out.size
          refine ⟨av, cv, L, ?_, ?_, ?_, HB.out.trans (HX.out.mono h1)⟩
          · rw [HTW.out, HPL.out]; rfl
          · rw [HTW.out, HPL.out]; exact HIT.out.base h1
          · rw [HTW.out, HVL.out]
    · have h12b : decide ((12 : Int) < (n : Int)) = true := by simp; omega
      have HE := Lib.hid (twinsB_no (s := (n : Int)) (zs := zs) (fun q => h12 (by have := q.2; omega)))
      clear ho
      rw [HE.out]
      go_enter Try.func49, Try.ntmps49
      go_wp2_with fail
      refine (ok_yes n a len cap zs _ (HS.out.below (bel1 w _)) hl HO.out).mono ?_
      rintro e w0 ⟨rfl, hb1⟩
      have HB := Lib.hid ((bel1 w (.cells #[.int .i64 n, .slice a len cap] 25)).trans (hb1.mono (by simp)))
      have HT : Hid (RhI w0 w.heap.size n a len cap zs) := Lib.hid ⟨(box_new w _ _ _).keep hb1 (by simp), HS.out.below HB.out⟩
      obtain ⟨t1, t1a, t1b, t1c⟩ := HT.out.1.facts
      have lt0 := HT.out.1.lt
      clear hb1
      go_wp2
      go_ret
      exact ⟨none, 0, [], rfl, items_nil _ _, rfl, HB.out⟩
  · have HO := Lib.hid ho
    have HE := Lib.hid (twinsB_no (s := s) (zs := zs) (fun q => ho q.1))
    clear ho
    rw [HE.out]
    go_enter Try.func49, Try.ntmps49
    go_wp2_with fail
    refine (ok_no s a len cap zs _ (HS.out.below (bel1 w _)) hl HO.out).mono ?_
    rintro e w0 ⟨rfl, hb1⟩
    have HB := Lib.hid ((bel1 w (.cells #[.int .i64 s, .slice a len cap] 25)).trans (hb1.mono (by simp)))
    have HT : Hid (RhI w0 w.heap.size s a len cap zs) := Lib.hid ⟨(box_new w _ _ _).keep hb1 (by simp), HS.out.below HB.out⟩
    obtain ⟨t1, t1a, t1b, t1c⟩ := HT.out.1.facts
    have lt0 := HT.out.1.lt
    clear hb1
    go_wp2
    go_ret
    exact ⟨none, 0, [], rfl, items_nil _ _, rfl, HB.out⟩
end Go.Proofs.Ytjgjcppkbfojpaa.Rhy
