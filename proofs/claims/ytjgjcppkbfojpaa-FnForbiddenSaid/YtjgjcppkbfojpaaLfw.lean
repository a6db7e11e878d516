/-
  Helpers of the claims beside this text: the law on forbidden intervals.
-/
import Derived.Test.YtjgjcppkbfojpaaLfr
import Derived.Test.YtjgjcppkbfojpaaLfs
namespace Go.Proofs.Ytjgjcppkbfojpaa.Rhy
open Go.RowKit
open Go.Proofs.Ytjgjcppkbfojpaa.Cur
set_option linter.unusedVariables false
set_option linter.unusedSimpArgs false

theorem seen_int {n d k j : Nat} (hn : 2 ≤ n ∧ n ≤ 24) : AllInt (seenZ n d k j) := fun x hx => by
  unfold seenZ at hx
  rcases List.mem_append.1 hx with h | h
  · obtain ⟨l, hl, hxl⟩ := List.mem_flatten.1 h
    have h2 := List.mem_of_mem_take hl
    unfold cirsZ at h2
    obtain ⟨p, _, rfl⟩ := List.mem_map.1 h2
    exact cirZ_int ⟨by omega, by omega⟩ x hxl
  · exact cirZ_int ⟨by omega, by omega⟩ x (List.mem_of_mem_take h)
/-- What the first rhythm with k beats is, or that there is none. -/
def FirstPost (n d k : Nat) (q : Bool) (w : World) (e : Ending) (w' : World) : Prop :=
  ∃ (s : Int) (l : List Int) (a : Option Addr) (c : Nat), e = .returned (.tuple #[rhy s a l.length c, .bool q]) ∧ Below w.heap.size w w' ∧ w'.ownsRow w.heap.size 3 1 (.slice a l.length c) l.length (ints l) ∧
    (q = true → s = n ∧ Ok n l ∧ avC n l d ∧ l.length = k)
theorem v_first (n d k M : Nat) (q : Bool) (w : World) (hn : 2 ≤ n ∧ n ≤ 10) (hd : 1 ≤ d ∧ d < n) (hk : k ≤ n) (hm : mostN n d = M) (hq : decide ((k : Int) ≤ (M : Int)) = q) :
    Calls Try.prog 35 #[.int .i64 n, .int .i64 d, .int .i64 k] w (FirstPost n d k q w) := by
  by_cases hc : fiC n d k
  · obtain ⟨h1, h2, h3⟩ := fi_is hn hd hc
    refine (v_fi_yes n d k _ w (by omega) (by omega) (by omega) hc rfl).mono ?_
    rintro e w' ⟨a, c, rfl, ho, hb⟩
    have hqt : q = true := by rw [← hq, ← hm]; have := (fi_iff hn hd hk).1 hc; simp; omega
    rw [hqt]
    exact ⟨n, _, a, c, rfl, hb, ho, fun _ => ⟨rfl, h1, h2, h3⟩⟩
  · refine (v_fi_no n d k w (by omega) (by omega) (by omega) hc).mono ?_
    rintro e w' ⟨a, c, rfl, ho, hb⟩
    have hqt : q = false := by rw [← hq, ← hm]; have : ¬ k ≤ mostN n d := fun x => hc ((fi_iff hn hd hk).2 x); simp; omega
    rw [hqt]
    exact ⟨0, [], a, c, rfl, hb, ho, fun x => by cases x⟩
theorem one_ints (z : Int) (w : World) (hz : 0 ≤ z ∧ z ≤ 1000) : IntsAt (w.alloc (.cells #[.int .i64 z] 3)) (some ⟨w.heap.size, 0, none⟩) [z].length [z] := by
  have h2 : (w.alloc (.cells #[.int .i64 z] 3)).ownsRow w.heap.size 3 1 (.slice (some ⟨w.heap.size, 0, none⟩) 1 1) 1 (ints [z]) :=
    ⟨rfl, .inr ⟨w.heap.size, 1, _, rfl, Nat.le_refl _, heap_alloc_new w _, Nat.le_refl _, by unfold maxLen; omega, rfl, rfl⟩⟩
  refine intsAt_own h2 (fun x hx => ?_)
  rw [List.mem_singleton] at hx
  omega

theorem v_coa1 (n d c : Nat) (w : World) (hn : 2 ≤ n ∧ n ≤ 16) (hd : 1 ≤ d ∧ d < n) (hc : cntF n d 1 = c) :
    Calls Try.prog 36 #[.int .i64 n, .int .i64 d, .int .i64 1] w fun e w' => e = .returned (.int .i64 (c : Nat)) ∧ Below w.heap.size w w' := v_coa n d 1 c w hn hd (by omega) hc

set_option maxHeartbeats 8000000 in
set_option maxRecDepth 100000 in
theorem forb_walk (a : Option Addr) (len cap : Nat) (w : World) (hb : len ≤ 1048576 → BytesAt w.heap.size w a len) :
    Calls Try.prog 5 #[.slice a len cap] w fun e w' => e = .returned (.bool true) ∧ Below w.heap.size w w' := by
  by_cases hlen : len ≤ 1048576
  · have HBY := Lib.hid (hb hlen)
    clear hb
    go_enter Try.func5, Try.ntmps5
    go_wp2_with fail
    refine (num_any a len cap 0 w HBY.out (by omega)).mono ?_
    rintro e v0 ⟨q0, rfl, hq0, hq0', hb⟩
    have HB0x := Lib.hid (show Below w.heap.size w v0 from hb)
    clear hb
    obtain ⟨n, hn, hn2, hn10⟩ : ∃ n : Nat, 2 + q0 % 9 = (n : Int) ∧ 2 ≤ n ∧ n ≤ 10 := ⟨(2 + q0 % 9).toNat, by omega, by omega, by omega⟩
    have HN := Lib.hid hn
    clear hn
    go_wp2_with fail
    rw [HN.out]
    refine (num_any a len cap 2 v0 (bytes_up HBY.out HB0x.out HB0x.out.size) (by omega)).mono ?_
    rintro e v1 ⟨q1, rfl, hq1, hq1', hb⟩
    have HB1x := Lib.hid (show Below w.heap.size w v1 from HB0x.out.trans (hb.mono HB0x.out.size))
    clear HB0x hb
    clear hq0 hq0' HN
    obtain ⟨d, hd, hd1, hdn⟩ : ∃ d : Nat, 1 + q1 % ((n : Int) - 1) = (d : Int) ∧ 1 ≤ d ∧ d < n := ⟨(1 + q1 % ((n : Int) - 1)).toNat, by have := em_bd q1 (n := (n : Int) - 1) (by omega); omega, by have := em_bd q1 (n := (n : Int) - 1) (by omega); omega, by have := em_bd q1 (n := (n : Int) - 1) (by omega); omega⟩
    have HDD := Lib.hid hd
    clear hd
    have hwd : wrap64 (d : Int) = (d : Int) := by unfold wrap64; omega
    go_wp2_with fail
    rw [HDD.out, hwd]
    refine (num_any a len cap 4 v1 (bytes_up HBY.out HB1x.out HB1x.out.size) (by omega)).mono ?_
    rintro e v2 ⟨q2, rfl, hq2, hq2', hb⟩
    have HB2x := Lib.hid (show Below w.heap.size w v2 from HB1x.out.trans (hb.mono HB1x.out.size))
    clear HB1x hb
    clear hq1 hq1' HDD hwd
    obtain ⟨k, hk, hkn⟩ : ∃ k : Nat, q2 % ((n : Int) + 1) = (k : Int) ∧ k ≤ n := ⟨(q2 % ((n : Int) + 1)).toNat, by have := em_bd q2 (n := (n : Int) + 1) (by omega); omega, by have := em_bd q2 (n := (n : Int) + 1) (by omega); omega⟩
    have HKK := Lib.hid hk
    clear hk
    have HN2 : Hid (2 ≤ n ∧ n ≤ 10) := Lib.hid ⟨hn2, hn10⟩
    have HN24 : Hid (2 ≤ n ∧ n ≤ 24) := Lib.hid ⟨hn2, by omega⟩
    have HD1 : Hid (1 ≤ d ∧ d < n) := Lib.hid ⟨hd1, hdn⟩
    obtain ⟨g, hg⟩ : ∃ g, Nat.gcd n d = g := ⟨_, rfl⟩
    have hg1 : 1 ≤ g := by rw [← hg]; exact Nat.gcd_pos_of_pos_left _ (by omega)
    have hgn : g ≤ 24 := by rw [← hg]; exact Nat.le_trans (Nat.gcd_le_left _ (by omega)) (by omega)
    obtain ⟨m, hm⟩ : ∃ m, n / g = m := ⟨_, rfl⟩
    have hm24 : m ≤ 24 := by rw [← hm]; have : n / g ≤ n := Nat.div_le_self _ _; omega
    have HZL : Hid (∀ p, (cirZ n d p).length = m) := Lib.hid (fun p => by rw [cirZ_len, hg, hm])
    have HTD : Hid (Int.tdiv (n : Int) (g : Int) = (m : Int)) := Lib.hid (by rw [Int.tdiv_eq_ediv_of_nonneg (by omega), ← hm]; simp)
    have HG := Lib.hid hg
    clear hg hm
    go_wp2_with fail
    rw [HKK.out]
    clear HKK hq2 hq2'
    refine (v_cir n d g v2 HN24.out HD1.out HG.out).mono ?_
    rintro e v3 ⟨av, cv, L, rfl, hll, hla, hvl, hb⟩
    have HB3x := Lib.hid (show Below w.heap.size w v3 from HB2x.out.trans (hb.mono HB2x.out.size))
    clear HB2x hb
    have HLL := Lib.hid hll
    have HVL := Lib.hid hvl
    obtain ⟨a0, c0, he, hlc, hcc⟩ := hla
    rw [hll] at he hlc hcc
    obtain ⟨cb, co, rfl, hcb, hci⟩ := hcc (by omega)
    obtain ⟨rfl, rfl⟩ : av = some ⟨cb, co, none⟩ ∧ cv = c0 := by simpa using he
    have HCI := Lib.hid hci
    clear hci hcc he hll hvl
    go_wp2
    go_loopw [7, 46] (fun v i wr => ∃ p : Nat, p ≤ g ∧ i = .int .i64 p ∧ VecAt (((cirsZ n d).take p).flatten) v3 wr v) (fun _ i _ => g - (intOf i).toNat)
    case atStart => exact ⟨0, by omega, rfl, by simpa using vec_made v3⟩
    case round =>
      obtain ⟨p, hp, rfl, sv, sc, rfl, hown, hnx, hsz⟩ := hrel
      obtain ⟨S, hS⟩ : ∃ S, ((cirsZ n d).take p).flatten = S := ⟨_, rfl⟩
      rw [hS] at hown ⊢
      have HS := Lib.hid hS
      have HO1 := Lib.hid hown
      have HN1 := Lib.hid hnx
      have HZ1 := Lib.hid hsz
      clear hS hown hnx hsz
      by_cases hlt : p < g
      · as_aux_lemma =>
          obtain ⟨⟨ra, rc, rz⟩, hr⟩ : ∃ r, L[p]? = some r := ⟨_, List.getElem?_eq_getElem (by have := HLL.out; omega)⟩
          obtain rfl : rz = cirZ n d p := lit_at HVL.out HG.out hlt hr
          obtain ⟨hcell, hri⟩ := HCI.out p _ hr
          obtain ⟨Z, hZ⟩ : ∃ Z, cirZ n d p = Z := ⟨_, rfl⟩
          have HRI : Hid (IntsAt v3 ra m Z) := Lib.hid (by have h1 : IntsAt v3 ra (cirZ n d p).length (cirZ n d p) := hri; rwa [HZL.out, hZ] at h1)
          have hcw : wr.cell? ⟨cb, co + p, none⟩ = some (.slice ra m rc) := by
            rw [HN1.out.cell (p := ⟨cb, co + p, none⟩) hcb, hcell]
            show some (Value.slice ra (cirZ n d p).length rc) = _
            rw [HZL.out]
          have HEZ := Lib.hid hZ
          clear hcell hri hr hZ
          have hk0 : (0 : Int) ≤ (p : Int) := by omega
          have hk1 : (p : Int) < (g : Int) := by omega
          have hcb' : cb < wr.heap.size := Nat.lt_of_lt_of_le hcb HZ1.out
          go_wp2_with fail
          refine (v_gcd n d g wr (by omega) (by omega) HG.out).mono ?_
          rintro e w4 ⟨rfl, hb4⟩
          have HO4 := Lib.hid (own_below HO1.out hb4)
          have HN4 := Lib.hid (HN1.out.trans (hb4.mono HZ1.out))
          have HZ4 := Lib.hid (Nat.le_trans HZ1.out hb4.size)
          clear HO1 HN1 HZ1 hb4 hcw
          have htd := HTD.out
          have hg0 : (g : Int) ≠ 0 := by omega
          go_wp2
          clear htd
          go_loopw [7, 60] (fun v i wx => ∃ j : Nat, j ≤ m ∧ i = .int .i64 j ∧ VecAt (seenZ n d p j) v3 wx v) (fun _ i _ => m - (intOf i).toNat)
          case atStart => exact ⟨0, by omega, rfl, by rw [seen_zero, HS.out]; exact ⟨sv, sc, rfl, HO4.out, HN4.out, HZ4.out⟩⟩
          case round =>
            clear HO4 HN4 HZ4
            obtain ⟨j, hj, rfl, tv, tc, rfl, hown, hnx, hsz⟩ := hrel
            obtain ⟨T, hT⟩ : ∃ T, seenZ n d p j = T := ⟨_, rfl⟩
            have hTl : T.length ≤ 1000 := by rw [← hT]; exact seen_len HN24.out
            have HTI : Hid (AllInt T) := Lib.hid (by rw [← hT]; exact seen_int HN24.out)
            rw [hT] at hown ⊢
            have HT := Lib.hid hT
            have HO1 := Lib.hid hown
            have HN1 := Lib.hid hnx
            have HZ1 := Lib.hid hsz
            clear hT hown hnx hsz
            have hml : T.length ≤ 1048577 := by omega
            by_cases hlj : j < m
            · obtain ⟨gR, oR, z, rfl, la, hz, c1, z0, z1⟩ := (HRI.out.below HN1.out).at hlj
              have HZJ : Hid ((cirZ n d p)[j]? = some z) := Lib.hid (by rw [HEZ.out]; exact hz)
              have HNE := Lib.hid (seen_new HN24.out HD1.out (by rw [HG.out]; exact hlt) HZJ.out)
              have HNX : Hid (seenZ n d p (j + 1) = T ++ [z]) := Lib.hid (by rw [seen_next HZJ.out, HT.out])
              clear hz
              go_wp2_with fail
              refine (v_lhas tv T.length tc T z false _ (intsAt_own HO1.out HTI.out) (by omega) (by rw [← HT.out]; exact HNE.out)).mono ?_
              rintro e w5 ⟨rfl, hb5⟩
              have HO5 := Lib.hid (own_below HO1.out hb5)
              have HN5 := Lib.hid (HN1.out.trans (hb5.mono HZ1.out))
              have HZ5 := Lib.hid (Nat.le_trans HZ1.out hb5.size)
              clear HO1 HN1 HZ1 hb5 c1
              go_wp2_with (at_builtin; refine append_int rfl _ _ rfl v3.heap.size _ T _ _ HO5.out hml HZ5.out _ rfl rfl rfl ?_; intro a' c' w' hown' hb'; have HO2 := Lib.hid hown'; have HX2 := Lib.hid hb'; clear hown' hb')
              go_roundw
              case rel =>
                refine ⟨j + 1, by omega, by go_num, ?_⟩
                rw [HNX.out]
                have := vec_snoc HN5.out HZ5.out HO2.out HX2.out
                simpa using this
              case measure => simp [intOf]; omega
            · have e : j = m := by omega
              have HTE : Hid (T = ((cirsZ n d).take (p + 1)).flatten) := Lib.hid (by rw [← HT.out, e, ← HZL.out p]; exact seen_done (by rw [HG.out]; exact hlt))
              clear e
              go_wp2
              go_roundw
              case rel => exact ⟨p + 1, by omega, by go_num, by rw [← HTE.out]; exact ⟨tv, tc, rfl, HO1.out, HN1.out, HZ1.out⟩⟩
              case measure => simp [intOf]; omega
      · have e : p = g := by omega
        have HSL : Hid (S.length = n) := Lib.hid (by
          rw [← HS.out, e, List.take_of_length_le (by rw [cirsZ_len, HG.out]; exact Nat.le_refl _)]
          exact (flat_all HN24.out HD1.out).2)
        clear e
        rw [HSL.out]
        have HB4x := Lib.hid (show Below w.heap.size w wr from HB3x.out.trans (HN1.out.mono HB3x.out.size))
        clear HO1 HN1 HZ1 HB3x HCI HSL HS hcb hlc HLL HVL HZL HTD
        obtain ⟨M, hM⟩ : ∃ M, mostN n d = M := ⟨_, rfl⟩
        obtain ⟨c, hc⟩ : ∃ c, cntF n d k = c := ⟨_, rfl⟩
        obtain ⟨en, hnd, hne⟩ : ∃ e : Nat, (n : Int) - (d : Int) = (e : Int) ∧ e = n - d := ⟨n - d, by omega, rfl⟩
        have ht := tab_is HN2.out HD1.out hkn
        rw [hM, hc, ← hne] at ht
        obtain ⟨t1, _, t3, t4, t5, t6⟩ := ht
        obtain ⟨q, hq⟩ : ∃ q, decide ((k : Int) ≤ (M : Int)) = q := ⟨_, rfl⟩
        have HQ := Lib.hid hq
        have HQ2 : Hid (decide ((0 : Int) < (c : Int)) = q) := Lib.hid (by rw [← hq]; simp only [decide_eq_decide]; omega)
        have HM := Lib.hid hM
        have HC := Lib.hid hc
        have HC1 := Lib.hid t3
        have HC2 : Hid (cntF n en k = c) := Lib.hid t4.symm
        have HEN : Hid (1 ≤ en ∧ en < n) := Lib.hid (by omega)
        have HND := Lib.hid hnd
        clear hq hM hc t1 t3 t4 hne hnd
        have hM10 : M ≤ 10 := by omega
        have HM1 : Hid (decide ((M : Int) < 1) = false) := Lib.hid (by simp; omega)
        have HM2 : Hid (decide ((n : Int) < 2 * (M : Int)) = false) := Lib.hid (by simp; omega)
        have HT6 := Lib.hid t6
        have HM3 := Lib.hid t5
        clear t5 t6
        go_wp2_with fail
        refine (v_most n d M _ HN24.out HD1.out HM.out).mono ?_
        rintro e5 v5 ⟨rfl, hb⟩
        have HB5x := Lib.hid (show Below w.heap.size w v5 from HB4x.out.trans (hb.mono HB4x.out.size))
        clear HB4x hb
        go_wp2_with fail
        refine (v_first n d k M q v5 HN2.out HD1.out hkn HM.out HQ.out).mono ?_
        rintro e6 v6 ⟨s, F, br, cr, rfl, hb, hown, hfq⟩
        have HB6x := Lib.hid (show Below w.heap.size w v6 from HB5x.out.trans (hb.mono HB5x.out.size))
        clear HB5x hb
        have HFA7 : Hid (q = true → (Ok n F ∧ avC n F d ∧ F.length = k) ∧ RhAt (putR v6 s br F.length cr) v6.heap.size n br cr F) := Lib.hid (fun h => by
          obtain ⟨h1, h2, h3, h4⟩ := hfq h
          rw [h1]
          exact ⟨⟨h2, h3, h4⟩, rhAt_put (n := n) hown (ok_allInt h2)⟩)
        have hb := putR_below v6 s br F.length cr
        have HB7x := Lib.hid (show Below w.heap.size w (putR v6 s br F.length cr) from HB6x.out.trans (hb.mono HB6x.out.size))
        clear HB6x hb hown hfq
        go_wp2_with fail
        refine (v_gcd n d g (putR v6 s br F.length cr) (by omega) (by omega) HG.out).mono ?_
        rintro e8 v8 ⟨rfl, hb⟩
        obtain ⟨rb, hrb⟩ : ∃ b, v6.heap.size = b := ⟨_, rfl⟩
        rw [hrb] at HFA7 ⊢
        clear hrb
        have HFA8 : Hid (q = true → (Ok n F ∧ avC n F d ∧ F.length = k) ∧ RhAt v8 rb n br cr F) := Lib.hid (fun h => ⟨(HFA7.out h).1, (HFA7.out h).2.keep hb⟩)
        have HB8x := Lib.hid (show Below w.heap.size w v8 from HB7x.out.trans (hb.mono HB7x.out.size))
        clear HB7x hb HFA7
        have hqa : decide (k ≤ M) = q := by rw [← HQ.out]; simp
        have hqb : decide (0 < c) = q := by rw [← HQ2.out]; simp
        have hm1 := HM1.out
        have hm2 := HM2.out
        have hm3 := HM3.out
        have hm4 := HT6.out
        go_wp2_with fail
        refine (v_coa n d k c v8 ⟨hn2, by omega⟩ HD1.out hkn HC.out).mono ?_
        rintro e9 v9 ⟨rfl, hb⟩
        have HFA9 : Hid (q = true → (Ok n F ∧ avC n F d ∧ F.length = k) ∧ RhAt v9 rb n br cr F) := Lib.hid (fun h => ⟨(HFA8.out h).1, (HFA8.out h).2.keep hb⟩)
        have HB9x := Lib.hid (show Below w.heap.size w v9 from HB8x.out.trans (hb.mono HB8x.out.size))
        clear HB8x hb HFA8
        go_wp2_with fail
        refine (v_coa1 n d n v9 ⟨hn2, by omega⟩ HD1.out HC1.out).mono ?_
        rintro e10 v10 ⟨rfl, hb⟩
        have HFA10 : Hid (q = true → (Ok n F ∧ avC n F d ∧ F.length = k) ∧ RhAt v10 rb n br cr F) := Lib.hid (fun h => ⟨(HFA9.out h).1, (HFA9.out h).2.keep hb⟩)
        have HB10x := Lib.hid (show Below w.heap.size w v10 from HB9x.out.trans (hb.mono HB9x.out.size))
        clear HB9x hb HFA9
        go_wp2_with fail
        refine (v_coa n d k c v10 ⟨hn2, by omega⟩ HD1.out hkn HC.out).mono ?_
        rintro e11 v11 ⟨rfl, hb⟩
        have HFA11 : Hid (q = true → (Ok n F ∧ avC n F d ∧ F.length = k) ∧ RhAt v11 rb n br cr F) := Lib.hid (fun h => ⟨(HFA10.out h).1, (HFA10.out h).2.keep hb⟩)
        have HB11x := Lib.hid (show Below w.heap.size w v11 from HB10x.out.trans (hb.mono HB10x.out.size))
        clear HB10x hb HFA10
        go_wp2_with fail
        rw [HND.out]
        refine (v_coa n en k c v11 ⟨hn2, by omega⟩ HEN.out hkn HC2.out).mono ?_
        rintro e12 v12 ⟨rfl, hb⟩
        have HFA12 : Hid (q = true → (Ok n F ∧ avC n F d ∧ F.length = k) ∧ RhAt v12 rb n br cr F) := Lib.hid (fun h => ⟨(HFA11.out h).1, (HFA11.out h).2.keep hb⟩)
        have HB12x := Lib.hid (show Below w.heap.size w v12 from HB11x.out.trans (hb.mono HB11x.out.size))
        clear HB11x hb HFA11
        go_upto_if 141 with fail
        clear hqa hqb hm1 hm2 hm3 hm4
        go_cut [] (fun wx => Below w.heap.size w wx)
        case first =>
          have hqq : q = true ∨ q = false := by cases q <;> simp
          rcases hqq with rfl | rfl
          · obtain ⟨⟨hof, hav, hfl⟩, hxr⟩ := HFA12.out rfl
            have HOF := Lib.hid hof
            have HAV := Lib.hid hav
            have HFL := Lib.hid hfl
            have HXr12 := Lib.hid hxr
            have hkM : k ≤ M := by have := HQ.out; simp at this; omega
            obtain ⟨FP, hFP⟩ : ∃ l, frP n F d n = l := ⟨_, rfl⟩
            have hfpl : FP.length ≤ n := by rw [← hFP]; exact frP_len _ _ _ _
            obtain ⟨f, hf⟩ : ∃ f, FP.length = f := ⟨_, rfl⟩
            rw [hf] at hfpl
            have HFP := Lib.hid hFP
            have HFPL := Lib.hid hf
            have HF0 : Hid (k = M → f = 0) := Lib.hid (fun h => by
              have := free_none HN2.out HD1.out HOF.out HAV.out (by rw [HFL.out, HM.out]; exact h)
              rw [← hf, ← hFP, this]
              rfl)
            clear hof hav hfl hxr hFP hf HFA12
            obtain ⟨p0, p1, p2, p3⟩ := HXr12.out.1.facts
            have ltr := HXr12.out.1.lt
            go_wp2_with fail
            refine (v_free n d br cr F FP f _ HXr12.out.2 HOF.out HD1.out HAV.out HFP.out HFPL.out).mono ?_
            rintro e13 v13 ⟨bf, cf, rfl, hif, hb⟩
            clear p0 p1 p2 p3 ltr
            have HXr13 := Lib.hid (HXr12.out.keep hb)
            have HB13x := Lib.hid (show Below w.heap.size w v13 from HB12x.out.trans (hb.mono HB12x.out.size))
            have HIF13 := Lib.hid hif
            clear hb hif HXr12 HB12x
            go_upto_region 27 with fail
            go_cut [164] (fun v wx => v = .bool false ∧ RhAt wx rb n br cr F ∧ IntsAt wx bf f FP ∧ Below w.heap.size w wx)
            case first =>
              obtain ⟨p0, p1, p2, p3⟩ := HXr13.out.1.facts
              have ltr := HXr13.out.1.lt
              go_wp2_with fail
              refine (v_avi n d br cr F _ HXr13.out.2 HOF.out HD1.out HAV.out).mono ?_
              rintro e14 v14 ⟨rfl, hb⟩
              clear p0 p1 p2 p3 ltr
              have HXr14 := Lib.hid (HXr13.out.keep hb)
              have HB14x := Lib.hid (show Below w.heap.size w v14 from HB13x.out.trans (hb.mono HB13x.out.size))
              have HIF14 := Lib.hid (HIF13.out.below hb)
              clear hb HXr13 HB13x HIF13
              obtain ⟨p0, p1, p2, p3⟩ := HXr14.out.1.facts
              have ltr := HXr14.out.1.lt
              go_wp2_with fail
              refine (r_cnt n br cr F (k : Int) _ HXr14.out.2 HOF.out (by rw [HFL.out])).mono ?_
              rintro e15 v15 ⟨rfl, hb⟩
              clear p0 p1 p2 p3 ltr
              have HXr15 := Lib.hid (HXr14.out.keep hb)
              have HB15x := Lib.hid (show Below w.heap.size w v15 from HB14x.out.trans (hb.mono HB14x.out.size))
              have HIF15 := Lib.hid (HIF14.out.below hb)
              clear hb HXr14 HB14x HIF14
              by_cases hkm : k = M
              · have hf0 : f = 0 := HF0.out hkm
                have HE := Lib.hid hkm
                have hkm1 : (k == M) = true := by simp [hkm]
                have hkm2 : ((k : Int) == (M : Int)) = true := by simp [hkm]
                have hkf : decide (0 < f) = false := by simp [hf0]
                clear hkm hf0
                go_wp2_with fail
                go_meet
                exact ⟨rfl, HXr15.out, HIF15.out, HB15x.out⟩
              · have hkm1 : (k == M) = false := by simp [hkm]
                have hkm2 : ((k : Int) == (M : Int)) = false := by simp; omega
                go_wp2_with fail
                go_meet
                exact ⟨rfl, HXr15.out, HIF15.out, HB15x.out⟩
            case rest =>
              obtain ⟨rfl, hxr, hif, hbl⟩ := hcut
              obtain ⟨wo, rfl⟩ : ∃ wo : World, wo = wc := ⟨_, rfl⟩
              clear HXr13 HB13x HIF13
              have HXr := Lib.hid hxr
              have HIF := Lib.hid hif
              have HBo := Lib.hid hbl
              clear hxr hif hbl
              go_wp2
              go_loopw [167] (fun i wr => ∃ j : Nat, j ≤ f ∧ i = .int .i64 j ∧ Below w.heap.size w wr ∧ RhAt wr rb n br cr F ∧ IntsAt wr bf f FP) (fun i _ => f - (intOf i).toNat)
              case atStart => exact ⟨0, by omega, rfl, HBo.out, HXr.out, HIF.out⟩
              case round =>
                clear HBo HXr HIF
                obtain ⟨j, hj, rfl, hbl, hxr, hif⟩ := hrel
                have HXL := Lib.hid hxr
                have HIL := Lib.hid hif
                have HBL := Lib.hid hbl
                clear hbl hxr hif
                by_cases hlj : j < f
                · obtain ⟨gF, oF, z, rfl, la, hz, c1, z0, z1⟩ := HIL.out.at hlj
                  have hmem : z ∈ frP n F d n := by rw [HFP.out]; exact List.mem_of_getElem? hz
                  obtain ⟨hz0, hoy, hay, hyl⟩ := free_ok HN24.out HD1.out HOF.out HAV.out hmem
                  obtain ⟨Y, hY⟩ : ∃ Y, ofZ n (F ++ [z]) = Y := ⟨_, rfl⟩
                  rw [hY] at hoy hay hyl
                  have HY := Lib.hid hY
                  have HOY := Lib.hid hoy
                  have HAY := Lib.hid hay
                  have HYL : Hid ((Y.length : Int) = (k : Int) + 1) := Lib.hid (by rw [hyl, HFL.out]; omega)
                  have HO1 : Hid (Ok n [z]) := Lib.hid (one_Ok ⟨by omega, by omega⟩ hz0)
                  clear hz hmem hoy hay hyl hY
                  as_aux_lemma =>
                    obtain ⟨p0, p1, p2, p3⟩ := HXL.out.1.facts
                    have ltr := HXL.out.1.lt
                    go_wp2_with fail
                    refine (v_join n br cr F (some ⟨_, 0, none⟩) 1 [z] Y _ (HXL.out.2.below (bel1 _ _)) (one_ints z _ (by omega)) HOF.out HO1.out HY.out).mono ?_
                    rintro e16 v16 ⟨by2, cy, rfl, hown, hb⟩
                    have hb0 := (bel1 wr (.cells #[.int .i64 z] 3)).trans (hb.mono (by simp))
                    clear p0 p1 p2 p3 ltr c1 hb
                    have HXr16 := Lib.hid (HXL.out.keep hb0)
                    have HIF16 := Lib.hid (HIL.out.below hb0)
                    have HB16x := Lib.hid (show Below w.heap.size w v16 from HBL.out.trans (hb0.mono HBL.out.size))
                    clear HXL HIL HBL hb0
                    have HXn := Lib.hid (rhAt_put (n := n) hown (ok_allInt HOY.out))
                    clear hown
                    have hb := putR_below v16 n by2 Y.length cy
                    have HXr17 := Lib.hid (HXr16.out.keep hb)
                    have HIF17 := Lib.hid (HIF16.out.below hb)
                    have HB17x := Lib.hid (show Below w.heap.size w (putR v16 n by2 Y.length cy) from HB16x.out.trans (hb.mono HB16x.out.size))
                    have HXy17 : Hid (RhAt (putR v16 n by2 Y.length cy) v16.heap.size n by2 cy Y) := HXn
                    clear HXn hb HXr16 HIF16 HB16x
                    go_upto_region 33 with fail
                    obtain ⟨W9, hW9⟩ : ∃ W9, putR v16 n by2 Y.length cy = W9 := ⟨_, rfl⟩
                    change Code.wp _ _ _ _ (putR v16 n by2 Y.length cy)
                    rw [hW9]
                    rw [hW9] at HXr17 HIF17 HB17x HXy17
                    obtain ⟨yb, hyb⟩ : ∃ b, v16.heap.size = b := ⟨_, rfl⟩
                    rw [hyb] at HXy17 ⊢
                    clear hW9 hyb
                    obtain ⟨p0, p1, p2, p3⟩ := HXy17.out.1.facts
                    have ltr := HXy17.out.1.lt
                    go_wp2_with fail
                    refine (v_avi n d by2 cy Y _ HXy17.out.2 HOY.out HD1.out HAY.out).mono ?_
                    rintro e18 v18 ⟨rfl, hb⟩
                    clear p0 p1 p2 p3 ltr
                    have HXr18 := Lib.hid (HXr17.out.keep hb)
                    have HIF18 := Lib.hid (HIF17.out.below hb)
                    have HXy18 := Lib.hid (HXy17.out.keep hb)
                    have HB18x := Lib.hid (show Below w.heap.size w v18 from HB17x.out.trans (hb.mono HB17x.out.size))
                    clear hb HXr17 HIF17 HXy17 HB17x
                    obtain ⟨p0, p1, p2, p3⟩ := HXy18.out.1.facts
                    have ltr := HXy18.out.1.lt
                    go_wp2_with fail
                    refine (r_cnt n by2 cy Y ((k : Int) + 1) _ HXy18.out.2 HOY.out HYL.out).mono ?_
                    rintro e19 v19 ⟨rfl, hb⟩
                    clear p0 p1 p2 p3 ltr
                    have HXr19 := Lib.hid (HXr18.out.keep hb)
                    have HIF19 := Lib.hid (HIF18.out.below hb)
                    have HB19x := Lib.hid (show Below w.heap.size w v19 from HB18x.out.trans (hb.mono HB18x.out.size))
                    clear hb HXr18 HIF18 HXy18 HB18x
                    go_wp2
                    go_roundw
                    case rel => exact ⟨j + 1, by omega, by go_num, HB19x.out, HXr19.out, HIF19.out⟩
                    case measure => simp [intOf]; omega
                · go_wp2_with fail
                  go_meet
                  exact HBL.out
          · go_wp2_with fail
            go_meet
            exact HB12x.out
        case rest =>
          obtain ⟨wz, rfl⟩ : ∃ wz : World, wz = wc := ⟨_, rfl⟩
          have HBZ := Lib.hid hcut
          clear hcut HFA12 HB12x
          go_wp2_with fail
          refine (mof_any a len cap 10 n wz (bytes_up HBY.out HBZ.out HBZ.out.size) (by omega) (by omega) (by omega)).mono ?_
          rintro e20 v20 ⟨bx, cx, x, rfl, hox, hown, hb⟩
          have HB20x := Lib.hid (show Below w.heap.size w v20 from HBZ.out.trans (hb.mono HBZ.out.size))
          clear HBZ hb
          have HOx := Lib.hid hox
          clear hox
          have HXn := Lib.hid (rhAt_put (n := n) hown (ok_allInt HOx.out))
          clear hown
          have hb := putR_below v20 n bx x.length cx
          have HB21x := Lib.hid (show Below w.heap.size w (putR v20 n bx x.length cx) from HB20x.out.trans (hb.mono HB20x.out.size))
          clear HB20x hb
          have HXx21 : Hid (RhAt (putR v20 n bx x.length cx) v20.heap.size n bx cx x) := HXn
          clear HXn
          go_upto_region 37 with fail
          obtain ⟨W9, hW9⟩ : ∃ W9, putR v20 n bx x.length cx = W9 := ⟨_, rfl⟩
          change Code.wp _ _ _ _ (putR v20 n bx x.length cx)
          rw [hW9]
          rw [hW9] at HXx21 HB21x
          obtain ⟨xb, hxb⟩ : ∃ b, v20.heap.size = b := ⟨_, rfl⟩
          rw [hxb] at HXx21 ⊢
          clear hW9 hxb
          obtain ⟨p0, p1, p2, p3⟩ := HXx21.out.1.facts
          have ltr := HXx21.out.1.lt
          obtain ⟨DL, hDL⟩ : ∃ l, difZ n x = l := ⟨_, rfl⟩
          have HDL := Lib.hid hDL
          clear hDL
          go_wp2_with fail
          refine (v_difs n bx cx x DL _ HXx21.out.2 HOx.out HDL.out).mono ?_
          rintro e22 v22 ⟨bv, cw, rfl, hiv, hb⟩
          clear p0 p1 p2 p3 ltr
          have HXx22 := Lib.hid (HXx21.out.keep hb)
          have HIV := Lib.hid hiv
          have HB22x := Lib.hid (show Below w.heap.size w v22 from HB21x.out.trans (hb.mono HB21x.out.size))
          clear hb hiv HXx21 HB21x
          go_upto_region 38 with fail
          refine wp_code (c' := rgOf Try.f5 38) (by kernel_rfl) ?_
          obtain ⟨vb, vo, D, rfl, hvb, hD, hvc, _, _⟩ := HIV.out.at hdn
          have hDa : ((difAt n x d : Nat) : Int) = D := by
            have h1 := difZ_at (n := (n : Int)) (zs := x) (i := d) (by simpa using hdn)
            rw [HDL.out, hD] at h1
            exact (Option.some.inj h1).symm
          obtain ⟨DN, hDN⟩ : ∃ D : Nat, difAt n x d = D := ⟨_, rfl⟩
          rw [hDN] at hDa
          subst hDa
          clear hD HIV HDL
          have hvc2 : vb < v22.heap.size ∧ v22.cell? ⟨vb, vo + d, none⟩ = some (.int .i64 (DN : Nat)) := ⟨hvb, hvc⟩
          clear hvb hvc
          have hodd := odd_is HOx.out
          obtain ⟨m2, hm2⟩ : ∃ m, (opP n x (n / 2)).length = m := ⟨_, rfl⟩
          by_cases hq0 : DN = 0
          · have hqq : (((difAt n x d : Nat) : Int) == 0) = true := by rw [hDN]; simp [hq0]
            by_cases hp : n % 2 = 1
            · refine reg38_ao n d DN 0 x xb vb vo bx cx cw w v22 hn2 hn10 ⟨hd1, hdn⟩ HOx.out HXx22.out hvc2 hqq hDN (by rw [hodd, hp]; rfl) hp ?_
              intro x197 x198 x199 x200 x201 x202 x203 x204 x205 x206 x207 x208 x209 x210 x211 x212 x213 x214 x215 x216 x217 x218 x219 x220 x221 x222 x223 x224 x225 w4 hb
              go_wp2
              go_ret
              exact ⟨rfl, HB22x.out.trans (hb.mono HB22x.out.size)⟩
            · have hp0 : n % 2 = 0 := by omega
              by_cases hm0 : m2 = 0
              · refine reg38_ae n d DN m2 x xb vb vo bx cx cw w v22 hn2 hn10 ⟨hd1, hdn⟩ HOx.out HXx22.out hvc2 hqq hDN (by rw [hodd, hp0, hm2, hm0]; rfl) hp0 hm2 hm0 ?_
                intro x197 x198 x199 x200 x201 x202 x203 x204 x205 x206 x207 x208 x209 x210 x211 x212 x213 x214 x215 x216 x217 x218 x219 x220 x221 x222 x223 x224 x225 w4 hb
                go_wp2
                go_ret
                exact ⟨rfl, HB22x.out.trans (hb.mono HB22x.out.size)⟩
              · refine reg38_af n d DN m2 x xb vb vo bx cx cw w v22 hn2 hn10 ⟨hd1, hdn⟩ HOx.out HXx22.out hvc2 hqq hDN (by rw [hodd, hp0, hm2]; simp [hm0]) hp0 hm2 hm0 ?_
                intro x197 x198 x199 x200 x201 x202 x203 x204 x205 x206 x207 x208 x209 x210 x211 x212 x213 x214 x215 x216 x217 x218 x219 x220 x221 x222 x223 x224 x225 w4 hb
                go_wp2
                go_ret
                exact ⟨rfl, HB22x.out.trans (hb.mono HB22x.out.size)⟩
          · have hqq : (((difAt n x d : Nat) : Int) == 0) = false := by rw [hDN]; simp [hq0]
            by_cases hp : n % 2 = 1
            · refine reg38_bo n d DN 0 x xb vb vo bx cx cw w v22 hn2 hn10 ⟨hd1, hdn⟩ HOx.out HXx22.out hvc2 hqq hDN (by rw [hodd, hp]; rfl) hp ?_
              intro x197 x198 x199 x200 x201 x202 x203 x204 x205 x206 x207 x208 x209 x210 x211 x212 x213 x214 x215 x216 x217 x218 x219 x220 x221 x222 x223 x224 x225 w4 hb
              go_wp2
              go_ret
              exact ⟨rfl, HB22x.out.trans (hb.mono HB22x.out.size)⟩
            · have hp0 : n % 2 = 0 := by omega
              by_cases hm0 : m2 = 0
              · refine reg38_be n d DN m2 x xb vb vo bx cx cw w v22 hn2 hn10 ⟨hd1, hdn⟩ HOx.out HXx22.out hvc2 hqq hDN (by rw [hodd, hp0, hm2, hm0]; rfl) hp0 hm2 hm0 ?_
                intro x197 x198 x199 x200 x201 x202 x203 x204 x205 x206 x207 x208 x209 x210 x211 x212 x213 x214 x215 x216 x217 x218 x219 x220 x221 x222 x223 x224 x225 w4 hb
                go_wp2
                go_ret
                exact ⟨rfl, HB22x.out.trans (hb.mono HB22x.out.size)⟩
              · refine reg38_bf n d DN m2 x xb vb vo bx cx cw w v22 hn2 hn10 ⟨hd1, hdn⟩ HOx.out HXx22.out hvc2 hqq hDN (by rw [hodd, hp0, hm2]; simp [hm0]) hp0 hm2 hm0 ?_
                intro x197 x198 x199 x200 x201 x202 x203 x204 x205 x206 x207 x208 x209 x210 x211 x212 x213 x214 x215 x216 x217 x218 x219 x220 x221 x222 x223 x224 x225 w4 hb
                go_wp2
                go_ret
                exact ⟨rfl, HB22x.out.trans (hb.mono HB22x.out.size)⟩
  · clear hb
    go_enter Try.func5, Try.ntmps5
    go_wp2
    go_ret
    exact ⟨rfl, Below.refl _ _⟩
end Go.Proofs.Ytjgjcppkbfojpaa.Rhy
