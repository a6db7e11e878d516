/-
  Helpers of the claims beside this text: CirclesOf and MostAvoiding of the program.
-/
import Derived.Test.YtpbceckbmalabaaOcs
namespace Go.Proofs.Ytpbceckbmalabaa.Rhy
open Go.RowKit
set_option linter.unusedVariables false
set_option linter.unusedSimpArgs false

theorem once_lit (b d n p : Nat) (w : World) (h : CirAt w b d n p) (hn : 2 ≤ n ∧ n ≤ 24) (hd : 1 ≤ d ∧ d < n) (hp : p < n) :
    Calls Try.prog 50 #[cirV b] w fun e w' => ∃ a c, e = .returned (.slice a (cirZ n d p).length c) ∧ w'.ownsRow w.heap.size 3 1 (.slice a (cirZ n d p).length c) (cirZ n d p).length (ints (cirZ n d p)) ∧ w.grownBy w' (some (b + 2)) :=
  (once_any b d n p w h hn hd hp).mono (by rintro e w' ⟨a, c, rfl, ho, hg⟩; exact ⟨a, c, by rw [cirZ_len], by rw [cirZ_len]; exact ho, hg⟩)
theorem havec_yes (n d : Int) (w : World) (h : n ≤ 24) (h1 : 1 ≤ d) (h2 : d < n) : Calls Try.prog 48 #[.int .i64 n, .int .i64 d] w fun e w' => e = .returned (.bool true) ∧ w = w' := by
  go_enter Try.func48, Try.ntmps48
  go_wp2_with fail
  refine (isint_yes d n _ h1 h2).mono ?_
  rintro e w' ⟨rfl, rfl⟩
  go_wp2
  go_ret
  exact ⟨rfl, rfl⟩
theorem havec_no (n d : Int) (w : World) (h : ¬ (n ≤ 24 ∧ 1 ≤ d ∧ d < n)) : Calls Try.prog 48 #[.int .i64 n, .int .i64 d] w fun e w' => e = .returned (.bool false) ∧ w = w' := by
  by_cases hn : n ≤ 24
  · have HD : Hid (¬ (1 ≤ d ∧ d < n)) := Lib.hid (fun q => h ⟨hn, q⟩)
    clear h
    go_enter Try.func48, Try.ntmps48
    go_wp2_with fail
    refine (isint_no d n _ HD.out).mono ?_
    rintro e w' ⟨rfl, rfl⟩
    go_wp2
    go_ret
    exact ⟨rfl, rfl⟩
  · clear h
    go_enter Try.func48, Try.ntmps48
    go_wp2
    go_ret
    exact ⟨rfl, rfl⟩
theorem circs_cell {w : World} {lo hi gb g c d n : Nat} {Bs : List Nat} {k b : Nat} (h : Circs w lo hi (.slice (some ⟨gb, 0, none⟩) g c) d n Bs k) (hl : Bs.length = g) {j : Nat} (hj : Bs[j]? = some b) : w.cell? ⟨gb, j, none⟩ = some (cirV b) := by
  subst hl
  have hr := h.row
  have hlt := at_lt hj
  rw [hr.cellAt j (by omega), List.getElem?_map, hj]
  rfl
theorem circs_addr {w : World} {lo hi g c d n : Nat} {a : Option Addr} {Bs : List Nat} {k : Nat} (h : Circs w lo hi (.slice a g c) d n Bs k) (hl : Bs.length = g) (hg : 1 ≤ g) : ∃ gb, a = some ⟨gb, 0, none⟩ := by
  rcases h.row.2 with ⟨_, h0⟩ | ⟨gb, cap, cur, hv, _⟩
  · omega
  · exact ⟨gb, by injection hv⟩

set_option maxHeartbeats 1000000 in
theorem mostav_impl (n d : Int) (w : World) (h1 : -9223372036854775808 ≤ n) (h2 : n ≤ 9223372036854775807) (h3 : -9223372036854775808 ≤ d) (h4 : d ≤ 9223372036854775807) :
    Calls Try.prog 16 #[.int .i64 n, .int .i64 d] w fun e w' => e = .returned (.int .i64 (moaB n d)) ∧ Below w.heap.size w w' := by
  by_cases hc : n ≤ 24 ∧ 1 ≤ d ∧ d < n
  · have HE := Lib.hid (moaB_yes (n := n) (d := d) ⟨⟨by omega, hc.1⟩, by omega⟩)
    obtain ⟨N, rfl⟩ : ∃ N : Nat, n = N := ⟨n.toNat, by omega⟩
    obtain ⟨D, rfl⟩ : ∃ D : Nat, d = D := ⟨d.toNat, by omega⟩
    have HC := Lib.hid hc
    have HN : Hid (2 ≤ N ∧ N ≤ 24) := Lib.hid (by omega)
    have HD : Hid (1 ≤ D ∧ D < N) := Lib.hid (by omega)
    obtain ⟨g, hg⟩ : ∃ g, Nat.gcd N D = g := ⟨_, rfl⟩
    have hg1 : 1 ≤ g := by rw [← hg]; exact Nat.gcd_pos_of_pos_left _ (by omega)
    have hgn : g ≤ N := by rw [← hg]; exact Nat.gcd_le_left _ (by omega)
    obtain ⟨m, hm⟩ : ∃ m, N / g = m := ⟨_, rfl⟩
    have hm24 : m ≤ 24 := by rw [← hm]; have : N / g ≤ N := Nat.div_le_self _ _; omega
    obtain ⟨q, hq⟩ : ∃ q, m / 2 = q := ⟨_, rfl⟩
    have hq12 : q ≤ 12 := by omega
    have hqi : (m : Int) / 2 = (q : Int) := by omega
    have HQI := Lib.hid hqi
    have HM : Hid ((mostN (N : Int).toNat (D : Int).toNat : Nat) = g * q) := Lib.hid (by unfold mostN; rw [Int.toNat_natCast, Int.toNat_natCast, hg, hm, hq])
    have HLEN : Hid (∀ k, (cirZ N D k).length = m) := Lib.hid (fun k => by rw [cirZ_len, hg, hm])
    have HG := Lib.hid hg
    clear hg hm hq hqi hc
    rw [HE.out, HM.out]
    go_enter Try.func16, Try.ntmps16
    go_wp2_with fail
    refine (havec_yes N D _ HC.out.1 HC.out.2.1 HC.out.2.2).mono ?_
    rintro e w' ⟨rfl, rfl⟩
    go_wp2_with fail
    refine (circs_any D N _ HN.out HD.out).mono ?_
    rintro e w1 ⟨a, c, Bs, rfl, hbl, hci, hb1⟩
    rw [HG.out] at hbl hci ⊢
    obtain ⟨gb, rfl⟩ := circs_addr hci hbl hg1
    have HBL := Lib.hid hbl
    have HCI := Lib.hid hci
    have HB1 := Lib.hid hb1
    clear hbl hci hb1
    go_wp2
    go_loopw [5, 16] (fun v i wr => ∃ k : Nat, k ≤ g ∧ i = .int .i64 k ∧ v = .int .i64 ((k * q : Nat) : Int) ∧ Circs wr w.heap.size w1.heap.size (.slice (some ⟨gb, 0, none⟩) g c) D N Bs k ∧ Below w.heap.size w wr ∧ w1.heap.size ≤ wr.heap.size) (fun _ i _ => g - (intOf i).toNat)
    case atStart => exact ⟨0, by omega, rfl, by simp, HCI.out, HB1.out, Nat.le_refl _⟩
    case round =>
      obtain ⟨k, hk, rfl, rfl, hci, hbw, hzw⟩ := hrel
      have HCK := Lib.hid hci
      have HBW := Lib.hid hbw
      clear hci hbw
      obtain ⟨x, hx⟩ : ∃ x, k * q = x := ⟨_, rfl⟩
      have hxb : x ≤ 288 := by rw [← hx]; exact Nat.mul_le_mul (show k ≤ 24 by have := HN.out; omega) hq12
      have HXX : Hid ((k + 1) * q = x + q) := Lib.hid (by rw [Nat.add_mul, Nat.one_mul, hx])
      have HX := Lib.hid hx
      rw [hx]
      clear hx
      by_cases hlt : k < g
      · obtain ⟨b, hb⟩ : ∃ b, Bs[k]? = some b := ⟨_, List.getElem?_eq_getElem (by have := HBL.out; omega)⟩
        have HBK := Lib.hid hb
        have hcell := circs_cell HCK.out HBL.out hb
        clear hb
        go_wp2_with fail
        refine (once_lit b D N k wr (HCK.out.box k b HBK.out (Nat.le_refl _)) HN.out HD.out (by omega)).mono ?_
        rintro e w2 ⟨a2, c2, rfl, -, hgr⟩
        rw [HLEN.out]
        have HGR := Lib.hid hgr
        have hbh := HCK.out.bhi k b HBK.out
        have hz2 := hgr.size
        have HC2 := Lib.hid (HCK.out.step HBK.out hgr)
        have HB2 : Hid (Below w.heap.size w w2) := Lib.hid (HBW.out.trans (below_grown hgr (by omega) HBW.out.size))
        clear hgr hcell
        have hqi := HQI.out
        have hw1 : wrap64 ((x : Int) + (q : Int)) = x + q := by unfold wrap64; omega
        have HVAL : Hid (Value.int .i64 ((x : Int) + (q : Int)) = Value.int .i64 (((k + 1) * q : Nat) : Int)) := Lib.hid (by rw [HXX.out]; simp)
        clear hw1
        go_wp2
        go_roundw
        case rel => exact ⟨k + 1, by omega, by go_num, HVAL.out, HC2.out, HB2.out, by omega⟩
        case measure => simp [intOf]; omega
      · have e : k = g := by omega
        have HE2 : Hid (g * q = x) := Lib.hid (by rw [← e]; exact HX.out)
        clear e
        go_wp2
        go_ret
        exact ⟨by rw [HE2.out]; rfl, HBW.out⟩
  · have HC := Lib.hid hc
    have HE := Lib.hid (moaB_no (n := n) (d := d) (fun x => hc (by have := x.1; have := x.2; omega)))
    clear hc
    rw [HE.out]
    go_enter Try.func16, Try.ntmps16
    go_wp2_with fail
    refine (havec_no n d _ HC.out).mono ?_
    rintro e w' ⟨rfl, rfl⟩
    go_wp2
    go_ret
    exact ⟨rfl, Below.refl _ _⟩

/-- What both answer. -/
noncomputable def cirB (n d : Int) : List (List Int) := @ite _ (MoC n d) (Classical.propDecidable _) (cirsZ n.toNat d.toNat) []
theorem cirB_yes {n d : Int} (h : MoC n d) : cirB n d = cirsZ n.toNat d.toNat := by simp [cirB, h]
theorem cirB_no {n d : Int} (h : ¬ MoC n d) : cirB n d = [] := by simp [cirB, h]
theorem valsL_snoc {L : List Lit} {P : List (List Int)} {r : Lit} (h : valsL L = P) : valsL (L ++ [r]) = P ++ [r.zs] := by rw [← h]; simp [valsL]
theorem ls_none {w w' : World} (hb : Below w.heap.size w w') : LSPost [] w (.returned (.slice none 0 0)) w' := ⟨none, 0, [], rfl, lits_nil _ _, rfl, hb⟩

set_option maxHeartbeats 1000000 in
theorem cir_impl (n d : Int) (w : World) (h1 : -9223372036854775808 ≤ n) (h2 : n ≤ 9223372036854775807) (h3 : -9223372036854775808 ≤ d) (h4 : d ≤ 9223372036854775807) :
    Calls Try.prog 13 #[.int .i64 n, .int .i64 d] w (LSPost (cirB n d) w) := by
  by_cases hc : n ≤ 24 ∧ 1 ≤ d ∧ d < n
  · have HE := Lib.hid (cirB_yes (n := n) (d := d) ⟨⟨by omega, hc.1⟩, by omega⟩)
    obtain ⟨N, rfl⟩ : ∃ N : Nat, n = N := ⟨n.toNat, by omega⟩
    obtain ⟨D, rfl⟩ : ∃ D : Nat, d = D := ⟨d.toNat, by omega⟩
    have HC := Lib.hid hc
    have HN : Hid (2 ≤ N ∧ N ≤ 24) := Lib.hid (by omega)
    have HD : Hid (1 ≤ D ∧ D < N) := Lib.hid (by omega)
    obtain ⟨g, hg⟩ : ∃ g, Nat.gcd N D = g := ⟨_, rfl⟩
    have hg1 : 1 ≤ g := by rw [← hg]; exact Nat.gcd_pos_of_pos_left _ (by omega)
    have hgn : g ≤ N := by rw [← hg]; exact Nat.gcd_le_left _ (by omega)
    have HTK : Hid (∀ k, k < g → (cirsZ N D).take (k + 1) = (cirsZ N D).take k ++ [cirZ N D k]) := Lib.hid (fun k hk => cirsZ_take (by rw [hg]; exact hk))
    have HPL : Hid ((cirsZ N D).length = g) := Lib.hid (by rw [cirsZ_len, hg])
    have HG := Lib.hid hg
    rw [Int.toNat_natCast, Int.toNat_natCast] at HE
    clear hg hc
    rw [HE.out]
    go_enter Try.func13, Try.ntmps13
    go_wp2_with fail
    refine (havec_yes N D _ HC.out.1 HC.out.2.1 HC.out.2.2).mono ?_
    rintro e w' ⟨rfl, rfl⟩
    go_wp2_with fail
    refine (circs_any D N _ HN.out HD.out).mono ?_
    rintro e w1 ⟨a, c, Bs, rfl, hbl, hci, hb1⟩
    rw [HG.out] at hbl hci ⊢
    obtain ⟨gb, rfl⟩ := circs_addr hci hbl hg1
    have HBL := Lib.hid hbl
    have HCI := Lib.hid hci
    have HB1 := Lib.hid hb1
    clear hbl hci hb1
    go_wp2
    go_loopw [5, 16] (fun v i wr => ∃ (k : Nat) (L : List Lit) (av : Option Addr) (cv : Nat), k ≤ g ∧ i = .int .i64 k ∧ v = .slice av L.length cv ∧ Lits wr w1.heap.size (.slice av L.length cv) L ∧ valsL L = (cirsZ N D).take k ∧ L.length = k ∧ Circs wr w.heap.size w1.heap.size (.slice (some ⟨gb, 0, none⟩) g c) D N Bs k ∧ Below w.heap.size w wr ∧ w1.heap.size ≤ wr.heap.size) (fun _ i _ => g - (intOf i).toNat)
    case atStart => exact ⟨0, [], none, 0, by omega, rfl, rfl, lits_nil _ _, rfl, rfl, HCI.out, HB1.out, Nat.le_refl _⟩
    case round =>
      obtain ⟨k, L, av, cv, hk, rfl, rfl, hli, hvl, hll, hci, hbw, hzw⟩ := hrel
      have HLI := Lib.hid hli
      have HVL := Lib.hid hvl
      have HLL := Lib.hid hll
      have HCK := Lib.hid hci
      have HBW := Lib.hid hbw
      have hl1 : L.length ≤ 1048577 := by have := HN.out; omega
      clear hli hvl hll hci hbw
      by_cases hlt : k < g
      · obtain ⟨b, hb⟩ : ∃ b, Bs[k]? = some b := ⟨_, List.getElem?_eq_getElem (by have := HBL.out; omega)⟩
        have HBK := Lib.hid hb
        have hcell := circs_cell HCK.out HBL.out hb
        clear hb
        go_wp2_with fail
        refine (once_lit b D N k wr (HCK.out.box k b HBK.out (Nat.le_refl _)) HN.out HD.out (by omega)).mono ?_
        rintro e w2 ⟨a2, c2, rfl, hown, hgr⟩
        have HO2 := Lib.hid hown
        have hbh := HCK.out.bhi k b HBK.out
        have hz2 := hgr.size
        have HZ2 := Lib.hid hz2
        have HC2 := Lib.hid (HCK.out.step HBK.out hgr)
        have HB2 : Hid (Below w.heap.size w w2) := Lib.hid (HBW.out.trans (below_grown hgr (by omega) HBW.out.size))
        have HLI2 : Hid (Lits w2 w1.heap.size (.slice av L.length cv) L) := Lib.hid (HLI.out.grown hgr (fun x hx e => by have := (HLI.out.outer.lt x hx).1; have := Option.some.inj e; omega) (fun i r x hi hx e => by have := ((HLI.out.each i r hi).lt x hx).1; have := Option.some.inj e; omega))
        clear hgr hcell hown
        go_wp2_with (at_builtin; refine append_lit rfl _ _ rfl w1.heap.size _ L ⟨a2, c2, cirZ N D k⟩ wr w2 HLI2.out (fun i r x hi hx => ((HLI.out.each i r hi).lt x hx).2) (fun x hx => (HLI.out.outer.lt x hx).2) HZ2.out hzw hl1 HO2.out _ rfl rfl rfl ?_; intro a' c' w3 hli3 hb3 hz3 _; have HLI3 := Lib.hid hli3; have HB3 := Lib.hid hb3; have HZ3 := Lib.hid hz3; clear hli3 hb3 hz3)
        go_roundw
        case rel =>
          refine ⟨k + 1, L ++ [⟨a2, c2, cirZ N D k⟩], a', c', by omega, by go_num, by rw [List.length_append]; rfl, by rw [List.length_append]; exact HLI3.out, by rw [HTK.out k hlt]; exact valsL_snoc HVL.out, by rw [List.length_append, HLL.out]; rfl, HC2.out.below HB3.out, HB2.out.trans (HB3.out.mono HB1.out.size), ?_⟩
          have := HZ2.out; have := HZ3.out; omega
        case measure => simp [intOf]; omega
      · have e : k = g := by omega
        have HE2 : Hid (valsL L = cirsZ N D) := Lib.hid (by have := HVL.out; rwa [e, List.take_of_length_le (by rw [HPL.out]; exact Nat.le_refl _)] at this)
        have HL2 : Hid (L.length = (cirsZ N D).length) := Lib.hid (by rw [HLL.out, HPL.out, e])
        clear e
        go_wp2
        go_ret
        exact ⟨av, cv, L, by rw [HL2.out]; rfl, by have := HLI.out.base HB1.out.size; rwa [HL2.out] at this, HE2.out, HBW.out⟩
  · have HC := Lib.hid hc
    have HE := Lib.hid (cirB_no (n := n) (d := d) (fun x => hc (by have := x.1; have := x.2; omega)))
    clear hc
    rw [HE.out]
    go_enter Try.func13, Try.ntmps13
    go_wp2_with fail
    refine (havec_no n d _ HC.out).mono ?_
    rintro e w' ⟨rfl, rfl⟩
    go_wp2
    go_ret
    exact ls_none (Below.refl _ _)
end Go.Proofs.Ytpbceckbmalabaa.Rhy
