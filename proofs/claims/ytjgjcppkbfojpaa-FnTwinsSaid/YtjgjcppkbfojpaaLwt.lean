/-
  Helpers of the claims beside this text: the law on twins.
-/
import Derived.Test.YtjgjcppkbfojpaaTwx
import Derived.Test.YtjgjcppkbfojpaaDrw
import Derived.Test.YtjgjcppkbfojpaaRhd
import Derived.Deep.DeepCutAuto
import Derived.BigFrame
namespace Go.Proofs.Ytjgjcppkbfojpaa.Rhy
open Go.RowKit
open Go.Proofs.Ytjgjcppkbfojpaa.Cur
set_option linter.unusedVariables false

/-- Two literal rhythms: an array and a box each. -/
abbrev abW (W : World) : World := (((W.alloc (.cells #[.int .i64 0, .int .i64 1, .int .i64 2, .int .i64 5] 3)).alloc (.cells #[.int .i64 8, .slice (some ⟨W.heap.size, 0, none⟩) 4 4] 25)).alloc (.cells #[.int .i64 0, .int .i64 1, .int .i64 3, .int .i64 4] 3)).alloc (.cells #[.int .i64 8, .slice (some ⟨W.heap.size + 1 + 1, 0, none⟩) 4 4] 25)
theorem abW_A (W : World) : RhAt (abW W) (W.heap.size + 1) 8 (some ⟨W.heap.size, 0, none⟩) 4 [0, 1, 2, 5] := by
  have h := rhAt_in (n := 8) (cap := 4) (ints_laid W [0, 1, 2, 5] (ok_allInt ok_a) (by decide))
  have e : (W.alloc (.cells ([0, 1, 2, 5].map (Value.int .i64)).toArray 3)).heap.size = W.heap.size + 1 := by simp
  rw [e] at h
  exact (h.keep (bel1 _ (.cells #[.int .i64 0, .int .i64 1, .int .i64 3, .int .i64 4] 3))).keep (bel1 _ _)
theorem abW_B (W : World) : RhAt (abW W) (W.heap.size + 1 + 1 + 1) 8 (some ⟨W.heap.size + 1 + 1, 0, none⟩) 4 [0, 1, 3, 4] := by
  obtain ⟨U, hU⟩ : ∃ U, U = (W.alloc (.cells #[.int .i64 0, .int .i64 1, .int .i64 2, .int .i64 5] 3)).alloc (.cells #[.int .i64 8, .slice (some ⟨W.heap.size, 0, none⟩) 4 4] 25) := ⟨_, rfl⟩
  have e0 : U.heap.size = W.heap.size + 1 + 1 := by rw [hU]; simp
  have h := rhAt_in (n := 8) (cap := 4) (ints_laid U [0, 1, 3, 4] (ok_allInt ok_b) (by decide))
  have e : (U.alloc (.cells ([0, 1, 3, 4].map (Value.int .i64)).toArray 3)).heap.size = W.heap.size + 1 + 1 + 1 := by rw [← e0]; simp
  rw [e, e0, hU] at h
  exact h
theorem abW_below (W : World) : Below W.heap.size W (abW W) :=
  (bel2 W _ _).trans ((bel2 _ _ _).mono (by simp; omega))

set_option maxHeartbeats 8000000 in
set_option maxRecDepth 100000 in
theorem twins_walk (a : Option Addr) (len cap : Nat) (w : World) (hb : len ≤ 1048576 → BytesAt w.heap.size w a len) :
    Calls Try.prog 4 #[.slice a len cap] w fun e w' => e = .returned (.bool true) ∧ Below w.heap.size w w' := by
  by_cases hlen : len ≤ 1048576
  · have HBY := Lib.hid (hb hlen)
    clear hb
    go_enter Try.func4, Try.ntmps4
    go_wp2_with fail
    refine (make_any a len cap 0 9 w HBY.out (by omega) (by omega) (by omega)).mono ?_
    rintro e w1 ⟨n, b, c, zs, rfl, hok, hn, hown, hb1⟩
    have HO := Lib.hid hok
    have hn1 : 1 ≤ n := by have := hok.1.1; omega
    have hn9 : n ≤ 9 := hn
    have HXr0 : Hid (RhAt (putR w1 n b zs.length c) w1.heap.size n b c zs) := Lib.hid (rhAt_put hown (ok_allInt hok))
    have HB0x := Lib.hid (show Below w.heap.size w (putR w1 n b zs.length c) from hb1.trans ((putR_below _ _ _ _ _).mono hb1.size))
    have HLZ := Lib.hid (ok_len hok)
    obtain ⟨lo, hlo⟩ : ∃ l, notZ n zs = l := ⟨_, rfl⟩
    have HElo := Lib.hid hlo
    have HOo : Hid (Ok n lo) := Lib.hid (by rw [← hlo]; exact not_ok' hok)
    clear hok hn hown hb1 hlo
    obtain ⟨pr0, pr1, pr2, pr3⟩ := HXr0.out.1.facts
    have ltr := HXr0.out.1.lt
    go_wp2_with fail
    refine (v_tws n b c zs (twZ n zs) (putR w1 n b zs.length c) HXr0.out.2 HO.out (by omega) rfl).mono ?_
    rintro e v1 ⟨bt, ct, q, L, rfl, hLq, hq4, hit, hvl, hb⟩
    clear pr0 pr1 pr2 pr3 ltr
    have HXr1 := Lib.hid (HXr0.out.keep hb)
    clear HXr0
    have HB1x := Lib.hid (show Below w.heap.size w v1 from HB0x.out.trans (hb.mono HB0x.out.size))
    clear HB0x hb
    have HLQ := Lib.hid hLq
    have HVL := Lib.hid hvl
    have HLT0 := Lib.hid hit
    clear hLq hvl hit
    have HLB : Hid (Below w.heap.size w v1 ∧ RhAt v1 w1.heap.size n b c zs ∧ ItemsAt v1 (.slice bt q ct) L) := Lib.hid ⟨HB1x.out, HXr1.out, HLT0.out⟩
    clear HB1x HXr1 HLT0
    go_wp2
    go_loopw [28] (fun i wr => ∃ p : Nat, p ≤ q ∧ i = .int .i64 p ∧ Below w.heap.size w wr ∧ RhAt wr w1.heap.size n b c zs ∧ ItemsAt wr (.slice bt q ct) L) (fun i _ => q - (intOf i).toNat)
    case atStart => exact ⟨0, by omega, rfl, HLB.out⟩
    case round =>
      clear HLB
      obtain ⟨p, hp, rfl, hbl, hxr, hlt'⟩ := hrel
      have HXrL := Lib.hid hxr
      have HLTL := Lib.hid hlt'
      have HBL := Lib.hid hbl
      clear hbl hxr hlt'
      by_cases hlt : p < q
      · have hltb : decide ((p : Int) < (q : Int)) = true := by simp; omega
        obtain ⟨g, o, rfl⟩ := items_addr HLTL.out (by have := HLQ.out; omega)
        obtain ⟨⟨xs, xa, xc, x⟩, hr0⟩ : ∃ r, L[p]? = some r := ⟨_, List.getElem?_eq_getElem (by have := HLQ.out; omega)⟩
        obtain ⟨hs, hxp⟩ := tw_item HO.out HVL.out hr0
        obtain ⟨c0, c1, hxi⟩ := item_at HLTL.out hr0
        simp only at hs hxp c0 c1 hxi
        subst hs
        obtain ⟨hxo, hxl, hxv, hxf, hxn⟩ := tw_facts HO.out (List.mem_of_getElem? hxp)
        have HOx := Lib.hid hxo
        have HXV := Lib.hid hxv
        have HXF := Lib.hid hxf
        have HXN := Lib.hid hxn
        have HXP := Lib.hid hxp
        obtain ⟨lx, hlx⟩ : ∃ l, notZ n x = l := ⟨_, rfl⟩
        have HElx := Lib.hid hlx
        have HOy : Hid (Ok n lx) := Lib.hid (by rw [← hlx]; exact not_ok' hxo)
        have HYV : Hid (vecZ n lo = vecZ n lx) := Lib.hid (by rw [← hlx, ← HElo.out]; exact vec_not HO.out hxo hxl.symm hxv.symm)
        have HYN : Hid (¬ Form n lo lx) := Lib.hid (by rw [← hlx, ← HElo.out, form_not HO.out hxo]; exact hxn)
        have HXM : Hid (¬ Form n x zs) := Lib.hid (fun h => hxn (form_symm hxo h))
        have HXn := Lib.hid (rhAt_in (n := n) (cap := xc) hxi)
        clear hr0 hxo hxl hxv hxf hxn hxp hxi hlx
        have hb := putR_below wr n xa x.length xc
        have HXr2 := Lib.hid (HXrL.out.keep hb)
        clear HXrL
        have HLT2 := Lib.hid (HLTL.out.below hb)
        clear HLTL
        have HB2x := Lib.hid (show Below w.heap.size w (putR wr n xa x.length xc) from HBL.out.trans (hb.mono HBL.out.size))
        clear HBL hb
        have HXx0 : Hid (RhAt (putR wr n xa x.length xc) wr.heap.size n xa xc x) := HXn
        clear HXn
        have hp0 : (0 : Int) ≤ (p : Int) := by omega
        have hp1 : (p : Int) < (q : Int) := by omega
        obtain ⟨px0, px1, px2, px3⟩ := HXx0.out.1.facts
        have ltx := HXx0.out.1.lt
        go_wp2_with fail
        refine (v_form n xa xc x x (putR wr n xa x.length xc) HXx0.out.2 HOx.out HXF.out).mono ?_
        rintro e v3 ⟨bf, cf, rfl, hown, hb⟩
        clear px0 px1 px2 px3 ltx
        have HXr3 := Lib.hid (HXr2.out.keep hb)
        clear HXr2
        have HXx3 := Lib.hid (HXx0.out.keep hb)
        clear HXx0
        have HLT3 := Lib.hid (HLT2.out.below hb)
        clear HLT2
        have HB3x := Lib.hid (show Below w.heap.size w v3 from HB2x.out.trans (hb.mono HB2x.out.size))
        clear HB2x hb
        clear c0 c1
        have HXn := Lib.hid (rhAt_put (n := n) hown (ok_allInt HOx.out))
        clear hown
        have hb := putR_below v3 n bf x.length cf
        have HXr4 := Lib.hid (HXr3.out.keep hb)
        clear HXr3
        have HXx4 := Lib.hid (HXx3.out.keep hb)
        clear HXx3
        have HLT4 := Lib.hid (HLT3.out.below hb)
        clear HLT3
        have HB4x := Lib.hid (show Below w.heap.size w (putR v3 n bf x.length cf) from HB3x.out.trans (hb.mono HB3x.out.size))
        clear HB3x hb
        have HXf4 : Hid (RhAt (putR v3 n bf x.length cf) v3.heap.size n bf cf x) := HXn
        clear HXn
        obtain ⟨pr0, pr1, pr2, pr3⟩ := HXr4.out.1.facts
        have ltr := HXr4.out.1.lt
        go_wp2_with fail
        refine (r_oth n b c zs lo (putR v3 n bf x.length cf) HXr4.out.2 HO.out HElo.out).mono ?_
        rintro e v5 ⟨bo, co, rfl, hown, hb⟩
        clear pr0 pr1 pr2 pr3 ltr
        have HXr5 := Lib.hid (HXr4.out.keep hb)
        clear HXr4
        have HXx5 := Lib.hid (HXx4.out.keep hb)
        clear HXx4
        have HXf5 := Lib.hid (HXf4.out.keep hb)
        clear HXf4
        have HLT5 := Lib.hid (HLT4.out.below hb)
        clear HLT4
        have HB5x := Lib.hid (show Below w.heap.size w v5 from HB4x.out.trans (hb.mono HB4x.out.size))
        clear HB4x hb
        have HXn := Lib.hid (rhAt_put (n := n) hown (ok_allInt HOo.out))
        clear hown
        have hb := putR_below v5 n bo lo.length co
        have HXr6 := Lib.hid (HXr5.out.keep hb)
        clear HXr5
        have HXx6 := Lib.hid (HXx5.out.keep hb)
        clear HXx5
        have HXf6 := Lib.hid (HXf5.out.keep hb)
        clear HXf5
        have HLT6 := Lib.hid (HLT5.out.below hb)
        clear HLT5
        have HB6x := Lib.hid (show Below w.heap.size w (putR v5 n bo lo.length co) from HB5x.out.trans (hb.mono HB5x.out.size))
        clear HB5x hb
        have HXo6 : Hid (RhAt (putR v5 n bo lo.length co) v5.heap.size n bo co lo) := HXn
        clear HXn
        obtain ⟨px0, px1, px2, px3⟩ := HXx6.out.1.facts
        have ltx := HXx6.out.1.lt
        go_wp2_with fail
        refine (r_oth n xa xc x lx (putR v5 n bo lo.length co) HXx6.out.2 HOx.out HElx.out).mono ?_
        rintro e v7 ⟨bw, cy, rfl, hown, hb⟩
        clear px0 px1 px2 px3 ltx
        have HXr7 := Lib.hid (HXr6.out.keep hb)
        clear HXr6
        have HXx7 := Lib.hid (HXx6.out.keep hb)
        clear HXx6
        have HXf7 := Lib.hid (HXf6.out.keep hb)
        clear HXf6
        have HXo7 := Lib.hid (HXo6.out.keep hb)
        clear HXo6
        have HLT7 := Lib.hid (HLT6.out.below hb)
        clear HLT6
        have HB7x := Lib.hid (show Below w.heap.size w v7 from HB6x.out.trans (hb.mono HB6x.out.size))
        clear HB6x hb
        have HXn := Lib.hid (rhAt_put (n := n) hown (ok_allInt HOy.out))
        clear hown
        have hb := putR_below v7 n bw lx.length cy
        have HXr8 := Lib.hid (HXr7.out.keep hb)
        clear HXr7
        have HXx8 := Lib.hid (HXx7.out.keep hb)
        clear HXx7
        have HXf8 := Lib.hid (HXf7.out.keep hb)
        clear HXf7
        have HXo8 := Lib.hid (HXo7.out.keep hb)
        clear HXo7
        have HLT8 := Lib.hid (HLT7.out.below hb)
        clear HLT7
        have HB8x := Lib.hid (show Below w.heap.size w (putR v7 n bw lx.length cy) from HB7x.out.trans (hb.mono HB7x.out.size))
        clear HB7x hb
        have HXy8 : Hid (RhAt (putR v7 n bw lx.length cy) v7.heap.size n bw cy lx) := HXn
        clear HXn
        by_cases hpz : p = 0
        · have HPZ := Lib.hid hpz
          clear hpz
          go_upto_region 11 with fail
          have HK : Hid (∀ W' : World, Below (putR v7 n bw lx.length cy).heap.size (putR v7 n bw lx.length cy) W' → W'.cell? ⟨w1.heap.size, 0, none⟩ = some (.int .i64 (n : Nat)) ∧ W'.cell? ⟨w1.heap.size, 1, none⟩ = some (.slice b zs.length c) ∧ W'.cell? ⟨wr.heap.size, 0, none⟩ = some (.int .i64 (n : Nat)) ∧ W'.cell? ⟨wr.heap.size, 1, none⟩ = some (.slice xa x.length xc) ∧ W'.cell? ⟨v3.heap.size, 0, none⟩ = some (.int .i64 (n : Nat)) ∧ W'.cell? ⟨v3.heap.size, 1, none⟩ = some (.slice bf x.length cf) ∧ W'.cell? ⟨v5.heap.size, 0, none⟩ = some (.int .i64 (n : Nat)) ∧ W'.cell? ⟨v5.heap.size, 1, none⟩ = some (.slice bo lo.length co) ∧ W'.cell? ⟨v7.heap.size, 0, none⟩ = some (.int .i64 (n : Nat)) ∧ W'.cell? ⟨v7.heap.size, 1, none⟩ = some (.slice bw lx.length cy) ∧ Below (putR v7 n bw lx.length cy).heap.size (putR v7 n bw lx.length cy) W') :=
            Lib.hid (fun W' hW => ⟨(HXr8.out.keep hW).1.facts.1, (HXr8.out.keep hW).1.facts.2.1, (HXx8.out.keep hW).1.facts.1, (HXx8.out.keep hW).1.facts.2.1, (HXf8.out.keep hW).1.facts.1, (HXf8.out.keep hW).1.facts.2.1, (HXo8.out.keep hW).1.facts.1, (HXo8.out.keep hW).1.facts.2.1, (HXy8.out.keep hW).1.facts.1, (HXy8.out.keep hW).1.facts.2.1, hW⟩)
          have HIr : Hid (∀ W' : World, Below (putR v7 n bw lx.length cy).heap.size (putR v7 n bw lx.length cy) W' → IntsAt W' b zs.length zs) := Lib.hid (fun W' hW => (HXr8.out.keep hW).2)
          have HIx : Hid (∀ W' : World, Below (putR v7 n bw lx.length cy).heap.size (putR v7 n bw lx.length cy) W' → IntsAt W' xa x.length x) := Lib.hid (fun W' hW => (HXx8.out.keep hW).2)
          have HIf : Hid (∀ W' : World, Below (putR v7 n bw lx.length cy).heap.size (putR v7 n bw lx.length cy) W' → IntsAt W' bf x.length x) := Lib.hid (fun W' hW => (HXf8.out.keep hW).2)
          have HIo : Hid (∀ W' : World, Below (putR v7 n bw lx.length cy).heap.size (putR v7 n bw lx.length cy) W' → IntsAt W' bo lo.length lo) := Lib.hid (fun W' hW => (HXo8.out.keep hW).2)
          have HIy : Hid (∀ W' : World, Below (putR v7 n bw lx.length cy).heap.size (putR v7 n bw lx.length cy) W' → IntsAt W' bw lx.length lx) := Lib.hid (fun W' hW => (HXy8.out.keep hW).2)
          refine wp_region_held_drew (S := fun W' => W'.cell? ⟨w1.heap.size, 0, none⟩ = some (.int .i64 (n : Nat)) ∧ W'.cell? ⟨w1.heap.size, 1, none⟩ = some (.slice b zs.length c) ∧ W'.cell? ⟨wr.heap.size, 0, none⟩ = some (.int .i64 (n : Nat)) ∧ W'.cell? ⟨wr.heap.size, 1, none⟩ = some (.slice xa x.length xc) ∧ W'.cell? ⟨v3.heap.size, 0, none⟩ = some (.int .i64 (n : Nat)) ∧ W'.cell? ⟨v3.heap.size, 1, none⟩ = some (.slice bf x.length cf) ∧ W'.cell? ⟨v5.heap.size, 0, none⟩ = some (.int .i64 (n : Nat)) ∧ W'.cell? ⟨v5.heap.size, 1, none⟩ = some (.slice bo lo.length co) ∧ W'.cell? ⟨v7.heap.size, 0, none⟩ = some (.int .i64 (n : Nat)) ∧ W'.cell? ⟨v7.heap.size, 1, none⟩ = some (.slice bw lx.length cy) ∧ Below (putR v7 n bw lx.length cy).heap.size (putR v7 n bw lx.length cy) W') (by kernel_rfl) (HK.out _ (Below.refl _ _).drew) (fun hSS0 => ?_)
          refine wpAnyH_take (i := 0) (oi := ⟨some 48, _, _, _, _, _⟩) (v := .agg #[.int .i64 (n : Nat), .slice b zs.length c]) rfl (by kernel_rfl) (by kernel_rfl) (by kernel_rfl) (fun _ _ _ h => h) (Or.inl ⟨by rfl, fun w hSw => by obtain ⟨q1, q2, _⟩ := hSw; go_simp⟩) (by assumption) ?_
          try simp only [Act.put, List.setIfInBounds_toArray, List.set_cons_zero, List.set_cons_succ]
          refine wpAnyH_take (i := 1) (oi := ⟨some 49, _, _, _, _, _⟩) (v := .agg #[.int .i64 (n : Nat), .slice xa x.length xc]) rfl (by kernel_rfl) (by kernel_rfl) (by kernel_rfl) (fun _ _ _ h => h) (Or.inl ⟨by rfl, fun w hSw => by obtain ⟨_, _, q1, q2, _⟩ := hSw; go_simp⟩) (by assumption) ?_
          try simp only [Act.put, List.setIfInBounds_toArray, List.set_cons_zero, List.set_cons_succ]
          refine wpAnyH_ready (rs := [2]) (by kernel_rfl) (by simp) ?_
          refine AllReadyH.cons rfl (fun K hKK => ?_) AllReadyH.nil
          go_simp
          go_at_call 26
          refine (v_tw_yes n b c zs xa xc x _ (HIr.out _ (Below.refl _ _).drew) (HIx.out _ (Below.refl _ _).drew) HO.out HOx.out HXV.out.symm HXN.out).mono ?_
          rintro e wk1 ⟨rfl, hc1⟩
          have hbb1 : Below (putR v7 n bw lx.length cy).heap.size (putR v7 n bw lx.length cy) wk1 := (Below.refl _ _).drew.trans hc1
          clear hc1
          refine hKK.out _ _ (HK.out _ hbb1) (fun hSS1 => ?_)
          clear hKK K hSS0
          try simp only [Act.put, List.setIfInBounds_toArray, List.set_cons_zero, List.set_cons_succ]
          refine wpAnyH_take (i := 3) (oi := ⟨some 51, _, _, _, _, _⟩) (v := .bool false) rfl (by kernel_rfl) (by kernel_rfl) (by kernel_rfl) (fun _ _ _ h => h) (Or.inl ⟨by rfl, fun w hSw => by go_simp⟩) (by assumption) ?_
          try simp only [Act.put, List.setIfInBounds_toArray, List.set_cons_zero, List.set_cons_succ]
          refine wpAnyH_take (i := 4) (oi := ⟨some 52, _, _, _, _, _⟩) (v := .bool false) rfl (by kernel_rfl) (by kernel_rfl) (by kernel_rfl) (fun _ _ _ h => h) (Or.inl ⟨by rfl, fun w hSw => by go_simp⟩) (by assumption) ?_
          try simp only [Act.put, List.setIfInBounds_toArray, List.set_cons_zero, List.set_cons_succ]
          refine wpAnyH_take (i := 5) (oi := ⟨some 53, _, _, _, _, _⟩) (v := .agg #[.int .i64 (n : Nat), .slice xa x.length xc]) rfl (by kernel_rfl) (by kernel_rfl) (by kernel_rfl) (fun _ _ _ h => h) (Or.inl ⟨by rfl, fun w hSw => by obtain ⟨_, _, q1, q2, _⟩ := hSw; go_simp⟩) (by assumption) ?_
          try simp only [Act.put, List.setIfInBounds_toArray, List.set_cons_zero, List.set_cons_succ]
          refine wpAnyH_take (i := 6) (oi := ⟨some 54, _, _, _, _, _⟩) (v := .agg #[.int .i64 (n : Nat), .slice b zs.length c]) rfl (by kernel_rfl) (by kernel_rfl) (by kernel_rfl) (fun _ _ _ h => h) (Or.inl ⟨by rfl, fun w hSw => by obtain ⟨q1, q2, _⟩ := hSw; go_simp⟩) (by assumption) ?_
          try simp only [Act.put, List.setIfInBounds_toArray, List.set_cons_zero, List.set_cons_succ]
          refine wpAnyH_ready (rs := [7]) (by kernel_rfl) (by simp) ?_
          refine AllReadyH.cons rfl (fun K hKK => ?_) AllReadyH.nil
          go_simp
          go_at_call 26
          refine (v_tw_yes n xa xc x b c zs _ (HIx.out _ hbb1) (HIr.out _ hbb1) HOx.out HO.out HXV.out HXM.out).mono ?_
          rintro e wk2 ⟨rfl, hc2⟩
          have hbb2 : Below (putR v7 n bw lx.length cy).heap.size (putR v7 n bw lx.length cy) wk2 := hbb1.trans (hc2.mono hbb1.size)
          clear hc2
          refine hKK.out _ _ (HK.out _ hbb2) (fun hSS2 => ?_)
          clear hKK K hbb1 hSS1
          try simp only [Act.put, List.setIfInBounds_toArray, List.set_cons_zero, List.set_cons_succ]
          refine wpAnyH_take (i := 8) (oi := ⟨some 56, _, _, _, _, _⟩) (v := .bool false) rfl (by kernel_rfl) (by kernel_rfl) (by kernel_rfl) (fun _ _ _ h => h) (Or.inl ⟨by rfl, fun w hSw => by go_simp⟩) (by assumption) ?_
          try simp only [Act.put, List.setIfInBounds_toArray, List.set_cons_zero, List.set_cons_succ]
          refine wpAnyH_take (i := 9) (oi := ⟨some 57, _, _, _, _, _⟩) (v := .bool false) rfl (by kernel_rfl) (by kernel_rfl) (by kernel_rfl) (fun _ _ _ h => h) (Or.inl ⟨by rfl, fun w hSw => by go_simp⟩) (by assumption) ?_
          try simp only [Act.put, List.setIfInBounds_toArray, List.set_cons_zero, List.set_cons_succ]
          refine wpAnyH_take (i := 10) (oi := ⟨some 58, _, _, _, _, _⟩) (v := .bool false) rfl (by kernel_rfl) (by kernel_rfl) (by kernel_rfl) (fun _ _ _ h => h) (Or.inl ⟨by rfl, fun w hSw => by go_simp⟩) (by assumption) ?_
          try simp only [Act.put, List.setIfInBounds_toArray, List.set_cons_zero, List.set_cons_succ]
          refine wpAnyH_take (i := 11) (oi := ⟨some 59, _, _, _, _, _⟩) (v := .bool true) rfl (by kernel_rfl) (by kernel_rfl) (by kernel_rfl) (fun _ _ _ h => h) (Or.inl ⟨by rfl, fun w hSw => by go_simp⟩) (by assumption) ?_
          try simp only [Act.put, List.setIfInBounds_toArray, List.set_cons_zero, List.set_cons_succ]
          refine wpAnyH_take (i := 12) (oi := ⟨some 60, _, _, _, _, _⟩) (v := .bool false) rfl (by kernel_rfl) (by kernel_rfl) (by kernel_rfl) (fun _ _ _ h => h) (Or.inl ⟨by rfl, fun w hSw => by go_simp⟩) (by assumption) ?_
          try simp only [Act.put, List.setIfInBounds_toArray, List.set_cons_zero, List.set_cons_succ]
          refine wpAnyH_take (i := 13) (oi := ⟨some 61, _, _, _, _, _⟩) (v := .bool false) rfl (by kernel_rfl) (by kernel_rfl) (by kernel_rfl) (fun _ _ _ h => h) (Or.inl ⟨by rfl, fun w hSw => by go_simp⟩) (by assumption) ?_
          try simp only [Act.put, List.setIfInBounds_toArray, List.set_cons_zero, List.set_cons_succ]
          refine wpAnyH_take (i := 14) (oi := ⟨some 62, _, _, _, _, _⟩) (v := .bool false) rfl (by kernel_rfl) (by kernel_rfl) (by kernel_rfl) (fun _ _ _ h => h) (Or.inl ⟨by rfl, fun w hSw => by go_simp⟩) (by assumption) ?_
          try simp only [Act.put, List.setIfInBounds_toArray, List.set_cons_zero, List.set_cons_succ]
          refine wpAnyH_take (i := 15) (oi := ⟨some 63, _, _, _, _, _⟩) (v := .agg #[.int .i64 (n : Nat), .slice bf x.length cf]) rfl (by kernel_rfl) (by kernel_rfl) (by kernel_rfl) (fun _ _ _ h => h) (Or.inl ⟨by rfl, fun w hSw => by obtain ⟨_, _, _, _, q1, q2, _⟩ := hSw; go_simp⟩) (by assumption) ?_
          try simp only [Act.put, List.setIfInBounds_toArray, List.set_cons_zero, List.set_cons_succ]
          refine wpAnyH_take (i := 16) (oi := ⟨some 64, _, _, _, _, _⟩) (v := .agg #[.int .i64 (n : Nat), .slice xa x.length xc]) rfl (by kernel_rfl) (by kernel_rfl) (by kernel_rfl) (fun _ _ _ h => h) (Or.inl ⟨by rfl, fun w hSw => by obtain ⟨_, _, q1, q2, _⟩ := hSw; go_simp⟩) (by assumption) ?_
          try simp only [Act.put, List.setIfInBounds_toArray, List.set_cons_zero, List.set_cons_succ]
          refine wpAnyH_ready (rs := [17]) (by kernel_rfl) (by simp) ?_
          refine AllReadyH.cons rfl (fun K hKK => ?_) AllReadyH.nil
          go_simp
          go_at_call 15
          refine (rhythms_law n bf xa cf xc x _ (HIf.out _ hbb2) (HIx.out _ hbb2) (by have := ok_len HOx.out; omega)).mono ?_
          rintro e wk3 ⟨rfl, hc3⟩
          have hbb3 : Below (putR v7 n bw lx.length cy).heap.size (putR v7 n bw lx.length cy) wk3 := hbb2.trans (hc3.mono hbb2.size)
          clear hc3
          refine hKK.out _ _ (HK.out _ hbb3) (fun hSS3 => ?_)
          clear hKK K hbb2 hSS2
          try simp only [Act.put, List.setIfInBounds_toArray, List.set_cons_zero, List.set_cons_succ]
          refine wpAnyH_take (i := 18) (oi := ⟨some 66, _, _, _, _, _⟩) (v := .bool false) rfl (by kernel_rfl) (by kernel_rfl) (by kernel_rfl) (fun _ _ _ h => h) (Or.inl ⟨by rfl, fun w hSw => by go_simp⟩) (by assumption) ?_
          try simp only [Act.put, List.setIfInBounds_toArray, List.set_cons_zero, List.set_cons_succ]
          refine wpAnyH_take (i := 19) (oi := ⟨some 67, _, _, _, _, _⟩) (v := .bool false) rfl (by kernel_rfl) (by kernel_rfl) (by kernel_rfl) (fun _ _ _ h => h) (Or.inl ⟨by rfl, fun w hSw => by go_simp⟩) (by assumption) ?_
          try simp only [Act.put, List.setIfInBounds_toArray, List.set_cons_zero, List.set_cons_succ]
          refine wpAnyH_take (i := 20) (oi := ⟨some 68, _, _, _, _, _⟩) (v := .bool false) rfl (by kernel_rfl) (by kernel_rfl) (by kernel_rfl) (fun _ _ _ h => h) (Or.inl ⟨by rfl, fun w hSw => by go_simp⟩) (by assumption) ?_
          try simp only [Act.put, List.setIfInBounds_toArray, List.set_cons_zero, List.set_cons_succ]
          refine wpAnyH_take (i := 21) (oi := ⟨some 69, _, _, _, _, _⟩) (v := .agg #[.int .i64 (n : Nat), .slice b zs.length c]) rfl (by kernel_rfl) (by kernel_rfl) (by kernel_rfl) (fun _ _ _ h => h) (Or.inl ⟨by rfl, fun w hSw => by obtain ⟨q1, q2, _⟩ := hSw; go_simp⟩) (by assumption) ?_
          try simp only [Act.put, List.setIfInBounds_toArray, List.set_cons_zero, List.set_cons_succ]
          refine wpAnyH_take (i := 22) (oi := ⟨some 70, _, _, _, _, _⟩) (v := .agg #[.int .i64 (n : Nat), .slice xa x.length xc]) rfl (by kernel_rfl) (by kernel_rfl) (by kernel_rfl) (fun _ _ _ h => h) (Or.inl ⟨by rfl, fun w hSw => by obtain ⟨_, _, q1, q2, _⟩ := hSw; go_simp⟩) (by assumption) ?_
          try simp only [Act.put, List.setIfInBounds_toArray, List.set_cons_zero, List.set_cons_succ]
          refine wpAnyH_ready (rs := [23]) (by kernel_rfl) (by simp) ?_
          refine AllReadyH.cons rfl (fun K hKK => ?_) AllReadyH.nil
          go_simp
          go_at_call 27
          refine (v_afor_no n b c zs xa xc x _ (HIr.out _ hbb3) (HIx.out _ hbb3) HO.out HOx.out HXN.out).mono ?_
          rintro e wk4 ⟨rfl, hc4⟩
          have hbb4 : Below (putR v7 n bw lx.length cy).heap.size (putR v7 n bw lx.length cy) wk4 := hbb3.trans (hc4.mono hbb3.size)
          clear hc4
          refine hKK.out _ _ (HK.out _ hbb4) (fun hSS4 => ?_)
          clear hKK K hbb3 hSS3
          try simp only [Act.put, List.setIfInBounds_toArray, List.set_cons_zero, List.set_cons_succ]
          refine wpAnyH_take (i := 24) (oi := ⟨some 72, _, _, _, _, _⟩) (v := .bool false) rfl (by kernel_rfl) (by kernel_rfl) (by kernel_rfl) (fun _ _ _ h => h) (Or.inl ⟨by rfl, fun w hSw => by go_simp⟩) (by assumption) ?_
          try simp only [Act.put, List.setIfInBounds_toArray, List.set_cons_zero, List.set_cons_succ]
          refine wpAnyH_take (i := 25) (oi := ⟨some 73, _, _, _, _, _⟩) (v := .bool false) rfl (by kernel_rfl) (by kernel_rfl) (by kernel_rfl) (fun _ _ _ h => h) (Or.inl ⟨by rfl, fun w hSw => by go_simp⟩) (by assumption) ?_
          try simp only [Act.put, List.setIfInBounds_toArray, List.set_cons_zero, List.set_cons_succ]
          refine wpAnyH_take (i := 26) (oi := ⟨some 74, _, _, _, _, _⟩) (v := .agg #[.int .i64 (n : Nat), .slice bo lo.length co]) rfl (by kernel_rfl) (by kernel_rfl) (by kernel_rfl) (fun _ _ _ h => h) (Or.inl ⟨by rfl, fun w hSw => by obtain ⟨_, _, _, _, _, _, q1, q2, _⟩ := hSw; go_simp⟩) (by assumption) ?_
          try simp only [Act.put, List.setIfInBounds_toArray, List.set_cons_zero, List.set_cons_succ]
          refine wpAnyH_take (i := 27) (oi := ⟨some 75, _, _, _, _, _⟩) (v := .agg #[.int .i64 (n : Nat), .slice bw lx.length cy]) rfl (by kernel_rfl) (by kernel_rfl) (by kernel_rfl) (fun _ _ _ h => h) (Or.inl ⟨by rfl, fun w hSw => by obtain ⟨_, _, _, _, _, _, _, _, q1, q2, _⟩ := hSw; go_simp⟩) (by assumption) ?_
          try simp only [Act.put, List.setIfInBounds_toArray, List.set_cons_zero, List.set_cons_succ]
          refine wpAnyH_ready (rs := [28]) (by kernel_rfl) (by simp) ?_
          refine AllReadyH.cons rfl (fun K hKK => ?_) AllReadyH.nil
          go_simp
          go_at_call 26
          refine (v_tw_yes n bo co lo bw cy lx _ (HIo.out _ hbb4) (HIy.out _ hbb4) HOo.out HOy.out HYV.out HYN.out).mono ?_
          rintro e wk5 ⟨rfl, hc5⟩
          have hbb5 : Below (putR v7 n bw lx.length cy).heap.size (putR v7 n bw lx.length cy) wk5 := hbb4.trans (hc5.mono hbb4.size)
          clear hc5
          refine hKK.out _ _ (HK.out _ hbb5) (fun hSS5 => ?_)
          clear hKK K hbb4 hSS4
          try simp only [Act.put, List.setIfInBounds_toArray, List.set_cons_zero, List.set_cons_succ]
          refine wpAnyH_take (i := 29) (oi := ⟨some 77, _, _, _, _, _⟩) (v := .bool false) rfl (by kernel_rfl) (by kernel_rfl) (by kernel_rfl) (fun _ _ _ h => h) (Or.inl ⟨by rfl, fun w hSw => by go_simp⟩) (by assumption) ?_
          try simp only [Act.put, List.setIfInBounds_toArray, List.set_cons_zero, List.set_cons_succ]
          refine wpAnyH_take (i := 30) (oi := ⟨some 78, _, _, _, _, _⟩) (v := .bool false) rfl (by kernel_rfl) (by kernel_rfl) (by kernel_rfl) (fun _ _ _ h => h) (Or.inl ⟨by rfl, fun w hSw => by go_simp⟩) (by assumption) ?_
          try simp only [Act.put, List.setIfInBounds_toArray, List.set_cons_zero, List.set_cons_succ]
          refine wpAnyH_take (i := 31) (oi := ⟨some 79, _, _, _, _, _⟩) (v := .bool false) rfl (by kernel_rfl) (by kernel_rfl) (by kernel_rfl) (fun _ _ _ h => h) (Or.inl ⟨by rfl, fun w hSw => by go_simp⟩) (by assumption) ?_
          try simp only [Act.put, List.setIfInBounds_toArray, List.set_cons_zero, List.set_cons_succ]
          refine wpAnyH_take (i := 32) (oi := ⟨some 80, _, _, _, _, _⟩) (v := .int .i64 p) rfl (by kernel_rfl) (by kernel_rfl) (by kernel_rfl) (fun _ _ _ h => h) (Or.inl ⟨by rfl, fun w hSw => by go_simp⟩) (by assumption) ?_
          try simp only [Act.put, List.setIfInBounds_toArray, List.set_cons_zero, List.set_cons_succ]
          refine wpAnyH_take (i := 33) (oi := ⟨some 81, _, _, _, _, _⟩) (v := .bool false) rfl (by kernel_rfl) (by kernel_rfl) (by kernel_rfl) (fun _ _ _ h => h) (Or.inl ⟨by rfl, fun w hSw => by have h9 := HPZ.out; first | (go_simp; done) | (go_simp; omega)⟩) (by assumption) ?_
          try simp only [Act.put, List.setIfInBounds_toArray, List.set_cons_zero, List.set_cons_succ]
          refine wpAnyH_take (i := 34) (oi := ⟨some 82, _, _, _, _, _⟩) (v := .bool false) rfl (by kernel_rfl) (by kernel_rfl) (by kernel_rfl) (fun _ _ _ h => h) (Or.inl ⟨by rfl, fun w hSw => by go_simp⟩) (by assumption) ?_
          try simp only [Act.put, List.setIfInBounds_toArray, List.set_cons_zero, List.set_cons_succ]
          refine wpAnyH_take (i := 35) (oi := ⟨some 83, _, _, _, _, _⟩) (v := undef) rfl (by kernel_rfl) (by kernel_rfl) (by kernel_rfl) (fun _ _ _ h => h) (Or.inr ⟨by rfl, rfl⟩) (by assumption) ?_
          try simp only [Act.put, List.setIfInBounds_toArray, List.set_cons_zero, List.set_cons_succ]
          refine wpAnyH_take (i := 36) (oi := ⟨some 84, _, _, _, _, _⟩) (v := undef) rfl (by kernel_rfl) (by kernel_rfl) (by kernel_rfl) (fun _ _ _ h => h) (Or.inr ⟨by rfl, rfl⟩) (by assumption) ?_
          try simp only [Act.put, List.setIfInBounds_toArray, List.set_cons_zero, List.set_cons_succ]
          refine wpAnyH_take (i := 37) (oi := ⟨some 85, _, _, _, _, _⟩) (v := undef) rfl (by kernel_rfl) (by kernel_rfl) (by kernel_rfl) (fun _ _ _ h => h) (Or.inr ⟨by rfl, rfl⟩) (by assumption) ?_
          try simp only [Act.put, List.setIfInBounds_toArray, List.set_cons_zero, List.set_cons_succ]
          refine wpAnyH_take (i := 38) (oi := ⟨some 86, _, _, _, _, _⟩) (v := undef) rfl (by kernel_rfl) (by kernel_rfl) (by kernel_rfl) (fun _ _ _ h => h) (Or.inr ⟨by rfl, rfl⟩) (by assumption) ?_
          try simp only [Act.put, List.setIfInBounds_toArray, List.set_cons_zero, List.set_cons_succ]
          refine wpAnyH_take (i := 39) (oi := ⟨some 87, _, _, _, _, _⟩) (v := undef) rfl (by kernel_rfl) (by kernel_rfl) (by kernel_rfl) (fun _ _ _ h => h) (Or.inr ⟨by rfl, rfl⟩) (by assumption) ?_
          try simp only [Act.put, List.setIfInBounds_toArray, List.set_cons_zero, List.set_cons_succ]
          refine wpAnyH_take (i := 40) (oi := ⟨some 88, _, _, _, _, _⟩) (v := undef) rfl (by kernel_rfl) (by kernel_rfl) (by kernel_rfl) (fun _ _ _ h => h) (Or.inr ⟨by rfl, rfl⟩) (by assumption) ?_
          try simp only [Act.put, List.setIfInBounds_toArray, List.set_cons_zero, List.set_cons_succ]
          refine wpAnyH_take (i := 41) (oi := ⟨some 89, _, _, _, _, _⟩) (v := undef) rfl (by kernel_rfl) (by kernel_rfl) (by kernel_rfl) (fun _ _ _ h => h) (Or.inr ⟨by rfl, rfl⟩) (by assumption) ?_
          try simp only [Act.put, List.setIfInBounds_toArray, List.set_cons_zero, List.set_cons_succ]
          refine wpAnyH_take (i := 42) (oi := ⟨some 90, _, _, _, _, _⟩) (v := undef) rfl (by kernel_rfl) (by kernel_rfl) (by kernel_rfl) (fun _ _ _ h => h) (Or.inr ⟨by rfl, rfl⟩) (by assumption) ?_
          try simp only [Act.put, List.setIfInBounds_toArray, List.set_cons_zero, List.set_cons_succ]
          refine wpAnyH_take (i := 43) (oi := ⟨some 91, _, _, _, _, _⟩) (v := undef) rfl (by kernel_rfl) (by kernel_rfl) (by kernel_rfl) (fun _ _ _ h => h) (Or.inr ⟨by rfl, rfl⟩) (by assumption) ?_
          try simp only [Act.put, List.setIfInBounds_toArray, List.set_cons_zero, List.set_cons_succ]
          refine wpAnyH_take (i := 44) (oi := ⟨some 92, _, _, _, _, _⟩) (v := .bool false) rfl (by kernel_rfl) (by kernel_rfl) (by kernel_rfl) (fun _ _ _ h => h) (Or.inl ⟨by rfl, fun w hSw => by go_simp⟩) (by assumption) ?_
          try simp only [Act.put, List.setIfInBounds_toArray, List.set_cons_zero, List.set_cons_succ]
          refine wpAnyH_take (i := 45) (oi := ⟨some 93, _, _, _, _, _⟩) (v := .bool false) rfl (by kernel_rfl) (by kernel_rfl) (by kernel_rfl) (fun _ _ _ h => h) (Or.inl ⟨by rfl, fun w hSw => by go_simp⟩) (by assumption) ?_
          try simp only [Act.put, List.setIfInBounds_toArray, List.set_cons_zero, List.set_cons_succ]
          refine wpAnyH_done (by kernel_rfl) ?_ _
          clear HK
          clear HIr HIx HIf HIo HIy hSS5
          have hb := hbb5
          clear hbb5
          have HXr9 := Lib.hid (HXr8.out.keep hb)
          clear HXr8
          have HXx9 := Lib.hid (HXx8.out.keep hb)
          clear HXx8
          have HXf9 := Lib.hid (HXf8.out.keep hb)
          clear HXf8
          have HXo9 := Lib.hid (HXo8.out.keep hb)
          clear HXo8
          have HXy9 := Lib.hid (HXy8.out.keep hb)
          clear HXy8
          have HLT9 := Lib.hid (HLT8.out.below hb)
          clear HLT8
          have HB9x := Lib.hid (show Below w.heap.size w wk5 from HB8x.out.trans (hb.mono HB8x.out.size))
          clear HB8x hb
          go_wp2
          go_roundw
          case rel => exact ⟨p + 1, by omega, by go_num, HB9x.out, HXr9.out, HLT9.out⟩
          case measure => simp [intOf]; omega
        · obtain ⟨p', hpp⟩ : ∃ p' : Nat, p = p' + 1 := ⟨p - 1, by omega⟩
          have HPZ := Lib.hid hpp
          obtain ⟨⟨ys, ya, yc, y⟩, hr0⟩ : ∃ r, L[p']? = some r := ⟨_, List.getElem?_eq_getElem (by have := HLQ.out; omega)⟩
          obtain ⟨hs, hyp⟩ := tw_item HO.out HVL.out hr0
          have hit := HLT8.out
          simp only at hs hyp
          subst hs
          have HOz : Hid (Ok n y) := Lib.hid (tw_facts HO.out (List.mem_of_getElem? hyp)).1
          have HVAL : Hid (valB n x < valB n y) := Lib.hid (tw_two hyp (by rw [← hpp]; exact HXP.out))
          have HC : Hid (∀ W' : World, Below (putR v7 n bw lx.length cy).heap.size (putR v7 n bw lx.length cy) W' → W'.cell? ⟨g, o + p' * 2, none⟩ = some (.int .i64 n) ∧ W'.cell? ⟨g, o + p' * 2 + 1, none⟩ = some (.slice ya y.length yc) ∧ IntsAt W' ya y.length y) := Lib.hid (fun W' hW => item_at (hit.below hW) hr0)
          obtain ⟨tA, htA⟩ : ∃ t, fmtT n y = t := ⟨_, rfl⟩
          have HTA := Lib.hid htA
          obtain ⟨tB, htB⟩ : ∃ t, fmtT n x = t := ⟨_, rfl⟩
          have HTB := Lib.hid htB
          have HLEQ := Lib.hid (leq_no htA htB HVAL.out)
          clear hr0 hyp hit hpp hpz htA htB
          go_upto_region 11 with fail
          have HK : Hid (∀ W' : World, Below (putR v7 n bw lx.length cy).heap.size (putR v7 n bw lx.length cy) W' → W'.cell? ⟨w1.heap.size, 0, none⟩ = some (.int .i64 (n : Nat)) ∧ W'.cell? ⟨w1.heap.size, 1, none⟩ = some (.slice b zs.length c) ∧ W'.cell? ⟨wr.heap.size, 0, none⟩ = some (.int .i64 (n : Nat)) ∧ W'.cell? ⟨wr.heap.size, 1, none⟩ = some (.slice xa x.length xc) ∧ W'.cell? ⟨v3.heap.size, 0, none⟩ = some (.int .i64 (n : Nat)) ∧ W'.cell? ⟨v3.heap.size, 1, none⟩ = some (.slice bf x.length cf) ∧ W'.cell? ⟨v5.heap.size, 0, none⟩ = some (.int .i64 (n : Nat)) ∧ W'.cell? ⟨v5.heap.size, 1, none⟩ = some (.slice bo lo.length co) ∧ W'.cell? ⟨v7.heap.size, 0, none⟩ = some (.int .i64 (n : Nat)) ∧ W'.cell? ⟨v7.heap.size, 1, none⟩ = some (.slice bw lx.length cy) ∧ W'.cell? ⟨g, o + p' * 2, none⟩ = some (.int .i64 n) ∧ W'.cell? ⟨g, o + p' * 2 + 1, none⟩ = some (.slice ya y.length yc) ∧ Below (putR v7 n bw lx.length cy).heap.size (putR v7 n bw lx.length cy) W') :=
            Lib.hid (fun W' hW => ⟨(HXr8.out.keep hW).1.facts.1, (HXr8.out.keep hW).1.facts.2.1, (HXx8.out.keep hW).1.facts.1, (HXx8.out.keep hW).1.facts.2.1, (HXf8.out.keep hW).1.facts.1, (HXf8.out.keep hW).1.facts.2.1, (HXo8.out.keep hW).1.facts.1, (HXo8.out.keep hW).1.facts.2.1, (HXy8.out.keep hW).1.facts.1, (HXy8.out.keep hW).1.facts.2.1, (HC.out W' hW).1, (HC.out W' hW).2.1, hW⟩)
          have HIr : Hid (∀ W' : World, Below (putR v7 n bw lx.length cy).heap.size (putR v7 n bw lx.length cy) W' → IntsAt W' b zs.length zs) := Lib.hid (fun W' hW => (HXr8.out.keep hW).2)
          have HIx : Hid (∀ W' : World, Below (putR v7 n bw lx.length cy).heap.size (putR v7 n bw lx.length cy) W' → IntsAt W' xa x.length x) := Lib.hid (fun W' hW => (HXx8.out.keep hW).2)
          have HIf : Hid (∀ W' : World, Below (putR v7 n bw lx.length cy).heap.size (putR v7 n bw lx.length cy) W' → IntsAt W' bf x.length x) := Lib.hid (fun W' hW => (HXf8.out.keep hW).2)
          have HIo : Hid (∀ W' : World, Below (putR v7 n bw lx.length cy).heap.size (putR v7 n bw lx.length cy) W' → IntsAt W' bo lo.length lo) := Lib.hid (fun W' hW => (HXo8.out.keep hW).2)
          have HIy : Hid (∀ W' : World, Below (putR v7 n bw lx.length cy).heap.size (putR v7 n bw lx.length cy) W' → IntsAt W' bw lx.length lx) := Lib.hid (fun W' hW => (HXy8.out.keep hW).2)
          refine wp_region_held_drew (S := fun W' => W'.cell? ⟨w1.heap.size, 0, none⟩ = some (.int .i64 (n : Nat)) ∧ W'.cell? ⟨w1.heap.size, 1, none⟩ = some (.slice b zs.length c) ∧ W'.cell? ⟨wr.heap.size, 0, none⟩ = some (.int .i64 (n : Nat)) ∧ W'.cell? ⟨wr.heap.size, 1, none⟩ = some (.slice xa x.length xc) ∧ W'.cell? ⟨v3.heap.size, 0, none⟩ = some (.int .i64 (n : Nat)) ∧ W'.cell? ⟨v3.heap.size, 1, none⟩ = some (.slice bf x.length cf) ∧ W'.cell? ⟨v5.heap.size, 0, none⟩ = some (.int .i64 (n : Nat)) ∧ W'.cell? ⟨v5.heap.size, 1, none⟩ = some (.slice bo lo.length co) ∧ W'.cell? ⟨v7.heap.size, 0, none⟩ = some (.int .i64 (n : Nat)) ∧ W'.cell? ⟨v7.heap.size, 1, none⟩ = some (.slice bw lx.length cy) ∧ W'.cell? ⟨g, o + p' * 2, none⟩ = some (.int .i64 n) ∧ W'.cell? ⟨g, o + p' * 2 + 1, none⟩ = some (.slice ya y.length yc) ∧ Below (putR v7 n bw lx.length cy).heap.size (putR v7 n bw lx.length cy) W') (by kernel_rfl) (HK.out _ (Below.refl _ _).drew) (fun hSS0 => ?_)
          refine wpAnyH_take (i := 0) (oi := ⟨some 48, _, _, _, _, _⟩) (v := .agg #[.int .i64 (n : Nat), .slice b zs.length c]) rfl (by kernel_rfl) (by kernel_rfl) (by kernel_rfl) (fun _ _ _ h => h) (Or.inl ⟨by rfl, fun w hSw => by obtain ⟨q1, q2, _⟩ := hSw; go_simp⟩) (by assumption) ?_
          try simp only [Act.put, List.setIfInBounds_toArray, List.set_cons_zero, List.set_cons_succ]
          refine wpAnyH_take (i := 1) (oi := ⟨some 49, _, _, _, _, _⟩) (v := .agg #[.int .i64 (n : Nat), .slice xa x.length xc]) rfl (by kernel_rfl) (by kernel_rfl) (by kernel_rfl) (fun _ _ _ h => h) (Or.inl ⟨by rfl, fun w hSw => by obtain ⟨_, _, q1, q2, _⟩ := hSw; go_simp⟩) (by assumption) ?_
          try simp only [Act.put, List.setIfInBounds_toArray, List.set_cons_zero, List.set_cons_succ]
          refine wpAnyH_ready (rs := [2]) (by kernel_rfl) (by simp) ?_
          refine AllReadyH.cons rfl (fun K hKK => ?_) AllReadyH.nil
          go_simp
          go_at_call 26
          refine (v_tw_yes n b c zs xa xc x _ (HIr.out _ (Below.refl _ _).drew) (HIx.out _ (Below.refl _ _).drew) HO.out HOx.out HXV.out.symm HXN.out).mono ?_
          rintro e wk1 ⟨rfl, hc1⟩
          have hbb1 : Below (putR v7 n bw lx.length cy).heap.size (putR v7 n bw lx.length cy) wk1 := (Below.refl _ _).drew.trans hc1
          clear hc1
          refine hKK.out _ _ (HK.out _ hbb1) (fun hSS1 => ?_)
          clear hKK K hSS0
          try simp only [Act.put, List.setIfInBounds_toArray, List.set_cons_zero, List.set_cons_succ]
          refine wpAnyH_take (i := 3) (oi := ⟨some 51, _, _, _, _, _⟩) (v := .bool false) rfl (by kernel_rfl) (by kernel_rfl) (by kernel_rfl) (fun _ _ _ h => h) (Or.inl ⟨by rfl, fun w hSw => by go_simp⟩) (by assumption) ?_
          try simp only [Act.put, List.setIfInBounds_toArray, List.set_cons_zero, List.set_cons_succ]
          refine wpAnyH_take (i := 4) (oi := ⟨some 52, _, _, _, _, _⟩) (v := .bool false) rfl (by kernel_rfl) (by kernel_rfl) (by kernel_rfl) (fun _ _ _ h => h) (Or.inl ⟨by rfl, fun w hSw => by go_simp⟩) (by assumption) ?_
          try simp only [Act.put, List.setIfInBounds_toArray, List.set_cons_zero, List.set_cons_succ]
          refine wpAnyH_take (i := 5) (oi := ⟨some 53, _, _, _, _, _⟩) (v := .agg #[.int .i64 (n : Nat), .slice xa x.length xc]) rfl (by kernel_rfl) (by kernel_rfl) (by kernel_rfl) (fun _ _ _ h => h) (Or.inl ⟨by rfl, fun w hSw => by obtain ⟨_, _, q1, q2, _⟩ := hSw; go_simp⟩) (by assumption) ?_
          try simp only [Act.put, List.setIfInBounds_toArray, List.set_cons_zero, List.set_cons_succ]
          refine wpAnyH_take (i := 6) (oi := ⟨some 54, _, _, _, _, _⟩) (v := .agg #[.int .i64 (n : Nat), .slice b zs.length c]) rfl (by kernel_rfl) (by kernel_rfl) (by kernel_rfl) (fun _ _ _ h => h) (Or.inl ⟨by rfl, fun w hSw => by obtain ⟨q1, q2, _⟩ := hSw; go_simp⟩) (by assumption) ?_
          try simp only [Act.put, List.setIfInBounds_toArray, List.set_cons_zero, List.set_cons_succ]
          refine wpAnyH_ready (rs := [7]) (by kernel_rfl) (by simp) ?_
          refine AllReadyH.cons rfl (fun K hKK => ?_) AllReadyH.nil
          go_simp
          go_at_call 26
          refine (v_tw_yes n xa xc x b c zs _ (HIx.out _ hbb1) (HIr.out _ hbb1) HOx.out HO.out HXV.out HXM.out).mono ?_
          rintro e wk2 ⟨rfl, hc2⟩
          have hbb2 : Below (putR v7 n bw lx.length cy).heap.size (putR v7 n bw lx.length cy) wk2 := hbb1.trans (hc2.mono hbb1.size)
          clear hc2
          refine hKK.out _ _ (HK.out _ hbb2) (fun hSS2 => ?_)
          clear hKK K hbb1 hSS1
          try simp only [Act.put, List.setIfInBounds_toArray, List.set_cons_zero, List.set_cons_succ]
          refine wpAnyH_take (i := 8) (oi := ⟨some 56, _, _, _, _, _⟩) (v := .bool false) rfl (by kernel_rfl) (by kernel_rfl) (by kernel_rfl) (fun _ _ _ h => h) (Or.inl ⟨by rfl, fun w hSw => by go_simp⟩) (by assumption) ?_
          try simp only [Act.put, List.setIfInBounds_toArray, List.set_cons_zero, List.set_cons_succ]
          refine wpAnyH_take (i := 9) (oi := ⟨some 57, _, _, _, _, _⟩) (v := .bool false) rfl (by kernel_rfl) (by kernel_rfl) (by kernel_rfl) (fun _ _ _ h => h) (Or.inl ⟨by rfl, fun w hSw => by go_simp⟩) (by assumption) ?_
          try simp only [Act.put, List.setIfInBounds_toArray, List.set_cons_zero, List.set_cons_succ]
          refine wpAnyH_take (i := 10) (oi := ⟨some 58, _, _, _, _, _⟩) (v := .bool false) rfl (by kernel_rfl) (by kernel_rfl) (by kernel_rfl) (fun _ _ _ h => h) (Or.inl ⟨by rfl, fun w hSw => by go_simp⟩) (by assumption) ?_
          try simp only [Act.put, List.setIfInBounds_toArray, List.set_cons_zero, List.set_cons_succ]
          refine wpAnyH_take (i := 11) (oi := ⟨some 59, _, _, _, _, _⟩) (v := .bool true) rfl (by kernel_rfl) (by kernel_rfl) (by kernel_rfl) (fun _ _ _ h => h) (Or.inl ⟨by rfl, fun w hSw => by go_simp⟩) (by assumption) ?_
          try simp only [Act.put, List.setIfInBounds_toArray, List.set_cons_zero, List.set_cons_succ]
          refine wpAnyH_take (i := 12) (oi := ⟨some 60, _, _, _, _, _⟩) (v := .bool false) rfl (by kernel_rfl) (by kernel_rfl) (by kernel_rfl) (fun _ _ _ h => h) (Or.inl ⟨by rfl, fun w hSw => by go_simp⟩) (by assumption) ?_
          try simp only [Act.put, List.setIfInBounds_toArray, List.set_cons_zero, List.set_cons_succ]
          refine wpAnyH_take (i := 13) (oi := ⟨some 61, _, _, _, _, _⟩) (v := .bool false) rfl (by kernel_rfl) (by kernel_rfl) (by kernel_rfl) (fun _ _ _ h => h) (Or.inl ⟨by rfl, fun w hSw => by go_simp⟩) (by assumption) ?_
          try simp only [Act.put, List.setIfInBounds_toArray, List.set_cons_zero, List.set_cons_succ]
          refine wpAnyH_take (i := 14) (oi := ⟨some 62, _, _, _, _, _⟩) (v := .bool false) rfl (by kernel_rfl) (by kernel_rfl) (by kernel_rfl) (fun _ _ _ h => h) (Or.inl ⟨by rfl, fun w hSw => by go_simp⟩) (by assumption) ?_
          try simp only [Act.put, List.setIfInBounds_toArray, List.set_cons_zero, List.set_cons_succ]
          refine wpAnyH_take (i := 15) (oi := ⟨some 63, _, _, _, _, _⟩) (v := .agg #[.int .i64 (n : Nat), .slice bf x.length cf]) rfl (by kernel_rfl) (by kernel_rfl) (by kernel_rfl) (fun _ _ _ h => h) (Or.inl ⟨by rfl, fun w hSw => by obtain ⟨_, _, _, _, q1, q2, _⟩ := hSw; go_simp⟩) (by assumption) ?_
          try simp only [Act.put, List.setIfInBounds_toArray, List.set_cons_zero, List.set_cons_succ]
          refine wpAnyH_take (i := 16) (oi := ⟨some 64, _, _, _, _, _⟩) (v := .agg #[.int .i64 (n : Nat), .slice xa x.length xc]) rfl (by kernel_rfl) (by kernel_rfl) (by kernel_rfl) (fun _ _ _ h => h) (Or.inl ⟨by rfl, fun w hSw => by obtain ⟨_, _, q1, q2, _⟩ := hSw; go_simp⟩) (by assumption) ?_
          try simp only [Act.put, List.setIfInBounds_toArray, List.set_cons_zero, List.set_cons_succ]
          refine wpAnyH_ready (rs := [17]) (by kernel_rfl) (by simp) ?_
          refine AllReadyH.cons rfl (fun K hKK => ?_) AllReadyH.nil
          go_simp
          go_at_call 15
          refine (rhythms_law n bf xa cf xc x _ (HIf.out _ hbb2) (HIx.out _ hbb2) (by have := ok_len HOx.out; omega)).mono ?_
          rintro e wk3 ⟨rfl, hc3⟩
          have hbb3 : Below (putR v7 n bw lx.length cy).heap.size (putR v7 n bw lx.length cy) wk3 := hbb2.trans (hc3.mono hbb2.size)
          clear hc3
          refine hKK.out _ _ (HK.out _ hbb3) (fun hSS3 => ?_)
          clear hKK K hbb2 hSS2
          try simp only [Act.put, List.setIfInBounds_toArray, List.set_cons_zero, List.set_cons_succ]
          refine wpAnyH_take (i := 18) (oi := ⟨some 66, _, _, _, _, _⟩) (v := .bool false) rfl (by kernel_rfl) (by kernel_rfl) (by kernel_rfl) (fun _ _ _ h => h) (Or.inl ⟨by rfl, fun w hSw => by go_simp⟩) (by assumption) ?_
          try simp only [Act.put, List.setIfInBounds_toArray, List.set_cons_zero, List.set_cons_succ]
          refine wpAnyH_take (i := 19) (oi := ⟨some 67, _, _, _, _, _⟩) (v := .bool false) rfl (by kernel_rfl) (by kernel_rfl) (by kernel_rfl) (fun _ _ _ h => h) (Or.inl ⟨by rfl, fun w hSw => by go_simp⟩) (by assumption) ?_
          try simp only [Act.put, List.setIfInBounds_toArray, List.set_cons_zero, List.set_cons_succ]
          refine wpAnyH_take (i := 20) (oi := ⟨some 68, _, _, _, _, _⟩) (v := .bool false) rfl (by kernel_rfl) (by kernel_rfl) (by kernel_rfl) (fun _ _ _ h => h) (Or.inl ⟨by rfl, fun w hSw => by go_simp⟩) (by assumption) ?_
          try simp only [Act.put, List.setIfInBounds_toArray, List.set_cons_zero, List.set_cons_succ]
          refine wpAnyH_take (i := 21) (oi := ⟨some 69, _, _, _, _, _⟩) (v := .agg #[.int .i64 (n : Nat), .slice b zs.length c]) rfl (by kernel_rfl) (by kernel_rfl) (by kernel_rfl) (fun _ _ _ h => h) (Or.inl ⟨by rfl, fun w hSw => by obtain ⟨q1, q2, _⟩ := hSw; go_simp⟩) (by assumption) ?_
          try simp only [Act.put, List.setIfInBounds_toArray, List.set_cons_zero, List.set_cons_succ]
          refine wpAnyH_take (i := 22) (oi := ⟨some 70, _, _, _, _, _⟩) (v := .agg #[.int .i64 (n : Nat), .slice xa x.length xc]) rfl (by kernel_rfl) (by kernel_rfl) (by kernel_rfl) (fun _ _ _ h => h) (Or.inl ⟨by rfl, fun w hSw => by obtain ⟨_, _, q1, q2, _⟩ := hSw; go_simp⟩) (by assumption) ?_
          try simp only [Act.put, List.setIfInBounds_toArray, List.set_cons_zero, List.set_cons_succ]
          refine wpAnyH_ready (rs := [23]) (by kernel_rfl) (by simp) ?_
          refine AllReadyH.cons rfl (fun K hKK => ?_) AllReadyH.nil
          go_simp
          go_at_call 27
          refine (v_afor_no n b c zs xa xc x _ (HIr.out _ hbb3) (HIx.out _ hbb3) HO.out HOx.out HXN.out).mono ?_
          rintro e wk4 ⟨rfl, hc4⟩
          have hbb4 : Below (putR v7 n bw lx.length cy).heap.size (putR v7 n bw lx.length cy) wk4 := hbb3.trans (hc4.mono hbb3.size)
          clear hc4
          refine hKK.out _ _ (HK.out _ hbb4) (fun hSS4 => ?_)
          clear hKK K hbb3 hSS3
          try simp only [Act.put, List.setIfInBounds_toArray, List.set_cons_zero, List.set_cons_succ]
          refine wpAnyH_take (i := 24) (oi := ⟨some 72, _, _, _, _, _⟩) (v := .bool false) rfl (by kernel_rfl) (by kernel_rfl) (by kernel_rfl) (fun _ _ _ h => h) (Or.inl ⟨by rfl, fun w hSw => by go_simp⟩) (by assumption) ?_
          try simp only [Act.put, List.setIfInBounds_toArray, List.set_cons_zero, List.set_cons_succ]
          refine wpAnyH_take (i := 25) (oi := ⟨some 73, _, _, _, _, _⟩) (v := .bool false) rfl (by kernel_rfl) (by kernel_rfl) (by kernel_rfl) (fun _ _ _ h => h) (Or.inl ⟨by rfl, fun w hSw => by go_simp⟩) (by assumption) ?_
          try simp only [Act.put, List.setIfInBounds_toArray, List.set_cons_zero, List.set_cons_succ]
          refine wpAnyH_take (i := 26) (oi := ⟨some 74, _, _, _, _, _⟩) (v := .agg #[.int .i64 (n : Nat), .slice bo lo.length co]) rfl (by kernel_rfl) (by kernel_rfl) (by kernel_rfl) (fun _ _ _ h => h) (Or.inl ⟨by rfl, fun w hSw => by obtain ⟨_, _, _, _, _, _, q1, q2, _⟩ := hSw; go_simp⟩) (by assumption) ?_
          try simp only [Act.put, List.setIfInBounds_toArray, List.set_cons_zero, List.set_cons_succ]
          refine wpAnyH_take (i := 27) (oi := ⟨some 75, _, _, _, _, _⟩) (v := .agg #[.int .i64 (n : Nat), .slice bw lx.length cy]) rfl (by kernel_rfl) (by kernel_rfl) (by kernel_rfl) (fun _ _ _ h => h) (Or.inl ⟨by rfl, fun w hSw => by obtain ⟨_, _, _, _, _, _, _, _, q1, q2, _⟩ := hSw; go_simp⟩) (by assumption) ?_
          try simp only [Act.put, List.setIfInBounds_toArray, List.set_cons_zero, List.set_cons_succ]
          refine wpAnyH_ready (rs := [28]) (by kernel_rfl) (by simp) ?_
          refine AllReadyH.cons rfl (fun K hKK => ?_) AllReadyH.nil
          go_simp
          go_at_call 26
          refine (v_tw_yes n bo co lo bw cy lx _ (HIo.out _ hbb4) (HIy.out _ hbb4) HOo.out HOy.out HYV.out HYN.out).mono ?_
          rintro e wk5 ⟨rfl, hc5⟩
          have hbb5 : Below (putR v7 n bw lx.length cy).heap.size (putR v7 n bw lx.length cy) wk5 := hbb4.trans (hc5.mono hbb4.size)
          clear hc5
          refine hKK.out _ _ (HK.out _ hbb5) (fun hSS5 => ?_)
          clear hKK K hbb4 hSS4
          try simp only [Act.put, List.setIfInBounds_toArray, List.set_cons_zero, List.set_cons_succ]
          refine wpAnyH_take (i := 29) (oi := ⟨some 77, _, _, _, _, _⟩) (v := .bool false) rfl (by kernel_rfl) (by kernel_rfl) (by kernel_rfl) (fun _ _ _ h => h) (Or.inl ⟨by rfl, fun w hSw => by go_simp⟩) (by assumption) ?_
          try simp only [Act.put, List.setIfInBounds_toArray, List.set_cons_zero, List.set_cons_succ]
          refine wpAnyH_take (i := 30) (oi := ⟨some 78, _, _, _, _, _⟩) (v := .bool false) rfl (by kernel_rfl) (by kernel_rfl) (by kernel_rfl) (fun _ _ _ h => h) (Or.inl ⟨by rfl, fun w hSw => by go_simp⟩) (by assumption) ?_
          try simp only [Act.put, List.setIfInBounds_toArray, List.set_cons_zero, List.set_cons_succ]
          refine wpAnyH_take (i := 31) (oi := ⟨some 79, _, _, _, _, _⟩) (v := .bool false) rfl (by kernel_rfl) (by kernel_rfl) (by kernel_rfl) (fun _ _ _ h => h) (Or.inl ⟨by rfl, fun w hSw => by go_simp⟩) (by assumption) ?_
          try simp only [Act.put, List.setIfInBounds_toArray, List.set_cons_zero, List.set_cons_succ]
          refine wpAnyH_take (i := 32) (oi := ⟨some 80, _, _, _, _, _⟩) (v := .int .i64 p) rfl (by kernel_rfl) (by kernel_rfl) (by kernel_rfl) (fun _ _ _ h => h) (Or.inl ⟨by rfl, fun w hSw => by go_simp⟩) (by assumption) ?_
          try simp only [Act.put, List.setIfInBounds_toArray, List.set_cons_zero, List.set_cons_succ]
          refine wpAnyH_take (i := 33) (oi := ⟨some 81, _, _, _, _, _⟩) (v := .bool true) rfl (by kernel_rfl) (by kernel_rfl) (by kernel_rfl) (fun _ _ _ h => h) (Or.inl ⟨by rfl, fun w hSw => by have h9 := HPZ.out; first | (go_simp; done) | (go_simp; omega)⟩) (by assumption) ?_
          try simp only [Act.put, List.setIfInBounds_toArray, List.set_cons_zero, List.set_cons_succ]
          refine wpAnyH_take (i := 34) (oi := ⟨some 82, _, _, _, _, _⟩) (v := .bool true) rfl (by kernel_rfl) (by kernel_rfl) (by kernel_rfl) (fun _ _ _ h => h) (Or.inl ⟨by rfl, fun w hSw => by go_simp⟩) (by assumption) ?_
          try simp only [Act.put, List.setIfInBounds_toArray, List.set_cons_zero, List.set_cons_succ]
          refine wpAnyH_take (i := 35) (oi := ⟨some 83, _, _, _, _, _⟩) (v := .slice (some ⟨g, o, none⟩) q ct) rfl (by kernel_rfl) (by kernel_rfl) (by kernel_rfl) (fun _ _ _ h => h) (Or.inl ⟨by rfl, fun w hSw => by go_simp⟩) (by assumption) ?_
          try simp only [Act.put, List.setIfInBounds_toArray, List.set_cons_zero, List.set_cons_succ]
          refine wpAnyH_take (i := 36) (oi := ⟨some 84, _, _, _, _, _⟩) (v := .int .i64 p) rfl (by kernel_rfl) (by kernel_rfl) (by kernel_rfl) (fun _ _ _ h => h) (Or.inl ⟨by rfl, fun w hSw => by go_simp⟩) (by assumption) ?_
          try simp only [Act.put, List.setIfInBounds_toArray, List.set_cons_zero, List.set_cons_succ]
          refine wpAnyH_take (i := 37) (oi := ⟨some 85, _, _, _, _, _⟩) (v := (.int .i64 (p' : Nat))) rfl (by kernel_rfl) (by kernel_rfl) (by kernel_rfl) (fun _ _ _ h => h) (Or.inl ⟨by rfl, fun w hSw => by have h9 := HPZ.out; first | (go_simp; done) | (go_simp; exact (IntWalk.i64_in _ ⟨by omega, by omega⟩).trans (by omega)) | (go_simp; omega)⟩) (by assumption) ?_
          try simp only [Act.put, List.setIfInBounds_toArray, List.set_cons_zero, List.set_cons_succ]
          refine wpAnyH_take (i := 38) (oi := ⟨some 86, _, _, _, _, _⟩) (v := (.pointer (some ⟨g, o + p' * 2, none⟩))) rfl (by kernel_rfl) (by kernel_rfl) (by kernel_rfl) (fun _ _ _ h => h) (Or.inl ⟨by rfl, fun w hSw => by have h9 := HPZ.out; first | (go_simp; done) | (go_simp; omega)⟩) (by assumption) ?_
          try simp only [Act.put, List.setIfInBounds_toArray, List.set_cons_zero, List.set_cons_succ]
          refine wpAnyH_take (i := 39) (oi := ⟨some 87, _, _, _, _, _⟩) (v := (.agg #[.int .i64 n, .slice ya y.length yc])) rfl (by kernel_rfl) (by kernel_rfl) (by kernel_rfl) (fun _ _ _ h => h) (Or.inl ⟨by rfl, fun w hSw => by obtain ⟨_, _, _, _, _, _, _, _, _, _, q1, q2, _⟩ := hSw; go_simp⟩) (by assumption) ?_
          try simp only [Act.put, List.setIfInBounds_toArray, List.set_cons_zero, List.set_cons_succ]
          refine wpAnyH_take (i := 41) (oi := ⟨some 89, _, _, _, _, _⟩) (v := .agg #[.int .i64 (n : Nat), .slice xa x.length xc]) rfl (by kernel_rfl) (by kernel_rfl) (by kernel_rfl) (fun _ _ _ h => h) (Or.inl ⟨by rfl, fun w hSw => by obtain ⟨_, _, q1, q2, _⟩ := hSw; go_simp⟩) (by assumption) ?_
          try simp only [Act.put, List.setIfInBounds_toArray, List.set_cons_zero, List.set_cons_succ]
          refine wpAnyH_ready (rs := [40]) (by kernel_rfl) (by simp) ?_
          refine AllReadyH.cons rfl (fun K hKK => ?_) AllReadyH.nil
          go_simp
          go_at_call 28
          refine (v_fmt n ya yc y tA _ (HC.out _ hbb5).2.2 HOz.out HTA.out).mono ?_
          rintro e wk6 ⟨rfl, hc6⟩
          have hbb6 : Below (putR v7 n bw lx.length cy).heap.size (putR v7 n bw lx.length cy) wk6 := hbb5.trans (hc6.mono hbb5.size)
          clear hc6
          refine hKK.out _ _ (HK.out _ hbb6) (fun hSS6 => ?_)
          clear hKK K hbb5 hSS5
          try simp only [Act.put, List.setIfInBounds_toArray, List.set_cons_zero, List.set_cons_succ]
          refine wpAnyH_ready (rs := [42]) (by kernel_rfl) (by simp) ?_
          refine AllReadyH.cons rfl (fun K hKK => ?_) AllReadyH.nil
          go_simp
          go_at_call 28
          refine (v_fmt n xa xc x tB _ (HIx.out _ hbb6) HOx.out HTB.out).mono ?_
          rintro e wk7 ⟨rfl, hc7⟩
          have hbb7 : Below (putR v7 n bw lx.length cy).heap.size (putR v7 n bw lx.length cy) wk7 := hbb6.trans (hc7.mono hbb6.size)
          clear hc7
          refine hKK.out _ _ (HK.out _ hbb7) (fun hSS7 => ?_)
          clear hKK K hbb6 hSS6
          try simp only [Act.put, List.setIfInBounds_toArray, List.set_cons_zero, List.set_cons_succ]
          refine wpAnyH_take (i := 43) (oi := ⟨some 91, _, _, _, _, _⟩) (v := .bool false) rfl (by kernel_rfl) (by kernel_rfl) (by kernel_rfl) (fun _ _ _ h => h) (Or.inl ⟨by rfl, fun w hSw => by have h9 := HLEQ.out; go_simp⟩) (by assumption) ?_
          try simp only [Act.put, List.setIfInBounds_toArray, List.set_cons_zero, List.set_cons_succ]
          refine wpAnyH_take (i := 44) (oi := ⟨some 92, _, _, _, _, _⟩) (v := .bool false) rfl (by kernel_rfl) (by kernel_rfl) (by kernel_rfl) (fun _ _ _ h => h) (Or.inl ⟨by rfl, fun w hSw => by go_simp⟩) (by assumption) ?_
          try simp only [Act.put, List.setIfInBounds_toArray, List.set_cons_zero, List.set_cons_succ]
          refine wpAnyH_take (i := 45) (oi := ⟨some 93, _, _, _, _, _⟩) (v := .bool false) rfl (by kernel_rfl) (by kernel_rfl) (by kernel_rfl) (fun _ _ _ h => h) (Or.inl ⟨by rfl, fun w hSw => by go_simp⟩) (by assumption) ?_
          try simp only [Act.put, List.setIfInBounds_toArray, List.set_cons_zero, List.set_cons_succ]
          refine wpAnyH_done (by kernel_rfl) ?_ _
          clear HK
          clear HIr HIx HIf HIo HIy hSS7
          have hb := hbb7
          clear hbb7
          have HXr59 := Lib.hid (HXr8.out.keep hb)
          clear HXr8
          have HXx59 := Lib.hid (HXx8.out.keep hb)
          clear HXx8
          have HXf59 := Lib.hid (HXf8.out.keep hb)
          clear HXf8
          have HXo59 := Lib.hid (HXo8.out.keep hb)
          clear HXo8
          have HXy59 := Lib.hid (HXy8.out.keep hb)
          clear HXy8
          have HLT59 := Lib.hid (HLT8.out.below hb)
          clear HLT8
          have HB59x := Lib.hid (show Below w.heap.size w wk7 from HB8x.out.trans (hb.mono HB8x.out.size))
          clear HB8x hb
          go_wp2
          go_roundw
          case rel => exact ⟨p + 1, by omega, by go_num, HB59x.out, HXr59.out, HLT59.out⟩
          case measure => simp [intOf]; omega
      · have hltb : decide ((p : Int) < (q : Int)) = false := by simp; omega
        clear HLTL
        obtain ⟨V, hV⟩ : ∃ V, V = abW wr := ⟨_, rfl⟩
        have hb : Below wr.heap.size wr V := by rw [hV]; exact abW_below wr
        have HXr202 := Lib.hid (HXrL.out.keep hb)
        clear HXrL
        have HB202x := Lib.hid (show Below w.heap.size w V from HBL.out.trans (hb.mono HBL.out.size))
        clear HBL hb
        have HXA0 : Hid (RhAt V (wr.heap.size + 1) 8 (some ⟨wr.heap.size, 0, none⟩) 4 [0, 1, 2, 5]) := Lib.hid (by rw [hV]; exact abW_A wr)
        have HXB0 : Hid (RhAt V (wr.heap.size + 1 + 1 + 1) 8 (some ⟨wr.heap.size + 1 + 1, 0, none⟩) 4 [0, 1, 3, 4]) := Lib.hid (by rw [hV]; exact abW_B wr)
        have HV := Lib.hid hV
        clear hV
        go_upto_region 16 with fail
        change Code.wp _ _ _ _ (abW wr)
        rw [← HV.out]
        clear HV
        have HYB : Hid (∀ W' : World, Below V.heap.size V W' → BytesAt W'.heap.size W' a len) := Lib.hid (fun W' hW => bytes_up HBY.out (HB202x.out.trans (hW.mono HB202x.out.size)) (Nat.le_trans HB202x.out.size hW.size))
        have HK : Hid (∀ W' : World, Below V.heap.size V W' → W'.cell? ⟨w1.heap.size, 0, none⟩ = some (.int .i64 (n : Nat)) ∧ W'.cell? ⟨w1.heap.size, 1, none⟩ = some (.slice b zs.length c) ∧ Below V.heap.size V W') :=
          Lib.hid (fun W' hW => ⟨(HXr202.out.keep hW).1.facts.1, (HXr202.out.keep hW).1.facts.2.1, hW⟩)
        have HIr : Hid (∀ W' : World, Below V.heap.size V W' → IntsAt W' b zs.length zs) := Lib.hid (fun W' hW => (HXr202.out.keep hW).2)
        refine wp_region_held_drew (S := fun W' => W'.cell? ⟨w1.heap.size, 0, none⟩ = some (.int .i64 (n : Nat)) ∧ W'.cell? ⟨w1.heap.size, 1, none⟩ = some (.slice b zs.length c) ∧ Below V.heap.size V W') (by kernel_rfl) (HK.out _ (Below.refl _ _).drew) (fun hSS0 => ?_)
        refine wpAnyH_take (i := 0) (oi := ⟨some 99, _, _, _, _, _⟩) (v := .slice a len cap) rfl (by kernel_rfl) (by kernel_rfl) (by kernel_rfl) (fun _ _ _ h => h) (Or.inl ⟨by rfl, fun w hSw => by go_simp⟩) (by assumption) ?_
        try simp only [Act.put, List.setIfInBounds_toArray, List.set_cons_zero, List.set_cons_succ]
        refine wpAnyH_take (i := 2) (oi := ⟨some 101, _, _, _, _, _⟩) (v := .pointer (some ⟨w1.heap.size, 0, none⟩)) rfl (by kernel_rfl) (by kernel_rfl) (by kernel_rfl) (fun _ _ _ h => h) (Or.inl ⟨by rfl, fun w hSw => by go_simp⟩) (by assumption) ?_
        try simp only [Act.put, List.setIfInBounds_toArray, List.set_cons_zero, List.set_cons_succ]
        refine wpAnyH_take (i := 3) (oi := ⟨some 102, _, _, _, _, _⟩) (v := .int .i64 (n : Nat)) rfl (by kernel_rfl) (by kernel_rfl) (by kernel_rfl) (fun _ _ _ h => h) (Or.inl ⟨by rfl, fun w hSw => by obtain ⟨q1, q2, _⟩ := hSw; go_simp⟩) (by assumption) ?_
        try simp only [Act.put, List.setIfInBounds_toArray, List.set_cons_zero, List.set_cons_succ]
        refine wpAnyH_ready (rs := [1]) (by kernel_rfl) (by simp) ?_
        refine AllReadyH.cons rfl (fun K hKK => ?_) AllReadyH.nil
        go_simp
        go_at_call 11
        refine (num_any a len cap 30 _ (HYB.out _ (Below.refl _ _).drew) (by omega)).mono ?_
        rintro e wk1 ⟨qP, rfl, hq0, hq1, hc1⟩
        obtain ⟨P, hP⟩ : ∃ P, qP % (n : Int) = P := ⟨_, rfl⟩
        have hP0 : 0 ≤ P ∧ P < (n : Int) := by have := em_bd qP (n := (n : Int)) (by omega); omega
        have HEP := Lib.hid hP
        clear hP
        have hbb1 : Below V.heap.size V wk1 := (Below.refl _ _).drew.trans hc1
        clear hc1
        refine hKK.out _ _ (HK.out _ hbb1) (fun hSS1 => ?_)
        clear hKK K hSS0
        try simp only [Act.put, List.setIfInBounds_toArray, List.set_cons_zero, List.set_cons_succ]
        refine wpAnyH_take (i := 4) (oi := ⟨some 103, _, _, _, _, _⟩) (v := .int .i64 P) rfl (by kernel_rfl) (by kernel_rfl) (by kernel_rfl) (fun _ _ _ h => h) (Or.inl ⟨by rfl, fun w hSw => by go_simp; rw [if_neg (show ¬ n = 0 by omega), Int.tmod_eq_emod_of_nonneg (by omega), HEP.out]⟩) (by assumption) ?_
        try simp only [Act.put, List.setIfInBounds_toArray, List.set_cons_zero, List.set_cons_succ]
        refine wpAnyH_take (i := 5) (oi := ⟨some 15, _, _, _, _, _⟩) (v := .int .i64 P) rfl (by kernel_rfl) (by kernel_rfl) (by kernel_rfl) (fun _ _ _ h => h) (Or.inl ⟨by rfl, fun w hSw => by go_simp⟩) (by assumption) ?_
        try simp only [Act.put, List.setIfInBounds_toArray, List.set_cons_zero, List.set_cons_succ]
        refine wpAnyH_done (by kernel_rfl) ?_ _
        clear HK
        clear HIr hSS1 hq0 hq1 HYB
        have hb := hbb1
        clear hbb1
        have HXr203 := Lib.hid (HXr202.out.keep hb)
        clear HXr202
        have HXA203 := Lib.hid (HXA0.out.keep hb)
        clear HXA0
        have HXB203 := Lib.hid (HXB0.out.keep hb)
        clear HXB0
        have HB203x := Lib.hid (show Below w.heap.size w wk1 from HB202x.out.trans (hb.mono HB202x.out.size))
        clear HB202x hb
        obtain ⟨V2, rfl⟩ : ∃ V2, V2 = wk1 := ⟨_, rfl⟩
        have HYB : Hid (∀ W' : World, Below V2.heap.size V2 W' → BytesAt W'.heap.size W' a len) := Lib.hid (fun W' hW => bytes_up HBY.out (HB203x.out.trans (hW.mono HB203x.out.size)) (Nat.le_trans HB203x.out.size hW.size))
        go_upto_region 17 with fail
        have HK : Hid (∀ W' : World, Below V2.heap.size V2 W' → W'.cell? ⟨w1.heap.size, 0, none⟩ = some (.int .i64 (n : Nat)) ∧ W'.cell? ⟨w1.heap.size, 1, none⟩ = some (.slice b zs.length c) ∧ Below V2.heap.size V2 W') :=
          Lib.hid (fun W' hW => ⟨(HXr203.out.keep hW).1.facts.1, (HXr203.out.keep hW).1.facts.2.1, hW⟩)
        have HIr : Hid (∀ W' : World, Below V2.heap.size V2 W' → IntsAt W' b zs.length zs) := Lib.hid (fun W' hW => (HXr203.out.keep hW).2)
        refine wp_region_held_drew (S := fun W' => W'.cell? ⟨w1.heap.size, 0, none⟩ = some (.int .i64 (n : Nat)) ∧ W'.cell? ⟨w1.heap.size, 1, none⟩ = some (.slice b zs.length c) ∧ Below V2.heap.size V2 W') (by kernel_rfl) (HK.out _ (Below.refl _ _).drew) (fun hSS0 => ?_)
        refine wpAnyH_take (i := 0) (oi := ⟨some 104, _, _, _, _, _⟩) (v := .slice a len cap) rfl (by kernel_rfl) (by kernel_rfl) (by kernel_rfl) (fun _ _ _ h => h) (Or.inl ⟨by rfl, fun w hSw => by go_simp⟩) (by assumption) ?_
        try simp only [Act.put, List.setIfInBounds_toArray, List.set_cons_zero, List.set_cons_succ]
        refine wpAnyH_take (i := 2) (oi := ⟨some 106, _, _, _, _, _⟩) (v := .pointer (some ⟨w1.heap.size, 0, none⟩)) rfl (by kernel_rfl) (by kernel_rfl) (by kernel_rfl) (fun _ _ _ h => h) (Or.inl ⟨by rfl, fun w hSw => by go_simp⟩) (by assumption) ?_
        try simp only [Act.put, List.setIfInBounds_toArray, List.set_cons_zero, List.set_cons_succ]
        refine wpAnyH_take (i := 3) (oi := ⟨some 107, _, _, _, _, _⟩) (v := .int .i64 (n : Nat)) rfl (by kernel_rfl) (by kernel_rfl) (by kernel_rfl) (fun _ _ _ h => h) (Or.inl ⟨by rfl, fun w hSw => by obtain ⟨q1, q2, _⟩ := hSw; go_simp⟩) (by assumption) ?_
        try simp only [Act.put, List.setIfInBounds_toArray, List.set_cons_zero, List.set_cons_succ]
        refine wpAnyH_ready (rs := [1]) (by kernel_rfl) (by simp) ?_
        refine AllReadyH.cons rfl (fun K hKK => ?_) AllReadyH.nil
        go_simp
        go_at_call 11
        refine (num_any a len cap 32 _ (HYB.out _ (Below.refl _ _).drew) (by omega)).mono ?_
        rintro e wk1 ⟨qQ, rfl, hq0, hq1, hc1⟩
        obtain ⟨Q, hP⟩ : ∃ P, qQ % (n : Int) = P := ⟨_, rfl⟩
        have hQ0 : 0 ≤ Q ∧ Q < (n : Int) := by have := em_bd qQ (n := (n : Int)) (by omega); omega
        have HEQ := Lib.hid hP
        clear hP
        have hbb1 : Below V2.heap.size V2 wk1 := (Below.refl _ _).drew.trans hc1
        clear hc1
        refine hKK.out _ _ (HK.out _ hbb1) (fun hSS1 => ?_)
        clear hKK K hSS0
        try simp only [Act.put, List.setIfInBounds_toArray, List.set_cons_zero, List.set_cons_succ]
        refine wpAnyH_take (i := 4) (oi := ⟨some 108, _, _, _, _, _⟩) (v := .int .i64 Q) rfl (by kernel_rfl) (by kernel_rfl) (by kernel_rfl) (fun _ _ _ h => h) (Or.inl ⟨by rfl, fun w hSw => by go_simp; rw [if_neg (show ¬ n = 0 by omega), Int.tmod_eq_emod_of_nonneg (by omega), HEQ.out]⟩) (by assumption) ?_
        try simp only [Act.put, List.setIfInBounds_toArray, List.set_cons_zero, List.set_cons_succ]
        refine wpAnyH_take (i := 5) (oi := ⟨some 16, _, _, _, _, _⟩) (v := .int .i64 Q) rfl (by kernel_rfl) (by kernel_rfl) (by kernel_rfl) (fun _ _ _ h => h) (Or.inl ⟨by rfl, fun w hSw => by go_simp⟩) (by assumption) ?_
        try simp only [Act.put, List.setIfInBounds_toArray, List.set_cons_zero, List.set_cons_succ]
        refine wpAnyH_done (by kernel_rfl) ?_ _
        clear HK
        clear HIr hSS1 hq0 hq1 HYB
        have hb := hbb1
        clear hbb1
        have HXr204 := Lib.hid (HXr203.out.keep hb)
        clear HXr203
        have HXA204 := Lib.hid (HXA203.out.keep hb)
        clear HXA203
        have HXB204 := Lib.hid (HXB203.out.keep hb)
        clear HXB203
        have HB204x := Lib.hid (show Below w.heap.size w wk1 from HB203x.out.trans (hb.mono HB203x.out.size))
        clear HB203x hb
        obtain ⟨d, hd⟩ : ∃ d, betB n zs P Q = d := ⟨_, rfl⟩
        have HD := Lib.hid hd
        have hge := bet_nonneg HO.out hd
        have HGE := Lib.hid hge
        clear hd hge
        have HRP : Hid (remB P n = P) := Lib.hid (Int.emod_eq_of_lt hP0.1 hP0.2)
        have HRQ : Hid (remB Q n = Q) := Lib.hid (Int.emod_eq_of_lt hQ0.1 hQ0.2)
        obtain ⟨pr0, pr1, pr2, pr3⟩ := HXr204.out.1.facts
        have ltr := HXr204.out.1.lt
        go_wp2_with fail
        refine (v_bet n b c zs P Q d wk1 HXr204.out.2 HO.out (by omega) (by omega) HD.out).mono ?_
        rintro e v205 ⟨rfl, hb⟩
        clear pr0 pr1 pr2 pr3 ltr
        have HXr205 := Lib.hid (HXr204.out.keep hb)
        clear HXr204
        have HXA205 := Lib.hid (HXA204.out.keep hb)
        clear HXA204
        have HXB205 := Lib.hid (HXB204.out.keep hb)
        clear HXB204
        have HB205x := Lib.hid (show Below w.heap.size w v205 from HB204x.out.trans (hb.mono HB204x.out.size))
        clear HB204x hb
        obtain ⟨bp, hbp⟩ : ∃ x, hasB zs P = x := ⟨_, rfl⟩
        have HBP := Lib.hid hbp
        clear hbp
        obtain ⟨bq, hbq⟩ : ∃ x, hasB zs Q = x := ⟨_, rfl⟩
        have HBQ := Lib.hid hbq
        clear hbq
        obtain ⟨pr0, pr1, pr2, pr3⟩ := HXr205.out.1.facts
        have ltr := HXr205.out.1.lt
        go_wp2_with fail
        refine (r_has n b c zs P bp v205 HXr205.out.2 HO.out (by omega) (by omega) (by rw [HRP.out, HBP.out])).mono ?_
        rintro e v206 ⟨rfl, hb⟩
        clear pr0 pr1 pr2 pr3 ltr
        have HXr206 := Lib.hid (HXr205.out.keep hb)
        clear HXr205
        have HXA206 := Lib.hid (HXA205.out.keep hb)
        clear HXA205
        have HXB206 := Lib.hid (HXB205.out.keep hb)
        clear HXB205
        have HB206x := Lib.hid (show Below w.heap.size w v206 from HB205x.out.trans (hb.mono HB205x.out.size))
        clear HB205x hb
        cases bp
        · skip
          have hdge : decide (0 ≤ d) = false := by rw [HGE.out, HBP.out]; rfl
          obtain ⟨pr0, pr1, pr2, pr3⟩ := HXr206.out.1.facts
          have ltr := HXr206.out.1.lt
          obtain ⟨pA0, pA1, pA2, pA3⟩ := HXA206.out.1.facts
          have ltA := HXA206.out.1.lt
          obtain ⟨pB0, pB1, pB2, pB3⟩ := HXB206.out.1.facts
          have ltB := HXB206.out.1.lt
          go_wp2_with fail
          refine (v_tw_yes 8 (some ⟨wr.heap.size, 0, none⟩) 4 ([0, 1, 2, 5]) (some ⟨wr.heap.size + 1 + 1, 0, none⟩) 4 ([0, 1, 3, 4]) v206 HXA206.out.2 HXB206.out.2 ok_a ok_b ab_vec ab_not).mono ?_
          rintro e v207 ⟨rfl, hb⟩
          clear pr0 pr1 pr2 pr3 ltr pA0 pA1 pA2 pA3 ltA pB0 pB1 pB2 pB3 ltB
          have HXr207 := Lib.hid (HXr206.out.keep hb)
          clear HXr206
          have HXA207 := Lib.hid (HXA206.out.keep hb)
          clear HXA206
          have HXB207 := Lib.hid (HXB206.out.keep hb)
          clear HXB206
          have HB207x := Lib.hid (show Below w.heap.size w v207 from HB206x.out.trans (hb.mono HB206x.out.size))
          clear HB206x hb
          obtain ⟨pr0, pr1, pr2, pr3⟩ := HXr207.out.1.facts
          have ltr := HXr207.out.1.lt
          go_wp2_with fail
          refine (v_deep 12 _ 7 [0, 2, 4, 5, 7, 9, 11] true _ (ints_laid v207 [0, 2, 4, 5, 7, 9, 11] (ok_allInt ok_maj) (by decide)) ok_maj maj_deep).mono ?_
          rintro e v208 ⟨rfl, hb0⟩ ; have hb := (bel1 v207 (.cells ([0, 2, 4, 5, 7, 9, 11].map (Value.int .i64)).toArray 3)).trans (hb0.mono (by simp)) ; clear hb0
          clear pr0 pr1 pr2 pr3 ltr
          have HXr208 := Lib.hid (HXr207.out.keep hb)
          clear HXr207
          have HXA208 := Lib.hid (HXA207.out.keep hb)
          clear HXA207
          have HXB208 := Lib.hid (HXB207.out.keep hb)
          clear HXB207
          have HB208x := Lib.hid (show Below w.heap.size w v208 from HB207x.out.trans (hb.mono HB207x.out.size))
          clear HB207x hb
          go_wp2_with fail
          refine (v_flat 7 _ 3 [0, 1, 3] true _ (ints_laid v208 [0, 1, 3] (ok_allInt ok_fano) (by decide)) ok_fano fano_flat).mono ?_
          rintro e v209 ⟨rfl, hb0⟩ ; have hb := (bel1 v208 (.cells ([0, 1, 3].map (Value.int .i64)).toArray 3)).trans (hb0.mono (by simp)) ; clear hb0
          have HXr209 := Lib.hid (HXr208.out.keep hb)
          clear HXr208
          have HXA209 := Lib.hid (HXA208.out.keep hb)
          clear HXA208
          have HXB209 := Lib.hid (HXB208.out.keep hb)
          clear HXB208
          have HB209x := Lib.hid (show Below w.heap.size w v209 from HB208x.out.trans (hb.mono HB208x.out.size))
          clear HB208x hb
          go_wp2
          go_ret
          exact ⟨rfl, HB209x.out⟩
        · cases bq
          · skip
            obtain ⟨pr0, pr1, pr2, pr3⟩ := HXr206.out.1.facts
            have ltr := HXr206.out.1.lt
            go_wp2_with fail
            refine (r_has n b c zs Q false v206 HXr206.out.2 HO.out (by omega) (by omega) (by rw [HRQ.out, HBQ.out])).mono ?_
            rintro e v307 ⟨rfl, hb⟩
            clear pr0 pr1 pr2 pr3 ltr
            have HXr307 := Lib.hid (HXr206.out.keep hb)
            clear HXr206
            have HXA307 := Lib.hid (HXA206.out.keep hb)
            clear HXA206
            have HXB307 := Lib.hid (HXB206.out.keep hb)
            clear HXB206
            have HB307x := Lib.hid (show Below w.heap.size w v307 from HB206x.out.trans (hb.mono HB206x.out.size))
            clear HB206x hb
            have hdge : decide (0 ≤ d) = false := by rw [HGE.out, HBP.out, HBQ.out]; rfl
            obtain ⟨pr0, pr1, pr2, pr3⟩ := HXr307.out.1.facts
            have ltr := HXr307.out.1.lt
            obtain ⟨pA0, pA1, pA2, pA3⟩ := HXA307.out.1.facts
            have ltA := HXA307.out.1.lt
            obtain ⟨pB0, pB1, pB2, pB3⟩ := HXB307.out.1.facts
            have ltB := HXB307.out.1.lt
            go_wp2_with fail
            refine (v_tw_yes 8 (some ⟨wr.heap.size, 0, none⟩) 4 ([0, 1, 2, 5]) (some ⟨wr.heap.size + 1 + 1, 0, none⟩) 4 ([0, 1, 3, 4]) v307 HXA307.out.2 HXB307.out.2 ok_a ok_b ab_vec ab_not).mono ?_
            rintro e v308 ⟨rfl, hb⟩
            clear pr0 pr1 pr2 pr3 ltr pA0 pA1 pA2 pA3 ltA pB0 pB1 pB2 pB3 ltB
            have HXr308 := Lib.hid (HXr307.out.keep hb)
            clear HXr307
            have HXA308 := Lib.hid (HXA307.out.keep hb)
            clear HXA307
            have HXB308 := Lib.hid (HXB307.out.keep hb)
            clear HXB307
            have HB308x := Lib.hid (show Below w.heap.size w v308 from HB307x.out.trans (hb.mono HB307x.out.size))
            clear HB307x hb
            obtain ⟨pr0, pr1, pr2, pr3⟩ := HXr308.out.1.facts
            have ltr := HXr308.out.1.lt
            go_wp2_with fail
            refine (v_deep 12 _ 7 [0, 2, 4, 5, 7, 9, 11] true _ (ints_laid v308 [0, 2, 4, 5, 7, 9, 11] (ok_allInt ok_maj) (by decide)) ok_maj maj_deep).mono ?_
            rintro e v309 ⟨rfl, hb0⟩ ; have hb := (bel1 v308 (.cells ([0, 2, 4, 5, 7, 9, 11].map (Value.int .i64)).toArray 3)).trans (hb0.mono (by simp)) ; clear hb0
            clear pr0 pr1 pr2 pr3 ltr
            have HXr309 := Lib.hid (HXr308.out.keep hb)
            clear HXr308
            have HXA309 := Lib.hid (HXA308.out.keep hb)
            clear HXA308
            have HXB309 := Lib.hid (HXB308.out.keep hb)
            clear HXB308
            have HB309x := Lib.hid (show Below w.heap.size w v309 from HB308x.out.trans (hb.mono HB308x.out.size))
            clear HB308x hb
            go_wp2_with fail
            refine (v_flat 7 _ 3 [0, 1, 3] true _ (ints_laid v309 [0, 1, 3] (ok_allInt ok_fano) (by decide)) ok_fano fano_flat).mono ?_
            rintro e v310 ⟨rfl, hb0⟩ ; have hb := (bel1 v309 (.cells ([0, 1, 3].map (Value.int .i64)).toArray 3)).trans (hb0.mono (by simp)) ; clear hb0
            have HXr310 := Lib.hid (HXr309.out.keep hb)
            clear HXr309
            have HXA310 := Lib.hid (HXA309.out.keep hb)
            clear HXA309
            have HXB310 := Lib.hid (HXB309.out.keep hb)
            clear HXB309
            have HB310x := Lib.hid (show Below w.heap.size w v310 from HB309x.out.trans (hb.mono HB309x.out.size))
            clear HB309x hb
            go_wp2
            go_ret
            exact ⟨rfl, HB310x.out⟩
          · skip
            obtain ⟨pr0, pr1, pr2, pr3⟩ := HXr206.out.1.facts
            have ltr := HXr206.out.1.lt
            go_wp2_with fail
            refine (r_has n b c zs Q true v206 HXr206.out.2 HO.out (by omega) (by omega) (by rw [HRQ.out, HBQ.out])).mono ?_
            rintro e v407 ⟨rfl, hb⟩
            clear pr0 pr1 pr2 pr3 ltr
            have HXr407 := Lib.hid (HXr206.out.keep hb)
            clear HXr206
            have HXA407 := Lib.hid (HXA206.out.keep hb)
            clear HXA206
            have HXB407 := Lib.hid (HXB206.out.keep hb)
            clear HXB206
            have HB407x := Lib.hid (show Below w.heap.size w v407 from HB206x.out.trans (hb.mono HB206x.out.size))
            clear HB206x hb
            obtain ⟨hd1, hd2, hd3⟩ := bet_both HO.out HBP.out HBQ.out HD.out
            have HD1 := Lib.hid hd1
            clear hd1
            have hdge : decide (0 ≤ d) = true := by simp; omega
            have hw2 : wrap64 (2 * d) = 2 * d := by unfold wrap64; omega
            have hdle : decide (2 * d ≤ (n : Int)) = true := by simp; omega
            obtain ⟨pr0, pr1, pr2, pr3⟩ := HXr407.out.1.facts
            have ltr := HXr407.out.1.lt
            obtain ⟨pA0, pA1, pA2, pA3⟩ := HXA407.out.1.facts
            have ltA := HXA407.out.1.lt
            obtain ⟨pB0, pB1, pB2, pB3⟩ := HXB407.out.1.facts
            have ltB := HXB407.out.1.lt
            go_wp2_with fail
            refine (v_tw_yes 8 (some ⟨wr.heap.size, 0, none⟩) 4 ([0, 1, 2, 5]) (some ⟨wr.heap.size + 1 + 1, 0, none⟩) 4 ([0, 1, 3, 4]) v407 HXA407.out.2 HXB407.out.2 ok_a ok_b ab_vec ab_not).mono ?_
            rintro e v408 ⟨rfl, hb⟩
            clear pr0 pr1 pr2 pr3 ltr pA0 pA1 pA2 pA3 ltA pB0 pB1 pB2 pB3 ltB
            have HXr408 := Lib.hid (HXr407.out.keep hb)
            clear HXr407
            have HXA408 := Lib.hid (HXA407.out.keep hb)
            clear HXA407
            have HXB408 := Lib.hid (HXB407.out.keep hb)
            clear HXB407
            have HB408x := Lib.hid (show Below w.heap.size w v408 from HB407x.out.trans (hb.mono HB407x.out.size))
            clear HB407x hb
            obtain ⟨pr0, pr1, pr2, pr3⟩ := HXr408.out.1.facts
            have ltr := HXr408.out.1.lt
            go_wp2_with fail
            refine (v_bet n b c zs Q P d v408 HXr408.out.2 HO.out (by omega) (by omega) HD1.out).mono ?_
            rintro e v409 ⟨rfl, hb⟩
            clear pr0 pr1 pr2 pr3 ltr
            have HXr409 := Lib.hid (HXr408.out.keep hb)
            clear HXr408
            have HXA409 := Lib.hid (HXA408.out.keep hb)
            clear HXA408
            have HXB409 := Lib.hid (HXB408.out.keep hb)
            clear HXB408
            have HB409x := Lib.hid (show Below w.heap.size w v409 from HB408x.out.trans (hb.mono HB408x.out.size))
            clear HB408x hb
            obtain ⟨pr0, pr1, pr2, pr3⟩ := HXr409.out.1.facts
            have ltr := HXr409.out.1.lt
            go_wp2_with fail
            refine (v_deep 12 _ 7 [0, 2, 4, 5, 7, 9, 11] true _ (ints_laid v409 [0, 2, 4, 5, 7, 9, 11] (ok_allInt ok_maj) (by decide)) ok_maj maj_deep).mono ?_
            rintro e v410 ⟨rfl, hb0⟩ ; have hb := (bel1 v409 (.cells ([0, 2, 4, 5, 7, 9, 11].map (Value.int .i64)).toArray 3)).trans (hb0.mono (by simp)) ; clear hb0
            clear pr0 pr1 pr2 pr3 ltr
            have HXr410 := Lib.hid (HXr409.out.keep hb)
            clear HXr409
            have HXA410 := Lib.hid (HXA409.out.keep hb)
            clear HXA409
            have HXB410 := Lib.hid (HXB409.out.keep hb)
            clear HXB409
            have HB410x := Lib.hid (show Below w.heap.size w v410 from HB409x.out.trans (hb.mono HB409x.out.size))
            clear HB409x hb
            go_wp2_with fail
            refine (v_flat 7 _ 3 [0, 1, 3] true _ (ints_laid v410 [0, 1, 3] (ok_allInt ok_fano) (by decide)) ok_fano fano_flat).mono ?_
            rintro e v411 ⟨rfl, hb0⟩ ; have hb := (bel1 v410 (.cells ([0, 1, 3].map (Value.int .i64)).toArray 3)).trans (hb0.mono (by simp)) ; clear hb0
            have HXr411 := Lib.hid (HXr410.out.keep hb)
            clear HXr410
            have HXA411 := Lib.hid (HXA410.out.keep hb)
            clear HXA410
            have HXB411 := Lib.hid (HXB410.out.keep hb)
            clear HXB410
            have HB411x := Lib.hid (show Below w.heap.size w v411 from HB410x.out.trans (hb.mono HB410x.out.size))
            clear HB410x hb
            go_wp2
            go_ret
            exact ⟨rfl, HB411x.out⟩
  · clear hb
    go_enter Try.func4, Try.ntmps4
    go_wp2
    go_ret
    exact ⟨rfl, Below.refl _ _⟩
end Go.Proofs.Ytjgjcppkbfojpaa.Rhy
