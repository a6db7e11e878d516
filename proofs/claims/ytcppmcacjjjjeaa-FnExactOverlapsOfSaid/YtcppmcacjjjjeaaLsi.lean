/-
  Helpers of the claims beside this text: the program's rotations, the last of some rhythms in the order of texts, the least rotation.
-/
import Derived.Test.YtcppmcacjjjjeaaItm
import Derived.Test.YtcppmcacjjjjeaaFmc
import Derived.Test.YtcppmcacjjjjeaaTxt
import Derived.Test.YtcppmcacjjjjeaaBuild
namespace Go.Proofs.Ytcppmcacjjjjeaa.Rhy
open Go.RowKit
set_option linter.unusedVariables false

/-- The turns by 0 up to k, in a list of the call's own. -/
def RotsAt (n : Nat) (zs : List Int) (k : Nat) (w1 wr : World) (v : Value) : Prop :=
  ∃ av cv L, v = .slice av k cv ∧ Items wr w1.heap.size (.slice av k cv) L ∧ vals L = (rotsP n zs k).map (fun z => ((n : Int), z)) ∧ Below w1.heap.size w1 wr ∧ w1.heap.size ≤ wr.heap.size
theorem rots_snoc {n : Nat} {zs : List Int} {k : Nat} {L : List Item} {r : Item} (h : vals L = (rotsP n zs k).map (fun z => ((n : Int), z))) (hs : r.s = n) (hz : r.zs = rotZ n zs 1 k) : vals (L ++ [r]) = (rotsP n zs (k + 1)).map (fun z => ((n : Int), z)) := by
  rw [rotsP_succ, List.map_append, ← h]
  simp [vals, hs, hz]

set_option maxHeartbeats 1000000 in
set_option maxRecDepth 100000 in
theorem rotations_any (n : Nat) (a : Option Addr) (len cap : Nat) (zs : List Int) (w : World) (h : IntsAt w a len zs) (hm : len ≤ 1048576) (ho : Ok n zs) :
    Calls Try.prog 106 #[rhy n a len cap] w (RSPost n (rotsZ n zs) w) := by
  have HS := Lib.hid h
  have HOK := Lib.hid ho
  obtain ⟨hp1, hp2⟩ := per_bd n zs ho.1.1
  have hn24 : n ≤ 24 := by have := ho.1.2; omega
  clear h ho
  go_enter Try.func106, Try.ntmps106
  go_wp2_with fail
  refine (period_any n a len cap zs _ (HS.out.below (bel1 w _)) hm HOK.out).mono ?_
  rintro e w1 ⟨rfl, hb1⟩
  have HB1 := Lib.hid ((bel1 w (.cells #[.int .i64 n, .slice a len cap] 25)).trans (hb1.mono (by simp)))
  have HT1 := Lib.hid ((two_new w (.int .i64 n) (.slice a len cap) 25).keep hb1)
  clear hb1
  go_wp2
  go_loopw [3, 7] (fun v i wr => ∃ k : Nat, k ≤ perZ n zs ∧ i = .int .i64 k ∧ RotsAt n zs k w1 wr v) (fun _ i _ => perZ n zs - (intOf i).toNat)
  case atStart => exact ⟨0, by omega, rfl, none, 0, [], rfl, items_nil _ _, rfl, Below.refl _ _, Nat.le_refl _⟩
  case round =>
    obtain ⟨k, hk, rfl, av, cv, L, rfl, hit, hvl, hnx, hsz⟩ := hrel
    have hlk : L.length = k := by rw [vals_len hvl, List.length_map, rotsP_len]
    have HIT := Lib.hid hit
    have HVL := Lib.hid hvl
    have HX := Lib.hid hnx
    have HZ := Lib.hid hsz
    have HLK := Lib.hid hlk
    have hl1 : L.length ≤ 1000 := by omega
    clear hit hvl hnx hsz hlk
    have HBW := Lib.hid (HB1.out.trans (HX.out.mono HB1.out.size))
    have HI := Lib.hid (HS.out.below HBW.out)
    obtain ⟨x0, x1, x2⟩ := HT1.out.keep HX.out
    by_cases hlt : k < perZ n zs
    · go_wp2_with fail
      refine (moved_of n a len cap zs 1 k _ HI.out hm HOK.out (by omega) (by omega) (by omega) (by omega) (gcd_one n)).mono ?_
      rintro e w2 ⟨b1, c1, rfl, hown, hb2⟩
      have HOW : Hid (w2.ownsRow wr.heap.size 3 1 (Item.slc ⟨n, b1, c1, rotZ n zs 1 k⟩) (rotZ n zs 1 k).length (ints (rotZ n zs 1 k))) := Lib.hid hown
      have HB2 := Lib.hid hb2
      clear hown hb2 x0 x1 x2
      go_wp2_with (at_builtin; refine append_rhy rfl _ _ rfl w1.heap.size (.slice av k cv) L ⟨n, b1, c1, rotZ n zs 1 k⟩ wr w2 HIT.out HB2.out HZ.out (by omega) HOW.out _ rfl rfl rfl ?_; rw [HLK.out]; intro a' c' w3 hit' hb3; have HIT3 := Lib.hid hit'; have HB3 := Lib.hid hb3; clear hit' hb3)
      go_roundw
      case rel =>
        exact ⟨k + 1, by omega, by go_num, a', c', L ++ [⟨n, b1, c1, rotZ n zs 1 k⟩], rfl, HIT3.out, rots_snoc HVL.out rfl rfl, (HX.out.trans (HB2.out.mono HZ.out)).trans HB3.out, Nat.le_trans (Nat.le_trans HZ.out HB2.out.size) HB3.out.size⟩
      case measure => simp [intOf]; omega
    · have e : k = perZ n zs := by omega
      have HE := Lib.hid e
      clear e
      go_wp2
      go_ret
      refine ⟨av, cv, L, ?_, ?_, ?_, HBW.out⟩
      · rw [show (rotsZ n zs).length = k by unfold rotsZ; rw [rotsP_len, HE.out]]; rfl
      · rw [show (rotsZ n zs).length = k by unfold rotsZ; rw [rotsP_len, HE.out]]; exact HIT.out.base HB1.out.size
      · rw [HVL.out, HE.out]; rfl

theorem text_nat (n : Nat) (a : Option Addr) (len cap : Nat) (zs : List Int) (w : World) (h : IntsAt w a len zs) (hl : len ≤ 1048576) (ho : Ok n zs) :
    Calls Try.prog 75 #[rhy n a len cap] w fun e w' => e = .returned (.string (fmtT n zs)) ∧ Below w.heap.size w w' := by
  have := text_any n a len cap zs w h hl ho
  rwa [Int.toNat_natCast] at this
theorem exec_gtr {a : Act} {o : Oper} {x y : Operand} {t r : TypeId} (ho : o.op = .binOp .gtr t x y r) {n : Nat} {xs ys : List Int} (hx : a.eval x = .string (fmtT n xs)) (hy : a.eval y = .string (fmtT n ys)) (w : World) :
    (execOp a.eval o).run Try.prog w = .ok (.value (.bool (afterB n xs ys))) w := by
  have h := text_after n xs ys
  unfold execOp
  simp only [ho, hx, hy, binOp_string_gtr, h]
  simp [eqGuard]

/-- What lastByText leaves: one of the list, as it lies there. -/
def LastPost (n : Nat) (L : List Item) (w : World) (e : Ending) (w' : World) : Prop :=
  ∃ (j : Nat) (r : Item), L[j]? = some r ∧ e = .returned (rhy r.s r.a r.zs.length r.cap) ∧ r.zs = lastL n (L.map (·.zs)) ∧ Below w.heap.size w w'
def LastAt (n : Nat) (L : List Item) (k : Nat) (w wr : World) : Prop :=
  ∃ (j : Nat) (r : Item), L[j]? = some r ∧ r.zs = lastF n ((L.map (·.zs)).headD []) ((L.map (·.zs)).tail.take k) ∧ Box wr w.heap.size (.int .i64 0) (.slice none 0 0) 25 ∧ Box wr (w.heap.size + 1) (.int .i64 n) (.slice r.a r.zs.length r.cap) 25 ∧ Below w.heap.size w wr ∧ w.heap.size + 2 ≤ wr.heap.size
theorem last_start {n : Nat} {L : List Item} {x : Item} (hx : L[0]? = some x) (w : World) : LastAt n L 0 w ((w.alloc (.cells #[.int .i64 0, .slice none 0 0] 25)).alloc (.cells #[.int .i64 n, .slice x.a x.zs.length x.cap] 25)) := by
  refine ⟨0, x, hx, ?_, ?_, ?_, bel2 w _ _, by simp⟩
  · match L, hx with
    | y :: L, hx =>
      obtain rfl : y = x := by simpa using hx
      simp [lastF]
  · exact (box_new w _ _ _).keep (B := w.heap.size + 1) ((Below.refl _ _).alloc (by simp) _) (by omega)
  · have := box_new (w.alloc (.cells #[.int .i64 0, .slice none 0 0] 25)) (.int .i64 n) (.slice x.a x.zs.length x.cap) 25
    simpa using this


set_option maxHeartbeats 2000000 in
set_option maxRecDepth 100000 in
theorem last_any (n : Nat) (v : Value) (L : List Item) (w : World) (h : ItemsAt w v L) (h0 : 0 < L.length) (hl : L.length ≤ 1000) (hok : ∀ (i : Nat) (r : Item), L[i]? = some r → r.s = n ∧ Ok n r.zs) :
    Calls Try.prog 72 #[v] w (LastPost n L w) := by
  obtain ⟨aa, cap, rfl, hlc, hc⟩ := h
  obtain ⟨b, off, rfl, hb, hi⟩ := hc h0
  have HI := Lib.hid hi
  have HOK := Lib.hid hok
  clear hc hi hok
  obtain ⟨x, hx⟩ : ∃ x, L[0]? = some x := ⟨_, List.getElem?_eq_getElem h0⟩
  have HX0 := Lib.hid hx
  have hxs := (HOK.out 0 x hx).1
  have hcx : w.cell? ⟨b, off, none⟩ = some (.int .i64 n) := by have := (HI.out 0 x hx).1; rw [hxs] at this; simpa using this
  have hcy : w.cell? ⟨b, off + 1, none⟩ = some (.slice x.a x.zs.length x.cap) := by have := (HI.out 0 x hx).2.1; simpa [Item.slc] using this
  clear hx hxs
  obtain ⟨W0, hW⟩ : ∃ W0, W0 = (w.alloc (.cells #[.int .i64 0, .slice none 0 0] 25)).alloc (.cells #[.int .i64 n, .slice x.a x.zs.length x.cap] 25) := ⟨_, rfl⟩
  have HW := Lib.hid hW
  have HL0 : Hid (LastAt n L 0 w W0) := Lib.hid (by rw [hW]; exact last_start HX0.out w)
  clear hW
  have hg1 : 1 ≤ L.length := h0
  have hgc : 1 ≤ cap := by omega
  by_cases hcap : cap = 1
  · have hl1 : L.length = 1 := by omega
    have HL1 := Lib.hid hl1
    have HCAP := Lib.hid hcap
    have HE : Hid (lastL n (L.map (·.zs)) = x.zs) := Lib.hid (by
      match L, hl1, HX0.out with
      | [y], _, hx =>
        obtain rfl : y = x := by simpa using hx
        rfl)
    subst hcap
    rw [hl1]
    clear hl1
    go_enter Try.func72, Try.ntmps72
    go_wp2
    rw [← HW.out]
    go_loopw [12] (fun i wr => i = .int .i64 0 ∧ wr = W0) (fun _ _ => 0)
    case atStart => exact ⟨rfl, rfl⟩
    case round =>
      obtain ⟨rfl, rfl⟩ := hrel
      obtain ⟨jj, r, hj, hr, hb0, hb1, hbel, hsz⟩ := HL0.out
      have H1 := Lib.hid hb1
      have HJ := Lib.hid (And.intro hj hr)
      have HBE := Lib.hid hbel
      obtain ⟨c0, c1, f0, f1⟩ := hb0.facts
      obtain ⟨d0, d1, e0, e1⟩ := hb1.facts
      have lt0 := hb0.lt
      have lt1 := hb1.lt
      clear hb0 hb1 hbel hj hr
      go_wp2
      refine bodyPost_ret (v := rhy n r.a r.zs.length r.cap) (by simp [results, Try.results72, go_sem, *]) rfl ⟨jj, r, HJ.out.1, by rw [(HOK.out jj r HJ.out.1).1], ?_, ?_⟩
      · have h2 := HJ.out.2
        rw [h2]
        have hl := HL1.out
        match L, hl with
        | [y], _ => rfl
      · exact (HBE.out.setCell (by simp) _).setCell (by simp) _
  · have hc2 : 1 < cap := by omega
    go_enter Try.func72, Try.ntmps72
    go_wp2
    rw [← HW.out]
    clear hcx hcy
    go_loopw [12] (fun i wr => ∃ k : Nat, k + 1 ≤ L.length ∧ i = .int .i64 k ∧ LastAt n L k w wr) (fun i _ => L.length - (intOf i).toNat)
    case atStart => exact ⟨0, by omega, rfl, HL0.out⟩
    case round =>
      obtain ⟨k, hk, rfl, jj, r, hj, hr, hb0, hb1, hbel, hsz⟩ := hrel
      have HB0 := Lib.hid hb0
      have HB1 := Lib.hid hb1
      have HJ := Lib.hid (And.intro hj hr)
      have HBE := Lib.hid hbel
      have hzr : r.zs.length ≤ 24 := ok_len (HOK.out jj r hj).2
      have HIR := Lib.hid ((HI.out jj r hj).2.2.below hbel)
      have HOR := Lib.hid (HOK.out jj r hj).2
      have hblt : b < wr.heap.size := by omega
      obtain ⟨bl1, bl2⟩ := And.intro hb0.lt hb1.lt
      by_cases hlt : k < L.length - 1
      · obtain ⟨y, hy⟩ : ∃ y, L[k + 1]? = some y := ⟨_, List.getElem?_eq_getElem (by omega)⟩
        have HY := Lib.hid hy
        have hys := (HOK.out (k + 1) y hy).1
        have HOY := Lib.hid (HOK.out (k + 1) y hy).2
        have hzy : y.zs.length ≤ 24 := ok_len HOY.out
        have hyc := HI.out (k + 1) y hy
        have hya : wr.cell? ⟨b, off + 2 + k * 2, none⟩ = some (.int .i64 n) := by
          rw [hbel.cell (p := ⟨b, off + 2 + k * 2, none⟩) hb, show off + 2 + k * 2 = off + (k + 1) * 2 by omega, hyc.1, hys]
        have hyb : wr.cell? ⟨b, off + 2 + k * 2 + 1, none⟩ = some (.slice y.a y.zs.length y.cap) := by
          rw [hbel.cell (p := ⟨b, off + 2 + k * 2 + 1, none⟩) hb, show off + 2 + k * 2 + 1 = off + (k + 1) * 2 + 1 by omega, hyc.2.1]; rfl
        obtain ⟨W1, hW1⟩ : ∃ W1, W1 = wr.alloc (.cells #[.int .i64 n, .slice y.a y.zs.length y.cap] 25) := ⟨_, rfl⟩
        have HW1 := Lib.hid hW1
        have B1 := Lib.hid (show Below wr.heap.size wr W1 by rw [hW1]; exact bel1 _ _)
        have T5 := Lib.hid (show Two W1 wr.heap.size (.int .i64 n) (.slice y.a y.zs.length y.cap) by rw [hW1]; exact two_new _ _ _ _)
        have HB3 := Lib.hid (hb1.keep B1.out bl2)
        have HIY := Lib.hid ((hyc.2.2.below hbel).below B1.out)
        have HIR1 := Lib.hid (HIR.out.below B1.out)
        have HK : Hid (∀ W', Below W1.heap.size W1 W' → W'.cell? ⟨wr.heap.size, 0, none⟩ = some (.int .i64 n) ∧ W'.cell? ⟨wr.heap.size, 1, none⟩ = some (.slice y.a y.zs.length y.cap) ∧ W'.cell? ⟨w.heap.size + 1, 0, none⟩ = some (.int .i64 n) ∧ W'.cell? ⟨w.heap.size + 1, 1, none⟩ = some (.slice r.a r.zs.length r.cap) ∧ Below W1.heap.size W1 W') :=
          Lib.hid (fun W' hW => ⟨(T5.out.keep hW).2.1, (T5.out.keep hW).2.2, (HB3.out.keep hW HB3.out.lt).facts.1, (HB3.out.keep hW HB3.out.lt).facts.2.1, hW⟩)
        clear hy hyc hys hj hr hb0 hb1 hbel hW1
        cases hq : afterB n y.zs r.zs
        · have HQ := Lib.hid hq
          clear hq
          go_wp2
          rw [← HW1.out]
          refine wp_region_held_drew (S := fun W' => W'.cell? ⟨wr.heap.size, 0, none⟩ = some (.int .i64 n) ∧ W'.cell? ⟨wr.heap.size, 1, none⟩ = some (.slice y.a y.zs.length y.cap) ∧ W'.cell? ⟨w.heap.size + 1, 0, none⟩ = some (.int .i64 n) ∧ W'.cell? ⟨w.heap.size + 1, 1, none⟩ = some (.slice r.a r.zs.length r.cap) ∧ Below W1.heap.size W1 W') (by kernel_rfl) (HK.out _ (Below.refl _ _).drew) (fun hS0 => ?_)
          refine wpAnyH_take (i := 0) (oi := ⟨some 16, _, _, _, _, _⟩) (v := rhy n y.a y.zs.length y.cap) rfl (by kernel_rfl) (by kernel_rfl) (by kernel_rfl) (fun _ _ _ h => h) (Or.inl ⟨by rfl, fun w' hSw => by obtain ⟨q1, q2, _⟩ := hSw; go_simp⟩) (by assumption) ?_
          try simp only [Act.put, List.setIfInBounds_toArray, List.set_cons_zero, List.set_cons_succ]
          refine wpAnyH_take (i := 2) (oi := ⟨some 18, _, _, _, _, _⟩) (v := rhy n r.a r.zs.length r.cap) rfl (by kernel_rfl) (by kernel_rfl) (by kernel_rfl) (fun _ _ _ h => h) (Or.inl ⟨by rfl, fun w' hSw => by obtain ⟨_, _, q1, q2, _⟩ := hSw; go_simp⟩) (by assumption) ?_
          try simp only [Act.put, List.setIfInBounds_toArray, List.set_cons_zero, List.set_cons_succ]
          refine wpAnyH_ready (rs := [1]) (by kernel_rfl) (by simp) ?_
          refine AllReadyH.cons rfl (fun K hKK => ?_) AllReadyH.nil
          go_simp
          go_at_call 75
          refine (text_nat n y.a y.zs.length y.cap y.zs _ (HIY.out.below ((Below.refl W1.heap.size W1).drew)) (by omega) HOY.out).mono ?_
          rintro e w2 ⟨rfl, hc⟩
          have hb2 := (Below.refl W1.heap.size W1).drew.trans hc
          clear hc
          refine hKK.out _ _ (HK.out _ hb2) (fun hS2 => ?_)
          clear hKK K
          try simp only [Act.put, List.setIfInBounds_toArray, List.set_cons_zero, List.set_cons_succ]
          refine wpAnyH_ready (rs := [3]) (by kernel_rfl) (by simp) ?_
          refine AllReadyH.cons rfl (fun K hKK => ?_) AllReadyH.nil
          go_simp
          go_at_call 75
          refine (text_nat n r.a r.zs.length r.cap r.zs _ (HIR1.out.below (hb2)) (by omega) HOR.out).mono ?_
          rintro e w3 ⟨rfl, hc⟩
          have hb3 := (hb2).trans (hc.mono (hb2).size)
          clear hc
          refine hKK.out _ _ (HK.out _ hb3) (fun hS3 => ?_)
          clear hKK K
          try simp only [Act.put, List.setIfInBounds_toArray, List.set_cons_zero, List.set_cons_succ]
          refine wpAnyH_take (i := 4) (oi := ⟨some 20, _, _, _, _, _⟩) (v := .bool false) rfl (by kernel_rfl) (by kernel_rfl) (by kernel_rfl) (fun _ _ _ h => h) (Or.inl ⟨by rfl, fun w' hSw => (exec_gtr rfl (n := n) (xs := y.zs) (ys := r.zs) rfl rfl w').trans (by rw [HQ.out])⟩) (by assumption) ?_
          try simp only [Act.put, List.setIfInBounds_toArray, List.set_cons_zero, List.set_cons_succ]
          refine wpAnyH_done (by kernel_rfl) ?_ _
          have HX3 := Lib.hid hb3
          obtain ⟨z0, z1, z2, z3, _⟩ := hS3
          clear hb2 hb3 hS0 hS2 HK
          go_wp2
          go_roundw
          case rel =>
            refine ⟨k + 1, by omega, by go_num, jj, r, HJ.out.1, ?_, (HB0.out.keep B1.out bl1).keep HX3.out (Nat.lt_of_lt_of_le bl1 B1.out.size), HB3.out.keep HX3.out HB3.out.lt, (HBE.out.trans (B1.out.mono HBE.out.size)).trans (HX3.out.mono (Nat.le_trans HBE.out.size B1.out.size)), by have := B1.out.size; have := HX3.out.size; omega⟩
            rw [lastF_snoc (x := y.zs) (by rw [List.getElem?_tail, List.getElem?_map, HY.out]; rfl), ← HJ.out.2]
            unfold pickZ
            rw [HQ.out]; rfl
          case measure => simp [intOf]; omega
        · have HQ := Lib.hid hq
          clear hq
          go_wp2
          rw [← HW1.out]
          refine wp_region_held_drew (S := fun W' => W'.cell? ⟨wr.heap.size, 0, none⟩ = some (.int .i64 n) ∧ W'.cell? ⟨wr.heap.size, 1, none⟩ = some (.slice y.a y.zs.length y.cap) ∧ W'.cell? ⟨w.heap.size + 1, 0, none⟩ = some (.int .i64 n) ∧ W'.cell? ⟨w.heap.size + 1, 1, none⟩ = some (.slice r.a r.zs.length r.cap) ∧ Below W1.heap.size W1 W') (by kernel_rfl) (HK.out _ (Below.refl _ _).drew) (fun hS0 => ?_)
          refine wpAnyH_take (i := 0) (oi := ⟨some 16, _, _, _, _, _⟩) (v := rhy n y.a y.zs.length y.cap) rfl (by kernel_rfl) (by kernel_rfl) (by kernel_rfl) (fun _ _ _ h => h) (Or.inl ⟨by rfl, fun w' hSw => by obtain ⟨q1, q2, _⟩ := hSw; go_simp⟩) (by assumption) ?_
          try simp only [Act.put, List.setIfInBounds_toArray, List.set_cons_zero, List.set_cons_succ]
          refine wpAnyH_take (i := 2) (oi := ⟨some 18, _, _, _, _, _⟩) (v := rhy n r.a r.zs.length r.cap) rfl (by kernel_rfl) (by kernel_rfl) (by kernel_rfl) (fun _ _ _ h => h) (Or.inl ⟨by rfl, fun w' hSw => by obtain ⟨_, _, q1, q2, _⟩ := hSw; go_simp⟩) (by assumption) ?_
          try simp only [Act.put, List.setIfInBounds_toArray, List.set_cons_zero, List.set_cons_succ]
          refine wpAnyH_ready (rs := [1]) (by kernel_rfl) (by simp) ?_
          refine AllReadyH.cons rfl (fun K hKK => ?_) AllReadyH.nil
          go_simp
          go_at_call 75
          refine (text_nat n y.a y.zs.length y.cap y.zs _ (HIY.out.below ((Below.refl W1.heap.size W1).drew)) (by omega) HOY.out).mono ?_
          rintro e w2 ⟨rfl, hc⟩
          have hb2 := (Below.refl W1.heap.size W1).drew.trans hc
          clear hc
          refine hKK.out _ _ (HK.out _ hb2) (fun hS2 => ?_)
          clear hKK K
          try simp only [Act.put, List.setIfInBounds_toArray, List.set_cons_zero, List.set_cons_succ]
          refine wpAnyH_ready (rs := [3]) (by kernel_rfl) (by simp) ?_
          refine AllReadyH.cons rfl (fun K hKK => ?_) AllReadyH.nil
          go_simp
          go_at_call 75
          refine (text_nat n r.a r.zs.length r.cap r.zs _ (HIR1.out.below (hb2)) (by omega) HOR.out).mono ?_
          rintro e w3 ⟨rfl, hc⟩
          have hb3 := (hb2).trans (hc.mono (hb2).size)
          clear hc
          refine hKK.out _ _ (HK.out _ hb3) (fun hS3 => ?_)
          clear hKK K
          try simp only [Act.put, List.setIfInBounds_toArray, List.set_cons_zero, List.set_cons_succ]
          refine wpAnyH_take (i := 4) (oi := ⟨some 20, _, _, _, _, _⟩) (v := .bool true) rfl (by kernel_rfl) (by kernel_rfl) (by kernel_rfl) (fun _ _ _ h => h) (Or.inl ⟨by rfl, fun w' hSw => (exec_gtr rfl (n := n) (xs := y.zs) (ys := r.zs) rfl rfl w').trans (by rw [HQ.out])⟩) (by assumption) ?_
          try simp only [Act.put, List.setIfInBounds_toArray, List.set_cons_zero, List.set_cons_succ]
          refine wpAnyH_done (by kernel_rfl) ?_ _
          have HX3 := Lib.hid hb3
          obtain ⟨z0, z1, z2, z3, _⟩ := hS3
          clear hb2 hb3 hS0 hS2 HK
          have HB4 := Lib.hid (HB3.out.keep HX3.out HB3.out.lt)
          have HB5 := Lib.hid ((HB0.out.keep B1.out bl1).keep HX3.out (Nat.lt_of_lt_of_le bl1 B1.out.size))
          obtain ⟨_, _, f0, f1⟩ := HB4.out.facts
          have lt4 := HB4.out.lt
          go_wp2
          go_roundw
          case rel =>
            refine ⟨k + 1, by omega, by go_num, k + 1, y, HY.out, ?_, (HB5.out.other _ (by omega)).other _ (by omega), (HB4.out.set0 _).set1 _, ((((HBE.out.trans (B1.out.mono HBE.out.size)).trans (HX3.out.mono (Nat.le_trans HBE.out.size B1.out.size))).setCell (by simp) _).setCell (by simp) _), by have := B1.out.size; have := HX3.out.size; simp; omega⟩
            rw [lastF_snoc (x := y.zs) (by rw [List.getElem?_tail, List.getElem?_map, HY.out]; rfl), ← HJ.out.2]
            unfold pickZ
            rw [HQ.out]; rfl
          case measure => simp [intOf]; omega
      · have e : k = L.length - 1 := by omega
        have HE : Hid ((L.map (·.zs)).tail.take k = (L.map (·.zs)).tail) := Lib.hid (List.take_of_length_le (by simp; omega))
        obtain ⟨c0, c1, f0, f1⟩ := hb0.facts
        obtain ⟨d0, d1, e0, e1⟩ := hb1.facts
        clear hb0 hb1 hbel hj hr e
        go_wp2
        refine bodyPost_ret (v := rhy n r.a r.zs.length r.cap) (by simp [results, Try.results72, go_sem, *]) rfl ⟨jj, r, HJ.out.1, by rw [(HOK.out jj r HJ.out.1).1], ?_, ?_⟩
        · rw [HJ.out.2, HE.out]; rfl
        · exact (HBE.out.setCell (by simp) _).setCell (by simp) _

end Go.Proofs.Ytcppmcacjjjjeaa.Rhy
