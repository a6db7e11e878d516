/-
  Helpers of the claims beside this text: the program's rotations, the last of some rhythms in the order of texts, the least rotation.
-/
import Derived.Test.YtjgjcppkbfojpaaItm
import Derived.Test.YtjgjcppkbfojpaaFma
import Derived.Test.YtjgjcppkbfojpaaFmt
import Derived.Test.YtjgjcppkbfojpaaLst
namespace Go.Proofs.Ytjgjcppkbfojpaa.Rhy
open Go.RowKit
set_option linter.unusedVariables false

/-- The turns by 0 up to k, in a list of the call's own. -/
def RotsAt (n : Nat) (zs : List Int) (k : Nat) (w1 wr : World) (v : Value) : Prop :=
  ∃ av cv L, v = .slice av k cv ∧ Items wr w1.heap.size (.slice av k cv) L ∧ vals L = (rotsP n zs k).map (fun z => ((n : Int), z)) ∧ Below w1.heap.size w1 wr ∧ w1.heap.size ≤ wr.heap.size
theorem rots_snoc {n : Nat} {zs : List Int} {k : Nat} {L : List Item} {r : Item} (h : vals L = (rotsP n zs k).map (fun z => ((n : Int), z))) (hs : r.s = n) (hz : r.zs = rotZ n zs 1 k) : vals (L ++ [r]) = (rotsP n zs (k + 1)).map (fun z => ((n : Int), z)) := by
  rw [rotsP_succ, List.map_append, ← h]
  simp [vals, hs, hz]

set_option maxHeartbeats 1000000 in
set_option maxRecDepth 100000 in
theorem rotations_any (n : Nat) (a : Option Addr) (len cap : Nat) (zs : List Int) (w : World) (h : IntsAt w a len zs) (hm : len ≤ 1048576) (ho : Ok n zs) :
    Calls Try.prog 118 #[rhy n a len cap] w (RSPost n (rotsZ n zs) w) := by
  have HS := Lib.hid h
  have HOK := Lib.hid ho
  obtain ⟨hp1, hp2⟩ := per_bd n zs ho.1.1
  have hn24 : n ≤ 24 := by have := ho.1.2; omega
  clear h ho
  go_enter Try.func118, Try.ntmps118
  go_wp2_with fail
  refine (period_any n a len cap zs _ (HS.out.below (bel1 w _)) hm HOK.out).mono ?_
  rintro e w1 ⟨rfl, hb1⟩
  have HB1 := Lib.hid ((bel1 w (.cells #[.int .i64 n, .slice a len cap] 25)).trans (hb1.mono (by simp)))
  have HT1 := Lib.hid ((two_new w (.int .i64 n) (.slice a len cap) 25).keep hb1)
  clear hb1
  go_wp2
  go_loopw [3, 7] (fun v i wr => ∃ k : Nat, k ≤ perZ n zs ∧ i = .int .i64 k ∧ RotsAt n zs k w1 wr v) (fun _ i _ => perZ n zs - (intOf i).toNat)
  case atStart => exact ⟨0, by omega, rfl, none, 0, [], rfl, items_nil _ _, rfl, Below.refl _ _, Nat.le_refl _⟩
  case round =>
    obtain ⟨k, hk, rfl, av, cv, L, rfl, hit, hvl, hnx, hsz⟩ := hrel
    have hlk : L.length = k := by rw [vals_len hvl, List.length_map, rotsP_len]
    have HIT := Lib.hid hit
    have HVL := Lib.hid hvl
    have HX := Lib.hid hnx
    have HZ := Lib.hid hsz
    have HLK := Lib.hid hlk
    have hl1 : L.length ≤ 1000 := by omega
    clear hit hvl hnx hsz hlk
    have HBW := Lib.hid (HB1.out.trans (HX.out.mono HB1.out.size))
    have HI := Lib.hid (HS.out.below HBW.out)
    obtain ⟨x0, x1, x2⟩ := HT1.out.keep HX.out
    by_cases hlt : k < perZ n zs
    · go_wp2_with fail
      refine (moved_of n a len cap zs 1 k _ HI.out hm HOK.out (by omega) (by omega) (by omega) (by omega) (gcd_one n)).mono ?_
      rintro e w2 ⟨b1, c1, rfl, hown, hb2⟩
      have HOW : Hid (w2.ownsRow wr.heap.size 3 1 (Item.slc ⟨n, b1, c1, rotZ n zs 1 k⟩) (rotZ n zs 1 k).length (ints (rotZ n zs 1 k))) := Lib.hid hown
      have HB2 := Lib.hid hb2
      clear hown hb2 x0 x1 x2
      go_wp2_with (at_builtin; refine append_rhy rfl _ _ rfl w1.heap.size (.slice av k cv) L ⟨n, b1, c1, rotZ n zs 1 k⟩ wr w2 HIT.out HB2.out HZ.out (by omega) HOW.out _ rfl rfl rfl ?_; rw [HLK.out]; intro a' c' w3 hit' hb3; have HIT3 := Lib.hid hit'; have HB3 := Lib.hid hb3; clear hit' hb3)
      go_roundw
      case rel =>
        exact ⟨k + 1, by omega, by go_num, a', c', L ++ [⟨n, b1, c1, rotZ n zs 1 k⟩], rfl, HIT3.out, rots_snoc HVL.out rfl rfl, (HX.out.trans (HB2.out.mono HZ.out)).trans HB3.out, Nat.le_trans (Nat.le_trans HZ.out HB2.out.size) HB3.out.size⟩
      case measure => simp [intOf]; omega
    · have e : k = perZ n zs := by omega
      have HE := Lib.hid e
      clear e
      go_wp2
      go_ret
      refine ⟨av, cv, L, ?_, ?_, ?_, HBW.out⟩
      · rw [show (rotsZ n zs).length = k by unfold rotsZ; rw [rotsP_len, HE.out]]; rfl
      · rw [show (rotsZ n zs).length = k by unfold rotsZ; rw [rotsP_len, HE.out]]; exact HIT.out.base HB1.out.size
      · rw [HVL.out, HE.out]; rfl

theorem text_nat (n : Nat) (a : Option Addr) (len cap : Nat) (zs : List Int) (w : World) (h : IntsAt w a len zs) (hl : len ≤ 1048576) (ho : Ok n zs) :
    Calls Try.prog 76 #[rhy n a len cap] w fun e w' => e = .returned (.string (fmtT n zs)) ∧ Below w.heap.size w w' := by
  have := text_any n a len cap zs w h hl ho
  rwa [Int.toNat_natCast] at this
theorem exec_gtr {a : Act} {o : Oper} {x y : Operand} {t r : TypeId} (ho : o.op = .binOp .gtr t x y r) {n : Nat} {xs ys : List Int} (hx : a.eval x = .string (fmtT n xs)) (hy : a.eval y = .string (fmtT n ys)) (w : World) :
    (execOp a.eval o).run Try.prog w = .ok (.value (.bool (afterB n xs ys))) w := by
  have h := text_after n xs ys
  unfold execOp
  simp only [ho, hx, hy, binOp_string_gtr, h]
  simp [eqGuard]

/-- What lastByText leaves: one of the list, as it lies there. -/
def LastPost (n : Nat) (L : List Item) (w : World) (e : Ending) (w' : World) : Prop :=
  ∃ (j : Nat) (r : Item), L[j]? = some r ∧ e = .returned (rhy r.s r.a r.zs.length r.cap) ∧ r.zs = lastL n (L.map (·.zs)) ∧ Below w.heap.size w w'
def LastAt (n : Nat) (L : List Item) (k : Nat) (w wr : World) : Prop :=
  ∃ (j : Nat) (r : Item), L[j]? = some r ∧ r.zs = lastF n ((L.map (·.zs)).headD []) ((L.map (·.zs)).tail.take k) ∧ Box wr w.heap.size (.int .i64 0) (.slice none 0 0) 25 ∧ Box wr (w.heap.size + 1) (.int .i64 n) (.slice r.a r.zs.length r.cap) 25 ∧ Below w.heap.size w wr ∧ w.heap.size + 2 ≤ wr.heap.size
theorem last_start {n : Nat} {L : List Item} {x : Item} (hx : L[0]? = some x) (w : World) : LastAt n L 0 w ((w.alloc (.cells #[.int .i64 0, .slice none 0 0] 25)).alloc (.cells #[.int .i64 n, .slice x.a x.zs.length x.cap] 25)) := by
  refine ⟨0, x, hx, ?_, ?_, ?_, bel2 w _ _, by simp⟩
  · match L, hx with
    | y :: L, hx =>
      obtain rfl : y = x := by simpa using hx
      simp [lastF]
  · exact (box_new w _ _ _).keep (B := w.heap.size + 1) ((Below.refl _ _).alloc (by simp) _) (by omega)
  · have := box_new (w.alloc (.cells #[.int .i64 0, .slice none 0 0] 25)) (.int .i64 n) (.slice x.a x.zs.length x.cap) 25
    simpa using this


set_option maxHeartbeats 2000000 in
set_option maxRecDepth 100000 in
theorem last_any (n : Nat) (v : Value) (L : List Item) (w : World) (h : ItemsAt w v L) (h0 : 0 < L.length) (hl : L.length ≤ 1000) (hok : ∀ (i : Nat) (r : Item), L[i]? = some r → r.s = n ∧ Ok n r.zs) :
    Calls Try.prog 72 #[v] w (LastPost n L w) := by
  obtain ⟨aa, cap, rfl, hlc, hc⟩ := h
  obtain ⟨b, off, rfl, hb, hi⟩ := hc h0
  have HI := Lib.hid hi
  have HOK := Lib.hid hok
  clear hc hi hok
  obtain ⟨x, hx⟩ : ∃ x, L[0]? = some x := ⟨_, List.getElem?_eq_getElem h0⟩
  have HX0 := Lib.hid hx
  have hxs := (HOK.out 0 x hx).1
  have hcx : w.cell? ⟨b, off, none⟩ = some (.int .i64 n) := by have := (HI.out 0 x hx).1; rw [hxs] at this; simpa using this
  have hcy : w.cell? ⟨b, off + 1, none⟩ = some (.slice x.a x.zs.length x.cap) := by have := (HI.out 0 x hx).2.1; simpa [Item.slc] using this
  clear hx hxs
  obtain ⟨W0, hW⟩ : ∃ W0, W0 = (w.alloc (.cells #[.int .i64 0, .slice none 0 0] 25)).alloc (.cells #[.int .i64 n, .slice x.a x.zs.length x.cap] 25) := ⟨_, rfl⟩
  have HW := Lib.hid hW
  have HL0 : Hid (LastAt n L 0 w W0) := Lib.hid (by rw [hW]; exact last_start HX0.out w)
  clear hW
  have hg1 : 1 ≤ L.length := h0
  have hgc : 1 ≤ cap := by omega
  by_cases hcap : cap = 1
  · have hl1 : L.length = 1 := by omega
    have HL1 := Lib.hid hl1
    have HCAP := Lib.hid hcap
    have HE : Hid (lastL n (L.map (·.zs)) = x.zs) := Lib.hid (by
      match L, hl1, HX0.out with
      | [y], _, hx =>
        obtain rfl : y = x := by simpa using hx
        rfl)
    subst hcap
    rw [hl1]
    clear hl1
    go_enter Try.func72, Try.ntmps72
    go_wp2
    rw [← HW.out]
    go_loopw [12] (fun i wr => i = .int .i64 0 ∧ wr = W0) (fun _ _ => 0)
    case atStart => exact ⟨rfl, rfl⟩
    case round =>
      obtain ⟨rfl, rfl⟩ := hrel
      obtain ⟨jj, r, hj, hr, hb0, hb1, hbel, hsz⟩ := HL0.out
      have H1 := Lib.hid hb1
      have HJ := Lib.hid (And.intro hj hr)
      have HBE := Lib.hid hbel
      obtain ⟨c0, c1, f0, f1⟩ := hb0.facts
      obtain ⟨d0, d1, e0, e1⟩ := hb1.facts
      have lt0 := hb0.lt
      have lt1 := hb1.lt
      clear hb0 hb1 hbel hj hr
      go_wp2
      refine bodyPost_ret (v := rhy n r.a r.zs.length r.cap) (by simp [results, Try.results72, go_sem, *]) rfl ⟨jj, r, HJ.out.1, by rw [(HOK.out jj r HJ.out.1).1], ?_, ?_⟩
      · have h2 := HJ.out.2
        rw [h2]
        have hl := HL1.out
        match L, hl with
        | [y], _ => rfl
      · exact (HBE.out.setCell (by simp) _).setCell (by simp) _
  · have hc2 : 1 < cap := by omega
    go_enter Try.func72, Try.ntmps72
    go_wp2
    rw [← HW.out]
    clear hcx hcy
    go_loopw [12] (fun i wr => ∃ k : Nat, k + 1 ≤ L.length ∧ i = .int .i64 k ∧ LastAt n L k w wr) (fun i _ => L.length - (intOf i).toNat)
    case atStart => exact ⟨0, by omega, rfl, HL0.out⟩
    case round =>
      obtain ⟨k, hk, rfl, jj, r, hj, hr, hb0, hb1, hbel, hsz⟩ := hrel
      have HB0 := Lib.hid hb0
      have HB1 := Lib.hid hb1
      have HJ := Lib.hid (And.intro hj hr)
      have HBE := Lib.hid hbel
      have hzr : r.zs.length ≤ 24 := ok_len (HOK.out jj r hj).2
      have HIR := Lib.hid ((HI.out jj r hj).2.2.below hbel)
      have HOR := Lib.hid (HOK.out jj r hj).2
      have hblt : b < wr.heap.size := by omega
      obtain ⟨bl1, bl2⟩ := And.intro hb0.lt hb1.lt
      by_cases hlt : k < L.length - 1
      · obtain ⟨y, hy⟩ : ∃ y, L[k + 1]? = some y := ⟨_, List.getElem?_eq_getElem (by omega)⟩
        have HY := Lib.hid hy
        have hys := (HOK.out (k + 1) y hy).1
        have HOY := Lib.hid (HOK.out (k + 1) y hy).2
        have hzy : y.zs.length ≤ 24 := ok_len HOY.out
        have hyc := HI.out (k + 1) y hy
        have hya : wr.cell? ⟨b, off + 2 + k * 2, none⟩ = some (.int .i64 n) := by
          rw [hbel.cell (p := ⟨b, off + 2 + k * 2, none⟩) hb, show off + 2 + k * 2 = off + (k + 1) * 2 by omega, hyc.1, hys]
        have hyb : wr.cell? ⟨b, off + 2 + k * 2 + 1, none⟩ = some (.slice y.a y.zs.length y.cap) := by
          rw [hbel.cell (p := ⟨b, off + 2 + k * 2 + 1, none⟩) hb, show off + 2 + k * 2 + 1 = off + (k + 1) * 2 + 1 by omega, hyc.2.1]; rfl
        obtain ⟨W1, hW1⟩ : ∃ W1, W1 = wr.alloc (.cells #[.int .i64 n, .slice y.a y.zs.length y.cap] 25) := ⟨_, rfl⟩
        have HW1 := Lib.hid hW1
        have B1 := Lib.hid (show Below wr.heap.size wr W1 by rw [hW1]; exact bel1 _ _)
        have T5 := Lib.hid (show Two W1 wr.heap.size (.int .i64 n) (.slice y.a y.zs.length y.cap) by rw [hW1]; exact two_new _ _ _ _)
        have HB3 := Lib.hid (hb1.keep B1.out bl2)
        have HIY := Lib.hid ((hyc.2.2.below hbel).below B1.out)
        have HIR1 := Lib.hid (HIR.out.below B1.out)
        have HK : Hid (∀ W', Below W1.heap.size W1 W' → W'.cell? ⟨wr.heap.size, 0, none⟩ = some (.int .i64 n) ∧ W'.cell? ⟨wr.heap.size, 1, none⟩ = some (.slice y.a y.zs.length y.cap) ∧ W'.cell? ⟨w.heap.size + 1, 0, none⟩ = some (.int .i64 n) ∧ W'.cell? ⟨w.heap.size + 1, 1, none⟩ = some (.slice r.a r.zs.length r.cap) ∧ Below W1.heap.size W1 W') :=
          Lib.hid (fun W' hW => ⟨(T5.out.keep hW).2.1, (T5.out.keep hW).2.2, (HB3.out.keep hW HB3.out.lt).facts.1, (HB3.out.keep hW HB3.out.lt).facts.2.1, hW⟩)
        clear hy hyc hys hj hr hb0 hb1 hbel hW1
        cases hq : afterB n y.zs r.zs
        · have HQ := Lib.hid hq
          clear hq
          go_wp2
          rw [← HW1.out]
          refine wp_region_held_drew (S := fun W' => W'.cell? ⟨wr.heap.size, 0, none⟩ = some (.int .i64 n) ∧ W'.cell? ⟨wr.heap.size, 1, none⟩ = some (.slice y.a y.zs.length y.cap) ∧ W'.cell? ⟨w.heap.size + 1, 0, none⟩ = some (.int .i64 n) ∧ W'.cell? ⟨w.heap.size + 1, 1, none⟩ = some (.slice r.a r.zs.length r.cap) ∧ Below W1.heap.size W1 W') (by kernel_rfl) (HK.out _ (Below.refl _ _).drew) (fun hS0 => ?_)
          refine wpAnyH_take (i := 0) (oi := ⟨some 16, _, _, _, _, _⟩) (v := rhy n y.a y.zs.length y.cap) rfl (by kernel_rfl) (by kernel_rfl) (by kernel_rfl) (fun _ _ _ h => h) (Or.inl ⟨by rfl, fun w' hSw => by obtain ⟨q1, q2, _⟩ := hSw; go_simp⟩) (by assumption) ?_
          try simp only [Act.put, List.setIfInBounds_toArray, List.set_cons_zero, List.set_cons_succ]
          refine wpAnyH_take (i := 2) (oi := ⟨some 18, _, _, _, _, _⟩) (v := rhy n r.a r.zs.length r.cap) rfl (by kernel_rfl) (by kernel_rfl) (by kernel_rfl) (fun _ _ _ h => h) (Or.inl ⟨by rfl, fun w' hSw => by obtain ⟨_, _, q1, q2, _⟩ := hSw; go_simp⟩) (by assumption) ?_
          try simp only [Act.put, List.setIfInBounds_toArray, List.set_cons_zero, List.set_cons_succ]
          refine wpAnyH_ready (rs := [1]) (by kernel_rfl) (by simp) ?_
          refine AllReadyH.cons rfl (fun K hKK => ?_) AllReadyH.nil
          go_simp
          go_at_call 76
          refine (text_nat n y.a y.zs.length y.cap y.zs _ (HIY.out.below ((Below.refl W1.heap.size W1).drew)) (by omega) HOY.out).mono ?_
          rintro e w2 ⟨rfl, hc⟩
          have hb2 := (Below.refl W1.heap.size W1).drew.trans hc
          clear hc
          refine hKK.out _ _ (HK.out _ hb2) (fun hS2 => ?_)
          clear hKK K
          try simp only [Act.put, List.setIfInBounds_toArray, List.set_cons_zero, List.set_cons_succ]
          refine wpAnyH_ready (rs := [3]) (by kernel_rfl) (by simp) ?_
          refine AllReadyH.cons rfl (fun K hKK => ?_) AllReadyH.nil
          go_simp
          go_at_call 76
          refine (text_nat n r.a r.zs.length r.cap r.zs _ (HIR1.out.below (hb2)) (by omega) HOR.out).mono ?_
          rintro e w3 ⟨rfl, hc⟩
          have hb3 := (hb2).trans (hc.mono (hb2).size)
          clear hc
          refine hKK.out _ _ (HK.out _ hb3) (fun hS3 => ?_)
          clear hKK K
          try simp only [Act.put, List.setIfInBounds_toArray, List.set_cons_zero, List.set_cons_succ]
          refine wpAnyH_take (i := 4) (oi := ⟨some 20, _, _, _, _, _⟩) (v := .bool false) rfl (by kernel_rfl) (by kernel_rfl) (by kernel_rfl) (fun _ _ _ h => h) (Or.inl ⟨by rfl, fun w' hSw => (exec_gtr rfl (n := n) (xs := y.zs) (ys := r.zs) rfl rfl w').trans (by rw [HQ.out])⟩) (by assumption) ?_
          try simp only [Act.put, List.setIfInBounds_toArray, List.set_cons_zero, List.set_cons_succ]
          refine wpAnyH_done (by kernel_rfl) ?_ _
          have HX3 := Lib.hid hb3
          obtain ⟨z0, z1, z2, z3, _⟩ := hS3
          clear hb2 hb3 hS0 hS2 HK
          go_wp2
          go_roundw
          case rel =>
            refine ⟨k + 1, by omega, by go_num, jj, r, HJ.out.1, ?_, (HB0.out.keep B1.out bl1).keep HX3.out (Nat.lt_of_lt_of_le bl1 B1.out.size), HB3.out.keep HX3.out HB3.out.lt, (HBE.out.trans (B1.out.mono HBE.out.size)).trans (HX3.out.mono (Nat.le_trans HBE.out.size B1.out.size)), by have := B1.out.size; have := HX3.out.size; omega⟩
            rw [lastF_snoc (x := y.zs) (by rw [List.getElem?_tail, List.getElem?_map, HY.out]; rfl), ← HJ.out.2]
            unfold pickZ
            rw [HQ.out]; rfl
          case measure => simp [intOf]; omega
        · have HQ := Lib.hid hq
          clear hq
          go_wp2
          rw [← HW1.out]
          refine wp_region_held_drew (S := fun W' => W'.cell? ⟨wr.heap.size, 0, none⟩ = some (.int .i64 n) ∧ W'.cell? ⟨wr.heap.size, 1, none⟩ = some (.slice y.a y.zs.length y.cap) ∧ W'.cell? ⟨w.heap.size + 1, 0, none⟩ = some (.int .i64 n) ∧ W'.cell? ⟨w.heap.size + 1, 1, none⟩ = some (.slice r.a r.zs.length r.cap) ∧ Below W1.heap.size W1 W') (by kernel_rfl) (HK.out _ (Below.refl _ _).drew) (fun hS0 => ?_)
          refine wpAnyH_take (i := 0) (oi := ⟨some 16, _, _, _, _, _⟩) (v := rhy n y.a y.zs.length y.cap) rfl (by kernel_rfl) (by kernel_rfl) (by kernel_rfl) (fun _ _ _ h => h) (Or.inl ⟨by rfl, fun w' hSw => by obtain ⟨q1, q2, _⟩ := hSw; go_simp⟩) (by assumption) ?_
          try simp only [Act.put, List.setIfInBounds_toArray, List.set_cons_zero, List.set_cons_succ]
          refine wpAnyH_take (i := 2) (oi := ⟨some 18, _, _, _, _, _⟩) (v := rhy n r.a r.zs.length r.cap) rfl (by kernel_rfl) (by kernel_rfl) (by kernel_rfl) (fun _ _ _ h => h) (Or.inl ⟨by rfl, fun w' hSw => by obtain ⟨_, _, q1, q2, _⟩ := hSw; go_simp⟩) (by assumption) ?_
          try simp only [Act.put, List.setIfInBounds_toArray, List.set_cons_zero, List.set_cons_succ]
          refine wpAnyH_ready (rs := [1]) (by kernel_rfl) (by simp) ?_
          refine AllReadyH.cons rfl (fun K hKK => ?_) AllReadyH.nil
          go_simp
          go_at_call 76
          refine (text_nat n y.a y.zs.length y.cap y.zs _ (HIY.out.below ((Below.refl W1.heap.size W1).drew)) (by omega) HOY.out).mono ?_
          rintro e w2 ⟨rfl, hc⟩
          have hb2 := (Below.refl W1.heap.size W1).drew.trans hc
          clear hc
          refine hKK.out _ _ (HK.out _ hb2) (fun hS2 => ?_)
          clear hKK K
          try simp only [Act.put, List.setIfInBounds_toArray, List.set_cons_zero, List.set_cons_succ]
          refine wpAnyH_ready (rs := [3]) (by kernel_rfl) (by simp) ?_
          refine AllReadyH.cons rfl (fun K hKK => ?_) AllReadyH.nil
          go_simp
          go_at_call 76
          refine (text_nat n r.a r.zs.length r.cap r.zs _ (HIR1.out.below (hb2)) (by omega) HOR.out).mono ?_
          rintro e w3 ⟨rfl, hc⟩
          have hb3 := (hb2).trans (hc.mono (hb2).size)
          clear hc
          refine hKK.out _ _ (HK.out _ hb3) (fun hS3 => ?_)
          clear hKK K
          try simp only [Act.put, List.setIfInBounds_toArray, List.set_cons_zero, List.set_cons_succ]
          refine wpAnyH_take (i := 4) (oi := ⟨some 20, _, _, _, _, _⟩) (v := .bool true) rfl (by kernel_rfl) (by kernel_rfl) (by kernel_rfl) (fun _ _ _ h => h) (Or.inl ⟨by rfl, fun w' hSw => (exec_gtr rfl (n := n) (xs := y.zs) (ys := r.zs) rfl rfl w').trans (by rw [HQ.out])⟩) (by assumption) ?_
          try simp only [Act.put, List.setIfInBounds_toArray, List.set_cons_zero, List.set_cons_succ]
          refine wpAnyH_done (by kernel_rfl) ?_ _
          have HX3 := Lib.hid hb3
          obtain ⟨z0, z1, z2, z3, _⟩ := hS3
          clear hb2 hb3 hS0 hS2 HK
          have HB4 := Lib.hid (HB3.out.keep HX3.out HB3.out.lt)
          have HB5 := Lib.hid ((HB0.out.keep B1.out bl1).keep HX3.out (Nat.lt_of_lt_of_le bl1 B1.out.size))
          obtain ⟨_, _, f0, f1⟩ := HB4.out.facts
          have lt4 := HB4.out.lt
          go_wp2
          go_roundw
          case rel =>
            refine ⟨k + 1, by omega, by go_num, k + 1, y, HY.out, ?_, (HB5.out.other _ (by omega)).other _ (by omega), (HB4.out.set0 _).set1 _, ((((HBE.out.trans (B1.out.mono HBE.out.size)).trans (HX3.out.mono (Nat.le_trans HBE.out.size B1.out.size))).setCell (by simp) _).setCell (by simp) _), by have := B1.out.size; have := HX3.out.size; simp; omega⟩
            rw [lastF_snoc (x := y.zs) (by rw [List.getElem?_tail, List.getElem?_map, HY.out]; rfl), ← HJ.out.2]
            unfold pickZ
            rw [HQ.out]; rfl
          case measure => simp [intOf]; omega
      · have e : k = L.length - 1 := by omega
        have HE : Hid ((L.map (·.zs)).tail.take k = (L.map (·.zs)).tail) := Lib.hid (List.take_of_length_le (by simp; omega))
        obtain ⟨c0, c1, f0, f1⟩ := hb0.facts
        obtain ⟨d0, d1, e0, e1⟩ := hb1.facts
        clear hb0 hb1 hbel hj hr e
        go_wp2
        refine bodyPost_ret (v := rhy n r.a r.zs.length r.cap) (by simp [results, Try.results72, go_sem, *]) rfl ⟨jj, r, HJ.out.1, by rw [(HOK.out jj r HJ.out.1).1], ?_, ?_⟩
        · rw [HJ.out.2, HE.out]; rfl
        · exact (HBE.out.setCell (by simp) _).setCell (by simp) _

end Go.Proofs.Ytjgjcppkbfojpaa.Rhy

/-
  Helpers of the claims beside this text: least rotations of both sides, LeastRotation.
-/
namespace Go.Proofs.Ytjgjcppkbfojpaa.Rhy
open Go.RowKit
set_option linter.unusedVariables false

theorem vals_zs {L : List Item} {P : List (List Int)} {s : Int} (h : vals L = P.map (fun zs => (s, zs))) : L.map (·.zs) = P := by
  have := congrArg (List.map (·.2)) h
  simp only [vals, List.map_map] at this
  have e : (fun x : Item => x.zs) = ((fun x : Int × List Int => x.2) ∘ fun r : Item => (r.s, r.zs)) := rfl
  rw [e, this]
  have e2 : ((fun x : Int × List Int => x.2) ∘ fun zs => (s, zs)) = id := rfl
  rw [e2, List.map_id]
theorem vals_item {L : List Item} {P : List (List Int)} {s : Int} (h : vals L = P.map (fun zs => (s, zs))) {i : Nat} {r : Item} (hi : L[i]? = some r) : r.s = s ∧ r.zs ∈ P := by
  have := vals_at h hi
  rw [List.getElem?_map, Option.map_eq_some_iff] at this
  obtain ⟨z, hz, he⟩ := this
  simp only [Prod.mk.injEq] at he
  exact ⟨he.1.symm, he.2 ▸ List.mem_of_getElem? hz⟩
theorem rots_ok {n : Int} {zs : List Int} (ho : Ok n zs) {x : List Int} (h : x ∈ rotsZ n zs) : Ok n x := by
  unfold rotsZ rotsP at h
  rw [List.mem_map] at h
  obtain ⟨k, _, rfl⟩ := h
  exact rot_ok ho.1 _ _
theorem ok_int {n : Int} {zs : List Int} (h : Ok n zs) : AllInt zs := fun z hz => by have := ok_range h z hz; have := h.1; omega

set_option maxHeartbeats 1000000 in
set_option maxRecDepth 100000 in
theorem leastRot_any (n : Nat) (a : Option Addr) (len cap : Nat) (zs : List Int) (w : World) (h : IntsAt w a len zs) (hm : len ≤ 1048576) (ho : Ok n zs) :
    Calls Try.prog 73 #[rhy n a len cap] w (RhyPost n (leastZ n zs) w) := by
  have HS := Lib.hid h
  have HOK := Lib.hid ho
  obtain ⟨hp1, hp2⟩ := per_bd n zs ho.1.1
  have hn24 : n ≤ 24 := by have := ho.1.2; omega
  clear h ho
  obtain ⟨W0, hW⟩ : ∃ W0, W0 = (w.alloc (.cells #[.int .i64 n, .slice a len cap] 25)).alloc (.cells #[.int .i64 0, .slice none 0 0] 25) := ⟨_, rfl⟩
  have HW := Lib.hid hW
  have HB := Lib.hid (show Below w.heap.size w W0 by rw [hW]; exact bel2 w _ _)
  have HU := Lib.hid (show Box W0 (w.heap.size + 1) (.int .i64 0) (.slice none 0 0) 25 by
    rw [hW]
    have := box_new (w.alloc (.cells #[.int .i64 n, .slice a len cap] 25)) (.int .i64 0) (.slice none 0 0) 25
    simpa using this)
  have hz0 := HU.out.lt
  clear hW
  go_enter Try.func73, Try.ntmps73
  go_wp2_with fail
  rw [← HW.out]
  refine (rotations_any n a len cap zs _ (HS.out.below HB.out) hm HOK.out).mono ?_
  rintro e w1 ⟨av, cv, L, rfl, hit, hvl, hb1⟩
  have HIT := Lib.hid hit
  have HVL := Lib.hid hvl
  have B1 := Lib.hid hb1
  have hlen : L.length = perZ n zs := by rw [vals_len hvl, List.length_map]; unfold rotsZ; exact rotsP_len _ _ _
  have hl0 : 0 < L.length := by omega
  have hl1 : L.length ≤ 1000 := by omega
  have HOKS : Hid (∀ (i : Nat) (r : Item), L[i]? = some r → r.s = n ∧ Ok n r.zs) := Lib.hid (fun i r hi => ⟨(vals_item HVL.out hi).1, rots_ok HOK.out (vals_item HVL.out hi).2⟩)
  have HAT := Lib.hid (HIT.out.at (fun i r hi => ok_int (HOKS.out i r hi).2))
  clear hit hvl hb1 hlen
  go_wp2_with fail
  refine (last_any n _ L w1 HAT.out hl0 hl1 HOKS.out).mono ?_
  rintro e w2 ⟨j, r, hj, rfl, hz, hb2⟩
  have hrs := (HOKS.out j r hj).1
  have HZ : Hid (r.zs = leastZ n zs) := Lib.hid (by rw [hz, vals_zs HVL.out, ← last_rots HOK.out, Int.toNat_natCast])
  have HOW := Lib.hid (own_below (HIT.out.each j r hj) hb2)
  have hb2' : Below w1.heap.size w1 w2 := hb2
  have HB2 := Lib.hid hb2'
  have U2 := Lib.hid ((HU.out.keep B1.out hz0).keep hb2 (HU.out.keep B1.out hz0).lt)
  have lt2 := U2.out.lt
  obtain ⟨q0, q1, q2, q3⟩ := U2.out.facts
  rw [hrs]
  clear hj hz hb2 hb2' hrs
  go_wp2
  refine bodyPost_ret (v := rhy n r.a r.zs.length r.cap) (by simp [results, Try.results73, go_sem, *]) rfl ⟨r.a, r.cap, by rw [HZ.out], ?_, ?_⟩
  · rw [← HZ.out]
    exact own_base (ownsRow_setCell_below (ownsRow_setCell_below HOW.out (by show w.heap.size + 1 < W0.heap.size; omega) _) (by show w.heap.size + 1 < W0.heap.size; omega) _) HB.out.size
  · exact (((HB.out.trans (B1.out.mono HB.out.size)).trans (HB2.out.mono (Nat.le_trans HB.out.size B1.out.size))).setCell (by simp) _).setCell (by simp) _

theorem map_rot (n : Nat) (a : Option Addr) (len cap : Nat) (zs : List Int) (u k : Int) (w : World) (h : IntsAt w a len zs) (hm : len ≤ 1048576) (ho : Ok n zs) (hu1 : -1000 ≤ u) (hu2 : u ≤ 1000) (hk1 : -1000 ≤ k) (hk2 : k ≤ 1000) :
    Calls Try.prog 132 #[rhy n a len cap, .int .i64 u, .int .i64 k] w (RhyPost n (rotZ n zs u k) w) := map_any n a len cap zs u k w h hm ho hu1 hu2 hk1 hk2
theorem best_yes {n : Nat} {zs : List Int} {k : Nat} (h : 1 ≤ k) (ha : afterB n (rotZ n zs 1 k) (bestP n zs (k - 1)) = true) : bestP n zs k = rotZ n zs 1 k := by
  obtain ⟨j, rfl⟩ : ∃ j, k = j + 1 := ⟨k - 1, by omega⟩
  simp only [bestP, Int.toNat_natCast]
  rw [Nat.add_sub_cancel] at ha
  rw [if_pos ha]
theorem best_no {n : Nat} {zs : List Int} {k : Nat} (h : 1 ≤ k) (ha : afterB n (rotZ n zs 1 k) (bestP n zs (k - 1)) = false) : bestP n zs k = bestP n zs (k - 1) := by
  obtain ⟨j, rfl⟩ : ∃ j, k = j + 1 := ⟨k - 1, by omega⟩
  simp only [bestP, Int.toNat_natCast]
  rw [Nat.add_sub_cancel] at ha ⊢
  rw [if_neg (by rw [ha]; simp)]
theorem best_ok {n : Nat} {zs : List Int} (ho : Ok n zs) (k : Nat) : Ok n (bestP n zs k) := by
  obtain ⟨⟨j, _, e⟩, _⟩ := best_spec ho k
  rw [e]; exact rot_ok ho.1 _ _
/-- The best one so far, in a box; its row lies elsewhere. -/
def BestAt (n : Nat) (a : Option Addr) (len cap : Nat) (best : List Int) (gb : Nat) (w W0 wr : World) : Prop :=
  ∃ av cv, Two wr w.heap.size (.int .i64 n) (.slice a len cap) ∧ Box wr (w.heap.size + 1) (.int .i64 0) (.slice none 0 0) 25 ∧ Box wr gb (.int .i64 n) (.slice av best.length cv) 25 ∧
    wr.ownsRow W0.heap.size 3 1 (.slice av best.length cv) best.length (ints best) ∧ Outside gb (gb + 1) (.slice av best.length cv) ∧ Below w.heap.size w wr ∧ W0.heap.size ≤ wr.heap.size
theorem own_setCell_outside {w : World} {B : Nat} {v : Value} {n : Nat} {l : List Int} {g j : Nat} (h : w.ownsRow B 3 1 v n (ints l)) (ho : Outside g (g + 1) v) (u : Value) : (w.setCell ⟨g, j, none⟩ u).ownsRow B 3 1 v n (ints l) := by
  refine own_grown (row := some g) h ⟨rfl, rfl, rfl, by simp [World.setCell], fun k hk hne => Below.heap_setCell _ _ _ _ (by show k ≠ g; exact fun e => hne (by rw [e]))⟩ fun k hk e => ?_
  have := ho k hk
  have := Option.some.inj e
  omega
theorem two_setCell {w : World} {b : Nat} {v0 v1 : Value} (h : Two w b v0 v1) {g : Nat} (hg : b ≠ g) (j : Nat) (u : Value) : Two (w.setCell ⟨g, j, none⟩ u) b v0 v1 :=
  ⟨by simpa using h.1, by rw [World.cell?_setCell_far _ _ _ _ (by show g ≠ b; omega)]; exact h.2.1, by rw [World.cell?_setCell_far _ _ _ _ (by show g ≠ b; omega)]; exact h.2.2⟩

set_option maxHeartbeats 1000000 in
set_option maxRecDepth 100000 in
theorem least0_spec (n : Nat) (a : Option Addr) (len cap : Nat) (zs : List Int) (w : World) (h : IntsAt w a len zs) (hm : len ≤ 1048576) (ho : Ok n zs) :
    Calls Try.prog 131 #[rhy n a len cap] w (RhyPost n (leastZ n zs) w) := by
  have HS := Lib.hid h
  have HOK := Lib.hid ho
  have hn1 : 1 ≤ n := by have := ho.1.1; omega
  have hn24 : n ≤ 24 := by have := ho.1.2; omega
  clear h ho
  obtain ⟨W0, hW⟩ : ∃ W0, W0 = (w.alloc (.cells #[.int .i64 n, .slice a len cap] 25)).alloc (.cells #[.int .i64 0, .slice none 0 0] 25) := ⟨_, rfl⟩
  have HW := Lib.hid hW
  have HB := Lib.hid (show Below w.heap.size w W0 by rw [hW]; exact bel2 w _ _)
  have HT := Lib.hid (show Two W0 w.heap.size (.int .i64 n) (.slice a len cap) by rw [hW]; exact (two_new w _ _ _).keep (bel1 _ _))
  have HU := Lib.hid (show Box W0 (w.heap.size + 1) (.int .i64 0) (.slice none 0 0) 25 by
    rw [hW]
    have := box_new (w.alloc (.cells #[.int .i64 n, .slice a len cap] 25)) (.int .i64 0) (.slice none 0 0) 25
    simpa using this)
  have hz0 := HU.out.lt
  clear hW
  go_enter Try.func131, Try.ntmps131
  go_wp2_with fail
  rw [← HW.out]
  refine (map_rot n a len cap zs 1 0 _ (HS.out.below HB.out) hm HOK.out (by omega) (by omega) (by omega) (by omega)).mono ?_
  rintro e w1 ⟨b1, c1, rfl, hown, hb1⟩
  have HA : Hid (BestAt n a len cap (bestP n zs 0) w1.heap.size w W0 (w1.alloc (.cells #[.int .i64 n, .slice b1 (rotZ n zs 1 0).length c1] 25))) := Lib.hid ⟨b1, c1, (HT.out.keep hb1).keep (bel1 _ _), (HU.out.keep hb1 hz0).keep (bel1 _ _) (HU.out.keep hb1 hz0).lt, box_new _ _ _ _, hown.alloc _, fun k hk => .inl (hown.lt k hk).2, (HB.out.trans (hb1.mono HB.out.size)).alloc (Nat.le_trans HB.out.size hb1.size) _, by have := hb1.size; simp; omega⟩
  have hgbw : w.heap.size + 1 < w1.heap.size := Nat.lt_of_lt_of_le hz0 hb1.size
  obtain ⟨t1, t1a, t1b⟩ := (HT.out.keep hb1).keep (bel1 w1 (.cells #[.int .i64 n, .slice b1 (rotZ n zs 1 0).length c1] 25))
  clear hown hb1
  go_wp2
  obtain ⟨W1, hW1⟩ : ∃ W1, W1 = w1.alloc (.cells #[.int .i64 n, .slice b1 (rotZ n zs 1 0).length c1] 25) := ⟨_, rfl⟩
  rw [← hW1] at HA ⊢
  clear hW1 t1 t1a t1b
  obtain ⟨gb, hgb⟩ : ∃ gb, gb = w1.heap.size := ⟨_, rfl⟩
  rw [← hgb] at HA hgbw ⊢
  clear hgb
  go_loopw [4] (fun i wr => ∃ k : Nat, 1 ≤ k ∧ k ≤ n ∧ i = .int .i64 k ∧ BestAt n a len cap (bestP n zs (k - 1)) gb w W0 wr) (fun i _ => n - (intOf i).toNat)
  case atStart => exact ⟨1, by omega, hn1, rfl, HA.out⟩
  case round =>
    clear HA
    obtain ⟨k, hk1, hk, rfl, av, cv, hT, hU, hG, hown, hout, hbel, hsz⟩ := hrel
    have HT2 := Lib.hid hT
    have HU2 := Lib.hid hU
    have HG2 := Lib.hid hG
    have HO := Lib.hid hown
    have HOUT := Lib.hid hout
    have HBE := Lib.hid hbel
    have HZ := Lib.hid hsz
    have HI := Lib.hid (HS.out.below hbel)
    have HBO := Lib.hid (best_ok HOK.out (k - 1))
    have hbl : (bestP n zs (k - 1)).length ≤ 24 := ok_len HBO.out
    obtain ⟨x0, x1, x2⟩ := hT
    have ltg := hG.lt
    clear hU hG hown hout hbel hsz
    by_cases hlt : k < n
    · go_wp2_with fail
      refine (map_rot n a len cap zs 1 k wr HI.out hm HOK.out (by omega) (by omega) (by omega) (by omega)).mono ?_
      rintro e w2 ⟨b2, c2, rfl, hown2, hb2⟩
      have hrl := rotZ_len (s := n) (zs := zs) (u := 1) (k := k) (by omega)
      have HOX : Hid (w2.ownsRow wr.heap.size 3 1 (.slice b2 (rotZ n zs 1 k).length c2) (rotZ n zs 1 k).length (ints (rotZ n zs 1 k))) := Lib.hid hown2
      have HIX : Hid (IntsAt w2 b2 (rotZ n zs 1 k).length (rotZ n zs 1 k)) := Lib.hid (intsAt_own hown2 (rotZ_int (by omega)))
      have HIB := Lib.hid (intsAt_own (own_below HO.out hb2) (ok_int HBO.out))
      have HT3 := Lib.hid (HT2.out.keep hb2)
      have HU3 := Lib.hid (HU2.out.keep hb2 HU2.out.lt)
      have HG3 := Lib.hid (HG2.out.keep hb2 ltg)
      have HB2 := Lib.hid hb2
      have ltg2 := HG3.out.lt
      obtain ⟨g0, g1, g2, g3⟩ := HG3.out.facts
      clear hown2 hb2 x0 x1 x2
      go_wp2_with fail
      obtain ⟨W2, hW2⟩ : ∃ W2, W2 = w2.alloc (.cells #[.int .i64 n, .slice b2 (rotZ n zs 1 k).length c2] 25) := ⟨_, rfl⟩
      have B2 := Lib.hid (show Below w2.heap.size w2 W2 by rw [hW2]; exact bel1 _ _)
      have T5 := Lib.hid (show Two W2 w2.heap.size (.int .i64 n) (.slice b2 (rotZ n zs 1 k).length c2) by rw [hW2]; exact two_new _ _ _ _)
      rw [show w2.alloc (.cells #[.int .i64 n, .slice b2 (rotZ n zs 1 k).length c2] 25) = W2 from hW2.symm]
      clear hW2 g0 g1 g2 g3
      refine (after_spec n b2 (rotZ n zs 1 k).length c2 (rotZ n zs 1 k) n av (bestP n zs (k - 1)).length cv (bestP n zs (k - 1)) W2 (HIX.out.below B2.out) (HIB.out.below B2.out) (by omega) (by omega) hn24).mono ?_
      rintro e w3 ⟨rfl, hb3⟩
      have HB3 := Lib.hid (B2.out.trans (hb3.mono B2.out.size))
      have T6 := Lib.hid (T5.out.keep hb3)
      obtain ⟨y0, y1, y2⟩ := T6.out
      have HT4 := Lib.hid (HT3.out.keep HB3.out)
      have HU4 := Lib.hid (HU3.out.keep HB3.out HU3.out.lt)
      have HG4 := Lib.hid (HG3.out.keep HB3.out ltg2)
      have HO4 := Lib.hid (own_below (own_below HO.out HB2.out) HB3.out)
      have HOX4 := Lib.hid (own_below HOX.out HB3.out)
      have HBE4 := Lib.hid ((HBE.out.trans (HB2.out.mono HBE.out.size)).trans (HB3.out.mono (Nat.le_trans HBE.out.size HB2.out.size)))
      have HZ4 := Lib.hid (Nat.le_trans (Nat.le_trans HZ.out HB2.out.size) HB3.out.size)
      obtain ⟨g0, g1, g2, g3⟩ := HG4.out.facts
      have ltg4 := HG4.out.lt
      obtain ⟨t0, t1, t2⟩ := HT4.out
      have hlw := HB2.out.size
      clear hb3
      cases hq : afterB n (rotZ n zs 1 k) (bestP n zs (k - 1))
      · have HN := Lib.hid (best_no hk1 hq)
        clear hq
        go_wp2
        go_roundw
        case rel => exact ⟨k + 1, by omega, by omega, by go_num, by rw [Nat.add_sub_cancel, HN.out]; exact ⟨av, cv, HT4.out, HU4.out, HG4.out, HO4.out, HOUT.out, HBE4.out, HZ4.out⟩⟩
        case measure => simp [intOf]; omega
      · have HN := Lib.hid (best_yes hk1 hq)
        clear hq
        go_wp2
        go_roundw
        case rel =>
          refine ⟨k + 1, by omega, by omega, by go_num, ?_⟩
          rw [Nat.add_sub_cancel, HN.out]
          refine ⟨b2, c2, ?_, ?_, (HG4.out.set0 _).set1 _, ?_, ?_, (HBE4.out.setCell (by show w.heap.size ≤ gb; omega) _).setCell (by show w.heap.size ≤ gb; omega) _, by simpa using HZ4.out⟩
          · exact two_setCell (two_setCell HT4.out (by omega) _ _) (by omega) _ _
          · exact (HU4.out.other _ (by omega)).other _ (by omega)
          · exact own_base (ownsRow_setCell_below (ownsRow_setCell_below HOX4.out (by show gb < wr.heap.size; omega) _) (by show gb < wr.heap.size; omega) _) HZ.out
          · intro b hb
            have := (HOX4.out.lt b hb).1
            omega
        case measure => simp [intOf]; omega
    · have e : k = n := by omega
      have HE : Hid (leastZ n zs = bestP n zs (k - 1)) := Lib.hid (by unfold leastZ; rw [Int.toNat_natCast, e])
      obtain ⟨g0, g1, g2, g3⟩ := HG2.out.facts
      obtain ⟨u0, u1, u2, u3⟩ := HU2.out.facts
      have ltu := HU2.out.lt
      clear e
      go_wp2
      refine bodyPost_ret (v := rhy n av (bestP n zs (k - 1)).length cv) (by simp [results, Try.results131, go_sem, *]) rfl ⟨av, cv, by rw [HE.out], ?_, ?_⟩
      · rw [HE.out]
        exact own_base (ownsRow_setCell_below (ownsRow_setCell_below HO.out (by show w.heap.size + 1 < W0.heap.size; omega) _) (by show w.heap.size + 1 < W0.heap.size; omega) _) HB.out.size
      · exact (HBE.out.setCell (by simp) _).setCell (by simp) _

end Go.Proofs.Ytjgjcppkbfojpaa.Rhy
