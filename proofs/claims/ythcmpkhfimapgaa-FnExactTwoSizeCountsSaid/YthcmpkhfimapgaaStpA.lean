/-
  Helpers of the claims beside this text: the program's iterator over the steps of a rhythm.
-/
import Derived.Test.YthcmpkhfimapgaaStp
import Derived.Test.YthcmpkhfimapgaaPop
import Derived.Test.YthcmpkhfimapgaaCmp
namespace Go.Proofs.Ythcmpkhfimapgaa.Rhy
open Go.RowKit
set_option linter.unusedVariables false

set_option maxHeartbeats 1000000 in
theorem after_any (s : Int) (a : Option Addr) (len cap : Nat) (zs : List Int) (i : Nat) (w : World) (h : IntsAt w a len zs) (hm : len ≤ 1048576) (ho : Ok s zs) (hi : i < len) :
    Calls Try.prog 115 #[rhy s a len cap, .int .i64 i] w fun e w' => e = .returned (.int .i64 (stepAt s zs i)) ∧ Below w.heap.size w w' := by
  have HS := Lib.hid h
  have HOK := Lib.hid ho
  obtain ⟨hs1, hs2⟩ := ho.1
  clear h ho
  obtain ⟨w1, hW⟩ : ∃ w1, w1 = w.alloc (.cells #[.int .i64 s, .slice a len cap] 26) := ⟨_, rfl⟩
  have HW := Lib.hid hW
  have B1 := Lib.hid (show Below w.heap.size w w1 by rw [hW]; exact bel1 w _)
  have T1 := Lib.hid (show Two w1 w.heap.size (.int .i64 s) (.slice a len cap) by rw [hW]; exact two_new w _ _ _)
  clear hW
  have HI : Hid (IntsAt w1 a len zs) := Lib.hid (HS.out.below B1.out)
  obtain ⟨x0, x1, x2⟩ := T1.out
  obtain ⟨b, off, z, rfl, hb, hs, hc, _, _⟩ := HI.out.at hi
  obtain ⟨b', off', z0, he', _, hs0, hc0, _, _⟩ := HI.out.at (show 0 < len by omega)
  obtain ⟨rfl, rfl⟩ : b = b' ∧ off = off' := by simpa using he'
  rw [Nat.add_zero] at hc0
  obtain ⟨q1, q2⟩ := ok_at HOK.out hs
  obtain ⟨r1, r2⟩ := ok_at HOK.out hs0
  have hi' := hi
  by_cases h1 : i + 1 < len
  · obtain ⟨b', off', z', he2, _, hs', hc', _, _⟩ := HI.out.at h1
    obtain ⟨rfl, rfl⟩ : b = b' ∧ off = off' := by simpa using he2
    obtain ⟨p1, p2⟩ := ok_at HOK.out hs'
    have HN : Hid (stepAt s zs i = z' - z) := Lib.hid (step_mid hs hs')
    have hi2 : ((i : Int) + 1).toNat = i + 1 := by omega
    clear hs hs0 hs' he' he2
    go_enter Try.func115, Try.ntmps115
    go_wp2_with fail
    rw [← HW.out]
    go_wp2
    go_quiet (fail)
    go_wp2
    go_ret
    exact ⟨ret_int (by rw [HN.out]), below_drewN B1.out _⟩
  · have HN : Hid (stepAt s zs i = z0 + s - z) := Lib.hid (step_last hs (by have := HS.out.len; omega) hs0)
    have hd : decide ((i : Int) + 1 < (len : Int)) = false := by simp; omega
    have hw1 : IntKind.i64.wrap (z0 + s) = z0 + s := IntWalk.i64_in _ (by omega)
    clear hs hs0 he'
    go_enter Try.func115, Try.ntmps115
    go_wp2_with fail
    rw [← HW.out]
    go_wp2
    go_quiet (fail)
    go_wp2
    go_ret
    exact ⟨ret_int (by rw [HN.out]), below_drewN B1.out _⟩

/-- The steps from place i on, k of them, around. -/
def turnsP (s : Int) (zs : List Int) (i k : Nat) : List Int := (List.range k).map fun j => stepAt s zs ((i + j) % zs.length)
theorem turnsP_len (s : Int) (zs : List Int) (i k : Nat) : (turnsP s zs i k).length = k := by simp [turnsP]
theorem turnsP_at (s : Int) (zs : List Int) (i k j : Nat) (h : j < k) : (turnsP s zs i k)[j]?.getD 0 = stepAt s zs ((i + j) % zs.length) := by simp [turnsP, h]
theorem turnsP_zero (s : Int) (zs : List Int) : turnsP s zs 0 zs.length = stepsZ s zs := by
  unfold turnsP stepsZ stepsP
  refine List.map_congr_left fun j hj => ?_
  rw [List.mem_range] at hj
  rw [Nat.zero_add, Nat.mod_eq_of_lt hj]

attribute [local go_sem] Oper.semAt_some wide_fn wide_depth

set_option maxHeartbeats 2000000 in
/-- The closure that gives the steps from place i on: its two variables lie in the blocks lo and lo + 1. -/
theorem stepsFrom_gives (s : Int) (a : Option Addr) (len cap : Nat) (zs : List Int) (i : Nat) (w0 w : World) (lo : Nat) (h : IntsAt w0 a len zs) (hb : Below w0.heap.size w0 w) (hm : len ≤ 1048576) (ho : 0 < len → Ok s zs ∧ i < len)
    (hT : Two w lo (.int .i64 s) (.slice a len cap)) (hI : w.cell? ⟨lo + 1, 0, none⟩ = some (.int .i64 i)) (hlo : lo + 2 ≤ w.heap.size) :
    Gives w0.heap.size lo (lo + 2) w 114 #[.pointer (some ⟨lo, 0, none⟩), .pointer (some ⟨lo + 1, 0, none⟩)] (turnsP s zs i len) := by
  intro m l J Jx W hW hJ hJx hY h0
  have HS := Lib.hid h
  have HHB := Lib.hid (hb.trans (hW.mono hb.size))
  have HO := Lib.hid ho
  have HT := Lib.hid (hT.keep hW)
  have HV := Lib.hid ((hW.cell (p := ⟨lo + 1, 0, none⟩) (by show lo + 1 < _; omega)).trans hI)
  have HJ := Lib.hid hJ
  have HY := Lib.hid hY
  have hlW : lo + 2 ≤ W.heap.size := by have := hW.size; omega
  have hmix : Try.prog.follows .mixedOrders = true := by kernel_rfl
  clear h hb ho hT hI hJ hJx hY hW
  obtain ⟨x0, x1, x2⟩ := HT.out
  have x3 := HV.out
  refine callsIn_of_wp Try.func114 rfl trivial ?_ rfl
  simp only [Try.ntmps114, List.size_toArray, List.length_cons, List.length_nil, Nat.reduceAdd, Nat.reduceSub, Array.replicate_succ, Array.replicate_zero, List.push_toArray, List.append_toArray, List.nil_append, List.cons_append]
  gi_wp2
  gi_loopw [8] (fun i wr => ∃ k : Nat, k ≤ len ∧ i = .int .i64 k ∧ J (List.range k) wr ∧ Kp w0.heap.size lo (lo + 2) W wr ∧ W.heap.size ≤ wr.heap.size) (fun i _ => len - (intOf i).toNat)
  case atStart => exact ⟨0, Nat.zero_le _, rfl, h0, Kp.refl _ _ _ _, Nat.le_refl _⟩
  case round =>
    obtain ⟨k, hk, rfl, hJs, hkp, hsz⟩ := hrel
    have HJS := Lib.hid hJs
    have HK := Lib.hid hkp
    have HZ := Lib.hid hsz
    have y0 : lo < wr.heap.size := by omega
    have y1 : wr.cell? ⟨lo, 0, none⟩ = some (.int .i64 s) := (hkp.cell (p := ⟨lo, 0, none⟩) (Nat.le_refl _) (by show lo < lo + 2; omega)).trans x1
    have y2 : wr.cell? ⟨lo, 1, none⟩ = some (.slice a len cap) := (hkp.cell (p := ⟨lo, 1, none⟩) (Nat.le_refl _) (by show lo < lo + 2; omega)).trans x2
    have y3 : wr.cell? ⟨lo + 1, 0, none⟩ = some (.int .i64 i) := (hkp.cell (p := ⟨lo + 1, 0, none⟩) (by show lo ≤ lo + 1; omega) (by show lo + 1 < lo + 2; omega)).trans x3
    clear hJs hkp hsz x0 x1 x2 x3 h0
    by_cases hlt : k < len
    · obtain ⟨HOK, hin⟩ := HO.out (by omega)
      have hlen : zs.length = len := HS.out.len
      have hl24 : len ≤ 24 := by have := ok_len HOK; omega
      have HR : Hid (remB ((i : Int) + k) len = ((i + k) % len : Nat)) := Lib.hid (by unfold remB; simp)
      have hmod : (i + k) % len < len := Nat.mod_lt _ (by omega)
      have HC := Lib.hid (after_any s a len cap zs ((i + k) % len) wr.drew (HS.out.below (HHB.out.trans (HK.out.1.trans (Below.refl _ _).drew))) hm HOK hmod)
      have HA := Lib.hid (around_any ((i : Int) + k) len wr.drew (by omega) (by omega) (by omega) (by omega))
      have HAT : Hid ((turnsP s zs i len)[k]?.getD 0 = stepAt s zs ((i + k) % len)) := Lib.hid (by rw [turnsP_at s zs i len k hlt, hlen])
      have HOKH := Lib.hid HOK
      clear HOK
      have HYY : Hid (∀ w2, Below wr.drew.heap.size wr.drew w2 → YieldAt Fence.wide (m - 1) Try.prog l #[.int .i64 (stepAt s zs ((i + k) % len))] w2 fun e W' => ∃ b, e = .returned (.bool b) ∧ (b = true → J (List.range (k + 1)) W' ∧ Kp w0.heap.size lo (lo + 2) W W' ∧ W.heap.size ≤ W'.heap.size) ∧ (b = false → Jx (List.range (k + 1)) W')) := by
        intro w2 hb2
        have hb3 : Below wr.heap.size wr w2 := (Below.refl wr.heap.size wr).drew.trans hb2
        have hn0 : w0.heap.size ≤ wr.heap.size := by have := HHB.out.size; have := HZ.out; omega
        have hy := HY.out (List.range k) k w2 (HJ.out _ wr w2 none HJS.out (grown_of_below hb3 none) (fun r e => by cases e)) (by rw [turnsP_len, List.length_range]; exact hlt)
        rw [HAT.out] at hy
        refine hy.mono ?_
        rintro e W' (⟨rfl, hj, hkp⟩ | ⟨rfl, hj⟩)
        · exact ⟨true, rfl, fun _ => ⟨by rw [List.range_succ]; exact hj, (HK.out.t (Kp.of_below hb3 hn0 (by have := HZ.out; omega))).t hkp, by have := HZ.out; have := hb3.size; have := hkp.1.size; omega⟩, fun h => by cases h⟩
        · exact ⟨false, rfl, (fun h => by cases h), fun _ => by rw [List.range_succ]; exact hj⟩
      have hw1 : IntKind.i64.wrap ((i : Int) + k) = i + k := IntWalk.i64_in _ (by omega)
      clear hmod hlen
      gi_wp2
      gi_region_with_o (first
        | (gi_at_call 52; refine (callsIn_wide.2 HA.out).mono ?_; rintro e w' ⟨rfl, rfl⟩; simp only [HR.out])
        | (gi_at_call 115; refine (callsIn_wide.2 HC.out).mono ?_; rintro e w2 ⟨rfl, hb2⟩; obtain ⟨fn, tmps, assign, body, hy, hR⟩ := HYY.out w2 hb2)
        | (refine hR.mono ?_; rintro e W3 ⟨b, rfl, hb⟩))
      all_goals (
        cases b
        · have hj := hb.2 rfl
          gi_wp2
          refine bodyPost_ret (results_none rfl _ _ _) rfl ?_
          exact ⟨⟨_, rfl⟩, .inr ⟨_, range_pre (by rw [turnsP_len]; omega), hj⟩⟩
        · obtain ⟨hj, hkp2, hsz2⟩ := hb.1 rfl
          gi_wp2
          go_roundw
          case rel => exact ⟨k + 1, by omega, by go_num, hj, hkp2, hsz2⟩
          case measure => simp [intOf]; omega)
    · obtain rfl : k = len := by omega
      gi_wp2
      go_end0
      exact ⟨⟨_, rfl⟩, .inl ⟨_, by rw [turnsP_len], HJS.out⟩⟩
end Go.Proofs.Ythcmpkhfimapgaa.Rhy

/-
  Helpers of the claims beside this text: the program's steps as an iterator.
-/
namespace Go.Proofs.Ythcmpkhfimapgaa.Rhy
open Go.RowKit
set_option linter.unusedVariables false
attribute [local go_sem] Oper.semAt_some wide_fn wide_depth

theorem enters_steps : Enters 114 := enters_of Try.func114 (by kernel_rfl) rfl

/-- What a function answers that hands back an iterator over l; the numbers that it reads lay in w0. -/
def SeqPost (w0 w : World) (l : List Int) (e : Ending) (w' : World) : Prop :=
  ∃ lo, e = .returned (.func (.func 114) #[] #[.pointer (some ⟨lo, 0, none⟩), .pointer (some ⟨lo + 1, 0, none⟩)]) ∧ w.heap.size ≤ lo ∧ lo + 2 ≤ w'.heap.size ∧ Below w.heap.size w w' ∧
    Gives w0.heap.size lo (lo + 2) w' 114 #[.pointer (some ⟨lo, 0, none⟩), .pointer (some ⟨lo + 1, 0, none⟩)] l

theorem stepsFrom_any (s : Int) (a : Option Addr) (len cap : Nat) (zs : List Int) (i : Nat) (w0 w : World) (h : IntsAt w0 a len zs) (hb : Below w0.heap.size w0 w) (hm : len ≤ 1048576) (ho : 0 < len → Ok s zs ∧ i < len) :
    Calls Try.prog 90 #[rhy s a len cap, .int .i64 i] w (SeqPost w0 w (turnsP s zs i len)) := by
  have HS := Lib.hid h
  have HB := Lib.hid hb
  have HO := Lib.hid ho
  clear h hb ho
  go_enter Try.func90, Try.ntmps90
  go_wp2
  go_ret
  have b2 := bel2 w (.cells #[.int .i64 s, .slice a len cap] 26) (.cells #[.int .i64 i] 3)
  refine ⟨w.heap.size, rfl, Nat.le_refl _, by simp, b2, ?_⟩
  refine stepsFrom_gives s a len cap zs i w0 _ w.heap.size HS.out (HB.out.trans (b2.mono HB.out.size)) hm HO.out ((two_new w _ _ _).keep (bel1 _ _)) ?_ (by simp)
  simp

theorem ints_nil (w : World) (a : Option Addr) : IntsAt w a 0 [] := ⟨rfl, (fun z hz => by cases hz), fun h => absurd h (by omega)⟩

set_option maxHeartbeats 400000 in
theorem iter_any (s : Int) (a : Option Addr) (len cap : Nat) (zs : List Int) (w0 w : World) (h : IntsAt w0 a len zs) (hb : Below w0.heap.size w0 w) (hm : len ≤ 1048576) :
    Calls Try.prog 68 #[rhy s a len cap] w (SeqPost w0 w (stB s zs)) := by
  have HS := Lib.hid h
  have HB := Lib.hid hb
  have HSW := Lib.hid (h.below hb)
  clear h hb
  by_cases ho : Ok s zs
  · have HO := Lib.hid ho
    have HE := Lib.hid (show turnsP s zs 0 len = stB s zs by rw [stB_yes ho, ← turnsP_zero, HS.out.len])
    clear ho
    go_enter Try.func68, Try.ntmps68
    go_wp2_with fail
    refine (valid_yes s a len cap zs _ (HSW.out.below (bel1 w _)) hm HO.out).mono ?_
    rintro e w1 ⟨rfl, hb1⟩
    have B1 := Lib.hid ((bel1 w (.cells #[.int .i64 s, .slice a len cap] 26)).trans (hb1.mono (by simp)))
    have T1 := Lib.hid ((two_new w (.int .i64 s) (.slice a len cap) 26).keep hb1)
    obtain ⟨t1, t1a, t1b⟩ := T1.out
    clear hb1
    go_wp2_with fail
    refine (stepsFrom_any s a len cap zs 0 w0 w1 HS.out (HB.out.trans (B1.out.mono HB.out.size)) hm (fun h0 => ⟨HO.out, h0⟩)).mono ?_
    rintro e w2 ⟨lo, rfl, h1, h2, h3, h4⟩
    have H := Lib.hid (show w.heap.size ≤ lo ∧ lo + 2 ≤ w2.heap.size ∧ Below w.heap.size w w2 from ⟨by have := B1.out.size; omega, h2, B1.out.trans (h3.mono B1.out.size)⟩)
    have HG := Lib.hid h4
    clear h1 h2 h3 h4
    go_wp2
    go_ret
    rw [← HE.out]
    exact ⟨lo, rfl, H.out.1, H.out.2.1, H.out.2.2, HG.out⟩
  · have HO := Lib.hid ho
    have HE := Lib.hid (show turnsP 0 [] 0 0 = stB s zs by rw [stB_no ho]; rfl)
    clear ho
    go_enter Try.func68, Try.ntmps68
    go_wp2_with fail
    refine (valid_no s a len cap zs _ (HSW.out.below (bel1 w _)) hm HO.out).mono ?_
    rintro e w1 ⟨rfl, hb1⟩
    have B1 := Lib.hid ((bel1 w (.cells #[.int .i64 s, .slice a len cap] 26)).trans (hb1.mono (by simp)))
    have U1 := Lib.hid ((box_new w (.int .i64 s) (.slice a len cap) 26).keep hb1 (by simp))
    obtain ⟨q0, q1, q2, q3⟩ := U1.out.facts
    have l1 := U1.out.lt
    clear hb1
    go_wp2_with fail
    have B2 := Lib.hid (show Below w.heap.size w ((w1.setCell ⟨w.heap.size, 0, none⟩ (.int .i64 0)).setCell ⟨w.heap.size, 1, none⟩ (.slice none 0 0)) from (B1.out.setCell (by simp) _).setCell (by simp) _)
    refine (stepsFrom_any 0 none 0 0 [] 0 w0 _ (ints_nil w0 none) (HB.out.trans (B2.out.mono HB.out.size)) (by omega) (fun h0 => by omega)).mono ?_
    rintro e w2 ⟨lo, rfl, h1, h2, h3, h4⟩
    have H := Lib.hid (show w.heap.size ≤ lo ∧ lo + 2 ≤ w2.heap.size ∧ Below w.heap.size w w2 from ⟨by have := B2.out.size; omega, h2, B2.out.trans (h3.mono B2.out.size)⟩)
    have HG := Lib.hid h4
    clear h1 h2 h3 h4
    go_wp2
    go_ret
    rw [← HE.out]
    exact ⟨lo, rfl, H.out.1, H.out.2.1, H.out.2.2, HG.out⟩
end Go.Proofs.Ythcmpkhfimapgaa.Rhy

/-
  Helpers of the claims beside this text: the library's Collect and AppendSeq over an iterator of numbers.
-/
namespace Go.Proofs.Ythcmpkhfimapgaa.Rhy
open Go.RowKit
set_option linter.unusedVariables false
attribute [local go_sem] Oper.semAt_some

set_option maxHeartbeats 1000000 in
theorem appendseq_any (n lo hi g : Nat) (lb : Array Value) (l : List Int) (w : World) (hG : Gives n lo hi w g lb l) (hE : Enters g) (hn : n ≤ w.heap.size) (hh : hi ≤ w.heap.size) (hl : l.length ≤ 1048576) :
    Calls Try.prog 127 #[.slice none 0 0, .func (.func g) #[] lb] w (IPost l w) := by
  obtain ⟨i0, hi0, hz0, hz1, hz2⟩ := info_parts infoInt
  have HI := Lib.hid (show _ ∧ _ ∧ _ ∧ _ from ⟨hi0, hz0, hz1, hz2⟩)
  clear hi0 hz0 hz1 hz2
  refine (callsIn_wide (n := 9)).1 ?_
  refine callsIn_of_wp_marks Try.func127 rfl trivial ?_ rfl
  simp only [Try.ntmps127, List.size_toArray, List.length_cons, List.length_nil, Nat.reduceAdd, Nat.reduceSub, Array.replicate_succ, Array.replicate_zero, List.push_toArray, List.append_toArray, List.nil_append, List.cons_append]
  gi_wp2
  have bS := Boxed.new w 24 (.slice none 0 0)
  refine wp_range (n := n) (lo := lo) (hi := hi) (by omega) rfl hE (hG.later (bel1 w _)) (by simp; omega) (by simp; omega)
    (fun pre W => (∃ v, Boxed W w.heap.size 24 v ∧ W.ownsRow w.heap.size 3 1 v pre.length (ints pre) ∧ True) ∧ Below w.heap.size w W) (fun _ _ _ => False)
    (OwnFrom.and (Own.from (holdsRow_own w.heap.size w.heap.size 24 3 1 (fun pre => pre.length) (fun pre => ints pre) (fun _ _ => True)) _) (ownFrom_below (Nat.le_refl _) (by simp)))
    (fun _ _ _ _ _ hs _ _ => hs) ⟨⟨_, bS, World.ownsRow_nil _ _ _ _, trivial⟩, bel1 w _⟩
    (fun x => { tmps := #[.slice none 0 0, .func (.func g) #[] lb, .pointer (some ⟨w.heap.size, 0, none⟩), undef, .slice none 0 0, .int .i64 x, .func (.func g) #[] lb, .int .i64 x, undef, undef, undef, undef, undef], defers := [] }) ?assign ?body ?done ?stop
  case assign =>
    intro q x W K hK
    gi_wp2
    exact hK
  case body =>
    rintro q pre x W ⟨⟨v, hv, hrow, -⟩, hB⟩ hlt -
    have hc := hv.cell
    gi_wp2_with (gi_at_builtin; refine wpListIn_append_own _ rfl _ _ 24 rfl w.heap.size 3 i0 (.int .i64 0) 1 8 Try.underlying24 HI.out.1 HI.out.2.1 HI.out.2.2.1 HI.out.2.2.2 rfl (by decide) _ _ _ rfl (hrow.alloc _) ⟨W.heap.size, 0, none⟩ 1 1 [.int .i64 x] rfl rfl (cell_one_new _ _ _) (by simp [Value.oneCell']) (by unfold maxLen; omega) (by omega) (by have := hB.size; simp; omega) ?_; intro v' w1 hown' hgrow _; obtain ⟨g', cap', rfl⟩ := ownsRow_succ hown'; obtain ⟨hv1, hv2, hr2, hk2, hb2⟩ := hv.appended (by decide) hrow hB.size (Nat.le_refl _) hown' hgrow; have hc1 := hv1.cell; have hf1 := hv1.frozen)
    exact ⟨hk2.from _, ⟨hb2.mono hn, Same.of_below hb2 hh⟩, ⟨_, hv2, by simpa [ints] using hr2, trivial⟩, hB.trans hb2⟩
  case done =>
    rintro D W hD ⟨⟨v, hv, hrow, -⟩, hB⟩ hK
    have hc := hv.cell
    have hB2 := hB.trans (belowK_b (w := w) (Nat.le_refl _) W D _ (.deferred none) (by simp at hD; omega) hK rfl rfl)
    have hrow2 := ownsRow_putObj hrow (.deferred none) hK rfl
    gi_wp2
    obtain ⟨_, b, c, rfl, _⟩ := own_shape hrow
    exact leave_mark _ hK (results_tmp rfl _ _ _) ⟨b, c, rfl, hrow2, hB2⟩
  case stop =>
    rintro D c pre W _ _ h _
    exact h.elim

theorem collect_any (n lo hi g : Nat) (lb : Array Value) (l : List Int) (w : World) (hG : Gives n lo hi w g lb l) (hE : Enters g) (hn : n ≤ w.heap.size) (hh : hi ≤ w.heap.size) (hl : l.length ≤ 1048576) :
    Calls Try.prog 113 #[.func (.func g) #[] lb] w (IPost l w) := by
  have HC := Lib.hid (appendseq_any n lo hi g lb l w hG hE hn hh hl)
  clear hG hE hn hh
  go_enter Try.func113, Try.ntmps113
  go_wp2_with fail
  refine (HC.out).mono ?_
  rintro e w1 ⟨b, c, rfl, hown, hb⟩
  have HO := Lib.hid hown
  have HB := Lib.hid hb
  clear hown hb
  go_wp2
  go_ret
  exact ⟨b, c, rfl, HO.out, HB.out⟩
end Go.Proofs.Ythcmpkhfimapgaa.Rhy

/-
  Helpers of the claims beside this text: the program's steps, the longest and the shortest one, rests.
-/
namespace Go.Proofs.Ythcmpkhfimapgaa.Rhy
open Go.RowKit
set_option linter.unusedVariables false
attribute [local go_sem] Oper.semAt_some wide_fn wide_depth

theorem maxL_app (l : List Int) (x : Int) : maxL (l ++ [x]) = max (maxL l) x := by simp [maxL]



def minQ (l : List Int) : Int := l.foldl (fun m x => if m = 0 ∨ x < m then x else m) 0
theorem minQ_app (l : List Int) (x : Int) : minQ (l ++ [x]) = if minQ l = 0 ∨ x < minQ l then x else minQ l := by
  unfold minQ
  rw [List.foldl_append]
  rfl
theorem minQ_all {l : List Int} (h : ∀ x ∈ l, 1 ≤ x) : ∀ k, k ≤ l.length → minQ (l.take k) = minP l k ∧ (0 < k → 1 ≤ minP l k) := by
  intro k
  induction k with
  | zero => intro _; exact ⟨rfl, fun q => absurd q (by omega)⟩
  | succ k ih =>
    intro hk
    obtain ⟨e, hp⟩ := ih (by omega)
    have hq := List.getElem?_eq_getElem (show k < l.length by omega)
    have hx := h _ (List.mem_of_getElem? hq)
    have hd : l.getD k 0 = l[k] := by rw [List.getD_eq_getElem?_getD, hq]; rfl
    have e1 : minQ (l.take (k + 1)) = if minP l k = 0 ∨ l[k] < minP l k then l[k] else minP l k := by
      rw [List.take_add_one, hq, show (some l[k]).toList = [l[k]] from rfl, minQ_app, e]
    have e2 : minP l (k + 1) = if k = 0 ∨ l[k] < minP l k then l[k] else minP l k := by simp only [minP, hd]
    by_cases h0 : k = 0
    · subst h0
      rw [e1, e2]
      simp [minP]
      exact hx
    · have := hp (by omega)
      rw [e1, e2]
      have h1 : ¬ minP l k = 0 := by omega
      simp only [h0, h1, false_or]
      exact ⟨trivial, fun _ => by split <;> omega⟩
theorem minQ_L {l : List Int} (h : ∀ x ∈ l, 1 ≤ x) : minQ l = minL l := by
  have := (minQ_all h l.length (Nat.le_refl _)).1
  rwa [List.take_length] at this


end Go.Proofs.Ythcmpkhfimapgaa.Rhy

/-
  Helpers of the claims beside this text: the program's rests and spans.
-/
namespace Go.Proofs.Ythcmpkhfimapgaa.Rhy
open Go.RowKit
set_option linter.unusedVariables false
attribute [local go_sem] Oper.semAt_some wide_fn wide_depth

theorem restsL_app (l : List Int) (x : Int) : restsL (l ++ [x]) = restsL l + (if 1 < x then 1 else 0) := by
  unfold restsL
  by_cases h : 1 < x
  · simp [List.filter_append, h]
  · simp [List.filter_append, h]


/-- When a rhythm has spans of k steps. -/
def SpanOk (s : Int) (zs : List Int) (k : Int) : Prop := Ok s zs ∧ 0 < zs.length ∧ 0 ≤ k ∧ k ≤ zs.length

set_option maxHeartbeats 400000 in
theorem has_spans (s : Int) (a : Option Addr) (len cap : Nat) (zs : List Int) (k : Int) (w : World) (h : IntsAt w a len zs) (hm : len ≤ 1048576) (hk1 : -9223372036854775808 ≤ k) (hk2 : k ≤ 9223372036854775807) :
    Calls Try.prog 111 #[rhy s a len cap, .int .i64 k] w fun e w' => e = .returned (.bool (cB (SpanOk s zs k))) ∧ Below w.heap.size w w' := by
  have HS := Lib.hid h
  have hlen := h.len
  clear h
  by_cases ho : Ok s zs
  · have HO := Lib.hid ho
    have HC : Hid (∀ b : Bool, (b = true ↔ 0 < zs.length ∧ 0 ≤ k ∧ k ≤ zs.length) → b = cB (SpanOk s zs k)) := Lib.hid (by
      intro b hb
      by_cases hc : SpanOk s zs k
      · rw [cB_yes hc]; exact hb.2 hc.2
      · rw [cB_no hc]
        cases b with
        | false => rfl
        | true => exact absurd ⟨HO.out, hb.1 rfl⟩ hc)
    rw [hlen] at HC
    clear ho hlen
    go_enter Try.func111, Try.ntmps111
    go_wp2_with fail
    refine (valid_yes s a len cap zs _ (HS.out.below (bel1 w _)) hm HO.out).mono ?_
    rintro e w1 ⟨rfl, hb1⟩
    have B1 := Lib.hid ((bel1 w (.cells #[.int .i64 s, .slice a len cap] 26)).trans (hb1.mono (by simp)))
    have T1 := Lib.hid ((two_new w (.int .i64 s) (.slice a len cap) 26).keep hb1)
    obtain ⟨t1, t1a, t1b⟩ := T1.out
    clear hb1
    go_wp2
    all_goals (go_ret; exact ⟨ret_bool (HC.out _ (by simp; try omega)), B1.out⟩)
  · have HO := Lib.hid ho
    have HE := Lib.hid (show cB (SpanOk s zs k) = false from cB_no (fun q => ho q.1))
    clear ho
    go_enter Try.func111, Try.ntmps111
    go_wp2_with fail
    refine (valid_no s a len cap zs _ (HS.out.below (bel1 w _)) hm HO.out).mono ?_
    rintro e w1 ⟨rfl, hb1⟩
    have B1 := Lib.hid ((bel1 w (.cells #[.int .i64 s, .slice a len cap] 26)).trans (hb1.mono (by simp)))
    clear hb1
    go_wp2
    go_ret
    exact ⟨ret_bool HE.out.symm, B1.out⟩

set_option maxHeartbeats 1000000 in
theorem span_any (s : Int) (a : Option Addr) (len cap : Nat) (zs : List Int) (i k : Nat) (w0 w : World) (h : IntsAt w0 a len zs) (hb : Below w0.heap.size w0 w) (hm : len ≤ 1048576) (ho : Ok s zs) (hi : i < len) (hk : k ≤ len) :
    Calls Try.prog 126 #[rhy s a len cap, .int .i64 i, .int .i64 k] w fun e w' => e = .returned (.int .i64 ((turnsP s zs i len).take k).sum) ∧ Below w.heap.size w w' := by
  have hl24 : len ≤ 24 := by have := ok_len ho; have := h.len; omega
  have HC := Lib.hid (fun w2 hb2 => stepsFrom_any s a len cap zs i w w2 (h.below hb) hb2 hm (fun _ => ⟨ho, hi⟩))
  obtain ⟨l, hl⟩ : ∃ l, l = turnsP s zs i len := ⟨_, rfl⟩
  have HBD := Lib.hid (show ∀ x, (x ∈ l ∨ x = 0) → 0 ≤ x ∧ x ≤ 24 by
    rintro x (hx | rfl)
    · rw [hl] at hx
      unfold turnsP at hx
      rw [List.mem_map] at hx
      obtain ⟨j, hj, rfl⟩ := hx
      have := step_bd ho (k := (i + j) % zs.length) (Nat.mod_lt _ (by have := h.len; omega))
      have := ho.1
      omega
    · omega)
  have hll : l.length = len := by rw [hl]; exact turnsP_len s zs i len
  rw [← hl] at HC ⊢
  clear hl h hb ho
  refine (callsIn_wide (n := 9)).1 ?_
  refine callsIn_of_wp_marks Try.func126 rfl trivial ?_ rfl
  simp only [Try.ntmps126, List.size_toArray, List.length_cons, List.length_nil, Nat.reduceAdd, Nat.reduceSub, Array.replicate_succ, Array.replicate_zero, List.push_toArray, List.append_toArray, List.nil_append, List.cons_append]
  gi_wp2_with fail
  obtain ⟨g, hg⟩ : ∃ g, g = w.heap.size := ⟨_, rfl⟩
  obtain ⟨W0, hW⟩ : ∃ W0, W0 = ((w.alloc (.cells #[.int .i64 s, .slice a len cap] 26)).alloc (.cells #[.int .i64 0] 3)).alloc (.cells #[.int .i64 k] 3) := ⟨_, rfl⟩
  rw [← hW]
  have B0 := Lib.hid (show Below w.heap.size w W0 by rw [hW]; exact bel3 w _ _ _)
  have V0 := Lib.hid (show Boxed W0 (g + 1) 3 (.int .i64 0) by rw [hW, hg]; simpa using (Boxed.new (w.alloc (.cells #[.int .i64 s, .slice a len cap] 26)) 3 (.int .i64 0)).alloc (.cells #[.int .i64 k] 3))
  have U0 := Lib.hid (show Boxed W0 (g + 2) 3 (.int .i64 k) by rw [hW, hg]; simpa using Boxed.new ((w.alloc (.cells #[.int .i64 s, .slice a len cap] 26)).alloc (.cells #[.int .i64 0] 3)) 3 (.int .i64 k))
  have HG0 := Lib.hid hg
  rw [← hg]
  clear hW hg
  refine (callsIn_wide.2 (HC.out W0 B0.out)).mono ?_
  rintro e w1 ⟨lo, rfl, h1, h2, h3, h4⟩
  have H2 := Lib.hid h2
  have B1 := Lib.hid (B0.out.trans (h3.mono B0.out.size))
  have V1 := Lib.hid (V0.out.kept (grown_of_below h3 none) (by simp))
  have U1 := Lib.hid (U0.out.kept (grown_of_below h3 none) (by simp))
  have HG := Lib.hid h4
  have hlo : g + 2 < lo := by have := U0.out.lt; omega
  have hgw : w.heap.size ≤ g := by have := HG0.out; omega
  clear h1 h2 h3 h4
  gi_wp2
  refine wp_range (n := w.heap.size) (lo := lo) (hi := lo + 2) (by omega) rfl enters_steps HG.out B1.out.size H2.out
    (fun pre W => ((Boxed W (g + 1) 3 (.int .i64 pre.sum) ∧ Boxed W (g + 2) 3 (.int .i64 ((k : Int) - pre.length))) ∧ pre.length ≤ k ∧ ∀ y ∈ pre, 0 ≤ y ∧ y ≤ 24) ∧ Below w.heap.size w W)
    (fun c pre W => ((c = .exit 0 ∧ k < pre.length) ∧ Boxed W (g + 1) 3 (.int .i64 (pre.take k).sum)) ∧ Below w.heap.size w W)
    (OwnFrom.and (OwnFrom.and (OwnFrom.and (Own.from (boxed_own _ _ (fun pre : List Int => .int .i64 pre.sum)) _) (Own.from (boxed_own _ _ (fun pre : List Int => .int .i64 ((k : Int) - pre.length))) _)) (ownFrom_pure _ (fun pre : List Int => pre.length ≤ k ∧ ∀ y ∈ pre, 0 ≤ y ∧ y ≤ 24))) (ownFrom_below (Nat.le_refl _) B1.out.size))
    (fun c => OwnFrom.and (OwnFrom.and (ownFrom_pure _ (fun pre : List Int => c = .exit 0 ∧ k < pre.length)) (Own.from (boxed_own _ _ (fun pre : List Int => .int .i64 (pre.take k).sum)) _)) (ownFrom_below (Nat.le_refl _) B1.out.size))
    ⟨⟨⟨V1.out, by simpa using U1.out⟩, by simp, by simp⟩, B1.out⟩
    (fun x => { tmps := #[rhy s a len cap, .int .i64 i, .int .i64 k, .pointer (some ⟨g, 0, none⟩), undef, undef, .int .i64 0, .pointer (some ⟨g + 1, 0, none⟩), .pointer (some ⟨g + 1 + 1, 0, none⟩), .int .i64 x, .int .i64 k, .agg #[.int .i64 s, .slice a len cap], .int .i64 i, .func (.func 114) #[] #[.pointer (some ⟨lo, 0, none⟩), .pointer (some ⟨lo + 1, 0, none⟩)], .int .i64 x, undef, undef, undef, undef, undef, undef, undef, undef], defers := [] }) ?assign ?body ?done ?stop
  case assign =>
    intro q x W K hK
    gi_wp2
    exact hK
  case body =>
    rintro q pre x W ⟨⟨⟨hv, hu⟩, hpk, hbd⟩, hB⟩ hlt hx
    obtain ⟨hx1, hx2⟩ := HBD.out x hx
    have hc := hv.cell
    have hf := hv.frozen
    have hc2 := hu.cell
    have hf2 := hu.frozen
    have HB := Lib.hid hbd
    have hsb := sum_bd hbd pre.length (Nat.le_refl _)
    rw [List.take_length] at hsb
    obtain ⟨hs1, hs2⟩ := hsb
    obtain ⟨n, hn⟩ : ∃ n, n = (k : Int) - pre.length := ⟨_, rfl⟩
    have HN := Lib.hid hn
    have HV := Lib.hid hv
    have HU := Lib.hid hu
    rw [← hn] at hc2
    clear hx hbd hv hu hn
    by_cases h0 : pre.length = k
    · have hq : (n == 0) = true := by have := HN.out; simp; omega
      have HE := Lib.hid (show (((pre ++ [x]).take k).sum : Int) = pre.sum by rw [← h0, List.take_left])
      gi_wp2
      exact ⟨KeepsFrom.refl _ _, ⟨⟨rfl, by simp; omega⟩, by rw [HE.out]; exact HV.out⟩, hB⟩
    · have hq : (n == 0) = false := by have := HN.out; simp; omega
      have HE := Lib.hid (show ((pre ++ [x]).sum : Int) = pre.sum + x by simp)
      have HL := Lib.hid (show (k : Int) - (pre ++ [x]).length = n - 1 by have := HN.out; simp; omega)
      have hnb : 0 ≤ n ∧ n ≤ 24 := by have := HN.out; omega
      obtain ⟨hn1, hn2⟩ := hnb
      obtain ⟨S, hS⟩ : ∃ S, S = pre.sum := ⟨_, rfl⟩
      rw [← hS] at hs1 hs2 hc HE HV
      have HPK := Lib.hid (show (pre ++ [x]).length ≤ k by simp; omega)
      have HBX := Lib.hid (show ∀ y ∈ pre ++ [x], 0 ≤ y ∧ y ≤ 24 by intro y hy; rw [List.mem_append] at hy; rcases hy with hy | hy; exact HB.out y hy; have : y = x := (by simpa using hy); omega)
      have hlen24 : (pre.length : Int) ≤ 24 := by omega
      clear hS
      gi_wp2
      refine ⟨((KeepsOthers.setCell _ _ _).trans (KeepsOthers.setCell _ _ _)).from _, (Kp.set W (g + 1) (by omega) (.inl (by omega)) 0 _).t (Kp.set _ (g + 2) (by omega) (.inl (by omega)) 0 _), ⟨⟨?_, ?_⟩, HPK.out, HBX.out⟩, ?_⟩
      · rw [HE.out]
        exact (HV.out.set _).other (by omega) _
      · rw [HL.out]
        exact (HU.out.other (B' := g + 1) (by omega) _).set _
      · exact (hB.setCell (p := ⟨g + 1, 0, none⟩) (by show w.heap.size ≤ g + 1; omega) _).setCell (p := ⟨g + 1 + 1, 0, none⟩) (by show w.heap.size ≤ g + 1 + 1; omega) _
  case done =>
    rintro D W hD ⟨⟨⟨hv, hu⟩, hpk, hbd⟩, hB⟩ hK
    have hc := hv.cell
    have hB2 := hB.trans (belowK_b (w := w) (Nat.le_refl _) W D _ (.deferred none) (by have := B1.out.size; omega) hK rfl rfl)
    have HE := Lib.hid (show (l.take k).sum = l.sum by rw [List.take_of_length_le (by omega)])
    gi_wp2
    rw [HE.out]
    exact leave_mark _ hK (results_tmp rfl _ _ _) ⟨rfl, hB2⟩
  case stop =>
    rintro D c pre W hD hpre ⟨⟨⟨rfl, hlt⟩, hv⟩, hB⟩ hK
    have hc := hv.cell
    have hB2 := hB.trans (belowK_b (w := w) (Nat.le_refl _) W D _ (.deferred none) (by have := B1.out.size; omega) hK rfl rfl)
    have HE := Lib.hid (show pre.take k = l.take k by
      obtain ⟨t, rfl⟩ := hpre
      rw [List.take_append_of_le_length (by omega)])
    rw [HE.out] at hc
    gi_wp2
    exact leave_mark _ hK (results_tmp rfl _ _ _) ⟨rfl, hB2⟩
end Go.Proofs.Ythcmpkhfimapgaa.Rhy

/-
  Helpers of the claims beside this text: the program's SpanOf, StepSizes and SpanSizes.
-/
namespace Go.Proofs.Ythcmpkhfimapgaa.Rhy
open Go.RowKit
set_option linter.unusedVariables false
attribute [local go_sem] Oper.semAt_some wide_fn wide_depth

theorem stepsZ_len (s : Int) (zs : List Int) : (stepsZ s zs).length = zs.length := stepsP_len _ _ _
theorem stepsZ_at (s : Int) (zs : List Int) (k : Nat) (h : k < zs.length) : (stepsZ s zs).getD k 0 = stepAt s zs k := by
  simp [stepsZ, stepsP, List.getD_eq_getElem?_getD, h]
theorem turns_span (s : Int) (zs : List Int) (i len : Nat) (hl : zs.length = len) (h0 : 0 < len) : ∀ k, k ≤ len → ((turnsP s zs i len).take k).sum = spanL (stepsZ s zs) i k := by
  intro k
  induction k with
  | zero => intro _; rfl
  | succ k ih =>
    intro hk
    have e : (turnsP s zs i len)[k]? = some (stepAt s zs ((i + k) % zs.length)) := by simp [turnsP, show k < len by omega]
    rw [sum_snoc e, ih (by omega)]
    simp only [spanL]
    rw [stepsZ_len, stepsZ_at s zs _ (Nat.mod_lt _ (by omega))]

/-- When SpanOf is a span. -/
def SpC (s : Int) (zs : List Int) (i k : Int) : Prop := SpanOk s zs k ∧ 0 ≤ i ∧ i < zs.length
theorem spanB_yes {s : Int} {zs : List Int} {i k : Nat} (h : SpC s zs i k) : spanB s zs i k = ((turnsP s zs i zs.length).take k).sum := by
  obtain ⟨⟨ho, h0, hk0, hk⟩, hi0, hi⟩ := h
  unfold spanB
  rw [stB_yes ho, stepsZ_len, if_pos ⟨⟨hi0, hi⟩, hk0, hk⟩, turns_span s zs i zs.length rfl h0 k (by omega)]
  simp
theorem spanB_no {s : Int} {zs : List Int} {i k : Int} (h : ¬ SpC s zs i k) : spanB s zs i k = 0 := by
  unfold spanB
  rw [if_neg]
  rintro ⟨⟨h1, h2⟩, h3, h4⟩
  by_cases ho : Ok s zs
  · rw [stB_yes ho, stepsZ_len] at h2 h4
    exact h ⟨⟨ho, by omega, h3, h4⟩, h1, h2⟩
  · rw [stB_no ho] at h2
    simp at h2
    omega


set_option maxHeartbeats 400000 in
theorem sorted_any (n lo hi g : Nat) (lb : Array Value) (l : List Int) (w : World) (hG : Gives n lo hi w g lb l) (hE : Enters g) (hn : n ≤ w.heap.size) (hh : hi ≤ w.heap.size) (hl : l.length ≤ 1048576) :
    Calls Try.prog 89 #[.func (.func g) #[] lb] w (IPost (sortZ l) w) := by
  have HC := Lib.hid (collect_any n lo hi g lb l w hG hE hn hh hl)
  have hsl := sortZ_len l
  clear hG hE hn hh
  go_enter Try.func89, Try.ntmps89
  go_wp2_with fail
  refine (HC.out).mono ?_
  rintro e w1 ⟨b, c, rfl, hown, hb⟩
  have HO := Lib.hid hown
  have HB := Lib.hid hb
  clear hown hb
  go_wp2_with fail
  refine (sort_own w.heap.size b l.length c l w1 HO.out hl HB.out.size).mono ?_
  rintro e w2 ⟨rfl, hown, hb⟩
  have HO2 := Lib.hid hown
  have HB2 := Lib.hid hb
  clear hown hb
  go_wp2
  go_ret
  unfold IPost
  rw [hsl]
  exact ⟨b, c, rfl, HO2.out, HB.out.trans HB2.out⟩

theorem compact_to (m B : Nat) (a : Option Addr) (n cap : Nat) (l : List Int) (w : World) (hr : ∀ x ∈ l, 0 ≤ x ∧ x < (m : Nat)) (h : w.ownsRow B 3 1 (.slice a n cap) n (ints (sortZ l))) (hn : n ≤ 4194304) (hB : B ≤ w.heap.size) :
    Calls Try.prog 88 #[.slice a n cap] w fun e w' => e = .returned (.slice a (ofZ m l).length cap) ∧ w'.ownsRow B 3 1 (.slice a (ofZ m l).length cap) (ofZ m l).length (ints (ofZ m l)) ∧ Below B w w' := by
  have h := compact_own B a n cap (sortZ l) w h hn hB
  have e : Lib.compact (sortZ l) = ofZ m l := compact_sort hr
  rw [e] at h
  exact h

set_option maxHeartbeats 400000 in
theorem different_any (m n lo hi g : Nat) (lb : Array Value) (l : List Int) (w : World) (hG : Gives n lo hi w g lb l) (hE : Enters g) (hn : n ≤ w.heap.size) (hh : hi ≤ w.heap.size) (hl : l.length ≤ 1048576) (hr : ∀ x ∈ l, 0 ≤ x ∧ x < (m : Nat)) :
    Calls Try.prog 67 #[.func (.func g) #[] lb] w (IPost (ofZ m l) w) := by
  have HC := Lib.hid (sorted_any n lo hi g lb l w hG hE hn hh hl)
  have HR := Lib.hid hr
  have HSL := Lib.hid (sortZ_len l)
  clear hG hE hn hh hr
  go_enter Try.func67, Try.ntmps67
  go_wp2_with fail
  refine (HC.out).mono ?_
  rintro e w1 ⟨b, c, rfl, hown, hb⟩
  have HO := Lib.hid hown
  have HB := Lib.hid hb
  clear hown hb
  go_wp2_with fail
  refine (compact_to m w.heap.size b (sortZ l).length c l w1 HR.out HO.out (by have := HSL.out; omega) HB.out.size).mono ?_
  rintro e w2 ⟨rfl, hown, hb⟩
  have HO2 := Lib.hid hown
  have HB2 := Lib.hid hb
  clear hown hb
  go_wp2
  go_ret
  exact ⟨b, c, rfl, HO2.out, HB.out.trans HB2.out⟩

set_option maxHeartbeats 400000 in
theorem sizes_impl (s : Int) (a : Option Addr) (len cap : Nat) (zs : List Int) (w : World) (h : IntsAt w a len zs) (hm : zs.length ≤ 1048576) :
    Calls Try.prog 31 #[rhy s a len cap] w (IPost (sizeB s zs) w) := by
  have HS := Lib.hid h
  have hl' : len ≤ 1048576 := by have := h.1; omega
  clear h
  obtain ⟨l, hl⟩ : ∃ l, l = stB s zs := ⟨_, rfl⟩
  have HC := Lib.hid (fun w2 hb => iter_any s a len cap zs w w2 HS.out hb hl')
  have HV := Lib.hid (show sizeB s zs = ofZ 25 l by rw [hl]; rfl)
  have hlen : l.length ≤ 24 := by rw [hl]; exact stB_len s zs
  have HBD := Lib.hid (show ∀ x ∈ l, 0 ≤ x ∧ x < (25 : Nat) by rw [hl]; intro x hx; have := stB_bd s zs x hx; omega)
  rw [← hl] at HC
  rw [HV.out]
  clear hl
  go_enter Try.func31, Try.ntmps31
  go_wp2_with fail
  have B0 := Lib.hid (bel1 w (.cells #[.int .i64 s, .slice a len cap] 26))
  refine (HC.out _ B0.out).mono ?_
  rintro e w1 ⟨lo, rfl, h1, h2, h3, h4⟩
  have B1 := Lib.hid (B0.out.trans (h3.mono B0.out.size))
  have HG := Lib.hid (different_any 25 w.heap.size lo (lo + 2) _ _ l w1 h4 enters_steps B1.out.size h2 (by omega) HBD.out)
  clear h1 h2 h3 h4
  go_wp2_with fail
  refine HG.out.mono ?_
  rintro e w2 ⟨b, c, rfl, hown, hb⟩
  have HO := Lib.hid hown
  have HB := Lib.hid hb
  clear hown hb
  go_wp2
  go_ret
  exact ⟨b, c, rfl, own_base HO.out B1.out.size, B1.out.trans (HB.out.mono B1.out.size)⟩
end Go.Proofs.Ythcmpkhfimapgaa.Rhy

/-
  Helpers of the claims beside this text: the program's SpanSizes.
-/
namespace Go.Proofs.Ythcmpkhfimapgaa.Rhy
open Go.RowKit
set_option linter.unusedVariables false
attribute [local go_sem] Oper.semAt_some wide_fn wide_depth

/-- The spans of k steps, one for each beat. -/
def spansT (s : Int) (zs : List Int) (k n : Nat) : List Int := (List.range n).map fun i => ((turnsP s zs i zs.length).take k).sum
theorem spansT_len (s : Int) (zs : List Int) (k n : Nat) : (spansT s zs k n).length = n := by simp [spansT]
theorem spansT_at (s : Int) (zs : List Int) (k n i : Nat) (h : i < n) : (spansT s zs k n)[i]?.getD 0 = ((turnsP s zs i zs.length).take k).sum := by simp [spansT, h]
theorem spansT_eq {s : Int} {zs : List Int} (ho : Ok s zs) (h0 : 0 < zs.length) {k : Nat} (hk : k ≤ zs.length) : spansT s zs k zs.length = spansL (stB s zs) k (stB s zs).length := by
  rw [stB_yes ho, stepsZ_len]
  unfold spansT spansL
  refine List.map_congr_left fun i hi => ?_
  exact turns_span s zs i zs.length rfl h0 k hk

set_option maxHeartbeats 2000000 in
theorem spans_gives (s : Int) (a : Option Addr) (len cap : Nat) (zs : List Int) (k : Nat) (w0 w : World) (lo : Nat) (h : IntsAt w0 a len zs) (hb : Below w0.heap.size w0 w) (hm : len ≤ 1048576) (ho : Ok s zs) (hk : k ≤ len)
    (hT : Two w lo (.int .i64 s) (.slice a len cap)) (hI : w.cell? ⟨lo + 1, 0, none⟩ = some (.int .i64 k)) (hlo : lo + 2 ≤ w.heap.size) :
    Gives w0.heap.size lo (lo + 2) w 125 #[.pointer (some ⟨lo, 0, none⟩), .pointer (some ⟨lo + 1, 0, none⟩)] (spansT s zs k len) := by
  intro m l J Jx W hW hJ hJx hY h0
  have HS := Lib.hid h
  have hlen := h.len
  have hl24 : len ≤ 24 := by have := ok_len ho; omega
  have HHB := Lib.hid (hb.trans (hW.mono hb.size))
  have HO := Lib.hid ho
  have HT := Lib.hid (hT.keep hW)
  have HV := Lib.hid ((hW.cell (p := ⟨lo + 1, 0, none⟩) (by show lo + 1 < _; omega)).trans hI)
  have HJ := Lib.hid hJ
  have HY := Lib.hid hY
  have hlW : lo + 2 ≤ W.heap.size := by have := hW.size; omega
  clear h hb ho hT hI hJ hJx hY hW
  obtain ⟨x0, x1, x2⟩ := HT.out
  have x3 := HV.out
  refine callsIn_of_wp Try.func125 rfl trivial ?_ rfl
  simp only [Try.ntmps125, List.size_toArray, List.length_cons, List.length_nil, Nat.reduceAdd, Nat.reduceSub, Array.replicate_succ, Array.replicate_zero, List.push_toArray, List.append_toArray, List.nil_append, List.cons_append]
  gi_wp2
  gi_loopw [8] (fun i wr => ∃ j : Nat, j ≤ len ∧ i = .int .i64 j ∧ J (List.range j) wr ∧ Kp w0.heap.size lo (lo + 2) W wr ∧ W.heap.size ≤ wr.heap.size) (fun i _ => len - (intOf i).toNat)
  case atStart => exact ⟨0, Nat.zero_le _, rfl, h0, Kp.refl _ _ _ _, Nat.le_refl _⟩
  case round =>
    obtain ⟨j, hj, rfl, hJs, hkp, hsz⟩ := hrel
    have HJS := Lib.hid hJs
    have HK := Lib.hid hkp
    have HZ := Lib.hid hsz
    have y0 : lo < wr.heap.size := by omega
    have y1 : wr.cell? ⟨lo, 0, none⟩ = some (.int .i64 s) := (hkp.cell (p := ⟨lo, 0, none⟩) (Nat.le_refl _) (by show lo < lo + 2; omega)).trans x1
    have y2 : wr.cell? ⟨lo, 1, none⟩ = some (.slice a len cap) := (hkp.cell (p := ⟨lo, 1, none⟩) (Nat.le_refl _) (by show lo < lo + 2; omega)).trans x2
    have y3 : wr.cell? ⟨lo + 1, 0, none⟩ = some (.int .i64 k) := (hkp.cell (p := ⟨lo + 1, 0, none⟩) (by show lo ≤ lo + 1; omega) (by show lo + 1 < lo + 2; omega)).trans x3
    clear hJs hkp hsz x0 x1 x2 x3 h0
    by_cases hlt : j < len
    · have HC := Lib.hid (span_any s a len cap zs j k w0 wr HS.out (HHB.out.trans HK.out.1) hm HO.out hlt hk)
      have HAT : Hid ((spansT s zs k len)[j]?.getD 0 = ((turnsP s zs j len).take k).sum) := Lib.hid (by rw [spansT_at s zs k len j hlt, hlen])
      have HYY : Hid (∀ w2, Below wr.heap.size wr w2 → YieldAt Fence.wide (m - 1) Try.prog l #[.int .i64 ((turnsP s zs j len).take k).sum] w2 fun e W' => ∃ b, e = .returned (.bool b) ∧ (b = true → J (List.range (j + 1)) W' ∧ Kp w0.heap.size lo (lo + 2) W W' ∧ W.heap.size ≤ W'.heap.size) ∧ (b = false → Jx (List.range (j + 1)) W')) := by
        intro w2 hb3
        have hn0 : w0.heap.size ≤ wr.heap.size := by have := HHB.out.size; have := HZ.out; omega
        have hy := HY.out (List.range j) j w2 (HJ.out _ wr w2 none HJS.out (grown_of_below hb3 none) (fun r e => by cases e)) (by rw [spansT_len, List.length_range]; exact hlt)
        rw [HAT.out] at hy
        refine hy.mono ?_
        rintro e W' (⟨rfl, hj, hkp⟩ | ⟨rfl, hj⟩)
        · exact ⟨true, rfl, fun _ => ⟨by rw [List.range_succ]; exact hj, (HK.out.t (Kp.of_below hb3 hn0 (by have := HZ.out; omega))).t hkp, by have := HZ.out; have := hb3.size; have := hkp.1.size; omega⟩, fun h => by cases h⟩
        · exact ⟨false, rfl, (fun h => by cases h), fun _ => by rw [List.range_succ]; exact hj⟩
      clear hlen
      gi_wp2_with (first
        | (gi_at_call 126; refine (callsIn_wide.2 HC.out).mono ?_; rintro e w2 ⟨rfl, hb2⟩; obtain ⟨fn, tmps, assign, body, hy, hR⟩ := HYY.out w2 hb2)
        | (refine hR.mono ?_; rintro e W3 ⟨b, rfl, hb⟩; cases b))
      · have hj := hb.2 trivial
        refine bodyPost_ret (results_none rfl _ _ _) rfl ?_
        exact ⟨⟨_, rfl⟩, .inr ⟨_, range_pre (by rw [spansT_len]; omega), hj⟩⟩
      · obtain ⟨hj, hkp2, hsz2⟩ := hb.1 trivial
        go_roundw
        case rel => exact ⟨j + 1, by omega, by go_num, hj, hkp2, hsz2⟩
        case measure => simp [intOf]; omega
    · obtain rfl : j = len := by omega
      gi_wp2
      go_end0
      exact ⟨⟨_, rfl⟩, .inl ⟨_, by rw [spansT_len], HJS.out⟩⟩

theorem enters_spans : Enters 125 := enters_of Try.func125 (by kernel_rfl) rfl

theorem spansIter_any (s : Int) (a : Option Addr) (len cap : Nat) (zs : List Int) (k : Nat) (w0 w : World) (h : IntsAt w0 a len zs) (hb : Below w0.heap.size w0 w) (hm : len ≤ 1048576) (ho : Ok s zs) (hk : k ≤ len) :
    Calls Try.prog 112 #[rhy s a len cap, .int .i64 k] w fun e w' => ∃ lo, e = .returned (.func (.func 125) #[] #[.pointer (some ⟨lo, 0, none⟩), .pointer (some ⟨lo + 1, 0, none⟩)]) ∧ lo + 2 ≤ w'.heap.size ∧ Below w.heap.size w w' ∧
      Gives w0.heap.size lo (lo + 2) w' 125 #[.pointer (some ⟨lo, 0, none⟩), .pointer (some ⟨lo + 1, 0, none⟩)] (spansT s zs k len) := by
  have HS := Lib.hid h
  have HB := Lib.hid hb
  have HO := Lib.hid ho
  clear h hb ho
  go_enter Try.func112, Try.ntmps112
  go_wp2
  go_ret
  have b2 := bel2 w (.cells #[.int .i64 s, .slice a len cap] 26) (.cells #[.int .i64 k] 3)
  refine ⟨w.heap.size, rfl, by simp, b2, ?_⟩
  refine spans_gives s a len cap zs k w0 _ w.heap.size HS.out (HB.out.trans (b2.mono HB.out.size)) hm HO.out hk ((two_new w _ _ _).keep (bel1 _ _)) ?_ (by simp)
  simp

set_option maxHeartbeats 400000 in
theorem spans_impl (s : Int) (a : Option Addr) (len cap : Nat) (zs : List Int) (k : Int) (w : World) (h : IntsAt w a len zs) (hm : zs.length ≤ 1048576) (hk1 : -9223372036854775808 ≤ k) (hk2 : k ≤ 9223372036854775807) :
    Calls Try.prog 87 #[rhy s a len cap, .int .i64 k] w (IPost (spansB s zs k) w) := by
  have HS := Lib.hid h
  have hl' : len ≤ 1048576 := by have := h.1; omega
  have hlen := h.len
  clear h
  by_cases hc : SpanOk s zs k
  · have HC := Lib.hid hc
    obtain ⟨ho, h0, hk0, hkn⟩ := hc
    obtain ⟨q, rfl⟩ : ∃ q : Nat, k = q := ⟨k.toNat, by omega⟩
    obtain ⟨l, hl⟩ : ∃ l, l = spansT s zs q len := ⟨_, rfl⟩
    have HE := Lib.hid (show spansB s zs q = ofZ 577 l by
      unfold spansB
      rw [cZ_yes ⟨by rw [stB_yes ho, stepsZ_len]; exact h0, hk0, by rw [stB_yes ho, stepsZ_len]; exact hkn⟩, hl, ← hlen, spansT_eq ho h0 (by omega)]
      rfl)
    have HI := Lib.hid (fun w2 hb => spansIter_any s a len cap zs q w w2 HS.out hb hl' ho (by omega))
    have HBD := Lib.hid (show ∀ x ∈ l, 0 ≤ x ∧ x < (577 : Nat) by
      rw [hl, ← hlen, spansT_eq ho h0 (by omega)]
      exact spansL_bd (stB_bd s zs) (by have := ok_len ho; omega))
    have hll : l.length ≤ 24 := by rw [hl, spansT_len]; have := ok_len ho; omega
    rw [← hl] at HI
    rw [HE.out]
    clear ho hlen hl
    go_enter Try.func87, Try.ntmps87
    go_wp2_with fail
    refine (has_spans s a len cap zs q _ (HS.out.below (bel1 w _)) hl' hk1 hk2).mono ?_
    rintro e w1 ⟨rfl, hb1⟩
    rw [cB_yes HC.out]
    have B1 := Lib.hid ((bel1 w (.cells #[.int .i64 s, .slice a len cap] 26)).trans (hb1.mono (by simp)))
    have T1 := Lib.hid ((two_new w (.int .i64 s) (.slice a len cap) 26).keep hb1)
    obtain ⟨t1, t1a, t1b⟩ := T1.out
    clear hb1
    go_wp2_with fail
    refine (HI.out w1 B1.out).mono ?_
    rintro e w2 ⟨lo, rfl, h2, h3, h4⟩
    have B2 := Lib.hid (B1.out.trans (h3.mono B1.out.size))
    have HG := Lib.hid (different_any 577 w.heap.size lo (lo + 2) _ _ l w2 h4 enters_spans B2.out.size h2 (by omega) HBD.out)
    clear h2 h3 h4
    go_wp2_with fail
    refine HG.out.mono ?_
    rintro e w3 ⟨b, c, rfl, hown, hb⟩
    have HO := Lib.hid hown
    have HB := Lib.hid hb
    clear hown hb
    go_wp2
    go_ret
    exact ⟨b, c, rfl, own_base HO.out B2.out.size, B2.out.trans (HB.out.mono B2.out.size)⟩
  · have HC := Lib.hid hc
    have HE := Lib.hid (show spansB s zs k = [] by
      unfold spansB
      refine cZ_no ?_
      rintro ⟨h1, h2, h3⟩
      by_cases ho : Ok s zs
      · rw [stB_yes ho, stepsZ_len] at h1 h3
        exact hc ⟨ho, h1, h2, h3⟩
      · rw [stB_no ho] at h1
        simp at h1)
    rw [HE.out]
    clear hc hlen
    go_enter Try.func87, Try.ntmps87
    go_wp2_with fail
    refine (has_spans s a len cap zs k _ (HS.out.below (bel1 w _)) hl' hk1 hk2).mono ?_
    rintro e w1 ⟨rfl, hb1⟩
    rw [cB_no HC.out]
    have B1 := Lib.hid ((bel1 w (.cells #[.int .i64 s, .slice a len cap] 26)).trans (hb1.mono (by simp)))
    clear hb1
    go_wp2
    go_ret
    exact ⟨none, 0, rfl, World.ownsRow_nil _ _ _ _, B1.out⟩
end Go.Proofs.Ythcmpkhfimapgaa.Rhy
