/-
  Helpers of the claims beside this text: vectors compared, twins, common beats, intervals between beats: the model's.
-/
import Derived.Test.YtcppmcacjjjjeaaIvl
import Derived.Test.YtcppmcacjjjjeaaAfo
import Derived.Deep.AppendLies
import Derived.Test.YtcppmcacjjjjeaaOut
namespace Go.Proofs.Ytcppmcacjjjjeaa.Rhy
open Go.RowKit
set_option linter.unusedVariables false
set_option linter.unusedSimpArgs false

/-- A box that holds a rhythm, valid or not. -/
def RhI (w : World) (b : Nat) (s : Int) (a : Option Addr) (len cap : Nat) (zs : List Int) : Prop := Box w b (.int .i64 s) (.slice a len cap) 25 ∧ IntsAt w a len zs
theorem RhI.keep {w w' : World} {b len cap : Nat} {s : Int} {a : Option Addr} {zs : List Int} (h : RhI w b s a len cap zs) (hb : Below w.heap.size w w') : RhI w' b s a len cap zs := ⟨h.1.keep hb h.1.lt, h.2.below hb⟩

open Classical in
/-- What both answer: the vectors are the same. -/
noncomputable def svB (s : Int) (xs : List Int) (t : Int) (ys : List Int) : Bool := decide (Ok s xs ∧ Ok t ys ∧ s = t ∧ vecZ s xs = vecZ s ys)
theorem svB_no {s t : Int} {xs ys : List Int} (h : ¬ (Ok s xs ∧ Ok t ys ∧ s = t)) : svB s xs t ys = false := by
  unfold svB
  rw [decide_eq_false_iff_not]
  exact fun q => h ⟨q.1, q.2.1, q.2.2.1⟩
theorem svB_yes {s : Int} {xs ys : List Int} (hx : Ok s xs) (hy : Ok s ys) : svB s xs s ys = eqB (vecZ s xs) (vecZ s ys) := by
  unfold svB eqB
  rw [decide_eq_decide]
  exact ⟨fun q => q.2.2.2, fun q => ⟨hx, hy, rfl, q⟩⟩
theorem same_q (a b : Option Addr) (n m ca cb : Nat) (xs ys : List Int) (q : Bool) (w : World) (ha : IntsAt w a n xs) (hb : IntsAt w b m ys) (hn : n ≤ 1048576) (hm : m ≤ 1048576) (hq : eqB xs ys = q) :
    Calls Try.prog 87 #[.slice a n ca, .slice b m cb] w fun e w' => e = .returned (.bool q) ∧ Below w.heap.size w w' :=
  (same_spec0 a b n m ca cb xs ys w ha hb hn hm).mono fun e w' h => ⟨by rw [h.1, hq], by rw [← h.2]; exact Below.refl _ _⟩
noncomputable def twB (s : Int) (xs : List Int) (t : Int) (ys : List Int) : Bool := svB s xs t ys && !aforB s xs t ys

set_option maxHeartbeats 1000000 in
theorem samevec_spec (s : Int) (a : Option Addr) (n ca : Nat) (xs : List Int) (t : Int) (b : Option Addr) (m cb : Nat) (ys : List Int) (w : World) (ha : IntsAt w a n xs) (hn : xs.length ≤ 1048576) (hb : IntsAt w b m ys) (hm : ys.length ≤ 1048576) :
    Calls Try.prog 46 #[rhy s a n ca, rhy t b m cb] w fun e w' => e = .returned (.bool (svB s xs t ys)) ∧ Below w.heap.size w w' := by
  have FA := Lib.hid ha
  have FB := Lib.hid hb
  have hn' : n ≤ 1048576 := by have := ha.1; omega
  have hm' : m ≤ 1048576 := by have := hb.1; omega
  clear ha hb
  obtain ⟨W0, hW⟩ : ∃ W0, W0 = (w.alloc (.cells #[.int .i64 s, .slice a n ca] 25)).alloc (.cells #[.int .i64 t, .slice b m cb] 25) := ⟨_, rfl⟩
  have HW := Lib.hid hW
  have HB0 := Lib.hid (show Below w.heap.size w W0 by rw [hW]; exact bel2 w _ _)
  have HX0 : Hid (RhI W0 w.heap.size s a n ca xs) := Lib.hid ⟨by rw [hW]; exact (box_new w _ _ _).keep (bel1 _ _) (by simp), FA.out.below HB0.out⟩
  have HY0 : Hid (RhI W0 (w.heap.size + 1) t b m cb ys) := Lib.hid ⟨by rw [hW]; simpa using box_new (w.alloc (.cells #[.int .i64 s, .slice a n ca] 25)) (.int .i64 t) (.slice b m cb) 25, FB.out.below HB0.out⟩
  clear hW FA FB
  by_cases ho : Ok s xs
  · have HO := Lib.hid ho
    by_cases hp : Ok t ys
    · have HP := Lib.hid hp
      by_cases hst : s = t
      · subst hst
        obtain ⟨nn, rfl⟩ : ∃ nn : Nat, s = nn := ⟨s.toNat, by have := ho.1; omega⟩
        obtain ⟨q, hq⟩ : ∃ q, eqB (vecZ nn xs) (vecZ nn ys) = q := ⟨_, rfl⟩
        have HQ := Lib.hid hq
        have HE : Hid (svB nn xs nn ys = q) := Lib.hid (by rw [svB_yes ho hp, hq])
        have HVX := Lib.hid (vec_int ho)
        have HVY := Lib.hid (vec_int hp)
        have HLX : Hid ((vecZ nn xs).length ≤ 24) := Lib.hid (by rw [vec_len]; have := ho.1; omega)
        have HLY : Hid ((vecZ nn ys).length ≤ 24) := Lib.hid (by rw [vec_len]; have := ho.1; omega)
        clear ho hp hq
        go_enter Try.func46, Try.ntmps46
        go_wp2
        rw [← HW.out]
        have HK : Hid (∀ W' : World, Below W0.heap.size W0 W' → W'.cell? ⟨w.heap.size, 0, none⟩ = some (.int .i64 nn) ∧ W'.cell? ⟨w.heap.size, 1, none⟩ = some (.slice a n ca) ∧ W'.cell? ⟨(w.heap.size + 1), 0, none⟩ = some (.int .i64 nn) ∧ W'.cell? ⟨(w.heap.size + 1), 1, none⟩ = some (.slice b m cb) ∧ Below W0.heap.size W0 W') :=
          Lib.hid (fun W' hW => ⟨(HX0.out.keep hW).1.facts.1, (HX0.out.keep hW).1.facts.2.1, (HY0.out.keep hW).1.facts.1, (HY0.out.keep hW).1.facts.2.1, hW⟩)
        have HIx : Hid (∀ W' : World, Below W0.heap.size W0 W' → IntsAt W' a n xs) := Lib.hid (fun W' hW => (HX0.out.keep hW).2)
        have HIy : Hid (∀ W' : World, Below W0.heap.size W0 W' → IntsAt W' b m ys) := Lib.hid (fun W' hW => (HY0.out.keep hW).2)
        refine wp_region_held_drew (S := fun W' => W'.cell? ⟨w.heap.size, 0, none⟩ = some (.int .i64 nn) ∧ W'.cell? ⟨w.heap.size, 1, none⟩ = some (.slice a n ca) ∧ W'.cell? ⟨(w.heap.size + 1), 0, none⟩ = some (.int .i64 nn) ∧ W'.cell? ⟨(w.heap.size + 1), 1, none⟩ = some (.slice b m cb) ∧ Below W0.heap.size W0 W') (by kernel_rfl) (HK.out _ (Below.refl _ _).drew) (fun hSS0 => ?_)
        refine wpAnyH_take (i := 0) (oi := ⟨some 5, _, _, _, _, _⟩) (v := .agg #[.int .i64 nn, .slice a n ca]) rfl (by kernel_rfl) (by kernel_rfl) (by kernel_rfl) (fun _ _ _ h => h) (Or.inl ⟨by rfl, fun w hSw => by obtain ⟨q1, q2, _⟩ := hSw; go_simp⟩) (by assumption) ?_
        try simp only [Act.put, List.setIfInBounds_toArray, List.set_cons_zero, List.set_cons_succ]
        refine wpAnyH_ready (rs := [1]) (by kernel_rfl) (by simp) ?_
        refine AllReadyH.cons rfl (fun K hKK => ?_) AllReadyH.nil
        go_simp
        go_at_call 83
        refine (ok_yes nn a n ca xs _ (HIx.out _ (Below.refl _ _).drew) hn' HO.out).mono ?_
        rintro e wk1 ⟨rfl, hc1⟩
        have hbb1 : Below W0.heap.size W0 wk1 := (Below.refl _ _).drew.trans hc1
        clear hc1
        refine hKK.out _ _ (HK.out _ hbb1) (fun hSS1 => ?_)
        clear hKK K hSS0
        try simp only [Act.put, List.setIfInBounds_toArray, List.set_cons_zero, List.set_cons_succ]
        refine wpAnyH_take (i := 2) (oi := ⟨some 7, _, _, _, _, _⟩) (v := .bool true) rfl (by kernel_rfl) (by kernel_rfl) (by kernel_rfl) (fun _ _ _ h => h) (Or.inl ⟨by rfl, fun w hSw => by go_simp⟩) (by assumption) ?_
        try simp only [Act.put, List.setIfInBounds_toArray, List.set_cons_zero, List.set_cons_succ]
        refine wpAnyH_take (i := 3) (oi := ⟨some 8, _, _, _, _, _⟩) (v := .agg #[.int .i64 nn, .slice b m cb]) rfl (by kernel_rfl) (by kernel_rfl) (by kernel_rfl) (fun _ _ _ h => h) (Or.inl ⟨by rfl, fun w hSw => by obtain ⟨_, _, q1, q2, _⟩ := hSw; go_simp⟩) (by assumption) ?_
        try simp only [Act.put, List.setIfInBounds_toArray, List.set_cons_zero, List.set_cons_succ]
        refine wpAnyH_ready (rs := [4]) (by kernel_rfl) (by simp) ?_
        refine AllReadyH.cons rfl (fun K hKK => ?_) AllReadyH.nil
        go_simp
        go_at_call 83
        refine (ok_yes nn b m cb ys _ (HIy.out _ hbb1) hm' HP.out).mono ?_
        rintro e wk2 ⟨rfl, hc2⟩
        have hbb2 : Below W0.heap.size W0 wk2 := hbb1.trans (hc2.mono hbb1.size)
        clear hc2
        refine hKK.out _ _ (HK.out _ hbb2) (fun hSS2 => ?_)
        clear hKK K hbb1 hSS1
        try simp only [Act.put, List.setIfInBounds_toArray, List.set_cons_zero, List.set_cons_succ]
        refine wpAnyH_take (i := 5) (oi := ⟨some 10, _, _, _, _, _⟩) (v := .bool true) rfl (by kernel_rfl) (by kernel_rfl) (by kernel_rfl) (fun _ _ _ h => h) (Or.inl ⟨by rfl, fun w hSw => by go_simp⟩) (by assumption) ?_
        try simp only [Act.put, List.setIfInBounds_toArray, List.set_cons_zero, List.set_cons_succ]
        refine wpAnyH_take (i := 6) (oi := ⟨some 11, _, _, _, _, _⟩) (v := .bool true) rfl (by kernel_rfl) (by kernel_rfl) (by kernel_rfl) (fun _ _ _ h => h) (Or.inl ⟨by rfl, fun w hSw => by go_simp⟩) (by assumption) ?_
        try simp only [Act.put, List.setIfInBounds_toArray, List.set_cons_zero, List.set_cons_succ]
        refine wpAnyH_take (i := 7) (oi := ⟨some 12, _, _, _, _, _⟩) (v := .pointer (some ⟨w.heap.size, 0, none⟩)) rfl (by kernel_rfl) (by kernel_rfl) (by kernel_rfl) (fun _ _ _ h => h) (Or.inl ⟨by rfl, fun w hSw => by go_simp⟩) (by assumption) ?_
        try simp only [Act.put, List.setIfInBounds_toArray, List.set_cons_zero, List.set_cons_succ]
        refine wpAnyH_take (i := 8) (oi := ⟨some 13, _, _, _, _, _⟩) (v := .int .i64 nn) rfl (by kernel_rfl) (by kernel_rfl) (by kernel_rfl) (fun _ _ _ h => h) (Or.inl ⟨by rfl, fun w hSw => by obtain ⟨q1, q2, _⟩ := hSw; go_simp⟩) (by assumption) ?_
        try simp only [Act.put, List.setIfInBounds_toArray, List.set_cons_zero, List.set_cons_succ]
        refine wpAnyH_take (i := 9) (oi := ⟨some 14, _, _, _, _, _⟩) (v := .pointer (some ⟨(w.heap.size + 1), 0, none⟩)) rfl (by kernel_rfl) (by kernel_rfl) (by kernel_rfl) (fun _ _ _ h => h) (Or.inl ⟨by rfl, fun w hSw => by go_simp⟩) (by assumption) ?_
        try simp only [Act.put, List.setIfInBounds_toArray, List.set_cons_zero, List.set_cons_succ]
        refine wpAnyH_take (i := 10) (oi := ⟨some 15, _, _, _, _, _⟩) (v := .int .i64 nn) rfl (by kernel_rfl) (by kernel_rfl) (by kernel_rfl) (fun _ _ _ h => h) (Or.inl ⟨by rfl, fun w hSw => by obtain ⟨_, _, q1, q2, _⟩ := hSw; go_simp⟩) (by assumption) ?_
        try simp only [Act.put, List.setIfInBounds_toArray, List.set_cons_zero, List.set_cons_succ]
        refine wpAnyH_take (i := 11) (oi := ⟨some 16, _, _, _, _, _⟩) (v := .bool true) rfl (by kernel_rfl) (by kernel_rfl) (by kernel_rfl) (fun _ _ _ h => h) (Or.inl ⟨by rfl, fun w hSw => by go_simp⟩) (by assumption) ?_
        try simp only [Act.put, List.setIfInBounds_toArray, List.set_cons_zero, List.set_cons_succ]
        refine wpAnyH_take (i := 12) (oi := ⟨some 17, _, _, _, _, _⟩) (v := .bool true) rfl (by kernel_rfl) (by kernel_rfl) (by kernel_rfl) (fun _ _ _ h => h) (Or.inl ⟨by rfl, fun w hSw => by go_simp⟩) (by assumption) ?_
        try simp only [Act.put, List.setIfInBounds_toArray, List.set_cons_zero, List.set_cons_succ]
        refine wpAnyH_take (i := 13) (oi := ⟨some 18, _, _, _, _, _⟩) (v := .bool true) rfl (by kernel_rfl) (by kernel_rfl) (by kernel_rfl) (fun _ _ _ h => h) (Or.inl ⟨by rfl, fun w hSw => by go_simp⟩) (by assumption) ?_
        try simp only [Act.put, List.setIfInBounds_toArray, List.set_cons_zero, List.set_cons_succ]
        refine wpAnyH_take (i := 14) (oi := ⟨some 19, _, _, _, _, _⟩) (v := .agg #[.int .i64 nn, .slice a n ca]) rfl (by kernel_rfl) (by kernel_rfl) (by kernel_rfl) (fun _ _ _ h => h) (Or.inl ⟨by rfl, fun w hSw => by obtain ⟨q1, q2, _⟩ := hSw; go_simp⟩) (by assumption) ?_
        try simp only [Act.put, List.setIfInBounds_toArray, List.set_cons_zero, List.set_cons_succ]
        refine wpAnyH_take (i := 16) (oi := ⟨some 21, _, _, _, _, _⟩) (v := .agg #[.int .i64 nn, .slice b m cb]) rfl (by kernel_rfl) (by kernel_rfl) (by kernel_rfl) (fun _ _ _ h => h) (Or.inl ⟨by rfl, fun w hSw => by obtain ⟨_, _, q1, q2, _⟩ := hSw; go_simp⟩) (by assumption) ?_
        try simp only [Act.put, List.setIfInBounds_toArray, List.set_cons_zero, List.set_cons_succ]
        refine wpAnyH_ready (rs := [15]) (by kernel_rfl) (by simp) ?_
        refine AllReadyH.cons rfl (fun K hKK => ?_) AllReadyH.nil
        go_simp
        go_at_call 86
        refine (vec0_spec nn a n ca xs _ (HIx.out _ hbb2) hn' HO.out).mono ?_
        rintro e wk3 ⟨av, cv, rfl, hown3, hc3⟩
        have HV20 := Lib.hid (intsAt_own hown3 HVX.out)
        clear hown3
        have hbb3 : Below W0.heap.size W0 wk3 := hbb2.trans (hc3.mono hbb2.size)
        clear hc3
        refine hKK.out _ _ (HK.out _ hbb3) (fun hSS3 => ?_)
        clear hKK K hbb2 hSS2
        try simp only [Act.put, List.setIfInBounds_toArray, List.set_cons_zero, List.set_cons_succ]
        refine wpAnyH_ready (rs := [17]) (by kernel_rfl) (by simp) ?_
        refine AllReadyH.cons rfl (fun K hKK => ?_) AllReadyH.nil
        go_simp
        go_at_call 86
        refine (vec0_spec nn b m cb ys _ (HIy.out _ hbb3) hm' HP.out).mono ?_
        rintro e wk4 ⟨aw, cw, rfl, hown4, hc4⟩
        have HV22 := Lib.hid (intsAt_own hown4 HVY.out)
        have HV21 := Lib.hid (HV20.out.below hc4)
        clear hown4
        have hbb4 : Below W0.heap.size W0 wk4 := hbb3.trans (hc4.mono hbb3.size)
        clear hc4
        refine hKK.out _ _ (HK.out _ hbb4) (fun hSS4 => ?_)
        clear hKK K hbb3 hSS3
        try simp only [Act.put, List.setIfInBounds_toArray, List.set_cons_zero, List.set_cons_succ]
        refine wpAnyH_ready (rs := [18]) (by kernel_rfl) (by simp) ?_
        refine AllReadyH.cons rfl (fun K hKK => ?_) AllReadyH.nil
        go_simp
        go_at_call 87
        refine (same_q av aw (vecZ nn xs).length (vecZ nn ys).length cv cw (vecZ nn xs) (vecZ nn ys) q _ HV21.out HV22.out (by have := HLX.out; omega) (by have := HLY.out; omega) HQ.out).mono ?_
        rintro e wk5 ⟨rfl, hc5⟩
        have hbb5 : Below W0.heap.size W0 wk5 := hbb4.trans (hc5.mono hbb4.size)
        clear hc5
        refine hKK.out _ _ (HK.out _ hbb5) (fun hSS5 => ?_)
        clear hKK K hbb4 hSS4
        try simp only [Act.put, List.setIfInBounds_toArray, List.set_cons_zero, List.set_cons_succ]
        refine wpAnyH_take (i := 19) (oi := ⟨some 24, _, _, _, _, _⟩) (v := .bool q) rfl (by kernel_rfl) (by kernel_rfl) (by kernel_rfl) (fun _ _ _ h => h) (Or.inl ⟨by rfl, fun w hSw => by go_simp⟩) (by assumption) ?_
        try simp only [Act.put, List.setIfInBounds_toArray, List.set_cons_zero, List.set_cons_succ]
        refine wpAnyH_take (i := 20) (oi := ⟨some 4, _, _, _, _, _⟩) (v := .bool q) rfl (by kernel_rfl) (by kernel_rfl) (by kernel_rfl) (fun _ _ _ h => h) (Or.inl ⟨by rfl, fun w hSw => by go_simp⟩) (by assumption) ?_
        try simp only [Act.put, List.setIfInBounds_toArray, List.set_cons_zero, List.set_cons_succ]
        refine wpAnyH_done (by kernel_rfl) ?_ _
        clear HK
        go_wp2
        go_ret
        rw [HE.out]
        exact ⟨rfl, HB0.out.trans (hbb5.mono HB0.out.size)⟩
      · have HE : Hid (svB s xs t ys = false) := Lib.hid (svB_no (fun q => hst q.2.2))
        have hstb : (s == t) = false := by simp; exact hst
        clear ho hp
        go_enter Try.func46, Try.ntmps46
        go_wp2
        rw [← HW.out]
        have HK : Hid (∀ W' : World, Below W0.heap.size W0 W' → W'.cell? ⟨w.heap.size, 0, none⟩ = some (.int .i64 s) ∧ W'.cell? ⟨w.heap.size, 1, none⟩ = some (.slice a n ca) ∧ W'.cell? ⟨(w.heap.size + 1), 0, none⟩ = some (.int .i64 t) ∧ W'.cell? ⟨(w.heap.size + 1), 1, none⟩ = some (.slice b m cb) ∧ Below W0.heap.size W0 W') :=
          Lib.hid (fun W' hW => ⟨(HX0.out.keep hW).1.facts.1, (HX0.out.keep hW).1.facts.2.1, (HY0.out.keep hW).1.facts.1, (HY0.out.keep hW).1.facts.2.1, hW⟩)
        have HIx : Hid (∀ W' : World, Below W0.heap.size W0 W' → IntsAt W' a n xs) := Lib.hid (fun W' hW => (HX0.out.keep hW).2)
        have HIy : Hid (∀ W' : World, Below W0.heap.size W0 W' → IntsAt W' b m ys) := Lib.hid (fun W' hW => (HY0.out.keep hW).2)
        refine wp_region_held_drew (S := fun W' => W'.cell? ⟨w.heap.size, 0, none⟩ = some (.int .i64 s) ∧ W'.cell? ⟨w.heap.size, 1, none⟩ = some (.slice a n ca) ∧ W'.cell? ⟨(w.heap.size + 1), 0, none⟩ = some (.int .i64 t) ∧ W'.cell? ⟨(w.heap.size + 1), 1, none⟩ = some (.slice b m cb) ∧ Below W0.heap.size W0 W') (by kernel_rfl) (HK.out _ (Below.refl _ _).drew) (fun hSS0 => ?_)
        refine wpAnyH_take (i := 0) (oi := ⟨some 5, _, _, _, _, _⟩) (v := .agg #[.int .i64 s, .slice a n ca]) rfl (by kernel_rfl) (by kernel_rfl) (by kernel_rfl) (fun _ _ _ h => h) (Or.inl ⟨by rfl, fun w hSw => by obtain ⟨q1, q2, _⟩ := hSw; go_simp⟩) (by assumption) ?_
        try simp only [Act.put, List.setIfInBounds_toArray, List.set_cons_zero, List.set_cons_succ]
        refine wpAnyH_ready (rs := [1]) (by kernel_rfl) (by simp) ?_
        refine AllReadyH.cons rfl (fun K hKK => ?_) AllReadyH.nil
        go_simp
        go_at_call 83
        refine (ok_yes s a n ca xs _ (HIx.out _ (Below.refl _ _).drew) hn' HO.out).mono ?_
        rintro e wk1 ⟨rfl, hc1⟩
        have hbb1 : Below W0.heap.size W0 wk1 := (Below.refl _ _).drew.trans hc1
        clear hc1
        refine hKK.out _ _ (HK.out _ hbb1) (fun hSS1 => ?_)
        clear hKK K hSS0
        try simp only [Act.put, List.setIfInBounds_toArray, List.set_cons_zero, List.set_cons_succ]
        refine wpAnyH_take (i := 2) (oi := ⟨some 7, _, _, _, _, _⟩) (v := .bool true) rfl (by kernel_rfl) (by kernel_rfl) (by kernel_rfl) (fun _ _ _ h => h) (Or.inl ⟨by rfl, fun w hSw => by go_simp⟩) (by assumption) ?_
        try simp only [Act.put, List.setIfInBounds_toArray, List.set_cons_zero, List.set_cons_succ]
        refine wpAnyH_take (i := 3) (oi := ⟨some 8, _, _, _, _, _⟩) (v := .agg #[.int .i64 t, .slice b m cb]) rfl (by kernel_rfl) (by kernel_rfl) (by kernel_rfl) (fun _ _ _ h => h) (Or.inl ⟨by rfl, fun w hSw => by obtain ⟨_, _, q1, q2, _⟩ := hSw; go_simp⟩) (by assumption) ?_
        try simp only [Act.put, List.setIfInBounds_toArray, List.set_cons_zero, List.set_cons_succ]
        refine wpAnyH_ready (rs := [4]) (by kernel_rfl) (by simp) ?_
        refine AllReadyH.cons rfl (fun K hKK => ?_) AllReadyH.nil
        go_simp
        go_at_call 83
        refine (ok_yes t b m cb ys _ (HIy.out _ hbb1) hm' HP.out).mono ?_
        rintro e wk2 ⟨rfl, hc2⟩
        have hbb2 : Below W0.heap.size W0 wk2 := hbb1.trans (hc2.mono hbb1.size)
        clear hc2
        refine hKK.out _ _ (HK.out _ hbb2) (fun hSS2 => ?_)
        clear hKK K hbb1 hSS1
        try simp only [Act.put, List.setIfInBounds_toArray, List.set_cons_zero, List.set_cons_succ]
        refine wpAnyH_take (i := 5) (oi := ⟨some 10, _, _, _, _, _⟩) (v := .bool true) rfl (by kernel_rfl) (by kernel_rfl) (by kernel_rfl) (fun _ _ _ h => h) (Or.inl ⟨by rfl, fun w hSw => by go_simp⟩) (by assumption) ?_
        try simp only [Act.put, List.setIfInBounds_toArray, List.set_cons_zero, List.set_cons_succ]
        refine wpAnyH_take (i := 6) (oi := ⟨some 11, _, _, _, _, _⟩) (v := .bool true) rfl (by kernel_rfl) (by kernel_rfl) (by kernel_rfl) (fun _ _ _ h => h) (Or.inl ⟨by rfl, fun w hSw => by go_simp⟩) (by assumption) ?_
        try simp only [Act.put, List.setIfInBounds_toArray, List.set_cons_zero, List.set_cons_succ]
        refine wpAnyH_take (i := 7) (oi := ⟨some 12, _, _, _, _, _⟩) (v := .pointer (some ⟨w.heap.size, 0, none⟩)) rfl (by kernel_rfl) (by kernel_rfl) (by kernel_rfl) (fun _ _ _ h => h) (Or.inl ⟨by rfl, fun w hSw => by go_simp⟩) (by assumption) ?_
        try simp only [Act.put, List.setIfInBounds_toArray, List.set_cons_zero, List.set_cons_succ]
        refine wpAnyH_take (i := 8) (oi := ⟨some 13, _, _, _, _, _⟩) (v := .int .i64 s) rfl (by kernel_rfl) (by kernel_rfl) (by kernel_rfl) (fun _ _ _ h => h) (Or.inl ⟨by rfl, fun w hSw => by obtain ⟨q1, q2, _⟩ := hSw; go_simp⟩) (by assumption) ?_
        try simp only [Act.put, List.setIfInBounds_toArray, List.set_cons_zero, List.set_cons_succ]
        refine wpAnyH_take (i := 9) (oi := ⟨some 14, _, _, _, _, _⟩) (v := .pointer (some ⟨(w.heap.size + 1), 0, none⟩)) rfl (by kernel_rfl) (by kernel_rfl) (by kernel_rfl) (fun _ _ _ h => h) (Or.inl ⟨by rfl, fun w hSw => by go_simp⟩) (by assumption) ?_
        try simp only [Act.put, List.setIfInBounds_toArray, List.set_cons_zero, List.set_cons_succ]
        refine wpAnyH_take (i := 10) (oi := ⟨some 15, _, _, _, _, _⟩) (v := .int .i64 t) rfl (by kernel_rfl) (by kernel_rfl) (by kernel_rfl) (fun _ _ _ h => h) (Or.inl ⟨by rfl, fun w hSw => by obtain ⟨_, _, q1, q2, _⟩ := hSw; go_simp⟩) (by assumption) ?_
        try simp only [Act.put, List.setIfInBounds_toArray, List.set_cons_zero, List.set_cons_succ]
        refine wpAnyH_take (i := 11) (oi := ⟨some 16, _, _, _, _, _⟩) (v := .bool false) rfl (by kernel_rfl) (by kernel_rfl) (by kernel_rfl) (fun _ _ _ h => h) (Or.inl ⟨by rfl, fun w hSw => by go_simp⟩) (by assumption) ?_
        try simp only [Act.put, List.setIfInBounds_toArray, List.set_cons_zero, List.set_cons_succ]
        refine wpAnyH_take (i := 12) (oi := ⟨some 17, _, _, _, _, _⟩) (v := .bool false) rfl (by kernel_rfl) (by kernel_rfl) (by kernel_rfl) (fun _ _ _ h => h) (Or.inl ⟨by rfl, fun w hSw => by go_simp⟩) (by assumption) ?_
        try simp only [Act.put, List.setIfInBounds_toArray, List.set_cons_zero, List.set_cons_succ]
        refine wpAnyH_take (i := 13) (oi := ⟨some 18, _, _, _, _, _⟩) (v := .bool false) rfl (by kernel_rfl) (by kernel_rfl) (by kernel_rfl) (fun _ _ _ h => h) (Or.inl ⟨by rfl, fun w hSw => by go_simp⟩) (by assumption) ?_
        try simp only [Act.put, List.setIfInBounds_toArray, List.set_cons_zero, List.set_cons_succ]
        refine wpAnyH_take (i := 14) (oi := ⟨some 19, _, _, _, _, _⟩) (v := undef) rfl (by kernel_rfl) (by kernel_rfl) (by kernel_rfl) (fun _ _ _ h => h) (Or.inr ⟨by rfl, rfl⟩) (by assumption) ?_
        try simp only [Act.put, List.setIfInBounds_toArray, List.set_cons_zero, List.set_cons_succ]
        refine wpAnyH_take (i := 15) (oi := ⟨some 20, _, _, _, _, _⟩) (v := undef) rfl (by kernel_rfl) (by kernel_rfl) (by kernel_rfl) (fun _ _ _ h => h) (Or.inr ⟨by rfl, rfl⟩) (by assumption) ?_
        try simp only [Act.put, List.setIfInBounds_toArray, List.set_cons_zero, List.set_cons_succ]
        refine wpAnyH_take (i := 16) (oi := ⟨some 21, _, _, _, _, _⟩) (v := undef) rfl (by kernel_rfl) (by kernel_rfl) (by kernel_rfl) (fun _ _ _ h => h) (Or.inr ⟨by rfl, rfl⟩) (by assumption) ?_
        try simp only [Act.put, List.setIfInBounds_toArray, List.set_cons_zero, List.set_cons_succ]
        refine wpAnyH_take (i := 17) (oi := ⟨some 22, _, _, _, _, _⟩) (v := undef) rfl (by kernel_rfl) (by kernel_rfl) (by kernel_rfl) (fun _ _ _ h => h) (Or.inr ⟨by rfl, rfl⟩) (by assumption) ?_
        try simp only [Act.put, List.setIfInBounds_toArray, List.set_cons_zero, List.set_cons_succ]
        refine wpAnyH_take (i := 18) (oi := ⟨some 23, _, _, _, _, _⟩) (v := undef) rfl (by kernel_rfl) (by kernel_rfl) (by kernel_rfl) (fun _ _ _ h => h) (Or.inr ⟨by rfl, rfl⟩) (by assumption) ?_
        try simp only [Act.put, List.setIfInBounds_toArray, List.set_cons_zero, List.set_cons_succ]
        refine wpAnyH_take (i := 19) (oi := ⟨some 24, _, _, _, _, _⟩) (v := .bool false) rfl (by kernel_rfl) (by kernel_rfl) (by kernel_rfl) (fun _ _ _ h => h) (Or.inl ⟨by rfl, fun w hSw => by go_simp⟩) (by assumption) ?_
        try simp only [Act.put, List.setIfInBounds_toArray, List.set_cons_zero, List.set_cons_succ]
        refine wpAnyH_take (i := 20) (oi := ⟨some 4, _, _, _, _, _⟩) (v := .bool false) rfl (by kernel_rfl) (by kernel_rfl) (by kernel_rfl) (fun _ _ _ h => h) (Or.inl ⟨by rfl, fun w hSw => by go_simp⟩) (by assumption) ?_
        try simp only [Act.put, List.setIfInBounds_toArray, List.set_cons_zero, List.set_cons_succ]
        refine wpAnyH_done (by kernel_rfl) ?_ _
        clear HK
        go_wp2
        go_ret
        rw [HE.out]
        exact ⟨rfl, HB0.out.trans (hbb2.mono HB0.out.size)⟩
    · have HP := Lib.hid hp
      have HE : Hid (svB s xs t ys = false) := Lib.hid (svB_no (fun q => hp q.2.1))
      clear ho hp
      go_enter Try.func46, Try.ntmps46
      go_wp2
      rw [← HW.out]
      have HK : Hid (∀ W' : World, Below W0.heap.size W0 W' → W'.cell? ⟨w.heap.size, 0, none⟩ = some (.int .i64 s) ∧ W'.cell? ⟨w.heap.size, 1, none⟩ = some (.slice a n ca) ∧ W'.cell? ⟨(w.heap.size + 1), 0, none⟩ = some (.int .i64 t) ∧ W'.cell? ⟨(w.heap.size + 1), 1, none⟩ = some (.slice b m cb) ∧ Below W0.heap.size W0 W') :=
        Lib.hid (fun W' hW => ⟨(HX0.out.keep hW).1.facts.1, (HX0.out.keep hW).1.facts.2.1, (HY0.out.keep hW).1.facts.1, (HY0.out.keep hW).1.facts.2.1, hW⟩)
      have HIx : Hid (∀ W' : World, Below W0.heap.size W0 W' → IntsAt W' a n xs) := Lib.hid (fun W' hW => (HX0.out.keep hW).2)
      have HIy : Hid (∀ W' : World, Below W0.heap.size W0 W' → IntsAt W' b m ys) := Lib.hid (fun W' hW => (HY0.out.keep hW).2)
      refine wp_region_held_drew (S := fun W' => W'.cell? ⟨w.heap.size, 0, none⟩ = some (.int .i64 s) ∧ W'.cell? ⟨w.heap.size, 1, none⟩ = some (.slice a n ca) ∧ W'.cell? ⟨(w.heap.size + 1), 0, none⟩ = some (.int .i64 t) ∧ W'.cell? ⟨(w.heap.size + 1), 1, none⟩ = some (.slice b m cb) ∧ Below W0.heap.size W0 W') (by kernel_rfl) (HK.out _ (Below.refl _ _).drew) (fun hSS0 => ?_)
      refine wpAnyH_take (i := 0) (oi := ⟨some 5, _, _, _, _, _⟩) (v := .agg #[.int .i64 s, .slice a n ca]) rfl (by kernel_rfl) (by kernel_rfl) (by kernel_rfl) (fun _ _ _ h => h) (Or.inl ⟨by rfl, fun w hSw => by obtain ⟨q1, q2, _⟩ := hSw; go_simp⟩) (by assumption) ?_
      try simp only [Act.put, List.setIfInBounds_toArray, List.set_cons_zero, List.set_cons_succ]
      refine wpAnyH_ready (rs := [1]) (by kernel_rfl) (by simp) ?_
      refine AllReadyH.cons rfl (fun K hKK => ?_) AllReadyH.nil
      go_simp
      go_at_call 83
      refine (ok_yes s a n ca xs _ (HIx.out _ (Below.refl _ _).drew) hn' HO.out).mono ?_
      rintro e wk1 ⟨rfl, hc1⟩
      have hbb1 : Below W0.heap.size W0 wk1 := (Below.refl _ _).drew.trans hc1
      clear hc1
      refine hKK.out _ _ (HK.out _ hbb1) (fun hSS1 => ?_)
      clear hKK K hSS0
      try simp only [Act.put, List.setIfInBounds_toArray, List.set_cons_zero, List.set_cons_succ]
      refine wpAnyH_take (i := 2) (oi := ⟨some 7, _, _, _, _, _⟩) (v := .bool true) rfl (by kernel_rfl) (by kernel_rfl) (by kernel_rfl) (fun _ _ _ h => h) (Or.inl ⟨by rfl, fun w hSw => by go_simp⟩) (by assumption) ?_
      try simp only [Act.put, List.setIfInBounds_toArray, List.set_cons_zero, List.set_cons_succ]
      refine wpAnyH_take (i := 3) (oi := ⟨some 8, _, _, _, _, _⟩) (v := .agg #[.int .i64 t, .slice b m cb]) rfl (by kernel_rfl) (by kernel_rfl) (by kernel_rfl) (fun _ _ _ h => h) (Or.inl ⟨by rfl, fun w hSw => by obtain ⟨_, _, q1, q2, _⟩ := hSw; go_simp⟩) (by assumption) ?_
      try simp only [Act.put, List.setIfInBounds_toArray, List.set_cons_zero, List.set_cons_succ]
      refine wpAnyH_ready (rs := [4]) (by kernel_rfl) (by simp) ?_
      refine AllReadyH.cons rfl (fun K hKK => ?_) AllReadyH.nil
      go_simp
      go_at_call 83
      refine (ok_no t b m cb ys _ (HIy.out _ hbb1) hm' HP.out).mono ?_
      rintro e wk2 ⟨rfl, hc2⟩
      have hbb2 : Below W0.heap.size W0 wk2 := hbb1.trans (hc2.mono hbb1.size)
      clear hc2
      refine hKK.out _ _ (HK.out _ hbb2) (fun hSS2 => ?_)
      clear hKK K hbb1 hSS1
      try simp only [Act.put, List.setIfInBounds_toArray, List.set_cons_zero, List.set_cons_succ]
      refine wpAnyH_take (i := 5) (oi := ⟨some 10, _, _, _, _, _⟩) (v := .bool false) rfl (by kernel_rfl) (by kernel_rfl) (by kernel_rfl) (fun _ _ _ h => h) (Or.inl ⟨by rfl, fun w hSw => by go_simp⟩) (by assumption) ?_
      try simp only [Act.put, List.setIfInBounds_toArray, List.set_cons_zero, List.set_cons_succ]
      refine wpAnyH_take (i := 6) (oi := ⟨some 11, _, _, _, _, _⟩) (v := .bool false) rfl (by kernel_rfl) (by kernel_rfl) (by kernel_rfl) (fun _ _ _ h => h) (Or.inl ⟨by rfl, fun w hSw => by go_simp⟩) (by assumption) ?_
      try simp only [Act.put, List.setIfInBounds_toArray, List.set_cons_zero, List.set_cons_succ]
      refine wpAnyH_take (i := 7) (oi := ⟨some 12, _, _, _, _, _⟩) (v := undef) rfl (by kernel_rfl) (by kernel_rfl) (by kernel_rfl) (fun _ _ _ h => h) (Or.inr ⟨by rfl, rfl⟩) (by assumption) ?_
      try simp only [Act.put, List.setIfInBounds_toArray, List.set_cons_zero, List.set_cons_succ]
      refine wpAnyH_take (i := 8) (oi := ⟨some 13, _, _, _, _, _⟩) (v := undef) rfl (by kernel_rfl) (by kernel_rfl) (by kernel_rfl) (fun _ _ _ h => h) (Or.inr ⟨by rfl, rfl⟩) (by assumption) ?_
      try simp only [Act.put, List.setIfInBounds_toArray, List.set_cons_zero, List.set_cons_succ]
      refine wpAnyH_take (i := 9) (oi := ⟨some 14, _, _, _, _, _⟩) (v := undef) rfl (by kernel_rfl) (by kernel_rfl) (by kernel_rfl) (fun _ _ _ h => h) (Or.inr ⟨by rfl, rfl⟩) (by assumption) ?_
      try simp only [Act.put, List.setIfInBounds_toArray, List.set_cons_zero, List.set_cons_succ]
      refine wpAnyH_take (i := 10) (oi := ⟨some 15, _, _, _, _, _⟩) (v := undef) rfl (by kernel_rfl) (by kernel_rfl) (by kernel_rfl) (fun _ _ _ h => h) (Or.inr ⟨by rfl, rfl⟩) (by assumption) ?_
      try simp only [Act.put, List.setIfInBounds_toArray, List.set_cons_zero, List.set_cons_succ]
      refine wpAnyH_take (i := 11) (oi := ⟨some 16, _, _, _, _, _⟩) (v := undef) rfl (by kernel_rfl) (by kernel_rfl) (by kernel_rfl) (fun _ _ _ h => h) (Or.inr ⟨by rfl, rfl⟩) (by assumption) ?_
      try simp only [Act.put, List.setIfInBounds_toArray, List.set_cons_zero, List.set_cons_succ]
      refine wpAnyH_take (i := 12) (oi := ⟨some 17, _, _, _, _, _⟩) (v := .bool false) rfl (by kernel_rfl) (by kernel_rfl) (by kernel_rfl) (fun _ _ _ h => h) (Or.inl ⟨by rfl, fun w hSw => by go_simp⟩) (by assumption) ?_
      try simp only [Act.put, List.setIfInBounds_toArray, List.set_cons_zero, List.set_cons_succ]
      refine wpAnyH_take (i := 13) (oi := ⟨some 18, _, _, _, _, _⟩) (v := .bool false) rfl (by kernel_rfl) (by kernel_rfl) (by kernel_rfl) (fun _ _ _ h => h) (Or.inl ⟨by rfl, fun w hSw => by go_simp⟩) (by assumption) ?_
      try simp only [Act.put, List.setIfInBounds_toArray, List.set_cons_zero, List.set_cons_succ]
      refine wpAnyH_take (i := 14) (oi := ⟨some 19, _, _, _, _, _⟩) (v := undef) rfl (by kernel_rfl) (by kernel_rfl) (by kernel_rfl) (fun _ _ _ h => h) (Or.inr ⟨by rfl, rfl⟩) (by assumption) ?_
      try simp only [Act.put, List.setIfInBounds_toArray, List.set_cons_zero, List.set_cons_succ]
      refine wpAnyH_take (i := 15) (oi := ⟨some 20, _, _, _, _, _⟩) (v := undef) rfl (by kernel_rfl) (by kernel_rfl) (by kernel_rfl) (fun _ _ _ h => h) (Or.inr ⟨by rfl, rfl⟩) (by assumption) ?_
      try simp only [Act.put, List.setIfInBounds_toArray, List.set_cons_zero, List.set_cons_succ]
      refine wpAnyH_take (i := 16) (oi := ⟨some 21, _, _, _, _, _⟩) (v := undef) rfl (by kernel_rfl) (by kernel_rfl) (by kernel_rfl) (fun _ _ _ h => h) (Or.inr ⟨by rfl, rfl⟩) (by assumption) ?_
      try simp only [Act.put, List.setIfInBounds_toArray, List.set_cons_zero, List.set_cons_succ]
      refine wpAnyH_take (i := 17) (oi := ⟨some 22, _, _, _, _, _⟩) (v := undef) rfl (by kernel_rfl) (by kernel_rfl) (by kernel_rfl) (fun _ _ _ h => h) (Or.inr ⟨by rfl, rfl⟩) (by assumption) ?_
      try simp only [Act.put, List.setIfInBounds_toArray, List.set_cons_zero, List.set_cons_succ]
      refine wpAnyH_take (i := 18) (oi := ⟨some 23, _, _, _, _, _⟩) (v := undef) rfl (by kernel_rfl) (by kernel_rfl) (by kernel_rfl) (fun _ _ _ h => h) (Or.inr ⟨by rfl, rfl⟩) (by assumption) ?_
      try simp only [Act.put, List.setIfInBounds_toArray, List.set_cons_zero, List.set_cons_succ]
      refine wpAnyH_take (i := 19) (oi := ⟨some 24, _, _, _, _, _⟩) (v := .bool false) rfl (by kernel_rfl) (by kernel_rfl) (by kernel_rfl) (fun _ _ _ h => h) (Or.inl ⟨by rfl, fun w hSw => by go_simp⟩) (by assumption) ?_
      try simp only [Act.put, List.setIfInBounds_toArray, List.set_cons_zero, List.set_cons_succ]
      refine wpAnyH_take (i := 20) (oi := ⟨some 4, _, _, _, _, _⟩) (v := .bool false) rfl (by kernel_rfl) (by kernel_rfl) (by kernel_rfl) (fun _ _ _ h => h) (Or.inl ⟨by rfl, fun w hSw => by go_simp⟩) (by assumption) ?_
      try simp only [Act.put, List.setIfInBounds_toArray, List.set_cons_zero, List.set_cons_succ]
      refine wpAnyH_done (by kernel_rfl) ?_ _
      clear HK
      go_wp2
      go_ret
      rw [HE.out]
      exact ⟨rfl, HB0.out.trans (hbb2.mono HB0.out.size)⟩
  · have HO := Lib.hid ho
    have HE : Hid (svB s xs t ys = false) := Lib.hid (svB_no (fun q => ho q.1))
    clear ho
    go_enter Try.func46, Try.ntmps46
    go_wp2
    rw [← HW.out]
    have HK : Hid (∀ W' : World, Below W0.heap.size W0 W' → W'.cell? ⟨w.heap.size, 0, none⟩ = some (.int .i64 s) ∧ W'.cell? ⟨w.heap.size, 1, none⟩ = some (.slice a n ca) ∧ W'.cell? ⟨(w.heap.size + 1), 0, none⟩ = some (.int .i64 t) ∧ W'.cell? ⟨(w.heap.size + 1), 1, none⟩ = some (.slice b m cb) ∧ Below W0.heap.size W0 W') :=
      Lib.hid (fun W' hW => ⟨(HX0.out.keep hW).1.facts.1, (HX0.out.keep hW).1.facts.2.1, (HY0.out.keep hW).1.facts.1, (HY0.out.keep hW).1.facts.2.1, hW⟩)
    have HIx : Hid (∀ W' : World, Below W0.heap.size W0 W' → IntsAt W' a n xs) := Lib.hid (fun W' hW => (HX0.out.keep hW).2)
    have HIy : Hid (∀ W' : World, Below W0.heap.size W0 W' → IntsAt W' b m ys) := Lib.hid (fun W' hW => (HY0.out.keep hW).2)
    refine wp_region_held_drew (S := fun W' => W'.cell? ⟨w.heap.size, 0, none⟩ = some (.int .i64 s) ∧ W'.cell? ⟨w.heap.size, 1, none⟩ = some (.slice a n ca) ∧ W'.cell? ⟨(w.heap.size + 1), 0, none⟩ = some (.int .i64 t) ∧ W'.cell? ⟨(w.heap.size + 1), 1, none⟩ = some (.slice b m cb) ∧ Below W0.heap.size W0 W') (by kernel_rfl) (HK.out _ (Below.refl _ _).drew) (fun hSS0 => ?_)
    refine wpAnyH_take (i := 0) (oi := ⟨some 5, _, _, _, _, _⟩) (v := .agg #[.int .i64 s, .slice a n ca]) rfl (by kernel_rfl) (by kernel_rfl) (by kernel_rfl) (fun _ _ _ h => h) (Or.inl ⟨by rfl, fun w hSw => by obtain ⟨q1, q2, _⟩ := hSw; go_simp⟩) (by assumption) ?_
    try simp only [Act.put, List.setIfInBounds_toArray, List.set_cons_zero, List.set_cons_succ]
    refine wpAnyH_ready (rs := [1]) (by kernel_rfl) (by simp) ?_
    refine AllReadyH.cons rfl (fun K hKK => ?_) AllReadyH.nil
    go_simp
    go_at_call 83
    refine (ok_no s a n ca xs _ (HIx.out _ (Below.refl _ _).drew) hn' HO.out).mono ?_
    rintro e wk1 ⟨rfl, hc1⟩
    have hbb1 : Below W0.heap.size W0 wk1 := (Below.refl _ _).drew.trans hc1
    clear hc1
    refine hKK.out _ _ (HK.out _ hbb1) (fun hSS1 => ?_)
    clear hKK K hSS0
    try simp only [Act.put, List.setIfInBounds_toArray, List.set_cons_zero, List.set_cons_succ]
    refine wpAnyH_take (i := 2) (oi := ⟨some 7, _, _, _, _, _⟩) (v := .bool false) rfl (by kernel_rfl) (by kernel_rfl) (by kernel_rfl) (fun _ _ _ h => h) (Or.inl ⟨by rfl, fun w hSw => by go_simp⟩) (by assumption) ?_
    try simp only [Act.put, List.setIfInBounds_toArray, List.set_cons_zero, List.set_cons_succ]
    refine wpAnyH_take (i := 3) (oi := ⟨some 8, _, _, _, _, _⟩) (v := undef) rfl (by kernel_rfl) (by kernel_rfl) (by kernel_rfl) (fun _ _ _ h => h) (Or.inr ⟨by rfl, rfl⟩) (by assumption) ?_
    try simp only [Act.put, List.setIfInBounds_toArray, List.set_cons_zero, List.set_cons_succ]
    refine wpAnyH_take (i := 4) (oi := ⟨some 9, _, _, _, _, _⟩) (v := undef) rfl (by kernel_rfl) (by kernel_rfl) (by kernel_rfl) (fun _ _ _ h => h) (Or.inr ⟨by rfl, rfl⟩) (by assumption) ?_
    try simp only [Act.put, List.setIfInBounds_toArray, List.set_cons_zero, List.set_cons_succ]
    refine wpAnyH_take (i := 5) (oi := ⟨some 10, _, _, _, _, _⟩) (v := .bool false) rfl (by kernel_rfl) (by kernel_rfl) (by kernel_rfl) (fun _ _ _ h => h) (Or.inl ⟨by rfl, fun w hSw => by go_simp⟩) (by assumption) ?_
    try simp only [Act.put, List.setIfInBounds_toArray, List.set_cons_zero, List.set_cons_succ]
    refine wpAnyH_take (i := 6) (oi := ⟨some 11, _, _, _, _, _⟩) (v := .bool false) rfl (by kernel_rfl) (by kernel_rfl) (by kernel_rfl) (fun _ _ _ h => h) (Or.inl ⟨by rfl, fun w hSw => by go_simp⟩) (by assumption) ?_
    try simp only [Act.put, List.setIfInBounds_toArray, List.set_cons_zero, List.set_cons_succ]
    refine wpAnyH_take (i := 7) (oi := ⟨some 12, _, _, _, _, _⟩) (v := undef) rfl (by kernel_rfl) (by kernel_rfl) (by kernel_rfl) (fun _ _ _ h => h) (Or.inr ⟨by rfl, rfl⟩) (by assumption) ?_
    try simp only [Act.put, List.setIfInBounds_toArray, List.set_cons_zero, List.set_cons_succ]
    refine wpAnyH_take (i := 8) (oi := ⟨some 13, _, _, _, _, _⟩) (v := undef) rfl (by kernel_rfl) (by kernel_rfl) (by kernel_rfl) (fun _ _ _ h => h) (Or.inr ⟨by rfl, rfl⟩) (by assumption) ?_
    try simp only [Act.put, List.setIfInBounds_toArray, List.set_cons_zero, List.set_cons_succ]
    refine wpAnyH_take (i := 9) (oi := ⟨some 14, _, _, _, _, _⟩) (v := undef) rfl (by kernel_rfl) (by kernel_rfl) (by kernel_rfl) (fun _ _ _ h => h) (Or.inr ⟨by rfl, rfl⟩) (by assumption) ?_
    try simp only [Act.put, List.setIfInBounds_toArray, List.set_cons_zero, List.set_cons_succ]
    refine wpAnyH_take (i := 10) (oi := ⟨some 15, _, _, _, _, _⟩) (v := undef) rfl (by kernel_rfl) (by kernel_rfl) (by kernel_rfl) (fun _ _ _ h => h) (Or.inr ⟨by rfl, rfl⟩) (by assumption) ?_
    try simp only [Act.put, List.setIfInBounds_toArray, List.set_cons_zero, List.set_cons_succ]
    refine wpAnyH_take (i := 11) (oi := ⟨some 16, _, _, _, _, _⟩) (v := undef) rfl (by kernel_rfl) (by kernel_rfl) (by kernel_rfl) (fun _ _ _ h => h) (Or.inr ⟨by rfl, rfl⟩) (by assumption) ?_
    try simp only [Act.put, List.setIfInBounds_toArray, List.set_cons_zero, List.set_cons_succ]
    refine wpAnyH_take (i := 12) (oi := ⟨some 17, _, _, _, _, _⟩) (v := .bool false) rfl (by kernel_rfl) (by kernel_rfl) (by kernel_rfl) (fun _ _ _ h => h) (Or.inl ⟨by rfl, fun w hSw => by go_simp⟩) (by assumption) ?_
    try simp only [Act.put, List.setIfInBounds_toArray, List.set_cons_zero, List.set_cons_succ]
    refine wpAnyH_take (i := 13) (oi := ⟨some 18, _, _, _, _, _⟩) (v := .bool false) rfl (by kernel_rfl) (by kernel_rfl) (by kernel_rfl) (fun _ _ _ h => h) (Or.inl ⟨by rfl, fun w hSw => by go_simp⟩) (by assumption) ?_
    try simp only [Act.put, List.setIfInBounds_toArray, List.set_cons_zero, List.set_cons_succ]
    refine wpAnyH_take (i := 14) (oi := ⟨some 19, _, _, _, _, _⟩) (v := undef) rfl (by kernel_rfl) (by kernel_rfl) (by kernel_rfl) (fun _ _ _ h => h) (Or.inr ⟨by rfl, rfl⟩) (by assumption) ?_
    try simp only [Act.put, List.setIfInBounds_toArray, List.set_cons_zero, List.set_cons_succ]
    refine wpAnyH_take (i := 15) (oi := ⟨some 20, _, _, _, _, _⟩) (v := undef) rfl (by kernel_rfl) (by kernel_rfl) (by kernel_rfl) (fun _ _ _ h => h) (Or.inr ⟨by rfl, rfl⟩) (by assumption) ?_
    try simp only [Act.put, List.setIfInBounds_toArray, List.set_cons_zero, List.set_cons_succ]
    refine wpAnyH_take (i := 16) (oi := ⟨some 21, _, _, _, _, _⟩) (v := undef) rfl (by kernel_rfl) (by kernel_rfl) (by kernel_rfl) (fun _ _ _ h => h) (Or.inr ⟨by rfl, rfl⟩) (by assumption) ?_
    try simp only [Act.put, List.setIfInBounds_toArray, List.set_cons_zero, List.set_cons_succ]
    refine wpAnyH_take (i := 17) (oi := ⟨some 22, _, _, _, _, _⟩) (v := undef) rfl (by kernel_rfl) (by kernel_rfl) (by kernel_rfl) (fun _ _ _ h => h) (Or.inr ⟨by rfl, rfl⟩) (by assumption) ?_
    try simp only [Act.put, List.setIfInBounds_toArray, List.set_cons_zero, List.set_cons_succ]
    refine wpAnyH_take (i := 18) (oi := ⟨some 23, _, _, _, _, _⟩) (v := undef) rfl (by kernel_rfl) (by kernel_rfl) (by kernel_rfl) (fun _ _ _ h => h) (Or.inr ⟨by rfl, rfl⟩) (by assumption) ?_
    try simp only [Act.put, List.setIfInBounds_toArray, List.set_cons_zero, List.set_cons_succ]
    refine wpAnyH_take (i := 19) (oi := ⟨some 24, _, _, _, _, _⟩) (v := .bool false) rfl (by kernel_rfl) (by kernel_rfl) (by kernel_rfl) (fun _ _ _ h => h) (Or.inl ⟨by rfl, fun w hSw => by go_simp⟩) (by assumption) ?_
    try simp only [Act.put, List.setIfInBounds_toArray, List.set_cons_zero, List.set_cons_succ]
    refine wpAnyH_take (i := 20) (oi := ⟨some 4, _, _, _, _, _⟩) (v := .bool false) rfl (by kernel_rfl) (by kernel_rfl) (by kernel_rfl) (fun _ _ _ h => h) (Or.inl ⟨by rfl, fun w hSw => by go_simp⟩) (by assumption) ?_
    try simp only [Act.put, List.setIfInBounds_toArray, List.set_cons_zero, List.set_cons_succ]
    refine wpAnyH_done (by kernel_rfl) ?_ _
    clear HK
    go_wp2
    go_ret
    rw [HE.out]
    exact ⟨rfl, HB0.out.trans (hbb1.mono HB0.out.size)⟩

set_option maxHeartbeats 400000 in
theorem twins_spec (s : Int) (a : Option Addr) (n ca : Nat) (xs : List Int) (t : Int) (b : Option Addr) (m cb : Nat) (ys : List Int) (w : World) (ha : IntsAt w a n xs) (hn : xs.length ≤ 1048576) (hb : IntsAt w b m ys) (hm : ys.length ≤ 1048576) :
    Calls Try.prog 47 #[rhy s a n ca, rhy t b m cb] w fun e w' => e = .returned (.bool (twB s xs t ys)) ∧ Below w.heap.size w w' := by
  have FA := Lib.hid ha
  have FB := Lib.hid hb
  have hn' : n ≤ 1048576 := by have := ha.1; omega
  have hm' : m ≤ 1048576 := by have := hb.1; omega
  clear ha hb
  obtain ⟨W0, hW⟩ : ∃ W0, W0 = (w.alloc (.cells #[.int .i64 s, .slice a n ca] 25)).alloc (.cells #[.int .i64 t, .slice b m cb] 25) := ⟨_, rfl⟩
  have HW := Lib.hid hW
  have HB0 := Lib.hid (show Below w.heap.size w W0 by rw [hW]; exact bel2 w _ _)
  have HX0 : Hid (RhI W0 w.heap.size s a n ca xs) := Lib.hid ⟨by rw [hW]; exact (box_new w _ _ _).keep (bel1 _ _) (by simp), FA.out.below HB0.out⟩
  have HY0 : Hid (RhI W0 (w.heap.size + 1) t b m cb ys) := Lib.hid ⟨by rw [hW]; simpa using box_new (w.alloc (.cells #[.int .i64 s, .slice a n ca] 25)) (.int .i64 t) (.slice b m cb) 25, FB.out.below HB0.out⟩
  clear hW FA FB
  obtain ⟨q, hq⟩ : ∃ q, svB s xs t ys = q := ⟨_, rfl⟩
  obtain ⟨r, hr⟩ : ∃ r, aforB s xs t ys = r := ⟨_, rfl⟩
  have HE : Hid (twB s xs t ys = (q && !r)) := Lib.hid (by unfold twB; rw [hq, hr])
  have HQ := Lib.hid hq
  have HR := Lib.hid hr
  clear hq hr
  rw [HE.out]
  obtain ⟨c0, c1, f0, f1⟩ := HX0.out.1.facts
  obtain ⟨d0, d1, g0, g1⟩ := HY0.out.1.facts
  go_enter Try.func47, Try.ntmps47
  go_wp2_with fail
  rw [← HW.out]
  refine (samevec_spec s a n ca xs t b m cb ys _ HX0.out.2 hn HY0.out.2 hm).mono ?_
  rintro e w1 ⟨rfl, hb1⟩
  rw [HQ.out]
  have HB1 := Lib.hid (HB0.out.trans (hb1.mono HB0.out.size))
  have HX1 := Lib.hid (HX0.out.keep hb1)
  have HY1 := Lib.hid (HY0.out.keep hb1)
  clear c0 c1 f0 f1 d0 d1 g0 g1 hb1
  obtain ⟨c0, c1, f0, f1⟩ := HX1.out.1.facts
  obtain ⟨d0, d1, g0, g1⟩ := HY1.out.1.facts
  cases q
  · go_wp2
    go_ret
    exact ⟨rfl, HB1.out⟩
  · go_wp2_with fail
    refine (afor_spec s a n ca xs t b m cb ys _ HX1.out.2 hn HY1.out.2 hm).mono ?_
    rintro e w2 ⟨rfl, hb2⟩
    rw [HR.out]
    have HB2 := Lib.hid (HB1.out.trans (hb2.mono HB1.out.size))
    clear hb2
    go_wp2
    go_ret
    exact ⟨by simp, HB2.out⟩

/-! common beats -/
open Classical in
noncomputable def comB (s : Int) (xs : List Int) (t : Int) (ys : List Int) : Int := if Ok s xs ∧ Ok t ys ∧ s = t then (comZ xs ys : Int) else -1
theorem comB_yes {s t : Int} {xs ys : List Int} (h : Ok s xs ∧ Ok t ys ∧ s = t) : comB s xs t ys = comZ xs ys := if_pos h
theorem comB_no {s t : Int} {xs ys : List Int} (h : ¬ (Ok s xs ∧ Ok t ys ∧ s = t)) : comB s xs t ys = -1 := if_neg h
theorem com_snoc_yes {xs ys : List Int} {k : Nat} {z : Int} (h : xs[k]? = some z) (hm : hasB ys z = true) : comZ (xs.take (k + 1)) ys = comZ (xs.take k) ys + 1 := by
  unfold comZ
  rw [List.take_add_one, h, List.filter_append, List.length_append]
  congr 1
  show (List.filter _ [z]).length = 1
  rw [List.filter_cons_of_pos (show (fun x => ys.contains x) z = true from hm)]
  rfl
theorem com_snoc_no {xs ys : List Int} {k : Nat} {z : Int} (h : xs[k]? = some z) (hm : hasB ys z = false) : comZ (xs.take (k + 1)) ys = comZ (xs.take k) ys := by
  unfold comZ
  rw [List.take_add_one, h, List.filter_append, List.length_append]
  show _ + (List.filter _ [z]).length = _
  rw [List.filter_cons_of_neg (by show ¬ ys.contains z = true; unfold hasB at hm; rw [hm]; simp)]
  rfl
set_option maxHeartbeats 400000 in
theorem com0_spec (s : Int) (a : Option Addr) (n ca : Nat) (xs : List Int) (t : Int) (b : Option Addr) (m cb : Nat) (ys : List Int) (w : World) (ha : IntsAt w a n xs) (hn : n ≤ 1048576) (hb : IntsAt w b m ys) (hm : m ≤ 1048576) :
    Calls Try.prog 93 #[rhy s a n ca, rhy t b m cb] w fun e w' => e = .returned (.int .i64 (comZ xs ys : Nat)) ∧ Below w.heap.size w w' := by
  have FA := Lib.hid ha
  have FB := Lib.hid hb
  clear ha hb
  obtain ⟨W0, hW⟩ : ∃ W0, W0 = (w.alloc (.cells #[.int .i64 s, .slice a n ca] 25)).alloc (.cells #[.int .i64 t, .slice b m cb] 25) := ⟨_, rfl⟩
  have HW := Lib.hid hW
  have HB0 := Lib.hid (show Below w.heap.size w W0 by rw [hW]; exact bel2 w _ _)
  have HX0 : Hid (RhI W0 w.heap.size s a n ca xs) := Lib.hid ⟨by rw [hW]; exact (box_new w _ _ _).keep (bel1 _ _) (by simp), FA.out.below HB0.out⟩
  have HY0 : Hid (RhI W0 (w.heap.size + 1) t b m cb ys) := Lib.hid ⟨by rw [hW]; simpa using box_new (w.alloc (.cells #[.int .i64 s, .slice a n ca] 25)) (.int .i64 t) (.slice b m cb) 25, FB.out.below HB0.out⟩
  have HL : Hid (xs.length = n) := Lib.hid FA.out.1
  clear hW FA FB
  obtain ⟨c0, c1, f0, f1⟩ := HX0.out.1.facts
  obtain ⟨d0, d1, g0, g1⟩ := HY0.out.1.facts
  go_enter Try.func93, Try.ntmps93
  go_wp2
  rw [← HW.out]
  go_loop [5, 11] (fun c i => ∃ (k q : Nat), k ≤ n ∧ i = .int .i64 k ∧ c = .int .i64 q ∧ q ≤ k ∧ Hid (comZ (xs.take k) ys = q)) (fun _ i => n - (intOf i).toNat)
  case atStart => exact ⟨0, 0, by omega, rfl, rfl, by omega, Lib.hid rfl⟩
  case round =>
    obtain ⟨k, q, hk, rfl, rfl, hq, HQ⟩ := hrel
    by_cases hlt : k < n
    · obtain ⟨g, off, z, rfl, hg, hs, hc, hz1, hz2⟩ := HX0.out.2.at hlt
      cases hh : hasB ys z
      · have HQ2 : Hid (comZ (xs.take (k + 1)) ys = q) := Lib.hid (by rw [com_snoc_no hs hh, HQ.out])
        have HH := Lib.hid hh
        clear hs hh
        go_wp2_with fail
        refine (has_any b m cb ys z _ HY0.out.2 (by omega)).mono ?_
        rintro e w' ⟨rfl, rfl⟩
        rw [HH.out]
        go_wp2
        go_round
        case rel => exact ⟨k + 1, q, by omega, by go_num, rfl, by omega, HQ2⟩
        case measure => simp [intOf]; omega
      · have HQ2 : Hid (comZ (xs.take (k + 1)) ys = q + 1) := Lib.hid (by rw [com_snoc_yes hs hh, HQ.out])
        have HH := Lib.hid hh
        clear hs hh
        go_wp2_with fail
        refine (has_any b m cb ys z _ HY0.out.2 (by omega)).mono ?_
        rintro e w' ⟨rfl, rfl⟩
        rw [HH.out]
        go_wp2
        go_round
        case rel => exact ⟨k + 1, q + 1, by omega, by go_num, by go_num, by omega, HQ2⟩
        case measure => simp [intOf]; omega
    · have e : k = xs.length := by have := HL.out; omega
      have HE : Hid (comZ xs ys = q) := Lib.hid (by have := HQ.out; rwa [e, List.take_length] at this)
      clear e
      go_wp2
      go_ret
      rw [HE.out]
      exact ⟨rfl, HB0.out⟩

end Go.Proofs.Ytcppmcacjjjjeaa.Rhy

/-
  Helpers of the claims beside this text: common beats, overlaps, intervals between beats, flat and deep rhythms: the model's.
-/
namespace Go.Proofs.Ytcppmcacjjjjeaa.Rhy
open Go.RowKit
set_option linter.unusedVariables false
set_option linter.unusedSimpArgs false

/-- 'append' at a slice of the call's own, as one step of a region that draws its order. -/
theorem step_append_int {ops : Array Oper} {o : Oper} {a : Act} {K : Act → World → Prop} {Q : Exit → Act → World → Prop} {E : Prop} (hgd : o.guard = none) (x y : Operand)
    (ho : o.op = .call { callee := .builtin .append, args := #[x, y], argTypes := #[23, 23] })
    (B : Nat) (v : Value) (l : List Int) (t : Int) (w0 : World) (hown : w0.ownsRow B 3 1 v l.length (ints l)) (hl : l.length ≤ 1048577) (hB : B ≤ w0.heap.size) (N : Nat) (hN : N = w0.heap.size)
    (hs : a.eval x = v) (hx : a.eval y = .slice (some ⟨N, 0, none⟩) 1 1)
    (h : ∀ a' c' w', w'.ownsRow B 3 1 (.slice a' (l ++ [t]).length c') (l ++ [t]).length (ints (l ++ [t])) → Below B w0 w' → K (a.put o.dst (.slice a' (l ++ [t]).length c')) w') :
    if Region.wanted o (yielded ops a.tmps) = true then Oper.wp Try.prog o a (w0.alloc (.cells #[.int .i64 t] 3)) K Q else E := by
  obtain ⟨i0, hi, hz0, hz1, hz2⟩ := info_parts infoInt
  subst hN
  have hsz : (w0.alloc (.cells #[.int .i64 t] 3)).heap.size = w0.heap.size + 1 := by simp
  refine step_append_lies _ hgd x y 23 ho B 3 i0 (.int .i64 0) 1 8 Try.underlying23 hi hz0 hz1 hz2 rfl (by decide) v l.length (ints l) hs (hown.alloc _) ⟨w0.heap.size, 0, none⟩ 1 1 [.int .i64 t] hx rfl (cell_one_new _ _ _) ?_ (by decide) (by unfold maxLen; omega) (by omega) (by omega) _ rfl ?_
  · intro u hu
    simp at hu
    subst hu
    rfl
  · intro g cap w' ho' hg _ _
    have e : (l ++ [t]).length = l.length + 1 := by simp
    have := h (some ⟨g, 0, none⟩) cap w' (by rw [e]; simpa [ints] using ho') (((Below.refl B w0).alloc hB _).grown hg (by omega) fun k hk => (hown.lt k hk).1)
    rwa [e] at this

set_option maxHeartbeats 400000 in
theorem two_yes (s : Int) (a : Option Addr) (n ca : Nat) (xs : List Int) (t : Int) (b : Option Addr) (m cb : Nat) (ys : List Int) (w : World) (ha : IntsAt w a n xs) (hn : xs.length ≤ 1048576) (hb : IntsAt w b m ys) (hm : ys.length ≤ 1048576) (hc : Ok s xs ∧ Ok t ys ∧ s = t) :
    Calls Try.prog 92 #[rhy s a n ca, rhy t b m cb] w fun e w' => e = .returned (.bool true) ∧ Below w.heap.size w w' := by
  obtain ⟨ho, hp, hst⟩ := hc
  have hstb : (s == t) = true := by simpa using hst
  clear hst
  have FA := Lib.hid ha
  have FB := Lib.hid hb
  have hn' : n ≤ 1048576 := by have := ha.1; omega
  have hm' : m ≤ 1048576 := by have := hb.1; omega
  clear ha hb
  obtain ⟨W0, hW⟩ : ∃ W0, W0 = (w.alloc (.cells #[.int .i64 s, .slice a n ca] 25)).alloc (.cells #[.int .i64 t, .slice b m cb] 25) := ⟨_, rfl⟩
  have HW := Lib.hid hW
  have HB0 := Lib.hid (show Below w.heap.size w W0 by rw [hW]; exact bel2 w _ _)
  have HX0 : Hid (RhI W0 w.heap.size s a n ca xs) := Lib.hid ⟨by rw [hW]; exact (box_new w _ _ _).keep (bel1 _ _) (by simp), FA.out.below HB0.out⟩
  have HY0 : Hid (RhI W0 (w.heap.size + 1) t b m cb ys) := Lib.hid ⟨by rw [hW]; simpa using box_new (w.alloc (.cells #[.int .i64 s, .slice a n ca] 25)) (.int .i64 t) (.slice b m cb) 25, FB.out.below HB0.out⟩
  clear hW FA FB
  have HO := Lib.hid ho
  have HP := Lib.hid hp
  clear ho hp
  obtain ⟨c0, c1, f0, f1⟩ := HX0.out.1.facts
  obtain ⟨d0, d1, g0, g1⟩ := HY0.out.1.facts
  go_enter Try.func92, Try.ntmps92
  go_wp2_with fail
  rw [← HW.out]
  refine (ok_yes s a n ca xs _ HX0.out.2 hn' HO.out).mono ?_
  rintro e w1 ⟨rfl, hb1⟩
  have HB1 := Lib.hid (HB0.out.trans (hb1.mono HB0.out.size))
  have HX1 := Lib.hid (HX0.out.keep hb1)
  have HY1 := Lib.hid (HY0.out.keep hb1)
  clear c0 c1 f0 f1 d0 d1 g0 g1 hb1
  obtain ⟨c0, c1, f0, f1⟩ := HX1.out.1.facts
  obtain ⟨d0, d1, g0, g1⟩ := HY1.out.1.facts
  go_wp2_with fail
  refine (ok_yes t b m cb ys _ HY1.out.2 hm' HP.out).mono ?_
  rintro e w2 ⟨rfl, hb2⟩
  have HB2 := Lib.hid (HB1.out.trans (hb2.mono HB1.out.size))
  have HX2 := Lib.hid (HX1.out.keep hb2)
  have HY2 := Lib.hid (HY1.out.keep hb2)
  clear c0 c1 f0 f1 d0 d1 g0 g1 hb2
  obtain ⟨c0, c1, f0, f1⟩ := HX2.out.1.facts
  obtain ⟨d0, d1, g0, g1⟩ := HY2.out.1.facts
  go_wp2
  go_ret
  exact ⟨rfl, HB2.out⟩
set_option maxHeartbeats 400000 in
theorem two_no (s : Int) (a : Option Addr) (n ca : Nat) (xs : List Int) (t : Int) (b : Option Addr) (m cb : Nat) (ys : List Int) (w : World) (ha : IntsAt w a n xs) (hn : xs.length ≤ 1048576) (hb : IntsAt w b m ys) (hm : ys.length ≤ 1048576) (hc : ¬ (Ok s xs ∧ Ok t ys ∧ s = t)) :
    Calls Try.prog 92 #[rhy s a n ca, rhy t b m cb] w fun e w' => e = .returned (.bool false) ∧ Below w.heap.size w w' := by
  have FA := Lib.hid ha
  have FB := Lib.hid hb
  have hn' : n ≤ 1048576 := by have := ha.1; omega
  have hm' : m ≤ 1048576 := by have := hb.1; omega
  clear ha hb
  obtain ⟨W0, hW⟩ : ∃ W0, W0 = (w.alloc (.cells #[.int .i64 s, .slice a n ca] 25)).alloc (.cells #[.int .i64 t, .slice b m cb] 25) := ⟨_, rfl⟩
  have HW := Lib.hid hW
  have HB0 := Lib.hid (show Below w.heap.size w W0 by rw [hW]; exact bel2 w _ _)
  have HX0 : Hid (RhI W0 w.heap.size s a n ca xs) := Lib.hid ⟨by rw [hW]; exact (box_new w _ _ _).keep (bel1 _ _) (by simp), FA.out.below HB0.out⟩
  have HY0 : Hid (RhI W0 (w.heap.size + 1) t b m cb ys) := Lib.hid ⟨by rw [hW]; simpa using box_new (w.alloc (.cells #[.int .i64 s, .slice a n ca] 25)) (.int .i64 t) (.slice b m cb) 25, FB.out.below HB0.out⟩
  clear hW FA FB
  by_cases ho : Ok s xs
  · have HO := Lib.hid ho
    by_cases hp : Ok t ys
    · have HP := Lib.hid hp
      have hst : ¬ s = t := fun q => hc ⟨ho, hp, q⟩
      have hstb : (s == t) = false := by simpa using hst
      clear ho hp hc hst
      obtain ⟨c0, c1, f0, f1⟩ := HX0.out.1.facts
      obtain ⟨d0, d1, g0, g1⟩ := HY0.out.1.facts
      go_enter Try.func92, Try.ntmps92
      go_wp2_with fail
      rw [← HW.out]
      refine (ok_yes s a n ca xs _ HX0.out.2 hn' HO.out).mono ?_
      rintro e w1 ⟨rfl, hb1⟩
      have HB1 := Lib.hid (HB0.out.trans (hb1.mono HB0.out.size))
      have HX1 := Lib.hid (HX0.out.keep hb1)
      have HY1 := Lib.hid (HY0.out.keep hb1)
      clear c0 c1 f0 f1 d0 d1 g0 g1 hb1
      obtain ⟨c0, c1, f0, f1⟩ := HX1.out.1.facts
      obtain ⟨d0, d1, g0, g1⟩ := HY1.out.1.facts
      go_wp2_with fail
      refine (ok_yes t b m cb ys _ HY1.out.2 hm' HP.out).mono ?_
      rintro e w2 ⟨rfl, hb2⟩
      have HB2 := Lib.hid (HB1.out.trans (hb2.mono HB1.out.size))
      have HX2 := Lib.hid (HX1.out.keep hb2)
      have HY2 := Lib.hid (HY1.out.keep hb2)
      clear c0 c1 f0 f1 d0 d1 g0 g1 hb2
      obtain ⟨c0, c1, f0, f1⟩ := HX2.out.1.facts
      obtain ⟨d0, d1, g0, g1⟩ := HY2.out.1.facts
      go_wp2
      go_ret
      exact ⟨rfl, HB2.out⟩
    · have HP := Lib.hid hp
      clear ho hp hc
      obtain ⟨c0, c1, f0, f1⟩ := HX0.out.1.facts
      obtain ⟨d0, d1, g0, g1⟩ := HY0.out.1.facts
      go_enter Try.func92, Try.ntmps92
      go_wp2_with fail
      rw [← HW.out]
      refine (ok_yes s a n ca xs _ HX0.out.2 hn' HO.out).mono ?_
      rintro e w1 ⟨rfl, hb1⟩
      have HB1 := Lib.hid (HB0.out.trans (hb1.mono HB0.out.size))
      have HX1 := Lib.hid (HX0.out.keep hb1)
      have HY1 := Lib.hid (HY0.out.keep hb1)
      clear c0 c1 f0 f1 d0 d1 g0 g1 hb1
      obtain ⟨c0, c1, f0, f1⟩ := HX1.out.1.facts
      obtain ⟨d0, d1, g0, g1⟩ := HY1.out.1.facts
      go_wp2_with fail
      refine (ok_no t b m cb ys _ HY1.out.2 hm' HP.out).mono ?_
      rintro e w2 ⟨rfl, hb2⟩
      have HB2 := Lib.hid (HB1.out.trans (hb2.mono HB1.out.size))
      have HX2 := Lib.hid (HX1.out.keep hb2)
      have HY2 := Lib.hid (HY1.out.keep hb2)
      clear c0 c1 f0 f1 d0 d1 g0 g1 hb2
      obtain ⟨c0, c1, f0, f1⟩ := HX2.out.1.facts
      obtain ⟨d0, d1, g0, g1⟩ := HY2.out.1.facts
      go_wp2
      go_ret
      exact ⟨rfl, HB2.out⟩
  · have HO := Lib.hid ho
    clear ho hc
    obtain ⟨c0, c1, f0, f1⟩ := HX0.out.1.facts
    obtain ⟨d0, d1, g0, g1⟩ := HY0.out.1.facts
    go_enter Try.func92, Try.ntmps92
    go_wp2_with fail
    rw [← HW.out]
    refine (ok_no s a n ca xs _ HX0.out.2 hn' HO.out).mono ?_
    rintro e w1 ⟨rfl, hb1⟩
    have HB1 := Lib.hid (HB0.out.trans (hb1.mono HB0.out.size))
    have HX1 := Lib.hid (HX0.out.keep hb1)
    have HY1 := Lib.hid (HY0.out.keep hb1)
    clear c0 c1 f0 f1 d0 d1 g0 g1 hb1
    obtain ⟨c0, c1, f0, f1⟩ := HX1.out.1.facts
    obtain ⟨d0, d1, g0, g1⟩ := HY1.out.1.facts
    go_wp2
    go_ret
    exact ⟨rfl, HB1.out⟩
set_option maxHeartbeats 400000 in
theorem common_spec (s : Int) (a : Option Addr) (n ca : Nat) (xs : List Int) (t : Int) (b : Option Addr) (m cb : Nat) (ys : List Int) (w : World) (ha : IntsAt w a n xs) (hn : xs.length ≤ 1048576) (hb : IntsAt w b m ys) (hm : ys.length ≤ 1048576) :
    Calls Try.prog 54 #[rhy s a n ca, rhy t b m cb] w fun e w' => e = .returned (.int .i64 (comB s xs t ys)) ∧ Below w.heap.size w w' := by
  have FA := Lib.hid ha
  have FB := Lib.hid hb
  have hn' : n ≤ 1048576 := by have := ha.1; omega
  have hm' : m ≤ 1048576 := by have := hb.1; omega
  clear ha hb
  obtain ⟨W0, hW⟩ : ∃ W0, W0 = (w.alloc (.cells #[.int .i64 s, .slice a n ca] 25)).alloc (.cells #[.int .i64 t, .slice b m cb] 25) := ⟨_, rfl⟩
  have HW := Lib.hid hW
  have HB0 := Lib.hid (show Below w.heap.size w W0 by rw [hW]; exact bel2 w _ _)
  have HX0 : Hid (RhI W0 w.heap.size s a n ca xs) := Lib.hid ⟨by rw [hW]; exact (box_new w _ _ _).keep (bel1 _ _) (by simp), FA.out.below HB0.out⟩
  have HY0 : Hid (RhI W0 (w.heap.size + 1) t b m cb ys) := Lib.hid ⟨by rw [hW]; simpa using box_new (w.alloc (.cells #[.int .i64 s, .slice a n ca] 25)) (.int .i64 t) (.slice b m cb) 25, FB.out.below HB0.out⟩
  clear hW FA FB
  by_cases hc : Ok s xs ∧ Ok t ys ∧ s = t
  · have HC := Lib.hid hc
    have HE := Lib.hid (comB_yes hc)
    clear hc
    rw [HE.out]
    obtain ⟨c0, c1, f0, f1⟩ := HX0.out.1.facts
    obtain ⟨d0, d1, g0, g1⟩ := HY0.out.1.facts
    go_enter Try.func54, Try.ntmps54
    go_wp2_with fail
    rw [← HW.out]
    refine (two_yes s a n ca xs t b m cb ys _ HX0.out.2 hn HY0.out.2 hm HC.out).mono ?_
    rintro e w1 ⟨rfl, hb1⟩
    have HB1 := Lib.hid (HB0.out.trans (hb1.mono HB0.out.size))
    have HX1 := Lib.hid (HX0.out.keep hb1)
    have HY1 := Lib.hid (HY0.out.keep hb1)
    clear c0 c1 f0 f1 d0 d1 g0 g1 hb1
    obtain ⟨c0, c1, f0, f1⟩ := HX1.out.1.facts
    obtain ⟨d0, d1, g0, g1⟩ := HY1.out.1.facts
    go_wp2_with fail
    refine (com0_spec s a n ca xs t b m cb ys _ HX1.out.2 hn' HY1.out.2 hm').mono ?_
    rintro e w2 ⟨rfl, hb2⟩
    have HB2 := Lib.hid (HB1.out.trans (hb2.mono HB1.out.size))
    clear c0 c1 f0 f1 d0 d1 g0 g1 hb2
    go_wp2
    go_ret
    exact ⟨rfl, HB2.out⟩
  · have HC := Lib.hid hc
    have HE := Lib.hid (comB_no hc)
    clear hc
    rw [HE.out]
    obtain ⟨c0, c1, f0, f1⟩ := HX0.out.1.facts
    obtain ⟨d0, d1, g0, g1⟩ := HY0.out.1.facts
    go_enter Try.func54, Try.ntmps54
    go_wp2_with fail
    rw [← HW.out]
    refine (two_no s a n ca xs t b m cb ys _ HX0.out.2 hn HY0.out.2 hm HC.out).mono ?_
    rintro e w1 ⟨rfl, hb1⟩
    have HB1 := Lib.hid (HB0.out.trans (hb1.mono HB0.out.size))
    have HX1 := Lib.hid (HX0.out.keep hb1)
    have HY1 := Lib.hid (HY0.out.keep hb1)
    clear c0 c1 f0 f1 d0 d1 g0 g1 hb1
    obtain ⟨c0, c1, f0, f1⟩ := HX1.out.1.facts
    obtain ⟨d0, d1, g0, g1⟩ := HY1.out.1.facts
    go_wp2
    go_ret
    exact ⟨rfl, HB1.out⟩

def overP (n : Int) (xs ys : List Int) (k : Nat) : List Int := (List.range k).map fun i => ((comZ xs (rotZ n ys 1 ((i : Nat) : Int)) : Nat) : Int)
theorem overP_len (n : Int) (xs ys : List Int) (k : Nat) : (overP n xs ys k).length = k := by simp [overP]
theorem overP_snoc (n : Int) (xs ys : List Int) (k : Nat) : overP n xs ys (k + 1) = overP n xs ys k ++ [((comZ xs (rotZ n ys 1 (k : Int)) : Nat) : Int)] := by simp [overP, List.range_succ]
/-- What both answer. -/
noncomputable def overB (s : Int) (xs : List Int) (t : Int) (ys : List Int) : List Int := cZ (Ok s xs ∧ Ok t ys ∧ s = t) (overP s xs ys s.toNat)
theorem over_self (n : Int) (zs : List Int) : overP n zs zs n.toNat = difZ n zs := rfl
theorem over_int {n : Int} {xs ys : List Int} (hx : xs.length ≤ 24) (k : Nat) : AllInt (overP n xs ys k) := by
  intro z hz
  unfold overP at hz
  rw [List.mem_map] at hz
  obtain ⟨i, _, rfl⟩ := hz
  have := com_le xs (rotZ n ys 1 ((i : Nat) : Int))
  omega
theorem overB_int (s : Int) (xs : List Int) (t : Int) (ys : List Int) : AllInt (overB s xs t ys) := by
  unfold overB
  by_cases h : Ok s xs ∧ Ok t ys ∧ s = t
  · rw [cZ_yes h]; exact over_int (ok_len h.1) _
  · rw [cZ_no h]; intro z hz; cases hz
theorem overB_len (s : Int) (xs : List Int) (t : Int) (ys : List Int) : (overB s xs t ys).length ≤ 24 := by
  unfold overB
  by_cases h : Ok s xs ∧ Ok t ys ∧ s = t
  · rw [cZ_yes h, overP_len]; have := h.1.1; omega
  · rw [cZ_no h]; simp

set_option maxHeartbeats 1000000 in
set_option maxRecDepth 100000 in
theorem over_spec (s : Int) (a : Option Addr) (n ca : Nat) (xs : List Int) (t : Int) (b : Option Addr) (m cb : Nat) (ys : List Int) (w : World) (ha : IntsAt w a n xs) (hn : xs.length ≤ 1048576) (hb : IntsAt w b m ys) (hm : ys.length ≤ 1048576) :
    Calls Try.prog 55 #[rhy s a n ca, rhy t b m cb] w (IPost (overB s xs t ys) w) := by
  have FA := Lib.hid ha
  have FB := Lib.hid hb
  have hn' : n ≤ 1048576 := by have := ha.1; omega
  have hm' : m ≤ 1048576 := by have := hb.1; omega
  clear ha hb
  obtain ⟨W0, hW⟩ : ∃ W0, W0 = (w.alloc (.cells #[.int .i64 s, .slice a n ca] 25)).alloc (.cells #[.int .i64 t, .slice b m cb] 25) := ⟨_, rfl⟩
  have HW := Lib.hid hW
  have HB0 := Lib.hid (show Below w.heap.size w W0 by rw [hW]; exact bel2 w _ _)
  have HX0 : Hid (RhI W0 w.heap.size s a n ca xs) := Lib.hid ⟨by rw [hW]; exact (box_new w _ _ _).keep (bel1 _ _) (by simp), FA.out.below HB0.out⟩
  have HY0 : Hid (RhI W0 (w.heap.size + 1) t b m cb ys) := Lib.hid ⟨by rw [hW]; simpa using box_new (w.alloc (.cells #[.int .i64 s, .slice a n ca] 25)) (.int .i64 t) (.slice b m cb) 25, FB.out.below HB0.out⟩
  clear hW FA FB
  by_cases hc : Ok s xs ∧ Ok t ys ∧ s = t
  · have HC := Lib.hid hc
    have HE : Hid (overB s xs t ys = overP s xs ys s.toNat) := Lib.hid (cZ_yes hc)
    obtain ⟨nn, hnn⟩ : ∃ nn : Nat, s = nn := ⟨s.toNat, by have := hc.1.1; omega⟩
    have hn24 : nn ≤ 24 := by have := hc.1.1; omega
    have HNN := Lib.hid hnn
    have HO := Lib.hid hc.1
    have HP : Hid (Ok s ys) := Lib.hid (by have := hc.2.1; rwa [← hc.2.2] at this)
    have HST := Lib.hid hc.2.2
    have HNT : Hid (s.toNat = nn) := Lib.hid (by omega)
    clear hc hnn
    rw [HE.out, HNT.out]
    obtain ⟨c0, c1, f0, f1⟩ := HX0.out.1.facts
    obtain ⟨d0, d1, g0, g1⟩ := HY0.out.1.facts
    go_enter Try.func55, Try.ntmps55
    go_wp2_with fail
    rw [← HW.out]
    refine (two_yes s a n ca xs t b m cb ys _ HX0.out.2 hn HY0.out.2 hm HC.out).mono ?_
    rintro e w1 ⟨rfl, hb1⟩
    have HB1 := Lib.hid (HB0.out.trans (hb1.mono HB0.out.size))
    have HX1 := Lib.hid (HX0.out.keep hb1)
    have HY1 := Lib.hid (HY0.out.keep hb1)
    clear c0 c1 f0 f1 d0 d1 g0 g1 hb1
    obtain ⟨c0, c1, f0, f1⟩ := HX1.out.1.facts
    obtain ⟨d0, d1, g0, g1⟩ := HY1.out.1.facts
    go_wp2
    go_loopw [5, 6] (fun v i wr => ∃ j : Nat, j ≤ nn ∧ i = .int .i64 j ∧ VecAt (overP s xs ys j) w1 wr v) (fun _ i _ => nn - (intOf i).toNat)
    case atStart => exact ⟨0, by omega, rfl, vec_made w1⟩
    case round =>
      obtain ⟨j, hj, rfl, av, cv, rfl, hown, hnx, hsz⟩ := hrel
      have HO1 := Lib.hid hown
      have HX := Lib.hid hnx
      have HZ := Lib.hid hsz
      clear hown hnx hsz
      have HXr := Lib.hid (HX1.out.keep HX.out)
      have HYr := Lib.hid (HY1.out.keep HX.out)
      clear c0 c1 f0 f1 d0 d1 g0 g1
      obtain ⟨c0, c1, f0, f1⟩ := HXr.out.1.facts
      obtain ⟨d0, d1, g0, g1⟩ := HYr.out.1.facts
      have lx := HXr.out.1.lt
      by_cases hlt : j < nn
      · have hsl : (overP s xs ys j).length ≤ 1048577 := by rw [overP_len]; omega
        have hlb : decide ((j : Int) < s) = true := by have := HNN.out; simp; omega
        have HSN := Lib.hid (overP_snoc s xs ys j)
        obtain ⟨L, hL⟩ : ∃ L, overP s xs ys j = L := ⟨_, rfl⟩
        obtain ⟨q, hq⟩ : ∃ q, comZ xs (rotZ s ys 1 (j : Int)) = q := ⟨_, rfl⟩
        have HQ := Lib.hid hq
        rw [hL, hq] at HSN
        rw [hL] at HO1 hsl ⊢
        clear hL hq
        have HRL : Hid ((rotZ s ys 1 (j : Int)).length ≤ 24) := Lib.hid (rotZ_len HO.out.1.2)
        have HRI : Hid (AllInt (rotZ s ys 1 (j : Int))) := Lib.hid (rotZ_int HO.out.1.2)
        go_upto_region 7 with fail
        have HK : Hid (∀ W' : World, Below w1.heap.size w1 W' → W'.cell? ⟨w.heap.size, 0, none⟩ = some (.int .i64 s) ∧ W'.cell? ⟨w.heap.size, 1, none⟩ = some (.slice a n ca) ∧ W'.cell? ⟨(w.heap.size + 1), 0, none⟩ = some (.int .i64 t) ∧ W'.cell? ⟨(w.heap.size + 1), 1, none⟩ = some (.slice b m cb) ∧ Below w1.heap.size w1 W') :=
          Lib.hid (fun W' hW => ⟨(HX1.out.keep hW).1.facts.1, (HX1.out.keep hW).1.facts.2.1, (HY1.out.keep hW).1.facts.1, (HY1.out.keep hW).1.facts.2.1, hW⟩)
        have HIx : Hid (∀ W' : World, Below w1.heap.size w1 W' → IntsAt W' a n xs) := Lib.hid (fun W' hW => (HX1.out.keep hW).2)
        have HIy : Hid (∀ W' : World, Below w1.heap.size w1 W' → IntsAt W' b m ys) := Lib.hid (fun W' hW => (HY1.out.keep hW).2)
        refine wp_region_held_drew (S := fun W' => W'.cell? ⟨w.heap.size, 0, none⟩ = some (.int .i64 s) ∧ W'.cell? ⟨w.heap.size, 1, none⟩ = some (.slice a n ca) ∧ W'.cell? ⟨(w.heap.size + 1), 0, none⟩ = some (.int .i64 t) ∧ W'.cell? ⟨(w.heap.size + 1), 1, none⟩ = some (.slice b m cb) ∧ Below w1.heap.size w1 W') (by kernel_rfl) (HK.out _ HX.out.drew) (fun hSS0 => ?_)
        refine wpAnyH_take (i := 0) (oi := ⟨some 18, _, _, _, _, _⟩) (v := .slice av L.length cv) rfl (by kernel_rfl) (by kernel_rfl) (by kernel_rfl) (fun _ _ _ h => h) (Or.inl ⟨by rfl, fun w hSw => by go_simp⟩) (by assumption) ?_
        try simp only [Act.put, List.setIfInBounds_toArray, List.set_cons_zero, List.set_cons_succ]
        refine wpAnyH_take (i := 1) (oi := ⟨some 19, _, _, _, _, _⟩) (v := .agg #[.int .i64 s, .slice a n ca]) rfl (by kernel_rfl) (by kernel_rfl) (by kernel_rfl) (fun _ _ _ h => h) (Or.inl ⟨by rfl, fun w hSw => by obtain ⟨q1, q2, _⟩ := hSw; go_simp⟩) (by assumption) ?_
        try simp only [Act.put, List.setIfInBounds_toArray, List.set_cons_zero, List.set_cons_succ]
        refine wpAnyH_take (i := 2) (oi := ⟨some 20, _, _, _, _, _⟩) (v := .agg #[.int .i64 t, .slice b m cb]) rfl (by kernel_rfl) (by kernel_rfl) (by kernel_rfl) (fun _ _ _ h => h) (Or.inl ⟨by rfl, fun w hSw => by obtain ⟨_, _, q1, q2, _⟩ := hSw; go_simp⟩) (by assumption) ?_
        try simp only [Act.put, List.setIfInBounds_toArray, List.set_cons_zero, List.set_cons_succ]
        refine wpAnyH_take (i := 3) (oi := ⟨some 21, _, _, _, _, _⟩) (v := .int .i64 (j : Nat)) rfl (by kernel_rfl) (by kernel_rfl) (by kernel_rfl) (fun _ _ _ h => h) (Or.inl ⟨by rfl, fun w hSw => by go_simp⟩) (by assumption) ?_
        try simp only [Act.put, List.setIfInBounds_toArray, List.set_cons_zero, List.set_cons_succ]
        refine wpAnyH_ready (rs := [4]) (by kernel_rfl) (by simp) ?_
        refine AllReadyH.cons rfl (fun K hKK => ?_) AllReadyH.nil
        go_simp
        go_at_call 94
        refine (map_any t b m cb ys 1 j _ (HIy.out _ HX.out.drew) hm' (by rw [← HST.out]; exact HP.out) (by omega) (by omega) (by omega) (by omega)).mono ?_
        rintro e wk1 ⟨a5, c5, he5, hown1, hc1⟩
        rw [← HST.out] at he5 hown1
        obtain rfl := he5
        have HR5 : Hid (IntsAt wk1 a5 (rotZ s ys 1 (j : Int)).length (rotZ s ys 1 (j : Int))) := Lib.hid (intsAt_own hown1 HRI.out)
        clear hown1
        have HOd := Lib.hid (own_below HO1.out ((Below.refl _ _).drew.trans hc1))
        have hz1 := hc1.size
        have hbb1 : Below w1.heap.size w1 wk1 := HX.out.drew.trans (hc1.mono HX.out.size)
        clear hc1
        refine hKK.out _ _ (HK.out _ hbb1) (fun hSS1 => ?_)
        clear hKK K hSS0
        try simp only [Act.put, List.setIfInBounds_toArray, List.set_cons_zero, List.set_cons_succ]
        refine wpAnyH_ready (rs := [5]) (by kernel_rfl) (by simp) ?_
        refine AllReadyH.cons rfl (fun K hKK => ?_) AllReadyH.nil
        go_simp
        go_at_call 93
        refine (com0_spec s a n ca xs s a5 (rotZ s ys 1 (j : Int)).length c5 (rotZ s ys 1 (j : Int)) _ (HIx.out _ hbb1) hn' HR5.out (by have := HRL.out; omega)).mono ?_
        rintro e wk2 ⟨rfl, hc2⟩
        rw [HQ.out]
        have HOe := Lib.hid (own_below HOd.out hc2)
        have hz2 := hc2.size
        have hbb2 : Below w1.heap.size w1 wk2 := hbb1.trans (hc2.mono hbb1.size)
        clear hc2
        refine hKK.out _ _ (HK.out _ hbb2) (fun hSS2 => ?_)
        clear hKK K hbb1 hSS1
        try simp only [Act.put, List.setIfInBounds_toArray, List.set_cons_zero, List.set_cons_succ]
        refine wpAnyH_ready (rs := [6]) (by kernel_rfl) (by simp) ?_
        refine AllReadyH.cons rfl (fun K hKK => ?_) AllReadyH.nil
        go_simp
        have HZ2 := Lib.hid hbb2
        have hbb3 : Below w1.heap.size w1 (wk2.alloc (.cells #[.int .i64 q] 3)) := hbb2.alloc hbb2.size _
        refine hKK.out _ _ (HK.out _ hbb3) (fun hSS3 => ?_)
        clear hKK K hbb2 hSS2
        try simp only [Act.put, List.setIfInBounds_toArray, List.set_cons_zero, List.set_cons_succ]
        refine wpAnyH_ready (rs := [7]) (by kernel_rfl) (by simp) ?_
        refine AllReadyH.cons rfl (fun K hKK => ?_) AllReadyH.nil
        refine step_append_int rfl _ _ rfl w1.heap.size _ L q wk2 HOe.out hsl HZ2.out.size _ rfl rfl rfl ?_
        intro a' c' w4 hown4 hb4
        have HO4 := Lib.hid hown4
        have hbb4 : Below w1.heap.size w1 w4 := HZ2.out.trans hb4
        clear hown4 hb4
        refine hKK.out _ _ (HK.out _ hbb4) (fun hSS4 => ?_)
        clear hKK K hbb3 hSS3
        try simp only [Act.put, List.setIfInBounds_toArray, List.set_cons_zero, List.set_cons_succ]
        refine wpAnyH_take (i := 8) (oi := ⟨some 5, _, _, _, _, _⟩) (v := .slice a' (L ++ [(q : Int)]).length c') rfl (by kernel_rfl) (by kernel_rfl) (by kernel_rfl) (fun _ _ _ h => h) (Or.inl ⟨by rfl, fun w hSw => by go_simp⟩) (by assumption) ?_
        try simp only [Act.put, List.setIfInBounds_toArray, List.set_cons_zero, List.set_cons_succ]
        refine wpAnyH_done (by kernel_rfl) ?_ _
        clear HK
        go_wp2
        go_roundw
        case rel =>
          refine ⟨j + 1, by omega, by go_num, ?_⟩
          rw [HSN.out]
          exact ⟨a', c', by simp, HO4.out, hbb4, hbb4.size⟩
        case measure => simp [intOf]; omega
      · have e : j = nn := by omega
        subst e
        have hlb : decide ((j : Int) < s) = false := by have := HNN.out; simp; omega
        go_wp2
        go_ret
        have h1 := HB1.out.size
        exact ⟨av, cv, rfl, own_base HO1.out h1, HB1.out.trans (HX.out.mono h1)⟩
  · have HC := Lib.hid hc
    clear hc
    obtain ⟨c0, c1, f0, f1⟩ := HX0.out.1.facts
    obtain ⟨d0, d1, g0, g1⟩ := HY0.out.1.facts
    go_enter Try.func55, Try.ntmps55
    go_wp2_with fail
    rw [← HW.out]
    refine (two_no s a n ca xs t b m cb ys _ HX0.out.2 hn HY0.out.2 hm HC.out).mono ?_
    rintro e w1 ⟨rfl, hb1⟩
    have HB1 := Lib.hid (HB0.out.trans (hb1.mono HB0.out.size))
    have HX1 := Lib.hid (HX0.out.keep hb1)
    have HY1 := Lib.hid (HY0.out.keep hb1)
    clear c0 c1 f0 f1 d0 d1 g0 g1 hb1
    obtain ⟨c0, c1, f0, f1⟩ := HX1.out.1.facts
    obtain ⟨d0, d1, g0, g1⟩ := HY1.out.1.facts
    go_wp2
    go_ret
    exact ipost_nil HC.out HB1.out
end Go.Proofs.Ytcppmcacjjjjeaa.Rhy

/-
  Helpers of the claims beside this text: intervals between beats, flat and deep rhythms: the model's.
-/
namespace Go.Proofs.Ytcppmcacjjjjeaa.Rhy
open Go.RowKit
set_option linter.unusedVariables false
set_option linter.unusedSimpArgs false

open Classical in
/-- What both answer. -/
noncomputable def betB (s : Int) (zs : List Int) (p q : Int) : Int := if Ok s zs ∧ p ∈ zs ∧ q ∈ zs then min (remB (p - q) s) (s - remB (p - q) s) else -1
theorem betB_yes {s p q : Int} {zs : List Int} (h : Ok s zs ∧ p ∈ zs ∧ q ∈ zs) : betB s zs p q = min (remB (p - q) s) (s - remB (p - q) s) := if_pos h
theorem betB_no {s p q : Int} {zs : List Int} (h : ¬ (Ok s zs ∧ p ∈ zs ∧ q ∈ zs)) : betB s zs p q = -1 := if_neg h
theorem hasB_no {zs : List Int} {x : Int} (h : ¬ x ∈ zs) : hasB zs x = false := by
  cases hh : hasB zs x with
  | false => rfl
  | true => exact absurd (hasB_mem.1 hh) h

set_option maxHeartbeats 1000000 in
theorem bet_spec (s : Int) (a : Option Addr) (len cap : Nat) (zs : List Int) (p q : Int) (w : World) (h : IntsAt w a len zs) (hm : zs.length ≤ 1048576) (hp1 : -9223372036854775808 ≤ p) (hp2 : p ≤ 9223372036854775807) (hq1 : -9223372036854775808 ≤ q) (hq2 : q ≤ 9223372036854775807) :
    Calls Try.prog 56 #[rhy s a len cap, .int .i64 p, .int .i64 q] w fun e w' => e = .returned (.int .i64 (betB s zs p q)) ∧ Below w.heap.size w w' := by
  have HS := Lib.hid h
  have hl : len ≤ 1048576 := by have := h.1; omega
  clear h
  by_cases ho : Ok s zs
  · have HO := Lib.hid ho
    have hs1 := ho.1.1
    have hs2 := ho.1.2
    by_cases hp : p ∈ zs
    · have HP := Lib.hid (hasB_mem.2 hp)
      by_cases hq : q ∈ zs
      · have HQ := Lib.hid (hasB_mem.2 hq)
        have HE := Lib.hid (betB_yes ⟨ho, hp, hq⟩)
        obtain ⟨hpa, hpb⟩ := ok_range ho p hp
        obtain ⟨hqa, hqb⟩ := ok_range ho q hq
        obtain ⟨ra, rb⟩ := remB_bd (p - q) s (by omega)
        clear ho hp hq
        rw [HE.out]
        go_enter Try.func56, Try.ntmps56
        go_wp2_with fail
        refine (ok_yes s a len cap zs _ (HS.out.below (bel1 w _)) hl HO.out).mono ?_
        rintro e w1 ⟨rfl, hb1⟩
        have HB := Lib.hid ((bel1 w (.cells #[.int .i64 s, .slice a len cap] 25)).trans (hb1.mono (by simp)))
        have HT := Lib.hid ((two_new w (.int .i64 s) (.slice a len cap) 25).keep hb1)
        obtain ⟨t1, t1a, t1b⟩ := HT.out
        clear hb1
        go_wp2_with fail
        refine (has_any a len cap zs p w1 (HS.out.below HB.out) (by omega)).mono ?_
        rintro e w' ⟨rfl, rfl⟩
        rw [HP.out]
        go_wp2_with fail
        refine (has_any a len cap zs q w1 (HS.out.below HB.out) (by omega)).mono ?_
        rintro e w' ⟨rfl, rfl⟩
        rw [HQ.out]
        go_wp2_with fail
        refine (mod_any (p - q) s w1 (by omega) (by omega) (by omega) (by omega)).mono ?_
        rintro e w' ⟨rfl, rfl⟩
        go_wp2
        go_ret
        exact ⟨rfl, HB.out⟩
      · have HQ := Lib.hid (hasB_no hq)
        have HE := Lib.hid (betB_no (s := s) (zs := zs) (p := p) (q := q) (fun x => hq x.2.2))
        clear ho hp hq
        rw [HE.out]
        go_enter Try.func56, Try.ntmps56
        go_wp2_with fail
        refine (ok_yes s a len cap zs _ (HS.out.below (bel1 w _)) hl HO.out).mono ?_
        rintro e w1 ⟨rfl, hb1⟩
        have HB := Lib.hid ((bel1 w (.cells #[.int .i64 s, .slice a len cap] 25)).trans (hb1.mono (by simp)))
        have HT := Lib.hid ((two_new w (.int .i64 s) (.slice a len cap) 25).keep hb1)
        obtain ⟨t1, t1a, t1b⟩ := HT.out
        clear hb1
        go_wp2_with fail
        refine (has_any a len cap zs p w1 (HS.out.below HB.out) (by omega)).mono ?_
        rintro e w' ⟨rfl, rfl⟩
        rw [HP.out]
        go_wp2_with fail
        refine (has_any a len cap zs q w1 (HS.out.below HB.out) (by omega)).mono ?_
        rintro e w' ⟨rfl, rfl⟩
        rw [HQ.out]
        go_wp2
        go_ret
        exact ⟨rfl, HB.out⟩
    · have HP := Lib.hid (hasB_no hp)
      have HE := Lib.hid (betB_no (s := s) (zs := zs) (p := p) (q := q) (fun x => hp x.2.1))
      clear ho hp
      rw [HE.out]
      go_enter Try.func56, Try.ntmps56
      go_wp2_with fail
      refine (ok_yes s a len cap zs _ (HS.out.below (bel1 w _)) hl HO.out).mono ?_
      rintro e w1 ⟨rfl, hb1⟩
      have HB := Lib.hid ((bel1 w (.cells #[.int .i64 s, .slice a len cap] 25)).trans (hb1.mono (by simp)))
      have HT := Lib.hid ((two_new w (.int .i64 s) (.slice a len cap) 25).keep hb1)
      obtain ⟨t1, t1a, t1b⟩ := HT.out
      clear hb1
      go_wp2_with fail
      refine (has_any a len cap zs p w1 (HS.out.below HB.out) (by omega)).mono ?_
      rintro e w' ⟨rfl, rfl⟩
      rw [HP.out]
      go_wp2
      go_ret
      exact ⟨rfl, HB.out⟩
  · have HO := Lib.hid ho
    have HE := Lib.hid (betB_no (s := s) (zs := zs) (p := p) (q := q) (fun x => ho x.1))
    clear ho
    rw [HE.out]
    go_enter Try.func56, Try.ntmps56
    go_wp2_with fail
    refine (ok_no s a len cap zs _ (HS.out.below (bel1 w _)) hl HO.out).mono ?_
    rintro e w1 ⟨rfl, hb1⟩
    have HB := Lib.hid ((bel1 w (.cells #[.int .i64 s, .slice a len cap] 25)).trans (hb1.mono (by simp)))
    clear hb1
    go_wp2
    go_ret
    exact ⟨rfl, HB.out⟩

/-! flat -/
open Classical in
noncomputable def flatB (s : Int) (zs : List Int) : Bool := decide (Ok s zs ∧ flatZ s zs)
theorem flatB_yes {s : Int} {zs : List Int} (h : Ok s zs ∧ flatZ s zs) : flatB s zs = true := by simp [flatB, h.1, h.2]
theorem flatB_no {s : Int} {zs : List Int} (h : ¬ (Ok s zs ∧ flatZ s zs)) : flatB s zs = false := by unfold flatB; rw [decide_eq_false_iff_not]; exact h

set_option maxHeartbeats 1000000 in
theorem flat_spec (s : Int) (a : Option Addr) (len cap : Nat) (zs : List Int) (w : World) (h : IntsAt w a len zs) (hm : zs.length ≤ 1048576) :
    Calls Try.prog 53 #[rhy s a len cap] w fun e w' => e = .returned (.bool (flatB s zs)) ∧ Below w.heap.size w w' := by
  have HS := Lib.hid h
  have hl : len ≤ 1048576 := by have := h.1; omega
  clear h
  by_cases ho : Ok s zs
  · obtain ⟨n, rfl⟩ : ∃ n : Nat, s = n := ⟨s.toNat, by have := ho.1; omega⟩
    have HO := Lib.hid ho
    have hn1 : 1 ≤ n := by have := ho.1; omega
    have hn24 : n ≤ 24 := by have := ho.1; omega
    clear ho
    go_enter Try.func53, Try.ntmps53
    go_wp2_with fail
    refine (ok_yes n a len cap zs _ (HS.out.below (bel1 w _)) hl HO.out).mono ?_
    rintro e w1 ⟨rfl, hb1⟩
    have HB := Lib.hid ((bel1 w (.cells #[.int .i64 n, .slice a len cap] 25)).trans (hb1.mono (by simp)))
    have HT := Lib.hid ((two_new w (.int .i64 n) (.slice a len cap) 25).keep hb1)
    obtain ⟨t1, t1a, t1b⟩ := HT.out
    clear hb1
    go_wp2_with fail
    refine (difs0_spec n a len cap zs w1 (HS.out.below HB.out) hl HO.out).mono ?_
    rintro e w2 ⟨b, c, rfl, hown, hb⟩
    have HD := Lib.hid (intsAt_own hown (dif_int HO.out))
    have HB2 := Lib.hid (HB.out.trans (hb.mono HB.out.size))
    have HT2 := Lib.hid (HT.out.keep hb)
    have hdl : (difZ n zs).length = n := by rw [difZ_len]; omega
    clear hown hb t1 t1a t1b
    rw [hdl] at HD ⊢
    clear hdl
    obtain ⟨gd, od, rfl⟩ := addr_at HD.out (by omega)
    obtain ⟨t1, t1a, t1b⟩ := HT2.out
    go_wp2
    go_loopw [4] (fun i wr => ∃ k : Nat, 2 ≤ k ∧ k ≤ max 2 n ∧ i = .int .i64 k ∧ Hid (∀ i : Nat, 2 ≤ i → i < k → difAt n zs (i : Int) = difAt n zs 1) ∧ Below w2.heap.size w2 wr) (fun i _ => 30 - (intOf i).toNat)
    case atStart => exact ⟨2, by omega, by omega, rfl, Lib.hid (fun i h1 h2 => by omega), Below.refl _ _⟩
    case round =>
      obtain ⟨k, hk2, hk, rfl, HF, hbl⟩ := hrel
      have HX0 := Lib.hid hbl
      clear hbl t1 t1a t1b
      obtain ⟨t1, t1a, t1b⟩ := HT2.out.keep HX0.out
      by_cases hlt : k < n
      · have c1 : wr.cell? ⟨gd, od + 1, none⟩ = some (.int .i64 (difAt n zs 1 : Nat)) := by
          have h1 := cell_at (HD.out.below HX0.out) (show 1 < n by omega)
          rw [difZ_at (by omega)] at h1
          exact h1
        have c2 : wr.cell? ⟨gd, od + k, none⟩ = some (.int .i64 (difAt n zs (k : Int) : Nat)) := by
          have h1 := cell_at (HD.out.below HX0.out) (show k < n by omega)
          rw [difZ_at (by omega)] at h1
          exact h1
        obtain ⟨x, hx⟩ : ∃ x, difAt n zs (k : Int) = x := ⟨_, rfl⟩
        obtain ⟨y, hy⟩ : ∃ y, difAt n zs 1 = y := ⟨_, rfl⟩
        have HX := Lib.hid hx
        have HY := Lib.hid hy
        rw [hy] at c1
        rw [hx] at c2
        clear hx hy
        have hn2 : 1 < n := by omega
        by_cases hxy : x = y
        · subst hxy
          have HF2 : Hid (∀ i : Nat, 2 ≤ i → i < k + 1 → difAt n zs (i : Int) = difAt n zs 1) := Lib.hid (fun i h1 h2 => by
            by_cases q : i = k
            · subst q; rw [HX.out, HY.out]
            · exact HF.out i h1 (by omega))
          go_wp2
          go_quiet (fail)
          go_wp2
          go_roundw
          case rel => exact ⟨k + 1, by omega, by omega, by go_num, HF2, below_drewN HX0.out _⟩
          case measure => simp [intOf]; omega
        · have hxb : ((x : Int) != (y : Int)) = true := by simp; omega
          have HE := Lib.hid (flatB_no (s := (n : Int)) (zs := zs) (fun q => by
            have h1 := q.2 k hk2 (by omega)
            rw [HX.out, HY.out] at h1
            exact hxy h1))
          go_wp2
          go_quiet (fail)
          go_wp2
          go_ret
          rw [HE.out]
          exact ⟨rfl, below_drewN (HB2.out.trans (HX0.out.mono HB2.out.size)) _⟩
      · have HE := Lib.hid (flatB_yes (s := (n : Int)) (zs := zs) ⟨HO.out, fun i h1 h2 => HF.out i h1 (by omega)⟩)
        go_wp2
        go_ret
        rw [HE.out]
        exact ⟨rfl, HB2.out.trans (HX0.out.mono HB2.out.size)⟩
  · have HO := Lib.hid ho
    have HE := Lib.hid (flatB_no (s := s) (zs := zs) (fun x => ho x.1))
    clear ho
    rw [HE.out]
    go_enter Try.func53, Try.ntmps53
    go_wp2_with fail
    refine (ok_no s a len cap zs _ (HS.out.below (bel1 w _)) hl HO.out).mono ?_
    rintro e w1 ⟨rfl, hb1⟩
    have HB := Lib.hid ((bel1 w (.cells #[.int .i64 s, .slice a len cap] 25)).trans (hb1.mono (by simp)))
    clear hb1
    go_wp2
    go_ret
    exact ⟨rfl, HB.out⟩

/-! deep -/
def deepP (l : List Int) (k : Nat) : Prop := ∀ j z, j < k → l[j]? = some z → 0 < z → ¬ z ∈ l.take j
def deepZ (l : List Int) : Prop := deepP l l.length
open Classical in
noncomputable def deepB (s : Int) (zs : List Int) : Bool := decide (Ok s zs ∧ deepZ (vecZ s zs))
theorem deepB_yes {s : Int} {zs : List Int} (h : Ok s zs ∧ deepZ (vecZ s zs)) : deepB s zs = true := by simp [deepB, h.1, h.2]
theorem deepB_no {s : Int} {zs : List Int} (h : ¬ (Ok s zs ∧ deepZ (vecZ s zs))) : deepB s zs = false := by unfold deepB; rw [decide_eq_false_iff_not]; exact h
theorem deep_next {l : List Int} {k : Nat} {z : Int} (h : deepP l k) (hs : l[k]? = some z) (hz : 0 < z → ¬ z ∈ l.take k) : deepP l (k + 1) := by
  intro j y hj hy h0
  by_cases e : j = k
  · subst e
    rw [hs] at hy
    obtain rfl := Option.some.inj hy
    exact hz h0
  · exact h j y (by omega) hy h0

/-- The numbers seen so far; the vector's own row lies between lo and hi. -/
def DeepAt (V : List Int) (k lo hi : Nat) (w1 w2 wr : World) (v : Value) : Prop :=
  ∃ av cv, v = .slice av (V.take k).length cv ∧ wr.ownsRow w1.heap.size 3 1 (.slice av (V.take k).length cv) (V.take k).length (ints (V.take k)) ∧ Below w1.heap.size w1 wr ∧ Same lo hi w2 wr ∧ Outside lo hi (.slice av (V.take k).length cv) ∧ hi ≤ wr.heap.size

set_option maxHeartbeats 1000000 in
theorem deep_spec (s : Int) (a : Option Addr) (len cap : Nat) (zs : List Int) (w : World) (h : IntsAt w a len zs) (hm : zs.length ≤ 1048576) :
    Calls Try.prog 52 #[rhy s a len cap] w fun e w' => e = .returned (.bool (deepB s zs)) ∧ Below w.heap.size w w' := by
  have HS := Lib.hid h
  have hl : len ≤ 1048576 := by have := h.1; omega
  clear h
  by_cases ho : Ok s zs
  · obtain ⟨n, rfl⟩ : ∃ n : Nat, s = n := ⟨s.toNat, by have := ho.1; omega⟩
    have HO := Lib.hid ho
    have hn24 : n ≤ 24 := by have := ho.1; omega
    obtain ⟨V, hV⟩ : ∃ V, vecZ n zs = V := ⟨_, rfl⟩
    have HV := Lib.hid hV
    have hvl : V.length ≤ 12 := by rw [← hV, vec_len]; omega
    have HVI : Hid (AllInt V) := Lib.hid (by rw [← hV]; exact vec_int ho)
    clear ho hV
    go_enter Try.func52, Try.ntmps52
    go_wp2_with fail
    refine (ok_yes n a len cap zs _ (HS.out.below (bel1 w _)) hl HO.out).mono ?_
    rintro e w1 ⟨rfl, hb1⟩
    have HB := Lib.hid ((bel1 w (.cells #[.int .i64 n, .slice a len cap] 25)).trans (hb1.mono (by simp)))
    have HT := Lib.hid ((two_new w (.int .i64 n) (.slice a len cap) 25).keep hb1)
    obtain ⟨t1, t1a, t1b⟩ := HT.out
    clear hb1
    go_wp2_with fail
    refine (vec0_spec n a len cap zs _ (HS.out.below (HB.out.alloc HB.out.size _)) hl HO.out).mono ?_
    rintro e w2 hp
    rw [HV.out] at hp
    obtain ⟨b, c, rfl, hown, hb⟩ := hp
    obtain ⟨w1a, hw1a⟩ : ∃ x, x = w1.alloc (.cells #[] 3) := ⟨_, rfl⟩
    rw [← hw1a] at hown hb
    have hsz : w1a.heap.size = w1.heap.size + 1 := by rw [hw1a]; simp
    obtain ⟨lo, hlo⟩ : ∃ lo, w1a.heap.size = lo := ⟨_, rfl⟩
    obtain ⟨hi, hhi⟩ : ∃ hi, w2.heap.size = hi := ⟨_, rfl⟩
    rw [hlo] at hown
    have HOV := Lib.hid hown
    have hB12 : Below w1.heap.size w1 w2 := by
      have h1 : Below w1.heap.size w1 w1a := by rw [hw1a]; exact (Below.refl _ _).alloc (Nat.le_refl _) _
      exact h1.trans (hb.mono (by omega))
    have HLO := Lib.hid (show lo = w1.heap.size + 1 by omega)
    have HHI2 := Lib.hid hhi
    have hle : w1a.heap.size ≤ w2.heap.size := hb.size
    have HA : Hid (DeepAt V 0 lo hi w1 w2 w2 (.slice (some ⟨w1.heap.size, 0, none⟩) 0 0)) := Lib.hid ⟨some ⟨w1.heap.size, 0, none⟩, 0, rfl, by
      have h0 := World.ownsRow_made (base := w1.heap.size) (e := 3) (size := 1) w1 #[] 0 (Nat.le_refl _) (by unfold maxLen; omega) rfl
      rw [← hw1a] at h0
      simpa [ints] using own_below h0 hb, hB12, Same.refl _ _ _, fun k hk => by
        have : k = w1.heap.size := by simpa [Value.ownBlock] using hk.symm
        omega, by omega⟩
    have HB2 := Lib.hid (HB.out.trans (hB12.mono HB.out.size))
    clear hown hb hw1a hsz hlo hhi hB12 hle t1 t1a t1b
    go_wp2
    go_loopw [3, 13] (fun v i wr => ∃ k : Nat, k ≤ V.length ∧ i = .int .i64 k ∧ DeepAt V k lo hi w1 w2 wr v ∧ Hid (deepP V k)) (fun _ i _ => V.length - (intOf i).toNat)
    case atStart => exact ⟨0, by omega, rfl, HA.out, Lib.hid (fun j z hj => by omega)⟩
    case round =>
      clear HA
      obtain ⟨k, hk, rfl, ⟨av, cv, rfl, hown, hb, hsm, hou, hhi⟩, HP⟩ := hrel
      obtain ⟨L, hL⟩ : ∃ L, V.take k = L := ⟨_, rfl⟩
      rw [hL] at hown hou ⊢
      have HLV := Lib.hid hL
      have hll : L.length ≤ 12 := by rw [← hL]; simp; omega
      clear hL
      have HOW := Lib.hid hown
      have HX := Lib.hid hb
      have HSM := Lib.hid hsm
      have HOU := Lib.hid hou
      have HHI := Lib.hid hhi
      have HZ1 := Lib.hid (hb.size)
      clear hown hb hsm hou hhi
      have HIV : Hid (IntsAt wr b V.length V) := Lib.hid (intsAt_own (owns_same HOV.out (by rw [HHI2.out]; exact HSM.out)) HVI.out)
      by_cases hlt : k < V.length
      · obtain ⟨gb, ob, z, rfl, hgb, hs, hc, hz1, hz2⟩ := HIV.out.at hlt
        have HSZ := Lib.hid hs
        have hts : V.take (k + 1) = L ++ [z] := by rw [← HLV.out, List.take_add_one, hs]; rfl
        have HTS := Lib.hid hts
        have HSI : Hid (IntsAt wr av L.length L) := Lib.hid (intsAt_own HOW.out (fun y hy => HVI.out y (by rw [← HLV.out] at hy; exact List.mem_of_mem_take hy)))
        clear hs hts
        by_cases h0 : 0 < z
        · have h0b : decide (0 < z) = true := decide_eq_true h0
          by_cases hm2 : z ∈ L
          · have HH := Lib.hid (hasB_mem.2 hm2)
            have HE := Lib.hid (deepB_no (s := (n : Int)) (zs := zs) (fun q => by
              have h1 := q.2
              rw [HV.out] at h1
              exact h1 k z hlt HSZ.out h0 (by rw [HLV.out]; exact hm2)))
            clear hm2
            go_wp2_with fail
            refine (has_any av L.length cv L z wr HSI.out (by omega)).mono ?_
            rintro e w' ⟨rfl, rfl⟩
            rw [HH.out]
            go_wp2
            go_ret
            rw [HE.out]
            exact ⟨rfl, HB.out.trans (HX.out.mono HB.out.size)⟩
          · have HH := Lib.hid (hasB_no hm2)
            have HD := Lib.hid (deep_next HP.out HSZ.out (fun _ => by rw [HLV.out]; exact hm2))
            clear hm2
            go_wp2_with fail
            refine (has_any av L.length cv L z wr HSI.out (by omega)).mono ?_
            rintro e w' ⟨rfl, rfl⟩
            rw [HH.out]
            go_wp2_with (at_builtin; refine append_out lo hi rfl _ _ rfl w1.heap.size _ L z wr HOW.out (by omega) HZ1.out HOU.out HHI.out _ rfl rfl rfl ?_; intro a' c' w' hown' hb' hs' ho'; have HO2 := Lib.hid hown'; have HX2 := Lib.hid hb'; have HS2 := Lib.hid hs'; have HU2 := Lib.hid ho'; clear hown' hb' hs' ho')
            go_roundw
            case rel =>
              refine ⟨k + 1, by omega, by go_num, ⟨a', c', ?_, ?_, HX.out.trans HX2.out, HSM.out.trans HS2.out, ?_, Nat.le_trans HHI.out HX2.out.size⟩, HD⟩
              · rw [HTS.out]; simp
              · rw [HTS.out]; exact HO2.out
              · rw [HTS.out]; exact HU2.out
            case measure => simp [intOf]; omega
        · have h0b : decide (0 < z) = false := decide_eq_false h0
          have HD := Lib.hid (deep_next HP.out HSZ.out (fun q => absurd q h0))
          go_wp2_with (at_builtin; refine append_out lo hi rfl _ _ rfl w1.heap.size _ L z wr HOW.out (by omega) HZ1.out HOU.out HHI.out _ rfl rfl rfl ?_; intro a' c' w' hown' hb' hs' ho'; have HO2 := Lib.hid hown'; have HX2 := Lib.hid hb'; have HS2 := Lib.hid hs'; have HU2 := Lib.hid ho'; clear hown' hb' hs' ho')
          go_roundw
          case rel =>
            refine ⟨k + 1, by omega, by go_num, ⟨a', c', ?_, ?_, HX.out.trans HX2.out, HSM.out.trans HS2.out, ?_, Nat.le_trans HHI.out HX2.out.size⟩, HD⟩
            · rw [HTS.out]; simp
            · rw [HTS.out]; exact HO2.out
            · rw [HTS.out]; exact HU2.out
          case measure => simp [intOf]; omega
      · have e : k = V.length := by omega
        have HE := Lib.hid (deepB_yes (s := (n : Int)) (zs := zs) ⟨HO.out, by rw [HV.out]; unfold deepZ; rw [← e]; exact HP.out⟩)
        clear e
        go_wp2
        go_ret
        rw [HE.out]
        exact ⟨rfl, HB.out.trans (HX.out.mono HB.out.size)⟩
  · have HO := Lib.hid ho
    have HE := Lib.hid (deepB_no (s := s) (zs := zs) (fun x => ho x.1))
    clear ho
    rw [HE.out]
    go_enter Try.func52, Try.ntmps52
    go_wp2_with fail
    refine (ok_no s a len cap zs _ (HS.out.below (bel1 w _)) hl HO.out).mono ?_
    rintro e w1 ⟨rfl, hb1⟩
    have HB := Lib.hid ((bel1 w (.cells #[.int .i64 s, .slice a len cap] 25)).trans (hb1.mono (by simp)))
    clear hb1
    go_wp2
    go_ret
    exact ⟨rfl, HB.out⟩
end Go.Proofs.Ytcppmcacjjjjeaa.Rhy
