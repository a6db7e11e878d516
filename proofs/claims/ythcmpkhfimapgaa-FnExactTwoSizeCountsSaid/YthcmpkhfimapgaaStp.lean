/-
  Helpers of the claims beside this text: the model's steps of a rhythm.
-/
import Derived.Test.YthcmpkhfimapgaaVec
import Derived.Test.YthcmpkhfimapgaaMoves
import Derived.Deep.QuietTactic
import Derived.BigQuiet
import Derived.WalkLawsBesides
import Derived.Test.YthcmpkhfimapgaaOf
import Derived.Test.YthcmpkhfimapgaaOut
import Derived.Test.YthcmpkhfimapgaaApp
import Derived.Laws.OwnMore
import Derived.Maps.AppendAt
import Derived.Deep.DeepCutAuto
namespace Go.Proofs.Ythcmpkhfimapgaa.Rhy
open Go.RowKit
set_option linter.unusedVariables false

/-- The step from the beat at place i to the next one, around. -/
def stepAt (s : Int) (zs : List Int) (i : Nat) : Int := (zs[i + 1]?.getD (zs[0]?.getD 0 + s)) - zs[i]?.getD 0
def stepsP (s : Int) (zs : List Int) (k : Nat) : List Int := (List.range k).map (stepAt s zs)
def stepsZ (s : Int) (zs : List Int) : List Int := stepsP s zs zs.length
theorem stepsP_len (s : Int) (zs : List Int) (k : Nat) : (stepsP s zs k).length = k := by simp [stepsP]
theorem stepsP_snoc (s : Int) (zs : List Int) (k : Nat) : stepsP s zs (k + 1) = stepsP s zs k ++ [stepAt s zs k] := by simp [stepsP, List.range_succ]
theorem step_mid {s : Int} {zs : List Int} {k : Nat} {z z' : Int} (h : zs[k]? = some z) (h' : zs[k + 1]? = some z') : stepAt s zs k = z' - z := by simp [stepAt, h, h']
theorem step_last {s : Int} {zs : List Int} {k : Nat} {z z0 : Int} (h : zs[k]? = some z) (h' : zs.length = k + 1) (h0 : zs[0]? = some z0) : stepAt s zs k = z0 + s - z := by
  have : zs[k + 1]? = none := List.getElem?_eq_none (by omega)
  simp [stepAt, h, h0, this]
theorem step_bd {s : Int} {zs : List Int} (ho : Ok s zs) {k : Nat} (hk : k < zs.length) : 1 ≤ stepAt s zs k ∧ stepAt s zs k ≤ s := by
  have hz := List.getElem?_eq_getElem hk
  have h0 := List.getElem?_eq_getElem (show 0 < zs.length by omega)
  have b1 := ok_at ho hz
  have b0 := ok_at ho h0
  by_cases h1 : k + 1 < zs.length
  · have hz' := List.getElem?_eq_getElem h1
    have b2 := ok_at ho hz'
    have := ok_lt ho (k + 1) k hk h1 (by omega)
    rw [step_mid hz hz']
    omega
  · rw [step_last hz (by omega) h0]
    by_cases e : k = 0
    · subst e; omega
    · have := ok_lt ho k 0 (by omega) hk (by omega)
      omega
theorem stepsZ_bd {s : Int} {zs : List Int} (ho : Ok s zs) : ∀ x ∈ stepsZ s zs, 1 ≤ x ∧ x ≤ s := by
  intro x hx
  unfold stepsZ stepsP at hx
  rw [List.mem_map] at hx
  obtain ⟨k, hk, rfl⟩ := hx
  rw [List.mem_range] at hk
  exact step_bd ho hk
theorem stepsZ_int {s : Int} {zs : List Int} (ho : Ok s zs) : AllInt (stepsZ s zs) := by
  intro x hx
  have := stepsZ_bd ho x hx
  have := ho.1
  omega

/-- What both answer: no steps of a rhythm that is not valid. -/
noncomputable def stB (s : Int) (zs : List Int) : List Int := cZ (Ok s zs) (stepsZ s zs)
theorem stB_yes {s : Int} {zs : List Int} (h : Ok s zs) : stB s zs = stepsZ s zs := cZ_yes h
theorem stB_no {s : Int} {zs : List Int} (h : ¬ Ok s zs) : stB s zs = [] := cZ_no h
theorem stB_int (s : Int) (zs : List Int) : AllInt (stB s zs) := by
  by_cases h : Ok s zs
  · rw [stB_yes h]; exact stepsZ_int h
  · rw [stB_no h]; intro z hz; cases hz
theorem stB_len (s : Int) (zs : List Int) : (stB s zs).length ≤ 24 := by
  by_cases h : Ok s zs
  · rw [stB_yes h]; unfold stepsZ; rw [stepsP_len]; exact ok_len h
  · rw [stB_no h]; simp

set_option maxHeartbeats 1000000 in
theorem steps0_spec (s : Int) (a : Option Addr) (len cap : Nat) (zs : List Int) (w : World) (h : IntsAt w a len zs) (hm : len ≤ 1048576) (ho : Ok s zs) (h0 : 0 < len) :
    Calls Try.prog 116 #[rhy s a len cap] w (IPost (stepsZ s zs) w) := by
  have HS := Lib.hid h
  have HOK := Lib.hid ho
  obtain ⟨hs1, hs2⟩ := ho.1
  clear h ho
  obtain ⟨w1, hW⟩ : ∃ w1, w1 = w.alloc (.cells #[.int .i64 s, .slice a len cap] 26) := ⟨_, rfl⟩
  have HW := Lib.hid hW
  have B1 := Lib.hid (show Below w.heap.size w w1 by rw [hW]; exact bel1 w _)
  have T1 := Lib.hid (show Two w1 w.heap.size (.int .i64 s) (.slice a len cap) by rw [hW]; exact two_new w _ _ _)
  have HSZ := Lib.hid (show w1.heap.size = w.heap.size + 1 by rw [hW]; simp)
  clear hW
  go_enter Try.func116, Try.ntmps116
  go_wp2
  rw [← HW.out, ← HSZ.out]
  go_loopw [3, 11] (fun v i wr => ∃ k : Nat, k ≤ len ∧ i = .int .i64 k ∧ VecAt (stepsP s zs k) w1 wr v) (fun _ i _ => len - (intOf i).toNat)
  case atStart => exact ⟨0, by omega, rfl, vec_made w1⟩
  case round =>
    obtain ⟨k, hk, rfl, av, cv, rfl, hown, hnx, hsz⟩ := hrel
    have HO := Lib.hid hown
    have HX := Lib.hid hnx
    have HZ := Lib.hid hsz
    obtain ⟨x0, x1, x2⟩ := T1.out.keep hnx
    clear hown hnx hsz
    have HI : Hid (IntsAt wr a len zs) := Lib.hid (HS.out.below (B1.out.trans (HX.out.mono B1.out.size)))
    by_cases hlt : k < len
    · obtain ⟨b, off, z, rfl, hb, hs, hc, _, _⟩ := HI.out.at hlt
      obtain ⟨b', off', z0, he', _, hs0, hc0, _, _⟩ := HI.out.at h0
      obtain ⟨rfl, rfl⟩ : b = b' ∧ off = off' := by simpa using he'
      rw [Nat.add_zero] at hc0
      obtain ⟨q1, q2⟩ := ok_at HOK.out hs
      obtain ⟨r1, r2⟩ := ok_at HOK.out hs0
      have hw1 : IntKind.i64.wrap (z0 + s) = z0 + s := IntWalk.i64_in _ (by omega)
      by_cases h1 : k + 1 < len
      · obtain ⟨b', off', z', he2, _, hs', hc', _, _⟩ := HI.out.at h1
        obtain ⟨rfl, rfl⟩ : b = b' ∧ off = off' := by simpa using he2
        obtain ⟨p1, p2⟩ := ok_at HOK.out hs'
        have HN : Hid (stepsP s zs (k + 1) = stepsP s zs k ++ [z' - z]) := Lib.hid (by rw [stepsP_snoc, step_mid hs hs'])
        have hi : ((k : Int) + 1).toNat = k + 1 := by omega
        clear hs hs0 hs' he' he2
        go_wp2
        go_quiet (fail)
        go_wp2_with (at_builtin; refine append_int rfl _ _ rfl w1.heap.size _ (stepsP s zs k) _ _ (own_drewN HO.out _) (by rw [stepsP_len]; omega) HZ.out _ rfl rfl rfl ?_; intro a' c' w' hown' hb'; have HO2 := Lib.hid hown'; have HX2 := Lib.hid (((Below.refl w1.heap.size wr).trans (below_drewN (Below.refl w1.heap.size wr) _)).trans hb'); clear hown' hb')
        go_roundw
        case rel =>
          refine ⟨k + 1, by omega, by go_num, ?_⟩
          rw [HN.out]
          have := vec_snoc HX.out HZ.out HO2.out HX2.out
          simpa using this
        case measure => simp [intOf]; omega
      · have HN : Hid (stepsP s zs (k + 1) = stepsP s zs k ++ [z0 + s - z]) := Lib.hid (by rw [stepsP_snoc, step_last hs (by have := HS.out.len; omega) hs0])
        have hd : decide ((k : Int) + 1 < (len : Int)) = false := by simp; omega
        have hd2 : decide (k + 1 < len) = false := by simp; omega
        clear hs hs0 he' h1
        go_wp2
        go_quiet (fail)
        go_wp2_with (at_builtin; refine append_int rfl _ _ rfl w1.heap.size _ (stepsP s zs k) _ _ (own_drewN HO.out _) (by rw [stepsP_len]; omega) HZ.out _ rfl rfl rfl ?_; intro a' c' w' hown' hb'; have HO2 := Lib.hid hown'; have HX2 := Lib.hid (((Below.refl w1.heap.size wr).trans (below_drewN (Below.refl w1.heap.size wr) _)).trans hb'); clear hown' hb')
        go_roundw
        case rel =>
          refine ⟨k + 1, by omega, by go_num, ?_⟩
          rw [HN.out]
          have := vec_snoc HX.out HZ.out HO2.out HX2.out
          simpa using this
        case measure => simp [intOf]; omega
    · have e : k = len := by omega
      have HE : Hid (stepsZ s zs = stepsP s zs k) := Lib.hid (by unfold stepsZ; rw [HS.out.len, e])
      clear e
      go_wp2
      go_ret
      rw [HE.out]
      exact ⟨av, cv, rfl, own_base HO.out B1.out.size, B1.out.trans (HX.out.mono B1.out.size)⟩

/-- Two cases that the tests of a rhythm without steps part. -/
theorem stB_nil {s : Int} {zs : List Int} (h : zs.length = 0) : stB s zs = [] := by
  by_cases ho : Ok s zs
  · rw [stB_yes ho]; unfold stepsZ stepsP; rw [h]; rfl
  · exact stB_no ho

set_option maxHeartbeats 400000 in
theorem steps_spec (s : Int) (a : Option Addr) (len cap : Nat) (zs : List Int) (w : World) (h : IntsAt w a len zs) (hm : zs.length ≤ 1048576) :
    Calls Try.prog 92 #[rhy s a len cap] w (IPost (stB s zs) w) := by
  have HS := Lib.hid h
  have hl : len ≤ 1048576 := by have := h.1; omega
  clear h
  by_cases ho : Ok s zs
  · have HO := Lib.hid ho
    by_cases h0 : 0 < len
    · have hd : ((len : Int) == 0) = false := by simp; omega
      have HE := Lib.hid (stB_yes ho)
      clear ho
      go_enter Try.func92, Try.ntmps92
      go_wp2_with fail
      refine (ok_yes s a len cap zs _ (HS.out.below (bel1 w _)) hl HO.out).mono ?_
      rintro e w1 ⟨rfl, hb⟩
      have HB := Lib.hid ((bel1 w (.cells #[.int .i64 s, .slice a len cap] 26)).trans (hb.mono (by simp)))
      have T1 := Lib.hid ((two_new w (.int .i64 s) (.slice a len cap) 26).keep hb)
      obtain ⟨t1, t1a, t1b⟩ := T1.out
      clear hb
      go_wp2_with fail
      refine (steps0_spec s a len cap zs w1 (HS.out.below HB.out) hl HO.out h0).mono ?_
      rintro e w2 ⟨b, c, rfl, hown, hb2⟩
      have HO2 := Lib.hid hown
      have HB2 := Lib.hid hb2
      clear hown hb2
      go_wp2
      go_ret
      rw [HE.out]
      exact ⟨b, c, rfl, own_base HO2.out HB.out.size, HB.out.trans (HB2.out.mono HB.out.size)⟩
    · have e : len = 0 := by omega
      have HE := Lib.hid (stB_nil (s := s) (show zs.length = 0 by rw [HS.out.len, e]))
      subst e
      clear ho
      go_enter Try.func92, Try.ntmps92
      go_wp2_with fail
      refine (ok_yes s a 0 cap zs _ (HS.out.below (bel1 w _)) hl HO.out).mono ?_
      rintro e w1 ⟨rfl, hb⟩
      have HB := Lib.hid ((bel1 w (.cells #[.int .i64 s, .slice a 0 cap] 26)).trans (hb.mono (by simp)))
      have T1 := Lib.hid ((two_new w (.int .i64 s) (.slice a 0 cap) 26).keep hb)
      obtain ⟨t1, t1a, t1b⟩ := T1.out
      clear hb
      go_wp2
      go_ret
      rw [HE.out]
      exact ⟨none, 0, rfl, World.ownsRow_nil _ _ _ _, HB.out⟩
  · have HO := Lib.hid ho
    have HE := Lib.hid (stB_no ho)
    clear ho
    go_enter Try.func92, Try.ntmps92
    go_wp2_with fail
    refine (ok_no s a len cap zs _ (HS.out.below (bel1 w _)) hl HO.out).mono ?_
    rintro e w1 ⟨rfl, hb⟩
    have HB := Lib.hid ((bel1 w (.cells #[.int .i64 s, .slice a len cap] 26)).trans (hb.mono (by simp)))
    clear hb
    go_wp2
    go_ret
    rw [HE.out]
    exact ⟨none, 0, rfl, World.ownsRow_nil _ _ _ _, HB.out⟩
end Go.Proofs.Ythcmpkhfimapgaa.Rhy

/-
  Helpers of the claims beside this text: the model's numbers of steps: the longest, the shortest, spans, rests.
-/
namespace Go.Proofs.Ythcmpkhfimapgaa.Rhy
open Go.RowKit
set_option linter.unusedVariables false

theorem stB_bd (s : Int) (zs : List Int) : ∀ x ∈ stB s zs, 1 ≤ x ∧ x ≤ 24 := by
  intro x hx
  by_cases h : Ok s zs
  · rw [stB_yes h] at hx
    have := stepsZ_bd h x hx
    have := h.1
    omega
  · rw [stB_no h] at hx; cases hx

theorem max_ite (a z : Int) : (if a < z then z else a) = max a z := by split <;> omega
def maxL (l : List Int) : Int := l.foldl max 0
theorem maxL_snoc {l : List Int} {k : Nat} {z : Int} (h : l[k]? = some z) : maxL (l.take (k + 1)) = max (maxL (l.take k)) z := by
  unfold maxL
  rw [List.take_add_one, h]
  simp
theorem maxL_bd {l : List Int} {B : Int} (hB : 0 ≤ B) (h : ∀ x ∈ l, x ≤ B) : 0 ≤ maxL l ∧ maxL l ≤ B := by
  have key : ∀ (l : List Int) (m : Int), 0 ≤ m → m ≤ B → (∀ x ∈ l, x ≤ B) → 0 ≤ l.foldl max m ∧ l.foldl max m ≤ B := by
    intro l
    induction l with
    | nil => intro m h0 h1 _; exact ⟨h0, h1⟩
    | cons x l ih =>
      intro m h0 h1 hx
      have := hx x (by simp)
      exact ih (max m x) (by omega) (by omega) (fun y hy => hx y (by simp [hy]))
  exact key l 0 (by omega) hB h

def minP (l : List Int) : Nat → Int
  | 0 => 0
  | k + 1 => if k = 0 ∨ l.getD k 0 < minP l k then l.getD k 0 else minP l k
def minL (l : List Int) : Int := minP l l.length
theorem minP_first {l : List Int} {z : Int} (h : l[0]? = some z) : minP l 1 = z := by simp [minP, List.getD, h]
theorem minP_less {l : List Int} {k : Nat} {z : Int} (h : l[k]? = some z) (hz : z < minP l k) : minP l (k + 1) = z := by simp [minP, List.getD, h, hz]
theorem minP_else {l : List Int} {k : Nat} {z : Int} (h : l[k]? = some z) (h0 : k ≠ 0) (hz : ¬ z < minP l k) : minP l (k + 1) = minP l k := by simp [minP, List.getD, h, hz, h0]

def restsL (l : List Int) : Int := (l.filter (fun x => decide (1 < x))).length
theorem restsL_yes {l : List Int} {k : Nat} {z : Int} (h : l[k]? = some z) (hz : 1 < z) : restsL (l.take (k + 1)) = restsL (l.take k) + 1 := by
  unfold restsL
  rw [List.take_add_one, h]
  simp [List.filter_append, hz]
theorem restsL_no {l : List Int} {k : Nat} {z : Int} (h : l[k]? = some z) (hz : ¬ 1 < z) : restsL (l.take (k + 1)) = restsL (l.take k) := by
  unfold restsL
  rw [List.take_add_one, h]
  simp [List.filter_append, hz]
theorem restsL_bd (l : List Int) : 0 ≤ restsL l ∧ restsL l ≤ l.length := by
  unfold restsL
  have := List.length_filter_le (fun x : Int => decide (1 < x)) l
  omega

def spanL (l : List Int) (i : Nat) : Nat → Int
  | 0 => 0
  | k + 1 => spanL l i k + l.getD ((i + k) % l.length) 0
theorem spanL_bd {l : List Int} (h : ∀ x ∈ l, 1 ≤ x ∧ x ≤ 24) (i k : Nat) : 0 ≤ spanL l i k ∧ spanL l i k ≤ 24 * k := by
  induction k with
  | zero => simp [spanL]
  | succ k ih =>
    have hx : 0 ≤ l.getD ((i + k) % l.length) 0 ∧ l.getD ((i + k) % l.length) 0 ≤ 24 := by
      rw [List.getD_eq_getElem?_getD]
      cases hq : l[(i + k) % l.length]? with
      | none => simp
      | some x => have := h x (List.mem_of_getElem? hq); simp; omega
    simp only [spanL]
    omega
theorem spanL_snoc {l : List Int} {i k : Nat} {z : Int} (h : l[(i + k) % l.length]? = some z) : spanL l i (k + 1) = spanL l i k + z := by
  simp [spanL, List.getD, h]



open Classical in
noncomputable def restsB (s : Int) (zs : List Int) : Int := if Ok s zs then restsL (stB s zs) else -1
theorem restsB_yes {s : Int} {zs : List Int} (h : Ok s zs) : restsB s zs = restsL (stB s zs) := by simp [restsB, h]
theorem restsB_no {s : Int} {zs : List Int} (h : ¬ Ok s zs) : restsB s zs = -1 := by simp [restsB, h]


set_option maxHeartbeats 400000 in
theorem span0_spec (a : Option Addr) (n cap : Nat) (l : List Int) (i k : Nat) (w : World) (h : IntsAt w a n l) (hb : ∀ x ∈ l, 1 ≤ x ∧ x ≤ 24) (hn : n ≤ 24) (hi : i < n) (hk : k ≤ 1000) :
    Calls Try.prog 93 #[.slice a n cap, .int .i64 i, .int .i64 k] w fun e w' => e = .returned (.int .i64 (spanL l i k)) ∧ w = w' := by
  have HS := Lib.hid h
  have HBD := Lib.hid hb
  have hnz : ((n : Int) == 0) = false := by simp; omega
  clear h hb
  go_enter Try.func93, Try.ntmps93
  go_wp2
  go_loop [7, 8] (fun m x => ∃ q : Nat, q ≤ k ∧ x = .int .i64 q ∧ m = .int .i64 (spanL l i q)) (fun _ x => k - (intOf x).toNat)
  case atStart => exact ⟨0, by omega, rfl, rfl⟩
  case round =>
    obtain ⟨q, hq, rfl, rfl⟩ := hrel
    have hsb := spanL_bd HBD.out i q
    obtain ⟨hsb1, hsb2⟩ := hsb
    by_cases hlt : q < k
    · obtain ⟨j, hj⟩ : ∃ j, j = (i + q) % n := ⟨_, rfl⟩
      have hjn : j < n := by rw [hj]; exact Nat.mod_lt _ (by omega)
      have hji : ((i : Int) + q) % n = j := by rw [hj]; simp
      have hji2 : ((i : Int) + q).tmod n = j := by rw [Int.tmod_eq_emod_of_nonneg (by omega), hji]
      obtain ⟨b, off, z, rfl, hg, hs, hc, hz1, hz2⟩ := HS.out.at hjn
      have HN : Hid (spanL l i (q + 1) = spanL l i q + z) := Lib.hid (spanL_snoc (by rw [HS.out.len, ← hj]; exact hs))
      have hzb := HBD.out z (List.mem_of_getElem? hs)
      obtain ⟨hzb1, hzb2⟩ := hzb
      clear hs hj
      go_wp2
      go_round
      case rel => exact ⟨q + 1, by omega, by go_num, by rw [HN.out]⟩
      case measure => simp [intOf]; omega
    · have e : q = k := by omega
      subst e
      go_wp2
      go_ret
      exact ⟨rfl, rfl⟩

/-- What both answer. -/
noncomputable def spanB (s : Int) (zs : List Int) (i k : Int) : Int := @ite _ ((0 ≤ i ∧ i < (stB s zs).length) ∧ 0 ≤ k ∧ k ≤ (stB s zs).length) (Classical.propDecidable _) (spanL (stB s zs) i.toNat k.toNat) 0


end Go.Proofs.Ythcmpkhfimapgaa.Rhy

/-
  Helpers of the claims beside this text: the model's TurnSteps.
-/
namespace Go.Proofs.Ythcmpkhfimapgaa.Rhy
open Go.RowKit
set_option linter.unusedVariables false

theorem rev_snoc {l : List Int} {k j : Nat} {z : Int} (h : k + (j + 1) = l.length) (hs : l[j]? = some z) : l.reverse.take (k + 1) = l.reverse.take k ++ [z] := by
  have : l.reverse[k]? = some z := by
    rw [List.getElem?_reverse (by omega), show l.length - 1 - k = j by omega, hs]
  rw [List.take_add_one, this]
  rfl


/-- The beats from p0 on by the steps m, around. -/
def turnL (s p0 : Int) (m : List Int) (k : Nat) : List Int := (List.range k).map fun j => remB (p0 + (m.take j).sum) s
theorem turnL_len (s p0 : Int) (m : List Int) (k : Nat) : (turnL s p0 m k).length = k := by simp [turnL]
theorem turnL_snoc (s p0 : Int) (m : List Int) (k : Nat) : turnL s p0 m (k + 1) = turnL s p0 m k ++ [remB (p0 + (m.take k).sum) s] := by simp [turnL, List.range_succ]
theorem turnL_int {s p0 : Int} {m : List Int} {k : Nat} (h1 : 1 ≤ s) (h2 : s ≤ 1000) : AllInt (turnL s p0 m k) := by
  intro z hz
  unfold turnL at hz
  rw [List.mem_map] at hz
  obtain ⟨p, _, rfl⟩ := hz
  exact remB_int h1 h2
theorem sum_snoc {m : List Int} {k : Nat} {z : Int} (h : m[k]? = some z) : (m.take (k + 1)).sum = (m.take k).sum + z := by
  rw [List.take_add_one, h]
  simp
theorem sum_bd {m : List Int} {B : Int} (h : ∀ x ∈ m, 0 ≤ x ∧ x ≤ B) (k : Nat) (hk : k ≤ m.length) : 0 ≤ (m.take k).sum ∧ (m.take k).sum ≤ B * k := by
  induction k with
  | zero => simp
  | succ k ih =>
    have := ih (by omega)
    have hq := List.getElem?_eq_getElem (show k < m.length by omega)
    have hx := h _ (List.mem_of_getElem? hq)
    rw [sum_snoc hq]
    have : B * ((k + 1 : Nat) : Int) = B * k + B := by rw [Int.natCast_succ, Int.mul_add, Int.mul_one]
    omega

noncomputable def turnZ (s : Int) (zs : List Int) : List Int := turnL s (zs[0]?.getD 0) (stB s zs).reverse (stB s zs).length
def TurnC (s : Int) (zs : List Int) : Prop := Ok s zs ∧ 0 < zs.length


end Go.Proofs.Ythcmpkhfimapgaa.Rhy

/-
  Helpers of the claims beside this text: the model's FromSteps.
-/
namespace Go.Proofs.Ythcmpkhfimapgaa.Rhy
open Go.RowKit
set_option linter.unusedVariables false

/-- The beats from p0 on by the steps m. -/
def fromL (p0 : Int) (m : List Int) (k : Nat) : List Int := (List.range k).map fun j => p0 + (m.take j).sum
theorem fromL_len (p0 : Int) (m : List Int) (k : Nat) : (fromL p0 m k).length = k := by simp [fromL]
theorem fromL_snoc (p0 : Int) (m : List Int) (k : Nat) : fromL p0 m (k + 1) = fromL p0 m k ++ [p0 + (m.take k).sum] := by simp [fromL, List.range_succ]
theorem sum_mono {m : List Int} (h : ∀ x ∈ m, 0 ≤ x) (k : Nat) : (m.take k).sum ≤ m.sum := by
  have e : m.sum = (m.take k).sum + (m.drop k).sum := by rw [← List.sum_append, List.take_append_drop]
  have : ∀ l : List Int, (∀ x ∈ l, 0 ≤ x) → 0 ≤ l.sum := by
    intro l
    induction l with
    | nil => simp
    | cons x l ih => intro hl; have h1 := hl x (by simp); have h2 := ih (fun y hy => hl y (by simp [hy])); simp; omega
  have := this (m.drop k) (fun x hx => h x (List.mem_of_mem_drop hx))
  omega
theorem sum_ge {m : List Int} (h : ∀ x ∈ m, 1 ≤ x) : (m.length : Int) ≤ m.sum := by
  induction m with
  | nil => simp
  | cons x l ih => have h1 := h x (by simp); have h2 := ih (fun y hy => h y (by simp [hy])); simp; omega

def FromC (zs : List Int) (f : Int) : Prop := 0 < zs.length ∧ (∀ x ∈ zs, 1 ≤ x ∧ x ≤ 24) ∧ zs.sum ≤ 24 ∧ 0 ≤ f ∧ f < zs[zs.length - 1]?.getD 0
def FromAt (g k : Nat) (f n : Int) (zs : List Int) (w wr : World) : Prop :=
  ∃ av cv, Box wr g (.int .i64 0) (.slice none 0 0) 26 ∧ Box wr (g + 1) (.int .i64 n) (.slice av (fromL f zs k).length cv) 26 ∧
    wr.ownsRow (g + 2) 3 1 (.slice av (fromL f zs k).length cv) (fromL f zs k).length (ints (fromL f zs k)) ∧ Below g w wr ∧ g + 2 ≤ wr.heap.size
def FromPre (zs : List Int) (k : Nat) : Prop := (∀ x ∈ zs.take k, 1 ≤ x ∧ x ≤ 24) ∧ (zs.take k).sum ≤ 48
theorem fromPre_next {zs : List Int} {k : Nat} {z : Int} (h : FromPre zs k) (hs : zs[k]? = some z) (hz : 1 ≤ z ∧ z ≤ 24) (hn : (zs.take k).sum ≤ 24) : FromPre zs (k + 1) := by
  refine ⟨?_, by rw [sum_snoc hs]; omega⟩
  intro x hx
  rw [List.take_add_one, hs] at hx
  rcases List.mem_append.mp hx with q | q
  · exact h.1 x q
  · have : x = z := by simpa using q
    rw [this]; exact hz
theorem fromPre_ge {zs : List Int} {k : Nat} (h : FromPre zs k) : 0 ≤ (zs.take k).sum := by
  have := sum_ge (m := zs.take k) (fun x hx => (h.1 x hx).1)
  omega


end Go.Proofs.Ythcmpkhfimapgaa.Rhy

/-
  Helpers of the claims beside this text: an append of a whole slice of integers.
-/
namespace Go.Proofs.Ythcmpkhfimapgaa.Rhy
open Go.RowKit
set_option linter.unusedVariables false

/-- An append of no element: the slice is as it was. -/
theorem run_app_nil (ty : TypeId) (B : Nat) (v : Value) (n : Nat) (xs : List Value) (w : World) (hown : w.ownsRow B 3 1 v n xs) (c : Nat) :
    (Builtin.append_ #[24, 24] ty #[v, .slice none 0 c]).run Try.prog w = .ok v w := by
  obtain ⟨i0, hi, hz0, hz1, hz2⟩ := info_parts infoInt
  rcases hown.2 with ⟨rfl, rfl⟩ | ⟨g, cap, cur, rfl, _, _, hnc, _⟩
  · simp [Builtin.append_, run_underlying Try.underlying24, sizeOf, typeInfo, hi, Builtin.lenOf, Builtin.firstCells]
  · simp [Builtin.append_, run_underlying Try.underlying24, sizeOf, typeInfo, hi, Builtin.lenOf, Builtin.firstCells, hnc, storeCells]

set_option maxRecDepth 100000 in
/-- 'out = append(out, ys...)' at a slice of integers of the call's own. -/
theorem wp_app {o : Oper} {a : Act} {K : Act → World → Prop} {Q : Exit → Act → World → Prop} (x y : Operand)
    (ho : o.op = .call { callee := .builtin .append, args := #[x, y], argTypes := #[24, 24] })
    (B : Nat) (av : Option Addr) (cv : Nat) (l : List Int) (A : Option Addr) (m c : Nat) (ys : List Int) (w : World) (hown : w.ownsRow B 3 1 (.slice av l.length cv) l.length (ints l)) (hr : IntsAt w A m ys)
    (hl : l.length ≤ 1048577) (hm : m ≤ 1048577) (hB : B ≤ w.heap.size)
    (hs : a.eval x = .slice av l.length cv) (hx : a.eval y = .slice A m c)
    (h : ∀ a' c' w', w'.ownsRow B 3 1 (.slice a' (l ++ ys).length c') (l ++ ys).length (ints (l ++ ys)) → Below B w w' → K (a.put o.dst (.slice a' (l ++ ys).length c')) w') :
    o.wp Try.prog a w K Q := by
  obtain ⟨i0, hi, hz0, hz1, hz2⟩ := info_parts infoInt
  have hyl := hr.1
  cases A with
  | none =>
    have hm0 : m = 0 := by
      rcases Nat.eq_zero_or_pos m with h0 | h0
      · exact h0
      · obtain ⟨b, off, h, _⟩ := hr.2.2 h0
        cases h
    subst hm0
    have hy : ys = [] := List.eq_nil_of_length_eq_zero hyl
    subst hy
    have hrun := run_app_nil o.type B _ _ _ w hown c
    unfold Oper.wp execOp
    simp only [ho, resolve, invoke, builtin, Sem.run_bind, Sem.run_pure, Result.andThen_ok, List.map_toArray, List.map_cons, List.map_nil, hs, hx, hrun]
    have h1 := h av cv w (by simpa using hown) (Below.refl _ _)
    have h2 : K (a.put o.dst (.slice av l.length cv)) w := by simpa using h1
    exact h2
  | some ad =>
    have hcells : ∀ j u, (ints ys)[j]? = some u → w.cell? (ad.add j) = some u := by
      intro j u hu
      rcases Nat.eq_zero_or_pos m with h0 | h0
      · subst h0
        have hy : ys = [] := List.eq_nil_of_length_eq_zero hyl
        subst hy
        simp [ints] at hu
      · obtain ⟨b, off, h, _, hc⟩ := hr.2.2 h0
        injection h with h
        subst h
        unfold ints at hu
        rw [List.getElem?_map, Option.map_eq_some_iff] at hu
        obtain ⟨z, hz, rfl⟩ := hu
        rw [Go.WideShapes.add_plain]
        exact hc j z hz
    refine wp_append_own w x y 24 ho B 3 i0 (.int .i64 0) 1 8 Try.underlying24 hi hz0 hz1 hz2 rfl (by decide) _ l.length (ints l) hs hown ad m c (ints ys) hx (by simp [ints, hyl]) hcells ?_ ?_ ?_ hB ?_
    · intro u hu
      unfold ints at hu
      rw [List.mem_map] at hu
      obtain ⟨z, _, rfl⟩ := hu
      rfl
    · unfold maxLen; omega
    · omega
    · intro v' w' ho' hg _
      have ho2 : w'.ownsRow B 3 1 v' (l ++ ys).length (ints (l ++ ys)) := by
        rw [List.length_append, hyl]
        simpa [ints] using ho'
      obtain ⟨_, a', c', rfl, _⟩ := own_shape ho2
      exact h a' c' w' ho2 ((Below.refl B w).grown hg hB fun k hk => (hown.lt k hk).1)

theorem wpList_app {ops : Array Oper} {rest : List Oper} {o : Oper} {a : Act} {Q : Exit → Act → World → Prop} (hgd : o.guard = none) (x y : Operand)
    (ho : o.op = .call { callee := .builtin .append, args := #[x, y], argTypes := #[24, 24] })
    (B : Nat) (av : Option Addr) (cv : Nat) (l : List Int) (A : Option Addr) (m c : Nat) (ys : List Int) (w : World) (hown : w.ownsRow B 3 1 (.slice av l.length cv) l.length (ints l)) (hr : IntsAt w A m ys)
    (hl : l.length ≤ 1048577) (hm : m ≤ 1048577) (hB : B ≤ w.heap.size)
    (hs : a.eval x = .slice av l.length cv) (hx : a.eval y = .slice A m c)
    (h : ∀ a' c' w', w'.ownsRow B 3 1 (.slice a' (l ++ ys).length c') (l ++ ys).length (ints (l ++ ys)) → Below B w w' → wpList Try.prog ops Q rest (a.put o.dst (.slice a' (l ++ ys).length c')) w') :
    wpList Try.prog ops Q (o :: rest) a w :=
  wpList_plain hgd fun _ hK => wp_app x y ho B av cv l A m c ys w hown hr hl hm hB hs hx fun a' c' w' h1 h2 => hK _ _ (h a' c' w' h1 h2)

/-- The same with the length by another name. -/
theorem wpList_app_n {ops : Array Oper} {rest : List Oper} {o : Oper} {a : Act} {Q : Exit → Act → World → Prop} (hgd : o.guard = none) (x y : Operand)
    (ho : o.op = .call { callee := .builtin .append, args := #[x, y], argTypes := #[24, 24] })
    (B : Nat) (av : Option Addr) (cv : Nat) (l : List Int) (n : Nat) (hn : l.length = n) (A : Option Addr) (m c : Nat) (ys : List Int) (w : World) (hown : w.ownsRow B 3 1 (.slice av l.length cv) l.length (ints l)) (hr : IntsAt w A m ys)
    (hl : l.length ≤ 1048577) (hm : m ≤ 1048577) (hB : B ≤ w.heap.size)
    (hs : a.eval x = .slice av n cv) (hx : a.eval y = .slice A m c)
    (h : ∀ a' c' w', w'.ownsRow B 3 1 (.slice a' (l ++ ys).length c') (l ++ ys).length (ints (l ++ ys)) → Below B w w' → wpList Try.prog ops Q rest (a.put o.dst (.slice a' (l ++ ys).length c')) w') :
    wpList Try.prog ops Q (o :: rest) a w := by
  subst hn
  exact wpList_app hgd x y ho B av cv l A m c ys w hown hr hl hm hB hs hx h
end Go.Proofs.Ythcmpkhfimapgaa.Rhy

/-
  Helpers of the claims beside this text: the model's sizes of steps and of spans.
-/
namespace Go.Proofs.Ythcmpkhfimapgaa.Rhy
open Go.RowKit
set_option linter.unusedVariables false

theorem siz_old {n : Nat} {l : List Int} {x : Int} (h : x ∈ ofZ n l) : ofZ n (l ++ [x]) = ofZ n l := by
  refine ofZ_congr fun y => ?_
  have := (ofZ_mem.mp h).2
  simp only [List.mem_append, List.mem_singleton]
  constructor
  · rintro (q | rfl)
    · exact q
    · exact this
  · exact Or.inl
theorem siz_new {n : Nat} {l : List Int} {x : Int} {k : Nat} (hlo : ∀ j, j < k → ∀ y, (ofZ n l)[j]? = some y → y < x) (hhi : ∀ y, (ofZ n l)[k]? = some y → x < y) (hx : 0 ≤ x ∧ x < n) :
    ofZ n (l ++ [x]) = (ofZ n l).take k ++ [x] ++ (ofZ n l).drop k := by
  have hs := ofZ_sorted n l
  have ha : ∀ y ∈ (ofZ n l).take k, y < x := by
    intro y hy
    obtain ⟨j, hj⟩ := List.mem_iff_getElem?.mp hy
    rw [List.getElem?_take] at hj
    split at hj
    · exact hlo j (by assumption) y hj
    · cases hj
  have hb : ∀ y ∈ (ofZ n l).drop k, x < y := by
    intro y hy
    cases hq : (ofZ n l)[k]? with
    | none => rw [List.drop_eq_nil_of_le (by simpa using hq)] at hy; cases hy
    | some z =>
      have hz := hhi z hq
      have hd : (ofZ n l).drop k = z :: (ofZ n l).drop (k + 1) := by
        obtain ⟨hk, he⟩ := List.getElem?_eq_some_iff.mp hq
        rw [List.drop_eq_getElem_cons hk, he]
      have hsd : ((ofZ n l).drop k).Pairwise (· < ·) := hs.sublist (List.drop_sublist _ _)
      rw [hd] at hy hsd
      rcases List.mem_cons.mp hy with rfl | q
      · exact hz
      · have := (List.pairwise_cons.mp hsd).1 y q
        omega
  refine lt_uniq (ofZ_sorted n _) ?_ fun y => ?_
  · rw [List.append_assoc, List.pairwise_append]
    refine ⟨hs.sublist (List.take_sublist _ _), ?_, ?_⟩
    · rw [List.singleton_append, List.pairwise_cons]
      exact ⟨hb, hs.sublist (List.drop_sublist _ _)⟩
    · intro y hy z hz
      have := ha y hy
      rcases List.mem_append.mp hz with q | q
      · have : z = x := by simpa using q
        omega
      · have := hb z q
        omega
  · have hm : y ∈ ofZ n l ↔ y ∈ (ofZ n l).take k ∨ y ∈ (ofZ n l).drop k := by
      rw [← List.mem_append, List.take_append_drop]
    rw [ofZ_mem]
    simp only [List.mem_append, List.mem_singleton]
    rw [ofZ_mem] at hm
    constructor
    · rintro ⟨h1, h2 | rfl⟩
      · rcases hm.mp ⟨h1, h2⟩ with q | q
        · exact .inl (.inl q)
        · exact .inr q
      · exact .inl (.inr rfl)
    · rintro ((q | rfl) | q)
      · have := hm.mpr (.inl q); exact ⟨this.1, .inl this.2⟩
      · exact ⟨hx, .inr rfl⟩
      · have := hm.mpr (.inr q); exact ⟨this.1, .inl this.2⟩
theorem IntsAt.take {w : World} {a : Option Addr} {len : Nat} {zs : List Int} (h : IntsAt w a len zs) {k : Nat} (hk : k ≤ len) : IntsAt w a k (zs.take k) := by
  refine ⟨by rw [List.length_take, h.1]; omega, fun z hz => h.2.1 z (List.mem_of_mem_take hz), fun hp => ?_⟩
  obtain ⟨b, off, e, hlt, hc⟩ := h.2.2 (by omega)
  refine ⟨b, off, e, hlt, fun j z hj => hc j z ?_⟩
  rw [List.getElem?_take] at hj
  split at hj
  · exact hj
  · cases hj
theorem IntsAt.drop {w : World} {b off : Nat} {len : Nat} {zs : List Int} (h : IntsAt w (some ⟨b, off, none⟩) len zs) {k : Nat} (hk : k ≤ len) : IntsAt w (some ⟨b, off + k, none⟩) (len - k) (zs.drop k) := by
  refine ⟨by rw [List.length_drop, h.1], fun z hz => h.2.1 z (List.mem_of_mem_drop hz), fun hp => ?_⟩
  obtain ⟨b', off', e, hlt, hc⟩ := h.2.2 (by omega)
  obtain ⟨rfl, rfl⟩ : b = b' ∧ off = off' := by simpa using e
  refine ⟨b, off + k, rfl, hlt, fun j z hj => ?_⟩
  rw [Nat.add_assoc]
  exact hc (k + j) z (by rw [← hj, List.getElem?_drop])

set_option maxHeartbeats 1000000 in
theorem sizes0_spec (n : Nat) (a : Option Addr) (len cap : Nat) (l : List Int) (w : World) (h : IntsAt w a len l) (hm : len ≤ 1000) (hn : n ≤ 1000) (hr : ∀ x ∈ l, 0 ≤ x ∧ x < n) :
    Calls Try.prog 94 #[.slice a len cap] w (IPost (ofZ n l) w) := by
  have HS := Lib.hid h
  have HR := Lib.hid hr
  clear h hr
  go_enter Try.func94, Try.ntmps94
  go_wp2
  go_loopw [3, 11] (fun v i wr => ∃ k : Nat, k ≤ len ∧ i = .int .i64 k ∧ VecAt (ofZ n (l.take k)) w wr v) (fun _ i _ => len - (intOf i).toNat)
  case atStart => exact ⟨0, by omega, rfl, by rw [show ofZ n (l.take 0) = [] by simp [ofZ]]; exact vec_made w⟩
  case round =>
    obtain ⟨k, hk, rfl, av, cv, rfl, hown, hnx, hsz⟩ := hrel
    have HI : Hid (IntsAt wr a len l) := Lib.hid (HS.out.below hnx)
    by_cases hlt : k < len
    · obtain ⟨b, off, x, rfl, hb, hs, hc, hx1, hx2⟩ := HI.out.at hlt
      have hxr := HR.out x (List.mem_of_getElem? hs)
      have HT : Hid (l.take (k + 1) = l.take k ++ [x]) := Lib.hid (by rw [List.take_add_one, hs]; rfl)
      obtain ⟨o, ho⟩ : ∃ o, o = ofZ n (l.take k) := ⟨_, rfl⟩
      have HOD := Lib.hid ho
      have hol : o.length ≤ 1000 := by rw [ho]; have := ofZ_len n (l.take k); omega
      have hoi : AllInt o := by rw [ho]; exact ofZ_int hn
      rw [← ho] at hown ⊢
      have HO := Lib.hid hown
      have HX := Lib.hid hnx
      have HZ := Lib.hid hsz
      have HOI : Hid (IntsAt wr av o.length o) := Lib.hid (intsAt_own hown hoi)
      have hcv := own_cap hown
      clear hown hnx hsz ho hoi hs
      go_wp2
      go_loop [6] (fun i => ∃ q : Nat, q ≤ o.length ∧ i = .int .i64 q ∧ Hid (∀ j, j < q → ∀ y, o[j]? = some y → y < x)) (fun i => o.length - (intOf i).toNat)
      case atStart => exact ⟨0, by omega, rfl, Lib.hid (fun j hj => by omega)⟩
      case round =>
        obtain ⟨q, hq, rfl, HLO⟩ := hrel
        by_cases hlq : q < o.length
        · obtain ⟨b2, off2, y, rfl, hb2, hs2, hc2, hy1, hy2⟩ := HOI.out.at hlq
          by_cases hyx : y < x
          · have HLO2 : Hid (∀ j, j < q + 1 → ∀ y, o[j]? = some y → y < x) := Lib.hid (fun j hj y' hy' => by
              by_cases e : j = q
              · rw [e, hs2] at hy'; cases hy'; exact hyx
              · exact HLO.out j (by omega) y' hy')
            clear hs2
            go_wp2
            go_round
            case rel => exact ⟨q + 1, by omega, by go_num, HLO2⟩
            case measure => simp [intOf]; omega
          · have hd : decide (y < x) = false := by simpa using hyx
            by_cases he : y = x
            · have hne : (y == x) = true := by simpa using he
              have hbn : (y != x) = false := by simpa using he
              have hqe : ((q : Int) == (o.length : Int)) = false := by simp; omega
              have HEQ : Hid (ofZ n (l.take (k + 1)) = o) := Lib.hid (by
                rw [HT.out, siz_old (by rw [← HOD.out, ← he]; exact List.mem_of_getElem? hs2), ← HOD.out])
              clear hs2
              go_wp2
              go_roundw
              case rel => exact ⟨k + 1, by omega, by go_num, by rw [HEQ.out]; exact ⟨_, cv, rfl, HO.out, HX.out, HZ.out⟩⟩
              case measure => simp [intOf]; omega
            · have hne : (y == x) = false := by simpa using he
              have hbn : (y != x) = true := by simpa using he
              have hqe : ((q : Int) == (o.length : Int)) = false := by simp; omega
              have HHI : Hid (∀ y', o[q]? = some y' → x < y') := Lib.hid (fun y' hy' => by rw [hs2] at hy'; cases hy'; omega)
              clear hs2 he
              obtain ⟨t1, ht1⟩ : ∃ t1, t1 = o.take q := ⟨_, rfl⟩
              obtain ⟨t2, ht2⟩ : ∃ t2, t2 = o.drop q := ⟨_, rfl⟩
              have ht1l : t1.length ≤ 1000 := by rw [ht1, List.length_take]; omega
              have HEQ : Hid (ofZ n (l.take (k + 1)) = ([] ++ t1) ++ [x] ++ t2) := Lib.hid (by
                rw [HT.out, siz_new (k := q) (by rw [← HOD.out]; exact HLO.out) (by rw [← HOD.out]; exact HHI.out) hxr, ← HOD.out, ht1, ht2]
                simp)
              have M0 : Hid ((wr.alloc (.cells #[] 3)).ownsRow wr.heap.size 3 1 (.slice (some ⟨wr.heap.size, 0, none⟩) 0 0) 0 (ints [])) := Lib.hid (World.ownsRow_made (base := wr.heap.size) (e := 3) (size := 1) wr #[] 0 (Nat.le_refl _) (by unfold maxLen; omega) rfl)
              have B0 : Hid (Below wr.heap.size wr (wr.alloc (.cells #[] 3))) := Lib.hid ((Below.refl _ _).alloc (Nat.le_refl _) _)
              have I1 : Hid (IntsAt wr (some ⟨b2, off2, none⟩) q t1) := Lib.hid (by rw [ht1]; exact HOI.out.take hq)
              have I2 : Hid (IntsAt wr (some ⟨b2, off2 + q, none⟩) (o.length - q) t2) := Lib.hid (by rw [ht2]; exact HOI.out.drop hq)
              have hz0 := B0.out.size
              clear ht1 ht2
              go_wp2_with (first
                | (at_builtin; refine wpList_app rfl _ _ rfl wr.heap.size (some ⟨wr.heap.size, 0, none⟩) 0 [] (some ⟨b2, off2, none⟩) q _ t1 _ M0.out (I1.out.below B0.out) (by simp) (by omega) hz0 rfl rfl ?_; intro a1 c1 w1 hown1 hb1; have O1 := Lib.hid hown1; have B1 := Lib.hid (B0.out.trans hb1); have hz1 := B1.out.size; clear hown1 hb1)
                | (at_builtin; refine append_int rfl _ _ rfl wr.heap.size _ ([] ++ t1) _ w1 O1.out (by simp; omega) hz1 _ rfl rfl rfl ?_; intro a2 c2 w2 hown2 hb2; have O2 := Lib.hid hown2; have B2 := Lib.hid (B1.out.trans hb2); have hz2 := B2.out.size; clear hown2 hb2)
                | (at_builtin; refine wpList_app_n rfl _ _ rfl wr.heap.size a2 c2 ([] ++ t1 ++ [x]) (t1.length + 1) (by simp) (some ⟨b2, off2 + q, none⟩) (o.length - q) _ t2 w2 O2.out (I2.out.below B2.out) (by simp; omega) (by omega) hz2 rfl rfl ?_; intro a3 c3 w3 hown3 hb3; have O3 := Lib.hid hown3; have B3 := Lib.hid (B2.out.trans hb3); clear hown3 hb3))
              go_roundw
              case rel =>
                refine ⟨k + 1, by omega, by go_num, ?_⟩
                rw [HEQ.out]
                have : VecAt ([] ++ t1 ++ [x] ++ t2) w w3 (.slice a3 ([] ++ t1 ++ [x] ++ t2).length c3) := ⟨a3, c3, rfl, own_base O3.out HZ.out, HX.out.trans (B3.out.mono HZ.out), Nat.le_trans HZ.out B3.out.size⟩
                simpa using this
              case measure => simp [intOf]; omega
        · have e : q = o.length := by omega
          have HHI : Hid (∀ y', o[q]? = some y' → x < y') := Lib.hid (fun y' hy' => by rw [List.getElem?_eq_none (by omega)] at hy'; cases hy')
          have hqe : ((q : Int) == (o.length : Int)) = true := by simp; omega
          have hsub : o.length - q = 0 := by omega
          rcases HO.out.2 with ⟨hv, h00⟩ | ⟨g, cap', cur, hv, _⟩
          · obtain ⟨rfl, h01, rfl⟩ : av = none ∧ o.length = 0 ∧ cv = 0 := by simpa using hv
            obtain rfl : o = [] := List.eq_nil_of_length_eq_zero h01
            obtain rfl : q = 0 := by simpa using e
            clear hv h00 h01 e hsub
            obtain ⟨t1, ht1⟩ : ∃ t1, t1 = ([] : List Int).take 0 := ⟨_, rfl⟩
            obtain ⟨t2, ht2⟩ : ∃ t2, t2 = ([] : List Int).drop 0 := ⟨_, rfl⟩
            have ht1l : t1.length ≤ 1000 := by rw [ht1, List.length_take]; omega
            have HEQ : Hid (ofZ n (l.take (k + 1)) = ([] ++ t1) ++ [x] ++ t2) := Lib.hid (by
              rw [HT.out, siz_new (k := 0) (by rw [← HOD.out]; exact HLO.out) (by rw [← HOD.out]; exact HHI.out) hxr, ← HOD.out, ht1, ht2]
              simp)
            have M0 : Hid ((wr.alloc (.cells #[] 3)).ownsRow wr.heap.size 3 1 (.slice (some ⟨wr.heap.size, 0, none⟩) 0 0) 0 (ints [])) := Lib.hid (World.ownsRow_made (base := wr.heap.size) (e := 3) (size := 1) wr #[] 0 (Nat.le_refl _) (by unfold maxLen; omega) rfl)
            have B0 : Hid (Below wr.heap.size wr (wr.alloc (.cells #[] 3))) := Lib.hid ((Below.refl _ _).alloc (Nat.le_refl _) _)
            have I1 : Hid (IntsAt wr none 0 t1) := Lib.hid (by rw [ht1]; exact HOI.out.take hq)
            have I2 : Hid (IntsAt wr none (0 - 0) t2) := Lib.hid (by rw [ht2]; exact HOI.out)
            have hz0 := B0.out.size
            clear ht1 ht2
            go_wp2_with (first
              | (at_builtin; refine wpList_app rfl _ _ rfl wr.heap.size (some ⟨wr.heap.size, 0, none⟩) 0 [] none 0 _ t1 _ M0.out (I1.out.below B0.out) (by simp) (by omega) hz0 rfl rfl ?_; intro a1 c1 w1 hown1 hb1; have O1 := Lib.hid hown1; have B1 := Lib.hid (B0.out.trans hb1); have hz1 := B1.out.size; clear hown1 hb1)
              | (at_builtin; refine append_int rfl _ _ rfl wr.heap.size _ ([] ++ t1) _ w1 O1.out (by simp; omega) hz1 _ rfl rfl rfl ?_; intro a2 c2 w2 hown2 hb2; have O2 := Lib.hid hown2; have B2 := Lib.hid (B1.out.trans hb2); have hz2 := B2.out.size; clear hown2 hb2)
              | (at_builtin; refine wpList_app_n rfl _ _ rfl wr.heap.size a2 c2 ([] ++ t1 ++ [x]) (t1.length + 1) (by simp) none (0 - 0) _ t2 w2 O2.out (I2.out.below B2.out) (by simp; omega) (by omega) hz2 rfl rfl ?_; intro a3 c3 w3 hown3 hb3; have O3 := Lib.hid hown3; have B3 := Lib.hid (B2.out.trans hb3); clear hown3 hb3))
            go_roundw
            case rel =>
              refine ⟨k + 1, by omega, by go_num, ?_⟩
              rw [HEQ.out]
              have : VecAt ([] ++ t1 ++ [x] ++ t2) w w3 (.slice a3 ([] ++ t1 ++ [x] ++ t2).length c3) := ⟨a3, c3, rfl, own_base O3.out HZ.out, HX.out.trans (B3.out.mono HZ.out), Nat.le_trans HZ.out B3.out.size⟩
              simpa using this
            case measure => simp [intOf]; omega
          · obtain ⟨rfl, rfl⟩ : av = some ⟨g, 0, none⟩ ∧ cv = cap' := by simpa using hv
            clear hv e hsub
            obtain ⟨t1, ht1⟩ : ∃ t1, t1 = o.take q := ⟨_, rfl⟩
            obtain ⟨t2, ht2⟩ : ∃ t2, t2 = o.drop q := ⟨_, rfl⟩
            have ht1l : t1.length ≤ 1000 := by rw [ht1, List.length_take]; omega
            have HEQ : Hid (ofZ n (l.take (k + 1)) = ([] ++ t1) ++ [x] ++ t2) := Lib.hid (by
              rw [HT.out, siz_new (k := q) (by rw [← HOD.out]; exact HLO.out) (by rw [← HOD.out]; exact HHI.out) hxr, ← HOD.out, ht1, ht2]
              simp)
            have M0 : Hid ((wr.alloc (.cells #[] 3)).ownsRow wr.heap.size 3 1 (.slice (some ⟨wr.heap.size, 0, none⟩) 0 0) 0 (ints [])) := Lib.hid (World.ownsRow_made (base := wr.heap.size) (e := 3) (size := 1) wr #[] 0 (Nat.le_refl _) (by unfold maxLen; omega) rfl)
            have B0 : Hid (Below wr.heap.size wr (wr.alloc (.cells #[] 3))) := Lib.hid ((Below.refl _ _).alloc (Nat.le_refl _) _)
            have I1 : Hid (IntsAt wr (some ⟨g, 0, none⟩) q t1) := Lib.hid (by rw [ht1]; exact HOI.out.take hq)
            have I2 : Hid (∀ A, IntsAt wr A (o.length - q) t2) := Lib.hid (fun A => by rw [ht2]; exact ⟨by simp, fun z hz => (by rw [List.drop_eq_nil_of_le (by omega)] at hz; cases hz), fun hp => (by omega)⟩)
            have hz0 := B0.out.size
            clear ht1 ht2
            go_wp2_with (first
              | (at_builtin; refine wpList_app rfl _ _ rfl wr.heap.size (some ⟨wr.heap.size, 0, none⟩) 0 [] (some ⟨g, 0, none⟩) q _ t1 _ M0.out (I1.out.below B0.out) (by simp) (by omega) hz0 rfl rfl ?_; intro a1 c1 w1 hown1 hb1; have O1 := Lib.hid hown1; have B1 := Lib.hid (B0.out.trans hb1); have hz1 := B1.out.size; clear hown1 hb1)
              | (at_builtin; refine append_int rfl _ _ rfl wr.heap.size _ ([] ++ t1) _ w1 O1.out (by simp; omega) hz1 _ rfl rfl rfl ?_; intro a2 c2 w2 hown2 hb2; have O2 := Lib.hid hown2; have B2 := Lib.hid (B1.out.trans hb2); have hz2 := B2.out.size; clear hown2 hb2)
              | (at_builtin; refine wpList_app_n rfl _ _ rfl wr.heap.size a2 c2 ([] ++ t1 ++ [x]) (t1.length + 1) (by simp) _ (o.length - q) _ t2 w2 O2.out ((I2.out _).below B2.out) (by simp; omega) (by omega) hz2 rfl rfl ?_; intro a3 c3 w3 hown3 hb3; have O3 := Lib.hid hown3; have B3 := Lib.hid (B2.out.trans hb3); clear hown3 hb3))
            go_roundw
            case rel =>
              refine ⟨k + 1, by omega, by go_num, ?_⟩
              rw [HEQ.out]
              have : VecAt ([] ++ t1 ++ [x] ++ t2) w w3 (.slice a3 ([] ++ t1 ++ [x] ++ t2).length c3) := ⟨a3, c3, rfl, own_base O3.out HZ.out, HX.out.trans (B3.out.mono HZ.out), Nat.le_trans HZ.out B3.out.size⟩
              simpa using this
            case measure => simp [intOf]; omega
    · have e : k = len := by omega
      have HT : Hid (l.take k = l) := Lib.hid (List.take_of_length_le (by have := HS.out.len; omega))
      have HO := Lib.hid hown
      have HX := Lib.hid hnx
      clear hown hnx hsz e
      rw [HT.out] at HO ⊢
      go_wp2
      go_ret
      exact ⟨av, cv, rfl, HO.out, HX.out⟩
end Go.Proofs.Ythcmpkhfimapgaa.Rhy

/-
  Helpers of the claims beside this text: the model's StepSizes and SpanSizes.
-/
namespace Go.Proofs.Ythcmpkhfimapgaa.Rhy
open Go.RowKit
set_option linter.unusedVariables false

noncomputable def sizeB (s : Int) (zs : List Int) : List Int := ofZ 25 (stB s zs)
theorem sizeB_int (s : Int) (zs : List Int) : AllInt (sizeB s zs) := ofZ_int (by omega)

set_option maxHeartbeats 400000 in
theorem sizes_spec (s : Int) (a : Option Addr) (len cap : Nat) (zs : List Int) (w : World) (h : IntsAt w a len zs) (hm : zs.length ≤ 1048576) :
    Calls Try.prog 77 #[rhy s a len cap] w (IPost (sizeB s zs) w) := by
  have HS := Lib.hid h
  clear h
  obtain ⟨l, hl⟩ : ∃ l, l = stB s zs := ⟨_, rfl⟩
  have HC := Lib.hid (fun w h => steps_spec s a len cap zs w h hm)
  have HV := Lib.hid (show sizeB s zs = ofZ 25 l by rw [hl]; rfl)
  rw [← hl] at HC
  have hlen : l.length ≤ 24 := by rw [hl]; exact stB_len s zs
  have HBD := Lib.hid (show ∀ x ∈ l, 1 ≤ x ∧ x ≤ 24 by rw [hl]; exact stB_bd s zs)
  have HI := Lib.hid (show AllInt l by rw [hl]; exact stB_int s zs)
  clear hl
  by_cases h0 : l.length = 0
  · obtain rfl : l = [] := List.eq_nil_of_length_eq_zero h0
    clear h0
    go_enter Try.func77, Try.ntmps77
    go_wp2_with fail
    refine (HC.out _ (HS.out.below (bel1 w _))).mono ?_
    rintro e w1 ⟨b, c, rfl, hown, hb⟩
    have HB := Lib.hid ((bel1 w (.cells #[.int .i64 s, .slice a len cap] 26)).trans (hb.mono (by simp)))
    clear hown hb
    go_wp2
    go_ret
    rw [HV.out]
    exact ⟨none, 0, rfl, World.ownsRow_nil _ _ _ _, HB.out⟩
  · have hz : ((l.length : Int) == 0) = false := by simp only [beq_eq_false_iff_ne]; omega
    go_enter Try.func77, Try.ntmps77
    go_wp2_with fail
    refine (HC.out _ (HS.out.below (bel1 w _))).mono ?_
    rintro e w1 ⟨b, c, rfl, hown, hb⟩
    have HO := Lib.hid (intsAt_own hown HI.out)
    have HB := Lib.hid ((bel1 w (.cells #[.int .i64 s, .slice a len cap] 26)).trans (hb.mono (by simp)))
    clear hown hb
    go_wp2_with fail
    refine (sizes0_spec 25 b l.length c l w1 HO.out (by omega) (by omega) (fun x hx => by have := HBD.out x hx; omega)).mono ?_
    rintro e w2 ⟨b2, c2, rfl, hown2, hb2⟩
    have HO2 := Lib.hid hown2
    have HB2 := Lib.hid hb2
    clear hown2 hb2
    go_wp2
    go_ret
    rw [HV.out]
    exact ⟨b2, c2, rfl, own_base HO2.out HB.out.size, HB.out.trans (HB2.out.mono HB.out.size)⟩

def spansL (l : List Int) (k n : Nat) : List Int := (List.range n).map fun i => spanL l i k
theorem spansL_len (l : List Int) (k n : Nat) : (spansL l k n).length = n := by simp [spansL]
theorem spansL_snoc (l : List Int) (k n : Nat) : spansL l k (n + 1) = spansL l k n ++ [spanL l n k] := by simp [spansL, List.range_succ]
theorem spansL_bd {l : List Int} (h : ∀ x ∈ l, 1 ≤ x ∧ x ≤ 24) {k n : Nat} (hk : k ≤ 24) : ∀ x ∈ spansL l k n, 0 ≤ x ∧ x < (577 : Nat) := by
  intro x hx
  unfold spansL at hx
  rw [List.mem_map] at hx
  obtain ⟨i, _, rfl⟩ := hx
  have := spanL_bd h i k
  omega
/-- What both answer. -/
noncomputable def spansB (s : Int) (zs : List Int) (k : Int) : List Int := cZ (0 < (stB s zs).length ∧ 0 ≤ k ∧ k ≤ (stB s zs).length) (ofZ 577 (spansL (stB s zs) k.toNat (stB s zs).length))
theorem spansB_int (s : Int) (zs : List Int) (k : Int) : AllInt (spansB s zs k) := cZ_int (ofZ_int (by omega))

set_option maxHeartbeats 1000000 in
theorem spans_spec (s : Int) (a : Option Addr) (len cap : Nat) (zs : List Int) (k : Int) (w : World) (h : IntsAt w a len zs) (hm : zs.length ≤ 1048576) (hk1 : -9223372036854775808 ≤ k) (hk2 : k ≤ 9223372036854775807) :
    Calls Try.prog 76 #[rhy s a len cap, .int .i64 k] w (IPost (spansB s zs k) w) := by
  have HS := Lib.hid h
  clear h
  obtain ⟨l, hl⟩ : ∃ l, l = stB s zs := ⟨_, rfl⟩
  have HC := Lib.hid (fun w h => steps_spec s a len cap zs w h hm)
  have HV := Lib.hid (show spansB s zs k = cZ (0 < l.length ∧ 0 ≤ k ∧ k ≤ l.length) (ofZ 577 (spansL l k.toNat l.length)) by rw [hl]; rfl)
  rw [← hl] at HC
  have hlen : l.length ≤ 24 := by rw [hl]; exact stB_len s zs
  have HBD := Lib.hid (show ∀ x ∈ l, 1 ≤ x ∧ x ≤ 24 by rw [hl]; exact stB_bd s zs)
  have HI := Lib.hid (show AllInt l by rw [hl]; exact stB_int s zs)
  clear hl
  by_cases h0 : l.length = 0
  · obtain rfl : l = [] := List.eq_nil_of_length_eq_zero h0
    have HE : Hid (spansB s zs k = []) := Lib.hid (by rw [HV.out, cZ_no (fun q => absurd q.1 (by simp))])
    clear h0
    go_enter Try.func76, Try.ntmps76
    go_wp2_with fail
    refine (HC.out _ (HS.out.below (bel1 w _))).mono ?_
    rintro e w1 ⟨b, c, rfl, hown, hb⟩
    have HB := Lib.hid ((bel1 w (.cells #[.int .i64 s, .slice a len cap] 26)).trans (hb.mono (by simp)))
    clear hown hb
    go_wp2
    go_ret
    rw [HE.out]
    exact ⟨none, 0, rfl, World.ownsRow_nil _ _ _ _, HB.out⟩
  · have hz : ((l.length : Int) == 0) = false := by simp only [beq_eq_false_iff_ne]; omega
    have hlp : 0 < l.length := by omega
    clear h0
    by_cases hkn : 0 ≤ k ∧ k ≤ l.length
    · have HE : Hid (spansB s zs k = ofZ 577 (spansL l k.toNat l.length)) := Lib.hid (by rw [HV.out, cZ_yes ⟨by omega, hkn⟩])
      obtain ⟨q, rfl⟩ : ∃ q : Nat, k = q := ⟨k.toNat, by omega⟩
      have HKN := Lib.hid hkn
      have hq : q ≤ 24 := by omega
      clear hkn
      go_enter Try.func76, Try.ntmps76
      go_wp2_with fail
      refine (HC.out _ (HS.out.below (bel1 w _))).mono ?_
      rintro e w1 ⟨b, c, rfl, hown, hb⟩
      have HO := Lib.hid (intsAt_own hown HI.out)
      have HB := Lib.hid ((bel1 w (.cells #[.int .i64 s, .slice a len cap] 26)).trans (hb.mono (by simp)))
      clear hown hb
      go_wp2_with fail
      refine (in_yes _ _ _ _ HKN.out.1 HKN.out.2).mono ?_
      rintro e w' ⟨rfl, rfl⟩
      go_wp2
      go_loopw [6, 23] (fun v i wr => ∃ j : Nat, j ≤ l.length ∧ i = .int .i64 j ∧ VecAt (spansL l q j) w1 wr v) (fun _ i _ => l.length - (intOf i).toNat)
      case atStart => exact ⟨0, by omega, rfl, vec_made w1⟩
      case round =>
        obtain ⟨j, hj, rfl, av, cv, rfl, hown, hnx, hsz⟩ := hrel
        have HO1 := Lib.hid hown
        have HX := Lib.hid hnx
        have HZ := Lib.hid hsz
        clear hown hnx hsz
        by_cases hlt : j < l.length
        · have HN := Lib.hid (spansL_snoc l q j)
          have hsl : (spansL l q j).length ≤ 1048577 := by rw [spansL_len]; omega
          have HOL : Hid (IntsAt wr b l.length l) := Lib.hid (HO.out.below HX.out)
          go_wp2_with (first
            | (go_at_call 93; refine (span0_spec b l.length c l j q _ HOL.out HBD.out hlen hlt (by omega)).mono ?_; rintro e w' ⟨rfl, rfl⟩)
            | (at_builtin; refine append_int rfl _ _ rfl w1.heap.size _ (spansL l q j) _ _ HO1.out hsl HZ.out _ rfl rfl rfl ?_; intro a' c' w' hown' hb'; have HO2 := Lib.hid hown'; have HX2 := Lib.hid hb'; clear hown' hb'))
          go_roundw
          case rel =>
            refine ⟨j + 1, by omega, by go_num, ?_⟩
            rw [HN.out]
            have := vec_snoc HX.out HZ.out HO2.out HX2.out
            simpa using this
          case measure => simp [intOf]; omega
        · have e : j = l.length := by omega
          subst e
          have HL := Lib.hid (spansL_len l q l.length)
          have HIT : Hid (IntsAt wr av l.length (spansL l q l.length)) := Lib.hid (by
            have := intsAt_own HO1.out (fun z hz => by have := spansL_bd HBD.out hq z hz; omega)
            rw [HL.out] at this
            exact this)
          rw [HL.out]
          go_wp2_with fail
          refine (sizes0_spec 577 av l.length cv _ wr HIT.out (by omega) (by omega) (spansL_bd HBD.out hq)).mono ?_
          rintro e w2 ⟨b2, c2, rfl, hown2, hb2⟩
          have HO2 := Lib.hid hown2
          have HB2 := Lib.hid hb2
          have HBW : Hid (Below w.heap.size w wr) := Lib.hid (HB.out.trans (HX.out.mono HB.out.size))
          clear hown2 hb2
          go_wp2
          go_ret
          rw [HE.out]
          exact ⟨b2, c2, rfl, own_base HO2.out HBW.out.size, HBW.out.trans (HB2.out.mono HBW.out.size)⟩
    · have HE : Hid (spansB s zs k = []) := Lib.hid (by rw [HV.out, cZ_no (fun q => hkn q.2)])
      have HKN := Lib.hid hkn
      clear hkn
      go_enter Try.func76, Try.ntmps76
      go_wp2_with fail
      refine (HC.out _ (HS.out.below (bel1 w _))).mono ?_
      rintro e w1 ⟨b, c, rfl, hown, hb⟩
      have HB := Lib.hid ((bel1 w (.cells #[.int .i64 s, .slice a len cap] 26)).trans (hb.mono (by simp)))
      clear hown hb
      go_wp2_with fail
      refine (in_no _ _ _ _ HKN.out).mono ?_
      rintro e w' ⟨rfl, rfl⟩
      go_wp2
      go_ret
      rw [HE.out]
      exact ⟨none, 0, rfl, World.ownsRow_nil _ _ _ _, HB.out⟩
end Go.Proofs.Ythcmpkhfimapgaa.Rhy
