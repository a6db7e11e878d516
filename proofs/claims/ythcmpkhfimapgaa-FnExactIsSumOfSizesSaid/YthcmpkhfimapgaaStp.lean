/-
  Helpers of the claims beside this text: the model's steps of a rhythm.
-/
import Derived.Test.YthcmpkhfimapgaaVec
import Derived.Test.YthcmpkhfimapgaaMoves
import Derived.Deep.QuietTactic
import Derived.BigQuiet
namespace Go.Proofs.Ythcmpkhfimapgaa.Rhy
open Go.RowKit
set_option linter.unusedVariables false

/-- The step from the beat at place i to the next one, around. -/
def stepAt (s : Int) (zs : List Int) (i : Nat) : Int := (zs[i + 1]?.getD (zs[0]?.getD 0 + s)) - zs[i]?.getD 0
def stepsP (s : Int) (zs : List Int) (k : Nat) : List Int := (List.range k).map (stepAt s zs)
def stepsZ (s : Int) (zs : List Int) : List Int := stepsP s zs zs.length
theorem stepsP_len (s : Int) (zs : List Int) (k : Nat) : (stepsP s zs k).length = k := by simp [stepsP]
theorem stepsP_snoc (s : Int) (zs : List Int) (k : Nat) : stepsP s zs (k + 1) = stepsP s zs k ++ [stepAt s zs k] := by simp [stepsP, List.range_succ]
theorem step_mid {s : Int} {zs : List Int} {k : Nat} {z z' : Int} (h : zs[k]? = some z) (h' : zs[k + 1]? = some z') : stepAt s zs k = z' - z := by simp [stepAt, h, h']
theorem step_last {s : Int} {zs : List Int} {k : Nat} {z z0 : Int} (h : zs[k]? = some z) (h' : zs.length = k + 1) (h0 : zs[0]? = some z0) : stepAt s zs k = z0 + s - z := by
  have : zs[k + 1]? = none := List.getElem?_eq_none (by omega)
  simp [stepAt, h, h0, this]
theorem step_bd {s : Int} {zs : List Int} (ho : Ok s zs) {k : Nat} (hk : k < zs.length) : 1 ≤ stepAt s zs k ∧ stepAt s zs k ≤ s := by
  have hz := List.getElem?_eq_getElem hk
  have h0 := List.getElem?_eq_getElem (show 0 < zs.length by omega)
  have b1 := ok_at ho hz
  have b0 := ok_at ho h0
  by_cases h1 : k + 1 < zs.length
  · have hz' := List.getElem?_eq_getElem h1
    have b2 := ok_at ho hz'
    have := ok_lt ho (k + 1) k hk h1 (by omega)
    rw [step_mid hz hz']
    omega
  · rw [step_last hz (by omega) h0]
    by_cases e : k = 0
    · subst e; omega
    · have := ok_lt ho k 0 (by omega) hk (by omega)
      omega
theorem stepsZ_bd {s : Int} {zs : List Int} (ho : Ok s zs) : ∀ x ∈ stepsZ s zs, 1 ≤ x ∧ x ≤ s := by
  intro x hx
  unfold stepsZ stepsP at hx
  rw [List.mem_map] at hx
  obtain ⟨k, hk, rfl⟩ := hx
  rw [List.mem_range] at hk
  exact step_bd ho hk
theorem stepsZ_int {s : Int} {zs : List Int} (ho : Ok s zs) : AllInt (stepsZ s zs) := by
  intro x hx
  have := stepsZ_bd ho x hx
  have := ho.1
  omega

/-- What both answer: no steps of a rhythm that is not valid. -/
noncomputable def stB (s : Int) (zs : List Int) : List Int := cZ (Ok s zs) (stepsZ s zs)
theorem stB_yes {s : Int} {zs : List Int} (h : Ok s zs) : stB s zs = stepsZ s zs := cZ_yes h
theorem stB_no {s : Int} {zs : List Int} (h : ¬ Ok s zs) : stB s zs = [] := cZ_no h
theorem stB_int (s : Int) (zs : List Int) : AllInt (stB s zs) := by
  by_cases h : Ok s zs
  · rw [stB_yes h]; exact stepsZ_int h
  · rw [stB_no h]; intro z hz; cases hz
theorem stB_len (s : Int) (zs : List Int) : (stB s zs).length ≤ 24 := by
  by_cases h : Ok s zs
  · rw [stB_yes h]; unfold stepsZ; rw [stepsP_len]; exact ok_len h
  · rw [stB_no h]; simp

set_option maxHeartbeats 1000000 in
theorem steps0_spec (s : Int) (a : Option Addr) (len cap : Nat) (zs : List Int) (w : World) (h : IntsAt w a len zs) (hm : len ≤ 1048576) (ho : Ok s zs) (h0 : 0 < len) :
    Calls Try.prog 116 #[rhy s a len cap] w (IPost (stepsZ s zs) w) := by
  have HS := Lib.hid h
  have HOK := Lib.hid ho
  obtain ⟨hs1, hs2⟩ := ho.1
  clear h ho
  obtain ⟨w1, hW⟩ : ∃ w1, w1 = w.alloc (.cells #[.int .i64 s, .slice a len cap] 26) := ⟨_, rfl⟩
  have HW := Lib.hid hW
  have B1 := Lib.hid (show Below w.heap.size w w1 by rw [hW]; exact bel1 w _)
  have T1 := Lib.hid (show Two w1 w.heap.size (.int .i64 s) (.slice a len cap) by rw [hW]; exact two_new w _ _ _)
  have HSZ := Lib.hid (show w1.heap.size = w.heap.size + 1 by rw [hW]; simp)
  clear hW
  go_enter Try.func116, Try.ntmps116
  go_wp2
  rw [← HW.out, ← HSZ.out]
  go_loopw [3, 11] (fun v i wr => ∃ k : Nat, k ≤ len ∧ i = .int .i64 k ∧ VecAt (stepsP s zs k) w1 wr v) (fun _ i _ => len - (intOf i).toNat)
  case atStart => exact ⟨0, by omega, rfl, vec_made w1⟩
  case round =>
    obtain ⟨k, hk, rfl, av, cv, rfl, hown, hnx, hsz⟩ := hrel
    have HO := Lib.hid hown
    have HX := Lib.hid hnx
    have HZ := Lib.hid hsz
    obtain ⟨x0, x1, x2⟩ := T1.out.keep hnx
    clear hown hnx hsz
    have HI : Hid (IntsAt wr a len zs) := Lib.hid (HS.out.below (B1.out.trans (HX.out.mono B1.out.size)))
    by_cases hlt : k < len
    · obtain ⟨b, off, z, rfl, hb, hs, hc, _, _⟩ := HI.out.at hlt
      obtain ⟨b', off', z0, he', _, hs0, hc0, _, _⟩ := HI.out.at h0
      obtain ⟨rfl, rfl⟩ : b = b' ∧ off = off' := by simpa using he'
      rw [Nat.add_zero] at hc0
      obtain ⟨q1, q2⟩ := ok_at HOK.out hs
      obtain ⟨r1, r2⟩ := ok_at HOK.out hs0
      have hw1 : IntKind.i64.wrap (z0 + s) = z0 + s := IntWalk.i64_in _ (by omega)
      by_cases h1 : k + 1 < len
      · obtain ⟨b', off', z', he2, _, hs', hc', _, _⟩ := HI.out.at h1
        obtain ⟨rfl, rfl⟩ : b = b' ∧ off = off' := by simpa using he2
        obtain ⟨p1, p2⟩ := ok_at HOK.out hs'
        have HN : Hid (stepsP s zs (k + 1) = stepsP s zs k ++ [z' - z]) := Lib.hid (by rw [stepsP_snoc, step_mid hs hs'])
        have hi : ((k : Int) + 1).toNat = k + 1 := by omega
        clear hs hs0 hs' he' he2
        go_wp2
        go_quiet (fail)
        go_wp2_with (at_builtin; refine append_int rfl _ _ rfl w1.heap.size _ (stepsP s zs k) _ _ (own_drewN HO.out _) (by rw [stepsP_len]; omega) HZ.out _ rfl rfl rfl ?_; intro a' c' w' hown' hb'; have HO2 := Lib.hid hown'; have HX2 := Lib.hid (((Below.refl w1.heap.size wr).trans (below_drewN (Below.refl w1.heap.size wr) _)).trans hb'); clear hown' hb')
        go_roundw
        case rel =>
          refine ⟨k + 1, by omega, by go_num, ?_⟩
          rw [HN.out]
          have := vec_snoc HX.out HZ.out HO2.out HX2.out
          simpa using this
        case measure => simp [intOf]; omega
      · have HN : Hid (stepsP s zs (k + 1) = stepsP s zs k ++ [z0 + s - z]) := Lib.hid (by rw [stepsP_snoc, step_last hs (by have := HS.out.len; omega) hs0])
        have hd : decide ((k : Int) + 1 < (len : Int)) = false := by simp; omega
        have hd2 : decide (k + 1 < len) = false := by simp; omega
        clear hs hs0 he' h1
        go_wp2
        go_quiet (fail)
        go_wp2_with (at_builtin; refine append_int rfl _ _ rfl w1.heap.size _ (stepsP s zs k) _ _ (own_drewN HO.out _) (by rw [stepsP_len]; omega) HZ.out _ rfl rfl rfl ?_; intro a' c' w' hown' hb'; have HO2 := Lib.hid hown'; have HX2 := Lib.hid (((Below.refl w1.heap.size wr).trans (below_drewN (Below.refl w1.heap.size wr) _)).trans hb'); clear hown' hb')
        go_roundw
        case rel =>
          refine ⟨k + 1, by omega, by go_num, ?_⟩
          rw [HN.out]
          have := vec_snoc HX.out HZ.out HO2.out HX2.out
          simpa using this
        case measure => simp [intOf]; omega
    · have e : k = len := by omega
      have HE : Hid (stepsZ s zs = stepsP s zs k) := Lib.hid (by unfold stepsZ; rw [HS.out.len, e])
      clear e
      go_wp2
      go_ret
      rw [HE.out]
      exact ⟨av, cv, rfl, own_base HO.out B1.out.size, B1.out.trans (HX.out.mono B1.out.size)⟩

/-- Two cases that the tests of a rhythm without steps part. -/
theorem stB_nil {s : Int} {zs : List Int} (h : zs.length = 0) : stB s zs = [] := by
  by_cases ho : Ok s zs
  · rw [stB_yes ho]; unfold stepsZ stepsP; rw [h]; rfl
  · exact stB_no ho

set_option maxHeartbeats 400000 in
theorem steps_spec (s : Int) (a : Option Addr) (len cap : Nat) (zs : List Int) (w : World) (h : IntsAt w a len zs) (hm : zs.length ≤ 1048576) :
    Calls Try.prog 92 #[rhy s a len cap] w (IPost (stB s zs) w) := by
  have HS := Lib.hid h
  have hl : len ≤ 1048576 := by have := h.1; omega
  clear h
  by_cases ho : Ok s zs
  · have HO := Lib.hid ho
    by_cases h0 : 0 < len
    · have hd : ((len : Int) == 0) = false := by simp; omega
      have HE := Lib.hid (stB_yes ho)
      clear ho
      go_enter Try.func92, Try.ntmps92
      go_wp2_with fail
      refine (ok_yes s a len cap zs _ (HS.out.below (bel1 w _)) hl HO.out).mono ?_
      rintro e w1 ⟨rfl, hb⟩
      have HB := Lib.hid ((bel1 w (.cells #[.int .i64 s, .slice a len cap] 26)).trans (hb.mono (by simp)))
      have T1 := Lib.hid ((two_new w (.int .i64 s) (.slice a len cap) 26).keep hb)
      obtain ⟨t1, t1a, t1b⟩ := T1.out
      clear hb
      go_wp2_with fail
      refine (steps0_spec s a len cap zs w1 (HS.out.below HB.out) hl HO.out h0).mono ?_
      rintro e w2 ⟨b, c, rfl, hown, hb2⟩
      have HO2 := Lib.hid hown
      have HB2 := Lib.hid hb2
      clear hown hb2
      go_wp2
      go_ret
      rw [HE.out]
      exact ⟨b, c, rfl, own_base HO2.out HB.out.size, HB.out.trans (HB2.out.mono HB.out.size)⟩
    · have e : len = 0 := by omega
      have HE := Lib.hid (stB_nil (s := s) (show zs.length = 0 by rw [HS.out.len, e]))
      subst e
      clear ho
      go_enter Try.func92, Try.ntmps92
      go_wp2_with fail
      refine (ok_yes s a 0 cap zs _ (HS.out.below (bel1 w _)) hl HO.out).mono ?_
      rintro e w1 ⟨rfl, hb⟩
      have HB := Lib.hid ((bel1 w (.cells #[.int .i64 s, .slice a 0 cap] 26)).trans (hb.mono (by simp)))
      have T1 := Lib.hid ((two_new w (.int .i64 s) (.slice a 0 cap) 26).keep hb)
      obtain ⟨t1, t1a, t1b⟩ := T1.out
      clear hb
      go_wp2
      go_ret
      rw [HE.out]
      exact ⟨none, 0, rfl, World.ownsRow_nil _ _ _ _, HB.out⟩
  · have HO := Lib.hid ho
    have HE := Lib.hid (stB_no ho)
    clear ho
    go_enter Try.func92, Try.ntmps92
    go_wp2_with fail
    refine (ok_no s a len cap zs _ (HS.out.below (bel1 w _)) hl HO.out).mono ?_
    rintro e w1 ⟨rfl, hb⟩
    have HB := Lib.hid ((bel1 w (.cells #[.int .i64 s, .slice a len cap] 26)).trans (hb.mono (by simp)))
    clear hb
    go_wp2
    go_ret
    rw [HE.out]
    exact ⟨none, 0, rfl, World.ownsRow_nil _ _ _ _, HB.out⟩
end Go.Proofs.Ythcmpkhfimapgaa.Rhy
