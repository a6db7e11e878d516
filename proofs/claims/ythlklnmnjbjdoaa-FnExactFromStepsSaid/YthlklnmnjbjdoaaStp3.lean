/-
  Helpers of the claims beside this text: the model's TurnSteps.
-/
import Derived.Test.YthlklnmnjbjdoaaStp2
import Derived.Test.YthlklnmnjbjdoaaOf
import Derived.Test.YthlklnmnjbjdoaaOut
namespace Go.Proofs.Ythlklnmnjbjdoaa.Rhy
open Go.RowKit
set_option linter.unusedVariables false

theorem rev_snoc {l : List Int} {k j : Nat} {z : Int} (h : k + (j + 1) = l.length) (hs : l[j]? = some z) : l.reverse.take (k + 1) = l.reverse.take k ++ [z] := by
  have : l.reverse[k]? = some z := by
    rw [List.getElem?_reverse (by omega), show l.length - 1 - k = j by omega, hs]
  rw [List.take_add_one, this]
  rfl

theorem turn0_spec (a : Option Addr) (n cap : Nat) (l : List Int) (w : World) (h : IntsAt w a n l) (hn : n ≤ 1000) :
    Calls Try.prog 53 #[.slice a n cap] w (IPost l.reverse w) := by
  have HS := Lib.hid h
  clear h
  go_enter Try.func53, Try.ntmps53
  go_wp2
  go_loopw [3, 4] (fun v i wr => ∃ k j : Nat, k + j = n ∧ i = .int .i64 ((j : Int) - 1) ∧ VecAt (l.reverse.take k) w wr v) (fun _ i _ => (intOf i + 1).toNat)
  case atStart => exact ⟨0, n, by omega, by go_num, vec_made w⟩
  case round =>
    obtain ⟨k, j, hk, rfl, av, cv, rfl, hown, hnx, hsz⟩ := hrel
    have HO := Lib.hid hown
    have HX := Lib.hid hnx
    have HZ := Lib.hid hsz
    clear hown hnx hsz
    have HI : Hid (IntsAt wr a n l) := Lib.hid (HS.out.below HX.out)
    cases j with
    | succ j =>
      obtain ⟨b, off, z, rfl, hb, hs, hc, hz1, hz2⟩ := HI.out.at (show j < n by omega)
      have HN := Lib.hid (rev_snoc (k := k) (by have := HS.out.len; omega) hs)
      have e : (((j + 1 : Nat) : Int) - 1) = j := by omega
      have hlen : (l.reverse.take k).length ≤ 1048576 := by simp; omega
      rw [e]
      clear hs e
      go_wp2_with (at_builtin; refine append_int rfl _ _ rfl w.heap.size _ (l.reverse.take k) _ _ HO.out (by omega) HZ.out _ rfl rfl rfl ?_; intro a' c' w' hown' hb'; have HO2 := Lib.hid hown'; have HX2 := Lib.hid hb'; clear hown' hb')
      go_roundw
      case rel =>
        refine ⟨k + 1, j, by omega, by go_num, ?_⟩
        rw [HN.out]
        have := vec_snoc HX.out HZ.out HO2.out HX2.out
        simpa using this
      case measure => simp [intOf]
    | zero =>
      have HT : Hid (l.reverse.take k = l.reverse) := Lib.hid (List.take_of_length_le (by have := HS.out.len; simp; omega))
      go_wp2
      go_ret
      rw [HT.out] at HO ⊢
      exact ⟨av, cv, rfl, HO.out, HX.out⟩

/-- The beats from p0 on by the steps m, around. -/
def turnL (s p0 : Int) (m : List Int) (k : Nat) : List Int := (List.range k).map fun j => remB (p0 + (m.take j).sum) s
theorem turnL_len (s p0 : Int) (m : List Int) (k : Nat) : (turnL s p0 m k).length = k := by simp [turnL]
theorem turnL_snoc (s p0 : Int) (m : List Int) (k : Nat) : turnL s p0 m (k + 1) = turnL s p0 m k ++ [remB (p0 + (m.take k).sum) s] := by simp [turnL, List.range_succ]
theorem turnL_int {s p0 : Int} {m : List Int} {k : Nat} (h1 : 1 ≤ s) (h2 : s ≤ 1000) : AllInt (turnL s p0 m k) := by
  intro z hz
  unfold turnL at hz
  rw [List.mem_map] at hz
  obtain ⟨p, _, rfl⟩ := hz
  exact remB_int h1 h2
theorem sum_snoc {m : List Int} {k : Nat} {z : Int} (h : m[k]? = some z) : (m.take (k + 1)).sum = (m.take k).sum + z := by
  rw [List.take_add_one, h]
  simp
theorem sum_bd {m : List Int} {B : Int} (h : ∀ x ∈ m, 0 ≤ x ∧ x ≤ B) (k : Nat) (hk : k ≤ m.length) : 0 ≤ (m.take k).sum ∧ (m.take k).sum ≤ B * k := by
  induction k with
  | zero => simp
  | succ k ih =>
    have := ih (by omega)
    have hq := List.getElem?_eq_getElem (show k < m.length by omega)
    have hx := h _ (List.mem_of_getElem? hq)
    rw [sum_snoc hq]
    have : B * ((k + 1 : Nat) : Int) = B * k + B := by rw [Int.natCast_succ, Int.mul_add, Int.mul_one]
    omega

noncomputable def turnZ (s : Int) (zs : List Int) : List Int := turnL s (zs[0]?.getD 0) (stB s zs).reverse (stB s zs).length
def TurnC (s : Int) (zs : List Int) : Prop := Ok s zs ∧ 0 < zs.length

set_option maxHeartbeats 1000000 in
theorem turn_spec (s : Int) (a : Option Addr) (len cap : Nat) (zs : List Int) (w : World) (h : IntsAt w a len zs) (hm : zs.length ≤ 1048576) :
    Calls Try.prog 37 #[rhy s a len cap] w (CPost (TurnC s zs) s (ofZ s.toNat (turnZ s zs)) w) := by
  have HS := Lib.hid h
  clear h
  obtain ⟨W0, hW⟩ : ∃ W0, W0 = (w.alloc (.cells #[.int .i64 s, .slice a len cap] 27)).alloc (.cells #[.int .i64 0, .slice none 0 0] 27) := ⟨_, rfl⟩
  have HW := Lib.hid hW
  have HB := Lib.hid (show Below w.heap.size w W0 by rw [hW]; exact bel2 w _ _)
  have HT := Lib.hid (show Two W0 w.heap.size (.int .i64 s) (.slice a len cap) by rw [hW]; exact (two_new w _ _ _).keep (bel1 _ _))
  have HU := Lib.hid (show Box W0 (w.heap.size + 1) (.int .i64 0) (.slice none 0 0) 27 by
    rw [hW]
    have := box_new (w.alloc (.cells #[.int .i64 s, .slice a len cap] 27)) (.int .i64 0) (.slice none 0 0) 27
    simpa using this)
  have hz0 := HU.out.lt
  clear hW
  obtain ⟨l, hl⟩ : ∃ l, l = stB s zs := ⟨_, rfl⟩
  have HC := Lib.hid (fun w h => steps_spec s a len cap zs w h hm)
  have HV := Lib.hid (show turnZ s zs = turnL s (zs[0]?.getD 0) l.reverse l.length by rw [hl]; rfl)
  rw [← hl] at HC
  have hlen : l.length ≤ 24 := by rw [hl]; exact stB_len s zs
  have HBD := Lib.hid (show ∀ x ∈ l, 1 ≤ x ∧ x ≤ 24 by rw [hl]; exact stB_bd s zs)
  have HI := Lib.hid (show AllInt l by rw [hl]; exact stB_int s zs)
  by_cases hc : TurnC s zs
  · have HCC := Lib.hid hc
    have hll : l.length = len := by
      rw [hl, stB_yes hc.1]
      unfold stepsZ
      rw [stepsP_len, HS.out.len]
    have h0 : 0 < len := by have := hc.2; have := HS.out.len; omega
    have hlz : ((l.length : Int) == 0) = false := by rw [hll]; simp; omega
    obtain ⟨hs1, hs2⟩ := hc.1.1
    have HLL := Lib.hid hll
    have hl0 : 0 < l.length := by omega
    clear hl hc hll
    go_enter Try.func37, Try.ntmps37
    go_wp2_with fail
    rw [← HW.out]
    refine (HC.out _ (HS.out.below HB.out)).mono ?_
    rintro e w1 ⟨b1, c1, rfl, hown, hb⟩
    have HO1 := Lib.hid (intsAt_own hown HI.out)
    have B1 := Lib.hid hb
    have T1 := Lib.hid (HT.out.keep hb)
    have U1 := Lib.hid (HU.out.keep hb hz0)
    clear hown hb
    obtain ⟨W2, hW2⟩ : ∃ W2, W2 = w1.alloc (.cells #[] 3) := ⟨_, rfl⟩
    have HW2 := Lib.hid hW2
    have B2 := Lib.hid (show Below w1.heap.size w1 W2 by rw [hW2]; exact (Below.refl _ _).alloc (Nat.le_refl _) _)
    have T2 := Lib.hid (T1.out.keep B2.out)
    have HSZ2 := Lib.hid (show W2.heap.size = w1.heap.size + 1 by rw [hW2]; simp)
    have V2 := Lib.hid (show VecAt [] w1 W2 (.slice (some ⟨w1.heap.size, 0, none⟩) 0 0) by rw [hW2]; exact vec_made w1)
    have U2 := Lib.hid (U1.out.keep B2.out U1.out.lt)
    have S2 := Lib.hid (HS.out.below (HB.out.trans ((B1.out.mono HB.out.size).trans (B2.out.mono (Nat.le_trans HB.out.size B1.out.size)))))
    clear hW2
    obtain ⟨t1, t1a, t1b⟩ := T2.out
    obtain ⟨br, off, z0, rfl, hbr, hs0, hc0, _, _⟩ := S2.out.at h0
    rw [Nat.add_zero] at hc0
    have HZ0 : Hid (zs[0]?.getD 0 = z0) := Lib.hid (by rw [hs0]; rfl)
    obtain ⟨q1, q2⟩ := ok_at HCC.out.1 hs0
    clear hs0
    rw [HW2.out] at t1 t1a t1b hbr hc0
    go_wp2_with fail
    rw [← HW2.out]
    refine (turn0_spec b1 l.length c1 l W2 (HO1.out.below (B2.out)) (by omega)).mono ?_
    rintro e w3 ⟨b3, c3, rfl, hown3, hb3⟩
    have hmlen : l.reverse.length = l.length := by simp
    rw [hmlen]
    obtain ⟨m, hmm⟩ : ∃ m, m = l.reverse := ⟨_, rfl⟩
    have hml : m.length = l.length := by rw [hmm, hmlen]
    clear hmlen
    have HV2 : Hid (turnZ s zs = turnL s z0 m l.length) := Lib.hid (by rw [HV.out, HZ0.out, hmm])
    have HMI := Lib.hid (show AllInt m by rw [hmm]; intro z hz; exact HI.out z (by simpa using hz))
    have HMB := Lib.hid (show ∀ x ∈ m, 0 ≤ x ∧ x ≤ 24 by rw [hmm]; intro z hz; have := HBD.out z (by simpa using hz); omega)
    rw [← hmm, hml] at hown3
    have HO3 := Lib.hid hown3
    have B3 := Lib.hid hb3
    have T3 := Lib.hid (T2.out.keep hb3)
    have U3 := Lib.hid (U2.out.keep hb3 U2.out.lt)
    have V3 := Lib.hid (vec_keep V2.out hb3)
    clear hown3 hb3 hmm t1 t1a t1b hbr hc0
    have hsne : (s == 0) = false := by simp; omega
    go_wp2
    go_loopw [5, 6, 23] (fun v p i wr => ∃ k : Nat, k ≤ l.length ∧ i = .int .i64 k ∧ p = .int .i64 (z0 + (m.take k).sum) ∧ VecAt (turnL s z0 m k) w1 wr v ∧ Outside W2.heap.size w3.heap.size v ∧ Same W2.heap.size w3.heap.size w3 wr ∧ w3.heap.size ≤ wr.heap.size) (fun _ _ i _ => l.length - (intOf i).toNat)
    case atStart =>
      refine ⟨0, by omega, rfl, by simp, V3.out, ?_, Same.refl _ _ _, Nat.le_refl _⟩
      intro k hk
      have : k = w1.heap.size := by simpa [Value.ownBlock] using hk.symm
      have := HSZ2.out
      omega
    case round =>
      obtain ⟨k, hk, rfl, rfl, ⟨av, cv, rfl, hown, hnx, hsz⟩, hout, hsame, hsz3⟩ := hrel
      have HO := Lib.hid hown
      have HX := Lib.hid hnx
      have HZ := Lib.hid hsz
      have HOUT := Lib.hid hout
      have HSAME := Lib.hid hsame
      have HZ3 := Lib.hid hsz3
      have HM : Hid (IntsAt wr b3 l.length m) := Lib.hid (intsAt_own (owns_same HO3.out hsame) HMI.out)
      have T4 := Lib.hid (T1.out.keep hnx)
      have U4 := Lib.hid (U1.out.keep hnx U1.out.lt)
      clear hown hnx hsz hout hsame hsz3
      obtain ⟨x0, x1, x2⟩ := T4.out
      by_cases hlt : k < l.length
      · obtain ⟨b, off', z, rfl, hb, hs, hc, hz1, hz2⟩ := HM.out.at hlt
        have hS := sum_bd HMB.out k (by omega)
        have HN := Lib.hid (turnL_snoc s z0 m k)
        have HSU := Lib.hid (sum_snoc hs)
        obtain ⟨hzb1, hzb2⟩ := HMB.out z (List.mem_of_getElem? hs)
        obtain ⟨S, hSS⟩ : ∃ S, S = (m.take k).sum := ⟨_, rfl⟩
        rw [← hSS] at hS HN HSU ⊢
        obtain ⟨hS1, hS2⟩ := hS
        have ht : (z0 + S).tmod s = remB (z0 + S) s := by rw [Int.tmod_eq_emod_of_nonneg (by omega)]; rfl
        have hrb := remB_bd (z0 + S) s (by omega)
        clear hs hSS
        have hl8 : (turnL s z0 m k).length ≤ 1048577 := by rw [turnL_len]; omega
        go_wp2_with (at_builtin; refine append_out W2.heap.size w3.heap.size rfl _ _ rfl w1.heap.size _ (turnL s z0 m k) _ _ HO.out hl8 HZ.out HOUT.out HZ3.out _ rfl rfl rfl ?_; intro a' c' w' hown' hb' hs' ho'; have HO2 := Lib.hid hown'; have HX2 := Lib.hid hb'; have HS2 := Lib.hid hs'; have HOUT2 := Lib.hid ho'; clear hown' hb' hs' ho')
        go_roundw
        case rel =>
          refine ⟨k + 1, by omega, by go_num, by rw [HSU.out]; go_num, ?_, ?_, HSAME.out.trans HS2.out, ?_⟩
          · rw [HN.out]
            have := vec_snoc HX.out HZ.out HO2.out HX2.out
            simpa using this
          · simpa using HOUT2.out
          · exact Nat.le_trans HZ3.out HX2.out.size
        case measure => simp [intOf]; omega
      · obtain ⟨e0, he⟩ : ∃ e0, e0 = z0 + (m.take k).sum := ⟨_, rfl⟩
        have e : k = l.length := by omega
        subst e
        have hit : IntsAt wr av (turnL s z0 m l.length).length (turnL s z0 m l.length) := intsAt_own HO.out (turnL_int hs1 (by omega))
        have HL := Lib.hid (turnL_len s z0 m l.length)
        rw [HL.out] at hit
        have HIT := Lib.hid hit
        rw [HL.out, ← he]
        clear he hit
        go_wp2_with fail
        refine (of_int s av l.length cv _ wr HIT.out (by omega) (by omega) (by omega)).mono ?_
        rintro e w5 ⟨a5, cap5, rfl, hown5, hb5⟩
        have HO5 := Lib.hid hown5
        have HB5 := Lib.hid hb5
        obtain ⟨g0, g1, g2, g3⟩ := (U4.out.keep hb5 U4.out.lt).facts
        have l1 := (U4.out.keep hb5 U4.out.lt).lt
        have l2 := U4.out.lt
        have HBW : Hid (Below w.heap.size w wr) := Lib.hid ((HB.out.trans (B1.out.mono HB.out.size)).trans (HX.out.mono (Nat.le_trans HB.out.size B1.out.size)))
        clear hown5 hb5
        go_wp2
        refine bodyPost_ret (v := .tuple #[rhy s a5 (ofZ s.toNat (turnL s z0 m l.length)).length cap5, .bool true]) (by simp [results, Try.results37, go_sem, *]) rfl ?_
        rw [HV2.out]
        refine cpost_yes HCC.out rfl ?_ ?_
        · exact own_base (ownsRow_setCell_below (ownsRow_setCell_below HO5.out (by show w.heap.size + 1 < wr.heap.size; omega) _) (by show w.heap.size + 1 < wr.heap.size; omega) _) (by omega)
        · exact ((HBW.out.trans (HB5.out.mono HBW.out.size)).setCell (by simp) _).setCell (by simp) _
  · have hl0 : l = [] := by
      rw [hl]
      by_cases ho : Ok s zs
      · exact stB_nil (by have : ¬ 0 < zs.length := fun q => hc ⟨ho, q⟩; omega)
      · exact stB_no ho
    have HCC := Lib.hid hc
    subst hl0
    clear hl hc
    go_enter Try.func37, Try.ntmps37
    go_wp2_with fail
    rw [← HW.out]
    refine (HC.out _ (HS.out.below HB.out)).mono ?_
    rintro e w1 ⟨b1, c1, rfl, hown, hb⟩
    have B1 := Lib.hid hb
    have U1 := Lib.hid (HU.out.keep hb hz0)
    clear hown hb
    obtain ⟨q0, q1, q2, q3⟩ := U1.out.facts
    have l1 := U1.out.lt
    go_wp2
    refine bodyPost_ret (v := .tuple #[rhy 0 none 0 0, .bool false]) (by simp [results, Try.results37, go_sem, *]) rfl (cpost_no HCC.out ?_)
    exact ((HB.out.trans (B1.out.mono HB.out.size)).setCell (by simp) _).setCell (by simp) _
end Go.Proofs.Ythlklnmnjbjdoaa.Rhy
