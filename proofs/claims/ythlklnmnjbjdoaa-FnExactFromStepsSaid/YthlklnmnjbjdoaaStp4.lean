/-
  Helpers of the claims beside this text: the model's FromSteps.
-/
import Derived.Test.YthlklnmnjbjdoaaStp3
namespace Go.Proofs.Ythlklnmnjbjdoaa.Rhy
open Go.RowKit
set_option linter.unusedVariables false

/-- The beats from p0 on by the steps m. -/
def fromL (p0 : Int) (m : List Int) (k : Nat) : List Int := (List.range k).map fun j => p0 + (m.take j).sum
theorem fromL_len (p0 : Int) (m : List Int) (k : Nat) : (fromL p0 m k).length = k := by simp [fromL]
theorem fromL_snoc (p0 : Int) (m : List Int) (k : Nat) : fromL p0 m (k + 1) = fromL p0 m k ++ [p0 + (m.take k).sum] := by simp [fromL, List.range_succ]
theorem sum_mono {m : List Int} (h : ∀ x ∈ m, 0 ≤ x) (k : Nat) : (m.take k).sum ≤ m.sum := by
  have e : m.sum = (m.take k).sum + (m.drop k).sum := by rw [← List.sum_append, List.take_append_drop]
  have : ∀ l : List Int, (∀ x ∈ l, 0 ≤ x) → 0 ≤ l.sum := by
    intro l
    induction l with
    | nil => simp
    | cons x l ih => intro hl; have h1 := hl x (by simp); have h2 := ih (fun y hy => hl y (by simp [hy])); simp; omega
  have := this (m.drop k) (fun x hx => h x (List.mem_of_mem_drop hx))
  omega
theorem sum_ge {m : List Int} (h : ∀ x ∈ m, 1 ≤ x) : (m.length : Int) ≤ m.sum := by
  induction m with
  | nil => simp
  | cons x l ih => have h1 := h x (by simp); have h2 := ih (fun y hy => h y (by simp [hy])); simp; omega

def FromC (zs : List Int) (f : Int) : Prop := 0 < zs.length ∧ (∀ x ∈ zs, 1 ≤ x ∧ x ≤ 24) ∧ zs.sum ≤ 24 ∧ 0 ≤ f ∧ f < zs[zs.length - 1]?.getD 0
def FromAt (g k : Nat) (f n : Int) (zs : List Int) (w wr : World) : Prop :=
  ∃ av cv, Box wr g (.int .i64 0) (.slice none 0 0) 27 ∧ Box wr (g + 1) (.int .i64 n) (.slice av (fromL f zs k).length cv) 27 ∧
    wr.ownsRow (g + 2) 3 1 (.slice av (fromL f zs k).length cv) (fromL f zs k).length (ints (fromL f zs k)) ∧ Below g w wr ∧ g + 2 ≤ wr.heap.size
def FromPre (zs : List Int) (k : Nat) : Prop := (∀ x ∈ zs.take k, 1 ≤ x ∧ x ≤ 24) ∧ (zs.take k).sum ≤ 48
theorem fromPre_next {zs : List Int} {k : Nat} {z : Int} (h : FromPre zs k) (hs : zs[k]? = some z) (hz : 1 ≤ z ∧ z ≤ 24) (hn : (zs.take k).sum ≤ 24) : FromPre zs (k + 1) := by
  refine ⟨?_, by rw [sum_snoc hs]; omega⟩
  intro x hx
  rw [List.take_add_one, hs] at hx
  rcases List.mem_append.mp hx with q | q
  · exact h.1 x q
  · have : x = z := by simpa using q
    rw [this]; exact hz
theorem fromPre_ge {zs : List Int} {k : Nat} (h : FromPre zs k) : 0 ≤ (zs.take k).sum := by
  have := sum_ge (m := zs.take k) (fun x hx => (h.1 x hx).1)
  omega

set_option maxHeartbeats 1000000 in
theorem from_spec (a : Option Addr) (len cap : Nat) (zs : List Int) (f : Int) (w : World) (h : IntsAt w a len zs) (hm : zs.length ≤ 1048576) (hf1 : -9223372036854775808 ≤ f) (hf2 : f ≤ 9223372036854775807) :
    Calls Try.prog 21 #[.slice a len cap, .int .i64 f] w (CPost (FromC zs f) zs.sum (fromL f zs zs.length) w) := by
  have HS := Lib.hid h
  have hl' : len ≤ 1048576 := by have := h.1; omega
  clear h
  obtain ⟨g, hg⟩ : ∃ g, g = w.heap.size := ⟨_, rfl⟩
  have HG := Lib.hid hg
  obtain ⟨W0, hW⟩ : ∃ W0, W0 = w.alloc (.cells #[.int .i64 0, .slice none 0 0] 27) := ⟨_, rfl⟩
  have HW := Lib.hid hW
  have HB := Lib.hid (show Below g w W0 by rw [hW, hg]; exact bel1 w _)
  have HU := Lib.hid (show Box W0 g (.int .i64 0) (.slice none 0 0) 27 by rw [hW, hg]; exact box_new w _ _ _)
  have HSZ := Lib.hid (show W0.heap.size = g + 1 by rw [hW, hg]; simp)
  have HI : Hid (IntsAt W0 a len zs) := Lib.hid (HS.out.below (by rw [← hg]; exact HB.out))
  clear hW
  go_enter Try.func21, Try.ntmps21
  go_wp2
  rw [← HW.out, ← HG.out]
  clear hg
  go_loop [6, 15] (fun n i => ∃ k : Nat, k ≤ len ∧ i = .int .i64 k ∧ n = .int .i64 (zs.take k).sum ∧ FromPre zs k) (fun _ i => len - (intOf i).toNat)
  case atStart => exact ⟨0, by omega, rfl, rfl, by simp, by simp⟩
  case round =>
    obtain ⟨k, hk, rfl, rfl, hpre⟩ := hrel
    have HP := Lib.hid hpre
    obtain ⟨n, hn⟩ : ∃ n, n = (zs.take k).sum := ⟨_, rfl⟩
    have HN := Lib.hid hn
    have hn0 : 0 ≤ n := by rw [hn]; exact fromPre_ge hpre
    have hn1 : n ≤ 48 := by rw [hn]; exact hpre.2
    obtain ⟨c0, c1, f0, f1⟩ := HU.out.facts
    have l0 := HU.out.lt
    rw [← hn]
    clear hpre hn
    by_cases hlt : k < len
    · obtain ⟨b, off, z, rfl, hb, hs, hc, hz1, hz2⟩ := HI.out.at hlt
      by_cases hz : 1 ≤ z ∧ z ≤ 24
      · by_cases h24 : 24 < n
        · have HC : Hid (¬ FromC zs f) := Lib.hid (fun q => by
            have := sum_mono (m := zs) (fun x hx => by have := q.2.1 x hx; omega) k
            have := q.2.2.1
            have := HN.out
            omega)
          clear hs
          go_wp2_with (go_at_call 44; refine (in_yes _ _ _ _ hz.1 hz.2).mono ?_; rintro e w' ⟨rfl, rfl⟩)
          refine bodyPost_ret (v := .tuple #[rhy 0 none 0 0, .bool false]) (by simp [results, Try.results21, go_sem, *]) rfl (cpost_no HC.out ?_)
          rw [← HG.out]
          exact (HB.out.setCell (by simp) _).setCell (by simp) _
        · have HP2 := Lib.hid (fromPre_next HP.out hs hz (by rw [← HN.out]; omega))
          have HN2 := Lib.hid (sum_snoc hs)
          rw [← HN.out] at HN2
          have hd : decide (24 < n) = false := by simpa using h24
          obtain ⟨hza, hzb⟩ := hz
          clear hs
          go_wp2_with (go_at_call 44; refine (in_yes _ _ _ _ hza hzb).mono ?_; rintro e w' ⟨rfl, rfl⟩)
          go_round
          case rel => exact ⟨k + 1, by omega, by go_num, by rw [HN2.out], HP2.out⟩
          case measure => simp [intOf]; omega
      · have HC : Hid (¬ FromC zs f) := Lib.hid (fun q => hz (q.2.1 z (List.mem_of_getElem? hs)))
        have HZ := Lib.hid hz
        clear hs hz
        go_wp2_with (go_at_call 44; refine (in_no _ _ _ _ HZ.out).mono ?_; rintro e w' ⟨rfl, rfl⟩)
        refine bodyPost_ret (v := .tuple #[rhy 0 none 0 0, .bool false]) (by simp [results, Try.results21, go_sem, *]) rfl (cpost_no HC.out ?_)
        rw [← HG.out]
        exact (HB.out.setCell (by simp) _).setCell (by simp) _
    · have e : k = len := by omega
      subst e
      have HT := Lib.hid (show zs.take k = zs from List.take_of_length_le (by have := HS.out.len; omega))
      rw [HT.out] at HN
      by_cases h0 : k = 0
      · have HC : Hid (¬ FromC zs f) := Lib.hid (fun q => by have := q.1; have := HS.out.len; omega)
        subst h0
        go_wp2
        refine bodyPost_ret (v := .tuple #[rhy 0 none 0 0, .bool false]) (by simp [results, Try.results21, go_sem, *]) rfl (cpost_no HC.out ?_)
        rw [← HG.out]
        exact (HB.out.setCell (by simp) _).setCell (by simp) _
      · have hk0 : ((k : Int) == 0) = false := by simp; omega
        by_cases h24 : 24 < n
        · have HC : Hid (¬ FromC zs f) := Lib.hid (fun q => by have := q.2.2.1; have := HN.out; omega)
          go_wp2
          refine bodyPost_ret (v := .tuple #[rhy 0 none 0 0, .bool false]) (by simp [results, Try.results21, go_sem, *]) rfl (cpost_no HC.out ?_)
          rw [← HG.out]
          exact (HB.out.setCell (by simp) _).setCell (by simp) _
        · have hd : decide (24 < n) = false := by simpa using h24
          obtain ⟨j, hj⟩ : ∃ j, k = j + 1 := ⟨k - 1, by omega⟩
          obtain ⟨b, off, z, rfl, hb, hs, hc, hz1, hz2⟩ := HI.out.at (show j < k by omega)
          have hjk : (k : Int) - 1 = j := by omega
          have HLAST : Hid (zs[zs.length - 1]?.getD 0 = z) := Lib.hid (by rw [HS.out.len, hj]; simp [hs])
          have HPA := Lib.hid (show ∀ x ∈ zs, 1 ≤ x ∧ x ≤ 24 by have := HP.out.1; rw [HT.out] at this; exact this)
          obtain ⟨hza, hzb⟩ := HPA.out z (List.mem_of_getElem? hs)
          have HJ := Lib.hid hj
          clear hs hj
          by_cases hf : 0 ≤ f ∧ f ≤ z - 1
          · obtain ⟨hfa, hfb⟩ := hf
            go_wp2_with (go_at_call 44; refine (in_yes _ _ _ _ hfa hfb).mono ?_; rintro e w' ⟨rfl, rfl⟩)
            have HCC : Hid (FromC zs f) := Lib.hid ⟨by have := HS.out.len; omega, HPA.out, by rw [← HN.out]; omega, hfa, by rw [HLAST.out]; omega⟩
            have HLE : Hid (k ≤ 24) := Lib.hid (by
              have := sum_ge (m := zs) (fun x hx => (HPA.out x hx).1)
              have := HS.out.len
              have := HN.out
              omega)
            have hkk := HLE.out
            have HQ := Lib.hid (show ∀ x ∈ zs, 0 ≤ x ∧ x ≤ 24 by intro x hx; have := HPA.out x hx; omega)
            rw [HSZ.out]
            go_loopw [10, 56] (fun p i wr => ∃ j : Nat, j ≤ k ∧ i = .int .i64 j ∧ p = .int .i64 (f + (zs.take j).sum) ∧ FromAt g j f n zs w wr) (fun _ i _ => k - (intOf i).toNat)
            case atStart =>
              refine ⟨0, by omega, rfl, by simp, none, 0, ?_, ?_, World.ownsRow_nil _ _ _ _, ?_, ?_⟩
              · exact HU.out.keep (B := W0.heap.size) ((Below.refl _ _).alloc (Nat.le_refl _) _) HU.out.lt
              · have := box_new W0 (.int .i64 n) (.slice none 0 0) 27
                rw [HSZ.out] at this
                simpa [fromL] using this
              · exact HB.out.alloc (by have := HSZ.out; omega) _
              · have := HSZ.out
                simp; omega
            case round =>
              obtain ⟨j, hj, rfl, rfl, av, cv, hb0, hb1, hown, hnx, hsz⟩ := hrel
              have H0 := Lib.hid hb0
              have H1 := Lib.hid hb1
              have HO := Lib.hid hown
              have HX := Lib.hid hnx
              have HZ := Lib.hid hsz
              obtain ⟨c0, c1, f0, f1⟩ := H0.out.facts
              obtain ⟨d0, d1, e0, e1⟩ := H1.out.facts
              obtain ⟨lt0, lt1⟩ := And.intro hb0.lt hb1.lt
              have HI2 : Hid (IntsAt wr (some ⟨b, off, none⟩) k zs) := Lib.hid (HS.out.below (by rw [← HG.out]; exact HX.out))
              clear hb0 hb1 hown hnx hsz
              by_cases hlt : j < k
              · obtain ⟨b', off', y, he', hb, hs, hc, hy1, hy2⟩ := HI2.out.at hlt
                obtain ⟨rfl, rfl⟩ : b = b' ∧ off = off' := by simpa using he'
                have hS := sum_bd HQ.out j (by have := HS.out.len; omega)
                have HNX := Lib.hid (fromL_snoc f zs j)
                have HSU := Lib.hid (sum_snoc hs)
                obtain ⟨hya, hyb⟩ := HPA.out y (List.mem_of_getElem? hs)
                obtain ⟨S, hSS⟩ : ∃ S, S = (zs.take j).sum := ⟨_, rfl⟩
                rw [← hSS] at hS HNX HSU ⊢
                obtain ⟨hS1, hS2⟩ := hS
                have hfl : (fromL f zs j).length ≤ 1048577 := by rw [fromL_len]; omega
                clear hs hSS he'
                go_wp2_with (at_builtin; refine append_int rfl _ _ rfl (g + 2) _ (fromL f zs j) _ _ HO.out hfl HZ.out _ rfl rfl rfl ?_; intro a' c' w' hown' hb'; have HO2 := Lib.hid hown'; have HX2 := Lib.hid hb'; have hq := HX2.out.frozen (p := ⟨g + 1, 1, none⟩) (by show g + 1 < g + 2; omega); have hq2 := HX2.out.cell (p := ⟨g + 1, 1, none⟩) (by show g + 1 < g + 2; omega); clear hown' hb')
                go_roundw
                case rel =>
                  refine ⟨j + 1, by omega, by go_num, by rw [HSU.out]; go_num, a', c', ?_, ?_, ?_, ?_, ?_⟩
                  · exact (H0.out.keep HX2.out (by omega)).other _ (by omega)
                  · rw [HNX.out]
                    have := (H1.out.keep HX2.out (by omega)).set1 (.slice a' ((fromL f zs j).length + 1) c')
                    simpa using this
                  · rw [HNX.out]
                    exact ownsRow_setCell_below HO2.out (by show g + 1 < g + 2; omega) _
                  · exact (HX.out.trans (HX2.out.mono (by omega))).setCell (by show g ≤ g + 1; omega) _
                  · have := HX2.out.size
                    have := HZ.out
                    simp; omega
                case measure => simp [intOf]; omega
              · have e : j = k := by omega
                subst e
                have HR : Hid (zs.sum = n) := Lib.hid HN.out.symm
                have HLN : Hid (zs.length = j) := Lib.hid HS.out.len
                go_wp2
                refine bodyPost_ret (v := .tuple #[rhy n av (fromL f zs j).length cv, .bool true]) (by simp [results, Try.results21, go_sem, *]) rfl ?_
                rw [HR.out, HLN.out]
                refine cpost_yes HCC.out rfl ?_ ?_
                · exact own_base (ownsRow_setCell_below (ownsRow_setCell_below HO.out (by show g < g + 2; omega) _) (by show g < g + 2; omega) _) (by have := HG.out; omega)
                · rw [← HG.out]; exact (HX.out.setCell (by simp) _).setCell (by simp) _
          · have HC : Hid (¬ FromC zs f) := Lib.hid (fun q => hf (by have := q.2.2.2; rw [HLAST.out] at this; omega))
            have HF := Lib.hid hf
            clear hf
            go_wp2_with (go_at_call 44; refine (in_no _ _ _ _ HF.out).mono ?_; rintro e w' ⟨rfl, rfl⟩)
            refine bodyPost_ret (v := .tuple #[rhy 0 none 0 0, .bool false]) (by simp [results, Try.results21, go_sem, *]) rfl (cpost_no HC.out ?_)
            rw [← HG.out]
            exact (HB.out.setCell (by simp) _).setCell (by simp) _
end Go.Proofs.Ythlklnmnjbjdoaa.Rhy
