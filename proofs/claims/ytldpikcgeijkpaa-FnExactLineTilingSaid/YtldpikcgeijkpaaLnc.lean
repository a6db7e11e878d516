/-
  Helpers of the claims beside this text: patterns on a line: the model's period and entries.
-/
import Derived.Test.YtldpikcgeijkpaaLnb
import Derived.Test.YtldpikcgeijkpaaMps
namespace Go.Proofs.Ytldpikcgeijkpaa.Rhy
open Go.RowKit
set_option linter.unusedVariables false
set_option linter.unusedSimpArgs false

theorem ent_succ {m k s t s' n : Nat} {l : List Nat} (h : entN m k = some (s, t, l)) (h2 : stpN m s = some (s', n)) : entN m (k + 1) = some (s', t + n, l ++ [t]) := by
  simp only [entN, h, h2]
theorem ent_none {m k s t : Nat} {l : List Nat} (h : entN m k = some (s, t, l)) (h2 : stpN m s = none) : entN m (k + 1) = none := by
  simp only [entN, h, h2]
theorem ent_inv {m k : Nat} {r : Nat × Nat × List Nat} (h : entN m (k + 1) = some r) : ∃ s t l s' n, entN m k = some (s, t, l) ∧ stpN m s = some (s', n) ∧ r = (s', t + n, l ++ [t]) := by
  simp only [entN] at h
  cases h1 : entN m k with
  | none => rw [h1] at h; cases h
  | some q =>
    obtain ⟨s, t, l⟩ := q
    rw [h1] at h
    simp only at h
    cases h2 : stpN m s with
    | none => rw [h2] at h; cases h
    | some p =>
      obtain ⟨s', n⟩ := p
      rw [h2] at h
      injection h with h
      exact ⟨s, t, l, s', n, rfl, h2, h.symm⟩
theorem stp_zero (m : Nat) : stpN m 0 ≠ none := by
  unfold stpN
  rw [Nat.zero_and]
  simp
theorem crs_step {zs : List Int} {xs es : List Nat} {t : Nat} {g : Bool} (C : Crs zs xs es t g) {k : Nat} (hk : k < es.length) :
    ∃ s t' s' n, entN (mskN xs) k = some (s, t', es.take k) ∧ stpN (mskN xs) s = some (s', n) ∧ entN (mskN xs) (k + 1) = some (s', t' + n, es.take (k + 1)) ∧ es.take (k + 1) = es.take k ++ [t'] ∧
      s < 8192 ∧ t' ≤ 1000 ∧ s' < 8192 ∧ t' + n ≤ 1000 ∧ (s' = 0 → g = true ∧ k + 1 = es.length) ∧ (g = true → k + 1 = es.length → s' = 0) ∧ (k + 1 = es.length → t' + n = t) := by
  obtain ⟨s, t', h1, h2, h3, h4⟩ := C.mid k (by omega)
  obtain ⟨s2, t2, h5, h6, h7, h8⟩ := C.mid (k + 1) (by omega)
  obtain ⟨a, b, l, c, n, q1, q2, q3⟩ := ent_inv h5
  rw [h1] at q1
  injection q1 with q1
  injection q1 with e1 q1
  injection q1 with e2 e3
  subst e1 e2 e3
  injection q3 with e1 q3
  injection q3 with e2 e3
  subst e1 e2
  refine ⟨s, t', s2, n, h1, q2, h5, e3, h2, h3, h6, h7, ?_, ?_, ?_⟩
  · intro e
    by_cases he : k + 1 = es.length
    · refine ⟨?_, he⟩
      obtain ⟨s3, f1, f2, f3⟩ := C.fin
      rw [← he, h5] at f1
      injection f1 with f1
      injection f1 with f1 _
      subst f1
      cases g with
      | true => rfl
      | false => exact absurd (f3 rfl) (by rw [e]; exact stp_zero _)
    · exact absurd e (h8 (by omega) (by omega))
  · intro hg he
    obtain ⟨s3, f1, f2, f3⟩ := C.fin
    rw [← he, h5] at f1
    injection f1 with f1
    injection f1 with f1 _
    rw [f1]
    exact (f2 hg).1
  · intro he
    obtain ⟨s3, f1, f2, f3⟩ := C.fin
    rw [← he, h5] at f1
    injection f1 with f1
    injection f1 with _ f1
    injection f1 with f1 _
theorem Crs.small {zs : List Int} {xs es : List Nat} {t : Nat} {g : Bool} (C : Crs zs xs es t g) (hp : PatC zs) : ∀ x ∈ xs, x ≤ 12 := by
  intro x hx
  obtain ⟨j, hj⟩ := List.mem_iff_getElem?.1 hx
  have h1 : zs[j]? = some (x : Int) := by rw [C.pat]; unfold zsN; rw [List.getElem?_map, hj]; rfl
  by_cases e : j = 0
  · subst e
    rw [hp.1] at h1
    injection h1 with h1
    omega
  · have := pat_up hp 0 (j - 1) _ _ (List.getElem?_eq_getElem (by
      rcases Nat.lt_or_ge j zs.length with h3 | h3
      · omega
      · rw [List.getElem?_eq_none h3] at h1; cases h1)) (by rw [show j - 1 + 1 + 0 = j by omega]; exact h1)
    omega
theorem take_lens {es : List Nat} {k : Nat} (hk : k ≤ es.length) : (zsN (es.take k)).length = k := by rw [zsN_len, List.length_take]; omega

/-- What l13Period returns. -/
def PerPost (es : List Nat) (t : Nat) (g : Bool) (w : World) (e : Ending) (w' : World) : Prop :=
  ((g = true ∧ ∃ b c, e = .returned (.tuple #[.int .i64 (t : Nat), .slice b es.length c, .int .i64 (-1)]) ∧ w'.ownsRow w.heap.size 3 1 (.slice b es.length c) es.length (ints (zsN es))) ∨
    (g = false ∧ e = .returned (.tuple #[.int .i64 0, .slice none 0 0, .int .i64 (t : Nat)]))) ∧ Below w.heap.size w w'
set_option maxHeartbeats 400000 in
theorem lper_spec (a : Option Addr) (len cap : Nat) (zs : List Int) (xs es : List Nat) (t : Nat) (g : Bool) (w : World) (h : IntsAt w a len zs) (hm : len ≤ 1048576) (hp : PatC zs) (C : Crs zs xs es t g) :
    Calls Try.prog 74 #[.slice a len cap] w (PerPost es t g w) := by
  have HS := Lib.hid h
  have HC := Lib.hid C
  have HX := Lib.hid (C.small hp)
  have HK := Lib.hid C.msk
  have hone := C.one
  have hfew := C.few
  have htl := C.tle
  clear h C hp
  obtain ⟨m, hm0⟩ : ∃ m, mskN xs = m := ⟨_, rfl⟩
  have HMS := Lib.hid (msk_spec a len cap xs w (by rw [← HC.out.pat]; exact HS.out) hm HX.out HK.out)
  rw [hm0] at HMS HK
  have HM0 := Lib.hid hm0
  clear hm0
  go_enter Try.func74, Try.ntmps74
  go_wp2_with fail
  refine (HMS.out).mono ?_
  rintro e w1 ⟨rfl, rfl⟩
  go_wp2
  go_loopw [6, 7, 8] (fun v ti si wr => ∃ (k s t' : Nat), k ≤ es.length ∧ (g = true → k < es.length) ∧ ti = .int .i64 (t' : Nat) ∧ si = .int .i64 (s : Nat) ∧ Hid (entN m k = some (s, t', es.take k)) ∧ VecAt (zsN (es.take k)) w wr v) (fun v _ _ _ => match v with | .slice _ n _ => 100 - n | _ => 0)
  case atStart => exact ⟨0, 0, 0, by omega, fun _ => by omega, rfl, rfl, Lib.hid rfl, vec_made w⟩
  case round =>
    obtain ⟨k, s, t', hk, hkg, rfl, rfl, HE, ⟨av, cv, rfl, hown, hnx, hsz⟩⟩ := hrel
    obtain ⟨P, hP⟩ : ∃ P, zsN (es.take k) = P := ⟨_, rfl⟩
    rw [hP] at hown ⊢
    have HPP := Lib.hid hP
    have HPN : Hid (P.length = k) := Lib.hid (by rw [← hP]; exact take_lens hk)
    have HPL : P.length ≤ 1048577 := by have := HPN.out; omega
    have HOW := Lib.hid hown
    have HXX := Lib.hid hnx
    have HZ := Lib.hid hsz
    clear hown hnx hsz hP
    by_cases hlt : k < es.length
    · obtain ⟨s0, t0, s', n, c1, c2, c3, c4, c5, c6, c7, c8, c9, c10, c11⟩ := crs_step HC.out hlt
      rw [HM0.out] at c1 c2 c3
      have ee := HE.out
      rw [c1] at ee
      injection ee with ee
      injection ee with e1 ee
      injection ee with e2 ee
      subst e1 e2
      have HST := Lib.hid c2
      have HN := Lib.hid c3
      have HT : Hid (zsN (es.take (k + 1)) = P ++ [(t0 : Int)]) := Lib.hid (by rw [c4, zsN_snoc, HPP.out])
      have HZ0 := Lib.hid c9
      have HZ1 := Lib.hid c10
      have HTT := Lib.hid c11
      clear c1 c2 c3 c4 c9 c10 c11 ee hkg
      go_wp2_with fail
      refine (stp_yes m s0 _ HK.out c5 HST.out).mono ?_
      rintro e w2 ⟨rfl, rfl⟩
      by_cases hz : s' = 0
      · have HG := Lib.hid (HZ0.out hz)
        subst hz
        have hadd : (t0 : Int) + (n : Int) = (t : Int) := by have := HTT.out HG.out.2; omega
        go_wp2_with (at_builtin; refine append_int rfl _ _ rfl w.heap.size _ P _ _ HOW.out HPL HZ.out _ rfl rfl rfl ?_; intro a' c' w' hown' hb'; have HO2 := Lib.hid hown'; have HX2 := Lib.hid hb'; clear hown' hb')
        go_ret3
        have hL : P ++ [(t0 : Int)] = zsN es := by rw [← HT.out, List.take_of_length_le (by have := HG.out.2; omega)]
        have hO := HO2.out
        rw [hL, zsN_len] at hO
        have hn : P.length + 1 = es.length := by have := HPN.out; have := HG.out.2; omega
        refine ⟨.inl ⟨HG.out.1, a', c', ?_, hO⟩, HXX.out.trans HX2.out⟩
        show Ending.returned (.tuple #[.int .i64 (t : Nat), .slice a' (P.length + 1) c', .int .i64 (-1)]) = _
        rw [hn]
      · have hz' : ((s' : Int) == 0) = false := by simp; omega
        have hkk : Hid (g = true → k + 1 < es.length) := Lib.hid (fun hg => by
          rcases Nat.lt_or_ge (k + 1) es.length with h | h
          · exact h
          · exact absurd (HZ1.out hg (by omega)) hz)
        clear hz
        go_wp2_with (at_builtin; refine append_int rfl _ _ rfl w.heap.size _ P _ _ HOW.out HPL HZ.out _ rfl rfl rfl ?_; intro a' c' w' hown' hb'; have HO2 := Lib.hid hown'; have HX2 := Lib.hid hb'; clear hown' hb')
        go_roundw
        case rel =>
          refine ⟨k + 1, s', t0 + n, by omega, hkk.out, by go_num, rfl, HN, ?_⟩
          rw [HT.out]
          have := vec_snoc HXX.out HZ.out HO2.out HX2.out
          simpa using this
        case measure => show 100 - (P.length + 1) < 100 - P.length; have := HPN.out; omega
    · have hke : k = es.length := by omega
      have hg : g = false := by
        cases g with
        | true => exact absurd (hkg rfl) hlt
        | false => rfl
      obtain ⟨s3, f1, f2, f3⟩ := HC.out.fin
      have f4 := f3 hg
      rw [HM0.out] at f1 f4
      have ee := HE.out
      rw [hke, f1] at ee
      injection ee with ee
      injection ee with e1 ee
      injection ee with e2 ee
      subst e1 e2
      have hs : s3 < 8192 := by
        obtain ⟨s4, t4, d1, d2, d3, d4⟩ := HC.out.mid es.length (Nat.le_refl _)
        rw [HM0.out, f1] at d1
        injection d1 with d1
        injection d1 with d1 _
        omega
      have HN := Lib.hid f4
      have HG := Lib.hid hg
      clear f1 f2 f3 f4 ee hkg hke
      go_wp2_with fail
      refine (stp_no m s3 _ HK.out hs HN.out).mono ?_
      rintro e w2 ⟨rfl, rfl⟩
      go_wp2
      go_ret3
      exact ⟨.inr ⟨HG.out, rfl⟩, HXX.out⟩

/-! ### EntriesOf -/
theorem crs_fst {zs : List Int} {xs es : List Nat} {t : Nat} {g : Bool} (C : Crs zs xs es t g) {k : Nat} (hk : k < 40) (hg : g = true ∨ k < es.length) :
    ∃ s t' s' n, entN (mskN xs) k = some (s, t', fstN es t k) ∧ stpN (mskN xs) s = some (s', n) ∧ entN (mskN xs) (k + 1) = some (s', t' + n, fstN es t (k + 1)) ∧ fstN es t (k + 1) = fstN es t k ++ [t'] ∧
      s < 8192 ∧ t' ≤ 1000 ∧ s' < 8192 ∧ t' + n ≤ 1000 := by
  obtain ⟨s, t', h1, h2, h3⟩ := C.fst k (by omega) (hg.imp id (fun h => by omega))
  obtain ⟨s2, t2, h5, h6, h7⟩ := C.fst (k + 1) (by omega) (hg.imp id (fun h => by omega))
  obtain ⟨a, b, l, c, n, q1, q2, q3⟩ := ent_inv h5
  rw [h1] at q1
  injection q1 with q1
  injection q1 with e1 q1
  injection q1 with e2 e3
  subst e1 e2 e3
  injection q3 with e1 q3
  injection q3 with e2 e3
  subst e1 e2
  exact ⟨s, t', s2, n, h1, q2, h5, e3, h2, h3, h6, h7⟩
theorem crs_stop {zs : List Int} {xs es : List Nat} {t : Nat} {g : Bool} (C : Crs zs xs es t g) (hg : g = false) :
    ∃ s, entN (mskN xs) es.length = some (s, t, es) ∧ stpN (mskN xs) s = none ∧ s < 8192 := by
  obtain ⟨s3, f1, f2, f3⟩ := C.fin
  obtain ⟨s4, t4, d1, d2, d3, d4⟩ := C.mid es.length (Nat.le_refl _)
  rw [f1] at d1
  injection d1 with d1
  injection d1 with d1 _
  exact ⟨s3, f1, f3 hg, by omega⟩
theorem fst_len (es : List Nat) (t c : Nat) : (fstN es t c).length = c := by simp [fstN]
theorem fst_es {zs : List Int} {xs es : List Nat} {t : Nat} {g : Bool} (C : Crs zs xs es t g) : fstN es t es.length = es := by
  obtain ⟨s, t', h1, _⟩ := C.fst es.length (by have := C.few; omega) (.inr (Nat.le_refl _))
  obtain ⟨s2, h2, _⟩ := C.fin
  rw [h1] at h2
  injection h2 with h2
  injection h2 with _ h2
  injection h2
/-- What EntriesOf answers. -/
def EntC (zs : List Int) (c : Int) : Prop := PatC zs ∧ 0 ≤ c ∧ c ≤ 40 ∧ ((crsD (natL zs)).2.2 = true ∨ c ≤ (crsD (natL zs)).1.length)
noncomputable def entB (zs : List Int) (c : Int) : List Int := @ite _ (EntC zs c) (Classical.propDecidable _) (zsN (fstN (crsD (natL zs)).1 (crsD (natL zs)).2.1 c.toNat)) []
noncomputable def entQ (zs : List Int) (c : Int) : Bool := @decide (EntC zs c) (Classical.propDecidable _)
theorem entB_yes {zs : List Int} {c : Nat} {xs es : List Nat} {t : Nat} {g : Bool} (hp : PatC zs) (C : Crs zs xs es t g) (h : c ≤ 40) (hg : g = true ∨ c ≤ es.length) : entB zs c = zsN (fstN es t c) ∧ entQ zs c = true := by
  have hc : EntC zs c := ⟨hp, by omega, by omega, by rw [C.data]; rcases hg with hg | hg; exact .inl hg; exact .inr (by show (c : Int) ≤ (es.length : Int); omega)⟩
  unfold entB entQ
  rw [if_pos hc, C.data]
  simp [hc]
theorem entB_no {zs : List Int} {c : Int} (h : ¬ EntC zs c) : entB zs c = [] ∧ entQ zs c = false := by
  unfold entB entQ
  rw [if_neg h]
  simp [h]
theorem entC_no {zs : List Int} {c : Int} {xs es : List Nat} {t : Nat} {g : Bool} (C : Crs zs xs es t g) (hg : g = false) (h : (es.length : Int) < c) : ¬ EntC zs c := by
  rintro ⟨_, _, _, h1⟩
  rw [C.data] at h1
  rcases h1 with h1 | h1
  · change g = true at h1; rw [hg] at h1; cases h1
  · change c ≤ (es.length : Int) at h1; omega
def EntPost (l : List Int) (q : Bool) (w : World) (e : Ending) (w' : World) : Prop :=
  ∃ b c, e = .returned (.tuple #[.slice b l.length c, .bool q]) ∧ w'.ownsRow w.heap.size 3 1 (.slice b l.length c) l.length (ints l) ∧ Below w.heap.size w w'
theorem entpost_no {zs : List Int} {c : Int} {w w' : World} (h : ¬ EntC zs c) (hb : Below w.heap.size w w') : EntPost (entB zs c) (entQ zs c) w (.returned (.tuple #[.slice none 0 0, .bool false])) w' := by
  rw [(entB_no h).1, (entB_no h).2]
  exact ⟨none, 0, rfl, World.ownsRow_nil _ _ _ _, hb⟩
theorem entpost_yes {zs : List Int} {c : Nat} {xs es : List Nat} {t : Nat} {g : Bool} {w w' : World} {b : Option Addr} {n k : Nat} {L : List Int} (hp : PatC zs) (C : Crs zs xs es t g) (h : c ≤ 40) (hg : g = true ∨ c ≤ es.length) (hL : L = zsN (fstN es t c)) (hn : n = L.length)
    (ho : w'.ownsRow w.heap.size 3 1 (.slice b L.length k) L.length (ints L)) (hb : Below w.heap.size w w') : EntPost (entB zs c) (entQ zs c) w (.returned (.tuple #[.slice b n k, .bool true])) w' := by
  rw [(entB_yes hp C h hg).1, (entB_yes hp C h hg).2, ← hL, hn]
  exact ⟨b, k, rfl, ho, hb⟩
set_option maxHeartbeats 400000 in
theorem lent_spec (a : Option Addr) (len cap : Nat) (zs : List Int) (c : Int) (w : World) (h : IntsAt w a len zs) (hm0 : zs.length ≤ 1048576) (h3 : -9223372036854775808 ≤ c) (h4 : c ≤ 9223372036854775807) :
    Calls Try.prog 33 #[.slice a len cap, .int .i64 c] w (EntPost (entB zs c) (entQ zs c) w) := by
  have HS := Lib.hid h
  have hm : len ≤ 1048576 := by have := h.1; omega
  clear h
  by_cases hp : PatC zs
  · by_cases hin : 0 ≤ c ∧ c ≤ 40
    · obtain ⟨xs, es, t, g, C⟩ := crs_of hp
      obtain ⟨N, rfl⟩ : ∃ N : Nat, c = N := ⟨c.toNat, by omega⟩
      have HC := Lib.hid C
      have HX := Lib.hid (C.small hp)
      have HK := Lib.hid C.msk
      have HP := Lib.hid hp
      have hfew := C.few
      clear C hp
      obtain ⟨hin1, hin2⟩ := hin
      have hN : N ≤ 40 := by omega
      obtain ⟨m, hm0⟩ : ∃ m, mskN xs = m := ⟨_, rfl⟩
      have HMS := Lib.hid (fun w (hI : IntsAt w a len zs) => msk_spec a len cap xs w (by rw [← HC.out.pat]; exact hI) hm HX.out HK.out)
      rw [hm0] at HMS HK
      have HM0 := Lib.hid hm0
      clear hm0
      go_enter Try.func33, Try.ntmps33
      go_wp2_with (first
        | (go_at_call 29; refine (pok_spec a len cap zs _ HS.out hm true ⟨fun _ => rfl, fun h => absurd HP.out h⟩).mono ?_; rintro e w' ⟨rfl, rfl⟩)
        | (go_at_call 69; refine (in_yes _ _ _ _ hin1 hin2).mono ?_; rintro e w' ⟨rfl, rfl⟩))
      go_loopw [6, 7, 8, 9] (fun v ti si ci wr => ∃ (k s t' : Nat), k ≤ N ∧ (g = true ∨ k ≤ es.length) ∧ ci = .int .i64 (k : Nat) ∧ ti = .int .i64 (t' : Nat) ∧ si = .int .i64 (s : Nat) ∧ Hid (entN m k = some (s, t', fstN es t k)) ∧ VecAt (zsN (fstN es t k)) w wr v) (fun _ _ _ i _ => N - (intOf i).toNat)
      case atStart => exact ⟨0, 0, 0, by omega, .inr (by omega), rfl, rfl, rfl, Lib.hid rfl, vec_made w⟩
      case round =>
        obtain ⟨k, s, t', hk, hkg, rfl, rfl, rfl, HE, ⟨av, cv, rfl, hown, hnx, hsz⟩⟩ := hrel
        obtain ⟨P, hP⟩ : ∃ P, zsN (fstN es t k) = P := ⟨_, rfl⟩
        rw [hP] at hown ⊢
        have HPP := Lib.hid hP
        have HPN : Hid (P.length = k) := Lib.hid (by rw [← hP, zsN_len, fst_len])
        have HPL : P.length ≤ 1048577 := by have := HPN.out; omega
        have HOW := Lib.hid hown
        have HXX := Lib.hid hnx
        have HZ := Lib.hid hsz
        have HKG := Lib.hid hkg
        clear hown hnx hsz hP hkg
        have HI := Lib.hid (HS.out.below HXX.out)
        by_cases hlt : k < N
        · by_cases hk2 : g = true ∨ k < es.length
          · obtain ⟨s0, t0, s', n, c1, c2, c3, c4, c5, c6, c7, c8⟩ := crs_fst HC.out (show k < 40 by omega) hk2
            rw [HM0.out] at c1 c2 c3
            have ee := HE.out
            rw [c1] at ee
            injection ee with ee
            injection ee with e1 ee
            injection ee with e2 ee
            subst e1 e2
            have HST := Lib.hid c2
            have HN := Lib.hid c3
            have HT : Hid (zsN (fstN es t (k + 1)) = P ++ [(t0 : Int)]) := Lib.hid (by rw [c4, zsN_snoc, HPP.out])
            have HK2 : Hid (g = true ∨ k + 1 ≤ es.length) := Lib.hid (hk2.imp id (fun h => by omega))
            clear c1 c2 c3 c4 ee hk2
            go_wp2_with (first
              | (go_at_call 71; refine (HMS.out _ HI.out).mono ?_; rintro e w' ⟨rfl, rfl⟩)
              | (go_at_call 70; refine (stp_yes m s0 _ HK.out c5 HST.out).mono ?_; rintro e w' ⟨rfl, rfl⟩)
              | (at_builtin; refine append_int rfl _ _ rfl w.heap.size _ P _ _ HOW.out HPL HZ.out _ rfl rfl rfl ?_; intro a' c' w' hown' hb'; have HO2 := Lib.hid hown'; have HX2 := Lib.hid hb'; clear hown' hb'))
            go_roundw
            case rel =>
              refine ⟨k + 1, s', t0 + n, by omega, HK2.out, by go_num, by go_num, rfl, HN, ?_⟩
              rw [HT.out]
              have := vec_snoc HXX.out HZ.out HO2.out HX2.out
              simpa using this
            case measure => simp [intOf]; omega
          · have hgf : g = false := by
              cases g with
              | true => exact absurd (.inl rfl) hk2
              | false => rfl
            have hke : k = es.length := by have := HKG.out; rw [hgf] at this; simp at this; omega
            obtain ⟨s3, f1, f2, f3⟩ := crs_stop HC.out hgf
            rw [HM0.out] at f1 f2
            have ee := HE.out
            rw [hke, f1] at ee
            injection ee with ee
            injection ee with e1 ee
            injection ee with e2 ee
            subst e1 e2
            have HN := Lib.hid f2
            have HNO := Lib.hid (entC_no HC.out hgf (show (es.length : Int) < (N : Int) by omega))
            clear f1 f2 ee hk2 hke
            go_wp2_with (first
              | (go_at_call 71; refine (HMS.out _ HI.out).mono ?_; rintro e w' ⟨rfl, rfl⟩)
              | (go_at_call 70; refine (stp_no m s3 _ HK.out f3 HN.out).mono ?_; rintro e w' ⟨rfl, rfl⟩))
            go_ret2
            exact entpost_no HNO.out HXX.out
        · have hkN : k = N := by omega
          subst hkN
          go_wp2
          go_ret2
          exact entpost_yes HP.out HC.out hN HKG.out HPP.out.symm rfl HOW.out HXX.out
    · have HN := Lib.hid (show ¬ EntC zs c from fun h => hin ⟨h.2.1, h.2.2.1⟩)
      have HI := Lib.hid hin
      have HP := Lib.hid hp
      clear hin hp
      go_enter Try.func33, Try.ntmps33
      go_wp2_with (first
        | (go_at_call 29; refine (pok_spec a len cap zs _ HS.out hm true ⟨fun _ => rfl, fun h => absurd HP.out h⟩).mono ?_; rintro e w' ⟨rfl, rfl⟩)
        | (go_at_call 69; refine (in_no _ _ _ _ HI.out).mono ?_; rintro e w' ⟨rfl, rfl⟩))
      go_ret2
      exact entpost_no HN.out (Below.refl _ _)
  · have HN := Lib.hid (show ¬ EntC zs c from fun h => hp h.1)
    have HP := Lib.hid hp
    clear hp
    go_enter Try.func33, Try.ntmps33
    go_wp2_with (go_at_call 29; refine (pok_spec a len cap zs _ HS.out hm false ⟨fun h => absurd h HP.out, fun _ => rfl⟩).mono ?_; rintro e w' ⟨rfl, rfl⟩)
    go_ret2
    exact entpost_no HN.out (Below.refl _ _)
end Go.Proofs.Ytldpikcgeijkpaa.Rhy
