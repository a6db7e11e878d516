/-
  Helpers of the claims beside this text: plain mathematics of generated rhythms, on: what is behind a chain; the other pulses; the sizes of the steps, which a turn keeps; even rhythms and rhythms with two sizes of each span are generated.
-/
import Derived.Test.YthcmpkhfimapgaaGnf
namespace Go.Proofs.Ythcmpkhfimapgaa.Rhy
set_option linter.unusedVariables false

theorem chB_rr {n k : Nat} {g t : Int} (hc : GenC n k g) (hg : g < n) : chB n (rrZ n k g t) g = chP n (chF n (rrZ n k g t) g) g k := by
  rw [chB_yes (gn_has hc hg), rr_len hc]
theorem chP_at {n s g : Int} {j i : Nat} (h : i < j) : (chP n s g j)[i]?.getD 0 = (s + i * g) % n := by
  unfold chP
  rw [List.getElem?_map, List.getElem?_range h]
  rfl
theorem exP_rr {n k : Nat} {g t : Int} (hc : GenC n k g) (hg : g < n) (hk : 1 ≤ k) : exP n (rrZ n k g t) g = (chF n (rrZ n k g t) g + k * g) % n := by
  unfold exP
  rw [chB_rr hc hg, chP_len, chP_at (show k - 1 < k by omega), em_add]
  congr 1
  have : ((k - 1 : Nat) : Int) = (k : Int) - 1 := by omega
  rw [this, Int.sub_mul]
  omega
theorem ex_iff {n k g : Nat} {t : Int} (hc : GenC n k g) (hg : g < n) : exC n (rrZ n k g t) g ↔ 0 < k ∧ (k + 1) * Nat.gcd g n ≤ n := by
  have h1 := hc.1
  have hn : 1 ≤ n ∧ n ≤ 24 := by have := h1.1; have := h1.2.1; omega
  have hg1 : 1 ≤ g := by have := hc.2.1.1; omega
  have hkn : k ≤ n := by have := h1.2.2.2; omega
  have hle := (genC_iff hn hkn ⟨hg1, by omega⟩).1 hc
  unfold exC
  rw [chB_rr hc (by omega), chP_len]
  constructor
  · rintro ⟨h0, hb⟩
    refine ⟨h0, ?_⟩
    rw [← room_iff hn hg1 h0 hle]
    intro hd
    rw [exP_rr hc (by omega) h0] at hb
    have hin := chain_in (t := t) hc (i := 0) h0
    have e : (chF n (rrZ n k g t) g + k * (g : Int)) % n = (chF n (rrZ n k g t) g + ((0 : Nat) : Int) * g) % n := by
      rw [eq_mod, show ((0 : Nat) : Int) * (g : Int) = 0 from Int.zero_mul _]
      rw [show chF n (rrZ n k g t) g + k * (g : Int) - (chF n (rrZ n k g t) g + 0) = k * (g : Int) by omega]
      exact hd
    rw [e] at hb
    unfold hasB at hb
    rw [List.contains_iff_mem.2 hin] at hb
    cases hb
  · rintro ⟨h0, hr⟩
    refine ⟨h0, ?_⟩
    have hnd := (room_iff hn hg1 h0 hle).2 hr
    rw [exP_rr hc (by omega) h0]
    rcases chain_from (t := t) hc h0 with e | ⟨hd, _⟩
    · rw [e, em_add]
      cases hq : hasB (rrZ n k g t) ((t + (k : Int) * g) % n)
      · rfl
      · exfalso
        unfold hasB at hq
        rw [List.contains_iff_mem, rr_mem hn] at hq
        obtain ⟨i, hi, ei⟩ := hq
        have hc2 := (genC_iff hn (show k + 1 ≤ n by
          have := Nat.le_mul_of_pos_right (k + 1) (Nat.gcd_pos_of_pos_right g (show 0 < n by omega))
          omega) ⟨hg1, by omega⟩).2 hr
        have h2 := hc2.2.2
        rw [genP_nodup, Int.toNat_natCast] at h2
        refine h2 i k hi (by omega) ?_
        rw [genT_eq]
        rw [eq_mod] at ei
        have e5 : t + (i : Int) * g - (t + (k : Int) * g) = ((i : Int) - k) * g := by rw [Int.sub_mul]; omega
        rwa [e5] at ei
    · exact absurd hd hnd
theorem ex_rr {n k g : Nat} {t : Int} (hc : GenC n k g) (hg : g < n) (hx : exC n (rrZ n k g t) g) : exZ n (rrZ n k g t) g = rrZ n (k + 1) g t ∧ GenC n (k + 1 : Nat) g := by
  have h1 := hc.1
  have hn : 1 ≤ n ∧ n ≤ 24 := by have := h1.1; have := h1.2.1; omega
  have hg1 : 1 ≤ g := by have := hc.2.1.1; omega
  have hkn : k ≤ n := by have := h1.2.2.2; omega
  have hle := (genC_iff hn hkn ⟨hg1, by omega⟩).1 hc
  obtain ⟨h0, hr⟩ := (ex_iff hc hg).1 hx
  have hnd := (room_iff hn hg1 h0 hle).2 hr
  have hc2 := (genC_iff hn (show k + 1 ≤ n by
    have := Nat.le_mul_of_pos_right (k + 1) (Nat.gcd_pos_of_pos_right g (show 0 < n by omega))
    omega) ⟨hg1, by omega⟩).2 hr
  refine ⟨?_, hc2⟩
  have hF : chF n (rrZ n k g t) g = t % n := by
    rcases chain_from (t := t) hc h0 with e | ⟨hd, _⟩
    · exact e
    · exact absurd hd hnd
  have hmem : ∀ x, x ∈ exZ n (rrZ n k g t) g ↔ x ∈ rrZ n (k + 1) g t := by
    intro x
    unfold exZ
    rw [ofZ_mem, List.mem_append, List.mem_singleton, chB_rr hc (by omega), exP_rr hc (by omega) h0, hF, rr_mem hn, Int.toNat_natCast]
    unfold chP
    rw [List.mem_map]
    constructor
    · rintro ⟨_, ⟨i, hi, e⟩ | e⟩
      · have := List.mem_range.1 hi
        exact ⟨i, by omega, by rw [← e, em_add]⟩
      · exact ⟨k, by omega, by rw [e, em_add]⟩
    · rintro ⟨i, hi, e⟩
      have hb := em_bd (t + (i : Int) * g) (show (1 : Int) ≤ (n : Int) by omega)
      refine ⟨by omega, ?_⟩
      by_cases q : i < k
      · exact .inl ⟨i, List.mem_range.2 q, by rw [em_add]; exact e⟩
      · obtain rfl : i = k := by omega
        exact .inr (by rw [em_add]; exact e.symm)
  have hok : Ok n (exZ n (rrZ n k g t) g) := by
    refine ok_of (by omega) (by omega) (ofZ_sorted _ _) fun z hz => ?_
    have := (ofZ_mem.1 hz).1
    omega
  exact ok_ext' hok (rr_ok hn) hmem

/-! ### the other pulses -/
theorem full_mem {n : Nat} {zs : List Int} (ho : Ok n zs) (hl : zs.length = n) {x : Int} (hx : 0 ≤ x ∧ x < n) : x ∈ zs := by
  have h1 := not_len ho
  rw [Int.toNat_natCast] at h1
  have h2 : notZ n zs = [] := List.eq_nil_of_length_eq_zero (by omega)
  by_cases h : x ∈ zs
  · exact h
  · have : x ∈ notZ n zs := not_mem.2 ⟨hx, h⟩
    rw [h2] at this; cases this
theorem not_rr {n k g : Nat} {t : Int} (hn : 1 ≤ n ∧ n ≤ 24) (hg : 1 ≤ g ∧ g < n) (hk : k ≤ n) (h : Nat.gcd g n = 1) : notZ n (rrZ n k g t) = rrZ n (n - k) g (t + (k : Int) * g) := by
  have hall := (genC_iff (k := n) hn (Nat.le_refl _) ⟨hg.1, by omega⟩).2 (by rw [h]; omega)
  have hnd := hall.2.2
  rw [genP_nodup, Int.toNat_natCast] at hnd
  have hex : ∀ x : Int, 0 ≤ x ∧ x < n → ∃ i : Nat, i < n ∧ (t + i * (g : Int)) % n = x := fun x hx =>
    (rr_mem hn).1 (full_mem (rr_ok (t := t) hn) (rr_len hall) hx)
  have huniq : ∀ i j : Nat, i < n → j < n → (t + i * (g : Int)) % n = (t + j * (g : Int)) % n → i = j := by
    intro i j hi hj e
    rw [eq_mod] at e
    have e5 : t + (i : Int) * g - (t + (j : Int) * g) = ((i : Int) - j) * g := by rw [Int.sub_mul]; omega
    rw [e5, ← genT_eq] at e
    rcases Nat.lt_trichotomy i j with q | q | q
    · exact absurd e (hnd i j q hj)
    · exact q
    · exact absurd e.symm (hnd j i q hi)
  have hok : Ok n (notZ n (rrZ n k g t)) := by
    have := not_ok (rr_ok (k := k) (g := g) (t := t) hn)
    rwa [Int.toNat_natCast] at this
  refine ok_ext' hok (rr_ok hn) fun x => ?_
  rw [not_mem, rr_mem hn, rr_mem hn]
  have eshift : ∀ i : Nat, t + (k : Int) * g + i * g = t + ((k + i : Nat) : Int) * g := fun i => by rw [Int.natCast_add, Int.add_mul]; omega
  constructor
  · rintro ⟨hx, hno⟩
    obtain ⟨j, hj, e⟩ := hex x hx
    have hjk : k ≤ j := by
      rcases Nat.lt_or_ge j k with q | q
      · exact absurd ⟨j, q, e⟩ hno
      · exact q
    refine ⟨j - k, by omega, ?_⟩
    rw [eshift, show k + (j - k) = j by omega]
    exact e
  · rintro ⟨i, hi, e⟩
    rw [eshift] at e
    refine ⟨by rw [← e]; exact em_bd _ (by omega), ?_⟩
    rintro ⟨j, hj, e2⟩
    have := huniq j (k + i) (by omega) (by omega) (by rw [e2, e])
    omega

/-! ### the sizes of the steps -/
/-- From a beat to the next one. -/
def NextC (n : Int) (zs : List Int) (x : Int) : Prop := ∃ p ∈ zs, (1 ≤ x ∧ x ≤ n) ∧ (p + x) % n ∈ zs ∧ ∀ y : Int, 1 ≤ y → y < x → (p + y) % n ∉ zs
theorem step_next {n : Int} {zs : List Int} (h : Ok n zs) {i : Nat} (hi : i < zs.length) : (1 ≤ stepAt n zs i ∧ stepAt n zs i ≤ n) ∧ (zs[i]?.getD 0 + stepAt n zs i) % n ∈ zs ∧ ∀ y : Int, 1 ≤ y → y < stepAt n zs i → (zs[i]?.getD 0 + y) % n ∉ zs := by
  have hb := step_bd h hi
  refine ⟨hb, ?_⟩
  have bi := beat_bd h hi
  unfold stepAt at hb ⊢
  have hord : ∀ j, j < zs.length → (zs[j]?.getD 0 < zs[i]?.getD 0 ∧ j < i) ∨ j = i ∨ (zs[i]?.getD 0 < zs[j]?.getD 0 ∧ i < j) := by
    intro j hj
    rcases Nat.lt_trichotomy j i with q | q | q
    · exact .inl ⟨beat_lt h hi q, q⟩
    · exact .inr (.inl q)
    · exact .inr (.inr ⟨beat_lt h hj q, q⟩)
  by_cases h1 : i + 1 < zs.length
  · have e : zs[i + 1]?.getD (zs[0]?.getD 0 + n) = zs[i + 1]?.getD 0 := by rw [List.getElem?_eq_getElem h1]; rfl
    rw [e] at hb ⊢
    have b1 := beat_bd h h1
    refine ⟨?_, fun y hy1 hy2 hm => ?_⟩
    · rw [show zs[i]?.getD 0 + (zs[i + 1]?.getD 0 - zs[i]?.getD 0) = zs[i + 1]?.getD 0 by omega, Int.emod_eq_of_lt b1.1 b1.2]
      exact getD_mem h1
    · rw [Int.emod_eq_of_lt (by omega) (by omega)] at hm
      obtain ⟨j, hj, ej⟩ := mem_getD hm
      rcases hord j hj with q | q | q
      · omega
      · subst q; omega
      · rcases Nat.lt_or_ge (i + 1) j with r | r
        · have := beat_lt h hj r; omega
        · obtain rfl : j = i + 1 := by omega
          omega
  · have e : zs[i + 1]?.getD (zs[0]?.getD 0 + n) = zs[0]?.getD 0 + n := by rw [List.getElem?_eq_none (by omega)]; rfl
    rw [e] at hb ⊢
    have b0 := beat_bd h (show 0 < zs.length by omega)
    refine ⟨?_, fun y hy1 hy2 hm => ?_⟩
    · rw [show zs[i]?.getD 0 + (zs[0]?.getD 0 + n - zs[i]?.getD 0) = zs[0]?.getD 0 + n by omega, Int.add_emod_right, Int.emod_eq_of_lt b0.1 b0.2]
      exact getD_mem (by omega)
    · obtain ⟨j, hj, ej⟩ := mem_getD hm
      by_cases hw : zs[i]?.getD 0 + y < n
      · rw [Int.emod_eq_of_lt (by omega) hw] at ej
        rcases hord j hj with q | q | q
        · omega
        · subst q; omega
        · omega
      · have e2 : (zs[i]?.getD 0 + y) % n = zs[i]?.getD 0 + y - n := by
          rw [show zs[i]?.getD 0 + y = (zs[i]?.getD 0 + y - n) + n by omega, Int.add_emod_right]
          rw [Int.emod_eq_of_lt (by omega) (by omega)]
          omega
        rw [e2] at ej
        rcases Nat.eq_zero_or_pos j with q | q
        · subst q; omega
        · have := beat_lt h hj q; omega
theorem steps_iff {n : Int} {zs : List Int} (h : Ok n zs) {x : Int} : x ∈ stepsZ n zs ↔ NextC n zs x := by
  unfold stepsZ stepsP
  rw [List.mem_map]
  constructor
  · rintro ⟨i, hi, rfl⟩
    have hi := List.mem_range.1 hi
    obtain ⟨h1, h2, h3⟩ := step_next h hi
    exact ⟨_, getD_mem hi, h1, h2, h3⟩
  · rintro ⟨p, hp, h1, h2, h3⟩
    obtain ⟨i, hi, rfl⟩ := mem_getD hp
    refine ⟨i, List.mem_range.2 hi, ?_⟩
    obtain ⟨g1, g2, g3⟩ := step_next h hi
    rcases Int.lt_trichotomy (stepAt n zs i) x with q | q | q
    · exact absurd g2 (h3 _ g1.1 q)
    · exact q
    · exact absurd h2 (g3 _ h1.1 q)
theorem next_rot {n : Nat} {zs : List Int} (h : Ok n zs) (t : Int) {x : Int} : NextC n (rotZ n zs 1 t) x → NextC n zs x := by
  have hn := h.1
  rintro ⟨p, hp, h1, h2, h3⟩
  rw [rot_mem h] at hp h2
  refine ⟨(p - t) % n, hp.2, h1, ?_, fun y hy1 hy2 hm => h3 y hy1 hy2 ?_⟩
  · have := h2.2
    rw [em_sub] at this
    rw [em_add, show p - t + x = p + x - t by omega]
    exact this
  · rw [rot_mem h]
    refine ⟨em_bd _ hn.1, ?_⟩
    rw [em_sub]
    rw [em_add, show p - t + y = p + y - t by omega] at hm
    exact hm
theorem sizes_rot {n : Nat} {zs : List Int} (h : Ok n zs) (t : Int) : sizeB n (rotZ n zs 1 t) = sizeB n zs := by
  have hr : Ok n (rotZ n zs 1 t) := rot_ok h.1 1 t
  unfold sizeB
  rw [stB_yes h, stB_yes hr]
  refine ofZ_congr fun x => ?_
  rw [steps_iff h, steps_iff hr]
  constructor
  · exact next_rot h t
  · intro q
    have e : rotZ n (rotZ n zs 1 t) 1 (-t) = zs := by rw [rot_rot h, show t + -t = 0 by omega, rot_zero h]
    rw [← e] at q
    exact next_rot hr (-t) q
end Go.Proofs.Ythcmpkhfimapgaa.Rhy

/-
  Helpers of the claims beside this text: generated rhythms of at most 17 pulses have at most three sizes of steps, the greatest of which is a sum; even rhythms whose numbers have no divisor in common, and rhythms with two sizes of each span, are generated.
-/
namespace Go.Proofs.Ythcmpkhfimapgaa.Rhy
set_option linter.unusedVariables false

def szT (n k g : Nat) : Bool := !decide (k * Nat.gcd g n ≤ n) || (decide ((ofZ 25 (stepsZ n (genZ n k g))).length ≤ 3) && smB (ofZ 25 (stepsZ n (genZ n k g))))
def szAll : Bool := (List.range 16).all fun m => (List.range (m + 3)).all fun k => (List.range (m + 1)).all fun j => szT (m + 2) k (j + 1)
set_option maxRecDepth 1000000 in
theorem szAll_yes : szAll = true := by decide +kernel
theorem sizes_few {n k g : Nat} (hn : 2 ≤ n ∧ n ≤ 17) (hk : k ≤ n) (hg : 1 ≤ g ∧ g < n) (hc : k * Nat.gcd g n ≤ n) : (sizeB n (genZ n k g)).length ≤ 3 ∧ smB (sizeB n (genZ n k g)) = true := by
  have e := szAll_yes
  unfold szAll at e
  rw [List.all_eq_true] at e
  have e1 := e (n - 2) (List.mem_range.2 (by omega))
  rw [List.all_eq_true] at e1
  have e2 := e1 k (List.mem_range.2 (by omega))
  rw [List.all_eq_true] at e2
  have e3 := e2 (g - 1) (List.mem_range.2 (by omega))
  unfold szT at e3
  rw [show n - 2 + 2 = n by omega, show g - 1 + 1 = g by omega, decide_eq_true hc] at e3
  simp only [Bool.not_true, Bool.false_or, Bool.and_eq_true, decide_eq_true_eq] at e3
  unfold sizeB
  rw [stB_yes (genZ_ok (by omega))]
  exact e3
def evT7 (n k : Nat) : Bool := !decide (Nat.gcd k n = 1) || (List.range n).any fun g => decide (1 ≤ g) && decide (Nat.gcd g n = 1) && decide (evZ k n 0 = genZ n k g)
def evAll7 : Bool := (List.range 16).all fun m => (List.range (m + 3)).all fun k => evT7 (m + 2) k
set_option maxRecDepth 1000000 in
theorem evAll7_yes : evAll7 = true := by decide +kernel
theorem even_gen {n k : Nat} (hn : 2 ≤ n ∧ n ≤ 17) (hk : k ≤ n) (h : Nat.gcd k n = 1) : isgB n (evZ k n 0) = true := by
  have e := evAll7_yes
  unfold evAll7 at e
  rw [List.all_eq_true] at e
  have e1 := e (n - 2) (List.mem_range.2 (by omega))
  rw [List.all_eq_true] at e1
  have e2 := e1 k (List.mem_range.2 (by omega))
  unfold evT7 at e2
  rw [show n - 2 + 2 = n by omega, decide_eq_true h] at e2
  simp only [Bool.not_true, Bool.false_or] at e2
  rw [List.any_eq_true] at e2
  obtain ⟨g, hg, e3⟩ := e2
  simp only [Bool.and_eq_true, decide_eq_true_eq] at e3
  have hgn := List.mem_range.1 hg
  have hc : GenC n k g := (genC_iff (by omega) hk ⟨e3.1.1, by omega⟩).2 (by rw [e3.1.2]; omega)
  have e4 : rrZ n k g 0 = evZ k n 0 := by
    rw [e3.2]
    exact rot_zero (genZ_ok (by omega))
  rw [← e4]
  exact gn_any (gn_has hc (by omega))
theorem two_gen {n : Nat} {zs : List Int} (h : htC n zs) : isgB n zs = true := by
  obtain ⟨ho, h2, hs⟩ := h
  have hn := ho.1
  obtain ⟨d, s, hd1, hd2, hnd, e⟩ := myhill ho h2 (fun k hk1 hk => by
    have := hs k hk1 hk
    rwa [spansB_eq ho (by omega) (by omega), stB_yes ho, spansL_spn ho hk] at this)
  have hl := ok_size ho
  have hc : GenC n (zs.length : Nat) d := ⟨⟨by omega, by omega, by omega, by omega⟩, ⟨by omega, by omega⟩, by rw [Int.toNat_natCast]; exact hnd⟩
  have e2 : rrZ n zs.length d s = zs := e.symm
  have := gn_any (gn_has (t := s) hc (by omega))
  rwa [e2] at this
def majZ : List Int := [0, 2, 4, 5, 7, 9, 11]
def majT : Bool := (List.range 7).all fun k => !decide (1 ≤ k) || decide ((ofZ 577 (spnR 12 majZ k)).length = 2)
set_option maxRecDepth 1000000 in
theorem majT_yes : majT = true := by decide +kernel
theorem maj_ok : Ok (12 : Nat) majZ := ok_of (by decide) (by decide) (by unfold majZ; decide) (by unfold majZ; decide)
theorem maj_two : htB (12 : Nat) majZ = true := by
  refine htB_yes ⟨maj_ok, by decide, fun k hk1 hk => ?_⟩
  rw [spansB_eq maj_ok (by decide) (by omega), stB_yes maj_ok, spansL_spn maj_ok hk]
  have e := majT_yes
  unfold majT at e
  rw [List.all_eq_true] at e
  have e1 := e k (List.mem_range.2 hk)
  rw [decide_eq_true hk1] at e1
  simpa using e1
end Go.Proofs.Ythcmpkhfimapgaa.Rhy

/-
  Helpers of the claims beside this text: what the law on generated rhythms asks.
-/
namespace Go.Proofs.Ythcmpkhfimapgaa.Rhy
open Go.RowKit
set_option linter.unusedVariables false

section
variable {n k g : Nat} {t : Int} {RR : List Int}
theorem f_ok (hn : 2 ≤ n ∧ n ≤ 17) (h : rrZ n k g t = RR) : Ok n RR := by rw [← h]; exact rr_ok (by omega)
theorem f_len (hc : GenC n k g) (h : rrZ n k g t = RR) : RR.length = k := by rw [← h]; exact rr_len hc
theorem f_has (hc : GenC n k g) (hg : g < n) (h : rrZ n k g t = RR) : hasB (gnB n RR) g = true := by rw [← h]; exact gn_has hc (by omega)
theorem gcd_opp (hg : 1 ≤ g ∧ g < n) : Nat.gcd (n - g) n = Nat.gcd g n := by
  apply Nat.dvd_antisymm
  · refine Nat.dvd_gcd ?_ (Nat.gcd_dvd_right _ _)
    have h := Nat.dvd_sub (Nat.gcd_dvd_right (n - g) n) (Nat.gcd_dvd_left (n - g) n)
    rwa [show n - (n - g) = g by omega] at h
  · exact Nat.dvd_gcd (Nat.dvd_sub (Nat.gcd_dvd_right g n) (Nat.gcd_dvd_left g n)) (Nat.gcd_dvd_right _ _)
theorem f_opp (hn : 2 ≤ n ∧ n ≤ 17) (hk : k ≤ n) (hg : 1 ≤ g ∧ g < n) (hc : GenC n k g) (h : rrZ n k g t = RR) : hasB (gnB n RR) ((n : Int) - g) = true := by
  have hc' : GenC n k ((n - g : Nat) : Int) := (genC_iff (by omega) hk (by omega)).2 (by rw [gcd_opp hg]; exact (genC_iff (by omega) hk (by omega)).1 hc)
  have e := rr_opp (n := n) (k := k) (g := g) (t := t) (by omega) (by omega)
  have h2 := gn_has (t := t + ((k : Int) - 1) * g) hc' (by omega)
  rw [e, h, show ((n - g : Nat) : Int) = (n : Int) - g by omega] at h2
  exact h2
theorem f_isg (hc : GenC n k g) (hg : g < n) (h : rrZ n k g t = RR) : isgB n RR = true := gn_any (f_has hc hg h)
theorem f_chl (hc : GenC n k g) (hg : g < n) (h : rrZ n k g t = RR) : (chB n RR g).length = k := by rw [← h, chB_rr hc (by omega), chP_len]
theorem f_siz (h : rrZ n k g t = RR) (hn : 2 ≤ n ∧ n ≤ 17) : sizeB n RR = sizeB n (genZ n k g) := by
  rw [← h]
  exact sizes_rot (genZ_ok (by omega)) t
theorem f_few (hn : 2 ≤ n ∧ n ≤ 17) (hk : k ≤ n) (hg : 1 ≤ g ∧ g < n) (hc : GenC n k g) (h : rrZ n k g t = RR) : (sizeB n RR).length ≤ 3 ∧ smB (sizeB n RR) = true := by
  rw [f_siz h hn]
  exact sizes_few hn hk hg ((genC_iff (by omega) hk (by omega)).1 hc)
theorem f_not (hn : 2 ≤ n ∧ n ≤ 17) (hk : k ≤ n) (hg : 1 ≤ g ∧ g < n) (hd : Nat.gcd g n = 1) (h : rrZ n k g t = RR) : hasB (gnB n (notZ n RR)) g = true := by
  rw [← h, not_rr (by omega) hg hk hd]
  exact gn_has ((genC_iff (k := n - k) (by omega) (by omega) (by omega)).2 (by rw [hd]; omega)) (by omega)
theorem f_chat (hc : GenC n k g) (hg : g < n) (h : rrZ n k g t = RR) {i : Nat} (hi : i < k) : (chB n RR g)[i]?.getD 0 = (chF n RR g + i * g) % n := by
  rw [← h, chB_rr hc (by omega), chP_at hi]
theorem f_in (hn : 2 ≤ n ∧ n ≤ 17) (hc : GenC n k g) (hg : g < n) (h : rrZ n k g t = RR) {i : Nat} (hi : i < k) {p : Int} (hp : (chB n RR g)[i]?.getD 0 = p) : hasB RR (remB p n) = true ∧ 0 ≤ p ∧ p < n := by
  have h1 : (chB n RR g)[i]?.getD 0 ∈ RR := by
    rw [f_chat hc hg h hi, ← h]
    exact chain_in hc hi
  rw [hp] at h1
  have hb : 0 ≤ p ∧ p < n := ok_range (f_ok hn h) p h1
  refine ⟨?_, hb⟩
  have e : remB p n = p := Int.emod_eq_of_lt hb.1 hb.2
  rw [e]
  unfold hasB
  simpa using h1
theorem f_next (hc : GenC n k g) (hg : 1 ≤ g ∧ g < n) (h : rrZ n k g t = RR) {i : Nat} (hi : i + 1 < k) {p q : Int} (hp : (chB n RR g)[i + 1]?.getD 0 = p) (hq : (chB n RR g)[i]?.getD 0 = q) : (p - q + n) % n = g := by
  rw [← hp, ← hq, f_chat hc hg.2 h hi, f_chat hc hg.2 h (by omega)]
  generalize chF n RR g = s
  rw [Int.add_emod, Int.emod_self, Int.add_zero, Int.emod_emod_of_dvd _ (Int.dvd_refl _), ← Int.sub_emod]
  rw [show s + ((i + 1 : Nat) : Int) * g - (s + (i : Int) * g) = g by push_cast; rw [Int.add_mul]; omega]
  exact Int.emod_eq_of_lt (by omega) (by omega)
theorem f_ext (hc : GenC n k g) (hg : 1 ≤ g ∧ g < n) (h : rrZ n k g t = RR) : exC n RR g ↔ 0 < k ∧ (k + 1) * Nat.gcd g n ≤ n := by rw [← h]; exact ex_iff hc (by omega)
theorem f_exz (hc : GenC n k g) (hg : 1 ≤ g ∧ g < n) (h : rrZ n k g t = RR) (hx : exC n RR g) : ∃ Y, exZ n RR g = Y ∧ rrZ n (k + 1) g t = Y ∧ GenC n (k + 1 : Nat) g := by
  have := ex_rr (t := t) hc (by omega) (by rw [h]; exact hx)
  rw [h] at this
  exact ⟨_, this.1, rfl, this.2⟩
theorem f_two (hn : 2 ≤ n ∧ n ≤ 17) (hk : k ≤ n) (hg : 1 ≤ g ∧ g < n) (hc : GenC n k g) (h : rrZ n k g t = RR) {q : Nat} (hq : (sizeB n RR).length = q) : hasB (tsB n g) k = (decide (2 ≤ k) && decide (k < n) && decide (q ≤ 2)) := by
  have hT : TsC n g := ⟨by omega, by omega⟩
  have hs := f_siz h hn
  have hm : (k : Int) ∈ tsB n g ↔ (2 ≤ k ∧ k < n) ∧ q ≤ 2 := by
    unfold tsB
    rw [cZ_yes hT, tsP_mem, Int.toNat_natCast]
    unfold tsQ csB
    rw [← hs, hq]
    constructor
    · rintro ⟨h1, h2, h3⟩; exact ⟨by omega, by omega⟩
    · rintro ⟨h1, h2⟩; exact ⟨by omega, hc, by omega⟩
  unfold hasB
  by_cases hh : (2 ≤ k ∧ k < n) ∧ q ≤ 2
  · have h1 := hm.2 hh
    simp [hh, h1]
  · have h1 : ¬ (k : Int) ∈ tsB n g := fun q => hh (hm.1 q)
    rw [show (tsB n g).contains (k : Int) = false by simpa using h1]
    symm
    simp
    omega
end
end Go.Proofs.Ythcmpkhfimapgaa.Rhy
