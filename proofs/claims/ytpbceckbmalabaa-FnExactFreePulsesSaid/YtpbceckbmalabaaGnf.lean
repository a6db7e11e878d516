/-
  Helpers of the claims beside this text: plain mathematics of generated rhythms: how many beats they may have, their generators, their chains, what is behind them, their other pulses, their steps.
-/
import Derived.Test.YtpbceckbmalabaaGnm
import Derived.Test.YtpbceckbmalabaaIvl
import Derived.Test.YtpbceckbmalabaaStm
namespace Go.Proofs.Ytpbceckbmalabaa.Rhy
set_option linter.unusedVariables false

theorem eq_mod {n a b : Int} : a % n = b % n ↔ n ∣ a - b := by
  rw [Int.emod_eq_emod_iff_emod_sub_eq_zero]
  exact ⟨Int.dvd_of_emod_eq_zero, Int.emod_eq_zero_of_dvd⟩
/-- A number of turns by g is none at all. -/
theorem turn_dvd {n g d : Nat} (hn : 1 ≤ n) : (n : Int) ∣ (d : Int) * g ↔ n / Nat.gcd g n ∣ d := by
  have hp : 0 < Nat.gcd g n := Nat.gcd_pos_of_pos_right _ (by omega)
  have hc := Nat.coprime_div_gcd_div_gcd hp
  obtain ⟨a, ha⟩ := Nat.gcd_dvd_left g n
  obtain ⟨b, hb⟩ := Nat.gcd_dvd_right g n
  obtain ⟨c, hcc⟩ : ∃ c, Nat.gcd g n = c := ⟨_, rfl⟩
  rw [hcc] at ha hb hc hp ⊢
  have e1 : n / c = b := by rw [hb]; exact Nat.mul_div_cancel_left _ hp
  have e2 : g / c = a := by rw [ha]; exact Nat.mul_div_cancel_left _ hp
  rw [e1, e2] at hc
  rw [e1, ← Int.natCast_mul, Int.natCast_dvd_natCast]
  constructor
  · intro h
    have h2 : c * b ∣ c * (d * a) := by
      have : d * g = c * (d * a) := by rw [ha, Nat.mul_left_comm]
      rw [← hb, ← this]; exact h
    have h3 : b ∣ d * a := Nat.dvd_of_mul_dvd_mul_left hp h2
    exact Nat.Coprime.dvd_of_dvd_mul_right hc.symm h3
  · rintro ⟨x, rfl⟩
    refine ⟨x * a, ?_⟩
    rw [ha]
    conv => rhs; rw [hb]
    rw [Nat.mul_assoc b x, Nat.mul_left_comm x c a, ← Nat.mul_assoc, Nat.mul_comm b c]
theorem genT_eq {n g : Int} {i j : Nat} : genT n g i = genT n g j ↔ n ∣ ((i : Int) - j) * g := by
  unfold genT
  rw [eq_mod, Int.sub_mul]
theorem div_le {n k d : Nat} (hd : 0 < d) (h : d ∣ n) : k * d ≤ n ↔ k ≤ n / d := (Nat.le_div_iff_mul_le hd).symm
theorem genC_iff {n k g : Nat} (hn : 1 ≤ n ∧ n ≤ 24) (hk : k ≤ n) (hg : 1 ≤ g ∧ g ≤ n) : GenC n k g ↔ k * Nat.gcd g n ≤ n := by
  have hp : 0 < Nat.gcd g n := Nat.gcd_pos_of_pos_right _ (by omega)
  rw [div_le hp (Nat.gcd_dvd_right g n)]
  obtain ⟨m, hm⟩ : ∃ m, n / Nat.gcd g n = m := ⟨_, rfl⟩
  have ht := fun d => turn_dvd (n := n) (g := g) (d := d) hn.1
  rw [hm] at ht ⊢
  unfold GenC
  rw [genP_nodup, Int.toNat_natCast]
  constructor
  · rintro ⟨_, _, h⟩
    rcases Nat.lt_or_ge m k with q | q
    · exfalso
      have hm0 : 0 < m := by
        rw [← hm]
        exact Nat.div_pos (Nat.le_of_dvd (by omega) (Nat.gcd_dvd_right g n)) hp
      refine h 0 m hm0 q ?_
      rw [genT_eq]
      have := (ht m).2 ⟨1, by simp⟩
      have e : (((0 : Nat) : Int) - (m : Int)) * (g : Int) = -((m : Int) * g) := by rw [← Int.neg_mul]; simp
      rw [e]
      exact Int.dvd_neg.2 this
    · exact q
  · intro h
    refine ⟨⟨by omega, by omega, by omega, by omega⟩, ⟨by omega, by omega⟩, fun i j hij hj e => ?_⟩
    rw [genT_eq] at e
    have e2 : (n : Int) ∣ ((j - i : Nat) : Int) * g := by
      have : ((i : Int) - j) * (g : Int) = -(((j - i : Nat) : Int) * g) := by rw [← Int.neg_mul]; congr 1; omega
      rw [this] at e
      exact Int.dvd_neg.1 e
    obtain ⟨x, hx⟩ := (ht _).1 e2
    have hx0 : x ≠ 0 := by rintro rfl; omega
    have := Nat.le_mul_of_pos_right m (Nat.pos_of_ne_zero hx0)
    omega
theorem genZ_len {n k g : Int} (h : GenC n k g) : ((genZ n k g).length : Int) = k := by
  have h1 := h.1
  unfold genZ
  rw [← sort_ofZ h.2.2 (fun x hx => by
    obtain ⟨i, _, rfl⟩ := genP_mem.1 hx
    have := genT_bd h1.1 g i
    have := h1.1
    omega), List.length_mergeSort, genP_len]
  have := h1.2.2.1
  omega
/-- A generated rhythm, turned. -/
def rrZ (n k : Nat) (g t : Int) : List Int := rotZ n (genZ n k g) 1 t
theorem rr_ok {n k : Nat} {g t : Int} (hn : 1 ≤ n ∧ n ≤ 24) : Ok n (rrZ n k g t) := rot_ok (by omega) _ _
theorem rr_mem {n k : Nat} {g t x : Int} (hn : 1 ≤ n ∧ n ≤ 24) : x ∈ rrZ n k g t ↔ ∃ i : Nat, i < k ∧ (t + i * g) % n = x := by
  have hn1 : (1 : Int) ≤ (n : Int) ∧ (n : Int) ≤ 24 := by omega
  unfold rrZ
  rw [rot_mem (genZ_ok hn1), genZ_mem hn1.1]
  constructor
  · rintro ⟨hx, i, hi, e⟩
    refine ⟨i, by omega, ?_⟩
    unfold genT at e
    rw [← add_em t, e, add_em, show t + (x - t) = x by omega]
    exact Int.emod_eq_of_lt hx.1 hx.2
  · rintro ⟨i, hi, rfl⟩
    have := em_bd (t + i * g) hn1.1
    refine ⟨this, i, by omega, ?_⟩
    unfold genT
    rw [em_sub, show t + (i : Int) * g - t = (i : Int) * g by omega]
theorem rr_len {n k : Nat} {g t : Int} (h : GenC n k g) : (rrZ n k g t).length = k := by
  have h1 := h.1
  unfold rrZ
  rw [moved_len (genZ_ok ⟨h1.1, h1.2.1⟩) (by simp)]
  have := genZ_len h
  omega
theorem ok_ext' {n : Nat} {xs ys : List Int} (hx : Ok n xs) (hy : Ok n ys) (h : ∀ x, x ∈ xs ↔ x ∈ ys) : xs = ys := ok_ext hx hy fun x _ => h x

/-! ### generators -/
theorem gnQ_rr {n k : Nat} {g t : Int} (hc : GenC n k g) : gnQ n (rrZ n k g t) g := by
  have h1 := hc.1
  have hn : 1 ≤ n ∧ n ≤ 24 := by have := h1.1; have := h1.2.1; omega
  unfold gnQ
  rw [rr_len hc]
  refine ⟨hc, ?_⟩
  rw [rotToB_yes (genZ_ok (by omega)) (rr_ok hn)]
  unfold rotToW
  rw [if_pos rfl, rotTo_iff (genZ_ok (by omega))]
  exact ⟨t, rfl⟩
theorem gn_has {n k : Nat} {g t : Int} (hc : GenC n k g) (hg : g < n) : hasB (gnB n (rrZ n k g t)) g = true := by
  have h1 := hc.1
  have hn : 1 ≤ n ∧ n ≤ 24 := by have := h1.1; have := h1.2.1; omega
  unfold hasB
  rw [List.contains_iff_mem, gnB_yes (rr_ok hn), gnP_mem, Int.toNat_natCast]
  exact ⟨⟨hc.2.1.1, hg⟩, gnQ_rr hc⟩
theorem gn_any {s g : Int} {zs : List Int} (h : hasB (gnB s zs) g = true) : isgB s zs = true := by
  unfold hasB at h
  have := List.length_pos_of_mem (List.contains_iff_mem.1 h)
  unfold isgB
  exact decide_eq_true this
theorem rr_opp {n k g : Nat} {t : Int} (hn : 1 ≤ n ∧ n ≤ 24) (hg : g ≤ n) : rrZ n k ((n - g : Nat) : Int) (t + ((k : Int) - 1) * g) = rrZ n k g t := by
  refine ok_ext' (rr_ok hn) (rr_ok hn) fun x => ?_
  rw [rr_mem hn, rr_mem hn]
  have key : ∀ i : Nat, i < k → (t + ((k : Int) - 1) * g + i * ((n - g : Nat) : Int)) % n = (t + ((k - 1 - i : Nat) : Int) * g) % n := by
    intro i hi
    rw [eq_mod]
    refine ⟨i, ?_⟩
    have e1 : ((n - g : Nat) : Int) = n - g := by omega
    have e2 : ((k - 1 - i : Nat) : Int) = (k : Int) - 1 - i := by omega
    rw [e1, e2, Int.mul_sub, Int.sub_mul ((k : Int) - 1) i, Int.mul_comm (n : Int) i]
    omega
  constructor
  · rintro ⟨i, hi, e⟩
    exact ⟨k - 1 - i, by omega, by rw [← key i hi]; exact e⟩
  · rintro ⟨i, hi, e⟩
    refine ⟨k - 1 - i, by omega, ?_⟩
    rw [key _ (by omega), show k - 1 - (k - 1 - i) = i by omega]
    exact e

/-! ### chains -/
theorem chG_spec (n : Int) (zs : List Int) (g : Int) : ∀ f i, (∃ j, i ≤ j ∧ j < i + f ∧ beatB n zs (zs[j]?.getD 0 - g) = false ∧ chG n zs g f i = zs[j]?.getD 0) ∨
    (chG n zs g f i = zs[0]?.getD 0 ∧ ∀ j, i ≤ j → j < i + f → beatB n zs (zs[j]?.getD 0 - g) = true)
  | 0, i => .inr ⟨rfl, fun j h1 h2 => absurd h2 (by omega)⟩
  | f + 1, i => by
    simp only [chG]
    cases hb : beatB n zs (zs[i]?.getD 0 - g)
    · rw [if_pos rfl]
      exact .inl ⟨i, Nat.le_refl _, by omega, hb, rfl⟩
    · rw [if_neg (by simp)]
      rcases chG_spec n zs g f (i + 1) with ⟨j, h1, h2, h3, h4⟩ | ⟨h1, h2⟩
      · exact .inl ⟨j, by omega, by omega, h3, h4⟩
      · refine .inr ⟨h1, fun j h3 h4 => ?_⟩
        by_cases e : j = i
        · subst e; exact hb
        · exact h2 j (by omega) (by omega)
theorem beat_at {n : Nat} {zs : List Int} (ho : Ok n zs) {x : Int} : beatB n zs x = true ↔ x % n ∈ zs := by
  rw [beatB_yes ho]
  unfold hasB remB
  exact List.contains_iff_mem
theorem getD_mem {zs : List Int} {i : Nat} (h : i < zs.length) : zs[i]?.getD 0 ∈ zs := by
  rw [List.getElem?_eq_getElem h]; exact List.getElem_mem h
theorem mem_getD {zs : List Int} {x : Int} (h : x ∈ zs) : ∃ i, i < zs.length ∧ zs[i]?.getD 0 = x := by
  obtain ⟨i, hi, e⟩ := List.getElem_of_mem h
  exact ⟨i, hi, by rw [List.getElem?_eq_getElem hi]; exact e⟩
/-- The chain begins where it was begun, or goes all around. -/
theorem chain_from {n k : Nat} {g t : Int} (hc : GenC n k g) (hk : 1 ≤ k) : chF n (rrZ n k g t) g = t % n ∨ ((n : Int) ∣ (k : Int) * g ∧ ∃ j : Nat, j < k ∧ chF n (rrZ n k g t) g = (t + j * g) % n) := by
  have h1 := hc.1
  have hn : 1 ≤ n ∧ n ≤ 24 := by have := h1.1; have := h1.2.1; omega
  have ho := rr_ok (n := n) (k := k) (g := g) (t := t) hn
  have hl := rr_len (t := t) hc
  obtain ⟨zs, hz⟩ : ∃ zs, rrZ n k g t = zs := ⟨_, rfl⟩
  have hm : ∀ x, x ∈ zs ↔ ∃ i : Nat, i < k ∧ (t + i * g) % n = x := fun x => by rw [← hz]; exact rr_mem hn
  rw [hz] at ho hl ⊢
  rcases chG_spec n zs g zs.length 0 with ⟨j, _, hj, hb, e⟩ | ⟨e, hall⟩
  · left
    have e' : chF n zs g = zs[j]?.getD 0 := e
    obtain ⟨i, hi, ei⟩ := (hm _).1 (getD_mem (show j < zs.length by omega))
    rw [e', ← ei]
    by_cases h0 : i = 0
    · subst h0; simp
    · exfalso
      have hp : beatB n zs (zs[j]?.getD 0 - g) = true := by
        rw [beat_at ho, hm]
        refine ⟨i - 1, by omega, ?_⟩
        rw [← ei, em_sub]
        congr 1
        have : ((i - 1 : Nat) : Int) = (i : Int) - 1 := by omega
        rw [this, Int.sub_mul]
        omega
      rw [hb] at hp; cases hp
  · right
    have e' : chF n zs g = zs[0]?.getD 0 := e
    obtain ⟨i0, hi0, e0⟩ := mem_getD ((hm (t % n)).2 ⟨0, by omega, by simp⟩)
    have hb := hall i0 (by omega) (by omega)
    rw [e0, beat_at ho, em_sub, hm] at hb
    obtain ⟨i, hi, ei⟩ := hb
    rw [eq_mod, show t + (i : Int) * g - (t - g) = ((i : Int) + 1) * g by rw [Int.add_mul]; omega] at ei
    have hik : i + 1 = k := by
      rcases Nat.lt_or_ge (i + 1) k with q | q
      · exfalso
        have hnd := hc.2.2
        rw [genP_nodup, Int.toNat_natCast] at hnd
        refine hnd 0 (i + 1) (by omega) q ?_
        rw [genT_eq]
        have e5 : (((0 : Nat) : Int) - ((i + 1 : Nat) : Int)) * g = -(((i : Int) + 1) * g) := by rw [← Int.neg_mul]; congr 1 <;> omega
        rw [e5]
        exact Int.dvd_neg.2 ei
      · omega
    refine ⟨?_, ?_⟩
    · rw [← hik]; simpa using ei
    · obtain ⟨j, hj, ej⟩ := (hm _).1 (getD_mem (show 0 < zs.length by omega))
      exact ⟨j, hj, by rw [e', ej]⟩
theorem chain_in {n k : Nat} {g t : Int} (hc : GenC n k g) {i : Nat} (hi : i < k) : (chF n (rrZ n k g t) g + i * g) % n ∈ rrZ n k g t := by
  have h1 := hc.1
  have hn : 1 ≤ n ∧ n ≤ 24 := by have := h1.1; have := h1.2.1; omega
  rw [rr_mem hn]
  rcases chain_from (t := t) hc (by omega) with e | ⟨hd, j, hj, e⟩
  · exact ⟨i, hi, by rw [e, em_add]⟩
  · rw [e, em_add]
    by_cases hji : j + i < k
    · refine ⟨j + i, hji, ?_⟩
      congr 1
      rw [Int.natCast_add, Int.add_mul]
      omega
    · refine ⟨j + i - k, by omega, ?_⟩
      rw [eq_mod]
      have e2 : t + ((j + i - k : Nat) : Int) * g - (t + j * g + i * g) = -((k : Int) * g) := by
        have : ((j + i - k : Nat) : Int) = (j : Int) + i - k := by omega
        rw [this, Int.sub_mul, Int.add_mul]
        omega
      rw [e2]
      exact Int.dvd_neg.2 hd
/-- Is there room behind the chain? -/
theorem room_iff {n k g : Nat} (hn : 1 ≤ n ∧ n ≤ 24) (hg : 1 ≤ g) (hk : 1 ≤ k) (hc : k * Nat.gcd g n ≤ n) : ¬ (n : Int) ∣ (k : Int) * g ↔ (k + 1) * Nat.gcd g n ≤ n := by
  have hp : 0 < Nat.gcd g n := Nat.gcd_pos_of_pos_right _ (by omega)
  rw [turn_dvd hn.1]
  rw [div_le hp (Nat.gcd_dvd_right g n)] at hc ⊢
  obtain ⟨m, hm⟩ : ∃ m, n / Nat.gcd g n = m := ⟨_, rfl⟩
  rw [hm] at hc ⊢
  constructor
  · intro h
    rcases Nat.lt_or_ge k m with q | q
    · exact q
    · exact absurd ⟨1, by omega⟩ h
  · rintro h ⟨x, hx⟩
    rcases Nat.eq_zero_or_pos x with q | q
    · subst q; omega
    · have := Nat.le_mul_of_pos_right m q
      omega
end Go.Proofs.Ytpbceckbmalabaa.Rhy

/-
  Helpers of the claims beside this text: plain mathematics of chains: how long a chain is, and when it holds all beats.
-/
namespace Go.Proofs.Ytpbceckbmalabaa.Rhy
set_option linter.unusedVariables false

/-- Place j of the chain from s on. -/
def chX (n s g : Int) (j : Nat) : Int := (s + (j : Int) * g) % n
theorem chX_next (n s g : Int) (j : Nat) : (chX n s g j + g) % n = chX n s g (j + 1) := by
  unfold chX
  rw [em_add, show ((j + 1 : Nat) : Int) = (j : Int) + 1 by omega, Int.add_mul, Int.one_mul, Int.add_assoc]
theorem chX_zero {n s : Int} (g : Int) (h : 0 ≤ s ∧ s < n) : chX n s g 0 = s := by
  unfold chX
  rw [show ((0 : Nat) : Int) * g = 0 from Int.zero_mul _, Int.add_zero, em_self h]
theorem chP_next (n s g : Int) (j : Nat) : chP n s g (j + 1) = chP n s g j ++ [chX n s g j] := chP_snoc n s g j
theorem chX_eq {n s g : Int} {i j : Nat} : chX n s g i = chX n s g j ↔ n ∣ ((i : Int) - j) * g := by
  unfold chX
  rw [eq_mod, show s + (i : Int) * g - (s + (j : Int) * g) = ((i : Int) - j) * g by rw [Int.sub_mul]; omega]
/-- The chain from s on has m beats: then there is no beat, or it is closed. -/
def ChM (n : Int) (zs : List Int) (s g : Int) (m : Nat) : Prop :=
  (1 ≤ m ∧ (m : Int) ≤ n) ∧ (∀ j, j < m → chX n s g j ∈ zs) ∧ (∀ j, 1 ≤ j → j < m → chX n s g j ≠ s) ∧ (chX n s g m ∉ zs ∨ chX n s g m = s)
theorem least_ex (P : Nat → Prop) : ∀ n, P n → ∃ m, m ≤ n ∧ P m ∧ ∀ j, j < m → ¬ P j := by
  intro n
  induction n using Nat.strongRecOn with
  | _ n ih =>
    intro h
    by_cases hx : ∃ k, k < n ∧ P k
    · obtain ⟨k, hk, hp⟩ := hx
      obtain ⟨m, h1, h2, h3⟩ := ih k hk hp
      exact ⟨m, by omega, h2, h3⟩
    · exact ⟨n, Nat.le_refl _, h, fun j hj hp => hx ⟨j, hj, hp⟩⟩
theorem chM_ex {n : Int} {zs : List Int} {s : Int} (ho : Ok n zs) (hs : s ∈ zs) (g : Int) : ∃ m, ChM n zs s g m := by
  have hb := ok_range ho s hs
  have h1 := ho.1
  obtain ⟨m, hm1, hm2, hm3⟩ := least_ex (fun j => 1 ≤ j ∧ (chX n s g j ∉ zs ∨ chX n s g j = s)) n.toNat ⟨by omega, .inr (by
    unfold chX
    rw [show ((n.toNat : Nat) : Int) = n by omega, Int.add_mul_emod_self_left, em_self hb])⟩
  refine ⟨m, ⟨hm2.1, by omega⟩, fun j hj => ?_, fun j h1 h2 e => hm3 j h2 ⟨h1, .inr e⟩, hm2.2⟩
  by_cases h0 : j = 0
  · subst h0; rw [chX_zero g hb]; exact hs
  · exact Decidable.byContradiction fun q => hm3 j hj ⟨by omega, .inl q⟩
theorem chM_inj {n : Int} {zs : List Int} {s g : Int} {m : Nat} (hb : 0 ≤ s ∧ s < n) (h : ChM n zs s g m) {i j : Nat} (hij : i < j) (hj : j < m) : chX n s g i ≠ chX n s g j := by
  intro e
  have e2 := e.symm
  rw [chX_eq] at e2
  refine h.2.2.1 (j - i) (by omega) (by omega) ?_
  have : chX n s g (j - i) = chX n s g 0 := by
    rw [chX_eq]
    have : (((j - i : Nat) : Int) - ((0 : Nat) : Int)) = (j : Int) - i := by omega
    rw [this]; exact e2
  rw [this, chX_zero g hb]
theorem chP_nodup {n : Int} {zs : List Int} {s g : Int} {m : Nat} (hb : 0 ≤ s ∧ s < n) (h : ChM n zs s g m) : (chP n s g m).Nodup := by
  show ((List.range m).map (chX n s g)).Nodup
  rw [List.Nodup, List.pairwise_map]
  refine List.Pairwise.imp_of_mem ?_ (List.pairwise_lt_range (n := m))
  intro a b ha hb2 hlt
  exact chM_inj hb h hlt (List.mem_range.1 hb2)
theorem chP_in {n : Int} {zs : List Int} {s g : Int} {m : Nat} (h : ChM n zs s g m) : ∀ x ∈ chP n s g m, x ∈ zs := by
  intro x hx
  have : x ∈ (List.range m).map (chX n s g) := hx
  rw [List.mem_map] at this
  obtain ⟨i, hi, rfl⟩ := this
  exact h.2.1 i (List.mem_range.1 hi)
/-- As many numbers as there are, each once: all of them. -/
theorem sub_all : ∀ (A B : List Int), A.Nodup → (∀ x ∈ A, x ∈ B) → A.length ≤ B.length ∧ (B.length ≤ A.length → ∀ x ∈ B, x ∈ A)
  | [], B, _, _ => ⟨by simp, fun h x hx => by
      have : B = [] := List.eq_nil_of_length_eq_zero (by simp at h; simp [h])
      rw [this] at hx; cases hx⟩
  | a :: A, B, hn, hs => by
    have ha : a ∈ B := hs a (by simp)
    have hn2 := List.nodup_cons.1 hn
    have ih := sub_all A (B.erase a) hn2.2 (fun x hx => (List.mem_erase_of_ne (fun e => hn2.1 (by rw [← e]; exact hx))).2 (hs x (by simp [hx])))
    have hl := List.length_erase_of_mem ha
    have hp := List.length_pos_of_mem ha
    refine ⟨by simp; omega, fun hle x hx => ?_⟩
    by_cases e : x = a
    · subst e; simp
    · have := ih.2 (by simp at hle; omega) x ((List.mem_erase_of_ne e).2 hx)
      simp [this]
theorem chM_le {n : Int} {zs : List Int} {s g : Int} {m : Nat} (hb : 0 ≤ s ∧ s < n) (h : ChM n zs s g m) : m ≤ zs.length := by
  have := (sub_all _ _ (chP_nodup hb h) (chP_in h)).1
  rwa [chP_len] at this
theorem gnQ_all {n g : Nat} {zs : List Int} {m : Nat} (ho : Ok n zs) (hg : 1 ≤ g ∧ g < n) (h0 : 0 < zs.length) (h : ChM n zs (chF n zs g) g m) (he : m = zs.length) : gnQ n zs g := by
  have hn := ho.1
  have hb := chF_bd ho h0 g
  obtain ⟨s, hs⟩ : ∃ s, chF n zs g = s := ⟨_, rfl⟩
  rw [hs] at h hb
  have hm := h.1
  have hin := (sub_all _ _ (chP_nodup hb h) (chP_in h)).2 (by rw [chP_len]; omega)
  have hc : GenC n (m : Nat) g := by
    refine ⟨⟨by omega, by omega, by omega, by omega⟩, ⟨by omega, by omega⟩, ?_⟩
    rw [genP_nodup, Int.toNat_natCast]
    intro i j hij hj e
    rw [genT_eq] at e
    exact chM_inj hb h hij hj (chX_eq.2 e)
  have hz : zs = rrZ n m g s := by
    refine ok_ext' ho (rr_ok (by omega)) fun x => ?_
    rw [rr_mem (by omega)]
    constructor
    · intro hx
      have : x ∈ (List.range m).map (chX n s g) := hin x hx
      rw [List.mem_map] at this
      obtain ⟨i, hi, e⟩ := this
      exact ⟨i, List.mem_range.1 hi, e⟩
    · rintro ⟨i, hi, rfl⟩
      exact h.2.1 i hi
  rw [hz]
  exact gnQ_rr hc
theorem gnQ_none {n g : Nat} (hn : 1 ≤ n ∧ n ≤ 24) (hg : 1 ≤ g ∧ g < n) : gnQ n [] g := by
  have hc : GenC n (0 : Nat) g := ⟨⟨by omega, by omega, by omega, by omega⟩, ⟨by omega, by omega⟩, by simp [genP]⟩
  have := gnQ_rr (t := 0) hc
  have e : rrZ n 0 g 0 = [] := List.eq_nil_of_length_eq_zero (rr_len hc)
  rwa [e] at this
theorem gnQ_len {n g : Nat} {zs : List Int} {m : Nat} (ho : Ok n zs) (hg : 1 ≤ g ∧ g < n) (h0 : 0 < zs.length) (h : ChM n zs (chF n zs g) g m) (hq : gnQ n zs g) : m = zs.length := by
  have hn := ho.1
  have hb := chF_bd ho h0 g
  obtain ⟨hc, hr⟩ := hq
  have hok : Ok (n : Int) (genZ n (zs.length : Nat) g) := genZ_ok (by omega)
  rw [rotToB_yes hok ho] at hr
  unfold rotToW at hr
  rw [if_pos rfl, rotTo_iff hok] at hr
  obtain ⟨t, ht⟩ := hr
  have hz : rrZ n zs.length g t = zs := ht
  have hle := chM_le hb h
  rcases Nat.lt_or_ge m zs.length with q | q
  · exfalso
    have hin := chain_in (t := t) hc (i := m) q
    rw [hz] at hin
    have e : chX n (chF n zs g) g m = chF n zs g := by
      rcases h.2.2.2 with w | w
      · exact absurd hin w
      · exact w
    have e2 : chX n (chF n zs g) g m = chX n (chF n zs g) g 0 := by rw [e, chX_zero _ hb]
    rw [chX_eq] at e2
    have hnd := hc.2.2
    rw [genP_nodup, Int.toNat_natCast] at hnd
    refine hnd 0 m (by have := h.1.1; omega) q (Eq.symm ?_)
    rw [genT_eq]
    exact e2
  · omega
/-- The first beat that is not g after one, looked for from the front. -/
theorem chG_skip {n : Int} {zs : List Int} {g : Int} {j : Nat} (hj : j < zs.length) (hb : beatB n zs (zs[j]?.getD 0 - g) = true) : chG n zs g (zs.length - j) j = chG n zs g (zs.length - (j + 1)) (j + 1) := by
  obtain ⟨f, hf⟩ : ∃ f, zs.length - j = f + 1 := ⟨zs.length - j - 1, by omega⟩
  rw [hf, show zs.length - (j + 1) = f by omega]
  simp only [chG]
  rw [if_neg (by rw [hb]; simp)]
theorem chG_here {n : Int} {zs : List Int} {g : Int} {j : Nat} (hj : j < zs.length) (hb : beatB n zs (zs[j]?.getD 0 - g) = false) : chG n zs g (zs.length - j) j = zs[j]?.getD 0 := by
  obtain ⟨f, hf⟩ : ∃ f, zs.length - j = f + 1 := ⟨zs.length - j - 1, by omega⟩
  rw [hf]
  simp only [chG]
  rw [if_pos hb]
theorem chF_in {n : Int} {zs : List Int} (g : Int) (h0 : 0 < zs.length) : chF n zs g ∈ zs := by
  rcases chG_spec n zs g zs.length 0 with ⟨j, _, hj, hb, e⟩ | ⟨e, _⟩
  · have e' : chF n zs g = zs[j]?.getD 0 := e
    rw [e']; exact getD_mem (by omega)
  · have e' : chF n zs g = zs[0]?.getD 0 := e
    rw [e']; exact getD_mem h0
/-- Is g among the generators? -/
theorem gn_iff {n g : Nat} {zs : List Int} (ho : Ok n zs) (hg : 1 ≤ g ∧ g < n) : hasB (gnB n zs) g = true ↔ gnQ n zs g := by
  unfold hasB
  rw [List.contains_iff_mem, gnB_yes ho, gnP_mem, Int.toNat_natCast]
  exact ⟨fun h => h.2, fun h => ⟨by omega, h⟩⟩
end Go.Proofs.Ytpbceckbmalabaa.Rhy
