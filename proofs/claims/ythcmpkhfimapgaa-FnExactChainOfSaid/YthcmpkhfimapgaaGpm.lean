/-
  Helpers of the claims beside this text: plain mathematics of chains: how long a chain is, and when it holds all beats.
-/
import Derived.Test.YthcmpkhfimapgaaGnf
namespace Go.Proofs.Ythcmpkhfimapgaa.Rhy
set_option linter.unusedVariables false

/-- Place j of the chain from s on. -/
def chX (n s g : Int) (j : Nat) : Int := (s + (j : Int) * g) % n
theorem chX_next (n s g : Int) (j : Nat) : (chX n s g j + g) % n = chX n s g (j + 1) := by
  unfold chX
  rw [em_add, show ((j + 1 : Nat) : Int) = (j : Int) + 1 by omega, Int.add_mul, Int.one_mul, Int.add_assoc]
theorem chX_zero {n s : Int} (g : Int) (h : 0 ≤ s ∧ s < n) : chX n s g 0 = s := by
  unfold chX
  rw [show ((0 : Nat) : Int) * g = 0 from Int.zero_mul _, Int.add_zero, em_self h]
theorem chP_next (n s g : Int) (j : Nat) : chP n s g (j + 1) = chP n s g j ++ [chX n s g j] := chP_snoc n s g j
theorem chX_eq {n s g : Int} {i j : Nat} : chX n s g i = chX n s g j ↔ n ∣ ((i : Int) - j) * g := by
  unfold chX
  rw [eq_mod, show s + (i : Int) * g - (s + (j : Int) * g) = ((i : Int) - j) * g by rw [Int.sub_mul]; omega]
/-- The chain from s on has m beats: then there is no beat, or it is closed. -/
def ChM (n : Int) (zs : List Int) (s g : Int) (m : Nat) : Prop :=
  (1 ≤ m ∧ (m : Int) ≤ n) ∧ (∀ j, j < m → chX n s g j ∈ zs) ∧ (∀ j, 1 ≤ j → j < m → chX n s g j ≠ s) ∧ (chX n s g m ∉ zs ∨ chX n s g m = s)
theorem least_ex (P : Nat → Prop) : ∀ n, P n → ∃ m, m ≤ n ∧ P m ∧ ∀ j, j < m → ¬ P j := by
  intro n
  induction n using Nat.strongRecOn with
  | _ n ih =>
    intro h
    by_cases hx : ∃ k, k < n ∧ P k
    · obtain ⟨k, hk, hp⟩ := hx
      obtain ⟨m, h1, h2, h3⟩ := ih k hk hp
      exact ⟨m, by omega, h2, h3⟩
    · exact ⟨n, Nat.le_refl _, h, fun j hj hp => hx ⟨j, hj, hp⟩⟩
theorem chM_ex {n : Int} {zs : List Int} {s : Int} (ho : Ok n zs) (hs : s ∈ zs) (g : Int) : ∃ m, ChM n zs s g m := by
  have hb := ok_range ho s hs
  have h1 := ho.1
  obtain ⟨m, hm1, hm2, hm3⟩ := least_ex (fun j => 1 ≤ j ∧ (chX n s g j ∉ zs ∨ chX n s g j = s)) n.toNat ⟨by omega, .inr (by
    unfold chX
    rw [show ((n.toNat : Nat) : Int) = n by omega, Int.add_mul_emod_self_left, em_self hb])⟩
  refine ⟨m, ⟨hm2.1, by omega⟩, fun j hj => ?_, fun j h1 h2 e => hm3 j h2 ⟨h1, .inr e⟩, hm2.2⟩
  by_cases h0 : j = 0
  · subst h0; rw [chX_zero g hb]; exact hs
  · exact Decidable.byContradiction fun q => hm3 j hj ⟨by omega, .inl q⟩
theorem chM_inj {n : Int} {zs : List Int} {s g : Int} {m : Nat} (hb : 0 ≤ s ∧ s < n) (h : ChM n zs s g m) {i j : Nat} (hij : i < j) (hj : j < m) : chX n s g i ≠ chX n s g j := by
  intro e
  have e2 := e.symm
  rw [chX_eq] at e2
  refine h.2.2.1 (j - i) (by omega) (by omega) ?_
  have : chX n s g (j - i) = chX n s g 0 := by
    rw [chX_eq]
    have : (((j - i : Nat) : Int) - ((0 : Nat) : Int)) = (j : Int) - i := by omega
    rw [this]; exact e2
  rw [this, chX_zero g hb]
theorem chP_nodup {n : Int} {zs : List Int} {s g : Int} {m : Nat} (hb : 0 ≤ s ∧ s < n) (h : ChM n zs s g m) : (chP n s g m).Nodup := by
  show ((List.range m).map (chX n s g)).Nodup
  rw [List.Nodup, List.pairwise_map]
  refine List.Pairwise.imp_of_mem ?_ (List.pairwise_lt_range (n := m))
  intro a b ha hb2 hlt
  exact chM_inj hb h hlt (List.mem_range.1 hb2)
theorem chP_in {n : Int} {zs : List Int} {s g : Int} {m : Nat} (h : ChM n zs s g m) : ∀ x ∈ chP n s g m, x ∈ zs := by
  intro x hx
  have : x ∈ (List.range m).map (chX n s g) := hx
  rw [List.mem_map] at this
  obtain ⟨i, hi, rfl⟩ := this
  exact h.2.1 i (List.mem_range.1 hi)
/-- As many numbers as there are, each once: all of them. -/
theorem sub_all : ∀ (A B : List Int), A.Nodup → (∀ x ∈ A, x ∈ B) → A.length ≤ B.length ∧ (B.length ≤ A.length → ∀ x ∈ B, x ∈ A)
  | [], B, _, _ => ⟨by simp, fun h x hx => by
      have : B = [] := List.eq_nil_of_length_eq_zero (by simp at h; simp [h])
      rw [this] at hx; cases hx⟩
  | a :: A, B, hn, hs => by
    have ha : a ∈ B := hs a (by simp)
    have hn2 := List.nodup_cons.1 hn
    have ih := sub_all A (B.erase a) hn2.2 (fun x hx => (List.mem_erase_of_ne (fun e => hn2.1 (by rw [← e]; exact hx))).2 (hs x (by simp [hx])))
    have hl := List.length_erase_of_mem ha
    have hp := List.length_pos_of_mem ha
    refine ⟨by simp; omega, fun hle x hx => ?_⟩
    by_cases e : x = a
    · subst e; simp
    · have := ih.2 (by simp at hle; omega) x ((List.mem_erase_of_ne e).2 hx)
      simp [this]
theorem chM_le {n : Int} {zs : List Int} {s g : Int} {m : Nat} (hb : 0 ≤ s ∧ s < n) (h : ChM n zs s g m) : m ≤ zs.length := by
  have := (sub_all _ _ (chP_nodup hb h) (chP_in h)).1
  rwa [chP_len] at this
theorem gnQ_all {n g : Nat} {zs : List Int} {m : Nat} (ho : Ok n zs) (hg : 1 ≤ g ∧ g < n) (h0 : 0 < zs.length) (h : ChM n zs (chF n zs g) g m) (he : m = zs.length) : gnQ n zs g := by
  have hn := ho.1
  have hb := chF_bd ho h0 g
  obtain ⟨s, hs⟩ : ∃ s, chF n zs g = s := ⟨_, rfl⟩
  rw [hs] at h hb
  have hm := h.1
  have hin := (sub_all _ _ (chP_nodup hb h) (chP_in h)).2 (by rw [chP_len]; omega)
  have hc : GenC n (m : Nat) g := by
    refine ⟨⟨by omega, by omega, by omega, by omega⟩, ⟨by omega, by omega⟩, ?_⟩
    rw [genP_nodup, Int.toNat_natCast]
    intro i j hij hj e
    rw [genT_eq] at e
    exact chM_inj hb h hij hj (chX_eq.2 e)
  have hz : zs = rrZ n m g s := by
    refine ok_ext' ho (rr_ok (by omega)) fun x => ?_
    rw [rr_mem (by omega)]
    constructor
    · intro hx
      have : x ∈ (List.range m).map (chX n s g) := hin x hx
      rw [List.mem_map] at this
      obtain ⟨i, hi, e⟩ := this
      exact ⟨i, List.mem_range.1 hi, e⟩
    · rintro ⟨i, hi, rfl⟩
      exact h.2.1 i hi
  rw [hz]
  exact gnQ_rr hc
theorem gnQ_none {n g : Nat} (hn : 1 ≤ n ∧ n ≤ 24) (hg : 1 ≤ g ∧ g < n) : gnQ n [] g := by
  have hc : GenC n (0 : Nat) g := ⟨⟨by omega, by omega, by omega, by omega⟩, ⟨by omega, by omega⟩, by simp [genP]⟩
  have := gnQ_rr (t := 0) hc
  have e : rrZ n 0 g 0 = [] := List.eq_nil_of_length_eq_zero (rr_len hc)
  rwa [e] at this
theorem gnQ_len {n g : Nat} {zs : List Int} {m : Nat} (ho : Ok n zs) (hg : 1 ≤ g ∧ g < n) (h0 : 0 < zs.length) (h : ChM n zs (chF n zs g) g m) (hq : gnQ n zs g) : m = zs.length := by
  have hn := ho.1
  have hb := chF_bd ho h0 g
  obtain ⟨hc, hr⟩ := hq
  have hok : Ok (n : Int) (genZ n (zs.length : Nat) g) := genZ_ok (by omega)
  rw [rotToB_yes hok ho] at hr
  unfold rotToW at hr
  rw [if_pos rfl, rotTo_iff hok] at hr
  obtain ⟨t, ht⟩ := hr
  have hz : rrZ n zs.length g t = zs := ht
  have hle := chM_le hb h
  rcases Nat.lt_or_ge m zs.length with q | q
  · exfalso
    have hin := chain_in (t := t) hc (i := m) q
    rw [hz] at hin
    have e : chX n (chF n zs g) g m = chF n zs g := by
      rcases h.2.2.2 with w | w
      · exact absurd hin w
      · exact w
    have e2 : chX n (chF n zs g) g m = chX n (chF n zs g) g 0 := by rw [e, chX_zero _ hb]
    rw [chX_eq] at e2
    have hnd := hc.2.2
    rw [genP_nodup, Int.toNat_natCast] at hnd
    refine hnd 0 m (by have := h.1.1; omega) q (Eq.symm ?_)
    rw [genT_eq]
    exact e2
  · omega
/-- The first beat that is not g after one, looked for from the front. -/
theorem chG_skip {n : Int} {zs : List Int} {g : Int} {j : Nat} (hj : j < zs.length) (hb : beatB n zs (zs[j]?.getD 0 - g) = true) : chG n zs g (zs.length - j) j = chG n zs g (zs.length - (j + 1)) (j + 1) := by
  obtain ⟨f, hf⟩ : ∃ f, zs.length - j = f + 1 := ⟨zs.length - j - 1, by omega⟩
  rw [hf, show zs.length - (j + 1) = f by omega]
  simp only [chG]
  rw [if_neg (by rw [hb]; simp)]
theorem chG_here {n : Int} {zs : List Int} {g : Int} {j : Nat} (hj : j < zs.length) (hb : beatB n zs (zs[j]?.getD 0 - g) = false) : chG n zs g (zs.length - j) j = zs[j]?.getD 0 := by
  obtain ⟨f, hf⟩ : ∃ f, zs.length - j = f + 1 := ⟨zs.length - j - 1, by omega⟩
  rw [hf]
  simp only [chG]
  rw [if_pos hb]
theorem chF_in {n : Int} {zs : List Int} (g : Int) (h0 : 0 < zs.length) : chF n zs g ∈ zs := by
  rcases chG_spec n zs g zs.length 0 with ⟨j, _, hj, hb, e⟩ | ⟨e, _⟩
  · have e' : chF n zs g = zs[j]?.getD 0 := e
    rw [e']; exact getD_mem (by omega)
  · have e' : chF n zs g = zs[0]?.getD 0 := e
    rw [e']; exact getD_mem h0
/-- Is g among the generators? -/
theorem gn_iff {n g : Nat} {zs : List Int} (ho : Ok n zs) (hg : 1 ≤ g ∧ g < n) : hasB (gnB n zs) g = true ↔ gnQ n zs g := by
  unfold hasB
  rw [List.contains_iff_mem, gnB_yes ho, gnP_mem, Int.toNat_natCast]
  exact ⟨fun h => h.2, fun h => ⟨by omega, h⟩⟩
end Go.Proofs.Ythcmpkhfimapgaa.Rhy
