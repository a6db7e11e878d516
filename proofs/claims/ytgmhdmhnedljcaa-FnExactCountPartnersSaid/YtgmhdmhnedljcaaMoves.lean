/-
  Helpers of the claims beside this text: valid rhythms are sorted; the moved beats are the model's.
-/
import Derived.Test.YtgmhdmhnedljcaaSort
import Derived.Test.YtgmhdmhnedljcaaHas
namespace Go.Proofs.Ytgmhdmhnedljcaa.Rhy
open Go.RowKit
set_option linter.unusedVariables false

theorem ok_lt {s : Int} {zs : List Int} (h : Ok s zs) : ∀ (j i : Nat) (hi : i < zs.length) (hj : j < zs.length), i < j → zs[i] < zs[j] := by
  intro j
  induction j with
  | zero => intro i hi hj hij; omega
  | succ j ih =>
    intro i hi hj hij
    have h1 := (h.2 (j + 1) hj zs[j + 1] (List.getElem?_eq_getElem hj)).2.2 zs[j] (by omega) (by rw [Nat.add_sub_cancel]; exact List.getElem?_eq_getElem (by omega))
    by_cases e : i = j
    · subst e; exact h1
    · have := ih i hi (by omega) (by omega)
      omega
theorem ok_sorted {s : Int} {zs : List Int} (h : Ok s zs) : zs.Pairwise (· < ·) :=
  List.pairwise_iff_getElem.2 (fun i j hi hj hij => ok_lt h j i hi hj hij)
theorem ok_range {s : Int} {zs : List Int} (h : Ok s zs) : ∀ z ∈ zs, 0 ≤ z ∧ z < s := by
  intro z hz
  obtain ⟨j, hj⟩ := List.mem_iff_getElem?.1 hz
  exact ok_at h hj
theorem ok_of {s : Int} {zs : List Int} (h1 : 1 ≤ s) (h2 : s ≤ 24) (hs : zs.Pairwise (· < ·)) (hr : ∀ z ∈ zs, 0 ≤ z ∧ z < s) : Ok s zs := by
  refine ⟨⟨h1, h2⟩, fun j hj z hz => ?_⟩
  have hm := hr z (List.mem_of_getElem? hz)
  refine ⟨hm.1, hm.2, fun y hp hy => ?_⟩
  have hj' : j - 1 < zs.length := by omega
  rw [List.getElem?_eq_getElem hj] at hz
  rw [List.getElem?_eq_getElem hj'] at hy
  have := List.pairwise_iff_getElem.1 hs (j - 1) j hj' hj (by omega)
  have e1 := Option.some.inj hz
  have e2 := Option.some.inj hy
  omega
theorem ok_len {s : Int} {zs : List Int} (h : Ok s zs) : zs.length ≤ 24 := by
  have h1 := h.1
  have e := ofZ_self (n := 24) (ok_sorted h) (fun x hx => by have := ok_range h x hx; omega)
  rw [← e]
  exact ofZ_len 24 zs

theorem unit_inj {u s p q k : Int} (hc : Nat.gcd u.natAbs s.natAbs = 1) (h1 : 0 ≤ p ∧ p < s) (h2 : 0 ≤ q ∧ q < s) (he : (u * p + k) % s = (u * q + k) % s) : p = q := by
  have h3 := Int.dvd_of_emod_eq_zero (Int.emod_eq_emod_iff_emod_sub_eq_zero.1 he)
  rw [show u * p + k - (u * q + k) = u * (p - q) by rw [Int.mul_sub]; omega] at h3
  have h4 := Int.natAbs_dvd_natAbs.2 h3
  rw [Int.natAbs_mul] at h4
  have h5 : s.natAbs ∣ (p - q).natAbs := Nat.Coprime.dvd_of_dvd_mul_left (Nat.Coprime.symm hc) h4
  have h6 := Nat.eq_zero_of_dvd_of_lt h5 (by omega)
  omega
theorem mapL_nodup {s : Int} {zs : List Int} {u k : Int} (ho : Ok s zs) (hc : Nat.gcd u.natAbs s.natAbs = 1) : (mapL s zs u k).Nodup := by
  unfold mapL List.Nodup
  rw [List.pairwise_map]
  refine (ok_sorted ho).imp_of_mem (fun {p q} hp hq hlt he => ?_)
  have := unit_inj hc (ok_range ho p hp) (ok_range ho q hq) he
  omega
theorem mapL_range {s : Int} {zs : List Int} {u k : Int} (h1 : 1 ≤ s) : ∀ x ∈ mapL s zs u k, 0 ≤ x ∧ x < s := by
  intro x hx
  unfold mapL at hx
  rw [List.mem_map] at hx
  obtain ⟨p, _, rfl⟩ := hx
  exact remB_bd _ _ (by omega)
theorem moved_eq {s : Int} {zs : List Int} {u k : Int} (ho : Ok s zs) (hc : Nat.gcd u.natAbs s.natAbs = 1) : sortZ (mapL s zs u k) = ofZ s.toNat (mapL s zs u k) :=
  sort_ofZ (mapL_nodup ho hc) (fun x hx => by have := mapL_range (s := s) ho.1.1 x hx; have := ho.1.1; omega)
theorem ofZ_int {n : Nat} {l : List Int} (h : n ≤ 1000) : AllInt (ofZ n l) := ofZ_bd h

/-- A rhythm and a bool: r if c holds, else the zero rhythm and false. -/
noncomputable def cB (c : Prop) : Bool := @decide c (Classical.propDecidable _)
noncomputable def cS (c : Prop) (s : Int) : Int := @ite _ c (Classical.propDecidable _) s 0
noncomputable def cZ (c : Prop) (l : List Int) : List Int := @ite _ c (Classical.propDecidable _) l []
theorem cB_yes {c : Prop} (h : c) : cB c = true := by simp [cB, h]
theorem cB_no {c : Prop} (h : ¬ c) : cB c = false := by simp [cB, h]
theorem cS_yes {c : Prop} {s : Int} (h : c) : cS c s = s := by simp [cS, h]
theorem cS_no {c : Prop} {s : Int} (h : ¬ c) : cS c s = 0 := by simp [cS, h]
theorem cZ_yes {c : Prop} {l : List Int} (h : c) : cZ c l = l := by simp [cZ, h]
theorem cZ_no {c : Prop} {l : List Int} (h : ¬ c) : cZ c l = [] := by simp [cZ, h]
theorem cZ_int {c : Prop} {l : List Int} (h : AllInt l) : AllInt (cZ c l) := by
  by_cases hc : c
  · rw [cZ_yes hc]; exact h
  · rw [cZ_no hc]; intro z hz; cases hz
theorem cZ_len {c : Prop} {l : List Int} {n : Nat} (h : c → l.length ≤ n) : (cZ c l).length ≤ n := by
  by_cases hc : c
  · rw [cZ_yes hc]; exact h hc
  · rw [cZ_no hc]; simp

/-- What a function answers that has a rhythm if c holds. -/
def CPost (c : Prop) (s : Int) (l : List Int) (w : World) (e : Ending) (w' : World) : Prop := RetPost (cS c s) (cZ c l) (cB c) w e w'
theorem cpost_yes {c : Prop} {s : Int} {l : List Int} {w w' : World} {a : Option Addr} {cap n : Nat} (h : c) (hn : l.length = n) (ho : w'.ownsRow w.heap.size 3 1 (.slice a n cap) n (ints l)) (hb : Below w.heap.size w w') :
    CPost c s l w (.returned (.tuple #[rhy s a n cap, .bool true])) w' := by
  subst hn
  unfold CPost RetPost
  rw [cS_yes h, cZ_yes h, cB_yes h]
  exact ⟨a, cap, rfl, ho, hb⟩
theorem cpost_no {c : Prop} {s : Int} {l : List Int} {w w' : World} (h : ¬ c) (hb : Below w.heap.size w w') :
    CPost c s l w (.returned (.tuple #[rhy 0 none 0 0, .bool false])) w' := by
  unfold CPost RetPost
  rw [cS_no h, cZ_no h, cB_no h]
  exact ⟨none, 0, rfl, World.ownsRow_nil _ _ _ _, hb⟩
end Go.Proofs.Ytgmhdmhnedljcaa.Rhy
