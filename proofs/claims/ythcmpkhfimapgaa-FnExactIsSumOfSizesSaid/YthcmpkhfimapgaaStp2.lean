/-
  Helpers of the claims beside this text: the model's numbers of steps: the longest, the shortest, spans, rests.
-/
import Derived.Test.YthcmpkhfimapgaaStp
import Derived.WalkLawsBesides
namespace Go.Proofs.Ythcmpkhfimapgaa.Rhy
open Go.RowKit
set_option linter.unusedVariables false

theorem stB_bd (s : Int) (zs : List Int) : ∀ x ∈ stB s zs, 1 ≤ x ∧ x ≤ 24 := by
  intro x hx
  by_cases h : Ok s zs
  · rw [stB_yes h] at hx
    have := stepsZ_bd h x hx
    have := h.1
    omega
  · rw [stB_no h] at hx; cases hx

theorem max_ite (a z : Int) : (if a < z then z else a) = max a z := by split <;> omega
def maxL (l : List Int) : Int := l.foldl max 0
theorem maxL_snoc {l : List Int} {k : Nat} {z : Int} (h : l[k]? = some z) : maxL (l.take (k + 1)) = max (maxL (l.take k)) z := by
  unfold maxL
  rw [List.take_add_one, h]
  simp
theorem maxL_bd {l : List Int} {B : Int} (hB : 0 ≤ B) (h : ∀ x ∈ l, x ≤ B) : 0 ≤ maxL l ∧ maxL l ≤ B := by
  have key : ∀ (l : List Int) (m : Int), 0 ≤ m → m ≤ B → (∀ x ∈ l, x ≤ B) → 0 ≤ l.foldl max m ∧ l.foldl max m ≤ B := by
    intro l
    induction l with
    | nil => intro m h0 h1 _; exact ⟨h0, h1⟩
    | cons x l ih =>
      intro m h0 h1 hx
      have := hx x (by simp)
      exact ih (max m x) (by omega) (by omega) (fun y hy => hx y (by simp [hy]))
  exact key l 0 (by omega) hB h

def minP (l : List Int) : Nat → Int
  | 0 => 0
  | k + 1 => if k = 0 ∨ l.getD k 0 < minP l k then l.getD k 0 else minP l k
def minL (l : List Int) : Int := minP l l.length
theorem minP_first {l : List Int} {z : Int} (h : l[0]? = some z) : minP l 1 = z := by simp [minP, List.getD, h]
theorem minP_less {l : List Int} {k : Nat} {z : Int} (h : l[k]? = some z) (hz : z < minP l k) : minP l (k + 1) = z := by simp [minP, List.getD, h, hz]
theorem minP_else {l : List Int} {k : Nat} {z : Int} (h : l[k]? = some z) (h0 : k ≠ 0) (hz : ¬ z < minP l k) : minP l (k + 1) = minP l k := by simp [minP, List.getD, h, hz, h0]

def restsL (l : List Int) : Int := (l.filter (fun x => decide (1 < x))).length
theorem restsL_yes {l : List Int} {k : Nat} {z : Int} (h : l[k]? = some z) (hz : 1 < z) : restsL (l.take (k + 1)) = restsL (l.take k) + 1 := by
  unfold restsL
  rw [List.take_add_one, h]
  simp [List.filter_append, hz]
theorem restsL_no {l : List Int} {k : Nat} {z : Int} (h : l[k]? = some z) (hz : ¬ 1 < z) : restsL (l.take (k + 1)) = restsL (l.take k) := by
  unfold restsL
  rw [List.take_add_one, h]
  simp [List.filter_append, hz]
theorem restsL_bd (l : List Int) : 0 ≤ restsL l ∧ restsL l ≤ l.length := by
  unfold restsL
  have := List.length_filter_le (fun x : Int => decide (1 < x)) l
  omega

def spanL (l : List Int) (i : Nat) : Nat → Int
  | 0 => 0
  | k + 1 => spanL l i k + l.getD ((i + k) % l.length) 0
theorem spanL_bd {l : List Int} (h : ∀ x ∈ l, 1 ≤ x ∧ x ≤ 24) (i k : Nat) : 0 ≤ spanL l i k ∧ spanL l i k ≤ 24 * k := by
  induction k with
  | zero => simp [spanL]
  | succ k ih =>
    have hx : 0 ≤ l.getD ((i + k) % l.length) 0 ∧ l.getD ((i + k) % l.length) 0 ≤ 24 := by
      rw [List.getD_eq_getElem?_getD]
      cases hq : l[(i + k) % l.length]? with
      | none => simp
      | some x => have := h x (List.mem_of_getElem? hq); simp; omega
    simp only [spanL]
    omega
theorem spanL_snoc {l : List Int} {i k : Nat} {z : Int} (h : l[(i + k) % l.length]? = some z) : spanL l i (k + 1) = spanL l i k + z := by
  simp [spanL, List.getD, h]



open Classical in
noncomputable def restsB (s : Int) (zs : List Int) : Int := if Ok s zs then restsL (stB s zs) else -1
theorem restsB_yes {s : Int} {zs : List Int} (h : Ok s zs) : restsB s zs = restsL (stB s zs) := by simp [restsB, h]
theorem restsB_no {s : Int} {zs : List Int} (h : ¬ Ok s zs) : restsB s zs = -1 := by simp [restsB, h]


set_option maxHeartbeats 400000 in
theorem span0_spec (a : Option Addr) (n cap : Nat) (l : List Int) (i k : Nat) (w : World) (h : IntsAt w a n l) (hb : ∀ x ∈ l, 1 ≤ x ∧ x ≤ 24) (hn : n ≤ 24) (hi : i < n) (hk : k ≤ 1000) :
    Calls Try.prog 93 #[.slice a n cap, .int .i64 i, .int .i64 k] w fun e w' => e = .returned (.int .i64 (spanL l i k)) ∧ w = w' := by
  have HS := Lib.hid h
  have HBD := Lib.hid hb
  have hnz : ((n : Int) == 0) = false := by simp; omega
  clear h hb
  go_enter Try.func93, Try.ntmps93
  go_wp2
  go_loop [7, 8] (fun m x => ∃ q : Nat, q ≤ k ∧ x = .int .i64 q ∧ m = .int .i64 (spanL l i q)) (fun _ x => k - (intOf x).toNat)
  case atStart => exact ⟨0, by omega, rfl, rfl⟩
  case round =>
    obtain ⟨q, hq, rfl, rfl⟩ := hrel
    have hsb := spanL_bd HBD.out i q
    obtain ⟨hsb1, hsb2⟩ := hsb
    by_cases hlt : q < k
    · obtain ⟨j, hj⟩ : ∃ j, j = (i + q) % n := ⟨_, rfl⟩
      have hjn : j < n := by rw [hj]; exact Nat.mod_lt _ (by omega)
      have hji : ((i : Int) + q) % n = j := by rw [hj]; simp
      have hji2 : ((i : Int) + q).tmod n = j := by rw [Int.tmod_eq_emod_of_nonneg (by omega), hji]
      obtain ⟨b, off, z, rfl, hg, hs, hc, hz1, hz2⟩ := HS.out.at hjn
      have HN : Hid (spanL l i (q + 1) = spanL l i q + z) := Lib.hid (spanL_snoc (by rw [HS.out.len, ← hj]; exact hs))
      have hzb := HBD.out z (List.mem_of_getElem? hs)
      obtain ⟨hzb1, hzb2⟩ := hzb
      clear hs hj
      go_wp2
      go_round
      case rel => exact ⟨q + 1, by omega, by go_num, by rw [HN.out]⟩
      case measure => simp [intOf]; omega
    · have e : q = k := by omega
      subst e
      go_wp2
      go_ret
      exact ⟨rfl, rfl⟩

/-- What both answer. -/
noncomputable def spanB (s : Int) (zs : List Int) (i k : Int) : Int := @ite _ ((0 ≤ i ∧ i < (stB s zs).length) ∧ 0 ≤ k ∧ k ≤ (stB s zs).length) (Classical.propDecidable _) (spanL (stB s zs) i.toNat k.toNat) 0


end Go.Proofs.Ythcmpkhfimapgaa.Rhy
