import Derived.Test.YtpbceckbmalabaaOk
import Derived.Test.YtpbceckbmalabaaFma
import Derived.Test.YtpbceckbmalabaaOut
import Derived.Test.YtpbceckbmalabaaItm
import Derived.Test.YtpbceckbmalabaaGnf
namespace Go.Proofs.Ytpbceckbmalabaa.Rhy
open Go.RowKit











end Go.Proofs.Ytpbceckbmalabaa.Rhy

/-
  Helpers of the claims beside this text: the program's links of a rhythm: links.
-/
namespace Go.Proofs.Ytpbceckbmalabaa.Rhy
open Go.RowKit
set_option linter.unusedVariables false
set_option linter.unusedSimpArgs false

/-- The link of a pulse, if there is one. -/
def lkO (B : Int → Nat) (T : List Int) (x : Int) : Option Addr := if x ∈ T then some ⟨B x, 0, none⟩ else none
theorem lkO_yes {B : Int → Nat} {T : List Int} {x : Int} (h : x ∈ T) : lkO B T x = some ⟨B x, 0, none⟩ := if_pos h
theorem lkO_no {B : Int → Nat} {T : List Int} {x : Int} (h : x ∉ T) : lkO B T x = none := if_neg h
def lkR (B : Int → Nat) (T : List Int) : List Value := T.map fun z => .pointer (some ⟨B z, 0, none⟩)
def opV (B : Int → Nat) (T : List Int) : Array Value := ((List.range 24).map fun (p : Nat) => Value.pointer (lkO B T (p : Int))).toArray
def updB (B : Int → Nat) (z : Int) (b : Nat) : Int → Nat := fun x => if x = z then b else B x
theorem updB_same (B : Int → Nat) (z : Int) (b : Nat) : updB B z b z = b := if_pos rfl
theorem updB_other {B : Int → Nat} {z x : Int} (b : Nat) (h : x ≠ z) : updB B z b x = B x := if_neg h
theorem opV_size (B : Int → Nat) (T : List Int) : (opV B T).size = 24 := by simp [opV]
theorem opV_at {B : Int → Nat} {T : List Int} {p : Nat} (h : p < 24) : (opV B T)[p]? = some (.pointer (lkO B T (p : Int))) := by simp [opV, h]
theorem opV_zero (B : Int → Nat) : (#[.pointer none, .pointer none, .pointer none, .pointer none, .pointer none, .pointer none, .pointer none, .pointer none, .pointer none, .pointer none, .pointer none, .pointer none, .pointer none, .pointer none, .pointer none, .pointer none, .pointer none, .pointer none, .pointer none, .pointer none, .pointer none, .pointer none, .pointer none, .pointer none] : Array Value) = opV B [] := rfl
theorem opV_set {B : Int → Nat} {T : List Int} {z b : Nat} (hz : z < 24) : (opV B T).setIfInBounds z (.pointer (some ⟨b, 0, none⟩)) = opV (updB B z b) (T ++ [(z : Int)]) := by
  apply Array.ext_getElem?
  intro p
  rw [Array.getElem?_setIfInBounds, opV_size]
  by_cases hp : p < 24
  · rw [opV_at hp, opV_at hp]
    by_cases he : z = p
    · subst he
      rw [if_pos rfl, if_pos hz, lkO_yes (by simp), updB_same]
    · rw [if_neg he]
      by_cases hm : (p : Int) ∈ T
      · rw [lkO_yes hm, lkO_yes (by simp [hm]), updB_other _ (by omega)]
      · rw [lkO_no hm, lkO_no (by simp only [List.mem_append, List.mem_singleton]; rintro (q | q); exact hm q; omega)]
  · rw [Array.getElem?_eq_none (by rw [opV_size]; omega), Array.getElem?_eq_none (by rw [opV_size]; omega)]
    by_cases he : z = p
    · omega
    · rw [if_neg he]
theorem lkR_snoc {B : Int → Nat} {T : List Int} {z : Int} {b : Nat} (h : z ∉ T) : lkR B T ++ [.pointer (some ⟨b, 0, none⟩)] = lkR (updB B z b) (T ++ [z]) := by
  unfold lkR
  rw [List.map_append, List.map_singleton, updB_same]
  congr 1
  refine List.map_congr_left fun x hx => ?_
  have hne : x ≠ z := by rintro rfl; exact h hx
  rw [updB_other _ hne]




theorem two_below {w w' : World} {b B : Nat} {v0 v1 : Value} (h : Two w b v0 v1) (hb : Below B w w') (hB : b < B) : Two w' b v0 v1 :=
  ⟨Nat.lt_of_lt_of_le h.1 hb.size, by rw [hb.cell (p := ⟨b, 0, none⟩) hB]; exact h.2.1, by rw [hb.cell (p := ⟨b, 1, none⟩) hB]; exact h.2.2⟩
theorem own_setCell {w : World} {base b o n : Nat} {e : TypeId} {size : Nat} {v : Value} {xs : List Value} (h : w.ownsRow base e size v n xs) (hne : some b ≠ v.ownBlock) (u : Value) : (w.setCell ⟨b, o, none⟩ u).ownsRow base e size v n xs := by
  obtain ⟨h1, h2 | ⟨g, cap, cur, rfl, hB, hg, rest⟩⟩ := h
  · exact ⟨h1, .inl h2⟩
  · refine ⟨h1, .inr ⟨g, cap, cur, rfl, hB, ?_, rest⟩⟩
    rw [heap_setCell_other _ _ _ _ (show g ≠ b from fun e => hne (by rw [e]; rfl))]
    exact hg




/-- What is behind a link, the links of the beats T being led on. -/
def aft (B : Int → Nat) (T zs : List Int) (n g z : Int) : Option Addr := if z ∈ T then lkO B zs ((z + g) % n) else none



/-- z - g and z + g, around. -/
theorem back_iff {n g x z : Int} (hx : 0 ≤ x ∧ x < n) (hz : 0 ≤ z ∧ z < n) : (x - g) % n = z ↔ x = (z + g) % n := by
  constructor
  · intro e
    rw [← e, em_add, show x - g + g = x by omega, em_self hx]
  · intro e
    rw [e, em_sub, show z + g - g = z by omega, em_self hz]





end Go.Proofs.Ytpbceckbmalabaa.Rhy

/-
  Helpers of the claims beside this text: the program's links of a rhythm: the walk of links.
-/
namespace Go.Proofs.Ytpbceckbmalabaa.Rhy
open Go.RowKit
set_option linter.unusedVariables false
set_option linter.unusedSimpArgs false

theorem take_snoc' {zs : List Int} {j : Nat} {z : Int} (h : zs[j]? = some z) : zs.take (j + 1) = zs.take j ++ [z] := by
  rw [List.take_add_one, h]; rfl
theorem take_not {s : Int} {zs : List Int} (ho : Ok s zs) {j : Nat} {z : Int} (h : zs[j]? = some z) : z ∉ zs.take j := by
  intro hm
  obtain ⟨i, hi, e⟩ := List.getElem_of_mem hm
  rw [List.length_take] at hi
  have e2 : zs[i]? = some z := by rw [← e, List.getElem_take, List.getElem?_eq_getElem]
  have hj : j < zs.length := by
    rcases Nat.lt_or_ge j zs.length with q | q
    · exact q
    · rw [List.getElem?_eq_none q] at h; cases h
  have hs := List.pairwise_iff_getElem.1 (ok_sorted ho) i j (by omega) hj (by omega)
  rw [List.getElem?_eq_getElem (by omega)] at e2
  rw [List.getElem?_eq_getElem hj] at h
  have e3 := Option.some.inj e2
  have e4 := Option.some.inj h
  omega


end Go.Proofs.Ytpbceckbmalabaa.Rhy

/-
  Helpers of the claims beside this text: the program's chain: firstLink, chain.
-/
namespace Go.Proofs.Ytpbceckbmalabaa.Rhy
open Go.RowKit
set_option linter.unusedVariables false
set_option linter.unusedSimpArgs false

/-- What is behind a link, the chain being open at its first beat. -/
def beh (B : Int → Nat) (zs : List Int) (n g s z : Int) : Option Addr := if (z + g) % n = s then none else lkO B zs ((z + g) % n)



theorem shift_ne {n g z : Int} (hz : 0 ≤ z ∧ z < n) (hg : 1 ≤ g ∧ g < n) : (z - g) % n ≠ z := by
  intro e
  rcases Int.lt_or_le (z - g) 0 with q | q
  · have : (z - g) % n = z - g + n := by
      rw [← Int.add_emod_right, Int.emod_eq_of_lt (by omega) (by omega)]
    omega
  · rw [Int.emod_eq_of_lt q (by omega)] at e
    omega


def lenV : Value → Nat
  | .slice _ n _ => n
  | _ => 0



end Go.Proofs.Ytpbceckbmalabaa.Rhy
