import Derived.Test.YtjgjcppkbfojpaaOk
import Derived.Test.YtjgjcppkbfojpaaFma
import Derived.Test.YtjgjcppkbfojpaaOut
import Derived.Test.YtjgjcppkbfojpaaItm
import Derived.Test.YtjgjcppkbfojpaaGnf
import Derived.Test.YtjgjcppkbfojpaaGnm
import Derived.Test.YtjgjcppkbfojpaaRot
import Derived.Test.YtjgjcppkbfojpaaGrow
import Derived.Test.YtjgjcppkbfojpaaStp
import Derived.Test.YtjgjcppkbfojpaaMath
import Derived.Lib.SlicesCompact
import Derived.Test.YtjgjcppkbfojpaaSort
import Derived.Test.YtjgjcppkbfojpaaSame
namespace Go.Proofs.Ytjgjcppkbfojpaa.Rhy
open Go.RowKit











end Go.Proofs.Ytjgjcppkbfojpaa.Rhy

/-
  Helpers of the claims beside this text: the program's links of a rhythm: links.
-/
namespace Go.Proofs.Ytjgjcppkbfojpaa.Rhy
open Go.RowKit
set_option linter.unusedVariables false
set_option linter.unusedSimpArgs false

/-- The link of a pulse, if there is one. -/
def lkO (B : Int → Nat) (T : List Int) (x : Int) : Option Addr := if x ∈ T then some ⟨B x, 0, none⟩ else none
theorem lkO_yes {B : Int → Nat} {T : List Int} {x : Int} (h : x ∈ T) : lkO B T x = some ⟨B x, 0, none⟩ := if_pos h
theorem lkO_no {B : Int → Nat} {T : List Int} {x : Int} (h : x ∉ T) : lkO B T x = none := if_neg h
def lkR (B : Int → Nat) (T : List Int) : List Value := T.map fun z => .pointer (some ⟨B z, 0, none⟩)
def opV (B : Int → Nat) (T : List Int) : Array Value := ((List.range 24).map fun (p : Nat) => Value.pointer (lkO B T (p : Int))).toArray
def updB (B : Int → Nat) (z : Int) (b : Nat) : Int → Nat := fun x => if x = z then b else B x
theorem updB_same (B : Int → Nat) (z : Int) (b : Nat) : updB B z b z = b := if_pos rfl
theorem updB_other {B : Int → Nat} {z x : Int} (b : Nat) (h : x ≠ z) : updB B z b x = B x := if_neg h
theorem opV_size (B : Int → Nat) (T : List Int) : (opV B T).size = 24 := by simp [opV]
theorem opV_at {B : Int → Nat} {T : List Int} {p : Nat} (h : p < 24) : (opV B T)[p]? = some (.pointer (lkO B T (p : Int))) := by simp [opV, h]
theorem opV_zero (B : Int → Nat) : (#[.pointer none, .pointer none, .pointer none, .pointer none, .pointer none, .pointer none, .pointer none, .pointer none, .pointer none, .pointer none, .pointer none, .pointer none, .pointer none, .pointer none, .pointer none, .pointer none, .pointer none, .pointer none, .pointer none, .pointer none, .pointer none, .pointer none, .pointer none, .pointer none] : Array Value) = opV B [] := rfl
theorem opV_set {B : Int → Nat} {T : List Int} {z b : Nat} (hz : z < 24) : (opV B T).setIfInBounds z (.pointer (some ⟨b, 0, none⟩)) = opV (updB B z b) (T ++ [(z : Int)]) := by
  apply Array.ext_getElem?
  intro p
  rw [Array.getElem?_setIfInBounds, opV_size]
  by_cases hp : p < 24
  · rw [opV_at hp, opV_at hp]
    by_cases he : z = p
    · subst he
      rw [if_pos rfl, if_pos hz, lkO_yes (by simp), updB_same]
    · rw [if_neg he]
      by_cases hm : (p : Int) ∈ T
      · rw [lkO_yes hm, lkO_yes (by simp [hm]), updB_other _ (by omega)]
      · rw [lkO_no hm, lkO_no (by simp only [List.mem_append, List.mem_singleton]; rintro (q | q); exact hm q; omega)]
  · rw [Array.getElem?_eq_none (by rw [opV_size]; omega), Array.getElem?_eq_none (by rw [opV_size]; omega)]
    by_cases he : z = p
    · omega
    · rw [if_neg he]
theorem lkR_snoc {B : Int → Nat} {T : List Int} {z : Int} {b : Nat} (h : z ∉ T) : lkR B T ++ [.pointer (some ⟨b, 0, none⟩)] = lkR (updB B z b) (T ++ [z]) := by
  unfold lkR
  rw [List.map_append, List.map_singleton, updB_same]
  congr 1
  refine List.map_congr_left fun x hx => ?_
  have hne : x ≠ z := by rintro rfl; exact h hx
  rw [updB_other _ hne]




theorem two_below {w w' : World} {b B : Nat} {v0 v1 : Value} (h : Two w b v0 v1) (hb : Below B w w') (hB : b < B) : Two w' b v0 v1 :=
  ⟨Nat.lt_of_lt_of_le h.1 hb.size, by rw [hb.cell (p := ⟨b, 0, none⟩) hB]; exact h.2.1, by rw [hb.cell (p := ⟨b, 1, none⟩) hB]; exact h.2.2⟩
theorem own_setCell {w : World} {base b o n : Nat} {e : TypeId} {size : Nat} {v : Value} {xs : List Value} (h : w.ownsRow base e size v n xs) (hne : some b ≠ v.ownBlock) (u : Value) : (w.setCell ⟨b, o, none⟩ u).ownsRow base e size v n xs := by
  obtain ⟨h1, h2 | ⟨g, cap, cur, rfl, hB, hg, rest⟩⟩ := h
  · exact ⟨h1, .inl h2⟩
  · refine ⟨h1, .inr ⟨g, cap, cur, rfl, hB, ?_, rest⟩⟩
    rw [heap_setCell_other _ _ _ _ (show g ≠ b from fun e => hne (by rw [e]; rfl))]
    exact hg




/-- What is behind a link, the links of the beats T being led on. -/
def aft (B : Int → Nat) (T zs : List Int) (n g z : Int) : Option Addr := if z ∈ T then lkO B zs ((z + g) % n) else none



/-- z - g and z + g, around. -/
theorem back_iff {n g x z : Int} (hx : 0 ≤ x ∧ x < n) (hz : 0 ≤ z ∧ z < n) : (x - g) % n = z ↔ x = (z + g) % n := by
  constructor
  · intro e
    rw [← e, em_add, show x - g + g = x by omega, em_self hx]
  · intro e
    rw [e, em_sub, show z + g - g = z by omega, em_self hz]





end Go.Proofs.Ytjgjcppkbfojpaa.Rhy

/-
  Helpers of the claims beside this text: the program's links of a rhythm: the walk of links.
-/
namespace Go.Proofs.Ytjgjcppkbfojpaa.Rhy
open Go.RowKit
set_option linter.unusedVariables false
set_option linter.unusedSimpArgs false

theorem take_snoc' {zs : List Int} {j : Nat} {z : Int} (h : zs[j]? = some z) : zs.take (j + 1) = zs.take j ++ [z] := by
  rw [List.take_add_one, h]; rfl
theorem take_not {s : Int} {zs : List Int} (ho : Ok s zs) {j : Nat} {z : Int} (h : zs[j]? = some z) : z ∉ zs.take j := by
  intro hm
  obtain ⟨i, hi, e⟩ := List.getElem_of_mem hm
  rw [List.length_take] at hi
  have e2 : zs[i]? = some z := by rw [← e, List.getElem_take, List.getElem?_eq_getElem]
  have hj : j < zs.length := by
    rcases Nat.lt_or_ge j zs.length with q | q
    · exact q
    · rw [List.getElem?_eq_none q] at h; cases h
  have hs := List.pairwise_iff_getElem.1 (ok_sorted ho) i j (by omega) hj (by omega)
  rw [List.getElem?_eq_getElem (by omega)] at e2
  rw [List.getElem?_eq_getElem hj] at h
  have e3 := Option.some.inj e2
  have e4 := Option.some.inj h
  omega


end Go.Proofs.Ytjgjcppkbfojpaa.Rhy

/-
  Helpers of the claims beside this text: the program's chain: firstLink, chain.
-/
namespace Go.Proofs.Ytjgjcppkbfojpaa.Rhy
open Go.RowKit
set_option linter.unusedVariables false
set_option linter.unusedSimpArgs false

/-- What is behind a link, the chain being open at its first beat. -/
def beh (B : Int → Nat) (zs : List Int) (n g s z : Int) : Option Addr := if (z + g) % n = s then none else lkO B zs ((z + g) % n)



theorem shift_ne {n g z : Int} (hz : 0 ≤ z ∧ z < n) (hg : 1 ≤ g ∧ g < n) : (z - g) % n ≠ z := by
  intro e
  rcases Int.lt_or_le (z - g) 0 with q | q
  · have : (z - g) % n = z - g + n := by
      rw [← Int.add_emod_right, Int.emod_eq_of_lt (by omega) (by omega)]
    omega
  · rw [Int.emod_eq_of_lt q (by omega)] at e
    omega


def lenV : Value → Nat
  | .slice _ n _ => n
  | _ => 0



end Go.Proofs.Ytjgjcppkbfojpaa.Rhy

/-
  Helpers of the claims beside this text: the program's generators: hasGenerator, GeneratorsOf, IsGenerated, ChainOf.
-/
namespace Go.Proofs.Ytjgjcppkbfojpaa.Rhy
open Go.RowKit
set_option linter.unusedVariables false
set_option linter.unusedSimpArgs false

/-- A slice of q elements, whichever. -/
def SlPost (q : Nat) (w : World) (e : Ending) (w' : World) : Prop := (∃ a c, e = .returned (.slice a q c)) ∧ Below w.heap.size w w'
def ChQ (n : Int) (zs : List Int) (g : Int) (q : Nat) : Prop := (0 < zs.length → ChM n zs (chF n zs g) g q) ∧ (zs.length = 0 → q = 0)
theorem chQ_ex {n : Int} {zs : List Int} (ho : Ok n zs) (g : Int) : ∃ q, ChQ n zs g q := by
  rcases Nat.eq_zero_or_pos zs.length with q | q
  · exact ⟨0, fun h => absurd h (by omega), fun _ => rfl⟩
  · obtain ⟨m, hm⟩ := chM_ex ho (chF_in (n := n) (zs := zs) g q) g
    exact ⟨m, fun _ => hm, fun h => absurd h (by omega)⟩
theorem chQ_iff {n g : Nat} {zs : List Int} {q : Nat} (ho : Ok n zs) (hg : 1 ≤ g ∧ g < n) (h : ChQ n zs g q) : hasB (gnB n zs) g = true ↔ q = zs.length := by
  rw [gn_iff ho hg]
  rcases Nat.eq_zero_or_pos zs.length with e | e
  · have e2 : zs = [] := List.eq_nil_of_length_eq_zero e
    have h1 := h.2 e
    have h2 := ho.1
    subst e2
    exact ⟨fun _ => h1, fun _ => gnQ_none (by omega) hg⟩
  · exact ⟨fun hq => gnQ_len ho hg e (h.1 e) hq, fun hq => gnQ_all ho hg e (h.1 e) hq⟩


theorem gnP_zero (n : Int) (zs : List Int) : gnP n zs 0 = [] := by simp [gnP]
theorem gnP_has {n g : Nat} {zs : List Int} (ho : Ok n zs) (hg : g < n) (h : hasB (gnB n zs) g = true) : gnP n zs (g + 1) = gnP n zs g ++ [(g : Int)] := by
  have h1 := (gnB_in h).2.1
  exact gnP_yes (by omega) ((gn_iff ho ⟨by omega, hg⟩).1 h)
theorem gnP_not {n g : Nat} {zs : List Int} (ho : Ok n zs) (hg : g < n) (h : hasB (gnB n zs) g = false) : gnP n zs (g + 1) = gnP n zs g := by
  rcases Nat.eq_zero_or_pos g with e | e
  · subst e; rw [gnP_one, gnP_zero]
  · refine gnP_no fun q => ?_
    rw [(gn_iff ho ⟨by omega, hg⟩).2 q] at h
    cases h





end Go.Proofs.Ytjgjcppkbfojpaa.Rhy

/-
  Helpers of the claims beside this text: an append of a whole slice of integers; slices.Grow and slices.Concat.
-/
namespace Go.Proofs.Ytjgjcppkbfojpaa.Rhy
open Go.RowKit
set_option linter.unusedVariables false

/-- slices.Grow at nil. -/
theorem grow_nil (n : Nat) (w : World) (hn : n ≤ 4194304) :
    Calls Try.prog 111 #[.slice none 0 0, .int .i64 n] w fun e w' => ∃ a c, e = .returned (.slice a 0 c) ∧ w'.ownsRow w.heap.size 3 1 (.slice a 0 c) 0 [] ∧ Below w.heap.size w w' := by
  obtain ⟨i0, hi, hz0, hz1, hz2⟩ := info_parts infoInt
  by_cases h0 : n = 0
  · subst h0
    refine (Any8.slices_Grow_room Try.growI none 0 0 0 w (by omega) (by omega) (by omega) (by omega)).mono ?_
    rintro e w' ⟨rfl, rfl⟩
    exact ⟨none, 0, rfl, World.ownsRow_nil _ _ _ _, Below.refl _ _⟩
  · refine (Any8.slices_Grow_grow Try.growI i0 (.int .i64 0) hi hz0 (by omega) none 0 0 n [] w (by omega) (by omega) (by rw [hz2]; omega) (by omega) (by simp) (fun _ => rfl) (fun a h => by cases h)).mono ?_
    rintro e w' ⟨rfl, rfl⟩
    refine ⟨_, _, rfl, ?_, ((Below.refl w.heap.size w).drew).alloc (Nat.le_refl _) _⟩
    have hge := grownCap_ge w (0 + n) 0 (Try.growI_ren.t 25)
    have hle := grownCap_le_maxLen w (0 + n) 0 (Try.growI_ren.t 25) (by unfold maxLen; omega)
    have hge2 := hge
    rw [Nat.zero_add] at hge2
    exact World.ownsRow_made (base := w.heap.size) (e := 3) (size := 1) w.drew _ _ (Nat.le_refl _) hle (by
      simp only [Array.size_append, List.size_toArray, size_zeroCells]
      simp [Value.cells]
      omega)

/-- slices.Concat of two slices of integers. -/
theorem concat_any (N : Nat) (a b : Option Addr) (n m ca cb : Nat) (xs ys : List Int) (w : World) (hT : Two w N (.slice a n ca) (.slice b m cb)) (ha : IntsAt w a n xs) (hb : IntsAt w b m ys) (hn : n ≤ 1048576) (hm : m ≤ 1048576) :
    Calls Try.prog 64 #[.slice (some ⟨N, 0, none⟩) 2 2] w fun e w' => ∃ r c, e = .returned (.slice r (xs ++ ys).length c) ∧ w'.ownsRow w.heap.size 3 1 (.slice r (xs ++ ys).length c) (xs ++ ys).length (ints (xs ++ ys)) ∧ Below w.heap.size w w' := by
  have FA := Lib.hid ha
  have FB := Lib.hid hb
  have HT := Lib.hid hT
  obtain ⟨t0, ta, tb⟩ := hT
  have hnx := ha.1
  have hmy := hb.1
  clear ha hb
  have HL := Lib.hid (And.intro hnx hmy)
  clear hnx hmy
  go_enter Try.func64, Try.ntmps64
  go_wp2
  refine wp_loop_rounds 3 ?_; rw [rounds_succ]
  go_wp2
  rw [rounds_succ]
  go_wp2
  rw [rounds_succ]
  have HG := Lib.hid (show ∀ w, Calls Try.prog 111 #[.slice none 0 0, .int .i64 ((n : Int) + m)] w fun e w' => ∃ a c, e = .returned (.slice a 0 c) ∧ w'.ownsRow w.heap.size 3 1 (.slice a 0 c) 0 [] ∧ Below w.heap.size w w' from fun w => by
    have := grow_nil (n + m) w (by omega)
    rwa [Int.natCast_add] at this)
  go_wp2_with fail
  refine (HG.out w).mono ?_
  rintro e w1 ⟨r1, c1, rfl, hown1, hb1⟩
  have O1 := Lib.hid hown1
  have B1 := Lib.hid hb1
  have T1 := Lib.hid (HT.out.keep hb1)
  obtain ⟨u0, ua, ub⟩ := T1.out
  have hz1 := hb1.size
  clear hown1 hb1
  go_wp2
  refine wp_loop_rounds 3 ?_; rw [rounds_succ]
  go_wp2_with (at_builtin; refine wpList_app rfl _ _ rfl w.heap.size r1 c1 [] a n ca xs _ O1.out (FA.out.below B1.out) (by simp) (by omega) hz1 rfl rfl ?_; intro a2 c2 w2 hown2 hb2; have O2 := Lib.hid hown2; have B2 := Lib.hid (B1.out.trans hb2); have ud := hb2.cell (p := ⟨N, 1, none⟩) t0; have ue := hb2.cell (p := ⟨N, 0, none⟩) t0; have hz2 := Nat.le_trans hz1 hb2.size; clear hown2 hb2)
  rw [ub] at ud
  rw [ua] at ue
  rw [rounds_succ]
  have hxl : xs.length = n := HL.out.1
  have HXL := Lib.hid hxl
  clear hxl
  go_wp2_with (at_builtin; refine wpList_app rfl _ _ rfl w.heap.size a2 c2 ([] ++ xs) b m cb ys _ O2.out (FB.out.below B2.out) (by have := HXL.out; simp; omega) (by omega) hz2 rfl rfl ?_; intro a3 c3 w3 hown3 hb3; have O3 := Lib.hid hown3; have B3 := Lib.hid (B2.out.trans hb3); clear hown3 hb3)
  rw [rounds_succ]
  go_wp2
  go_ret
  exact ⟨a3, c3, show Ending.returned (.slice a3 (xs.length + ys.length) c3) = _ by rw [List.length_append], by simpa using O3.out, B3.out⟩
end Go.Proofs.Ytjgjcppkbfojpaa.Rhy

/-
  Helpers of the claims beside this text: plain mathematics: a sorted list without its repeats.
-/
namespace Go.Proofs.Ytjgjcppkbfojpaa.Rhy
set_option linter.unusedVariables false
open Go.Lib

theorem cup_zero (d : Array Int) : compactUpTo d 0 = [] := by simp [compactUpTo]
theorem cup_spec (d : Array Int) (hs : ∀ i j, i < j → j < d.size → d[i]! ≤ d[j]!) :
    ∀ m, m ≤ d.size → (compactUpTo d m).Pairwise (· < ·) ∧ (∀ x, x ∈ compactUpTo d m ↔ ∃ j, j < m ∧ d[j]! = x) := by
  intro m
  induction m with
  | zero =>
    intro _
    rw [cup_zero]
    exact ⟨List.Pairwise.nil, fun x => by simp⟩
  | succ m ih =>
    intro hm
    obtain ⟨h1, h2⟩ := ih (by omega)
    rw [compactUpTo_succ]
    cases hk : keeps d m
    · have h0 : 0 < m := by
        rcases Nat.eq_zero_or_pos m with h | h
        · rw [h, keeps_lt_one d 0 (by omega)] at hk
          cases hk
        · exact h
      have he : d[m]! = d[m - 1]! := by
        rcases Classical.em (d[m]! = d[m - 1]!) with h | h
        · exact h
        · rw [keeps_pos h] at hk; cases hk
      refine ⟨by simpa using h1, fun x => ?_⟩
      simp only [Bool.false_eq_true, if_false, List.append_nil]
      rw [h2]
      constructor
      · rintro ⟨j, hj, e⟩; exact ⟨j, by omega, e⟩
      · rintro ⟨j, hj, e⟩
        by_cases hjm : j = m
        · subst hjm; exact ⟨j - 1, by omega, by rw [← he]; exact e⟩
        · exact ⟨j, by omega, e⟩
    · simp only [if_true]
      refine ⟨?_, fun x => ?_⟩
      · rw [List.pairwise_append]
        refine ⟨h1, by simp, fun x hx y hy => ?_⟩
        simp at hy
        subst hy
        obtain ⟨j, hj, e⟩ := (h2 x).1 hx
        have hle : d[j]! ≤ d[m]! := hs j m hj (by omega)
        rcases Nat.eq_zero_or_pos m with h0 | h0
        · omega
        · have hne : d[m]! ≠ d[m - 1]! := fun q => by
            rw [keeps_neg h0 q] at hk
            cases hk
          have h3 : d[m - 1]! ≤ d[m]! := hs (m - 1) m (by omega) (by omega)
          have h4 : d[j]! ≤ d[m - 1]! := by
            by_cases hj1 : j = m - 1
            · rw [hj1]; exact Int.le_refl _
            · exact hs j (m - 1) (by omega) (by omega)
          omega
      · rw [List.mem_append, h2]
        constructor
        · rintro (⟨j, hj, e⟩ | h)
          · exact ⟨j, by omega, e⟩
          · simp at h
            exact ⟨m, by omega, h.symm⟩
        · rintro ⟨j, hj, e⟩
          by_cases hjm : j = m
          · subst hjm; right; simp [e]
          · left; exact ⟨j, by omega, e⟩

/-- A sorted list of numbers from 0 up to n, without its repeats. -/
theorem compact_ofZ {n : Nat} {l s : List Int} (hs : s.Pairwise (· ≤ ·)) (hm : ∀ x, x ∈ s ↔ x ∈ l) (hr : ∀ x ∈ l, 0 ≤ x ∧ x < n) : Lib.compact s = ofZ n l := by
  have hmono : ∀ i j, i < j → j < s.toArray.size → s.toArray[i]! ≤ s.toArray[j]! := by
    intro i j hij hj
    have hj' : j < s.length := by simpa using hj
    have := List.pairwise_iff_getElem.1 hs i j (by omega) hj' hij
    rw [getElem!_pos s.toArray i (by simp; omega), getElem!_pos s.toArray j (by simp; omega)]
    simpa using this
  obtain ⟨h1, h2⟩ := cup_spec s.toArray hmono s.length (by simp)
  refine lt_uniq h1 (ofZ_sorted n l) (fun x => ?_)
  show x ∈ compactUpTo s.toArray s.length ↔ _
  rw [h2, ofZ_mem]
  constructor
  · rintro ⟨j, hj, e⟩
    have hx : x ∈ s := by
      rw [getElem!_pos s.toArray j (by simp; omega)] at e
      rw [← e]
      simp
    have hl := (hm x).1 hx
    exact ⟨hr x hl, hl⟩
  · rintro ⟨_, hl⟩
    obtain ⟨j, hj, e⟩ := List.mem_iff_getElem.1 ((hm x).2 hl)
    exact ⟨j, hj, by rw [getElem!_pos s.toArray j (by simp; omega)]; simpa using e⟩
theorem sort_le (l : List Int) : (l.mergeSort fun x y => decide (x ≤ y)).Pairwise (· ≤ ·) :=
  (List.pairwise_mergeSort (le := fun x y : Int => decide (x ≤ y)) (fun a b c h1 h2 => by simp at *; omega) (fun a b => by simp; omega) l).imp (fun h => by simpa using h)
theorem compact_sort {n : Nat} {l : List Int} (hr : ∀ x ∈ l, 0 ≤ x ∧ x < n) : Lib.compact (l.mergeSort fun x y => decide (x ≤ y)) = ofZ n l :=
  compact_ofZ (sort_le l) (fun x => (List.mergeSort_perm l _).mem_iff) hr
end Go.Proofs.Ytjgjcppkbfojpaa.Rhy

/-
  Helpers of the claims beside this text: the library's Compact at a slice of the call's own.
-/
namespace Go.Proofs.Ytjgjcppkbfojpaa.Rhy
open Go.RowKit
set_option linter.unusedVariables false

theorem compact_own (B : Nat) (a : Option Addr) (n cap : Nat) (l : List Int) (w : World) (h : w.ownsRow B 3 1 (.slice a n cap) n (ints l)) (hn : n ≤ 4194304) (hB : B ≤ w.heap.size) :
    Calls Try.prog 66 #[.slice a n cap] w fun e w' => e = .returned (.slice a (Lib.compact l).length cap) ∧ w'.ownsRow B 3 1 (.slice a (Lib.compact l).length cap) (Lib.compact l).length (ints (Lib.compact l)) ∧ Below B w w' := by
  have hl : l.length = n := (own_shape h).1
  have hle := Lib.compact_length_le l
  by_cases h0 : n = 0
  · subst h0
    have e : l = [] := List.eq_nil_of_length_eq_zero hl
    refine (Try.slices_Compact_int_empty a cap w).mono ?_
    rintro e' w' ⟨rfl, rfl⟩
    subst e
    have hc : Lib.compact ([] : List Int) = [] := List.eq_nil_of_length_eq_zero (by simpa using hle)
    rw [hc]
    exact ⟨rfl, h, Below.refl _ _⟩
  · have hown := h
    obtain ⟨h1, ⟨hv, hn0⟩ | ⟨g, cap', cur, hv, hBg, hg, hnc, hm, hs, ht⟩⟩ := h
    · exact absurd hn0 h0
    · simp at hv
      obtain ⟨rfl, rfl⟩ := hv
      have ht' : cur.toList.take l.length = l.map (Value.int .i64) := by rw [hl]; simpa [ints] using ht
      subst hl
      refine (Try.slices_Compact_int g 0 cap l w (holds_of_blockI hg ht') (by omega) hnc).mono ?_
      rintro e' w' ⟨rfl, q, rfl⟩
      refine ⟨rfl, ?_, ?_⟩
      · have := Lib.ownsRow_putRow (enc := Value.int .i64) (q := q) (ys := Lib.compact l ++ List.replicate (l.length - (Lib.compact l).length) 0) (k := (Lib.compact l).length) hown (by simp; omega) hle
        rw [List.take_left] at this
        exact this
      · exact Lib.below_putRow (Below.refl B w) hBg

end Go.Proofs.Ytjgjcppkbfojpaa.Rhy

/-
  Helpers of the claims beside this text: JoinRhythms of the model and of the program.
-/
namespace Go.Proofs.Ytjgjcppkbfojpaa.Rhy
open Go.RowKit
set_option linter.unusedVariables false

theorem cell_set_ne (w : World) (c o b p : Nat) (v : Value) (h : c ≠ b) : (w.setCell ⟨c, o, none⟩ v).cell? ⟨b, p, none⟩ = w.cell? ⟨b, p, none⟩ :=
  World.cell?_of_block (Below.heap_setCell _ _ _ _ (by show b ≠ c; omega))

theorem join_at {w : World} {B : Nat} {a : Option Addr} {c : Nat} {xs ys : List Int} (h : w.ownsRow B 3 1 (.slice a (([] ++ xs) ++ ys).length c) (([] ++ xs) ++ ys).length (ints (([] ++ xs) ++ ys))) (hi : AllInt (xs ++ ys)) : IntsAt w a (xs.length + ys.length) (xs ++ ys) := by
  have h2 := h
  rw [List.nil_append, List.length_append] at h2
  exact intsAt_own h2 hi

def JC (s : Int) (xs : List Int) (t : Int) (ys : List Int) : Prop := Ok s xs ∧ Ok t ys ∧ s = t
theorem join_range {s t : Int} {xs ys : List Int} (h : JC s xs t ys) : ∀ x ∈ xs ++ ys, 0 ≤ x ∧ x < (s.toNat : Nat) := by
  intro x hx
  rw [List.mem_append] at hx
  have h1 := h.1.1.1
  have h2 := h.2.2
  rcases hx with hx | hx
  · have := ok_range h.1 x hx; omega
  · have := ok_range h.2.1 x hx; omega
theorem join_int {s t : Int} {xs ys : List Int} (h : JC s xs t ys) : AllInt (xs ++ ys) := by
  intro x hx
  have := join_range h x hx
  have := h.1.1
  omega
theorem join_len {s t : Int} {xs ys : List Int} (h : JC s xs t ys) : (xs ++ ys).length ≤ 48 := by
  have := ok_len h.1
  have := ok_len h.2.1
  rw [List.length_append]
  omega

set_option maxHeartbeats 1000000 in
theorem join_impl (s : Int) (a : Option Addr) (n ca : Nat) (xs : List Int) (t : Int) (b : Option Addr) (m cb : Nat) (ys : List Int) (w : World) (ha : IntsAt w a n xs) (hn : xs.length ≤ 1048576) (hb : IntsAt w b m ys) (hm : ys.length ≤ 1048576) :
    Calls Try.prog 18 #[rhy s a n ca, rhy t b m cb] w (CPost (JC s xs t ys) s (ofZ s.toNat (xs ++ ys)) w) := by
  have FA := Lib.hid ha
  have FB := Lib.hid hb
  have ln : n ≤ 1048576 := by have := ha.1; omega
  have lm : m ≤ 1048576 := by have := hb.1; omega
  clear ha hb
  obtain ⟨W0, hW⟩ : ∃ W0, W0 = ((w.alloc (.cells #[.int .i64 s, .slice a n ca] 25)).alloc (.cells #[.int .i64 t, .slice b m cb] 25)).alloc (.cells #[.int .i64 0, .slice none 0 0] 25) := ⟨_, rfl⟩
  have HW := Lib.hid hW
  have HB := Lib.hid (show Below w.heap.size w W0 by rw [hW]; exact bel3 w _ _ _)
  have HT := Lib.hid (show Two W0 w.heap.size (.int .i64 s) (.slice a n ca) by rw [hW]; exact (two_new w _ _ _).keep (bel2 _ _ _))
  have HV := Lib.hid (show Two W0 (w.heap.size + 1) (.int .i64 t) (.slice b m cb) by
    rw [hW]
    have := (two_new (w.alloc (.cells #[.int .i64 s, .slice a n ca] 25)) (.int .i64 t) (.slice b m cb) 25).keep (bel1 _ (.cells #[.int .i64 0, .slice none 0 0] 25))
    simpa using this)
  have HU := Lib.hid (show Box W0 (w.heap.size + 1 + 1) (.int .i64 0) (.slice none 0 0) 25 by
    rw [hW]
    have := box_new ((w.alloc (.cells #[.int .i64 s, .slice a n ca] 25)).alloc (.cells #[.int .i64 t, .slice b m cb] 25)) (.int .i64 0) (.slice none 0 0) 25
    simpa using this)
  have hz0 := HU.out.lt
  clear hW
  by_cases ho : JC s xs t ys
  · have HC := Lib.hid ho
    have HO := Lib.hid ho.1
    have HP := Lib.hid ho.2.1
    have HQ := Lib.hid (oneB_yes ho)
    have hs1 := ho.1.1.1
    have hs2 := ho.1.1.2
    clear ho
    go_enter Try.func18, Try.ntmps18
    go_wp2_with fail
    rw [← HW.out]
    refine (one_any s a n ca xs t b m cb ys _ (FA.out.below HB.out) hn (FB.out.below HB.out) hm).mono ?_
    rintro e w2 ⟨rfl, hb2⟩
    rw [HQ.out]
    have B2 := Lib.hid (HB.out.trans (hb2.mono HB.out.size))
    have T2 := Lib.hid (HT.out.keep hb2)
    have V2 := Lib.hid (HV.out.keep hb2)
    have U2 := Lib.hid (HU.out.keep hb2 hz0)
    obtain ⟨t2, t2a, t2b⟩ := T2.out
    obtain ⟨v2, v2a, v2b⟩ := V2.out
    have u2 := U2.out.lt
    clear hb2
    go_wp2_with fail
    have K2 := Lib.hid (bel1 w2 (.cells #[.slice a n ca, .slice b m cb] 23))
    refine (concat_any w2.heap.size a b n m ca cb xs ys _ (two_new w2 _ _ _) ((FA.out.below B2.out).below K2.out) ((FB.out.below B2.out).below K2.out) ln lm).mono ?_
    rintro e w3 ⟨r, c3, rfl, hown3, hb3⟩
    have O3 := Lib.hid hown3
    have K3 := Lib.hid (K2.out.trans (hb3.mono K2.out.size))
    have hz3 : w2.heap.size + 1 ≤ w3.heap.size := by have := hb3.size; simp at this; omega
    have B3 := Lib.hid (B2.out.trans (K3.out.mono B2.out.size))
    have T3 := Lib.hid (T2.out.keep K3.out)
    have U3 := Lib.hid (U2.out.keep K3.out u2)
    obtain ⟨t3, t3a, t3b⟩ := T3.out
    have hjl := join_len HC.out
    clear hown3 hb3
    go_wp2_with fail
    refine (sort_own (w2.heap.size + 1) r (xs.length + ys.length) c3 (xs ++ ys) w3 (by rw [← List.length_append]; exact own_base O3.out (by simp)) (by rw [← List.length_append]; omega) hz3).mono ?_
    rintro e w4 ⟨rfl, hown4, hb4⟩
    have O4 := Lib.hid hown4
    have B4 := Lib.hid (B3.out.trans (hb4.mono (by have := B2.out.size; omega)))
    have X4 := Lib.hid (show w4.cell? ⟨w.heap.size, 0, none⟩ = some (.int .i64 s) by rw [hb4.cell (p := ⟨w.heap.size, 0, none⟩) (by show w.heap.size < _; omega)]; exact T3.out.2.1)
    have U4 := Lib.hid (U3.out.keep hb4 (by omega))
    have hz4 : w2.heap.size + 1 ≤ w4.heap.size := by have := hb4.size; omega
    clear hown4 hb4
    go_wp2
    have hcl := Lib.compact_length_le (sortZ (xs ++ ys))
    have hsl := sortZ_len (xs ++ ys)
    have HCS := Lib.hid (show Lib.compact (sortZ (xs ++ ys)) = ofZ s.toNat (xs ++ ys) from compact_sort (join_range HC.out))
    have HO5 := Lib.hid (show w4.drew.ownsRow (w2.heap.size + 1) 3 1 (.slice r (xs.length + ys.length) c3) (xs.length + ys.length) (ints (sortZ (xs ++ ys))) from O4.out)
    have hlen : xs.length + ys.length ≤ 48 := by rw [← List.length_append]; exact hjl
    go_region_held3 (fun W => W.cell? ⟨w.heap.size, 0, none⟩ = some (.int .i64 s))
      (first | exact X4.out | exact hx5 | (rw [cell_set_ne _ _ _ _ _ _ (by omega), cell_set_ne _ _ _ _ _ _ (by omega)]; exact hx5))
      ((first
        | (go_at_call 66; refine (compact_own (w2.heap.size + 1) r (xs.length + ys.length) c3 (sortZ (xs ++ ys)) _ HO5.out (by omega) hz4).mono ?_; rintro e w5 ⟨rfl, hown5, hc5⟩; have hb5 := ((Below.refl (w2.heap.size + 1) w4).drew).trans hc5; have O5 := Lib.hid hown5; have K5 := Lib.hid hb5; have U5 := Lib.hid (U4.out.keep hb5 (by omega)); obtain ⟨q0, q1, q2, q3⟩ := U5.out.facts; have hx5 : w5.cell? ⟨w.heap.size, 0, none⟩ = some (.int .i64 s) := (hb5.cell (p := ⟨w.heap.size, 0, none⟩) (show w.heap.size < w2.heap.size + 1 by omega)).trans X4.out; clear hown5 hb5 hc5)))
    rename_i hh
    clear hh
    have l5 := U5.out.lt
    go_wp2
    rw [HCS.out] at O5
    refine bodyPost_ret (v := .tuple #[rhy s r (Lib.compact (sortZ (xs ++ ys))).length c3, .bool true]) (by simp [results, Try.results18, go_sem, *]) rfl (cpost_yes HC.out (by rw [HCS.out]) ?_ ?_)
    · rw [HCS.out]
      exact own_base (ownsRow_setCell_below (ownsRow_setCell_below O5.out (by show w.heap.size + 1 + 1 < _; omega) _) (by show w.heap.size + 1 + 1 < _; omega) _) (by have := B2.out.size; omega)
    · exact ((B4.out.trans (K5.out.mono (by have := B2.out.size; omega))).setCell (by simp; omega) _).setCell (by simp; omega) _
  · have HC := Lib.hid ho
    have HQ := Lib.hid (oneB_no ho)
    clear ho
    go_enter Try.func18, Try.ntmps18
    go_wp2_with fail
    rw [← HW.out]
    refine (one_any s a n ca xs t b m cb ys _ (FA.out.below HB.out) hn (FB.out.below HB.out) hm).mono ?_
    rintro e w1 ⟨rfl, hb1⟩
    rw [HQ.out]
    have B1 := Lib.hid (HB.out.trans (hb1.mono HB.out.size))
    have U1 := Lib.hid (HU.out.keep hb1 hz0)
    clear hb1
    obtain ⟨q0, q1, q2, q3⟩ := U1.out.facts
    go_wp2
    refine bodyPost_ret (v := .tuple #[rhy 0 none 0 0, .bool false]) (by simp [results, Try.results18, go_sem, *]) rfl (cpost_no HC.out ?_)
    exact (B1.out.setCell (by simp; omega) _).setCell (by simp; omega) _


end Go.Proofs.Ytjgjcppkbfojpaa.Rhy

/-
  Helpers of the claims beside this text: the program's withBeat, ExtendChain.
-/
namespace Go.Proofs.Ytjgjcppkbfojpaa.Rhy
open Go.RowKit
set_option linter.unusedVariables false
set_option linter.unusedSimpArgs false

theorem one_ok {n : Nat} {p : Int} (h : 1 ≤ n ∧ n ≤ 24) (hp : 0 ≤ p ∧ p < n) : Ok n [p] :=
  ok_of (by omega) (by omega) (by simp) (fun z hz => by rw [List.mem_singleton] at hz; subst hz; exact hp)
theorem chB_mem {s g : Int} {zs : List Int} (h : hasB (gnB s zs) g = true) {x : Int} : x ∈ chB s zs g ↔ x ∈ zs := by
  have hi := gnB_in h
  obtain ⟨n, rfl⟩ : ∃ n : Nat, s = n := ⟨s.toNat, by have := hi.1.1; omega⟩
  obtain ⟨k, rfl⟩ : ∃ k : Nat, g = k := ⟨g.toNat, by omega⟩
  obtain ⟨q, hq⟩ := chQ_ex hi.1 (k : Int)
  have hql : q = zs.length := (chQ_iff hi.1 ⟨by omega, by omega⟩ hq).1 h
  rw [chB_yes h]
  rcases Nat.eq_zero_or_pos zs.length with e | e
  · have e2 : zs = [] := List.eq_nil_of_length_eq_zero e
    subst e2
    simp [chP]
  · have hM := hq.1 e
    have hb := chF_bd hi.1 e (k : Int)
    rw [hql] at hM
    exact ⟨chP_in hM x, (sub_all _ _ (chP_nodup hb hM) (chP_in hM)).2 (by rw [chP_len]; omega) x⟩
theorem exZ_same {s g : Int} {zs : List Int} (h : hasB (gnB s zs) g = true) : exZ s zs g = ofZ s.toNat (zs ++ [exP s zs g]) :=
  ofZ_congr fun x => by rw [List.mem_append, List.mem_append, chB_mem h]
theorem cell_other2 (w : World) {b c o : Nat} (h : b ≠ c) (u v : Value) : ((w.setCell ⟨c, 0, none⟩ u).setCell ⟨c, 1, none⟩ v).cell? ⟨b, o, none⟩ = w.cell? ⟨b, o, none⟩ :=
  World.cell?_of_block (by rw [heap_setCell_other _ _ _ _ h, heap_setCell_other _ _ _ _ h])
theorem cpost_iff {c d : Prop} {s : Int} {l : List Int} {w w' : World} {e : Ending} (h : c ↔ d) (hp : CPost c s l w e w') : CPost d s l w e w' := by
  rw [← propext h]; exact hp
theorem ints_one (w : World) (y : Int) (h : -9223372036854775808 ≤ y ∧ y ≤ 9223372036854775807) : IntsAt (w.alloc (.cells #[.int .i64 y] 3)) (some ⟨w.heap.size, 0, none⟩) 1 [y] := by
  have := World.ownsRow_made (base := w.heap.size) (e := 3) (size := 1) w #[.int .i64 y] 1 (Nat.le_refl _) (by unfold maxLen; omega) rfl
  have h2 : (w.alloc (.cells #[.int .i64 y] 3)).ownsRow w.heap.size 3 1 (.slice (some ⟨w.heap.size, 0, none⟩) 1 1) 1 (ints [y]) :=
    ⟨rfl, .inr ⟨w.heap.size, 1, #[.int .i64 y], rfl, Nat.le_refl _, heap_alloc_new w _, Nat.le_refl _, by unfold maxLen; omega, rfl, rfl⟩⟩
  exact intsAt_own h2 (fun z hz => by rw [List.mem_singleton] at hz; subst hz; exact h)

set_option maxHeartbeats 1000000 in
theorem addBeat_any (n : Nat) (a : Option Addr) (cap : Nat) (zs : List Int) (p : Int) (w : World) (h : IntsAt w a zs.length zs) (ho : Ok n zs) (h3 : -9223372036854775808 ≤ p) (h4 : p ≤ 9223372036854775807) :
    Calls Try.prog 128 #[rhy n a zs.length cap, .int .i64 p] w (CPost (hasB zs (p % n) = false) n (ofZ n (zs ++ [p % n])) w) := by
  have HS := Lib.hid h
  have HOK := Lib.hid ho
  have hl24 := ok_len ho
  have hn1 : 1 ≤ n := by have := ho.1.1; omega
  have hn24 : n ≤ 24 := by have := ho.1.2; omega
  have hpb := em_bd p (n := n) (by omega)
  clear h ho
  obtain ⟨W0, hW⟩ : ∃ W0, W0 = (w.alloc (.cells #[.int .i64 n, .slice a zs.length cap] 25)).alloc (.cells #[.int .i64 0, .slice none 0 0] 25) := ⟨_, rfl⟩
  have HW := Lib.hid hW
  have HB := Lib.hid (show Below w.heap.size w W0 by rw [hW]; exact bel2 w _ _)
  have HT := Lib.hid (show Box W0 w.heap.size (.int .i64 n) (.slice a zs.length cap) 25 by rw [hW]; exact (box_new w _ _ _).keep (bel1 _ _) (by simp))
  have HU := Lib.hid (show Box W0 (w.heap.size + 1) (.int .i64 0) (.slice none 0 0) 25 by
    rw [hW]
    have := box_new (w.alloc (.cells #[.int .i64 n, .slice a zs.length cap] 25)) (.int .i64 0) (.slice none 0 0) 25
    simpa using this)
  have HSZ := Lib.hid (show W0.heap.size = w.heap.size + 2 by rw [hW]; simp)
  clear hW
  obtain ⟨t0, t1, _, _⟩ := HT.out.facts
  go_enter Try.func128, Try.ntmps128
  go_wp2_with fail
  rw [← HW.out]
  refine (hasBeat_any n a zs.length cap zs p W0 (HS.out.below HB.out) (by omega) (by omega) (by omega) h3 h4).mono ?_
  rintro e w1 ⟨rfl, hb1⟩
  have HB1 := Lib.hid (HB.out.trans (hb1.mono HB.out.size))
  have s1 := hb1.size
  have HT1 := Lib.hid (HT.out.keep hb1 HT.out.lt)
  have HU1 := Lib.hid (HU.out.keep hb1 HU.out.lt)
  clear hb1 t0 t1
  obtain ⟨t0, t1, _, _⟩ := HT1.out.facts
  obtain ⟨u0, u1, u2, u3⟩ := HU1.out.facts
  have ult := HU1.out.lt
  have htlt := HT1.out.lt
  cases hc : hasB zs (p % n)
  · have HC : Hid (hasB zs (p % n) = false) := Lib.hid hc
    have HCr : Hid (hasB zs (remB p n) = false) := Lib.hid hc
    obtain ⟨y, hy⟩ : ∃ y, p % (n : Int) = y := ⟨_, rfl⟩
    have HY := Lib.hid hy
    have HYr : Hid (remB p n = y) := Lib.hid hy
    have hyb : 0 ≤ y ∧ y < n := by omega
    rw [HCr.out]
    rw [hy]
    clear hc hy hpb
    have HJC : Hid (JC n zs n [y]) := Lib.hid ⟨HOK.out, one_ok ⟨hn1, hn24⟩ hyb, rfl⟩
    have HK : Hid (∀ W : World, Below w1.heap.size w1 W → W.cell? ⟨w.heap.size, 0, none⟩ = some (.int .i64 n) ∧ W.cell? ⟨w.heap.size, 1, none⟩ = some (.slice a zs.length cap)) :=
      Lib.hid (fun W hW => ⟨(HT1.out.keep hW htlt).facts.1, (HT1.out.keep hW htlt).facts.2.1⟩)
    go_wp2
    refine wp_region_held_drew (S := fun W => W.cell? ⟨w.heap.size, 0, none⟩ = some (.int .i64 n) ∧ W.cell? ⟨w.heap.size, 1, none⟩ = some (.slice a zs.length cap)) (by kernel_rfl) (HK.out _ (Below.refl _ _).drew) (fun hSS0 => ?_)
    refine wpAnyH_take (i := 0) (oi := ⟨some 10, _, _, _, _, _⟩) (v := .agg #[.int .i64 n, .slice a zs.length cap]) rfl (by kernel_rfl) (by kernel_rfl) (by kernel_rfl) (fun _ _ _ h => h) (Or.inl ⟨by rfl, fun W hSw => by obtain ⟨q1, q2⟩ := hSw; go_simp⟩) (by assumption) ?_
    try simp only [Act.put, List.setIfInBounds_toArray, List.set_cons_zero, List.set_cons_succ]
    refine wpAnyH_take (i := 1) (oi := ⟨some 11, _, _, _, _, _⟩) (v := .pointer (some ⟨w.heap.size, 0, none⟩)) rfl (by kernel_rfl) (by kernel_rfl) (by kernel_rfl) (fun _ _ _ h => h) (Or.inl ⟨by rfl, fun W hSw => by go_simp⟩) (by assumption) ?_
    try simp only [Act.put, List.setIfInBounds_toArray, List.set_cons_zero, List.set_cons_succ]
    refine wpAnyH_take (i := 2) (oi := ⟨some 12, _, _, _, _, _⟩) (v := .int .i64 n) rfl (by kernel_rfl) (by kernel_rfl) (by kernel_rfl) (fun _ _ _ h => h) (Or.inl ⟨by rfl, fun W hSw => by obtain ⟨q1, q2⟩ := hSw; go_simp⟩) (by assumption) ?_
    try simp only [Act.put, List.setIfInBounds_toArray, List.set_cons_zero, List.set_cons_succ]
    refine wpAnyH_take (i := 3) (oi := ⟨some 13, _, _, _, _, _⟩) (v := .int .i64 p) rfl (by kernel_rfl) (by kernel_rfl) (by kernel_rfl) (fun _ _ _ h => h) (Or.inl ⟨by rfl, fun W hSw => by go_simp⟩) (by assumption) ?_
    try simp only [Act.put, List.setIfInBounds_toArray, List.set_cons_zero, List.set_cons_succ]
    refine wpAnyH_take (i := 4) (oi := ⟨some 14, _, _, _, _, _⟩) (v := .pointer (some ⟨w.heap.size, 0, none⟩)) rfl (by kernel_rfl) (by kernel_rfl) (by kernel_rfl) (fun _ _ _ h => h) (Or.inl ⟨by rfl, fun W hSw => by go_simp⟩) (by assumption) ?_
    try simp only [Act.put, List.setIfInBounds_toArray, List.set_cons_zero, List.set_cons_succ]
    refine wpAnyH_take (i := 5) (oi := ⟨some 15, _, _, _, _, _⟩) (v := .int .i64 n) rfl (by kernel_rfl) (by kernel_rfl) (by kernel_rfl) (fun _ _ _ h => h) (Or.inl ⟨by rfl, fun W hSw => by obtain ⟨q1, q2⟩ := hSw; go_simp⟩) (by assumption) ?_
    try simp only [Act.put, List.setIfInBounds_toArray, List.set_cons_zero, List.set_cons_succ]
    refine wpAnyH_ready (rs := [6]) (by kernel_rfl) (by simp) ?_
    refine AllReadyH.cons rfl (fun K hKK => ?_) AllReadyH.nil
    go_simp
    go_at_call 110
    refine (around_any p n _ (by omega) (by omega) h3 h4).mono ?_
    rintro e w2 ⟨rfl, rfl⟩
    rw [HYr.out]
    refine hKK.out _ _ (HK.out _ (Below.refl _ _).drew) (fun hSS1 => ?_)
    clear hKK K hSS0
    try simp only [Act.put, List.setIfInBounds_toArray, List.set_cons_zero, List.set_cons_succ]
    refine wpAnyH_ready (rs := [7]) (by kernel_rfl) (by simp) ?_
    refine AllReadyH.cons rfl (fun K hKK => ?_) AllReadyH.nil
    go_simp
    have HBa : Hid (Below w1.heap.size w1 (w1.drew.alloc (.cells #[.int .i64 y] 3))) := Lib.hid ((Below.refl w1.heap.size w1).drew.trans (bel1 w1.drew _))
    have HIy : Hid (IntsAt (w1.drew.alloc (.cells #[.int .i64 y] 3)) (some ⟨w1.heap.size, 0, none⟩) 1 [y]) := Lib.hid (by simpa using ints_one w1.drew y (by omega))
    refine hKK.out _ _ (HK.out _ HBa.out) (fun hSS2 => ?_)
    clear hKK K hSS1
    try simp only [Act.put, List.setIfInBounds_toArray, List.set_cons_zero, List.set_cons_succ]
    refine wpAnyH_take (i := 8) (oi := ⟨some 18, _, _, _, _, _⟩) (v := .agg #[.int .i64 n, .slice (some ⟨w1.heap.size, 0, none⟩) 1 1]) rfl (by kernel_rfl) (by kernel_rfl) (by kernel_rfl) (fun _ _ _ h => h) (Or.inl ⟨by rfl, fun W hSw => by go_simp⟩) (by assumption) ?_
    try simp only [Act.put, List.setIfInBounds_toArray, List.set_cons_zero, List.set_cons_succ]
    refine wpAnyH_ready (rs := [9]) (by kernel_rfl) (by simp) ?_
    refine AllReadyH.cons rfl (fun K hKK => ?_) AllReadyH.nil
    go_simp
    go_at_call 18
    refine (join_impl n a zs.length cap zs n (some ⟨w1.heap.size, 0, none⟩) 1 1 [y] _ (HS.out.below (HB1.out.trans (HBa.out.mono HB1.out.size))) (by omega) HIy.out (by simp)).mono ?_
    rintro e w3 hp
    unfold CPost at hp
    rw [cS_yes HJC.out, cZ_yes HJC.out, cB_yes HJC.out, Int.toNat_natCast] at hp
    obtain ⟨a3, c3, he3, hown3, hb3⟩ := hp
    obtain ⟨N, hN⟩ : ∃ N, ofZ n (zs ++ [y]) = N := ⟨_, rfl⟩
    rw [hN] at he3 hown3
    obtain rfl := he3
    have HN : Hid (ofZ n (zs ++ [p % n]) = N) := Lib.hid (by rw [HY.out]; exact hN)
    have HO3 := Lib.hid hown3
    have HB3 : Hid (Below w1.heap.size w1 w3) := Lib.hid (HBa.out.trans (hb3.mono HBa.out.size))
    have HU3 := Lib.hid (HU1.out.keep HB3.out ult)
    have HT3 := Lib.hid (HT1.out.keep HB3.out htlt)
    obtain ⟨r0, r1, r2, r3⟩ := HU3.out.facts
    have rlt := HU3.out.lt
    clear hown3 hb3 hN u0 u1 u2 u3
    refine hKK.out _ _ (HK.out _ HB3.out) (fun hSS3 => ?_)
    clear hKK K hSS2
    try simp only [Act.put, List.setIfInBounds_toArray, List.set_cons_zero, List.set_cons_succ]
    refine wpAnyH_take (i := 10) (oi := ⟨some 20, _, _, _, _, _⟩) (v := rhy n a3 N.length c3) rfl (by kernel_rfl) (by kernel_rfl) (by kernel_rfl) (fun _ _ _ h => h) (Or.inl ⟨by rfl, fun W hSw => by go_simp⟩) (by assumption) ?_
    try simp only [Act.put, List.setIfInBounds_toArray, List.set_cons_zero, List.set_cons_succ]
    refine wpAnyH_take (i := 11) (oi := ⟨some 21, _, _, _, _, _⟩) (v := .bool true) rfl (by kernel_rfl) (by kernel_rfl) (by kernel_rfl) (fun _ _ _ h => h) (Or.inl ⟨by rfl, fun W hSw => by go_simp⟩) (by assumption) ?_
    try simp only [Act.put, List.setIfInBounds_toArray, List.set_cons_zero, List.set_cons_succ]
    refine wpAnyH_ready (rs := [12]) (by kernel_rfl) (by simp) ?_
    refine AllReadyH.cons rfl (fun K hKK => ?_) AllReadyH.nil
    go_simp
    have hne : w.heap.size + 1 ≠ w.heap.size := by omega
    refine hKK.out _ _ (⟨((HT3.out.other _ hne).other _ hne).facts.1, ((HT3.out.other _ hne).other _ hne).facts.2.1⟩) (fun hSS4 => ?_)
    clear hKK K hSS3
    try simp only [Act.put, List.setIfInBounds_toArray, List.set_cons_zero, List.set_cons_succ]
    refine wpAnyH_take (i := 13) (oi := ⟨some 5, _, _, _, _, _⟩) (v := .bool true) rfl (by kernel_rfl) (by kernel_rfl) (by kernel_rfl) (fun _ _ _ h => h) (Or.inl ⟨by rfl, fun W hSw => by go_simp⟩) (by assumption) ?_
    try simp only [Act.put, List.setIfInBounds_toArray, List.set_cons_zero, List.set_cons_succ]
    refine wpAnyH_done (by kernel_rfl) ?_ _
    clear HK
    go_wp2
    refine bodyPost_ret (v := .tuple #[rhy n a3 N.length c3, .bool true]) (by simp [results, Try.results128, go_sem, *]) rfl ?_
    rw [HN.out]
    refine cpost_yes HC.out rfl ?_ ?_
    · exact own_base (ownsRow_setCell_below (ownsRow_setCell_below HO3.out (by show w.heap.size + 1 < _; have := HBa.out.size; omega) _) (by show w.heap.size + 1 < _; have := HBa.out.size; omega) _) (by have := HBa.out.size; omega)
    · exact ((HB1.out.trans (HB3.out.mono HB1.out.size)).setCell (by show w.heap.size ≤ w.heap.size + 1; omega) _).setCell (by show w.heap.size ≤ w.heap.size + 1; omega) _
  · have HO : Hid (¬ hasB zs (p % n) = false) := Lib.hid (by rw [hc]; simp)
    have HCr : Hid (hasB zs (remB p n) = true) := Lib.hid hc
    rw [HCr.out]
    clear hc
    go_wp2
    refine bodyPost_ret (v := .tuple #[rhy 0 none 0 0, .bool false]) (by simp [results, Try.results128, go_sem, *]) rfl ?_
    exact cpost_no HO.out ((HB1.out.setCell (by show w.heap.size ≤ w.heap.size + 1; omega) _).setCell (by show w.heap.size ≤ w.heap.size + 1; omega) _)


end Go.Proofs.Ytjgjcppkbfojpaa.Rhy
