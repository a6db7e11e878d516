/-
  Helpers of the claims beside this text: vectors compared, twins, common beats, intervals between beats: the model's.
-/
import Derived.Test.YtgmhdmhnedljcaaIvl
import Derived.Test.YtgmhdmhnedljcaaAfo
import Derived.Deep.AppendLies
import Derived.Test.YtgmhdmhnedljcaaOut
namespace Go.Proofs.Ytgmhdmhnedljcaa.Rhy
open Go.RowKit
set_option linter.unusedVariables false
set_option linter.unusedSimpArgs false

/-- A box that holds a rhythm, valid or not. -/
def RhI (w : World) (b : Nat) (s : Int) (a : Option Addr) (len cap : Nat) (zs : List Int) : Prop := Box w b (.int .i64 s) (.slice a len cap) 28 ∧ IntsAt w a len zs
theorem RhI.keep {w w' : World} {b len cap : Nat} {s : Int} {a : Option Addr} {zs : List Int} (h : RhI w b s a len cap zs) (hb : Below w.heap.size w w') : RhI w' b s a len cap zs := ⟨h.1.keep hb h.1.lt, h.2.below hb⟩

open Classical in
/-- What both answer: the vectors are the same. -/
noncomputable def svB (s : Int) (xs : List Int) (t : Int) (ys : List Int) : Bool := decide (Ok s xs ∧ Ok t ys ∧ s = t ∧ vecZ s xs = vecZ s ys)
theorem svB_no {s t : Int} {xs ys : List Int} (h : ¬ (Ok s xs ∧ Ok t ys ∧ s = t)) : svB s xs t ys = false := by
  unfold svB
  rw [decide_eq_false_iff_not]
  exact fun q => h ⟨q.1, q.2.1, q.2.2.1⟩
theorem svB_yes {s : Int} {xs ys : List Int} (hx : Ok s xs) (hy : Ok s ys) : svB s xs s ys = eqB (vecZ s xs) (vecZ s ys) := by
  unfold svB eqB
  rw [decide_eq_decide]
  exact ⟨fun q => q.2.2.2, fun q => ⟨hx, hy, rfl, q⟩⟩

noncomputable def twB (s : Int) (xs : List Int) (t : Int) (ys : List Int) : Bool := svB s xs t ys && !aforB s xs t ys



/-! common beats -/
open Classical in
noncomputable def comB (s : Int) (xs : List Int) (t : Int) (ys : List Int) : Int := if Ok s xs ∧ Ok t ys ∧ s = t then (comZ xs ys : Int) else -1
theorem comB_yes {s t : Int} {xs ys : List Int} (h : Ok s xs ∧ Ok t ys ∧ s = t) : comB s xs t ys = comZ xs ys := if_pos h
theorem comB_no {s t : Int} {xs ys : List Int} (h : ¬ (Ok s xs ∧ Ok t ys ∧ s = t)) : comB s xs t ys = -1 := if_neg h
theorem com_snoc_yes {xs ys : List Int} {k : Nat} {z : Int} (h : xs[k]? = some z) (hm : hasB ys z = true) : comZ (xs.take (k + 1)) ys = comZ (xs.take k) ys + 1 := by
  unfold comZ
  rw [List.take_add_one, h, List.filter_append, List.length_append]
  congr 1
  show (List.filter _ [z]).length = 1
  rw [List.filter_cons_of_pos (show (fun x => ys.contains x) z = true from hm)]
  rfl
theorem com_snoc_no {xs ys : List Int} {k : Nat} {z : Int} (h : xs[k]? = some z) (hm : hasB ys z = false) : comZ (xs.take (k + 1)) ys = comZ (xs.take k) ys := by
  unfold comZ
  rw [List.take_add_one, h, List.filter_append, List.length_append]
  show _ + (List.filter _ [z]).length = _
  rw [List.filter_cons_of_neg (by show ¬ ys.contains z = true; unfold hasB at hm; rw [hm]; simp)]
  rfl

end Go.Proofs.Ytgmhdmhnedljcaa.Rhy

/-
  Helpers of the claims beside this text: common beats, overlaps, intervals between beats, flat and deep rhythms: the model's.
-/
namespace Go.Proofs.Ytgmhdmhnedljcaa.Rhy
open Go.RowKit
set_option linter.unusedVariables false
set_option linter.unusedSimpArgs false

/-- 'append' at a slice of the call's own, as one step of a region that draws its order. -/
theorem step_append_int {ops : Array Oper} {o : Oper} {a : Act} {K : Act → World → Prop} {Q : Exit → Act → World → Prop} {E : Prop} (hgd : o.guard = none) (x y : Operand)
    (ho : o.op = .call { callee := .builtin .append, args := #[x, y], argTypes := #[22, 22] })
    (B : Nat) (v : Value) (l : List Int) (t : Int) (w0 : World) (hown : w0.ownsRow B 3 1 v l.length (ints l)) (hl : l.length ≤ 1048577) (hB : B ≤ w0.heap.size) (N : Nat) (hN : N = w0.heap.size)
    (hs : a.eval x = v) (hx : a.eval y = .slice (some ⟨N, 0, none⟩) 1 1)
    (h : ∀ a' c' w', w'.ownsRow B 3 1 (.slice a' (l ++ [t]).length c') (l ++ [t]).length (ints (l ++ [t])) → Below B w0 w' → K (a.put o.dst (.slice a' (l ++ [t]).length c')) w') :
    if Region.wanted o (yielded ops a.tmps) = true then Oper.wp Try.prog o a (w0.alloc (.cells #[.int .i64 t] 3)) K Q else E := by
  obtain ⟨i0, hi, hz0, hz1, hz2⟩ := info_parts infoInt
  subst hN
  have hsz : (w0.alloc (.cells #[.int .i64 t] 3)).heap.size = w0.heap.size + 1 := by simp
  refine step_append_lies _ hgd x y 22 ho B 3 i0 (.int .i64 0) 1 8 Try.underlying22 hi hz0 hz1 hz2 rfl (by decide) v l.length (ints l) hs (hown.alloc _) ⟨w0.heap.size, 0, none⟩ 1 1 [.int .i64 t] hx rfl (cell_one_new _ _ _) ?_ (by decide) (by unfold maxLen; omega) (by omega) (by omega) _ rfl ?_
  · intro u hu
    simp at hu
    subst hu
    rfl
  · intro g cap w' ho' hg _ _
    have e : (l ++ [t]).length = l.length + 1 := by simp
    have := h (some ⟨g, 0, none⟩) cap w' (by rw [e]; simpa [ints] using ho') (((Below.refl B w0).alloc hB _).grown hg (by omega) fun k hk => (hown.lt k hk).1)
    rwa [e] at this

set_option maxHeartbeats 400000 in
theorem two_yes (s : Int) (a : Option Addr) (n ca : Nat) (xs : List Int) (t : Int) (b : Option Addr) (m cb : Nat) (ys : List Int) (w : World) (ha : IntsAt w a n xs) (hn : xs.length ≤ 1048576) (hb : IntsAt w b m ys) (hm : ys.length ≤ 1048576) (hc : Ok s xs ∧ Ok t ys ∧ s = t) :
    Calls Try.prog 34 #[rhy s a n ca, rhy t b m cb] w fun e w' => e = .returned (.bool true) ∧ Below w.heap.size w w' := by
  obtain ⟨ho, hp, hst⟩ := hc
  have hstb : (s == t) = true := by simpa using hst
  clear hst
  have FA := Lib.hid ha
  have FB := Lib.hid hb
  have hn' : n ≤ 1048576 := by have := ha.1; omega
  have hm' : m ≤ 1048576 := by have := hb.1; omega
  clear ha hb
  obtain ⟨W0, hW⟩ : ∃ W0, W0 = (w.alloc (.cells #[.int .i64 s, .slice a n ca] 28)).alloc (.cells #[.int .i64 t, .slice b m cb] 28) := ⟨_, rfl⟩
  have HW := Lib.hid hW
  have HB0 := Lib.hid (show Below w.heap.size w W0 by rw [hW]; exact bel2 w _ _)
  have HX0 : Hid (RhI W0 w.heap.size s a n ca xs) := Lib.hid ⟨by rw [hW]; exact (box_new w _ _ _).keep (bel1 _ _) (by simp), FA.out.below HB0.out⟩
  have HY0 : Hid (RhI W0 (w.heap.size + 1) t b m cb ys) := Lib.hid ⟨by rw [hW]; simpa using box_new (w.alloc (.cells #[.int .i64 s, .slice a n ca] 28)) (.int .i64 t) (.slice b m cb) 28, FB.out.below HB0.out⟩
  clear hW FA FB
  have HO := Lib.hid ho
  have HP := Lib.hid hp
  clear ho hp
  obtain ⟨c0, c1, f0, f1⟩ := HX0.out.1.facts
  obtain ⟨d0, d1, g0, g1⟩ := HY0.out.1.facts
  go_enter Try.func34, Try.ntmps34
  go_wp2_with fail
  rw [← HW.out]
  refine (ok_yes s a n ca xs _ HX0.out.2 hn' HO.out).mono ?_
  rintro e w1 ⟨rfl, hb1⟩
  have HB1 := Lib.hid (HB0.out.trans (hb1.mono HB0.out.size))
  have HX1 := Lib.hid (HX0.out.keep hb1)
  have HY1 := Lib.hid (HY0.out.keep hb1)
  clear c0 c1 f0 f1 d0 d1 g0 g1 hb1
  obtain ⟨c0, c1, f0, f1⟩ := HX1.out.1.facts
  obtain ⟨d0, d1, g0, g1⟩ := HY1.out.1.facts
  go_wp2_with fail
  refine (ok_yes t b m cb ys _ HY1.out.2 hm' HP.out).mono ?_
  rintro e w2 ⟨rfl, hb2⟩
  have HB2 := Lib.hid (HB1.out.trans (hb2.mono HB1.out.size))
  have HX2 := Lib.hid (HX1.out.keep hb2)
  have HY2 := Lib.hid (HY1.out.keep hb2)
  clear c0 c1 f0 f1 d0 d1 g0 g1 hb2
  obtain ⟨c0, c1, f0, f1⟩ := HX2.out.1.facts
  obtain ⟨d0, d1, g0, g1⟩ := HY2.out.1.facts
  go_wp2
  go_ret
  exact ⟨rfl, HB2.out⟩
set_option maxHeartbeats 400000 in
theorem two_no (s : Int) (a : Option Addr) (n ca : Nat) (xs : List Int) (t : Int) (b : Option Addr) (m cb : Nat) (ys : List Int) (w : World) (ha : IntsAt w a n xs) (hn : xs.length ≤ 1048576) (hb : IntsAt w b m ys) (hm : ys.length ≤ 1048576) (hc : ¬ (Ok s xs ∧ Ok t ys ∧ s = t)) :
    Calls Try.prog 34 #[rhy s a n ca, rhy t b m cb] w fun e w' => e = .returned (.bool false) ∧ Below w.heap.size w w' := by
  have FA := Lib.hid ha
  have FB := Lib.hid hb
  have hn' : n ≤ 1048576 := by have := ha.1; omega
  have hm' : m ≤ 1048576 := by have := hb.1; omega
  clear ha hb
  obtain ⟨W0, hW⟩ : ∃ W0, W0 = (w.alloc (.cells #[.int .i64 s, .slice a n ca] 28)).alloc (.cells #[.int .i64 t, .slice b m cb] 28) := ⟨_, rfl⟩
  have HW := Lib.hid hW
  have HB0 := Lib.hid (show Below w.heap.size w W0 by rw [hW]; exact bel2 w _ _)
  have HX0 : Hid (RhI W0 w.heap.size s a n ca xs) := Lib.hid ⟨by rw [hW]; exact (box_new w _ _ _).keep (bel1 _ _) (by simp), FA.out.below HB0.out⟩
  have HY0 : Hid (RhI W0 (w.heap.size + 1) t b m cb ys) := Lib.hid ⟨by rw [hW]; simpa using box_new (w.alloc (.cells #[.int .i64 s, .slice a n ca] 28)) (.int .i64 t) (.slice b m cb) 28, FB.out.below HB0.out⟩
  clear hW FA FB
  by_cases ho : Ok s xs
  · have HO := Lib.hid ho
    by_cases hp : Ok t ys
    · have HP := Lib.hid hp
      have hst : ¬ s = t := fun q => hc ⟨ho, hp, q⟩
      have hstb : (s == t) = false := by simpa using hst
      clear ho hp hc hst
      obtain ⟨c0, c1, f0, f1⟩ := HX0.out.1.facts
      obtain ⟨d0, d1, g0, g1⟩ := HY0.out.1.facts
      go_enter Try.func34, Try.ntmps34
      go_wp2_with fail
      rw [← HW.out]
      refine (ok_yes s a n ca xs _ HX0.out.2 hn' HO.out).mono ?_
      rintro e w1 ⟨rfl, hb1⟩
      have HB1 := Lib.hid (HB0.out.trans (hb1.mono HB0.out.size))
      have HX1 := Lib.hid (HX0.out.keep hb1)
      have HY1 := Lib.hid (HY0.out.keep hb1)
      clear c0 c1 f0 f1 d0 d1 g0 g1 hb1
      obtain ⟨c0, c1, f0, f1⟩ := HX1.out.1.facts
      obtain ⟨d0, d1, g0, g1⟩ := HY1.out.1.facts
      go_wp2_with fail
      refine (ok_yes t b m cb ys _ HY1.out.2 hm' HP.out).mono ?_
      rintro e w2 ⟨rfl, hb2⟩
      have HB2 := Lib.hid (HB1.out.trans (hb2.mono HB1.out.size))
      have HX2 := Lib.hid (HX1.out.keep hb2)
      have HY2 := Lib.hid (HY1.out.keep hb2)
      clear c0 c1 f0 f1 d0 d1 g0 g1 hb2
      obtain ⟨c0, c1, f0, f1⟩ := HX2.out.1.facts
      obtain ⟨d0, d1, g0, g1⟩ := HY2.out.1.facts
      go_wp2
      go_ret
      exact ⟨rfl, HB2.out⟩
    · have HP := Lib.hid hp
      clear ho hp hc
      obtain ⟨c0, c1, f0, f1⟩ := HX0.out.1.facts
      obtain ⟨d0, d1, g0, g1⟩ := HY0.out.1.facts
      go_enter Try.func34, Try.ntmps34
      go_wp2_with fail
      rw [← HW.out]
      refine (ok_yes s a n ca xs _ HX0.out.2 hn' HO.out).mono ?_
      rintro e w1 ⟨rfl, hb1⟩
      have HB1 := Lib.hid (HB0.out.trans (hb1.mono HB0.out.size))
      have HX1 := Lib.hid (HX0.out.keep hb1)
      have HY1 := Lib.hid (HY0.out.keep hb1)
      clear c0 c1 f0 f1 d0 d1 g0 g1 hb1
      obtain ⟨c0, c1, f0, f1⟩ := HX1.out.1.facts
      obtain ⟨d0, d1, g0, g1⟩ := HY1.out.1.facts
      go_wp2_with fail
      refine (ok_no t b m cb ys _ HY1.out.2 hm' HP.out).mono ?_
      rintro e w2 ⟨rfl, hb2⟩
      have HB2 := Lib.hid (HB1.out.trans (hb2.mono HB1.out.size))
      have HX2 := Lib.hid (HX1.out.keep hb2)
      have HY2 := Lib.hid (HY1.out.keep hb2)
      clear c0 c1 f0 f1 d0 d1 g0 g1 hb2
      obtain ⟨c0, c1, f0, f1⟩ := HX2.out.1.facts
      obtain ⟨d0, d1, g0, g1⟩ := HY2.out.1.facts
      go_wp2
      go_ret
      exact ⟨rfl, HB2.out⟩
  · have HO := Lib.hid ho
    clear ho hc
    obtain ⟨c0, c1, f0, f1⟩ := HX0.out.1.facts
    obtain ⟨d0, d1, g0, g1⟩ := HY0.out.1.facts
    go_enter Try.func34, Try.ntmps34
    go_wp2_with fail
    rw [← HW.out]
    refine (ok_no s a n ca xs _ HX0.out.2 hn' HO.out).mono ?_
    rintro e w1 ⟨rfl, hb1⟩
    have HB1 := Lib.hid (HB0.out.trans (hb1.mono HB0.out.size))
    have HX1 := Lib.hid (HX0.out.keep hb1)
    have HY1 := Lib.hid (HY0.out.keep hb1)
    clear c0 c1 f0 f1 d0 d1 g0 g1 hb1
    obtain ⟨c0, c1, f0, f1⟩ := HX1.out.1.facts
    obtain ⟨d0, d1, g0, g1⟩ := HY1.out.1.facts
    go_wp2
    go_ret
    exact ⟨rfl, HB1.out⟩

def overP (n : Int) (xs ys : List Int) (k : Nat) : List Int := (List.range k).map fun i => ((comZ xs (rotZ n ys 1 ((i : Nat) : Int)) : Nat) : Int)
theorem overP_len (n : Int) (xs ys : List Int) (k : Nat) : (overP n xs ys k).length = k := by simp [overP]
theorem overP_snoc (n : Int) (xs ys : List Int) (k : Nat) : overP n xs ys (k + 1) = overP n xs ys k ++ [((comZ xs (rotZ n ys 1 (k : Int)) : Nat) : Int)] := by simp [overP, List.range_succ]
/-- What both answer. -/
noncomputable def overB (s : Int) (xs : List Int) (t : Int) (ys : List Int) : List Int := cZ (Ok s xs ∧ Ok t ys ∧ s = t) (overP s xs ys s.toNat)
theorem over_self (n : Int) (zs : List Int) : overP n zs zs n.toNat = difZ n zs := rfl
theorem over_int {n : Int} {xs ys : List Int} (hx : xs.length ≤ 24) (k : Nat) : AllInt (overP n xs ys k) := by
  intro z hz
  unfold overP at hz
  rw [List.mem_map] at hz
  obtain ⟨i, _, rfl⟩ := hz
  have := com_le xs (rotZ n ys 1 ((i : Nat) : Int))
  omega
theorem overB_int (s : Int) (xs : List Int) (t : Int) (ys : List Int) : AllInt (overB s xs t ys) := by
  unfold overB
  by_cases h : Ok s xs ∧ Ok t ys ∧ s = t
  · rw [cZ_yes h]; exact over_int (ok_len h.1) _
  · rw [cZ_no h]; intro z hz; cases hz
theorem overB_len (s : Int) (xs : List Int) (t : Int) (ys : List Int) : (overB s xs t ys).length ≤ 24 := by
  unfold overB
  by_cases h : Ok s xs ∧ Ok t ys ∧ s = t
  · rw [cZ_yes h, overP_len]; have := h.1.1; omega
  · rw [cZ_no h]; simp


end Go.Proofs.Ytgmhdmhnedljcaa.Rhy

/-
  Helpers of the claims beside this text: intervals between beats, flat and deep rhythms: the model's.
-/
namespace Go.Proofs.Ytgmhdmhnedljcaa.Rhy
open Go.RowKit
set_option linter.unusedVariables false
set_option linter.unusedSimpArgs false

open Classical in
/-- What both answer. -/
noncomputable def betB (s : Int) (zs : List Int) (p q : Int) : Int := if Ok s zs ∧ p ∈ zs ∧ q ∈ zs then min (remB (p - q) s) (s - remB (p - q) s) else -1
theorem betB_yes {s p q : Int} {zs : List Int} (h : Ok s zs ∧ p ∈ zs ∧ q ∈ zs) : betB s zs p q = min (remB (p - q) s) (s - remB (p - q) s) := if_pos h
theorem betB_no {s p q : Int} {zs : List Int} (h : ¬ (Ok s zs ∧ p ∈ zs ∧ q ∈ zs)) : betB s zs p q = -1 := if_neg h
theorem hasB_no {zs : List Int} {x : Int} (h : ¬ x ∈ zs) : hasB zs x = false := by
  cases hh : hasB zs x with
  | false => rfl
  | true => exact absurd (hasB_mem.1 hh) h


/-! flat -/
open Classical in
noncomputable def flatB (s : Int) (zs : List Int) : Bool := decide (Ok s zs ∧ flatZ s zs)
theorem flatB_yes {s : Int} {zs : List Int} (h : Ok s zs ∧ flatZ s zs) : flatB s zs = true := by simp [flatB, h.1, h.2]
theorem flatB_no {s : Int} {zs : List Int} (h : ¬ (Ok s zs ∧ flatZ s zs)) : flatB s zs = false := by unfold flatB; rw [decide_eq_false_iff_not]; exact h


/-! deep -/
def deepP (l : List Int) (k : Nat) : Prop := ∀ j z, j < k → l[j]? = some z → 0 < z → ¬ z ∈ l.take j
def deepZ (l : List Int) : Prop := deepP l l.length
open Classical in
noncomputable def deepB (s : Int) (zs : List Int) : Bool := decide (Ok s zs ∧ deepZ (vecZ s zs))
theorem deepB_yes {s : Int} {zs : List Int} (h : Ok s zs ∧ deepZ (vecZ s zs)) : deepB s zs = true := by simp [deepB, h.1, h.2]
theorem deepB_no {s : Int} {zs : List Int} (h : ¬ (Ok s zs ∧ deepZ (vecZ s zs))) : deepB s zs = false := by unfold deepB; rw [decide_eq_false_iff_not]; exact h
theorem deep_next {l : List Int} {k : Nat} {z : Int} (h : deepP l k) (hs : l[k]? = some z) (hz : 0 < z → ¬ z ∈ l.take k) : deepP l (k + 1) := by
  intro j y hj hy h0
  by_cases e : j = k
  · subst e
    rw [hs] at hy
    obtain rfl := Option.some.inj hy
    exact hz h0
  · exact h j y (by omega) hy h0

/-- The numbers seen so far; the vector's own row lies between lo and hi. -/
def DeepAt (V : List Int) (k lo hi : Nat) (w1 w2 wr : World) (v : Value) : Prop :=
  ∃ av cv, v = .slice av (V.take k).length cv ∧ wr.ownsRow w1.heap.size 3 1 (.slice av (V.take k).length cv) (V.take k).length (ints (V.take k)) ∧ Below w1.heap.size w1 wr ∧ Same lo hi w2 wr ∧ Outside lo hi (.slice av (V.take k).length cv) ∧ hi ≤ wr.heap.size


end Go.Proofs.Ytgmhdmhnedljcaa.Rhy
