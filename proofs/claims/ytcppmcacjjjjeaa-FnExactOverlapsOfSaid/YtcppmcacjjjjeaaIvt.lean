/-
  Helpers of the claims beside this text: common beats, overlaps, intervals between beats, flat and deep rhythms: the model's.
-/
import Derived.Test.YtcppmcacjjjjeaaIvs
import Derived.Deep.AppendLies
namespace Go.Proofs.Ytcppmcacjjjjeaa.Rhy
open Go.RowKit
set_option linter.unusedVariables false
set_option linter.unusedSimpArgs false

/-- 'append' at a slice of the call's own, as one step of a region that draws its order. -/
theorem step_append_int {ops : Array Oper} {o : Oper} {a : Act} {K : Act → World → Prop} {Q : Exit → Act → World → Prop} {E : Prop} (hgd : o.guard = none) (x y : Operand)
    (ho : o.op = .call { callee := .builtin .append, args := #[x, y], argTypes := #[23, 23] })
    (B : Nat) (v : Value) (l : List Int) (t : Int) (w0 : World) (hown : w0.ownsRow B 3 1 v l.length (ints l)) (hl : l.length ≤ 1048577) (hB : B ≤ w0.heap.size) (N : Nat) (hN : N = w0.heap.size)
    (hs : a.eval x = v) (hx : a.eval y = .slice (some ⟨N, 0, none⟩) 1 1)
    (h : ∀ a' c' w', w'.ownsRow B 3 1 (.slice a' (l ++ [t]).length c') (l ++ [t]).length (ints (l ++ [t])) → Below B w0 w' → K (a.put o.dst (.slice a' (l ++ [t]).length c')) w') :
    if Region.wanted o (yielded ops a.tmps) = true then Oper.wp Try.prog o a (w0.alloc (.cells #[.int .i64 t] 3)) K Q else E := by
  obtain ⟨i0, hi, hz0, hz1, hz2⟩ := info_parts infoInt
  subst hN
  have hsz : (w0.alloc (.cells #[.int .i64 t] 3)).heap.size = w0.heap.size + 1 := by simp
  refine step_append_lies _ hgd x y 23 ho B 3 i0 (.int .i64 0) 1 8 Try.underlying23 hi hz0 hz1 hz2 rfl (by decide) v l.length (ints l) hs (hown.alloc _) ⟨w0.heap.size, 0, none⟩ 1 1 [.int .i64 t] hx rfl (cell_one_new _ _ _) ?_ (by decide) (by unfold maxLen; omega) (by omega) (by omega) _ rfl ?_
  · intro u hu
    simp at hu
    subst hu
    rfl
  · intro g cap w' ho' hg _ _
    have e : (l ++ [t]).length = l.length + 1 := by simp
    have := h (some ⟨g, 0, none⟩) cap w' (by rw [e]; simpa [ints] using ho') (((Below.refl B w0).alloc hB _).grown hg (by omega) fun k hk => (hown.lt k hk).1)
    rwa [e] at this

set_option maxHeartbeats 400000 in
theorem two_yes (s : Int) (a : Option Addr) (n ca : Nat) (xs : List Int) (t : Int) (b : Option Addr) (m cb : Nat) (ys : List Int) (w : World) (ha : IntsAt w a n xs) (hn : xs.length ≤ 1048576) (hb : IntsAt w b m ys) (hm : ys.length ≤ 1048576) (hc : Ok s xs ∧ Ok t ys ∧ s = t) :
    Calls Try.prog 92 #[rhy s a n ca, rhy t b m cb] w fun e w' => e = .returned (.bool true) ∧ Below w.heap.size w w' := by
  obtain ⟨ho, hp, hst⟩ := hc
  have hstb : (s == t) = true := by simpa using hst
  clear hst
  have FA := Lib.hid ha
  have FB := Lib.hid hb
  have hn' : n ≤ 1048576 := by have := ha.1; omega
  have hm' : m ≤ 1048576 := by have := hb.1; omega
  clear ha hb
  obtain ⟨W0, hW⟩ : ∃ W0, W0 = (w.alloc (.cells #[.int .i64 s, .slice a n ca] 25)).alloc (.cells #[.int .i64 t, .slice b m cb] 25) := ⟨_, rfl⟩
  have HW := Lib.hid hW
  have HB0 := Lib.hid (show Below w.heap.size w W0 by rw [hW]; exact bel2 w _ _)
  have HX0 : Hid (RhI W0 w.heap.size s a n ca xs) := Lib.hid ⟨by rw [hW]; exact (box_new w _ _ _).keep (bel1 _ _) (by simp), FA.out.below HB0.out⟩
  have HY0 : Hid (RhI W0 (w.heap.size + 1) t b m cb ys) := Lib.hid ⟨by rw [hW]; simpa using box_new (w.alloc (.cells #[.int .i64 s, .slice a n ca] 25)) (.int .i64 t) (.slice b m cb) 25, FB.out.below HB0.out⟩
  clear hW FA FB
  have HO := Lib.hid ho
  have HP := Lib.hid hp
  clear ho hp
  obtain ⟨c0, c1, f0, f1⟩ := HX0.out.1.facts
  obtain ⟨d0, d1, g0, g1⟩ := HY0.out.1.facts
  go_enter Try.func92, Try.ntmps92
  go_wp2_with fail
  rw [← HW.out]
  refine (ok_yes s a n ca xs _ HX0.out.2 hn' HO.out).mono ?_
  rintro e w1 ⟨rfl, hb1⟩
  have HB1 := Lib.hid (HB0.out.trans (hb1.mono HB0.out.size))
  have HX1 := Lib.hid (HX0.out.keep hb1)
  have HY1 := Lib.hid (HY0.out.keep hb1)
  clear c0 c1 f0 f1 d0 d1 g0 g1 hb1
  obtain ⟨c0, c1, f0, f1⟩ := HX1.out.1.facts
  obtain ⟨d0, d1, g0, g1⟩ := HY1.out.1.facts
  go_wp2_with fail
  refine (ok_yes t b m cb ys _ HY1.out.2 hm' HP.out).mono ?_
  rintro e w2 ⟨rfl, hb2⟩
  have HB2 := Lib.hid (HB1.out.trans (hb2.mono HB1.out.size))
  have HX2 := Lib.hid (HX1.out.keep hb2)
  have HY2 := Lib.hid (HY1.out.keep hb2)
  clear c0 c1 f0 f1 d0 d1 g0 g1 hb2
  obtain ⟨c0, c1, f0, f1⟩ := HX2.out.1.facts
  obtain ⟨d0, d1, g0, g1⟩ := HY2.out.1.facts
  go_wp2
  go_ret
  exact ⟨rfl, HB2.out⟩
set_option maxHeartbeats 400000 in
theorem two_no (s : Int) (a : Option Addr) (n ca : Nat) (xs : List Int) (t : Int) (b : Option Addr) (m cb : Nat) (ys : List Int) (w : World) (ha : IntsAt w a n xs) (hn : xs.length ≤ 1048576) (hb : IntsAt w b m ys) (hm : ys.length ≤ 1048576) (hc : ¬ (Ok s xs ∧ Ok t ys ∧ s = t)) :
    Calls Try.prog 92 #[rhy s a n ca, rhy t b m cb] w fun e w' => e = .returned (.bool false) ∧ Below w.heap.size w w' := by
  have FA := Lib.hid ha
  have FB := Lib.hid hb
  have hn' : n ≤ 1048576 := by have := ha.1; omega
  have hm' : m ≤ 1048576 := by have := hb.1; omega
  clear ha hb
  obtain ⟨W0, hW⟩ : ∃ W0, W0 = (w.alloc (.cells #[.int .i64 s, .slice a n ca] 25)).alloc (.cells #[.int .i64 t, .slice b m cb] 25) := ⟨_, rfl⟩
  have HW := Lib.hid hW
  have HB0 := Lib.hid (show Below w.heap.size w W0 by rw [hW]; exact bel2 w _ _)
  have HX0 : Hid (RhI W0 w.heap.size s a n ca xs) := Lib.hid ⟨by rw [hW]; exact (box_new w _ _ _).keep (bel1 _ _) (by simp), FA.out.below HB0.out⟩
  have HY0 : Hid (RhI W0 (w.heap.size + 1) t b m cb ys) := Lib.hid ⟨by rw [hW]; simpa using box_new (w.alloc (.cells #[.int .i64 s, .slice a n ca] 25)) (.int .i64 t) (.slice b m cb) 25, FB.out.below HB0.out⟩
  clear hW FA FB
  by_cases ho : Ok s xs
  · have HO := Lib.hid ho
    by_cases hp : Ok t ys
    · have HP := Lib.hid hp
      have hst : ¬ s = t := fun q => hc ⟨ho, hp, q⟩
      have hstb : (s == t) = false := by simpa using hst
      clear ho hp hc hst
      obtain ⟨c0, c1, f0, f1⟩ := HX0.out.1.facts
      obtain ⟨d0, d1, g0, g1⟩ := HY0.out.1.facts
      go_enter Try.func92, Try.ntmps92
      go_wp2_with fail
      rw [← HW.out]
      refine (ok_yes s a n ca xs _ HX0.out.2 hn' HO.out).mono ?_
      rintro e w1 ⟨rfl, hb1⟩
      have HB1 := Lib.hid (HB0.out.trans (hb1.mono HB0.out.size))
      have HX1 := Lib.hid (HX0.out.keep hb1)
      have HY1 := Lib.hid (HY0.out.keep hb1)
      clear c0 c1 f0 f1 d0 d1 g0 g1 hb1
      obtain ⟨c0, c1, f0, f1⟩ := HX1.out.1.facts
      obtain ⟨d0, d1, g0, g1⟩ := HY1.out.1.facts
      go_wp2_with fail
      refine (ok_yes t b m cb ys _ HY1.out.2 hm' HP.out).mono ?_
      rintro e w2 ⟨rfl, hb2⟩
      have HB2 := Lib.hid (HB1.out.trans (hb2.mono HB1.out.size))
      have HX2 := Lib.hid (HX1.out.keep hb2)
      have HY2 := Lib.hid (HY1.out.keep hb2)
      clear c0 c1 f0 f1 d0 d1 g0 g1 hb2
      obtain ⟨c0, c1, f0, f1⟩ := HX2.out.1.facts
      obtain ⟨d0, d1, g0, g1⟩ := HY2.out.1.facts
      go_wp2
      go_ret
      exact ⟨rfl, HB2.out⟩
    · have HP := Lib.hid hp
      clear ho hp hc
      obtain ⟨c0, c1, f0, f1⟩ := HX0.out.1.facts
      obtain ⟨d0, d1, g0, g1⟩ := HY0.out.1.facts
      go_enter Try.func92, Try.ntmps92
      go_wp2_with fail
      rw [← HW.out]
      refine (ok_yes s a n ca xs _ HX0.out.2 hn' HO.out).mono ?_
      rintro e w1 ⟨rfl, hb1⟩
      have HB1 := Lib.hid (HB0.out.trans (hb1.mono HB0.out.size))
      have HX1 := Lib.hid (HX0.out.keep hb1)
      have HY1 := Lib.hid (HY0.out.keep hb1)
      clear c0 c1 f0 f1 d0 d1 g0 g1 hb1
      obtain ⟨c0, c1, f0, f1⟩ := HX1.out.1.facts
      obtain ⟨d0, d1, g0, g1⟩ := HY1.out.1.facts
      go_wp2_with fail
      refine (ok_no t b m cb ys _ HY1.out.2 hm' HP.out).mono ?_
      rintro e w2 ⟨rfl, hb2⟩
      have HB2 := Lib.hid (HB1.out.trans (hb2.mono HB1.out.size))
      have HX2 := Lib.hid (HX1.out.keep hb2)
      have HY2 := Lib.hid (HY1.out.keep hb2)
      clear c0 c1 f0 f1 d0 d1 g0 g1 hb2
      obtain ⟨c0, c1, f0, f1⟩ := HX2.out.1.facts
      obtain ⟨d0, d1, g0, g1⟩ := HY2.out.1.facts
      go_wp2
      go_ret
      exact ⟨rfl, HB2.out⟩
  · have HO := Lib.hid ho
    clear ho hc
    obtain ⟨c0, c1, f0, f1⟩ := HX0.out.1.facts
    obtain ⟨d0, d1, g0, g1⟩ := HY0.out.1.facts
    go_enter Try.func92, Try.ntmps92
    go_wp2_with fail
    rw [← HW.out]
    refine (ok_no s a n ca xs _ HX0.out.2 hn' HO.out).mono ?_
    rintro e w1 ⟨rfl, hb1⟩
    have HB1 := Lib.hid (HB0.out.trans (hb1.mono HB0.out.size))
    have HX1 := Lib.hid (HX0.out.keep hb1)
    have HY1 := Lib.hid (HY0.out.keep hb1)
    clear c0 c1 f0 f1 d0 d1 g0 g1 hb1
    obtain ⟨c0, c1, f0, f1⟩ := HX1.out.1.facts
    obtain ⟨d0, d1, g0, g1⟩ := HY1.out.1.facts
    go_wp2
    go_ret
    exact ⟨rfl, HB1.out⟩
set_option maxHeartbeats 400000 in
theorem common_spec (s : Int) (a : Option Addr) (n ca : Nat) (xs : List Int) (t : Int) (b : Option Addr) (m cb : Nat) (ys : List Int) (w : World) (ha : IntsAt w a n xs) (hn : xs.length ≤ 1048576) (hb : IntsAt w b m ys) (hm : ys.length ≤ 1048576) :
    Calls Try.prog 54 #[rhy s a n ca, rhy t b m cb] w fun e w' => e = .returned (.int .i64 (comB s xs t ys)) ∧ Below w.heap.size w w' := by
  have FA := Lib.hid ha
  have FB := Lib.hid hb
  have hn' : n ≤ 1048576 := by have := ha.1; omega
  have hm' : m ≤ 1048576 := by have := hb.1; omega
  clear ha hb
  obtain ⟨W0, hW⟩ : ∃ W0, W0 = (w.alloc (.cells #[.int .i64 s, .slice a n ca] 25)).alloc (.cells #[.int .i64 t, .slice b m cb] 25) := ⟨_, rfl⟩
  have HW := Lib.hid hW
  have HB0 := Lib.hid (show Below w.heap.size w W0 by rw [hW]; exact bel2 w _ _)
  have HX0 : Hid (RhI W0 w.heap.size s a n ca xs) := Lib.hid ⟨by rw [hW]; exact (box_new w _ _ _).keep (bel1 _ _) (by simp), FA.out.below HB0.out⟩
  have HY0 : Hid (RhI W0 (w.heap.size + 1) t b m cb ys) := Lib.hid ⟨by rw [hW]; simpa using box_new (w.alloc (.cells #[.int .i64 s, .slice a n ca] 25)) (.int .i64 t) (.slice b m cb) 25, FB.out.below HB0.out⟩
  clear hW FA FB
  by_cases hc : Ok s xs ∧ Ok t ys ∧ s = t
  · have HC := Lib.hid hc
    have HE := Lib.hid (comB_yes hc)
    clear hc
    rw [HE.out]
    obtain ⟨c0, c1, f0, f1⟩ := HX0.out.1.facts
    obtain ⟨d0, d1, g0, g1⟩ := HY0.out.1.facts
    go_enter Try.func54, Try.ntmps54
    go_wp2_with fail
    rw [← HW.out]
    refine (two_yes s a n ca xs t b m cb ys _ HX0.out.2 hn HY0.out.2 hm HC.out).mono ?_
    rintro e w1 ⟨rfl, hb1⟩
    have HB1 := Lib.hid (HB0.out.trans (hb1.mono HB0.out.size))
    have HX1 := Lib.hid (HX0.out.keep hb1)
    have HY1 := Lib.hid (HY0.out.keep hb1)
    clear c0 c1 f0 f1 d0 d1 g0 g1 hb1
    obtain ⟨c0, c1, f0, f1⟩ := HX1.out.1.facts
    obtain ⟨d0, d1, g0, g1⟩ := HY1.out.1.facts
    go_wp2_with fail
    refine (com0_spec s a n ca xs t b m cb ys _ HX1.out.2 hn' HY1.out.2 hm').mono ?_
    rintro e w2 ⟨rfl, hb2⟩
    have HB2 := Lib.hid (HB1.out.trans (hb2.mono HB1.out.size))
    clear c0 c1 f0 f1 d0 d1 g0 g1 hb2
    go_wp2
    go_ret
    exact ⟨rfl, HB2.out⟩
  · have HC := Lib.hid hc
    have HE := Lib.hid (comB_no hc)
    clear hc
    rw [HE.out]
    obtain ⟨c0, c1, f0, f1⟩ := HX0.out.1.facts
    obtain ⟨d0, d1, g0, g1⟩ := HY0.out.1.facts
    go_enter Try.func54, Try.ntmps54
    go_wp2_with fail
    rw [← HW.out]
    refine (two_no s a n ca xs t b m cb ys _ HX0.out.2 hn HY0.out.2 hm HC.out).mono ?_
    rintro e w1 ⟨rfl, hb1⟩
    have HB1 := Lib.hid (HB0.out.trans (hb1.mono HB0.out.size))
    have HX1 := Lib.hid (HX0.out.keep hb1)
    have HY1 := Lib.hid (HY0.out.keep hb1)
    clear c0 c1 f0 f1 d0 d1 g0 g1 hb1
    obtain ⟨c0, c1, f0, f1⟩ := HX1.out.1.facts
    obtain ⟨d0, d1, g0, g1⟩ := HY1.out.1.facts
    go_wp2
    go_ret
    exact ⟨rfl, HB1.out⟩

def overP (n : Int) (xs ys : List Int) (k : Nat) : List Int := (List.range k).map fun i => ((comZ xs (rotZ n ys 1 ((i : Nat) : Int)) : Nat) : Int)
theorem overP_len (n : Int) (xs ys : List Int) (k : Nat) : (overP n xs ys k).length = k := by simp [overP]
theorem overP_snoc (n : Int) (xs ys : List Int) (k : Nat) : overP n xs ys (k + 1) = overP n xs ys k ++ [((comZ xs (rotZ n ys 1 (k : Int)) : Nat) : Int)] := by simp [overP, List.range_succ]
/-- What both answer. -/
noncomputable def overB (s : Int) (xs : List Int) (t : Int) (ys : List Int) : List Int := cZ (Ok s xs ∧ Ok t ys ∧ s = t) (overP s xs ys s.toNat)
theorem over_self (n : Int) (zs : List Int) : overP n zs zs n.toNat = difZ n zs := rfl
theorem over_int {n : Int} {xs ys : List Int} (hx : xs.length ≤ 24) (k : Nat) : AllInt (overP n xs ys k) := by
  intro z hz
  unfold overP at hz
  rw [List.mem_map] at hz
  obtain ⟨i, _, rfl⟩ := hz
  have := com_le xs (rotZ n ys 1 ((i : Nat) : Int))
  omega
theorem overB_int (s : Int) (xs : List Int) (t : Int) (ys : List Int) : AllInt (overB s xs t ys) := by
  unfold overB
  by_cases h : Ok s xs ∧ Ok t ys ∧ s = t
  · rw [cZ_yes h]; exact over_int (ok_len h.1) _
  · rw [cZ_no h]; intro z hz; cases hz
theorem overB_len (s : Int) (xs : List Int) (t : Int) (ys : List Int) : (overB s xs t ys).length ≤ 24 := by
  unfold overB
  by_cases h : Ok s xs ∧ Ok t ys ∧ s = t
  · rw [cZ_yes h, overP_len]; have := h.1.1; omega
  · rw [cZ_no h]; simp

set_option maxHeartbeats 1000000 in
set_option maxRecDepth 100000 in
theorem over_spec (s : Int) (a : Option Addr) (n ca : Nat) (xs : List Int) (t : Int) (b : Option Addr) (m cb : Nat) (ys : List Int) (w : World) (ha : IntsAt w a n xs) (hn : xs.length ≤ 1048576) (hb : IntsAt w b m ys) (hm : ys.length ≤ 1048576) :
    Calls Try.prog 55 #[rhy s a n ca, rhy t b m cb] w (IPost (overB s xs t ys) w) := by
  have FA := Lib.hid ha
  have FB := Lib.hid hb
  have hn' : n ≤ 1048576 := by have := ha.1; omega
  have hm' : m ≤ 1048576 := by have := hb.1; omega
  clear ha hb
  obtain ⟨W0, hW⟩ : ∃ W0, W0 = (w.alloc (.cells #[.int .i64 s, .slice a n ca] 25)).alloc (.cells #[.int .i64 t, .slice b m cb] 25) := ⟨_, rfl⟩
  have HW := Lib.hid hW
  have HB0 := Lib.hid (show Below w.heap.size w W0 by rw [hW]; exact bel2 w _ _)
  have HX0 : Hid (RhI W0 w.heap.size s a n ca xs) := Lib.hid ⟨by rw [hW]; exact (box_new w _ _ _).keep (bel1 _ _) (by simp), FA.out.below HB0.out⟩
  have HY0 : Hid (RhI W0 (w.heap.size + 1) t b m cb ys) := Lib.hid ⟨by rw [hW]; simpa using box_new (w.alloc (.cells #[.int .i64 s, .slice a n ca] 25)) (.int .i64 t) (.slice b m cb) 25, FB.out.below HB0.out⟩
  clear hW FA FB
  by_cases hc : Ok s xs ∧ Ok t ys ∧ s = t
  · have HC := Lib.hid hc
    have HE : Hid (overB s xs t ys = overP s xs ys s.toNat) := Lib.hid (cZ_yes hc)
    obtain ⟨nn, hnn⟩ : ∃ nn : Nat, s = nn := ⟨s.toNat, by have := hc.1.1; omega⟩
    have hn24 : nn ≤ 24 := by have := hc.1.1; omega
    have HNN := Lib.hid hnn
    have HO := Lib.hid hc.1
    have HP : Hid (Ok s ys) := Lib.hid (by have := hc.2.1; rwa [← hc.2.2] at this)
    have HST := Lib.hid hc.2.2
    have HNT : Hid (s.toNat = nn) := Lib.hid (by omega)
    clear hc hnn
    rw [HE.out, HNT.out]
    obtain ⟨c0, c1, f0, f1⟩ := HX0.out.1.facts
    obtain ⟨d0, d1, g0, g1⟩ := HY0.out.1.facts
    go_enter Try.func55, Try.ntmps55
    go_wp2_with fail
    rw [← HW.out]
    refine (two_yes s a n ca xs t b m cb ys _ HX0.out.2 hn HY0.out.2 hm HC.out).mono ?_
    rintro e w1 ⟨rfl, hb1⟩
    have HB1 := Lib.hid (HB0.out.trans (hb1.mono HB0.out.size))
    have HX1 := Lib.hid (HX0.out.keep hb1)
    have HY1 := Lib.hid (HY0.out.keep hb1)
    clear c0 c1 f0 f1 d0 d1 g0 g1 hb1
    obtain ⟨c0, c1, f0, f1⟩ := HX1.out.1.facts
    obtain ⟨d0, d1, g0, g1⟩ := HY1.out.1.facts
    go_wp2
    go_loopw [5, 6] (fun v i wr => ∃ j : Nat, j ≤ nn ∧ i = .int .i64 j ∧ VecAt (overP s xs ys j) w1 wr v) (fun _ i _ => nn - (intOf i).toNat)
    case atStart => exact ⟨0, by omega, rfl, vec_made w1⟩
    case round =>
      obtain ⟨j, hj, rfl, av, cv, rfl, hown, hnx, hsz⟩ := hrel
      have HO1 := Lib.hid hown
      have HX := Lib.hid hnx
      have HZ := Lib.hid hsz
      clear hown hnx hsz
      have HXr := Lib.hid (HX1.out.keep HX.out)
      have HYr := Lib.hid (HY1.out.keep HX.out)
      clear c0 c1 f0 f1 d0 d1 g0 g1
      obtain ⟨c0, c1, f0, f1⟩ := HXr.out.1.facts
      obtain ⟨d0, d1, g0, g1⟩ := HYr.out.1.facts
      have lx := HXr.out.1.lt
      by_cases hlt : j < nn
      · have hsl : (overP s xs ys j).length ≤ 1048577 := by rw [overP_len]; omega
        have hlb : decide ((j : Int) < s) = true := by have := HNN.out; simp; omega
        have HSN := Lib.hid (overP_snoc s xs ys j)
        obtain ⟨L, hL⟩ : ∃ L, overP s xs ys j = L := ⟨_, rfl⟩
        obtain ⟨q, hq⟩ : ∃ q, comZ xs (rotZ s ys 1 (j : Int)) = q := ⟨_, rfl⟩
        have HQ := Lib.hid hq
        rw [hL, hq] at HSN
        rw [hL] at HO1 hsl ⊢
        clear hL hq
        have HRL : Hid ((rotZ s ys 1 (j : Int)).length ≤ 24) := Lib.hid (rotZ_len HO.out.1.2)
        have HRI : Hid (AllInt (rotZ s ys 1 (j : Int))) := Lib.hid (rotZ_int HO.out.1.2)
        go_upto_region 7 with fail
        have HK : Hid (∀ W' : World, Below w1.heap.size w1 W' → W'.cell? ⟨w.heap.size, 0, none⟩ = some (.int .i64 s) ∧ W'.cell? ⟨w.heap.size, 1, none⟩ = some (.slice a n ca) ∧ W'.cell? ⟨(w.heap.size + 1), 0, none⟩ = some (.int .i64 t) ∧ W'.cell? ⟨(w.heap.size + 1), 1, none⟩ = some (.slice b m cb) ∧ Below w1.heap.size w1 W') :=
          Lib.hid (fun W' hW => ⟨(HX1.out.keep hW).1.facts.1, (HX1.out.keep hW).1.facts.2.1, (HY1.out.keep hW).1.facts.1, (HY1.out.keep hW).1.facts.2.1, hW⟩)
        have HIx : Hid (∀ W' : World, Below w1.heap.size w1 W' → IntsAt W' a n xs) := Lib.hid (fun W' hW => (HX1.out.keep hW).2)
        have HIy : Hid (∀ W' : World, Below w1.heap.size w1 W' → IntsAt W' b m ys) := Lib.hid (fun W' hW => (HY1.out.keep hW).2)
        refine wp_region_held_drew (S := fun W' => W'.cell? ⟨w.heap.size, 0, none⟩ = some (.int .i64 s) ∧ W'.cell? ⟨w.heap.size, 1, none⟩ = some (.slice a n ca) ∧ W'.cell? ⟨(w.heap.size + 1), 0, none⟩ = some (.int .i64 t) ∧ W'.cell? ⟨(w.heap.size + 1), 1, none⟩ = some (.slice b m cb) ∧ Below w1.heap.size w1 W') (by kernel_rfl) (HK.out _ HX.out.drew) (fun hSS0 => ?_)
        refine wpAnyH_take (i := 0) (oi := ⟨some 18, _, _, _, _, _⟩) (v := .slice av L.length cv) rfl (by kernel_rfl) (by kernel_rfl) (by kernel_rfl) (fun _ _ _ h => h) (Or.inl ⟨by rfl, fun w hSw => by go_simp⟩) (by assumption) ?_
        try simp only [Act.put, List.setIfInBounds_toArray, List.set_cons_zero, List.set_cons_succ]
        refine wpAnyH_take (i := 1) (oi := ⟨some 19, _, _, _, _, _⟩) (v := .agg #[.int .i64 s, .slice a n ca]) rfl (by kernel_rfl) (by kernel_rfl) (by kernel_rfl) (fun _ _ _ h => h) (Or.inl ⟨by rfl, fun w hSw => by obtain ⟨q1, q2, _⟩ := hSw; go_simp⟩) (by assumption) ?_
        try simp only [Act.put, List.setIfInBounds_toArray, List.set_cons_zero, List.set_cons_succ]
        refine wpAnyH_take (i := 2) (oi := ⟨some 20, _, _, _, _, _⟩) (v := .agg #[.int .i64 t, .slice b m cb]) rfl (by kernel_rfl) (by kernel_rfl) (by kernel_rfl) (fun _ _ _ h => h) (Or.inl ⟨by rfl, fun w hSw => by obtain ⟨_, _, q1, q2, _⟩ := hSw; go_simp⟩) (by assumption) ?_
        try simp only [Act.put, List.setIfInBounds_toArray, List.set_cons_zero, List.set_cons_succ]
        refine wpAnyH_take (i := 3) (oi := ⟨some 21, _, _, _, _, _⟩) (v := .int .i64 (j : Nat)) rfl (by kernel_rfl) (by kernel_rfl) (by kernel_rfl) (fun _ _ _ h => h) (Or.inl ⟨by rfl, fun w hSw => by go_simp⟩) (by assumption) ?_
        try simp only [Act.put, List.setIfInBounds_toArray, List.set_cons_zero, List.set_cons_succ]
        refine wpAnyH_ready (rs := [4]) (by kernel_rfl) (by simp) ?_
        refine AllReadyH.cons rfl (fun K hKK => ?_) AllReadyH.nil
        go_simp
        go_at_call 94
        refine (map_any t b m cb ys 1 j _ (HIy.out _ HX.out.drew) hm' (by rw [← HST.out]; exact HP.out) (by omega) (by omega) (by omega) (by omega)).mono ?_
        rintro e wk1 ⟨a5, c5, he5, hown1, hc1⟩
        rw [← HST.out] at he5 hown1
        obtain rfl := he5
        have HR5 : Hid (IntsAt wk1 a5 (rotZ s ys 1 (j : Int)).length (rotZ s ys 1 (j : Int))) := Lib.hid (intsAt_own hown1 HRI.out)
        clear hown1
        have HOd := Lib.hid (own_below HO1.out ((Below.refl _ _).drew.trans hc1))
        have hz1 := hc1.size
        have hbb1 : Below w1.heap.size w1 wk1 := HX.out.drew.trans (hc1.mono HX.out.size)
        clear hc1
        refine hKK.out _ _ (HK.out _ hbb1) (fun hSS1 => ?_)
        clear hKK K hSS0
        try simp only [Act.put, List.setIfInBounds_toArray, List.set_cons_zero, List.set_cons_succ]
        refine wpAnyH_ready (rs := [5]) (by kernel_rfl) (by simp) ?_
        refine AllReadyH.cons rfl (fun K hKK => ?_) AllReadyH.nil
        go_simp
        go_at_call 93
        refine (com0_spec s a n ca xs s a5 (rotZ s ys 1 (j : Int)).length c5 (rotZ s ys 1 (j : Int)) _ (HIx.out _ hbb1) hn' HR5.out (by have := HRL.out; omega)).mono ?_
        rintro e wk2 ⟨rfl, hc2⟩
        rw [HQ.out]
        have HOe := Lib.hid (own_below HOd.out hc2)
        have hz2 := hc2.size
        have hbb2 : Below w1.heap.size w1 wk2 := hbb1.trans (hc2.mono hbb1.size)
        clear hc2
        refine hKK.out _ _ (HK.out _ hbb2) (fun hSS2 => ?_)
        clear hKK K hbb1 hSS1
        try simp only [Act.put, List.setIfInBounds_toArray, List.set_cons_zero, List.set_cons_succ]
        refine wpAnyH_ready (rs := [6]) (by kernel_rfl) (by simp) ?_
        refine AllReadyH.cons rfl (fun K hKK => ?_) AllReadyH.nil
        go_simp
        have HZ2 := Lib.hid hbb2
        have hbb3 : Below w1.heap.size w1 (wk2.alloc (.cells #[.int .i64 q] 3)) := hbb2.alloc hbb2.size _
        refine hKK.out _ _ (HK.out _ hbb3) (fun hSS3 => ?_)
        clear hKK K hbb2 hSS2
        try simp only [Act.put, List.setIfInBounds_toArray, List.set_cons_zero, List.set_cons_succ]
        refine wpAnyH_ready (rs := [7]) (by kernel_rfl) (by simp) ?_
        refine AllReadyH.cons rfl (fun K hKK => ?_) AllReadyH.nil
        refine step_append_int rfl _ _ rfl w1.heap.size _ L q wk2 HOe.out hsl HZ2.out.size _ rfl rfl rfl ?_
        intro a' c' w4 hown4 hb4
        have HO4 := Lib.hid hown4
        have hbb4 : Below w1.heap.size w1 w4 := HZ2.out.trans hb4
        clear hown4 hb4
        refine hKK.out _ _ (HK.out _ hbb4) (fun hSS4 => ?_)
        clear hKK K hbb3 hSS3
        try simp only [Act.put, List.setIfInBounds_toArray, List.set_cons_zero, List.set_cons_succ]
        refine wpAnyH_take (i := 8) (oi := ⟨some 5, _, _, _, _, _⟩) (v := .slice a' (L ++ [(q : Int)]).length c') rfl (by kernel_rfl) (by kernel_rfl) (by kernel_rfl) (fun _ _ _ h => h) (Or.inl ⟨by rfl, fun w hSw => by go_simp⟩) (by assumption) ?_
        try simp only [Act.put, List.setIfInBounds_toArray, List.set_cons_zero, List.set_cons_succ]
        refine wpAnyH_done (by kernel_rfl) ?_ _
        clear HK
        go_wp2
        go_roundw
        case rel =>
          refine ⟨j + 1, by omega, by go_num, ?_⟩
          rw [HSN.out]
          exact ⟨a', c', by simp, HO4.out, hbb4, hbb4.size⟩
        case measure => simp [intOf]; omega
      · have e : j = nn := by omega
        subst e
        have hlb : decide ((j : Int) < s) = false := by have := HNN.out; simp; omega
        go_wp2
        go_ret
        have h1 := HB1.out.size
        exact ⟨av, cv, rfl, own_base HO1.out h1, HB1.out.trans (HX.out.mono h1)⟩
  · have HC := Lib.hid hc
    clear hc
    obtain ⟨c0, c1, f0, f1⟩ := HX0.out.1.facts
    obtain ⟨d0, d1, g0, g1⟩ := HY0.out.1.facts
    go_enter Try.func55, Try.ntmps55
    go_wp2_with fail
    rw [← HW.out]
    refine (two_no s a n ca xs t b m cb ys _ HX0.out.2 hn HY0.out.2 hm HC.out).mono ?_
    rintro e w1 ⟨rfl, hb1⟩
    have HB1 := Lib.hid (HB0.out.trans (hb1.mono HB0.out.size))
    have HX1 := Lib.hid (HX0.out.keep hb1)
    have HY1 := Lib.hid (HY0.out.keep hb1)
    clear c0 c1 f0 f1 d0 d1 g0 g1 hb1
    obtain ⟨c0, c1, f0, f1⟩ := HX1.out.1.facts
    obtain ⟨d0, d1, g0, g1⟩ := HY1.out.1.facts
    go_wp2
    go_ret
    exact ipost_nil HC.out HB1.out
end Go.Proofs.Ytcppmcacjjjjeaa.Rhy
