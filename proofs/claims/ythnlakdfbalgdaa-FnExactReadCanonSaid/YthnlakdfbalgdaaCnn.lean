/-
  Helpers of the claims beside this text: canons by value: what the laws' szCanon, toCanon, eqCanon, markCanon and heldCanon do; a canon that comes in.
-/
import Derived.Test.YthnlakdfbalgdaaRhythm
import Derived.Test.YthnlakdfbalgdaaApp
import Derived.Test.YthnlakdfbalgdaaOpen
namespace Go.Proofs.Ythnlakdfbalgdaa.Rhy
open Go.ChangeShapes Go.WideShapes Go.RowKit Go.Joins
set_option linter.unusedVariables false

/-- A canon by value. -/
abbrev can (s0 : Int) (a0 : Option Addr) (n0 c0 : Nat) (s1 : Int) (a1 : Option Addr) (n1 c1 : Nat) : Value := .agg #[.int .i64 s0, .slice a0 n0 c0, .int .i64 s1, .slice a1 n1 c1]
abbrev canCells (s0 : Int) (a0 : Option Addr) (n0 c0 : Nat) (s1 : Int) (a1 : Option Addr) (n1 c1 : Nat) (t : TypeId) : Obj := .cells #[.int .i64 s0, .slice a0 n0 c0, .int .i64 s1, .slice a1 n1 c1] t

/-- A box of four cells. -/
def Four (w : World) (b : Nat) (v0 v1 v2 v3 : Value) : Prop :=
  b < w.heap.size ∧ w.cell? ⟨b, 0, none⟩ = some v0 ∧ w.cell? ⟨b, 1, none⟩ = some v1 ∧ w.cell? ⟨b, 2, none⟩ = some v2 ∧ w.cell? ⟨b, 3, none⟩ = some v3
theorem Four.keep {w w' : World} {b : Nat} {v0 v1 v2 v3 : Value} (h : Four w b v0 v1 v2 v3) (hb : Below w.heap.size w w') : Four w' b v0 v1 v2 v3 := by
  obtain ⟨h0, h1, h2, h3, h4⟩ := h
  refine ⟨Nat.lt_of_lt_of_le h0 hb.size, ?_, ?_, ?_, ?_⟩
  · rw [hb.cell (p := ⟨b, 0, none⟩) h0]; exact h1
  · rw [hb.cell (p := ⟨b, 1, none⟩) h0]; exact h2
  · rw [hb.cell (p := ⟨b, 2, none⟩) h0]; exact h3
  · rw [hb.cell (p := ⟨b, 3, none⟩) h0]; exact h4
theorem Four.within {w w' : World} {b lo hi : Nat} {v0 v1 v2 v3 : Value} (h : Four w b v0 v1 v2 v3) (hb : Within lo hi w w') (hd : b < lo ∨ hi ≤ b) : Four w' b v0 v1 v2 v3 := by
  obtain ⟨h0, h1, h2, h3, h4⟩ := h
  refine ⟨Nat.lt_of_lt_of_le h0 hb.size, ?_, ?_, ?_, ?_⟩
  · rw [hb.cell h0 hd]; exact h1
  · rw [hb.cell h0 hd]; exact h2
  · rw [hb.cell h0 hd]; exact h3
  · rw [hb.cell h0 hd]; exact h4
theorem four_new (w : World) (v0 v1 v2 v3 : Value) (t : TypeId) : Four (w.alloc (.cells #[v0, v1, v2, v3] t)) w.heap.size v0 v1 v2 v3 := ⟨by simp, by simp, by simp, by simp, by simp⟩

/-- A box of four cells, whole. -/
def Bux (w : World) (b : Nat) (v0 v1 v2 v3 : Value) (t : TypeId) : Prop := w.heap[b]? = some (.cells #[v0, v1, v2, v3] t (0, 0))
theorem Bux.lt {w : World} {b : Nat} {v0 v1 v2 v3 : Value} {t : TypeId} (h : Bux w b v0 v1 v2 v3 t) : b < w.heap.size := by
  rcases Nat.lt_or_ge b w.heap.size with h' | h'
  · exact h'
  · unfold Bux at h
    rw [Array.getElem?_eq_none h'] at h
    cases h
theorem Bux.facts {w : World} {b : Nat} {v0 v1 v2 v3 : Value} {t : TypeId} (h : Bux w b v0 v1 v2 v3 t) :
    w.cell? ⟨b, 0, none⟩ = some v0 ∧ w.cell? ⟨b, 1, none⟩ = some v1 ∧ w.cell? ⟨b, 2, none⟩ = some v2 ∧ w.cell? ⟨b, 3, none⟩ = some v3 ∧
    w.frozen? ⟨b, 0, none⟩ = false ∧ w.frozen? ⟨b, 1, none⟩ = false ∧ w.frozen? ⟨b, 2, none⟩ = false ∧ w.frozen? ⟨b, 3, none⟩ = false := by
  unfold Bux at h
  refine ⟨?_, ?_, ?_, ?_, ?_, ?_, ?_, ?_⟩ <;> simp [World.cell?, World.frozen?, h]
theorem bux_new (w : World) (v0 v1 v2 v3 : Value) (t : TypeId) : Bux (w.alloc (.cells #[v0, v1, v2, v3] t)) w.heap.size v0 v1 v2 v3 t := heap_alloc_new w _
theorem Bux.keep {w w' : World} {b B : Nat} {v0 v1 v2 v3 : Value} {t : TypeId} (h : Bux w b v0 v1 v2 v3 t) (hb : Below B w w') (hB : b < B) : Bux w' b v0 v1 v2 v3 t := by
  unfold Bux
  rw [hb.block b hB]
  exact h
theorem Bux.four {w : World} {b : Nat} {v0 v1 v2 v3 : Value} {t : TypeId} (h : Bux w b v0 v1 v2 v3 t) : Four w b v0 v1 v2 v3 :=
  ⟨h.lt, h.facts.1, h.facts.2.1, h.facts.2.2.1, h.facts.2.2.2.1⟩
theorem Bux.set0 {w : World} {b : Nat} {v0 v1 v2 v3 : Value} {t : TypeId} (h : Bux w b v0 v1 v2 v3 t) (v : Value) : Bux (w.setCell ⟨b, 0, none⟩ v) b v v1 v2 v3 t := heap_setCell_same w b 0 _ _ _ h
theorem Bux.set1 {w : World} {b : Nat} {v0 v1 v2 v3 : Value} {t : TypeId} (h : Bux w b v0 v1 v2 v3 t) (v : Value) : Bux (w.setCell ⟨b, 1, none⟩ v) b v0 v v2 v3 t := heap_setCell_same w b 1 _ _ _ h
theorem Bux.set2 {w : World} {b : Nat} {v0 v1 v2 v3 : Value} {t : TypeId} (h : Bux w b v0 v1 v2 v3 t) (v : Value) : Bux (w.setCell ⟨b, 2, none⟩ v) b v0 v1 v v3 t := heap_setCell_same w b 2 _ _ _ h
theorem Bux.set3 {w : World} {b : Nat} {v0 v1 v2 v3 : Value} {t : TypeId} (h : Bux w b v0 v1 v2 v3 t) (v : Value) : Bux (w.setCell ⟨b, 3, none⟩ v) b v0 v1 v2 v t := heap_setCell_same w b 3 _ _ _ h
theorem Bux.other {w : World} {b c o : Nat} {v0 v1 v2 v3 : Value} {t : TypeId} (h : Bux w b v0 v1 v2 v3 t) (v : Value) (hc : c ≠ b) : Bux (w.setCell ⟨c, o, none⟩ v) b v0 v1 v2 v3 t := by
  unfold Bux
  rw [Below.heap_setCell _ _ _ _ (by show b ≠ c; omega)]
  exact h

/-- Two rows of the call's own, apart. -/
def RowC (w : World) (lo hi : Nat) (a0 : Option Addr) (c0 : Nat) (z0 : List Int) (a1 : Option Addr) (c1 : Nat) (z1 : List Int) : Prop :=
  ∃ l0 h0 l1 h1, lo ≤ l0 ∧ l0 ≤ h0 ∧ h0 ≤ hi ∧ lo ≤ l1 ∧ l1 ≤ h1 ∧ h1 ≤ hi ∧ (h0 ≤ l1 ∨ h1 ≤ l0) ∧ Row w l0 h0 a0 z0.length c0 z0 ∧ Row w l1 h1 a1 z1.length c1 z1
theorem RowC.of {w : World} {lo m hi : Nat} {a0 : Option Addr} {c0 : Nat} {z0 : List Int} {a1 : Option Addr} {c1 : Nat} {z1 : List Int} (h1 : lo ≤ m) (h2 : m ≤ hi) (r0 : Row w lo m a0 z0.length c0 z0) (r1 : Row w m hi a1 z1.length c1 z1) : RowC w lo hi a0 c0 z0 a1 c1 z1 :=
  ⟨lo, m, m, hi, Nat.le_refl _, h1, h2, h1, h2, Nat.le_refl _, .inl (Nat.le_refl _), r0, r1⟩
theorem RowC.of' {w : World} {lo m hi : Nat} {a0 : Option Addr} {c0 : Nat} {z0 : List Int} {a1 : Option Addr} {c1 : Nat} {z1 : List Int} (h1 : lo ≤ m) (h2 : m ≤ hi) (r1 : Row w lo m a1 z1.length c1 z1) (r0 : Row w m hi a0 z0.length c0 z0) : RowC w lo hi a0 c0 z0 a1 c1 z1 :=
  ⟨m, hi, lo, m, h1, h2, Nat.le_refl _, Nat.le_refl _, h1, h2, .inr (Nat.le_refl _), r0, r1⟩
theorem RowC.keep {w w' : World} {lo hi : Nat} {a0 : Option Addr} {c0 : Nat} {z0 : List Int} {a1 : Option Addr} {c1 : Nat} {z1 : List Int} (h : RowC w lo hi a0 c0 z0 a1 c1 z1) (hb : Below w.heap.size w w') : RowC w' lo hi a0 c0 z0 a1 c1 z1 := by
  obtain ⟨l0, h0, l1, h1, q1, q2, q3, q4, q5, q6, q7, r0, r1⟩ := h
  exact ⟨l0, h0, l1, h1, q1, q2, q3, q4, q5, q6, q7, r0.keep hb, r1.keep hb⟩
theorem RowC.within {w w' : World} {lo hi lo' hi' : Nat} {a0 : Option Addr} {c0 : Nat} {z0 : List Int} {a1 : Option Addr} {c1 : Nat} {z1 : List Int} (h : RowC w lo hi a0 c0 z0 a1 c1 z1) (hb : Within lo' hi' w w') (hd : hi ≤ lo' ∨ hi' ≤ lo) : RowC w' lo hi a0 c0 z0 a1 c1 z1 := by
  obtain ⟨l0, h0, l1, h1, q1, q2, q3, q4, q5, q6, q7, r0, r1⟩ := h
  exact ⟨l0, h0, l1, h1, q1, q2, q3, q4, q5, q6, q7, r0.within hb (by omega), r1.within hb (by omega)⟩
theorem RowC.at0 {w : World} {lo hi : Nat} {a0 : Option Addr} {c0 : Nat} {z0 : List Int} {a1 : Option Addr} {c1 : Nat} {z1 : List Int} (h : RowC w lo hi a0 c0 z0 a1 c1 z1) (hi : AllInt z0) : IntsAt w a0 z0.length z0 := by
  obtain ⟨l0, h0, l1, h1, q1, q2, q3, q4, q5, q6, q7, r0, r1⟩ := h
  exact r0.at hi
theorem RowC.at1 {w : World} {lo hi : Nat} {a0 : Option Addr} {c0 : Nat} {z0 : List Int} {a1 : Option Addr} {c1 : Nat} {z1 : List Int} (h : RowC w lo hi a0 c0 z0 a1 c1 z1) (hi : AllInt z1) : IntsAt w a1 z1.length z1 := by
  obtain ⟨l0, h0, l1, h1, q1, q2, q3, q4, q5, q6, q7, r0, r1⟩ := h
  exact r1.at hi
theorem RowC.lo {w : World} {lo lo' hi : Nat} {a0 : Option Addr} {c0 : Nat} {z0 : List Int} {a1 : Option Addr} {c1 : Nat} {z1 : List Int} (h : RowC w lo hi a0 c0 z0 a1 c1 z1) (hl : lo' ≤ lo) : RowC w lo' hi a0 c0 z0 a1 c1 z1 := by
  obtain ⟨l0, h0, l1, h1, q1, q2, q3, q4, q5, q6, q7, r0, r1⟩ := h
  exact ⟨l0, h0, l1, h1, by omega, q2, q3, by omega, q5, q6, q7, r0, r1⟩
theorem rowC_nil (w : World) (lo hi : Nat) (h : lo ≤ hi) (hw : hi ≤ w.heap.size) : RowC w lo hi none 0 [] none 0 [] :=
  RowC.of (m := lo) (Nat.le_refl _) h ⟨World.ownsRow_nil _ _ _ _, (fun k hk => by simp [Value.ownBlock] at hk), by omega⟩ ⟨World.ownsRow_nil _ _ _ _, (fun k hk => by simp [Value.ownBlock] at hk), hw⟩

theorem size_canon (s0 : Int) (a0 : Option Addr) (n0 c0 : Nat) (s1 : Int) (a1 : Option Addr) (n1 c1 : Nat) (l : Int) (w : World) (hm0 : n0 ≤ 9223372036854775807) (hm1 : n1 ≤ 9223372036854775807) (h0 : 0 ≤ l) (h1 : l ≤ 1048576) :
    Calls Try.prog 32 #[can s0 a0 n0 c0 s1 a1 n1 c1, .int .i64 l] w (SizePost l (n0 + n1) w) := by
  have HC := Lib.hid (fun w => size_rhythm s0 l a0 n0 c0 w hm0 h0 h1)
  go_enter Try.func32, Try.ntmps32
  go_wp2_with fail
  refine (HC.out _).mono ?_
  rintro e w1 ⟨⟨r, rfl, hr, hr1, hr2⟩, hb1⟩
  have B1 := Lib.hid ((bel1 w (canCells s0 a0 n0 c0 s1 a1 n1 c1 51)).trans (hb1.mono (by simp)))
  have F1 := Lib.hid ((four_new w (.int .i64 s0) (.slice a0 n0 c0) (.int .i64 s1) (.slice a1 n1 c1) 51).keep hb1)
  obtain ⟨f0, f1, f2, f3, f4⟩ := F1.out
  clear hb1
  rcases hr with ⟨hr, hl⟩ | ⟨hr, hl, he⟩
  · go_wp2
    go_ret
    exact ⟨⟨-1, rfl, .inl ⟨by omega, by omega⟩, by omega, by omega⟩, B1.out⟩
  · have hr' : ¬ r < 0 := by omega
    have HE := Lib.hid he
    clear he
    go_wp2_with fail
    refine (size_rhythm s1 r a1 n1 c1 _ hm1 hr (by have := HE.out; omega)).mono ?_
    rintro e w2 ⟨⟨q, rfl, hq, hq1, hq2⟩, hb2⟩
    have B2 := Lib.hid (B1.out.trans (hb2.mono B1.out.size))
    clear hb2
    rcases hq with ⟨hq, hl2⟩ | ⟨hq, hl2, he2⟩
    · go_wp2
      go_ret
      exact ⟨⟨-1, rfl, .inl ⟨by omega, by have := HE.out; omega⟩, by omega, by omega⟩, B2.out⟩
    · have hq' : ¬ q < 0 := by omega
      have HE2 := Lib.hid he2
      clear he2
      go_wp2
      go_ret
      exact ⟨⟨q, rfl, .inr ⟨hq, by have := HE.out; omega, by have := HE.out; have := HE2.out; omega⟩, hq1, hq2⟩, B2.out⟩

/-- A canon of the call's own. -/
def CanPost (s0 : Int) (z0 : List Int) (s1 : Int) (z1 : List Int) (w : World) (e : Ending) (w' : World) : Prop :=
  ∃ a0 c0 a1 c1, e = .returned (can s0 a0 z0.length c0 s1 a1 z1.length c1) ∧ RowC w' w.heap.size w'.heap.size a0 c0 z0 a1 c1 z1 ∧ Below w.heap.size w w'
/-- A canon of the call's own, and a bool. -/
def CanBPost (s0 : Int) (z0 : List Int) (s1 : Int) (z1 : List Int) (ok : Bool) (w : World) (e : Ending) (w' : World) : Prop :=
  ∃ a0 c0 a1 c1, e = .returned (.tuple #[can s0 a0 z0.length c0 s1 a1 z1.length c1, .bool ok]) ∧ RowC w' w.heap.size w'.heap.size a0 c0 z0 a1 c1 z1 ∧ Below w.heap.size w w'

set_option maxHeartbeats 1000000 in
theorem to_canon (s0 : Int) (a0 : Option Addr) (n0 c0 : Nat) (z0 : List Int) (s1 : Int) (a1 : Option Addr) (n1 c1 : Nat) (z1 : List Int) (w : World) (h0 : IntsAt w a0 n0 z0) (hm0 : n0 ≤ 1048576) (h1 : IntsAt w a1 n1 z1) (hm1 : n1 ≤ 1048576) :
    Calls Try.prog 34 #[can s0 a0 n0 c0 s1 a1 n1 c1] w (CanPost s0 z0 s1 z1 w) := by
  have HS0 := Lib.hid h0
  have HS1 := Lib.hid h1
  clear h0 h1
  obtain ⟨g, hg⟩ : ∃ g, g = w.heap.size := ⟨_, rfl⟩
  have HG := Lib.hid hg
  obtain ⟨W0, hW⟩ : ∃ W0, W0 = ((w.alloc (canCells s0 a0 n0 c0 s1 a1 n1 c1 51)).alloc (canCells 0 none 0 0 0 none 0 0 29)).alloc (canCells 0 none 0 0 0 none 0 0 29) := ⟨_, rfl⟩
  have HW := Lib.hid hW
  have Z0 : W0.heap.size = g + 3 := by rw [hW, hg]; simp
  have B0 := Lib.hid (show Below w.heap.size w W0 by rw [hW]; exact bel3 w _ _ _)
  have X0 := Lib.hid (show Bux W0 g (.int .i64 s0) (.slice a0 n0 c0) (.int .i64 s1) (.slice a1 n1 c1) 51 by
    rw [hW, hg]
    exact (bux_new w _ _ _ _ _).keep (bel2 _ _ _) (by simp))
  have X1 := Lib.hid (show Bux W0 (g + 1) (.int .i64 0) (.slice none 0 0) (.int .i64 0) (.slice none 0 0) 29 by
    rw [hW, hg]
    have := (bux_new (w.alloc (canCells s0 a0 n0 c0 s1 a1 n1 c1 51)) (.int .i64 0) (.slice none 0 0) (.int .i64 0) (.slice none 0 0) 29).keep (bel1 _ (canCells 0 none 0 0 0 none 0 0 29)) (by simp)
    simpa using this)
  have X2 := Lib.hid (show Bux W0 (g + 2) (.int .i64 0) (.slice none 0 0) (.int .i64 0) (.slice none 0 0) 29 by
    rw [hW, hg]
    have := bux_new ((w.alloc (canCells s0 a0 n0 c0 s1 a1 n1 c1 51)).alloc (canCells 0 none 0 0 0 none 0 0 29)) (.int .i64 0) (.slice none 0 0) (.int .i64 0) (.slice none 0 0) 29
    simpa using this)
  clear hW
  go_enter Try.func34, Try.ntmps34
  go_wp2_with fail
  rw [← hg, ← HW.out]
  clear hg
  refine (to_rhythm s0 a0 n0 c0 z0 _ (HS0.out.below B0.out) hm0).mono ?_
  rintro e w1 ⟨b0, d0, rfl, hown0, hb1⟩
  have B1 := Lib.hid (B0.out.trans (hb1.mono B0.out.size))
  have O0 := Lib.hid (row_of (own_base hown0 (show g + 3 ≤ W0.heap.size by omega)))
  have hz1 : g + 3 ≤ w1.heap.size := by have := hb1.size; omega
  have Y0 := Lib.hid (X0.out.keep hb1 (by omega))
  have Y1 := Lib.hid (X1.out.keep hb1 (by omega))
  have Y2 := Lib.hid (X2.out.keep hb1 (by omega))
  obtain ⟨p00, p01, p02, p03, _⟩ := Y0.out.facts
  obtain ⟨p20, p21, p22, p23, q20, q21, q22, q23⟩ := Y2.out.facts
  obtain ⟨l0, l2⟩ := And.intro Y0.out.lt Y2.out.lt
  clear hown0 hb1
  go_wp2_with fail
  refine (to_rhythm s1 a1 n1 c1 z1 _ (HS1.out.below ((B1.out.setCell (by have := HG.out; show w.heap.size ≤ g + 2; omega) _).setCell (by have := HG.out; show w.heap.size ≤ g + 2; omega) _)) hm1).mono ?_
  rintro e w2 ⟨b1, d1, rfl, hown1, hb2⟩
  have B2 := Lib.hid (((B1.out.setCell (by have := HG.out; show w.heap.size ≤ g + 2; omega) _).setCell (by have := HG.out; show w.heap.size ≤ g + 2; omega) _).trans (hb2.mono (by simpa using B1.out.size)))
  have O1 := Lib.hid (row_of hown1)
  have hz2 : w1.heap.size ≤ w2.heap.size := by have := hb2.size; simpa using this
  have V0 := Lib.hid (((((Y0.out.other (c := g + 2) (o := 0) _ (by omega)).other (c := g + 2) (o := 1) _ (by omega))).keep hb2 (by simp; omega)))
  have V1 := Lib.hid (((((Y1.out.other (c := g + 2) (o := 0) _ (by omega)).other (c := g + 2) (o := 1) _ (by omega))).keep hb2 (by simp; omega)))
  have V2 := Lib.hid (((Y2.out.set0 _).set1 _).keep hb2 (by simp; omega))
  have R0 := Lib.hid ((O0.out.within (((Within.refl (g + 2) (g + 3) w1).setCell (g + 2) (by omega) 0 (.int .i64 s0)).setCell (g + 2) (by omega) 1 (.slice b0 z0.length d0)) (.inr (Nat.le_refl _))).keep hb2)
  clear p00 p01 p02 p03 p20 p21 p22 p23 q20 q21 q22 q23 l0 l2 hown1 hb2
  obtain ⟨r10, r11, r12, r13, t10, t11, t12, t13⟩ := V1.out.facts
  obtain ⟨r20, r21, r22, r23, t20, t21, t22, t23⟩ := V2.out.facts
  obtain ⟨l1, l2⟩ := And.intro V1.out.lt V2.out.lt
  go_wp2
  refine bodyPost_ret (v := can s0 b0 z0.length d0 s1 b1 z1.length d1) (by simp [results, Try.results34, go_sem, *]) rfl ?_
  have WI : Within (g + 1) (g + 3) w2 ((((((w2.setCell ⟨g + 2, 2, none⟩ (.int .i64 s1)).setCell ⟨g + 2, 3, none⟩ (.slice b1 z1.length d1)).setCell ⟨g + 1, 0, none⟩ (.int .i64 s0)).setCell ⟨g + 1, 1, none⟩ (.slice b0 z0.length d0)).setCell ⟨g + 1, 2, none⟩ (.int .i64 s1)).setCell ⟨g + 1, 3, none⟩ (.slice b1 z1.length d1)) :=
    ((((((Within.refl _ _ w2).setCell _ (by omega) _ _).setCell _ (by omega) _ _).setCell _ (by omega) _ _).setCell _ (by omega) _ _).setCell _ (by omega) _ _).setCell _ (by omega) _ _
  refine ⟨b0, d0, b1, d1, rfl, RowC.of (m := w1.heap.size) (by have := HG.out; omega) (by simpa using hz2) ?_ ?_, ?_⟩
  · exact (R0.out.within WI (by omega)).lo (by have := HG.out; omega)
  · have := (O1.out.within WI (.inr (by simp; omega))).lo (show w1.heap.size ≤ _ by simp)
    simpa using this
  · exact (Rhy.Below.within B2.out WI (by have := HG.out; omega) (by have := HG.out; omega))

theorem within_wide {lo hi lo' hi' : Nat} {a b : World} (h : Within lo hi a b) (h1 : lo' ≤ lo) (h2 : hi ≤ hi') : Within lo' hi' a b :=
  ⟨h.os, h.tape, h.output, h.size, fun k hk ho => h.block k hk (by omega)⟩

theorem eq_canon (s0 : Int) (a0 b0 : Option Addr) (ca0 cb0 n0 : Nat) (l0 : List Int) (s1 : Int) (a1 b1 : Option Addr) (ca1 cb1 n1 : Nat) (l1 : List Int) (w : World) (ha0 : IntsAt w a0 n0 l0) (hb0 : IntsAt w b0 n0 l0) (h0 : n0 ≤ 1073741824) (ha1 : IntsAt w a1 n1 l1) (hb1 : IntsAt w b1 n1 l1) (h1 : n1 ≤ 1073741824) :
    Calls Try.prog 35 #[can s0 a0 n0 ca0 s1 a1 n1 ca1, can s0 b0 n0 cb0 s1 b1 n1 cb1] w fun e w' => e = .returned (.bool true) ∧ Below w.heap.size w w' := by
  have FA0 := Lib.hid ha0
  have FB0 := Lib.hid hb0
  have FA1 := Lib.hid ha1
  have FB1 := Lib.hid hb1
  clear ha0 hb0 ha1 hb1
  go_enter Try.func35, Try.ntmps35
  go_wp2_with fail
  refine (eq_rhythm s0 a0 b0 ca0 cb0 n0 l0 _ (FA0.out.below (bel2 w _ _)) (FB0.out.below (bel2 w _ _)) h0).mono ?_
  rintro e w1 ⟨rfl, hbel⟩
  have B1 := Lib.hid ((bel2 w (canCells s0 a0 n0 ca0 s1 a1 n1 ca1 29) (canCells s0 b0 n0 cb0 s1 b1 n1 cb1 29)).trans (hbel.mono (by simp; omega)))
  have T1 := Lib.hid (((four_new w (.int .i64 s0) (.slice a0 n0 ca0) (.int .i64 s1) (.slice a1 n1 ca1) 29).keep (bel1 _ (canCells s0 b0 n0 cb0 s1 b1 n1 cb1 29))).keep hbel)
  have U1 := Lib.hid ((four_new (w.alloc (canCells s0 a0 n0 ca0 s1 a1 n1 ca1 29)) (.int .i64 s0) (.slice b0 n0 cb0) (.int .i64 s1) (.slice b1 n1 cb1) 29).keep hbel)
  obtain ⟨t0, t1, t2, t3, t4⟩ := T1.out
  obtain ⟨u0, u1, u2, u3, u4⟩ := U1.out
  simp only [World.size_alloc] at u0 u1 u2 u3 u4
  clear hbel
  go_wp2_with fail
  refine (eq_rhythm s1 a1 b1 ca1 cb1 n1 l1 _ (FA1.out.below B1.out) (FB1.out.below B1.out) h1).mono ?_
  rintro e w2 ⟨rfl, hbel⟩
  have B2 := Lib.hid (B1.out.trans (hbel.mono B1.out.size))
  clear hbel
  go_wp2
  go_ret
  exact ⟨rfl, B2.out⟩

theorem mark_canon (lo hi c : Nat) (s0 : Int) (a0 : Option Addr) (c0 : Nat) (l0 : List Int) (s1 : Int) (a1 : Option Addr) (c1 : Nat) (l1 : List Int) (w : World) (h : RowC w lo hi a0 c0 l0 a1 c1 l1) (hhi : hi ≤ w.heap.size) (h0 : l0.length ≤ 1048576) (h1 : l1.length ≤ 1048576) (hc : c ≤ 1048576) :
    Calls Try.prog 38 #[can s0 a0 l0.length c0 s1 a1 l1.length c1, .int .i64 c] w fun e w' =>
      e = .returned (.int .i64 (((c + l0.length : Nat) : Int) + l1.length)) ∧ RowC w' lo hi a0 c0 (marks c l0.length) a1 c1 (marks (c + l0.length) l1.length) ∧ Within lo hi w w' := by
  obtain ⟨l0', m0, l1', m1, q1, q2, q3, q4, q5, q6, q7, r0, r1⟩ := h
  have R0 := Lib.hid r0
  have R1 := Lib.hid r1
  clear r0 r1
  go_enter Try.func38, Try.ntmps38
  go_wp2_with fail
  refine (mark_rhythm l0' m0 c s0 a0 c0 l0.length l0 _ (R0.out.keep (bel1 w _)) (by omega) (by omega)).mono ?_
  rintro e w1 ⟨rfl, hown, hbel⟩
  have Q0 := Lib.hid hown
  have HB := Lib.hid (within_wide (lo' := lo) (hi' := hi) ((Within.of_below (bel1 w (canCells s0 a0 l0.length c0 s1 a1 l1.length c1 29))).trans hbel) q1 q3)
  have Q1 := Lib.hid ((R1.out.keep (bel1 w (canCells s0 a0 l0.length c0 s1 a1 l1.length c1 29))).within hbel (by omega))
  have T1 := Lib.hid ((four_new w (.int .i64 s0) (.slice a0 l0.length c0) (.int .i64 s1) (.slice a1 l1.length c1) 29).within hbel (.inr (by omega)))
  obtain ⟨t0, t1, t2, t3, t4⟩ := T1.out
  rw [show ((c : Int) + (l0.length : Nat)) = ((c + l0.length : Nat) : Int) by omega]
  clear hown hbel
  go_wp2_with fail
  refine (mark_rhythm l1' m1 (c + l0.length) s1 a1 c1 l1.length l1 _ Q1.out (by omega) (by omega)).mono ?_
  rintro e w2 ⟨rfl, hown, hbel⟩
  have P1 := Lib.hid hown
  have HB2 := Lib.hid (HB.out.trans (within_wide (lo' := lo) (hi' := hi) hbel q4 q6))
  have P0 := Lib.hid (Q0.out.within hbel (by omega))
  clear hown hbel
  go_wp2
  go_ret
  exact ⟨rfl, ⟨l0', m0, l1', m1, q1, q2, q3, q4, q5, q6, q7, by simpa [marks_len] using P0.out, by simpa [marks_len] using P1.out⟩, HB2.out⟩

theorem held_canon (c : Nat) (s0 : Int) (a0 : Option Addr) (n0 c0 : Nat) (s1 : Int) (a1 : Option Addr) (n1 c1 : Nat) (w : World) (h0 : IntsAt w a0 n0 (marks c n0)) (h1 : IntsAt w a1 n1 (marks (c + n0) n1)) (hl0 : n0 ≤ 1048576) (hl1 : n1 ≤ 1048576) (hc : c ≤ 1048576) :
    Calls Try.prog 39 #[can s0 a0 n0 c0 s1 a1 n1 c1, .int .i64 c] w fun e w' => e = .returned (.int .i64 (((c + n0 : Nat) : Int) + n1)) ∧ Below w.heap.size w w' := by
  have F0 := Lib.hid h0
  have F1 := Lib.hid h1
  clear h0 h1
  go_enter Try.func39, Try.ntmps39
  go_wp2_with fail
  refine (held_rhythm c s0 a0 c0 n0 _ (F0.out.below (bel1 w _)) (by omega) (by omega)).mono ?_
  rintro e w1 ⟨rfl, hbel⟩
  have B1 := Lib.hid ((bel1 w (canCells s0 a0 n0 c0 s1 a1 n1 c1 29)).trans (hbel.mono (by simp)))
  have T1 := Lib.hid ((four_new w (.int .i64 s0) (.slice a0 n0 c0) (.int .i64 s1) (.slice a1 n1 c1) 29).keep hbel)
  obtain ⟨t0, t1, t2, t3, t4⟩ := T1.out
  rw [show ((c : Int) + (n0 : Nat)) = ((c + n0 : Nat) : Int) by omega]
  clear hbel
  go_wp2_with fail
  refine (held_rhythm (c + n0) s1 a1 c1 n1 _ (F1.out.below B1.out) (by omega) (by omega)).mono ?_
  rintro e w2 ⟨rfl, hbel⟩
  have B2 := Lib.hid (B1.out.trans (hbel.mono B1.out.size))
  clear hbel
  go_wp2
  go_ret
  exact ⟨rfl, B2.out⟩

/-! ### a canon that comes in -/
theorem cellsLC : Try.prog.cellsOf 51 = 4 := by kernel_rfl
theorem array4' {α : Type} {cs : Array α} (h : cs.size = 4) : ∃ c0 c1 c2 c3, cs = #[c0, c1, c2, c3] := by
  obtain ⟨l⟩ := cs
  match l, h with
  | [c0, c1, c2, c3], _ => exact ⟨c0, c1, c2, c3, rfl⟩
def OpenedC (W : World) (s0 : Int) (a0 : Option Addr) (n0 : Nat) (z0 : List Int) (s1 : Int) (a1 : Option Addr) (n1 : Nat) (z1 : List Int) : Prop :=
  Opened W s0 a0 n0 z0 ∧ Opened W s1 a1 n1 z1
set_option maxRecDepth 100000 in
theorem opened_rhythm {W : World} {H : Type} {enc : TypeId × Value → H} {v0 v1 : Value} {fuel : Nat} {x : DataW H × List MemPlace}
    (hf : DataW.trod enc Try.prog W 0 (fun _ => true) true fuel 49 [v0, v1] = some x) :
    ∃ s a len cap zs, v0 = .int .i64 s ∧ v1 = .slice a len cap ∧ Opened W s a len zs := by
  obtain ⟨y0, y1, n, _, _, h0, h1⟩ := trod_struct2 Try.underlying49 hf
  rw [cellsI] at h0
  obtain ⟨s, e0, _, ws⟩ := DataW.trod_int Try.underlying3 h0
  rw [show Try.prog.cellsOf 23 = 1 by kernel_rfl] at h1
  obtain ⟨a, len, cap, zs, e1, hi, hm⟩ := opened_ints h1
  simp at e0 e1
  have := bounds_i64 ws
  exact ⟨s, a, len, cap, zs, e0, e1, hi, hm, this.1, this.2⟩
set_option maxRecDepth 100000 in
theorem openedC {W : World} {H : Type} {enc : TypeId × Value → H} {v : Value} {d : DataW H} {p : List MemPlace} {b0 : Nat} (hv : Value.okWide Try.prog W .any b0 51 v)
    (h : DataW.Trod enc Try.prog W 0 (fun _ => true) true 51 v d p) :
    ∃ s0 a0 n0 c0 z0 s1 a1 n1 c1 z1, v = can s0 a0 n0 c0 s1 a1 n1 c1 ∧ OpenedC W s0 a0 n0 z0 s1 a1 n1 z1 := by
  obtain ⟨cs, rfl, hsz⟩ := okWide_struct Try.underlying51 hv
  obtain ⟨v0, v1, v2, v3, rfl⟩ := array4' (hsz.trans cellsLC)
  obtain ⟨fuel, hf⟩ := h
  obtain ⟨y0, y1, n, _, _, h0, h1⟩ := trod_struct2 Try.underlying51 hf
  rw [cellsR] at h0 h1
  obtain ⟨s0, a0, n0, c0, z0, rfl, rfl, o0⟩ := opened_rhythm (v0 := v0) (v1 := v1) h0
  obtain ⟨s1, a1, n1, c1, z1, rfl, rfl, o1⟩ := opened_rhythm (v0 := v2) (v1 := v3) h1
  exact ⟨s0, a0, n0, c0, z0, s1, a1, n1, c1, z1, rfl, o0, o1⟩
end Go.Proofs.Ythnlakdfbalgdaa.Rhy
