/-
  Helpers of the claims beside this text: rhythms by value: what the laws' szRhythm, toRhythm, eqRhythm, markRhythm and heldRhythm do.
-/
import Derived.Test.YtgmhdmhnedljcaaRhy
import Derived.Test.YtgmhdmhnedljcaaRows
import Derived.WalkKit
import Derived.WalkSpells
import Derived.WalkLawsBesides
import Derived.WalkSmall
import Derived.Deep.QuietTactic
import Derived.BigQuiet
import Derived.Laws.ResultCell
import Derived.Lib.Hide
import Derived.Outline
namespace Go.Proofs.Ytgmhdmhnedljcaa.Rhy
open Go.RowKit
set_option linter.unusedVariables false

/-- A rhythm by value. -/
abbrev rhy (s : Int) (a : Option Addr) (len cap : Nat) : Value := .agg #[.int .i64 s, .slice a len cap]

theorem bcell {w W : World} (hb : Below w.heap.size w W) : (∀ b o, b < w.heap.size → W.cell? ⟨b, o, none⟩ = w.cell? ⟨b, o, none⟩) ∧ (∀ b o, b < w.heap.size → W.frozen? ⟨b, o, none⟩ = w.frozen? ⟨b, o, none⟩) :=
  ⟨fun b o h => hb.cell (p := ⟨b, o, none⟩) h, fun b o h => hb.frozen (p := ⟨b, o, none⟩) h⟩

/-- A box of two cells. -/
def Two (w : World) (b : Nat) (v0 v1 : Value) : Prop := b < w.heap.size ∧ w.cell? ⟨b, 0, none⟩ = some v0 ∧ w.cell? ⟨b, 1, none⟩ = some v1
theorem Two.keep {w w' : World} {b : Nat} {v0 v1 : Value} (h : Two w b v0 v1) (hb : Below w.heap.size w w') : Two w' b v0 v1 :=
  ⟨Nat.lt_of_lt_of_le h.1 hb.size, by rw [hb.cell (p := ⟨b, 0, none⟩) h.1]; exact h.2.1, by rw [hb.cell (p := ⟨b, 1, none⟩) h.1]; exact h.2.2⟩
theorem Two.within {w w' : World} {b lo hi : Nat} {v0 v1 : Value} (h : Two w b v0 v1) (hb : Within lo hi w w') (hd : b < lo ∨ hi ≤ b) : Two w' b v0 v1 :=
  ⟨Nat.lt_of_lt_of_le h.1 hb.size, by rw [hb.cell h.1 hd]; exact h.2.1, by rw [hb.cell h.1 hd]; exact h.2.2⟩
theorem two_new (w : World) (v0 v1 : Value) (t : TypeId) : Two (w.alloc (.cells #[v0, v1] t)) w.heap.size v0 v1 := ⟨by simp, by simp, by simp⟩
theorem bel1 (w : World) (o1 : Obj) : Below w.heap.size w (w.alloc o1) := (Below.refl w.heap.size w).alloc (Nat.le_refl _) _
theorem bel2 (w : World) (o1 o2 : Obj) : Below w.heap.size w ((w.alloc o1).alloc o2) := (bel1 w o1).alloc (by simp) _
theorem bel3 (w : World) (o1 o2 o3 : Obj) : Below w.heap.size w (((w.alloc o1).alloc o2).alloc o3) := (bel2 w o1 o2).alloc (by simp; omega) _
theorem bel4 (w : World) (o1 o2 o3 o4 : Obj) : Below w.heap.size w ((((w.alloc o1).alloc o2).alloc o3).alloc o4) := (bel3 w o1 o2 o3).alloc (by simp; omega) _

def SizePost (l : Int) (len : Nat) (w : World) (e : Ending) (w' : World) : Prop :=
  (∃ r : Int, e = .returned (.int .i64 r) ∧ ((r < 0 ∧ l < len) ∨ (0 ≤ r ∧ (len : Int) ≤ l ∧ r = l - len)) ∧ -9223372036854775808 ≤ r ∧ r ≤ 9223372036854775807) ∧ Below w.heap.size w w'

def SizeSame (l : Int) (len : Nat) (w : World) (e : Ending) (w' : World) : Prop :=
  (∃ r : Int, e = .returned (.int .i64 r) ∧ ((r < 0 ∧ l < len) ∨ (0 ≤ r ∧ (len : Int) ≤ l ∧ r = l - len)) ∧ -9223372036854775808 ≤ r ∧ r ≤ 9223372036854775807) ∧ w = w'
theorem size_any (l : Int) (a : Option Addr) (len cap : Nat) (w : World) (hm : len ≤ 9223372036854775807) (h0 : 0 ≤ l) (h1 : l ≤ 1048576) :
    Calls Try.prog 20 #[.slice a len cap, .int .i64 l] w (SizeSame l len w) := by
  by_cases hl : l < len
  · go_enter Try.func20, Try.ntmps20
    go_wp2
    go_ret
    exact ⟨⟨-1, rfl, .inl ⟨by omega, hl⟩, by omega, by omega⟩, rfl⟩
  · go_enter Try.func20, Try.ntmps20
    go_wp2
    go_ret
    exact ⟨⟨_, rfl, .inr ⟨by omega, by omega, rfl⟩, by omega, by omega⟩, rfl⟩

theorem size_rhythm (s l : Int) (a : Option Addr) (len cap : Nat) (w : World) (hm : len ≤ 9223372036854775807) (h0 : 0 ≤ l) (h1 : l ≤ 1048576) :
    Calls Try.prog 6 #[rhy s a len cap, .int .i64 l] w (SizePost l len w) := by
  have HC := Lib.hid (fun w => size_any l a len cap w hm h0 h1)
  go_enter Try.func6, Try.ntmps6
  go_wp2_with fail
  refine (HC.out _).mono ?_
  rintro e w' ⟨⟨r, rfl, hr, h1, h2⟩, rfl⟩
  rcases hr with ⟨hr, hl⟩ | ⟨hr, hl, he⟩
  · go_wp2
    go_ret
    exact ⟨⟨-1, rfl, .inl ⟨by omega, hl⟩, by omega, by omega⟩, (Below.refl _ _).alloc (Nat.le_refl _) _⟩
  · have hr' : ¬ r < 0 := by omega
    have HE := Lib.hid he
    clear he
    go_wp2
    go_ret
    exact ⟨⟨r, rfl, .inr ⟨hr, hl, HE.out⟩, h1, h2⟩, (Below.refl _ _).alloc (Nat.le_refl _) _⟩

/-- A rhythm of the call's own: its size, and a row that holds its beats. -/
def RhyPost (s : Int) (zs : List Int) (w : World) (e : Ending) (w' : World) : Prop :=
  ∃ a cap, e = .returned (rhy s a zs.length cap) ∧ w'.ownsRow w.heap.size 3 1 (.slice a zs.length cap) zs.length (ints zs) ∧ Below w.heap.size w w'

theorem to_rhythm (s : Int) (a : Option Addr) (len cap : Nat) (zs : List Int) (w : World) (h : IntsAt w a len zs) (hm : len ≤ 1048576) :
    Calls Try.prog 8 #[rhy s a len cap] w (RhyPost s zs w) := by
  have HS := Lib.hid h
  clear h
  go_enter Try.func8, Try.ntmps8
  go_wp2_with fail
  refine (copy_ints a len cap zs _ ?_ hm).mono ?_
  · exact HS.out.below (bel3 w _ _ _)
  rintro e w1 ⟨a1, cap1, rfl, hown, hbel⟩
  have HO := Lib.hid hown
  have HB := Lib.hid hbel
  obtain ⟨hc, hf⟩ := bcell hbel
  have hz : w.heap.size + 3 ≤ w1.heap.size := by have := hbel.size; simp at this; omega
  clear hown hbel
  go_wp2
  refine bodyPost_ret (v := rhy s a1 len cap1) (by simp [results, Try.results8, go_sem, hc]) rfl ?_
  have e : zs.length = len := HS.out.1
  refine ⟨a1, cap1, by rw [e], ?_, ?_⟩
  · rw [e]
    refine own_base (ownsRow_setCell_below (ownsRow_setCell_below (ownsRow_setCell_below HO.out ?_ _) ?_ _) ?_ _) ?_ <;> simp <;> omega
  · exact (((((bel3 w _ _ _).trans (HB.out.mono (by simp; omega))).setCell (by simp; omega) _).setCell (by simp) _).setCell (by simp) _)

theorem eq_rhythm (s : Int) (a b : Option Addr) (capa capb n : Nat) (l : List Int) (w : World) (ha : IntsAt w a n l) (hb : IntsAt w b n l) (hl : n ≤ 1073741824) :
    Calls Try.prog 11 #[rhy s a n capa, rhy s b n capb] w fun e w' => e = .returned (.bool true) ∧ Below w.heap.size w w' := by
  have FA := Lib.hid ha
  have FB := Lib.hid hb
  clear ha hb
  go_enter Try.func11, Try.ntmps11
  go_wp2_with fail
  refine (eq_ints a b capa capb n l _ (FA.out.below (bel2 w _ _)) (FB.out.below (bel2 w _ _)) hl).mono ?_
  rintro e w1 ⟨rfl, hbel⟩
  have HB := Lib.hid hbel
  clear hbel
  go_wp2
  go_ret
  exact ⟨rfl, (bel2 w _ _).trans (HB.out.mono (by simp; omega))⟩

theorem mark_rhythm (lo hi c : Nat) (s : Int) (a : Option Addr) (cap n : Nat) (l : List Int) (w : World) (ha : Row w lo hi a n cap l) (hl : n ≤ 1073741000) (hc : c ≤ 1073741000) :
    Calls Try.prog 12 #[rhy s a n cap, .int .i64 c] w fun e w' => e = .returned (.int .i64 ((c : Int) + n)) ∧ Row w' lo hi a n cap (marks c n) ∧ Within lo hi w w' := by
  have HA := Lib.hid ha
  clear ha
  go_enter Try.func12, Try.ntmps12
  go_wp2_with fail
  refine (mark_ints lo hi c a cap n l _ (HA.out.keep (bel1 w _)) hl hc).mono ?_
  rintro e w1 ⟨rfl, hown, hbel⟩
  have HO := Lib.hid hown
  have HB := Lib.hid hbel
  clear hown hbel
  go_wp2
  go_ret
  exact ⟨rfl, HO.out, (Within.of_below (bel1 w _)).trans HB.out⟩

theorem held_rhythm (c : Nat) (s : Int) (a : Option Addr) (cap n : Nat) (w : World) (ha : IntsAt w a n (marks c n)) (hl : n ≤ 1073741000) (hc : c ≤ 1073741000) :
    Calls Try.prog 19 #[rhy s a n cap, .int .i64 c] w fun e w' => e = .returned (.int .i64 ((c : Int) + n)) ∧ Below w.heap.size w w' := by
  have HA := Lib.hid ha
  clear ha
  go_enter Try.func19, Try.ntmps19
  go_wp2_with fail
  refine (held_ints c a cap n _ (HA.out.below (bel1 w _)) hl hc).mono ?_
  rintro e w1 ⟨rfl, hbel⟩
  have HB := Lib.hid hbel
  clear hbel
  go_wp2
  go_ret
  exact ⟨rfl, (bel1 w _).trans (HB.out.mono (by simp))⟩

/-- What a function that answers with a rhythm and a bool leaves. -/
def RetPost (s : Int) (zs : List Int) (ok : Bool) (w : World) (e : Ending) (w' : World) : Prop :=
  ∃ a cap, e = .returned (.tuple #[rhy s a zs.length cap, .bool ok]) ∧ w'.ownsRow w.heap.size 3 1 (.slice a zs.length cap) zs.length (ints zs) ∧ Below w.heap.size w w'

/-- What a function that answers with a slice of integers leaves. -/
def IPost (zs : List Int) (w : World) (e : Ending) (w' : World) : Prop :=
  ∃ a cap, e = .returned (.slice a zs.length cap) ∧ w'.ownsRow w.heap.size 3 1 (.slice a zs.length cap) zs.length (ints zs) ∧ Below w.heap.size w w'
theorem copy_len (a : Option Addr) (len cap : Nat) (zs : List Int) (w : World) (h : IntsAt w a len zs) (hm : len ≤ 1048576) :
    Calls Try.prog 23 #[.slice a len cap] w (IPost zs w) := by
  refine (copy_ints a len cap zs w h hm).mono ?_
  rintro e w' ⟨a', cap', rfl, h1, h2⟩
  have hl := h.1
  subst hl
  exact ⟨a', cap', rfl, h1, h2⟩
theorem size_any2 (l : Int) (a : Option Addr) (len cap : Nat) (w : World) (hm : len ≤ 9223372036854775807) (h0 : 0 ≤ l) (h1 : l ≤ 1048576) :
    Calls Try.prog 20 #[.slice a len cap, .int .i64 l] w (SizePost l len w) := by
  refine (size_any l a len cap w hm h0 h1).mono ?_
  rintro e w' ⟨h, rfl⟩
  exact ⟨h, Below.refl _ _⟩
end Go.Proofs.Ytgmhdmhnedljcaa.Rhy
