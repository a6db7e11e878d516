/-
  Helpers of the claims beside this text: slices of integers and rhythms: what the laws' szIntS, toIntS, eqIntS, markIntS, heldIntS and their kin on rhythms do.
-/
import Derived.Test.YtmlhpllppgcgkaaDoorRows
import Derived.WalkKit
import Derived.WalkSpells
import Derived.WalkLawsBesides
import Derived.WalkSmall
import Derived.Deep.QuietTactic
import Derived.BigQuiet
import Derived.OpenShut
import Derived.Lib.Hide
namespace Go.Proofs.YtmlhpllppgcgkaaDoor.Rhy
open Go.RowKit
set_option linter.unusedVariables false

theorem infoInt : (Tryd.prog.info? 3).map (fun i => (i.zero, i.size, i.bytes)) = some (some (.int .i64 0), 1, 8) := by kernel_rfl

theorem grown_of_below {w w' : World} (h : Below w.heap.size w w') (row : Option Nat) : w.grownBy w' row := ⟨h.os, h.tape, h.output, h.size, fun k hk _ => h.block k hk⟩
theorem own_below {w w' : World} {B : Nat} {e : TypeId} {size : Nat} {v : Value} {n : Nat} {xs : List Value} (h : w.ownsRow B e size v n xs) (hb : Below w.heap.size w w') : w'.ownsRow B e size v n xs := by
  cases hv : v.ownBlock with
  | none => exact h.kept (grown_of_below hb none) (.inl hv)
  | some g => exact h.kept (grown_of_below hb none) (.inr (by rw [hv]; simp))
theorem own_base {w : World} {B B' : Nat} {e : TypeId} {size : Nat} {v : Value} {n : Nat} {xs : List Value} (h : w.ownsRow B e size v n xs) (hB : B' ≤ B) : w.ownsRow B' e size v n xs := by
  obtain ⟨h1, h2 | ⟨g, cap, cur, hv, hb, rest⟩⟩ := h
  · exact ⟨h1, .inl h2⟩
  · exact ⟨h1, .inr ⟨g, cap, cur, hv, by omega, rest⟩⟩
theorem own_drewN {w : World} {B : Nat} {e : TypeId} {size : Nat} {v : Value} {n : Nat} {xs : List Value} (h : w.ownsRow B e size v n xs) (k : Nat) : (w.drewN k).ownsRow B e size v n xs :=
  own_below h (below_drewN (Below.refl _ _) k)
theorem own_cap {w : World} {B : Nat} {e : TypeId} {a : Option Addr} {cap n : Nat} {xs : List Value} (h : w.ownsRow B e 1 (.slice a n cap) n xs) : n ≤ cap := by
  obtain ⟨_, ⟨h1, h2⟩ | ⟨g, cap', cur, hv, _, _, hn, _⟩⟩ := h
  · omega
  · simp at hv
    omega

/-- The integers as the cells of a row. -/
def ints (l : List Int) : List Value := l.map (Value.int .i64)
/-- Every number is an int. -/
def AllInt (l : List Int) : Prop := ∀ z ∈ l, -9223372036854775808 ≤ z ∧ z ≤ 9223372036854775807
/-- A slice of integers as it lies in memory. -/
def IntsAt (w : World) (a : Option Addr) (len : Nat) (zs : List Int) : Prop :=
  zs.length = len ∧ AllInt zs ∧ (0 < len → ∃ b off, a = some ⟨b, off, none⟩ ∧ b < w.heap.size ∧ ∀ j z, zs[j]? = some z → w.cell? ⟨b, off + j, none⟩ = some (.int .i64 z))
theorem IntsAt.below {w w' : World} {a : Option Addr} {len : Nat} {zs : List Int} (h : IntsAt w a len zs) (hb : Below w.heap.size w w') : IntsAt w' a len zs := by
  refine ⟨h.1, h.2.1, fun hp => ?_⟩
  obtain ⟨b, off, rfl, hlt, hc⟩ := h.2.2 hp
  exact ⟨b, off, rfl, Nat.lt_of_lt_of_le hlt hb.size, fun j z hj => by rw [hb.cell (p := ⟨b, off + j, none⟩) hlt]; exact hc j z hj⟩
theorem IntsAt.int {w : World} {a : Option Addr} {len : Nat} {zs : List Int} (h : IntsAt w a len zs) : AllInt zs := h.2.1
theorem IntsAt.len {w : World} {a : Option Addr} {len : Nat} {zs : List Int} (h : IntsAt w a len zs) : zs.length = len := h.1
theorem own_shape {w : World} {B : Nat} {v : Value} {n : Nat} {l : List Int} (h : w.ownsRow B 3 1 v n (ints l)) :
    l.length = n ∧ ∃ a cap, v = .slice a n cap ∧ (0 < n → ∃ g, a = some ⟨g, 0, none⟩ ∧ B ≤ g ∧ g < w.heap.size ∧ ∀ j z, l[j]? = some z → w.cell? ⟨g, j, none⟩ = some (.int .i64 z)) := by
  have hc := @World.ownsRow.cells w B 3 1 v n (ints l) h
  have hlt := h.lt
  obtain ⟨h1, ⟨rfl, h0⟩ | ⟨g, cap, cur, rfl, hB, hg, hn, hm, hs, ht⟩⟩ := h
  · exact ⟨by simpa [ints] using h1, none, 0, by rw [h0], fun hp => by omega⟩
  · refine ⟨by simpa [ints] using h1, _, cap, rfl, fun hp => ⟨g, rfl, hB, (hlt g rfl).2, fun j z hj => ?_⟩⟩
    have := hc (g := g) rfl j (.int .i64 z) (by simp [ints, hj])
    rcases j with _ | j <;> simpa [Addr.add] using this
theorem intsAt_own {w : World} {B : Nat} {a : Option Addr} {cap n : Nat} {l : List Int} (h : w.ownsRow B 3 1 (.slice a n cap) n (ints l)) (hi : AllInt l) : IntsAt w a n l := by
  obtain ⟨hl, a', cap', hv, hc⟩ := own_shape h
  simp at hv
  obtain ⟨rfl, rfl⟩ := hv
  refine ⟨hl, hi, fun hp => ?_⟩
  obtain ⟨g, rfl, _, hlt, hcell⟩ := hc hp
  exact ⟨g, 0, rfl, hlt, fun j z hj => by simpa using hcell j z hj⟩
theorem IntsAt.at {w : World} {a : Option Addr} {len : Nat} {zs : List Int} (h : IntsAt w a len zs) {k : Nat} (hk : k < len) :
    ∃ b off z, a = some ⟨b, off, none⟩ ∧ b < w.heap.size ∧ zs[k]? = some z ∧ w.cell? ⟨b, off + k, none⟩ = some (.int .i64 z) ∧ -9223372036854775808 ≤ z ∧ z ≤ 9223372036854775807 := by
  obtain ⟨b, off, rfl, hlt, hc⟩ := h.2.2 (by omega)
  have hs : zs[k]? = some (zs[k]'(by rw [h.1]; exact hk)) := List.getElem?_eq_getElem _
  have hb := h.2.1 _ (List.getElem_mem (by rw [h.1]; exact hk))
  exact ⟨b, off, _, rfl, hlt, hs, hc k _ hs, hb.1, hb.2⟩

theorem set_mid {α : Type} (a b : List α) (x y : α) : (a ++ x :: b).set a.length y = a ++ y :: b := by
  induction a with
  | nil => rfl
  | cons c a ih => simp [ih]


/-! ### a copy -/
def CopyPost (len : Nat) (zs : List Int) (w : World) (e : Ending) (w' : World) : Prop :=
  ∃ a cap, e = .returned (.slice a len cap) ∧ w'.ownsRow w.heap.size 3 1 (.slice a len cap) len (ints zs) ∧ Below w.heap.size w w'
theorem copy_step (l : List Int) (n k : Nat) (z : Int) (hn : l.length = n) (hs : l[k]? = some z) :
    (ints (l.take k) ++ List.replicate (n - k) (Value.int .i64 0)).set k (.int .i64 z) = ints (l.take (k + 1)) ++ List.replicate (n - (k + 1)) (Value.int .i64 0) := by
  have hk : k < l.length := by
    rcases Nat.lt_or_ge k l.length with h | h
    · exact h
    · rw [List.getElem?_eq_none h] at hs; cases hs
  have e : n - k = (n - (k + 1)) + 1 := by omega
  rw [e, List.replicate_succ]
  have h := set_mid (ints (l.take k)) (List.replicate (n - (k + 1)) (Value.int .i64 0)) (.int .i64 0) (.int .i64 z)
  rw [show (ints (l.take k)).length = k by simp [ints]; omega] at h
  rw [h, List.take_add_one, hs]
  simp [ints]



/-! ### marks -/
def marks (k n : Nat) : List Int := (List.range n).map fun i => ((k + i : Nat) : Int)
theorem marks_len (k n : Nat) : (marks k n).length = n := by simp [marks]
theorem marks_at (k n j : Nat) (h : j < n) : (marks k n)[j]? = some ((k + j : Nat) : Int) := by simp [marks, h]
theorem marks_step (l : List Int) (n k c : Nat) (hn : l.length = n) (hk : k < n) :
    (ints (marks c k ++ l.drop k)).set k (.int .i64 ((c + k : Nat) : Int)) = ints (marks c (k + 1) ++ l.drop (k + 1)) := by
  have e : marks c (k + 1) = marks c k ++ [((c + k : Nat) : Int)] := by simp [marks, List.range_succ]
  have hd : l.drop k = l[k]'(by omega) :: l.drop (k + 1) := by rw [List.drop_eq_getElem_cons (by omega)]
  have hs := set_mid (ints (marks c k)) (ints (l.drop (k + 1))) (.int .i64 (l[k]'(by omega))) (.int .i64 ((c + k : Nat) : Int))
  rw [show (ints (marks c k)).length = k by simp [ints, marks]] at hs
  rw [e, hd]
  unfold ints at hs ⊢
  rw [List.map_append, List.map_append, List.map_append, List.map_cons, hs, List.append_assoc]
  rfl

/-- Nothing that was there has changed but for the blocks from lo up to hi. -/
structure Within (lo hi : Nat) (w w' : World) : Prop where
  os : w'.os = w.os
  tape : w'.tape = w.tape
  output : w'.output = w.output
  size : w.heap.size ≤ w'.heap.size
  block : ∀ k, k < w.heap.size → k < lo ∨ hi ≤ k → w'.heap[k]? = w.heap[k]?
theorem Within.refl (lo hi : Nat) (w : World) : Within lo hi w w := ⟨rfl, rfl, rfl, Nat.le_refl _, fun _ _ _ => rfl⟩
theorem Within.trans {lo hi : Nat} {a b c : World} (h : Within lo hi a b) (k : Within lo hi b c) : Within lo hi a c :=
  ⟨k.os.trans h.os, k.tape.trans h.tape, k.output.trans h.output, Nat.le_trans h.size k.size, fun i hi ho => (k.block i (Nat.lt_of_lt_of_le hi h.size) ho).trans (h.block i hi ho)⟩
theorem Within.of_below {lo hi : Nat} {w w' : World} (h : Below w.heap.size w w') : Within lo hi w w' := ⟨h.os, h.tape, h.output, h.size, fun k hk _ => h.block k hk⟩
theorem Within.of_grown {lo hi : Nat} {w w' : World} {row : Option Nat} (h : w.grownBy w' row) (hr : ∀ k, row = some k → lo ≤ k ∧ k < hi) : Within lo hi w w' :=
  ⟨h.os, h.tape, h.output, h.size, fun k hk ho => h.block k hk (fun e => by have := hr k e.symm; omega)⟩
theorem Within.grown {lo hi : Nat} {w w' : World} (h : Within lo hi w w') {v : Value} (hv : ∀ k, v.ownBlock = some k → k < lo ∨ hi ≤ k) (hlt : ∀ k, v.ownBlock = some k → k < w.heap.size) {B : Nat} {e : TypeId} {size n : Nat} {xs : List Value} (ho : w.ownsRow B e size v n xs) : w'.ownsRow B e size v n xs := by
  obtain ⟨h1, h2 | ⟨g, cap, cur, rfl, hB, hh, rest⟩⟩ := ho
  · exact ⟨h1, .inl h2⟩
  · exact ⟨h1, .inr ⟨g, cap, cur, rfl, hB, by rw [h.block g (hlt g rfl) (hv g rfl)]; exact hh, rest⟩⟩
theorem Within.cell {lo hi : Nat} {w w' : World} (h : Within lo hi w w') {b o : Nat} (hb : b < w.heap.size) (ho : b < lo ∨ hi ≤ b) : w'.cell? ⟨b, o, none⟩ = w.cell? ⟨b, o, none⟩ := World.cell?_of_block (h.block b hb ho)
theorem Within.setCell {lo hi : Nat} {a w : World} (h : Within lo hi a w) (g : Nat) (hg : lo ≤ g ∧ g < hi) (j : Nat) (v : Value) : Within lo hi a (w.setCell ⟨g, j, none⟩ v) :=
  h.trans ⟨rfl, rfl, rfl, by simp [World.setCell], fun k _ hk => Below.heap_setCell _ _ _ _ (by show k ≠ g; omega)⟩
theorem Below.within {B lo hi : Nat} {a w w' : World} (h : Below B a w) (k : Within lo hi w w') (h1 : B ≤ lo) (h2 : B ≤ w.heap.size) : Below B a w' :=
  h.trans ⟨k.os, k.tape, k.output, k.size, fun i hi => k.block i (by omega) (.inl (by omega))⟩

/-- A row of integers of the call's own, in a block from lo up to hi. -/
def Row (w : World) (lo hi : Nat) (a : Option Addr) (n cap : Nat) (l : List Int) : Prop :=
  w.ownsRow lo 3 1 (.slice a n cap) n (ints l) ∧ (∀ k, (Value.slice a n cap).ownBlock = some k → k < hi) ∧ hi ≤ w.heap.size
theorem row_of {w' : World} {lo : Nat} {a : Option Addr} {n cap : Nat} {l : List Int} (h : w'.ownsRow lo 3 1 (.slice a n cap) n (ints l)) : Row w' lo w'.heap.size a n cap l :=
  ⟨h, fun k e => (h.lt k e).2, Nat.le_refl _⟩
theorem Row.lo {w : World} {lo hi lo' : Nat} {a : Option Addr} {n cap : Nat} {l : List Int} (h : Row w lo hi a n cap l) (hl : lo' ≤ lo) : Row w lo' hi a n cap l := ⟨own_base h.1 hl, h.2⟩
theorem Row.keep {w w' : World} {lo hi : Nat} {a : Option Addr} {n cap : Nat} {l : List Int} (h : Row w lo hi a n cap l) (hb : Below w.heap.size w w') : Row w' lo hi a n cap l :=
  ⟨own_below h.1 hb, h.2.1, Nat.le_trans h.2.2 hb.size⟩
theorem Row.within {w w' : World} {lo hi lo' hi' : Nat} {a : Option Addr} {n cap : Nat} {l : List Int} (h : Row w lo hi a n cap l) (hb : Within lo' hi' w w') (hd : hi ≤ lo' ∨ hi' ≤ lo) : Row w' lo hi a n cap l :=
  ⟨hb.grown (fun k e => by have h1 := h.2.1 k e; have h2 := (h.1.lt k e).1; omega) (fun k e => (h.1.lt k e).2) h.1, h.2.1, Nat.le_trans h.2.2 hb.size⟩
theorem Row.at {w : World} {lo hi : Nat} {a : Option Addr} {n cap : Nat} {l : List Int} (h : Row w lo hi a n cap l) (hi : AllInt l) : IntsAt w a n l := intsAt_own h.1 hi
theorem marks_int (c n : Nat) (h : c + n ≤ 9223372036854775807) : AllInt (marks c n) := by
  intro z hz
  simp only [marks, List.mem_map, List.mem_range] at hz
  obtain ⟨i, hi, rfl⟩ := hz
  omega



end Go.Proofs.YtmlhpllppgcgkaaDoor.Rhy
