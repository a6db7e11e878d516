/-
  Helpers of the claims beside this text: slices of integers and rhythms: what the laws' szIntS, toIntS, eqIntS, markIntS, heldIntS and their kin on rhythms do.
-/
import Derived.Test.YtgmhdmhnedljcaaRows
import Derived.WalkKit
import Derived.WalkSpells
import Derived.WalkLawsBesides
import Derived.WalkSmall
import Derived.Deep.QuietTactic
import Derived.BigQuiet
import Derived.OpenShut
import Derived.Lib.Hide
namespace Go.Proofs.Ytgmhdmhnedljcaa.Rhy
open Go.RowKit
set_option linter.unusedVariables false

theorem infoInt : (Try.prog.info? 3).map (fun i => (i.zero, i.size, i.bytes)) = some (some (.int .i64 0), 1, 8) := by kernel_rfl

theorem grown_of_below {w w' : World} (h : Below w.heap.size w w') (row : Option Nat) : w.grownBy w' row := ⟨h.os, h.tape, h.output, h.size, fun k hk _ => h.block k hk⟩
theorem own_below {w w' : World} {B : Nat} {e : TypeId} {size : Nat} {v : Value} {n : Nat} {xs : List Value} (h : w.ownsRow B e size v n xs) (hb : Below w.heap.size w w') : w'.ownsRow B e size v n xs := by
  cases hv : v.ownBlock with
  | none => exact h.kept (grown_of_below hb none) (.inl hv)
  | some g => exact h.kept (grown_of_below hb none) (.inr (by rw [hv]; simp))
theorem own_base {w : World} {B B' : Nat} {e : TypeId} {size : Nat} {v : Value} {n : Nat} {xs : List Value} (h : w.ownsRow B e size v n xs) (hB : B' ≤ B) : w.ownsRow B' e size v n xs := by
  obtain ⟨h1, h2 | ⟨g, cap, cur, hv, hb, rest⟩⟩ := h
  · exact ⟨h1, .inl h2⟩
  · exact ⟨h1, .inr ⟨g, cap, cur, hv, by omega, rest⟩⟩
theorem own_drewN {w : World} {B : Nat} {e : TypeId} {size : Nat} {v : Value} {n : Nat} {xs : List Value} (h : w.ownsRow B e size v n xs) (k : Nat) : (w.drewN k).ownsRow B e size v n xs :=
  own_below h (below_drewN (Below.refl _ _) k)
theorem own_cap {w : World} {B : Nat} {e : TypeId} {a : Option Addr} {cap n : Nat} {xs : List Value} (h : w.ownsRow B e 1 (.slice a n cap) n xs) : n ≤ cap := by
  obtain ⟨_, ⟨h1, h2⟩ | ⟨g, cap', cur, hv, _, _, hn, _⟩⟩ := h
  · omega
  · simp at hv
    omega

/-- The integers as the cells of a row. -/
def ints (l : List Int) : List Value := l.map (Value.int .i64)
/-- Every number is an int. -/
def AllInt (l : List Int) : Prop := ∀ z ∈ l, -9223372036854775808 ≤ z ∧ z ≤ 9223372036854775807
/-- A slice of integers as it lies in memory. -/
def IntsAt (w : World) (a : Option Addr) (len : Nat) (zs : List Int) : Prop :=
  zs.length = len ∧ AllInt zs ∧ (0 < len → ∃ b off, a = some ⟨b, off, none⟩ ∧ b < w.heap.size ∧ ∀ j z, zs[j]? = some z → w.cell? ⟨b, off + j, none⟩ = some (.int .i64 z))
theorem IntsAt.below {w w' : World} {a : Option Addr} {len : Nat} {zs : List Int} (h : IntsAt w a len zs) (hb : Below w.heap.size w w') : IntsAt w' a len zs := by
  refine ⟨h.1, h.2.1, fun hp => ?_⟩
  obtain ⟨b, off, rfl, hlt, hc⟩ := h.2.2 hp
  exact ⟨b, off, rfl, Nat.lt_of_lt_of_le hlt hb.size, fun j z hj => by rw [hb.cell (p := ⟨b, off + j, none⟩) hlt]; exact hc j z hj⟩
theorem IntsAt.int {w : World} {a : Option Addr} {len : Nat} {zs : List Int} (h : IntsAt w a len zs) : AllInt zs := h.2.1
theorem IntsAt.len {w : World} {a : Option Addr} {len : Nat} {zs : List Int} (h : IntsAt w a len zs) : zs.length = len := h.1
theorem own_shape {w : World} {B : Nat} {v : Value} {n : Nat} {l : List Int} (h : w.ownsRow B 3 1 v n (ints l)) :
    l.length = n ∧ ∃ a cap, v = .slice a n cap ∧ (0 < n → ∃ g, a = some ⟨g, 0, none⟩ ∧ B ≤ g ∧ g < w.heap.size ∧ ∀ j z, l[j]? = some z → w.cell? ⟨g, j, none⟩ = some (.int .i64 z)) := by
  have hc := @World.ownsRow.cells w B 3 1 v n (ints l) h
  have hlt := h.lt
  obtain ⟨h1, ⟨rfl, h0⟩ | ⟨g, cap, cur, rfl, hB, hg, hn, hm, hs, ht⟩⟩ := h
  · exact ⟨by simpa [ints] using h1, none, 0, by rw [h0], fun hp => by omega⟩
  · refine ⟨by simpa [ints] using h1, _, cap, rfl, fun hp => ⟨g, rfl, hB, (hlt g rfl).2, fun j z hj => ?_⟩⟩
    have := hc (g := g) rfl j (.int .i64 z) (by simp [ints, hj])
    rcases j with _ | j <;> simpa [Addr.add] using this
theorem intsAt_own {w : World} {B : Nat} {a : Option Addr} {cap n : Nat} {l : List Int} (h : w.ownsRow B 3 1 (.slice a n cap) n (ints l)) (hi : AllInt l) : IntsAt w a n l := by
  obtain ⟨hl, a', cap', hv, hc⟩ := own_shape h
  simp at hv
  obtain ⟨rfl, rfl⟩ := hv
  refine ⟨hl, hi, fun hp => ?_⟩
  obtain ⟨g, rfl, _, hlt, hcell⟩ := hc hp
  exact ⟨g, 0, rfl, hlt, fun j z hj => by simpa using hcell j z hj⟩
theorem IntsAt.at {w : World} {a : Option Addr} {len : Nat} {zs : List Int} (h : IntsAt w a len zs) {k : Nat} (hk : k < len) :
    ∃ b off z, a = some ⟨b, off, none⟩ ∧ b < w.heap.size ∧ zs[k]? = some z ∧ w.cell? ⟨b, off + k, none⟩ = some (.int .i64 z) ∧ -9223372036854775808 ≤ z ∧ z ≤ 9223372036854775807 := by
  obtain ⟨b, off, rfl, hlt, hc⟩ := h.2.2 (by omega)
  have hs : zs[k]? = some (zs[k]'(by rw [h.1]; exact hk)) := List.getElem?_eq_getElem _
  have hb := h.2.1 _ (List.getElem_mem (by rw [h.1]; exact hk))
  exact ⟨b, off, _, rfl, hlt, hs, hc k _ hs, hb.1, hb.2⟩

theorem set_mid {α : Type} (a b : List α) (x y : α) : (a ++ x :: b).set a.length y = a ++ y :: b := by
  induction a with
  | nil => rfl
  | cons c a ih => simp [ih]

/-! ### the measure -/
theorem size_ints (a : Option Addr) (len cap : Nat) (w : World) (hm : len ≤ 9223372036854775807) :
    Calls Try.prog 20 #[.slice a len cap, .int .i64 1048576] w fun e w' => (∃ r : Int, e = .returned (.int .i64 r) ∧ ((r < 0 ∧ 1048576 < len) ∨ (0 ≤ r ∧ len ≤ 1048576)) ∧ -9223372036854775808 ≤ r ∧ r ≤ 9223372036854775807) ∧ w = w' := by
  by_cases hl : 1048576 < len
  · go_enter Try.func20, Try.ntmps20
    go_wp2
    go_ret
    exact ⟨⟨-1, rfl, .inl ⟨by omega, hl⟩, by omega, by omega⟩, rfl⟩
  · go_enter Try.func20, Try.ntmps20
    go_wp2
    go_ret
    exact ⟨⟨_, rfl, .inr ⟨by omega, by omega⟩, by omega, by omega⟩, rfl⟩

/-! ### a copy -/
def CopyPost (len : Nat) (zs : List Int) (w : World) (e : Ending) (w' : World) : Prop :=
  ∃ a cap, e = .returned (.slice a len cap) ∧ w'.ownsRow w.heap.size 3 1 (.slice a len cap) len (ints zs) ∧ Below w.heap.size w w'
theorem copy_step (l : List Int) (n k : Nat) (z : Int) (hn : l.length = n) (hs : l[k]? = some z) :
    (ints (l.take k) ++ List.replicate (n - k) (Value.int .i64 0)).set k (.int .i64 z) = ints (l.take (k + 1)) ++ List.replicate (n - (k + 1)) (Value.int .i64 0) := by
  have hk : k < l.length := by
    rcases Nat.lt_or_ge k l.length with h | h
    · exact h
    · rw [List.getElem?_eq_none h] at hs; cases hs
  have e : n - k = (n - (k + 1)) + 1 := by omega
  rw [e, List.replicate_succ]
  have h := set_mid (ints (l.take k)) (List.replicate (n - (k + 1)) (Value.int .i64 0)) (.int .i64 0) (.int .i64 z)
  rw [show (ints (l.take k)).length = k by simp [ints]; omega] at h
  rw [h, List.take_add_one, hs]
  simp [ints]

theorem copy_ints (a : Option Addr) (len cap : Nat) (zs : List Int) (w : World) (h : IntsAt w a len zs) (hm : len ≤ 1048576) :
    Calls Try.prog 23 #[.slice a len cap] w (CopyPost len zs w) := by
  have HS := Lib.hid h
  clear h
  obtain ⟨i0, hi, hz0, hz1, hz2⟩ := info_parts infoInt
  have HI := Lib.hid (show _ ∧ _ ∧ _ ∧ _ from ⟨hi, hz0, hz1, hz2⟩)
  clear hi hz0 hz1 hz2
  go_enter Try.func23, Try.ntmps23
  go_wp2_with (at_make; refine wpList_make_full _ rfl _ _ 22 rfl w.heap.size 3 i0 (.int .i64 0) 1 Try.underlying22 HI.out.1 HI.out.2.1 HI.out.2.2.1 .i64 .i64 len len len rfl rfl rfl rfl ?b2 ?b3 ?b4 ?_)
  case b2 => rw [HI.out.2.2.2]; omega
  case b3 => unfold maxLen; omega
  case b4 => exact Nat.le_refl _
  intro w1 hown hgrow
  have HO := Lib.hid hown
  have HG : Hid (Below w.heap.size w w1) := Lib.hid ((Below.refl w.heap.size w).grown hgrow (Nat.le_refl _) (by intro k hk; cases hk))
  clear hown hgrow
  obtain ⟨g, hg⟩ : ∃ g, g = w.heap.size := ⟨_, rfl⟩
  have HGE := Lib.hid hg
  rw [← hg]
  rw [← hg] at HO HG
  clear hg
  go_wp2
  go_loopw [4] (fun i wr => ∃ k : Nat, k ≤ len ∧ i = .int .i64 k ∧ wr.ownsRow g 3 1 (.slice (some ⟨g, 0, none⟩) len len) len (ints (zs.take k) ++ List.replicate (len - k) (Value.int .i64 0)) ∧ Below g w wr) (fun i _ => len - (intOf i).toNat)
  case atStart => exact ⟨0, by omega, rfl, by have := HO.out; rw [toList_madeCells_one] at this; simpa [ints] using this, HG.out⟩
  case round =>
    obtain ⟨k, hk, rfl, hown, hnx⟩ := hrel
    have HR := Lib.hid hown
    have HX := Lib.hid hnx
    clear hown hnx
    by_cases hlt : k < len
    · obtain ⟨b, off, z, rfl, hb, hs, hc, _, _⟩ := HS.out.at hlt
      have hcell : wr.cell? ⟨b, off + k, none⟩ = some (.int .i64 z) := by rw [HX.out.cell (p := ⟨b, off + k, none⟩) (by rw [HGE.out]; exact hb)]; exact hc
      have hfz := HR.out.frozenAt k
      obtain ⟨old, hold⟩ : ∃ v, wr.cell? ⟨g, k, none⟩ = some v := by
        rw [HR.out.cellAt k (by omega)]
        exact ⟨_, List.getElem?_eq_getElem (by have := HR.out.1; omega)⟩
      have HC := Lib.hid (copy_step zs len k z HS.out.1 hs)
      clear hc hs
      go_wp2
      go_roundw
      case rel =>
        have hst := HR.out.stored k (.int .i64 z)
        rw [HC.out] at hst
        exact ⟨k + 1, by omega, by go_num, hst.1, HX.out.setCell (Nat.le_refl _) _⟩
      case measure => simp [intOf]; omega
    · go_wp2
      go_ret
      have e : k = len := by omega
      subst e
      refine ⟨_, _, rfl, ?_, by rw [← HGE.out]; exact HX.out⟩
      have := HR.out
      rw [List.take_of_length_le (by rw [HS.out.1]; exact Nat.le_refl _), Nat.sub_self] at this
      rw [← HGE.out]
      simpa using this

/-! ### two equal slices -/
theorem eq_ints (a b : Option Addr) (capa capb n : Nat) (l : List Int) (w : World) (ha : IntsAt w a n l) (hb : IntsAt w b n l) (hl : n ≤ 1073741824) :
    Calls Try.prog 26 #[.slice a n capa, .slice b n capb] w fun e w' => e = .returned (.bool true) ∧ Below w.heap.size w w' := by
  have FA := Lib.hid ha
  have FB := Lib.hid hb
  clear ha hb
  go_enter Try.func26, Try.ntmps26
  go_wp2
  go_loopw [5] (fun i wr => ∃ k : Nat, k ≤ n ∧ i = .int .i64 k ∧ Below w.heap.size w wr) (fun i _ => n - (intOf i).toNat)
  case atStart => exact ⟨0, by omega, rfl, Below.refl _ _⟩
  case round =>
    obtain ⟨k, hk, rfl, hnx⟩ := hrel
    by_cases hlt : k < n
    · obtain ⟨ga, oa, z, rfl, la, hza, ca, _, _⟩ := FA.out.at hlt
      obtain ⟨gb, ob, z', rfl, lb, hzb, cb, _, _⟩ := FB.out.at hlt
      rw [hza] at hzb
      obtain rfl : z = z' := Option.some.inj hzb
      have c1 : wr.cell? ⟨ga, oa + k, none⟩ = some (.int .i64 z) := by rw [hnx.cell (p := ⟨ga, oa + k, none⟩) la]; exact ca
      have c2 : wr.cell? ⟨gb, ob + k, none⟩ = some (.int .i64 z) := by rw [hnx.cell (p := ⟨gb, ob + k, none⟩) lb]; exact cb
      have HX := Lib.hid hnx
      clear ca cb hnx hza hzb
      go_wp2
      go_quiet (fail)
      go_wp2
      go_roundw
      case rel => exact ⟨k + 1, by omega, by go_num, below_drewN HX.out _⟩
      case measure => simp [intOf]; omega
    · go_wp2
      go_ret
      exact ⟨rfl, hnx⟩

/-! ### marks -/
def marks (k n : Nat) : List Int := (List.range n).map fun i => ((k + i : Nat) : Int)
theorem marks_len (k n : Nat) : (marks k n).length = n := by simp [marks]
theorem marks_at (k n j : Nat) (h : j < n) : (marks k n)[j]? = some ((k + j : Nat) : Int) := by simp [marks, h]
theorem marks_step (l : List Int) (n k c : Nat) (hn : l.length = n) (hk : k < n) :
    (ints (marks c k ++ l.drop k)).set k (.int .i64 ((c + k : Nat) : Int)) = ints (marks c (k + 1) ++ l.drop (k + 1)) := by
  have e : marks c (k + 1) = marks c k ++ [((c + k : Nat) : Int)] := by simp [marks, List.range_succ]
  have hd : l.drop k = l[k]'(by omega) :: l.drop (k + 1) := by rw [List.drop_eq_getElem_cons (by omega)]
  have hs := set_mid (ints (marks c k)) (ints (l.drop (k + 1))) (.int .i64 (l[k]'(by omega))) (.int .i64 ((c + k : Nat) : Int))
  rw [show (ints (marks c k)).length = k by simp [ints, marks]] at hs
  rw [e, hd]
  unfold ints at hs ⊢
  rw [List.map_append, List.map_append, List.map_append, List.map_cons, hs, List.append_assoc]
  rfl

/-- Nothing that was there has changed but for the blocks from lo up to hi. -/
structure Within (lo hi : Nat) (w w' : World) : Prop where
  os : w'.os = w.os
  tape : w'.tape = w.tape
  output : w'.output = w.output
  size : w.heap.size ≤ w'.heap.size
  block : ∀ k, k < w.heap.size → k < lo ∨ hi ≤ k → w'.heap[k]? = w.heap[k]?
theorem Within.refl (lo hi : Nat) (w : World) : Within lo hi w w := ⟨rfl, rfl, rfl, Nat.le_refl _, fun _ _ _ => rfl⟩
theorem Within.trans {lo hi : Nat} {a b c : World} (h : Within lo hi a b) (k : Within lo hi b c) : Within lo hi a c :=
  ⟨k.os.trans h.os, k.tape.trans h.tape, k.output.trans h.output, Nat.le_trans h.size k.size, fun i hi ho => (k.block i (Nat.lt_of_lt_of_le hi h.size) ho).trans (h.block i hi ho)⟩
theorem Within.of_below {lo hi : Nat} {w w' : World} (h : Below w.heap.size w w') : Within lo hi w w' := ⟨h.os, h.tape, h.output, h.size, fun k hk _ => h.block k hk⟩
theorem Within.of_grown {lo hi : Nat} {w w' : World} {row : Option Nat} (h : w.grownBy w' row) (hr : ∀ k, row = some k → lo ≤ k ∧ k < hi) : Within lo hi w w' :=
  ⟨h.os, h.tape, h.output, h.size, fun k hk ho => h.block k hk (fun e => by have := hr k e.symm; omega)⟩
theorem Within.grown {lo hi : Nat} {w w' : World} (h : Within lo hi w w') {v : Value} (hv : ∀ k, v.ownBlock = some k → k < lo ∨ hi ≤ k) (hlt : ∀ k, v.ownBlock = some k → k < w.heap.size) {B : Nat} {e : TypeId} {size n : Nat} {xs : List Value} (ho : w.ownsRow B e size v n xs) : w'.ownsRow B e size v n xs := by
  obtain ⟨h1, h2 | ⟨g, cap, cur, rfl, hB, hh, rest⟩⟩ := ho
  · exact ⟨h1, .inl h2⟩
  · exact ⟨h1, .inr ⟨g, cap, cur, rfl, hB, by rw [h.block g (hlt g rfl) (hv g rfl)]; exact hh, rest⟩⟩
theorem Within.cell {lo hi : Nat} {w w' : World} (h : Within lo hi w w') {b o : Nat} (hb : b < w.heap.size) (ho : b < lo ∨ hi ≤ b) : w'.cell? ⟨b, o, none⟩ = w.cell? ⟨b, o, none⟩ := World.cell?_of_block (h.block b hb ho)
theorem Within.setCell {lo hi : Nat} {a w : World} (h : Within lo hi a w) (g : Nat) (hg : lo ≤ g ∧ g < hi) (j : Nat) (v : Value) : Within lo hi a (w.setCell ⟨g, j, none⟩ v) :=
  h.trans ⟨rfl, rfl, rfl, by simp [World.setCell], fun k _ hk => Below.heap_setCell _ _ _ _ (by show k ≠ g; omega)⟩
theorem Below.within {B lo hi : Nat} {a w w' : World} (h : Below B a w) (k : Within lo hi w w') (h1 : B ≤ lo) (h2 : B ≤ w.heap.size) : Below B a w' :=
  h.trans ⟨k.os, k.tape, k.output, k.size, fun i hi => k.block i (by omega) (.inl (by omega))⟩

/-- A row of integers of the call's own, in a block from lo up to hi. -/
def Row (w : World) (lo hi : Nat) (a : Option Addr) (n cap : Nat) (l : List Int) : Prop :=
  w.ownsRow lo 3 1 (.slice a n cap) n (ints l) ∧ (∀ k, (Value.slice a n cap).ownBlock = some k → k < hi) ∧ hi ≤ w.heap.size
theorem row_of {w' : World} {lo : Nat} {a : Option Addr} {n cap : Nat} {l : List Int} (h : w'.ownsRow lo 3 1 (.slice a n cap) n (ints l)) : Row w' lo w'.heap.size a n cap l :=
  ⟨h, fun k e => (h.lt k e).2, Nat.le_refl _⟩
theorem Row.lo {w : World} {lo hi lo' : Nat} {a : Option Addr} {n cap : Nat} {l : List Int} (h : Row w lo hi a n cap l) (hl : lo' ≤ lo) : Row w lo' hi a n cap l := ⟨own_base h.1 hl, h.2⟩
theorem Row.keep {w w' : World} {lo hi : Nat} {a : Option Addr} {n cap : Nat} {l : List Int} (h : Row w lo hi a n cap l) (hb : Below w.heap.size w w') : Row w' lo hi a n cap l :=
  ⟨own_below h.1 hb, h.2.1, Nat.le_trans h.2.2 hb.size⟩
theorem Row.within {w w' : World} {lo hi lo' hi' : Nat} {a : Option Addr} {n cap : Nat} {l : List Int} (h : Row w lo hi a n cap l) (hb : Within lo' hi' w w') (hd : hi ≤ lo' ∨ hi' ≤ lo) : Row w' lo hi a n cap l :=
  ⟨hb.grown (fun k e => by have h1 := h.2.1 k e; have h2 := (h.1.lt k e).1; omega) (fun k e => (h.1.lt k e).2) h.1, h.2.1, Nat.le_trans h.2.2 hb.size⟩
theorem Row.at {w : World} {lo hi : Nat} {a : Option Addr} {n cap : Nat} {l : List Int} (h : Row w lo hi a n cap l) (hi : AllInt l) : IntsAt w a n l := intsAt_own h.1 hi
theorem marks_int (c n : Nat) (h : c + n ≤ 9223372036854775807) : AllInt (marks c n) := by
  intro z hz
  simp only [marks, List.mem_map, List.mem_range] at hz
  obtain ⟨i, hi, rfl⟩ := hz
  omega

theorem mark_ints (lo hi c : Nat) (a : Option Addr) (cap n : Nat) (l : List Int) (w : World) (ha : Row w lo hi a n cap l) (hl : n ≤ 1073741000) (hc : c ≤ 1073741000) :
    Calls Try.prog 27 #[.slice a n cap, .int .i64 c] w fun e w' => e = .returned (.int .i64 ((c : Int) + n)) ∧ Row w' lo hi a n cap (marks c n) ∧ Within lo hi w w' := by
  have hlen : l.length = n := (own_shape ha.1).1
  have HA := Lib.hid ha
  have HL := Lib.hid hlen
  clear ha hlen
  go_enter Try.func27, Try.ntmps27
  go_wp2
  go_loopw [5, 1] (fun i q wr => ∃ k : Nat, k ≤ n ∧ i = .int .i64 k ∧ q = .int .i64 ((c : Int) + k) ∧ wr.ownsRow lo 3 1 (.slice a n cap) n (ints (marks c k ++ l.drop k)) ∧ Within lo hi w wr) (fun i _ _ => n - (intOf i).toNat)
  case atStart => exact ⟨0, by omega, rfl, by simp, by simpa [marks] using HA.out.1, Within.refl _ _ _⟩
  case round =>
    obtain ⟨k, hk, rfl, rfl, hown, hnx⟩ := hrel
    have HO := Lib.hid hown
    have HX := Lib.hid hnx
    clear hown hnx
    by_cases hlt : k < n
    · obtain ⟨_, a', cap', hv, hg⟩ := own_shape HO.out
      obtain ⟨g, rfl, hBg, hgs, hcell⟩ := hg (by omega)
      obtain ⟨rfl, rfl⟩ : a = some ⟨g, 0, none⟩ ∧ cap = cap' := by simpa using hv
      clear hv
      obtain ⟨z, hz⟩ : ∃ z, (marks c k ++ l.drop k)[k]? = some z := ⟨_, List.getElem?_eq_getElem (by have := HL.out; simp [marks]; omega)⟩
      have hc1 := hcell k z hz
      have hf1 := HO.out.frozenAt k
      have hgh := HA.out.2.1 g rfl
      clear hz hcell
      go_wp2
      go_roundw
      case rel =>
        have hst := HO.out.stored k (.int .i64 ((c + k : Nat) : Int))
        rw [marks_step l n k c HL.out hlt] at hst
        exact ⟨k + 1, by omega, by go_num, by go_num, by simpa using hst.1, HX.out.setCell g ⟨hBg, hgh⟩ _ _⟩
      case measure => simp [intOf]; omega
    · go_wp2
      go_ret
      have e : k = n := by omega
      subst e
      exact ⟨rfl, ⟨by have := HO.out; rw [List.drop_of_length_le (by rw [HL.out]; exact Nat.le_refl _), List.append_nil] at this; exact this, HA.out.2.1, Nat.le_trans HA.out.2.2 HX.out.size⟩, HX.out⟩

theorem held_ints (c : Nat) (a : Option Addr) (cap n : Nat) (w : World) (ha : IntsAt w a n (marks c n)) (hl : n ≤ 1073741000) (hc : c ≤ 1073741000) :
    Calls Try.prog 28 #[.slice a n cap, .int .i64 c] w fun e w' => e = .returned (.int .i64 ((c : Int) + n)) ∧ Below w.heap.size w w' := by
  have FA := Lib.hid ha
  clear ha
  go_enter Try.func28, Try.ntmps28
  go_wp2
  go_loopw [5, 1] (fun i q wr => ∃ k : Nat, k ≤ n ∧ i = .int .i64 k ∧ q = .int .i64 ((c : Int) + k) ∧ Below w.heap.size w wr) (fun i _ _ => n - (intOf i).toNat)
  case atStart => exact ⟨0, by omega, rfl, by simp, Below.refl _ _⟩
  case round =>
    obtain ⟨k, hk, rfl, rfl, hnx⟩ := hrel
    by_cases hlt : k < n
    · obtain ⟨ga, oa, z, rfl, la, hza, ca, _, _⟩ := FA.out.at hlt
      rw [marks_at c n k hlt] at hza
      obtain rfl := Option.some.inj hza
      have c1 : wr.cell? ⟨ga, oa + k, none⟩ = some (.int .i64 ((c : Int) + k)) := by rw [hnx.cell (p := ⟨ga, oa + k, none⟩) la, ca]; simp
      have HX := Lib.hid hnx
      clear ca hnx hza
      go_wp2
      go_roundw
      case rel => exact ⟨k + 1, by omega, by go_num, by go_num, HX.out⟩
      case measure => simp [intOf]; omega
    · go_wp2
      go_ret
      have e : k = n := by omega
      subst e
      exact ⟨rfl, hnx⟩
end Go.Proofs.Ytgmhdmhnedljcaa.Rhy
