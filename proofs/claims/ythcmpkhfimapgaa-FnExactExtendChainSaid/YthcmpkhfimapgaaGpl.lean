/-
  Helpers of the claims beside this text: the program's links: their blocks, leadTo, opened.
-/
import Derived.Test.YthcmpkhfimapgaaOk
import Derived.Test.YthcmpkhfimapgaaFma
import Derived.Test.YthcmpkhfimapgaaOut
import Derived.Test.YthcmpkhfimapgaaItm
import Derived.Test.YthcmpkhfimapgaaGnf
namespace Go.Proofs.Ythcmpkhfimapgaa.Rhy
open Go.RowKit
set_option linter.unusedVariables false
set_option linter.unusedSimpArgs false

/-- A link in block b: its beat, what is before it, what is after it. -/
def Lnk (w : World) (b : Nat) (z : Int) (p q : Option Addr) : Prop := w.heap[b]? = some (.cells #[.int .i64 z, .pointer p, .pointer q] 82 (0, 0))
theorem Lnk.lt {w : World} {b : Nat} {z : Int} {p q : Option Addr} (h : Lnk w b z p q) : b < w.heap.size := by
  rcases Nat.lt_or_ge b w.heap.size with h' | h'
  · exact h'
  · unfold Lnk at h
    rw [Array.getElem?_eq_none h'] at h
    cases h
theorem Lnk.facts {w : World} {b : Nat} {z : Int} {p q : Option Addr} (h : Lnk w b z p q) :
    (w.cell? ⟨b, 0, none⟩ = some (.int .i64 z) ∧ w.cell? ⟨b, 1, none⟩ = some (.pointer p) ∧ w.cell? ⟨b, 2, none⟩ = some (.pointer q)) ∧
      w.frozen? ⟨b, 0, none⟩ = false ∧ w.frozen? ⟨b, 1, none⟩ = false ∧ w.frozen? ⟨b, 2, none⟩ = false := by
  unfold Lnk at h
  refine ⟨⟨?_, ?_, ?_⟩, ?_, ?_, ?_⟩ <;> simp [World.cell?, World.frozen?, h]
theorem lnk_new (w : World) (z : Int) (p q : Option Addr) : Lnk (w.alloc (.cells #[.int .i64 z, .pointer p, .pointer q] 82)) w.heap.size z p q := heap_alloc_new w _
theorem Lnk.keep {w w' : World} {b B : Nat} {z : Int} {p q : Option Addr} (h : Lnk w b z p q) (hb : Below B w w') (hB : b < B) : Lnk w' b z p q := by
  unfold Lnk
  rw [hb.block b hB]
  exact h
theorem Lnk.same {w w' : World} {b : Nat} {z : Int} {p q : Option Addr} (h : Lnk w b z p q) (hb : w'.heap[b]? = w.heap[b]?) : Lnk w' b z p q := by
  unfold Lnk
  rw [hb]
  exact h
theorem Lnk.set1 {w : World} {b : Nat} {z : Int} {p q : Option Addr} (h : Lnk w b z p q) (r : Option Addr) : Lnk (w.setCell ⟨b, 1, none⟩ (.pointer r)) b z r q := heap_setCell_same w b 1 _ _ _ h
theorem Lnk.set2 {w : World} {b : Nat} {z : Int} {p q : Option Addr} (h : Lnk w b z p q) (r : Option Addr) : Lnk (w.setCell ⟨b, 2, none⟩ (.pointer r)) b z p r := heap_setCell_same w b 2 _ _ _ h
theorem Lnk.other {w : World} {b c o : Nat} {z : Int} {p q : Option Addr} (h : Lnk w b z p q) (v : Value) (hc : c ≠ b) : Lnk (w.setCell ⟨c, o, none⟩ v) b z p q := by
  unfold Lnk
  rw [Below.heap_setCell _ _ _ _ (by show b ≠ c; omega)]
  exact h

theorem lead_nil (b : Nat) (w : World) :
    Calls Try.prog 123 #[.pointer (some ⟨b, 0, none⟩), .pointer none] w fun e w' => e = .returned (.tuple #[]) ∧ w = w' := by
  go_enter Try.func123, Try.ntmps123
  go_wp2
  go_end0
  exact ⟨rfl, rfl⟩
theorem lead_next (b c : Nat) (z z' : Int) (p q p' q' : Option Addr) (w : World) (h : Lnk w b z p q) (h' : Lnk w c z' p' q') (hbc : c ≠ b) :
    Calls Try.prog 123 #[.pointer (some ⟨b, 0, none⟩), .pointer (some ⟨c, 0, none⟩)] w
      fun e w' => e = .returned (.tuple #[]) ∧ w' = (w.setCell ⟨b, 2, none⟩ (.pointer (some ⟨c, 0, none⟩))).setCell ⟨c, 1, none⟩ (.pointer (some ⟨b, 0, none⟩)) := by
  have H := Lib.hid h
  have H' := Lib.hid h'
  obtain ⟨⟨_, _, c2⟩, _, _, f2⟩ := h.facts
  obtain ⟨⟨_, d1, _⟩, _, e1, _⟩ := (h'.other (o := 2) (.pointer (some ⟨c, 0, none⟩)) (show b ≠ c by omega)).facts
  clear h h'
  go_enter Try.func123, Try.ntmps123
  go_wp2
  go_end0
  exact ⟨rfl, rfl⟩
theorem opened_any (b c : Nat) (z z' : Int) (q p' q' : Option Addr) (w : World) (h : Lnk w b z (some ⟨c, 0, none⟩) q) (h' : Lnk w c z' p' q') (hbc : c ≠ b) :
    Calls Try.prog 107 #[.pointer (some ⟨b, 0, none⟩)] w
      fun e w' => e = .returned (.pointer (some ⟨b, 0, none⟩)) ∧ w' = (w.setCell ⟨c, 2, none⟩ (.pointer none)).setCell ⟨b, 1, none⟩ (.pointer none) := by
  have H := Lib.hid h
  have H' := Lib.hid h'
  obtain ⟨⟨_, c1, _⟩, _, _, _⟩ := h.facts
  obtain ⟨⟨_, _, d2⟩, _, _, e2⟩ := h'.facts
  obtain ⟨⟨_, c1', _⟩, _, f1', _⟩ := (h.other (o := 2) (.pointer none) hbc).facts
  clear h h'
  go_enter Try.func107, Try.ntmps107
  go_wp2
  go_ret
  exact ⟨rfl, rfl⟩
end Go.Proofs.Ythcmpkhfimapgaa.Rhy

/-
  Helpers of the claims beside this text: the program's links of a rhythm: links.
-/
namespace Go.Proofs.Ythcmpkhfimapgaa.Rhy
open Go.RowKit
set_option linter.unusedVariables false
set_option linter.unusedSimpArgs false

/-- The link of a pulse, if there is one. -/
def lkO (B : Int → Nat) (T : List Int) (x : Int) : Option Addr := if x ∈ T then some ⟨B x, 0, none⟩ else none
theorem lkO_yes {B : Int → Nat} {T : List Int} {x : Int} (h : x ∈ T) : lkO B T x = some ⟨B x, 0, none⟩ := if_pos h
theorem lkO_no {B : Int → Nat} {T : List Int} {x : Int} (h : x ∉ T) : lkO B T x = none := if_neg h
def lkR (B : Int → Nat) (T : List Int) : List Value := T.map fun z => .pointer (some ⟨B z, 0, none⟩)
def opV (B : Int → Nat) (T : List Int) : Array Value := ((List.range 24).map fun (p : Nat) => Value.pointer (lkO B T (p : Int))).toArray
def updB (B : Int → Nat) (z : Int) (b : Nat) : Int → Nat := fun x => if x = z then b else B x
theorem updB_same (B : Int → Nat) (z : Int) (b : Nat) : updB B z b z = b := if_pos rfl
theorem updB_other {B : Int → Nat} {z x : Int} (b : Nat) (h : x ≠ z) : updB B z b x = B x := if_neg h
theorem opV_size (B : Int → Nat) (T : List Int) : (opV B T).size = 24 := by simp [opV]
theorem opV_at {B : Int → Nat} {T : List Int} {p : Nat} (h : p < 24) : (opV B T)[p]? = some (.pointer (lkO B T (p : Int))) := by simp [opV, h]
theorem opV_zero (B : Int → Nat) : (#[.pointer none, .pointer none, .pointer none, .pointer none, .pointer none, .pointer none, .pointer none, .pointer none, .pointer none, .pointer none, .pointer none, .pointer none, .pointer none, .pointer none, .pointer none, .pointer none, .pointer none, .pointer none, .pointer none, .pointer none, .pointer none, .pointer none, .pointer none, .pointer none] : Array Value) = opV B [] := rfl
theorem opV_set {B : Int → Nat} {T : List Int} {z b : Nat} (hz : z < 24) : (opV B T).setIfInBounds z (.pointer (some ⟨b, 0, none⟩)) = opV (updB B z b) (T ++ [(z : Int)]) := by
  apply Array.ext_getElem?
  intro p
  rw [Array.getElem?_setIfInBounds, opV_size]
  by_cases hp : p < 24
  · rw [opV_at hp, opV_at hp]
    by_cases he : z = p
    · subst he
      rw [if_pos rfl, if_pos hz, lkO_yes (by simp), updB_same]
    · rw [if_neg he]
      by_cases hm : (p : Int) ∈ T
      · rw [lkO_yes hm, lkO_yes (by simp [hm]), updB_other _ (by omega)]
      · rw [lkO_no hm, lkO_no (by simp only [List.mem_append, List.mem_singleton]; rintro (q | q); exact hm q; omega)]
  · rw [Array.getElem?_eq_none (by rw [opV_size]; omega), Array.getElem?_eq_none (by rw [opV_size]; omega)]
    by_cases he : z = p
    · omega
    · rw [if_neg he]
theorem lkR_snoc {B : Int → Nat} {T : List Int} {z : Int} {b : Nat} (h : z ∉ T) : lkR B T ++ [.pointer (some ⟨b, 0, none⟩)] = lkR (updB B z b) (T ++ [z]) := by
  unfold lkR
  rw [List.map_append, List.map_singleton, updB_same]
  congr 1
  refine List.map_congr_left fun x hx => ?_
  have hne : x ≠ z := by rintro rfl; exact h hx
  rw [updB_other _ hne]
theorem infoLnk : (Try.prog.info? 79).map (fun i => (i.zero, i.size, i.bytes)) = some (some (.pointer none), 1, 8) := by kernel_rfl
/-- 'links = append(links, p)' at a slice of the call's own. -/
theorem append_lnk {ops : Array Oper} {rest : List Oper} {o : Oper} {a : Act} {Q : Exit → Act → World → Prop} (hgd : o.guard = none) (x y : Operand)
    (ho : o.op = .call { callee := .builtin .append, args := #[x, y], argTypes := #[99, 99] })
    (B : Nat) (v : Value) (xs : List Value) (n : Nat) (t : Option Addr) (w0 : World) (hown : w0.ownsRow B 79 1 v n xs) (hl : n ≤ 1000) (hB : B ≤ w0.heap.size) (N : Nat) (hN : N = w0.heap.size)
    (hs : a.eval x = v) (hx : a.eval y = .slice (some ⟨N, 0, none⟩) 1 1)
    (h : ∀ a' c' w', w'.ownsRow B 79 1 (.slice a' (n + 1) c') (n + 1) (xs ++ [.pointer t]) → w0.heap.size ≤ w'.heap.size → (∀ k, k < w0.heap.size → some k ≠ v.ownBlock → w'.heap[k]? = w0.heap[k]?) → Below B w0 w' → wpList Try.prog ops Q rest (a.put o.dst (.slice a' (n + 1) c')) w') :
    wpList Try.prog ops Q (o :: rest) a (w0.alloc (.cells #[.pointer t] 79)) := by
  obtain ⟨i0, hi, hz0, hz1, hz2⟩ := info_parts' infoLnk
  subst hN
  have hsz : (w0.alloc (.cells #[.pointer t] 79)).heap.size = w0.heap.size + 1 := by simp
  refine wpList_append_own _ hgd x y 99 ho B 79 i0 (.pointer none) 1 8 Try.underlying99 hi hz0 hz1 hz2 rfl (by decide) v n xs hs (hown.alloc _) ⟨w0.heap.size, 0, none⟩ 1 1 [.pointer t] hx rfl (cell_one_new _ _ _) ?_ ?_ ?_ ?_ ?_
  · intro u hu
    simp at hu
    subst hu
    rfl
  · unfold maxLen; omega
  · omega
  · rw [hsz]; omega
  · intro v' w' ho' hg _
    obtain ⟨hlen, hs' | ⟨g, cap, cur, rfl, hrest⟩⟩ := ho'
    · exact absurd hs'.2 (by omega)
    · refine h (some ⟨g, 0, none⟩) cap w' ⟨hlen, .inr ⟨g, cap, cur, rfl, hrest⟩⟩ ?_ ?_ ?_
      · have := hg.size; rw [hsz] at this; omega
      · intro k hk hne
        rw [hg.block k (by omega) hne]
        exact heap_alloc_old _ _ hk
      · exact ((Below.refl B w0).alloc hB _).grown hg (by rw [hsz]; omega) fun k hk => (hown.lt k hk).1

theorem own_not_lnk {w : World} {B n b : Nat} {v : Value} {xs : List Value} {z : Int} {p q : Option Addr} (h : w.ownsRow B 79 1 v n xs) (hl : Lnk w b z p q) : some b ≠ v.ownBlock := by
  obtain ⟨_, ⟨rfl, _⟩ | ⟨g, cap, cur, rfl, hB, hg, _⟩⟩ := h
  · intro e; cases e
  · intro e
    have e2 : b = g := by injection e
    subst e2
    have := hg.symm.trans hl
    simp at this
theorem lnk_inj {w : World} {b : Nat} {z z' : Int} {p q p' q' : Option Addr} (h : Lnk w b z p q) (h' : Lnk w b z' p' q') : z = z' := by
  have := h.symm.trans h'
  simp at this
  exact this.1
theorem two_below {w w' : World} {b B : Nat} {v0 v1 : Value} (h : Two w b v0 v1) (hb : Below B w w') (hB : b < B) : Two w' b v0 v1 :=
  ⟨Nat.lt_of_lt_of_le h.1 hb.size, by rw [hb.cell (p := ⟨b, 0, none⟩) hB]; exact h.2.1, by rw [hb.cell (p := ⟨b, 1, none⟩) hB]; exact h.2.2⟩
theorem own_setCell {w : World} {base b o n : Nat} {e : TypeId} {size : Nat} {v : Value} {xs : List Value} (h : w.ownsRow base e size v n xs) (hne : some b ≠ v.ownBlock) (u : Value) : (w.setCell ⟨b, o, none⟩ u).ownsRow base e size v n xs := by
  obtain ⟨h1, h2 | ⟨g, cap, cur, rfl, hB, hg, rest⟩⟩ := h
  · exact ⟨h1, .inl h2⟩
  · refine ⟨h1, .inr ⟨g, cap, cur, rfl, hB, ?_, rest⟩⟩
    rw [heap_setCell_other _ _ _ _ (show g ≠ b from fun e => hne (by rw [e]; rfl))]
    exact hg

/-- Behind the links of the beats T: each has its beat. -/
def Lk1 (s : Int) (a : Option Addr) (len cap : Nat) (B : Int → Nat) (T : List Int) (w wr : World) (v : Value) : Prop :=
  ∃ av cv, v = .slice av T.length cv ∧ wr.ownsRow (w.heap.size + 2) 79 1 (.slice av T.length cv) T.length (lkR B T) ∧ wr.heap[w.heap.size + 1]? = some (.cells (opV B T) 110 (0, 0)) ∧
    (∀ z ∈ T, w.heap.size + 2 ≤ B z ∧ Lnk wr (B z) z none none) ∧ Two wr w.heap.size (.int .i64 s) (.slice a len cap) ∧ Below w.heap.size w wr ∧ w.heap.size + 2 ≤ wr.heap.size
theorem lk1_start (s : Int) (a : Option Addr) (len cap : Nat) (B : Int → Nat) (w : World) :
    Lk1 s a len cap B [] w ((w.alloc (.cells #[.int .i64 s, .slice a len cap] 26)).alloc (.cells #[.pointer none, .pointer none, .pointer none, .pointer none, .pointer none, .pointer none, .pointer none, .pointer none, .pointer none, .pointer none, .pointer none, .pointer none, .pointer none, .pointer none, .pointer none, .pointer none, .pointer none, .pointer none, .pointer none, .pointer none, .pointer none, .pointer none, .pointer none, .pointer none] 110)) (.slice none 0 0) := by
  rw [opV_zero B]
  refine ⟨none, 0, rfl, World.ownsRow_nil _ _ _ _, ?_, (fun z hz => by cases hz), (two_new w _ _ _).keep (bel1 _ _), bel2 w _ _, by simp⟩
  have := heap_alloc_new (w.alloc (.cells #[.int .i64 s, .slice a len cap] 26)) (.cells (opV B []) 110)
  simpa using this
theorem lk1_step {s : Int} {a : Option Addr} {len cap : Nat} {B : Int → Nat} {T : List Int} {w wr w2 : World} {v : Value} {z : Nat} {a' : Option Addr} {c' : Nat} (h : Lk1 s a len cap B T w wr v) (hz : z < 24) (hn : (z : Int) ∉ T)
    (ho : w2.ownsRow (w.heap.size + 2) 79 1 (.slice a' (T.length + 1) c') (T.length + 1) (lkR B T ++ [.pointer (some ⟨wr.heap.size, 0, none⟩)]))
    (hk : ∀ k, k < ((wr.setCell ⟨w.heap.size + 1, z, none⟩ (.pointer (some ⟨wr.heap.size, 0, none⟩))).alloc (.cells #[.int .i64 z, .pointer none, .pointer none] 82)).heap.size → some k ≠ v.ownBlock →
      w2.heap[k]? = ((wr.setCell ⟨w.heap.size + 1, z, none⟩ (.pointer (some ⟨wr.heap.size, 0, none⟩))).alloc (.cells #[.int .i64 z, .pointer none, .pointer none] 82)).heap[k]?)
    (hb : Below (w.heap.size + 2) ((wr.setCell ⟨w.heap.size + 1, z, none⟩ (.pointer (some ⟨wr.heap.size, 0, none⟩))).alloc (.cells #[.int .i64 z, .pointer none, .pointer none] 82)) w2) :
    Lk1 s a len cap (updB B z wr.heap.size) (T ++ [(z : Int)]) w w2 (.slice a' (T.length + 1) c') := by
  obtain ⟨av, cv, rfl, hown, harr, hlk, htw, hbl, hsz⟩ := h
  obtain ⟨w1, hw1⟩ : ∃ w1, w1 = wr.setCell ⟨w.heap.size + 1, z, none⟩ (.pointer (some ⟨wr.heap.size, 0, none⟩)) := ⟨_, rfl⟩
  have hz1 : w1.heap.size = wr.heap.size := by rw [hw1]; simp
  have hB1 : Below (w.heap.size + 1) wr w1 := by rw [hw1]; exact (Below.refl _ _).setCell (by show w.heap.size + 1 ≤ w.heap.size + 1; omega) _
  have hA1 : w1.heap[w.heap.size + 1]? = some (.cells ((opV B T).setIfInBounds z (.pointer (some ⟨wr.heap.size, 0, none⟩))) 110 (0, 0)) := by rw [hw1]; exact heap_setCell_same _ _ _ _ _ _ harr
  have hO1 : ∀ b, b ≠ w.heap.size + 1 → w1.heap[b]? = wr.heap[b]? := fun b hb => by rw [hw1]; exact heap_setCell_other _ _ _ _ hb
  rw [← hw1] at hk hb
  clear hw1
  obtain ⟨w0, hw0⟩ : ∃ w0, w0 = w1.alloc (.cells #[.int .i64 z, .pointer none, .pointer none] 82) := ⟨_, rfl⟩
  have hnew : Lnk w0 w1.heap.size z none none := by rw [hw0]; exact lnk_new w1 z none none
  have h0 : Below w1.heap.size w1 w0 := by rw [hw0]; exact bel1 w1 _
  have hz0 : w0.heap.size = w1.heap.size + 1 := by rw [hw0]; simp
  rw [← hw0] at hk hb
  clear hw0
  have hlast1 : Below (w.heap.size + 1) wr w2 := (hB1.trans (h0.mono (by omega))).trans (hb.mono (by omega))
  refine ⟨a', c', by simp, by rw [← lkR_snoc hn, List.length_append]; exact ho, ?_, ?_, two_below htw hlast1 (by omega), hbl.trans (hlast1.mono (by omega)), Nat.le_trans hsz hlast1.size⟩
  · rw [hb.block _ (by omega), h0.block _ (by omega), hA1, opV_set hz]
  · intro y hy
    by_cases e : y = z
    · subst e
      rw [updB_same]
      refine ⟨by omega, ?_⟩
      rw [hz1] at hnew
      refine hnew.same (hk _ (by omega) ?_)
      intro q
      have := (hown.lt _ q.symm).2
      omega
    · have hyT : y ∈ T := by
        rcases List.mem_append.1 hy with q | q
        · exact q
        · exact absurd (List.mem_singleton.1 q) e
      obtain ⟨h1, h2⟩ := hlk y hyT
      rw [updB_other _ e]
      have hlt := h2.lt
      refine ⟨h1, ?_⟩
      exact ((h2.same (hO1 _ (by omega))).keep h0 (by omega)).same (hk _ (by omega) (own_not_lnk hown h2))

/-- What is behind a link, the links of the beats T being led on. -/
def aft (B : Int → Nat) (T zs : List Int) (n g z : Int) : Option Addr := if z ∈ T then lkO B zs ((z + g) % n) else none
def Lk2 (s : Int) (a : Option Addr) (len cap : Nat) (B : Int → Nat) (T zs : List Int) (g : Int) (w wr : World) (av : Option Addr) (cv : Nat) : Prop :=
  wr.ownsRow (w.heap.size + 2) 79 1 (.slice av zs.length cv) zs.length (lkR B zs) ∧ wr.heap[w.heap.size + 1]? = some (.cells (opV B zs) 110 (0, 0)) ∧
    (∀ z ∈ zs, w.heap.size + 2 ≤ B z ∧ Lnk wr (B z) z (lkO B T ((z - g) % s)) (aft B T zs s g z)) ∧ Two wr w.heap.size (.int .i64 s) (.slice a len cap) ∧ Below w.heap.size w wr ∧ w.heap.size + 2 ≤ wr.heap.size
theorem lk2_start {s : Int} {a : Option Addr} {len cap : Nat} {B : Int → Nat} {zs : List Int} {w wr : World} {av : Option Addr} {cv : Nat} (g : Int) (h : Lk1 s a len cap B zs w wr (.slice av zs.length cv)) : Lk2 s a len cap B [] zs g w wr av cv := by
  obtain ⟨av', cv', e, hown, harr, hlk, htw, hbl, hsz⟩ := h
  cases e
  refine ⟨hown, harr, fun z hz => ⟨(hlk z hz).1, ?_⟩, htw, hbl, hsz⟩
  rw [lkO_no (by simp), show aft B [] zs s g z = none from if_neg (by simp)]
  exact (hlk z hz).2
theorem lk2_keep {s : Int} {a : Option Addr} {len cap : Nat} {B : Int → Nat} {T zs : List Int} {g : Int} {w wr w' : World} {av : Option Addr} {cv : Nat} (h : Lk2 s a len cap B T zs g w wr av cv) (hb : Below wr.heap.size wr w') : Lk2 s a len cap B T zs g w w' av cv := by
  obtain ⟨hown, harr, hlk, htw, hbl, hsz⟩ := h
  exact ⟨own_below hown hb, row_keep harr hb, fun z hz => ⟨(hlk z hz).1, (hlk z hz).2.keep hb (hlk z hz).2.lt⟩, htw.keep hb, hbl.trans (hb.mono (by omega)), Nat.le_trans hsz hb.size⟩
/-- z - g and z + g, around. -/
theorem back_iff {n g x z : Int} (hx : 0 ≤ x ∧ x < n) (hz : 0 ≤ z ∧ z < n) : (x - g) % n = z ↔ x = (z + g) % n := by
  constructor
  · intro e
    rw [← e, em_add, show x - g + g = x by omega, em_self hx]
  · intro e
    rw [e, em_sub, show z + g - g = z by omega, em_self hz]
theorem lk2_skip {s : Int} {a : Option Addr} {len cap : Nat} {B : Int → Nat} {T zs : List Int} {g : Int} {w wr : World} {av : Option Addr} {cv : Nat} {z : Int} (h : Lk2 s a len cap B T zs g w wr av cv) (hr : ∀ x ∈ zs, 0 ≤ x ∧ x < s) (hz : z ∈ zs) (hy : (z + g) % s ∉ zs) :
    Lk2 s a len cap B (T ++ [z]) zs g w wr av cv := by
  obtain ⟨hown, harr, hlk, rest⟩ := h
  refine ⟨hown, harr, fun x hx => ⟨(hlk x hx).1, ?_⟩, rest⟩
  have h2 := (hlk x hx).2
  have e1 : lkO B (T ++ [z]) ((x - g) % s) = lkO B T ((x - g) % s) := by
    have hne : (x - g) % s ≠ z := fun e => hy (by rw [← (back_iff (hr x hx) (hr z hz)).1 e]; exact hx)
    by_cases hm : (x - g) % s ∈ T
    · rw [lkO_yes hm, lkO_yes (by simp [hm])]
    · rw [lkO_no hm, lkO_no (by simp only [List.mem_append, List.mem_singleton]; rintro (q | q); exact hm q; exact hne q)]
  have e2 : aft B (T ++ [z]) zs s g x = aft B T zs s g x := by
    unfold aft
    by_cases e : x = z
    · subst e
      rw [lkO_no hy]
      simp
    · by_cases hm : x ∈ T
      · rw [if_pos hm, if_pos (by simp [hm])]
      · rw [if_neg hm, if_neg (by simp only [List.mem_append, List.mem_singleton]; rintro (q | q); exact hm q; exact e q)]
  rw [e1, e2]
  exact h2
theorem lk2_step {s : Int} {a : Option Addr} {len cap : Nat} {B : Int → Nat} {T zs : List Int} {g : Int} {w wr : World} {av : Option Addr} {cv : Nat} {z y : Int} (h : Lk2 s a len cap B T zs g w wr av cv) (hr : ∀ x ∈ zs, 0 ≤ x ∧ x < s) (hg : 1 ≤ g ∧ g < s) (hz : z ∈ zs) (hy : y ∈ zs) (hzy : (z + g) % s = y) :
    Lk2 s a len cap B (T ++ [z]) zs g w ((wr.setCell ⟨B z, 2, none⟩ (.pointer (some ⟨B y, 0, none⟩))).setCell ⟨B y, 1, none⟩ (.pointer (some ⟨B z, 0, none⟩))) av cv := by
  obtain ⟨hown, harr, hlk, htw, hbl, hsz⟩ := h
  obtain ⟨hz1, hz2⟩ := hlk z hz
  obtain ⟨hy1, hy2⟩ := hlk y hy
  have hne : y ≠ z := by
    intro e
    rw [e] at hzy
    have hzr := hr z hz
    by_cases q : z + g < s
    · rw [Int.emod_eq_of_lt (by omega) q] at hzy; omega
    · have : (z + g) % s = z + g - s := by
        rw [← Int.sub_emod_right (z + g) s, Int.emod_eq_of_lt (by omega) (by omega)]
      omega
  have hinj : ∀ x ∈ zs, ∀ x' ∈ zs, x ≠ x' → B x ≠ B x' := fun x hx x' hx' hxx e => by
    have h1 := (hlk x hx).2
    rw [e] at h1
    exact hxx (lnk_inj h1 (hlk x' hx').2)
  have hbb := hinj y hy z hz hne
  refine ⟨?_, ?_, fun x hx => ⟨(hlk x hx).1, ?_⟩, ?_, ?_, ?_⟩
  · exact own_setCell (own_setCell hown (own_not_lnk hown hz2) _) (own_not_lnk hown hy2) _
  · rw [heap_setCell_other _ _ _ _ (show w.heap.size + 1 ≠ B y by omega), heap_setCell_other _ _ _ _ (show w.heap.size + 1 ≠ B z by omega)]
    exact harr
  · have hxl := (hlk x hx).2
    by_cases ez : x = z
    · subst ez
      have e1 : lkO B (T ++ [x]) ((x - g) % s) = lkO B T ((x - g) % s) := by
        have hq : (x - g) % s ≠ x := fun e => hne (by rw [← hzy]; exact ((back_iff (hr x hx) (hr x hx)).1 e).symm)
        by_cases hm : (x - g) % s ∈ T
        · rw [lkO_yes hm, lkO_yes (by simp [hm])]
        · rw [lkO_no hm, lkO_no (by simp only [List.mem_append, List.mem_singleton]; rintro (q | q); exact hm q; exact hq q)]
      have e2 : aft B (T ++ [x]) zs s g x = some ⟨B y, 0, none⟩ := by
        unfold aft
        rw [if_pos (by simp), hzy, lkO_yes hy]
      rw [e1, e2]
      exact (hxl.set2 _).other _ hbb
    · by_cases ey : x = y
      · subst ey
        have e1 : lkO B (T ++ [z]) ((x - g) % s) = some ⟨B z, 0, none⟩ := by
          rw [(back_iff (hr x hx) (hr z hz)).2 hzy.symm, lkO_yes (by simp)]
        have e2 : aft B (T ++ [z]) zs s g x = aft B T zs s g x := by
          unfold aft
          by_cases hm : x ∈ T
          · rw [if_pos hm, if_pos (by simp [hm])]
          · rw [if_neg hm, if_neg (by simp only [List.mem_append, List.mem_singleton]; rintro (q | q); exact hm q; exact ez q)]
        rw [e1, e2]
        exact (hxl.other _ (fun e => hbb e.symm)).set1 _
      · have e1 : lkO B (T ++ [z]) ((x - g) % s) = lkO B T ((x - g) % s) := by
          have hq : (x - g) % s ≠ z := fun e => ey (by rw [← hzy]; exact (back_iff (hr x hx) (hr z hz)).1 e)
          by_cases hm : (x - g) % s ∈ T
          · rw [lkO_yes hm, lkO_yes (by simp [hm])]
          · rw [lkO_no hm, lkO_no (by simp only [List.mem_append, List.mem_singleton]; rintro (q | q); exact hm q; exact hq q)]
        have e2 : aft B (T ++ [z]) zs s g x = aft B T zs s g x := by
          unfold aft
          by_cases hm : x ∈ T
          · rw [if_pos hm, if_pos (by simp [hm])]
          · rw [if_neg hm, if_neg (by simp only [List.mem_append, List.mem_singleton]; rintro (q | q); exact hm q; exact ez q)]
        rw [e1, e2]
        exact (hxl.other _ (hinj z hz x hx (fun e => ez e.symm))).other _ (hinj y hy x hx (fun e => ey e.symm))
  · exact two_below htw (((Below.refl (w.heap.size + 2) wr).setCell (by show w.heap.size + 2 ≤ B z; omega) _).setCell (by show w.heap.size + 2 ≤ B y; omega) _) (by omega)
  · exact (hbl.setCell (by show w.heap.size ≤ B z; omega) _).setCell (by show w.heap.size ≤ B y; omega) _
  · simpa using hsz
/-- What links hands back. -/
def LksPost (s : Int) (zs : List Int) (g : Int) (w : World) (e : Ending) (w' : World) : Prop :=
  ∃ (B : Int → Nat) (gb cv : Nat), e = .returned (.slice (some ⟨gb, 0, none⟩) zs.length cv) ∧ zs.length ≤ cv ∧ (∀ i z, zs[i]? = some z → w'.cell? ⟨gb, i, none⟩ = some (.pointer (some ⟨B z, 0, none⟩))) ∧
    (∀ z ∈ zs, w.heap.size ≤ B z ∧ Lnk w' (B z) z (lkO B zs ((z - g) % s)) (lkO B zs ((z + g) % s))) ∧ Below w.heap.size w w'
theorem lk2_row {s : Int} {a : Option Addr} {len cap : Nat} {B : Int → Nat} {T zs : List Int} {g : Int} {w wr : World} {av : Option Addr} {cv : Nat} (h : Lk2 s a len cap B T zs g w wr av cv) (h0 : 0 < zs.length) :
    ∃ gb, av = some ⟨gb, 0, none⟩ ∧ zs.length ≤ cv ∧ ∀ i z, zs[i]? = some z → wr.cell? ⟨gb, i, none⟩ = some (.pointer (some ⟨B z, 0, none⟩)) := by
  have hown := h.1
  have hc := @World.ownsRow.cells _ _ _ _ _ _ _ hown
  obtain ⟨_, ⟨_, q⟩ | ⟨gb, cap', cur, e, hB, hg, hn, _⟩⟩ := hown
  · omega
  · cases e
    refine ⟨gb, rfl, hn, fun i z hz => ?_⟩
    have := hc (g := gb) rfl i (.pointer (some ⟨B z, 0, none⟩)) (by unfold lkR; rw [List.getElem?_map, hz]; rfl)
    unfold Addr.add at this
    rw [← this]
    congr 1
    simp
theorem lk2_end {s : Int} {a : Option Addr} {len cap : Nat} {B : Int → Nat} {zs : List Int} {g : Int} {w wr : World} {gb cv : Nat} (h : Lk2 s a len cap B zs zs g w wr (some ⟨gb, 0, none⟩) cv) (h0 : 0 < zs.length) :
    LksPost s zs g w (.returned (.slice (some ⟨gb, 0, none⟩) zs.length cv)) wr := by
  obtain ⟨gb', e, hcv, hc⟩ := lk2_row h h0
  cases e
  refine ⟨B, gb, cv, rfl, hcv, hc, fun z hz => ?_, h.2.2.2.2.1⟩
  obtain ⟨h1, h2⟩ := h.2.2.1 z hz
  rw [show aft B zs zs s g z = lkO B zs ((z + g) % s) from if_pos hz] at h2
  exact ⟨by omega, h2⟩
end Go.Proofs.Ythcmpkhfimapgaa.Rhy

/-
  Helpers of the claims beside this text: the program's links of a rhythm: the walk of links.
-/
namespace Go.Proofs.Ythcmpkhfimapgaa.Rhy
open Go.RowKit
set_option linter.unusedVariables false
set_option linter.unusedSimpArgs false

theorem take_snoc' {zs : List Int} {j : Nat} {z : Int} (h : zs[j]? = some z) : zs.take (j + 1) = zs.take j ++ [z] := by
  rw [List.take_add_one, h]; rfl
theorem take_not {s : Int} {zs : List Int} (ho : Ok s zs) {j : Nat} {z : Int} (h : zs[j]? = some z) : z ∉ zs.take j := by
  intro hm
  obtain ⟨i, hi, e⟩ := List.getElem_of_mem hm
  rw [List.length_take] at hi
  have e2 : zs[i]? = some z := by rw [← e, List.getElem_take, List.getElem?_eq_getElem]
  have hj : j < zs.length := by
    rcases Nat.lt_or_ge j zs.length with q | q
    · exact q
    · rw [List.getElem?_eq_none q] at h; cases h
  have hs := List.pairwise_iff_getElem.1 (ok_sorted ho) i j (by omega) hj (by omega)
  rw [List.getElem?_eq_getElem (by omega)] at e2
  rw [List.getElem?_eq_getElem hj] at h
  have e3 := Option.some.inj e2
  have e4 := Option.some.inj h
  omega

set_option maxHeartbeats 1000000 in
theorem links_any (n : Nat) (a : Option Addr) (cap : Nat) (zs : List Int) (g : Int) (w : World) (h : IntsAt w a zs.length zs) (ho : Ok n zs) (hg1 : 1 ≤ g) (hg2 : g < n) (h0 : 0 < zs.length) :
    Calls Try.prog 106 #[rhy n a zs.length cap, .int .i64 g] w (LksPost n zs g w) := by
  have HS := Lib.hid h
  have HOK := Lib.hid ho
  have hl24 := ok_len ho
  have hn1 : 1 ≤ n := by have := ho.1.1; omega
  have hn24 : n ≤ 24 := by have := ho.1.2; omega
  have HRNG := Lib.hid (ok_range ho)
  clear h ho
  go_enter Try.func106, Try.ntmps106
  go_wp2_with fail
  have HR0 := Lib.hid (lk1_start n a zs.length cap (fun _ => 0) w)
  obtain ⟨W0, hW⟩ : ∃ W0, W0 = ((w.alloc (.cells #[.int .i64 n, .slice a zs.length cap] 26)).alloc (.cells #[.pointer none, .pointer none, .pointer none, .pointer none, .pointer none, .pointer none, .pointer none, .pointer none, .pointer none, .pointer none, .pointer none, .pointer none, .pointer none, .pointer none, .pointer none, .pointer none, .pointer none, .pointer none, .pointer none, .pointer none, .pointer none, .pointer none, .pointer none, .pointer none] 110)) := ⟨_, rfl⟩
  rw [← hW] at HR0 ⊢
  clear hW
  go_loopw [6, 14] (fun v i wr => ∃ (j : Nat) (B : Int → Nat), j ≤ zs.length ∧ i = .int .i64 j ∧ Lk1 n a zs.length cap B (zs.take j) w wr v) (fun _ i _ => zs.length - (intOf i).toNat)
  case atStart => exact ⟨0, fun _ => 0, by omega, rfl, HR0.out⟩
  case round =>
    clear HR0
    obtain ⟨j, B, hj, rfl, hr⟩ := hrel
    obtain ⟨T, hT⟩ : ∃ T, zs.take j = T := ⟨_, rfl⟩
    rw [hT] at hr
    have HT := Lib.hid hT
    have HTL : Hid (T.length = j) := Lib.hid (by rw [← hT, List.length_take]; omega)
    clear hT
    have HR := Lib.hid hr
    obtain ⟨av, cv, rfl, hown, harr, hlk, htw, hbl, hsz⟩ := hr
    obtain ⟨x0, x1, x2⟩ := htw
    by_cases hlt : j < zs.length
    · obtain ⟨b, off, z, rfl, hb, hs, hc, hz1, hz2⟩ := (HS.out.below hbl).at hlt
      have hz := HRNG.out z (List.mem_of_getElem? hs)
      obtain ⟨k, rfl⟩ : ∃ k : Nat, z = k := ⟨z.toNat, by omega⟩
      have hk24 : k < 24 := by omega
      have HSN := Lib.hid (take_snoc' hs)
      rw [HT.out] at HSN
      have HNT : Hid ((k : Int) ∉ T) := Lib.hid (by rw [← HT.out]; exact take_not HOK.out hs)
      have harc : wr.cell? ⟨w.heap.size + 1, k, none⟩ = some (.pointer (lkO B T k)) := by rw [cell_of_row _ _ _ _ _ _ harr, opV_at hk24]
      have harf := frozen_of_row wr (w.heap.size + 1) k _ _ harr
      have htl : T.length ≤ 1000 := by have := HTL.out; omega
      have hs1 : w.heap.size + 1 < wr.heap.size := by omega
      have HO2 := Lib.hid ((ownsRow_setCell_below hown (show (⟨w.heap.size + 1, k, none⟩ : Addr).block < w.heap.size + 2 by show w.heap.size + 1 < w.heap.size + 2; omega) (.pointer (some ⟨wr.heap.size, 0, none⟩))).alloc (.cells #[.int .i64 k, .pointer none, .pointer none] 82))
      clear hs hown harr hlk hbl hz1 hz2
      go_wp2_with (at_builtin; refine append_lnk rfl _ _ rfl (w.heap.size + 2) _ _ _ _ _ HO2.out htl (by simp; omega) _ (by simp) rfl rfl ?_; intro a' c' w2 hown2 hsz2 hkeep2 hb2; have HST := Lib.hid (lk1_step HR.out hk24 HNT.out hown2 hkeep2 hb2); clear hown2 hsz2 hkeep2 hb2)
      go_roundw
      case rel => exact ⟨j + 1, _, by omega, by go_num, by rw [HSN.out]; exact HST.out⟩
      case measure => simp [intOf]; omega
    · have e : j = zs.length := by omega
      obtain rfl : zs = T := by rw [← HT.out, List.take_of_length_le (by omega)]
      subst e
      have HL0 := Lib.hid (lk2_start g HR.out)
      obtain ⟨gb, rfl, hcv, hrow⟩ := lk2_row HL0.out h0
      clear HR hown harr hlk hbl hrow
      go_wp2
      go_loopw [32] (fun i wr => ∃ j : Nat, j ≤ zs.length ∧ i = .int .i64 j ∧ Lk2 n a zs.length cap B (zs.take j) zs g w wr (some ⟨gb, 0, none⟩) cv) (fun i _ => zs.length - (intOf i).toNat)
      case atStart => exact ⟨0, by omega, rfl, HL0.out⟩
      case round =>
        clear HL0 x0 x1 x2
        obtain ⟨j, hj, rfl, hr⟩ := hrel
        have HR2 := Lib.hid hr
        obtain ⟨hown, harr, hlk, htw, hbl, hsz⟩ := hr
        obtain ⟨x0, x1, x2⟩ := htw
        obtain ⟨gb', e', _, hrow⟩ := lk2_row HR2.out h0
        cases e'
        by_cases hlt : j < zs.length
        · obtain ⟨z, hs⟩ : ∃ z, zs[j]? = some z := ⟨_, List.getElem?_eq_getElem hlt⟩
          have hzm := List.mem_of_getElem? hs
          have hc := hrow j z hs
          have hz := HRNG.out z hzm
          obtain ⟨hB, hL⟩ := hlk z hzm
          have hBlt := hL.lt
          obtain ⟨⟨l0, _, _⟩, _⟩ := hL.facts
          obtain ⟨y, hy⟩ : ∃ y : Nat, (z + g) % n = y := ⟨((z + g) % n).toNat, by have := em_bd (z + g) (n := n) (by omega); omega⟩
          have hyb : y < n := by have := em_bd (z + g) (n := n) (by omega); omega
          have hac : wr.cell? ⟨w.heap.size + 1, y, none⟩ = some (.pointer (lkO B zs y)) := by rw [cell_of_row _ _ _ _ _ _ harr, opV_at (by omega)]
          have HRB : Hid (remB (z + g) n = y) := Lib.hid hy
          have HSN := Lib.hid (take_snoc' hs)
          have hw0 : IntKind.i64.wrap (z + g) = z + g := IntWalk.i64_in _ ⟨by omega, by omega⟩
          have HRd := Lib.hid (lk2_keep HR2.out (Below.refl _ _).drew)
          have hs0 : w.heap.size < wr.heap.size := by omega
          have hs1 : w.heap.size + 1 < wr.heap.size := by omega
          have y24 : (y : Int) < 24 := by omega
          have y0 : (0 : Int) ≤ (y : Int) := by omega
          by_cases hm : (y : Int) ∈ zs
          · rw [lkO_yes hm] at hac
            have HST := Lib.hid (lk2_step HRd.out HRNG.out ⟨hg1, hg2⟩ hzm hm hy)
            have HLz := Lib.hid (HRd.out.2.2.1 z hzm).2
            have HLy := Lib.hid (HRd.out.2.2.1 y hm).2
            have HNE : Hid (B y ≠ B z) := Lib.hid (by
              intro e
              have h1 := HLz.out
              rw [← e] at h1
              have h2 := lnk_inj h1 HLy.out
              rw [h2] at hy
              have h3 := (back_iff (g := g) (HRNG.out y hm) (HRNG.out y hm)).2 hy.symm
              rcases Int.lt_or_le ((y : Int) - g) 0 with q | q
              · have : ((y : Int) - g) % n = y - g + n := by
                  rw [← Int.add_emod_right, Int.emod_eq_of_lt (by omega) (by omega)]
                omega
              · rw [Int.emod_eq_of_lt q (by omega)] at h3
                omega)
            have hyB : w.heap.size + 2 ≤ B y := (hlk y hm).1
            have HK : Hid (∀ W : World, Below wr.heap.size wr W → W.cell? ⟨B z, 0, none⟩ = some (.int .i64 z) ∧ W.cell? ⟨w.heap.size, 0, none⟩ = some (.int .i64 n) ∧ W.cell? ⟨w.heap.size + 1, y, none⟩ = some (.pointer (some ⟨B y, 0, none⟩))) :=
              Lib.hid (fun W hW => ⟨by rw [hW.cell (p := ⟨B z, 0, none⟩) hBlt]; exact l0, by rw [hW.cell (p := ⟨w.heap.size, 0, none⟩) hs0]; exact x1, by rw [hW.cell (p := ⟨w.heap.size + 1, y, none⟩) hs1]; exact hac⟩)
            have HSE := Lib.hid (show ((wr.drew.setCell ⟨B z, 2, none⟩ (.pointer (some ⟨B y, 0, none⟩))).setCell ⟨B y, 1, none⟩ (.pointer (some ⟨B z, 0, none⟩))).cell? ⟨B z, 0, none⟩ = some (.int .i64 z) ∧
                ((wr.drew.setCell ⟨B z, 2, none⟩ (.pointer (some ⟨B y, 0, none⟩))).setCell ⟨B y, 1, none⟩ (.pointer (some ⟨B z, 0, none⟩))).cell? ⟨w.heap.size, 0, none⟩ = some (.int .i64 n) ∧
                ((wr.drew.setCell ⟨B z, 2, none⟩ (.pointer (some ⟨B y, 0, none⟩))).setCell ⟨B y, 1, none⟩ (.pointer (some ⟨B z, 0, none⟩))).cell? ⟨w.heap.size + 1, y, none⟩ = some (.pointer (some ⟨B y, 0, none⟩)) from
              ⟨(HST.out.2.2.1 z hzm).2.facts.1.1, HST.out.2.2.2.1.2.1, by rw [cell_of_row _ _ _ _ _ _ HST.out.2.1, opV_at (by omega), lkO_yes hm]⟩)
            clear hs hy hown harr hlk hrow hL hbl x2
            go_wp2
            refine wp_region_held_drew (S := fun W => W.cell? ⟨B z, 0, none⟩ = some (.int .i64 z) ∧ W.cell? ⟨w.heap.size, 0, none⟩ = some (.int .i64 n) ∧ W.cell? ⟨w.heap.size + 1, y, none⟩ = some (.pointer (some ⟨B y, 0, none⟩))) (by kernel_rfl) (HK.out _ (Below.refl _ _).drew) (fun hSS0 => ?_)
            refine wpAnyH_take (i := 0) (oi := ⟨some 36, _, _, _, _, _⟩) (v := .pointer (some ⟨B z, 0, none⟩)) rfl (by kernel_rfl) (by kernel_rfl) (by kernel_rfl) (fun _ _ _ h => h) (Or.inl ⟨by rfl, fun W hSw => by go_simp⟩) (by assumption) ?_
            try simp only [Act.put, List.setIfInBounds_toArray, List.set_cons_zero, List.set_cons_succ]
            refine wpAnyH_take (i := 1) (oi := ⟨some 37, _, _, _, _, _⟩) (v := .pointer (some ⟨B z, 0, none⟩)) rfl (by kernel_rfl) (by kernel_rfl) (by kernel_rfl) (fun _ _ _ h => h) (Or.inl ⟨by rfl, fun W hSw => by go_simp⟩) (by assumption) ?_
            try simp only [Act.put, List.setIfInBounds_toArray, List.set_cons_zero, List.set_cons_succ]
            refine wpAnyH_take (i := 2) (oi := ⟨some 38, _, _, _, _, _⟩) (v := .pointer (some ⟨B z, 0, none⟩)) rfl (by kernel_rfl) (by kernel_rfl) (by kernel_rfl) (fun _ _ _ h => h) (Or.inl ⟨by rfl, fun W hSw => by go_simp⟩) (by assumption) ?_
            try simp only [Act.put, List.setIfInBounds_toArray, List.set_cons_zero, List.set_cons_succ]
            refine wpAnyH_take (i := 3) (oi := ⟨some 39, _, _, _, _, _⟩) (v := .pointer (some ⟨B z, 0, none⟩)) rfl (by kernel_rfl) (by kernel_rfl) (by kernel_rfl) (fun _ _ _ h => h) (Or.inl ⟨by rfl, fun W hSw => by go_simp⟩) (by assumption) ?_
            try simp only [Act.put, List.setIfInBounds_toArray, List.set_cons_zero, List.set_cons_succ]
            refine wpAnyH_take (i := 4) (oi := ⟨some 40, _, _, _, _, _⟩) (v := .int .i64 z) rfl (by kernel_rfl) (by kernel_rfl) (by kernel_rfl) (fun _ _ _ h => h) (Or.inl ⟨by rfl, fun W hSw => by obtain ⟨q1, q2, q3⟩ := hSw; go_simp⟩) (by assumption) ?_
            try simp only [Act.put, List.setIfInBounds_toArray, List.set_cons_zero, List.set_cons_succ]
            refine wpAnyH_take (i := 5) (oi := ⟨some 41, _, _, _, _, _⟩) (v := .int .i64 g) rfl (by kernel_rfl) (by kernel_rfl) (by kernel_rfl) (fun _ _ _ h => h) (Or.inl ⟨by rfl, fun W hSw => by go_simp⟩) (by assumption) ?_
            try simp only [Act.put, List.setIfInBounds_toArray, List.set_cons_zero, List.set_cons_succ]
            refine wpAnyH_take (i := 6) (oi := ⟨some 42, _, _, _, _, _⟩) (v := .int .i64 (z + g)) rfl (by kernel_rfl) (by kernel_rfl) (by kernel_rfl) (fun _ _ _ h => h) (Or.inl ⟨by rfl, fun W hSw => by go_simp⟩) (by assumption) ?_
            try simp only [Act.put, List.setIfInBounds_toArray, List.set_cons_zero, List.set_cons_succ]
            refine wpAnyH_take (i := 7) (oi := ⟨some 43, _, _, _, _, _⟩) (v := .pointer (some ⟨w.heap.size, 0, none⟩)) rfl (by kernel_rfl) (by kernel_rfl) (by kernel_rfl) (fun _ _ _ h => h) (Or.inl ⟨by rfl, fun W hSw => by go_simp⟩) (by assumption) ?_
            try simp only [Act.put, List.setIfInBounds_toArray, List.set_cons_zero, List.set_cons_succ]
            refine wpAnyH_take (i := 8) (oi := ⟨some 44, _, _, _, _, _⟩) (v := .int .i64 n) rfl (by kernel_rfl) (by kernel_rfl) (by kernel_rfl) (fun _ _ _ h => h) (Or.inl ⟨by rfl, fun W hSw => by obtain ⟨q1, q2, q3⟩ := hSw; go_simp⟩) (by assumption) ?_
            try simp only [Act.put, List.setIfInBounds_toArray, List.set_cons_zero, List.set_cons_succ]
            refine wpAnyH_ready (rs := [9]) (by kernel_rfl) (by simp) ?_
            refine AllReadyH.cons rfl (fun K hKK => ?_) AllReadyH.nil
            go_simp
            go_at_call 52
            refine (around_any (z + g) n _ (by omega) (by omega) (by omega) (by omega)).mono ?_
            rintro e w2 ⟨rfl, rfl⟩
            rw [HRB.out]
            refine hKK.out _ _ (HK.out _ (Below.refl _ _).drew) (fun hSS1 => ?_)
            clear hKK K hSS0
            try simp only [Act.put, List.setIfInBounds_toArray, List.set_cons_zero, List.set_cons_succ]
            refine wpAnyH_take (i := 10) (oi := ⟨some 46, _, _, _, _, _⟩) (v := .pointer (some ⟨w.heap.size + 1, y, none⟩)) rfl (by kernel_rfl) (by kernel_rfl) (by kernel_rfl) (fun _ _ _ h => h) (Or.inl ⟨by rfl, fun W hSw => by go_simp⟩) (by assumption) ?_
            try simp only [Act.put, List.setIfInBounds_toArray, List.set_cons_zero, List.set_cons_succ]
            refine wpAnyH_take (i := 11) (oi := ⟨some 47, _, _, _, _, _⟩) (v := .pointer (some ⟨B y, 0, none⟩)) rfl (by kernel_rfl) (by kernel_rfl) (by kernel_rfl) (fun _ _ _ h => h) (Or.inl ⟨by rfl, fun W hSw => by obtain ⟨q1, q2, q3⟩ := hSw; go_simp⟩) (by assumption) ?_
            try simp only [Act.put, List.setIfInBounds_toArray, List.set_cons_zero, List.set_cons_succ]
            refine wpAnyH_ready (rs := [12]) (by kernel_rfl) (by simp) ?_
            refine AllReadyH.cons rfl (fun K hKK => ?_) AllReadyH.nil
            go_simp
            go_at_call 123
            refine (lead_next (B z) (B y) _ _ _ _ _ _ _ HLz.out HLy.out HNE.out).mono ?_
            rintro e w2 ⟨rfl, rfl⟩
            refine hKK.out _ _ HSE.out (fun hSS2 => ?_)
            clear hKK K hSS1
            try simp only [Act.put, List.setIfInBounds_toArray, List.set_cons_zero, List.set_cons_succ]
            refine wpAnyH_done (by kernel_rfl) ?_ _
            clear HK
            go_wp2
            go_roundw
            case rel => exact ⟨j + 1, by omega, by go_num, by rw [HSN.out]; exact HST.out⟩
            case measure => simp [intOf]; omega
          · rw [lkO_no hm] at hac
            have HST := Lib.hid (lk2_skip HRd.out HRNG.out hzm (by rw [hy]; exact hm))
            have HK : Hid (∀ W : World, Below wr.heap.size wr W → W.cell? ⟨B z, 0, none⟩ = some (.int .i64 z) ∧ W.cell? ⟨w.heap.size, 0, none⟩ = some (.int .i64 n) ∧ W.cell? ⟨w.heap.size + 1, y, none⟩ = some (.pointer none)) :=
              Lib.hid (fun W hW => ⟨by rw [hW.cell (p := ⟨B z, 0, none⟩) hBlt]; exact l0, by rw [hW.cell (p := ⟨w.heap.size, 0, none⟩) hs0]; exact x1, by rw [hW.cell (p := ⟨w.heap.size + 1, y, none⟩) hs1]; exact hac⟩)
            clear hs hy hown harr hlk hrow hL hbl x2
            go_wp2
            refine wp_region_held_drew (S := fun W => W.cell? ⟨B z, 0, none⟩ = some (.int .i64 z) ∧ W.cell? ⟨w.heap.size, 0, none⟩ = some (.int .i64 n) ∧ W.cell? ⟨w.heap.size + 1, y, none⟩ = some (.pointer none)) (by kernel_rfl) (HK.out _ (Below.refl _ _).drew) (fun hSS0 => ?_)
            refine wpAnyH_take (i := 0) (oi := ⟨some 36, _, _, _, _, _⟩) (v := .pointer (some ⟨B z, 0, none⟩)) rfl (by kernel_rfl) (by kernel_rfl) (by kernel_rfl) (fun _ _ _ h => h) (Or.inl ⟨by rfl, fun W hSw => by go_simp⟩) (by assumption) ?_
            try simp only [Act.put, List.setIfInBounds_toArray, List.set_cons_zero, List.set_cons_succ]
            refine wpAnyH_take (i := 1) (oi := ⟨some 37, _, _, _, _, _⟩) (v := .pointer (some ⟨B z, 0, none⟩)) rfl (by kernel_rfl) (by kernel_rfl) (by kernel_rfl) (fun _ _ _ h => h) (Or.inl ⟨by rfl, fun W hSw => by go_simp⟩) (by assumption) ?_
            try simp only [Act.put, List.setIfInBounds_toArray, List.set_cons_zero, List.set_cons_succ]
            refine wpAnyH_take (i := 2) (oi := ⟨some 38, _, _, _, _, _⟩) (v := .pointer (some ⟨B z, 0, none⟩)) rfl (by kernel_rfl) (by kernel_rfl) (by kernel_rfl) (fun _ _ _ h => h) (Or.inl ⟨by rfl, fun W hSw => by go_simp⟩) (by assumption) ?_
            try simp only [Act.put, List.setIfInBounds_toArray, List.set_cons_zero, List.set_cons_succ]
            refine wpAnyH_take (i := 3) (oi := ⟨some 39, _, _, _, _, _⟩) (v := .pointer (some ⟨B z, 0, none⟩)) rfl (by kernel_rfl) (by kernel_rfl) (by kernel_rfl) (fun _ _ _ h => h) (Or.inl ⟨by rfl, fun W hSw => by go_simp⟩) (by assumption) ?_
            try simp only [Act.put, List.setIfInBounds_toArray, List.set_cons_zero, List.set_cons_succ]
            refine wpAnyH_take (i := 4) (oi := ⟨some 40, _, _, _, _, _⟩) (v := .int .i64 z) rfl (by kernel_rfl) (by kernel_rfl) (by kernel_rfl) (fun _ _ _ h => h) (Or.inl ⟨by rfl, fun W hSw => by obtain ⟨q1, q2, q3⟩ := hSw; go_simp⟩) (by assumption) ?_
            try simp only [Act.put, List.setIfInBounds_toArray, List.set_cons_zero, List.set_cons_succ]
            refine wpAnyH_take (i := 5) (oi := ⟨some 41, _, _, _, _, _⟩) (v := .int .i64 g) rfl (by kernel_rfl) (by kernel_rfl) (by kernel_rfl) (fun _ _ _ h => h) (Or.inl ⟨by rfl, fun W hSw => by go_simp⟩) (by assumption) ?_
            try simp only [Act.put, List.setIfInBounds_toArray, List.set_cons_zero, List.set_cons_succ]
            refine wpAnyH_take (i := 6) (oi := ⟨some 42, _, _, _, _, _⟩) (v := .int .i64 (z + g)) rfl (by kernel_rfl) (by kernel_rfl) (by kernel_rfl) (fun _ _ _ h => h) (Or.inl ⟨by rfl, fun W hSw => by go_simp⟩) (by assumption) ?_
            try simp only [Act.put, List.setIfInBounds_toArray, List.set_cons_zero, List.set_cons_succ]
            refine wpAnyH_take (i := 7) (oi := ⟨some 43, _, _, _, _, _⟩) (v := .pointer (some ⟨w.heap.size, 0, none⟩)) rfl (by kernel_rfl) (by kernel_rfl) (by kernel_rfl) (fun _ _ _ h => h) (Or.inl ⟨by rfl, fun W hSw => by go_simp⟩) (by assumption) ?_
            try simp only [Act.put, List.setIfInBounds_toArray, List.set_cons_zero, List.set_cons_succ]
            refine wpAnyH_take (i := 8) (oi := ⟨some 44, _, _, _, _, _⟩) (v := .int .i64 n) rfl (by kernel_rfl) (by kernel_rfl) (by kernel_rfl) (fun _ _ _ h => h) (Or.inl ⟨by rfl, fun W hSw => by obtain ⟨q1, q2, q3⟩ := hSw; go_simp⟩) (by assumption) ?_
            try simp only [Act.put, List.setIfInBounds_toArray, List.set_cons_zero, List.set_cons_succ]
            refine wpAnyH_ready (rs := [9]) (by kernel_rfl) (by simp) ?_
            refine AllReadyH.cons rfl (fun K hKK => ?_) AllReadyH.nil
            go_simp
            go_at_call 52
            refine (around_any (z + g) n _ (by omega) (by omega) (by omega) (by omega)).mono ?_
            rintro e w2 ⟨rfl, rfl⟩
            rw [HRB.out]
            refine hKK.out _ _ (HK.out _ (Below.refl _ _).drew) (fun hSS1 => ?_)
            clear hKK K hSS0
            try simp only [Act.put, List.setIfInBounds_toArray, List.set_cons_zero, List.set_cons_succ]
            refine wpAnyH_take (i := 10) (oi := ⟨some 46, _, _, _, _, _⟩) (v := .pointer (some ⟨w.heap.size + 1, y, none⟩)) rfl (by kernel_rfl) (by kernel_rfl) (by kernel_rfl) (fun _ _ _ h => h) (Or.inl ⟨by rfl, fun W hSw => by go_simp⟩) (by assumption) ?_
            try simp only [Act.put, List.setIfInBounds_toArray, List.set_cons_zero, List.set_cons_succ]
            refine wpAnyH_take (i := 11) (oi := ⟨some 47, _, _, _, _, _⟩) (v := .pointer none) rfl (by kernel_rfl) (by kernel_rfl) (by kernel_rfl) (fun _ _ _ h => h) (Or.inl ⟨by rfl, fun W hSw => by obtain ⟨q1, q2, q3⟩ := hSw; go_simp⟩) (by assumption) ?_
            try simp only [Act.put, List.setIfInBounds_toArray, List.set_cons_zero, List.set_cons_succ]
            refine wpAnyH_ready (rs := [12]) (by kernel_rfl) (by simp) ?_
            refine AllReadyH.cons rfl (fun K hKK => ?_) AllReadyH.nil
            go_simp
            go_at_call 123
            refine (lead_nil (B z) _).mono ?_
            rintro e w2 ⟨rfl, rfl⟩
            refine hKK.out _ _ (HK.out _ (Below.refl _ _).drew) (fun hSS2 => ?_)
            clear hKK K hSS1
            try simp only [Act.put, List.setIfInBounds_toArray, List.set_cons_zero, List.set_cons_succ]
            refine wpAnyH_done (by kernel_rfl) ?_ _
            clear HK
            go_wp2
            go_roundw
            case rel => exact ⟨j + 1, by omega, by go_num, by rw [HSN.out]; exact HST.out⟩
            case measure => simp [intOf]; omega
        · have e : j = zs.length := by omega
          have HE := Lib.hid (show zs.take j = zs from List.take_of_length_le (by omega))
          rw [HE.out] at HR2
          have HP := Lib.hid (lk2_end HR2.out h0)
          clear hown harr hlk hrow hbl HE
          subst e
          go_wp2
          go_ret
          exact HP.out
end Go.Proofs.Ythcmpkhfimapgaa.Rhy

/-
  Helpers of the claims beside this text: the program's chain: firstLink, chain.
-/
namespace Go.Proofs.Ythcmpkhfimapgaa.Rhy
open Go.RowKit
set_option linter.unusedVariables false
set_option linter.unusedSimpArgs false

/-- What is behind a link, the chain being open at its first beat. -/
def beh (B : Int → Nat) (zs : List Int) (n g s z : Int) : Option Addr := if (z + g) % n = s then none else lkO B zs ((z + g) % n)
/-- What firstLink hands back. -/
def FstPost (n : Int) (zs : List Int) (g s : Int) (w : World) (e : Ending) (w' : World) : Prop :=
  ∃ B : Int → Nat, e = .returned (.pointer (some ⟨B s, 0, none⟩)) ∧ (∀ z ∈ zs, w.heap.size ≤ B z ∧ ∃ p, Lnk w' (B z) z p (beh B zs n g s z)) ∧ Below w.heap.size w w'
theorem fst_here {n : Nat} {B : Int → Nat} {zs : List Int} {g z : Int} {w w' : World} (hr : ∀ x ∈ zs, 0 ≤ x ∧ x < n) (hz : z ∈ zs) (hn : (z - g) % n ∉ zs)
    (h : ∀ z ∈ zs, w.heap.size ≤ B z ∧ Lnk w' (B z) z (lkO B zs ((z - g) % n)) (lkO B zs ((z + g) % n))) (hb : Below w.heap.size w w') : FstPost n zs g z w (.returned (.pointer (some ⟨B z, 0, none⟩))) w' := by
  refine ⟨B, rfl, fun x hx => ⟨(h x hx).1, lkO B zs ((x - g) % n), ?_⟩, hb⟩
  have hne : ¬ (x + g) % n = z := fun e => hn (by rw [(back_iff (hr z hz) (hr x hx)).2 e.symm]; exact hx)
  unfold beh
  rw [if_neg hne]
  exact (h x hx).2
theorem fst_open {n : Nat} {B : Int → Nat} {zs : List Int} {g z c : Int} {w w' : World} (hr : ∀ x ∈ zs, 0 ≤ x ∧ x < n) (hz : z ∈ zs) (hc : c ∈ zs) (hcz : (z - g) % n = c) (hne : c ≠ z)
    (h : ∀ z ∈ zs, w.heap.size ≤ B z ∧ Lnk w' (B z) z (lkO B zs ((z - g) % n)) (lkO B zs ((z + g) % n))) (hb : Below w.heap.size w w') :
    FstPost n zs g z w (.returned (.pointer (some ⟨B z, 0, none⟩))) ((w'.setCell ⟨B c, 2, none⟩ (.pointer none)).setCell ⟨B z, 1, none⟩ (.pointer none)) := by
  have hinj : ∀ x ∈ zs, ∀ x' ∈ zs, x ≠ x' → B x ≠ B x' := fun x hx x' hx' hxx e => by
    have h1 := (h x hx).2
    rw [e] at h1
    exact hxx (lnk_inj h1 (h x' hx').2)
  refine ⟨B, rfl, fun x hx => ⟨(h x hx).1, ?_⟩, (hb.setCell (by have := (h c hc).1; exact this) _).setCell (by have := (h z hz).1; exact this) _⟩
  have hl := (h x hx).2
  by_cases e : x = c
  · subst e
    have he : (x + g) % n = z := ((back_iff (hr z hz) (hr x hx)).1 hcz).symm
    unfold beh
    rw [if_pos he]
    exact ⟨_, (hl.set2 none).other _ (hinj z hz x hx (fun q => hne q.symm))⟩
  · have he : ¬ (x + g) % n = z := fun q => e (by rw [← hcz]; exact ((back_iff (hr z hz) (hr x hx)).2 q.symm).symm)
    unfold beh
    rw [if_neg he]
    have h1 := hl.other (o := 2) (.pointer none) (hinj c hc x hx (fun q => e q.symm))
    by_cases e2 : x = z
    · subst e2
      exact ⟨_, h1.set1 none⟩
    · exact ⟨_, h1.other _ (hinj z hz x hx (fun q => e2 q.symm))⟩

theorem shift_ne {n g z : Int} (hz : 0 ≤ z ∧ z < n) (hg : 1 ≤ g ∧ g < n) : (z - g) % n ≠ z := by
  intro e
  rcases Int.lt_or_le (z - g) 0 with q | q
  · have : (z - g) % n = z - g + n := by
      rw [← Int.add_emod_right, Int.emod_eq_of_lt (by omega) (by omega)]
    omega
  · rw [Int.emod_eq_of_lt q (by omega)] at e
    omega

set_option maxHeartbeats 1000000 in
theorem first_any (n : Nat) (a : Option Addr) (cap : Nat) (zs : List Int) (g : Int) (w : World) (h : IntsAt w a zs.length zs) (ho : Ok n zs) (hg1 : 1 ≤ g) (hg2 : g < n) (h0 : 0 < zs.length) :
    Calls Try.prog 83 #[rhy n a zs.length cap, .int .i64 g] w (FstPost n zs g (chF n zs g) w) := by
  have HS := Lib.hid h
  have HOK := Lib.hid ho
  have hl24 := ok_len ho
  have HRNG := Lib.hid (ok_range ho)
  have he0 : ((zs.length : Int) == 0) = false := by simp; rintro rfl; simp at h0
  obtain ⟨s, hsf⟩ : ∃ s, chF n zs g = s := ⟨_, rfl⟩
  rw [hsf]
  have HSF := Lib.hid hsf
  clear h ho hsf
  go_enter Try.func83, Try.ntmps83
  go_wp2_with fail
  refine (links_any n a cap zs g _ (HS.out.below (bel1 w _)) HOK.out hg1 hg2 h0).mono ?_
  rintro e w1 hp
  obtain ⟨B, gb, cv, rfl, hcv, hrow, hlk, hb⟩ := hp
  have HROW := Lib.hid hrow
  have HB := Lib.hid ((bel1 w (.cells #[.int .i64 n, .slice a zs.length cap] 26)).trans (hb.mono (by simp)))
  have HLK : Hid (∀ z ∈ zs, w.heap.size ≤ B z ∧ Lnk w1 (B z) z (lkO B zs ((z - g) % n)) (lkO B zs ((z + g) % n))) := Lib.hid (fun z hz => ⟨by have := (hlk z hz).1; simp at this; omega, (hlk z hz).2⟩)
  clear hrow hlk hb
  go_wp2
  go_loop [17] (fun i => ∃ j : Nat, j ≤ zs.length ∧ i = .int .i64 j ∧ Hid (s = chG n zs g (zs.length - j) j) ∧ Hid (∀ (k : Nat) (z : Int), k < j → zs[k]? = some z → (z - g) % n ∈ zs)) (fun i => zs.length - (intOf i).toNat)
  case atStart => exact ⟨0, by omega, rfl, Lib.hid HSF.out.symm, Lib.hid (fun k z hk => by omega)⟩
  case round =>
    obtain ⟨j, hj, rfl, HF, HALL⟩ := hrel
    by_cases hlt : j < zs.length
    · obtain ⟨z, hs⟩ : ∃ z, zs[j]? = some z := ⟨_, List.getElem?_eq_getElem hlt⟩
      have hzm := List.mem_of_getElem? hs
      have hc := HROW.out j z hs
      have hzd : zs[j]?.getD 0 = z := by rw [hs]; rfl
      have hfl := (HLK.out z hzm).2.facts
      obtain ⟨⟨_, l1, _⟩, _⟩ := hfl
      by_cases hm : (z - g) % n ∈ zs
      · rw [lkO_yes hm] at l1
        have HF2 : Hid (s = chG n zs g (zs.length - (j + 1)) (j + 1)) := Lib.hid (by rw [HF.out, chG_skip hlt (by rw [hzd]; exact (beat_at HOK.out).2 hm)])
        have HALL2 : Hid (∀ (k : Nat) (z : Int), k < j + 1 → zs[k]? = some z → (z - g) % n ∈ zs) := Lib.hid (fun k x hk hx => by
          by_cases e : k = j
          · subst e; rw [hs] at hx; cases hx; exact hm
          · exact HALL.out k x (by omega) hx)
        clear hs hzd
        go_wp2
        go_round
        case rel => exact ⟨j + 1, by omega, by go_num, HF2, HALL2⟩
        case measure => simp [intOf]; omega
      · rw [lkO_no hm] at l1
        have HF2 : Hid (s = z) := Lib.hid (by
          rw [HF.out, chG_here hlt, hzd]
          rw [hzd]
          cases hq : beatB n zs (z - g)
          · rfl
          · exact absurd ((beat_at HOK.out).1 hq) hm)
        have HP := Lib.hid (fst_here HRNG.out hzm hm HLK.out HB.out)
        clear hs hzd
        go_wp2
        go_ret
        rw [HF2.out]
        exact HP.out
    · have e : j = zs.length := by omega
      obtain ⟨z, hs⟩ : ∃ z, zs[0]? = some z := ⟨_, List.getElem?_eq_getElem h0⟩
      have hzm := List.mem_of_getElem? hs
      have hc := HROW.out 0 z hs
      have hm := HALL.out 0 z (by omega) hs
      have HF2 : Hid (s = z) := Lib.hid (by
        rw [HF.out, e, Nat.sub_self]
        simp only [chG]
        rw [hs]; rfl)
      obtain ⟨c, hcc⟩ : ∃ c, (z - g) % n = c := ⟨_, rfl⟩
      have hne : c ≠ z := by rw [← hcc]; exact shift_ne (HRNG.out z hzm) ⟨hg1, hg2⟩
      rw [hcc] at hm
      have HLz := Lib.hid (HLK.out z hzm).2
      rw [hcc, lkO_yes hm] at HLz
      have HLc := Lib.hid (HLK.out c hm).2
      have HNE : Hid (B c ≠ B z) := Lib.hid (fun q => by
        have h1 := HLc.out
        rw [q] at h1
        exact hne (lnk_inj h1 HLz.out))
      have HP := Lib.hid (fst_open HRNG.out hzm hm hcc hne HLK.out HB.out)
      clear hs hcc e hne
      go_wp2_with fail
      refine (opened_any (B z) (B c) _ _ _ _ _ _ HLz.out HLc.out HNE.out).mono ?_
      rintro e w2 ⟨rfl, rfl⟩
      go_wp2
      go_ret
      rw [HF2.out]
      exact HP.out
def lenV : Value → Nat
  | .slice _ n _ => n
  | _ => 0

set_option maxHeartbeats 1000000 in
theorem chain_any (n : Nat) (a : Option Addr) (cap : Nat) (zs : List Int) (g : Int) (m : Nat) (w : World) (h : IntsAt w a zs.length zs) (ho : Ok n zs) (hg1 : 1 ≤ g) (hg2 : g < n) (h0 : 0 < zs.length) (hM : ChM n zs (chF n zs g) g m) :
    Calls Try.prog 61 #[rhy n a zs.length cap, .int .i64 g] w (IPost (chP n (chF n zs g) g m) w) := by
  have HS := Lib.hid h
  have HOK := Lib.hid ho
  have hn1 : 1 ≤ n := by have := ho.1.1; omega
  have hn24 : n ≤ 24 := by have := ho.1.2; omega
  have HRNG := Lib.hid (ok_range ho)
  have HFI := Lib.hid (chF_in (n := n) (zs := zs) g h0)
  obtain ⟨s, hsf⟩ : ∃ s, chF n zs g = s := ⟨_, rfl⟩
  rw [hsf] at hM HFI ⊢
  have HSF := Lib.hid hsf
  have HM := Lib.hid hM
  have hm1 := hM.1.1
  have hmn : m ≤ n := by have := hM.1.2; omega
  have hsr := HRNG.out s HFI.out
  clear h ho hsf hM
  go_enter Try.func61, Try.ntmps61
  go_wp2_with fail
  refine (first_any n a cap zs g _ (HS.out.below (bel1 w _)) HOK.out hg1 hg2 h0).mono ?_
  rintro e w1 hp
  rw [HSF.out] at hp
  obtain ⟨B, rfl, hlk, hb⟩ := hp
  have HLK : Hid (∀ z ∈ zs, ∃ p, Lnk w1 (B z) z p (beh B zs n g s z)) := Lib.hid (fun z hz => (hlk z hz).2)
  have HB := Lib.hid ((bel1 w (.cells #[.int .i64 n, .slice a zs.length cap] 26)).trans (hb.mono (by simp)))
  clear hlk hb
  go_wp2
  go_loopw [5, 6] (fun v p wr => ∃ j : Nat, j ≤ m ∧ VecAt (chP n s g j) w1 wr v ∧ Hid ((j < m ∧ p = .pointer (some ⟨B (chX n s g j), 0, none⟩)) ∨ (j = m ∧ p = .pointer none))) (fun v _ _ => m - lenV v)
  case atStart => exact ⟨0, by omega, vec_nil w1, Lib.hid (.inl ⟨by omega, by rw [chX_zero g hsr]⟩)⟩
  case round =>
    obtain ⟨j, hj, ⟨av, cv, rfl, hown, hnx, hsz⟩, HPT⟩ := hrel
    rcases HPT.out with ⟨hlt, rfl⟩ | ⟨hjm, rfl⟩
    · obtain ⟨L, hL⟩ : ∃ L, chP n s g j = L := ⟨_, rfl⟩
      have HSN := Lib.hid (chP_next n s g j)
      obtain ⟨x, hx⟩ : ∃ x, chX n s g j = x := ⟨_, rfl⟩
      have hxm : x ∈ zs := by rw [← hx]; exact HM.out.2.1 j hlt
      have hLl : Hid (L.length = j) := Lib.hid (by rw [← hL, chP_len])
      have hml : L.length ≤ 1048577 := by have := hLl.out; omega
      have HNX := Lib.hid (chX_next n s g j)
      rw [hL, hx] at HSN
      rw [hx] at HNX
      rw [hL] at hown ⊢
      obtain ⟨p, hp⟩ := HLK.out x hxm
      have HO := Lib.hid hown
      have HX := Lib.hid hnx
      have HZ := Lib.hid hsz
      have hxr := HRNG.out x hxm
      have HLr := Lib.hid (hp.keep hnx hp.lt)
      have hBx := hp.lt
      obtain ⟨⟨c0, _, c2⟩, _⟩ := HLr.out.facts
      rw [hx]
      clear hown hnx hsz hL hp HPT
      have HNXT : Hid ((j + 1 < m ∧ beh B zs n g s x = some ⟨B (chX n s g (j + 1)), 0, none⟩) ∨ (j + 1 = m ∧ beh B zs n g s x = none)) := Lib.hid (by
        unfold beh
        rw [HNX.out]
        by_cases e1 : chX n s g (j + 1) = s
        · right
          rw [if_pos e1]
          refine ⟨?_, rfl⟩
          rcases Nat.lt_or_ge (j + 1) m with q | q
          · exact absurd e1 (HM.out.2.2.1 (j + 1) (by omega) q)
          · omega
        · rw [if_neg e1]
          by_cases e2 : chX n s g (j + 1) ∈ zs
          · left
            rw [lkO_yes e2]
            refine ⟨?_, rfl⟩
            rcases Nat.lt_or_ge (j + 1) m with q | q
            · exact q
            · have e3 : j + 1 = m := by omega
              rw [e3] at e1 e2
              rcases HM.out.2.2.2 with w' | w'
              · exact absurd e2 w'
              · exact absurd w' e1
          · right
            rw [lkO_no e2]
            refine ⟨?_, rfl⟩
            rcases Nat.lt_or_ge (j + 1) m with q | q
            · exact absurd (HM.out.2.1 (j + 1) q) e2
            · omega)
      obtain ⟨nx, hnx⟩ : ∃ nx, beh B zs n g s x = nx := ⟨_, rfl⟩
      rw [hnx] at HNXT HLr c2
      have HXX := Lib.hid hx
      clear hnx hx
      go_wp2_with (at_builtin; refine append_int rfl _ _ rfl w1.heap.size _ L _ _ HO.out hml HZ.out _ rfl rfl rfl ?_; intro a' c' w2 hown' hb'; have HO2 := Lib.hid hown'; have HX2 := Lib.hid hb'; have c2' := (HLr.out.keep hb' hBx).facts.1.2.2; clear hown' hb')
      go_roundw
      case rel =>
        refine ⟨j + 1, by omega, ?_, ?_⟩
        · rw [HSN.out]
          have := vec_snoc HX.out HZ.out HO2.out HX2.out
          simpa using this
        · rcases HNXT.out with ⟨q1, q2⟩ | ⟨q1, q2⟩
          · exact Lib.hid (.inl ⟨q1, by rw [q2]⟩)
          · exact Lib.hid (.inr ⟨q1, by rw [q2]⟩)
      case measure => have := hLl.out; simp [lenV]; omega
    · subst hjm
      have HO := Lib.hid hown
      have HX := Lib.hid hnx
      have hzw := HB.out.size
      clear hown hnx HPT
      go_wp2
      go_ret
      exact ⟨av, cv, rfl, own_base HO.out hzw, HB.out.trans (HX.out.mono hzw)⟩
theorem chain_none (n : Nat) (a : Option Addr) (cap : Nat) (g : Int) (w : World) :
    Calls Try.prog 61 #[rhy n a 0 cap, .int .i64 g] w (IPost [] w) := by
  go_enter Try.func61, Try.ntmps61
  have HF : Hid (∀ W : World, Calls Try.prog 83 #[rhy n a 0 cap, .int .i64 g] W fun e w' => e = .returned (.pointer none) ∧ Below W.heap.size W w') := Lib.hid (fun W => by
    go_enter Try.func83, Try.ntmps83
    go_wp2
    go_ret
    exact ⟨rfl, bel1 W _⟩)
  go_wp2_with fail
  refine (HF.out _).mono ?_
  rintro e w1 ⟨rfl, hb⟩
  have HB := Lib.hid ((bel1 w (.cells #[.int .i64 n, .slice a 0 cap] 26)).trans (hb.mono (by simp)))
  clear hb HF
  go_wp2
  go_loopw [5, 6] (fun v p wr => v = .slice none 0 0 ∧ p = .pointer none ∧ wr = w1) (fun _ _ _ => 0)
  case atStart => exact ⟨rfl, rfl, rfl⟩
  case round =>
    obtain ⟨rfl, rfl, rfl⟩ := hrel
    go_wp2
    go_ret
    exact ⟨none, 0, rfl, World.ownsRow_nil _ _ _ _, HB.out⟩
end Go.Proofs.Ythcmpkhfimapgaa.Rhy
