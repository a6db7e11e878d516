/-
  Helpers of the claims beside this text: the program's links of a rhythm: links.
-/
import Derived.Test.YthcmpkhfimapgaaGpl
import Derived.Test.YthcmpkhfimapgaaFma
import Derived.Test.YthcmpkhfimapgaaOut
import Derived.Test.YthcmpkhfimapgaaItm
namespace Go.Proofs.Ythcmpkhfimapgaa.Rhy
open Go.RowKit
set_option linter.unusedVariables false
set_option linter.unusedSimpArgs false

/-- The link of a pulse, if there is one. -/
def lkO (B : Int → Nat) (T : List Int) (x : Int) : Option Addr := if x ∈ T then some ⟨B x, 0, none⟩ else none
theorem lkO_yes {B : Int → Nat} {T : List Int} {x : Int} (h : x ∈ T) : lkO B T x = some ⟨B x, 0, none⟩ := if_pos h
theorem lkO_no {B : Int → Nat} {T : List Int} {x : Int} (h : x ∉ T) : lkO B T x = none := if_neg h
def lkR (B : Int → Nat) (T : List Int) : List Value := T.map fun z => .pointer (some ⟨B z, 0, none⟩)
def opV (B : Int → Nat) (T : List Int) : Array Value := ((List.range 24).map fun (p : Nat) => Value.pointer (lkO B T (p : Int))).toArray
def updB (B : Int → Nat) (z : Int) (b : Nat) : Int → Nat := fun x => if x = z then b else B x
theorem updB_same (B : Int → Nat) (z : Int) (b : Nat) : updB B z b z = b := if_pos rfl
theorem updB_other {B : Int → Nat} {z x : Int} (b : Nat) (h : x ≠ z) : updB B z b x = B x := if_neg h
theorem opV_size (B : Int → Nat) (T : List Int) : (opV B T).size = 24 := by simp [opV]
theorem opV_at {B : Int → Nat} {T : List Int} {p : Nat} (h : p < 24) : (opV B T)[p]? = some (.pointer (lkO B T (p : Int))) := by simp [opV, h]
theorem opV_zero (B : Int → Nat) : (#[.pointer none, .pointer none, .pointer none, .pointer none, .pointer none, .pointer none, .pointer none, .pointer none, .pointer none, .pointer none, .pointer none, .pointer none, .pointer none, .pointer none, .pointer none, .pointer none, .pointer none, .pointer none, .pointer none, .pointer none, .pointer none, .pointer none, .pointer none, .pointer none] : Array Value) = opV B [] := rfl
theorem opV_set {B : Int → Nat} {T : List Int} {z b : Nat} (hz : z < 24) : (opV B T).setIfInBounds z (.pointer (some ⟨b, 0, none⟩)) = opV (updB B z b) (T ++ [(z : Int)]) := by
  apply Array.ext_getElem?
  intro p
  rw [Array.getElem?_setIfInBounds, opV_size]
  by_cases hp : p < 24
  · rw [opV_at hp, opV_at hp]
    by_cases he : z = p
    · subst he
      rw [if_pos rfl, if_pos hz, lkO_yes (by simp), updB_same]
    · rw [if_neg he]
      by_cases hm : (p : Int) ∈ T
      · rw [lkO_yes hm, lkO_yes (by simp [hm]), updB_other _ (by omega)]
      · rw [lkO_no hm, lkO_no (by simp only [List.mem_append, List.mem_singleton]; rintro (q | q); exact hm q; omega)]
  · rw [Array.getElem?_eq_none (by rw [opV_size]; omega), Array.getElem?_eq_none (by rw [opV_size]; omega)]
    by_cases he : z = p
    · omega
    · rw [if_neg he]
theorem lkR_snoc {B : Int → Nat} {T : List Int} {z : Int} {b : Nat} (h : z ∉ T) : lkR B T ++ [.pointer (some ⟨b, 0, none⟩)] = lkR (updB B z b) (T ++ [z]) := by
  unfold lkR
  rw [List.map_append, List.map_singleton, updB_same]
  congr 1
  refine List.map_congr_left fun x hx => ?_
  have hne : x ≠ z := by rintro rfl; exact h hx
  rw [updB_other _ hne]
theorem infoLnk : (Try.prog.info? 79).map (fun i => (i.zero, i.size, i.bytes)) = some (some (.pointer none), 1, 8) := by kernel_rfl
/-- 'links = append(links, p)' at a slice of the call's own. -/
theorem append_lnk {ops : Array Oper} {rest : List Oper} {o : Oper} {a : Act} {Q : Exit → Act → World → Prop} (hgd : o.guard = none) (x y : Operand)
    (ho : o.op = .call { callee := .builtin .append, args := #[x, y], argTypes := #[99, 99] })
    (B : Nat) (v : Value) (xs : List Value) (n : Nat) (t : Option Addr) (w0 : World) (hown : w0.ownsRow B 79 1 v n xs) (hl : n ≤ 1000) (hB : B ≤ w0.heap.size) (N : Nat) (hN : N = w0.heap.size)
    (hs : a.eval x = v) (hx : a.eval y = .slice (some ⟨N, 0, none⟩) 1 1)
    (h : ∀ a' c' w', w'.ownsRow B 79 1 (.slice a' (n + 1) c') (n + 1) (xs ++ [.pointer t]) → w0.heap.size ≤ w'.heap.size → (∀ k, k < w0.heap.size → some k ≠ v.ownBlock → w'.heap[k]? = w0.heap[k]?) → Below B w0 w' → wpList Try.prog ops Q rest (a.put o.dst (.slice a' (n + 1) c')) w') :
    wpList Try.prog ops Q (o :: rest) a (w0.alloc (.cells #[.pointer t] 79)) := by
  obtain ⟨i0, hi, hz0, hz1, hz2⟩ := info_parts' infoLnk
  subst hN
  have hsz : (w0.alloc (.cells #[.pointer t] 79)).heap.size = w0.heap.size + 1 := by simp
  refine wpList_append_own _ hgd x y 99 ho B 79 i0 (.pointer none) 1 8 Try.underlying99 hi hz0 hz1 hz2 rfl (by decide) v n xs hs (hown.alloc _) ⟨w0.heap.size, 0, none⟩ 1 1 [.pointer t] hx rfl (cell_one_new _ _ _) ?_ ?_ ?_ ?_ ?_
  · intro u hu
    simp at hu
    subst hu
    rfl
  · unfold maxLen; omega
  · omega
  · rw [hsz]; omega
  · intro v' w' ho' hg _
    obtain ⟨hlen, hs' | ⟨g, cap, cur, rfl, hrest⟩⟩ := ho'
    · exact absurd hs'.2 (by omega)
    · refine h (some ⟨g, 0, none⟩) cap w' ⟨hlen, .inr ⟨g, cap, cur, rfl, hrest⟩⟩ ?_ ?_ ?_
      · have := hg.size; rw [hsz] at this; omega
      · intro k hk hne
        rw [hg.block k (by omega) hne]
        exact heap_alloc_old _ _ hk
      · exact ((Below.refl B w0).alloc hB _).grown hg (by rw [hsz]; omega) fun k hk => (hown.lt k hk).1

theorem own_not_lnk {w : World} {B n b : Nat} {v : Value} {xs : List Value} {z : Int} {p q : Option Addr} (h : w.ownsRow B 79 1 v n xs) (hl : Lnk w b z p q) : some b ≠ v.ownBlock := by
  obtain ⟨_, ⟨rfl, _⟩ | ⟨g, cap, cur, rfl, hB, hg, _⟩⟩ := h
  · intro e; cases e
  · intro e
    have e2 : b = g := by injection e
    subst e2
    have := hg.symm.trans hl
    simp at this
theorem lnk_inj {w : World} {b : Nat} {z z' : Int} {p q p' q' : Option Addr} (h : Lnk w b z p q) (h' : Lnk w b z' p' q') : z = z' := by
  have := h.symm.trans h'
  simp at this
  exact this.1
theorem two_below {w w' : World} {b B : Nat} {v0 v1 : Value} (h : Two w b v0 v1) (hb : Below B w w') (hB : b < B) : Two w' b v0 v1 :=
  ⟨Nat.lt_of_lt_of_le h.1 hb.size, by rw [hb.cell (p := ⟨b, 0, none⟩) hB]; exact h.2.1, by rw [hb.cell (p := ⟨b, 1, none⟩) hB]; exact h.2.2⟩
theorem own_setCell {w : World} {base b o n : Nat} {e : TypeId} {size : Nat} {v : Value} {xs : List Value} (h : w.ownsRow base e size v n xs) (hne : some b ≠ v.ownBlock) (u : Value) : (w.setCell ⟨b, o, none⟩ u).ownsRow base e size v n xs := by
  obtain ⟨h1, h2 | ⟨g, cap, cur, rfl, hB, hg, rest⟩⟩ := h
  · exact ⟨h1, .inl h2⟩
  · refine ⟨h1, .inr ⟨g, cap, cur, rfl, hB, ?_, rest⟩⟩
    rw [heap_setCell_other _ _ _ _ (show g ≠ b from fun e => hne (by rw [e]; rfl))]
    exact hg

/-- Behind the links of the beats T: each has its beat. -/
def Lk1 (s : Int) (a : Option Addr) (len cap : Nat) (B : Int → Nat) (T : List Int) (w wr : World) (v : Value) : Prop :=
  ∃ av cv, v = .slice av T.length cv ∧ wr.ownsRow (w.heap.size + 2) 79 1 (.slice av T.length cv) T.length (lkR B T) ∧ wr.heap[w.heap.size + 1]? = some (.cells (opV B T) 110 (0, 0)) ∧
    (∀ z ∈ T, w.heap.size + 2 ≤ B z ∧ Lnk wr (B z) z none none) ∧ Two wr w.heap.size (.int .i64 s) (.slice a len cap) ∧ Below w.heap.size w wr ∧ w.heap.size + 2 ≤ wr.heap.size
theorem lk1_start (s : Int) (a : Option Addr) (len cap : Nat) (B : Int → Nat) (w : World) :
    Lk1 s a len cap B [] w ((w.alloc (.cells #[.int .i64 s, .slice a len cap] 26)).alloc (.cells #[.pointer none, .pointer none, .pointer none, .pointer none, .pointer none, .pointer none, .pointer none, .pointer none, .pointer none, .pointer none, .pointer none, .pointer none, .pointer none, .pointer none, .pointer none, .pointer none, .pointer none, .pointer none, .pointer none, .pointer none, .pointer none, .pointer none, .pointer none, .pointer none] 110)) (.slice none 0 0) := by
  rw [opV_zero B]
  refine ⟨none, 0, rfl, World.ownsRow_nil _ _ _ _, ?_, (fun z hz => by cases hz), (two_new w _ _ _).keep (bel1 _ _), bel2 w _ _, by simp⟩
  have := heap_alloc_new (w.alloc (.cells #[.int .i64 s, .slice a len cap] 26)) (.cells (opV B []) 110)
  simpa using this
theorem lk1_step {s : Int} {a : Option Addr} {len cap : Nat} {B : Int → Nat} {T : List Int} {w wr w2 : World} {v : Value} {z : Nat} {a' : Option Addr} {c' : Nat} (h : Lk1 s a len cap B T w wr v) (hz : z < 24) (hn : (z : Int) ∉ T)
    (ho : w2.ownsRow (w.heap.size + 2) 79 1 (.slice a' (T.length + 1) c') (T.length + 1) (lkR B T ++ [.pointer (some ⟨wr.heap.size, 0, none⟩)]))
    (hk : ∀ k, k < ((wr.setCell ⟨w.heap.size + 1, z, none⟩ (.pointer (some ⟨wr.heap.size, 0, none⟩))).alloc (.cells #[.int .i64 z, .pointer none, .pointer none] 82)).heap.size → some k ≠ v.ownBlock →
      w2.heap[k]? = ((wr.setCell ⟨w.heap.size + 1, z, none⟩ (.pointer (some ⟨wr.heap.size, 0, none⟩))).alloc (.cells #[.int .i64 z, .pointer none, .pointer none] 82)).heap[k]?)
    (hb : Below (w.heap.size + 2) ((wr.setCell ⟨w.heap.size + 1, z, none⟩ (.pointer (some ⟨wr.heap.size, 0, none⟩))).alloc (.cells #[.int .i64 z, .pointer none, .pointer none] 82)) w2) :
    Lk1 s a len cap (updB B z wr.heap.size) (T ++ [(z : Int)]) w w2 (.slice a' (T.length + 1) c') := by
  obtain ⟨av, cv, rfl, hown, harr, hlk, htw, hbl, hsz⟩ := h
  obtain ⟨w1, hw1⟩ : ∃ w1, w1 = wr.setCell ⟨w.heap.size + 1, z, none⟩ (.pointer (some ⟨wr.heap.size, 0, none⟩)) := ⟨_, rfl⟩
  have hz1 : w1.heap.size = wr.heap.size := by rw [hw1]; simp
  have hB1 : Below (w.heap.size + 1) wr w1 := by rw [hw1]; exact (Below.refl _ _).setCell (by show w.heap.size + 1 ≤ w.heap.size + 1; omega) _
  have hA1 : w1.heap[w.heap.size + 1]? = some (.cells ((opV B T).setIfInBounds z (.pointer (some ⟨wr.heap.size, 0, none⟩))) 110 (0, 0)) := by rw [hw1]; exact heap_setCell_same _ _ _ _ _ _ harr
  have hO1 : ∀ b, b ≠ w.heap.size + 1 → w1.heap[b]? = wr.heap[b]? := fun b hb => by rw [hw1]; exact heap_setCell_other _ _ _ _ hb
  rw [← hw1] at hk hb
  clear hw1
  obtain ⟨w0, hw0⟩ : ∃ w0, w0 = w1.alloc (.cells #[.int .i64 z, .pointer none, .pointer none] 82) := ⟨_, rfl⟩
  have hnew : Lnk w0 w1.heap.size z none none := by rw [hw0]; exact lnk_new w1 z none none
  have h0 : Below w1.heap.size w1 w0 := by rw [hw0]; exact bel1 w1 _
  have hz0 : w0.heap.size = w1.heap.size + 1 := by rw [hw0]; simp
  rw [← hw0] at hk hb
  clear hw0
  have hlast1 : Below (w.heap.size + 1) wr w2 := (hB1.trans (h0.mono (by omega))).trans (hb.mono (by omega))
  refine ⟨a', c', by simp, by rw [← lkR_snoc hn, List.length_append]; exact ho, ?_, ?_, two_below htw hlast1 (by omega), hbl.trans (hlast1.mono (by omega)), Nat.le_trans hsz hlast1.size⟩
  · rw [hb.block _ (by omega), h0.block _ (by omega), hA1, opV_set hz]
  · intro y hy
    by_cases e : y = z
    · subst e
      rw [updB_same]
      refine ⟨by omega, ?_⟩
      rw [hz1] at hnew
      refine hnew.same (hk _ (by omega) ?_)
      intro q
      have := (hown.lt _ q.symm).2
      omega
    · have hyT : y ∈ T := by
        rcases List.mem_append.1 hy with q | q
        · exact q
        · exact absurd (List.mem_singleton.1 q) e
      obtain ⟨h1, h2⟩ := hlk y hyT
      rw [updB_other _ e]
      have hlt := h2.lt
      refine ⟨h1, ?_⟩
      exact ((h2.same (hO1 _ (by omega))).keep h0 (by omega)).same (hk _ (by omega) (own_not_lnk hown h2))

/-- What is behind a link, the links of the beats T being led on. -/
def aft (B : Int → Nat) (T zs : List Int) (n g z : Int) : Option Addr := if z ∈ T then lkO B zs ((z + g) % n) else none
def Lk2 (s : Int) (a : Option Addr) (len cap : Nat) (B : Int → Nat) (T zs : List Int) (g : Int) (w wr : World) (av : Option Addr) (cv : Nat) : Prop :=
  wr.ownsRow (w.heap.size + 2) 79 1 (.slice av zs.length cv) zs.length (lkR B zs) ∧ wr.heap[w.heap.size + 1]? = some (.cells (opV B zs) 110 (0, 0)) ∧
    (∀ z ∈ zs, w.heap.size + 2 ≤ B z ∧ Lnk wr (B z) z (lkO B T ((z - g) % s)) (aft B T zs s g z)) ∧ Two wr w.heap.size (.int .i64 s) (.slice a len cap) ∧ Below w.heap.size w wr ∧ w.heap.size + 2 ≤ wr.heap.size
theorem lk2_start {s : Int} {a : Option Addr} {len cap : Nat} {B : Int → Nat} {zs : List Int} {w wr : World} {av : Option Addr} {cv : Nat} (g : Int) (h : Lk1 s a len cap B zs w wr (.slice av zs.length cv)) : Lk2 s a len cap B [] zs g w wr av cv := by
  obtain ⟨av', cv', e, hown, harr, hlk, htw, hbl, hsz⟩ := h
  cases e
  refine ⟨hown, harr, fun z hz => ⟨(hlk z hz).1, ?_⟩, htw, hbl, hsz⟩
  rw [lkO_no (by simp), show aft B [] zs s g z = none from if_neg (by simp)]
  exact (hlk z hz).2
theorem lk2_keep {s : Int} {a : Option Addr} {len cap : Nat} {B : Int → Nat} {T zs : List Int} {g : Int} {w wr w' : World} {av : Option Addr} {cv : Nat} (h : Lk2 s a len cap B T zs g w wr av cv) (hb : Below wr.heap.size wr w') : Lk2 s a len cap B T zs g w w' av cv := by
  obtain ⟨hown, harr, hlk, htw, hbl, hsz⟩ := h
  exact ⟨own_below hown hb, row_keep harr hb, fun z hz => ⟨(hlk z hz).1, (hlk z hz).2.keep hb (hlk z hz).2.lt⟩, htw.keep hb, hbl.trans (hb.mono (by omega)), Nat.le_trans hsz hb.size⟩
/-- z - g and z + g, around. -/
theorem back_iff {n g x z : Int} (hx : 0 ≤ x ∧ x < n) (hz : 0 ≤ z ∧ z < n) : (x - g) % n = z ↔ x = (z + g) % n := by
  constructor
  · intro e
    rw [← e, em_add, show x - g + g = x by omega, em_self hx]
  · intro e
    rw [e, em_sub, show z + g - g = z by omega, em_self hz]
theorem lk2_skip {s : Int} {a : Option Addr} {len cap : Nat} {B : Int → Nat} {T zs : List Int} {g : Int} {w wr : World} {av : Option Addr} {cv : Nat} {z : Int} (h : Lk2 s a len cap B T zs g w wr av cv) (hr : ∀ x ∈ zs, 0 ≤ x ∧ x < s) (hz : z ∈ zs) (hy : (z + g) % s ∉ zs) :
    Lk2 s a len cap B (T ++ [z]) zs g w wr av cv := by
  obtain ⟨hown, harr, hlk, rest⟩ := h
  refine ⟨hown, harr, fun x hx => ⟨(hlk x hx).1, ?_⟩, rest⟩
  have h2 := (hlk x hx).2
  have e1 : lkO B (T ++ [z]) ((x - g) % s) = lkO B T ((x - g) % s) := by
    have hne : (x - g) % s ≠ z := fun e => hy (by rw [← (back_iff (hr x hx) (hr z hz)).1 e]; exact hx)
    by_cases hm : (x - g) % s ∈ T
    · rw [lkO_yes hm, lkO_yes (by simp [hm])]
    · rw [lkO_no hm, lkO_no (by simp only [List.mem_append, List.mem_singleton]; rintro (q | q); exact hm q; exact hne q)]
  have e2 : aft B (T ++ [z]) zs s g x = aft B T zs s g x := by
    unfold aft
    by_cases e : x = z
    · subst e
      rw [lkO_no hy]
      simp
    · by_cases hm : x ∈ T
      · rw [if_pos hm, if_pos (by simp [hm])]
      · rw [if_neg hm, if_neg (by simp only [List.mem_append, List.mem_singleton]; rintro (q | q); exact hm q; exact e q)]
  rw [e1, e2]
  exact h2
theorem lk2_step {s : Int} {a : Option Addr} {len cap : Nat} {B : Int → Nat} {T zs : List Int} {g : Int} {w wr : World} {av : Option Addr} {cv : Nat} {z y : Int} (h : Lk2 s a len cap B T zs g w wr av cv) (hr : ∀ x ∈ zs, 0 ≤ x ∧ x < s) (hg : 1 ≤ g ∧ g < s) (hz : z ∈ zs) (hy : y ∈ zs) (hzy : (z + g) % s = y) :
    Lk2 s a len cap B (T ++ [z]) zs g w ((wr.setCell ⟨B z, 2, none⟩ (.pointer (some ⟨B y, 0, none⟩))).setCell ⟨B y, 1, none⟩ (.pointer (some ⟨B z, 0, none⟩))) av cv := by
  obtain ⟨hown, harr, hlk, htw, hbl, hsz⟩ := h
  obtain ⟨hz1, hz2⟩ := hlk z hz
  obtain ⟨hy1, hy2⟩ := hlk y hy
  have hne : y ≠ z := by
    intro e
    rw [e] at hzy
    have hzr := hr z hz
    by_cases q : z + g < s
    · rw [Int.emod_eq_of_lt (by omega) q] at hzy; omega
    · have : (z + g) % s = z + g - s := by
        rw [← Int.sub_emod_right (z + g) s, Int.emod_eq_of_lt (by omega) (by omega)]
      omega
  have hinj : ∀ x ∈ zs, ∀ x' ∈ zs, x ≠ x' → B x ≠ B x' := fun x hx x' hx' hxx e => by
    have h1 := (hlk x hx).2
    rw [e] at h1
    exact hxx (lnk_inj h1 (hlk x' hx').2)
  have hbb := hinj y hy z hz hne
  refine ⟨?_, ?_, fun x hx => ⟨(hlk x hx).1, ?_⟩, ?_, ?_, ?_⟩
  · exact own_setCell (own_setCell hown (own_not_lnk hown hz2) _) (own_not_lnk hown hy2) _
  · rw [heap_setCell_other _ _ _ _ (show w.heap.size + 1 ≠ B y by omega), heap_setCell_other _ _ _ _ (show w.heap.size + 1 ≠ B z by omega)]
    exact harr
  · have hxl := (hlk x hx).2
    by_cases ez : x = z
    · subst ez
      have e1 : lkO B (T ++ [x]) ((x - g) % s) = lkO B T ((x - g) % s) := by
        have hq : (x - g) % s ≠ x := fun e => hne (by rw [← hzy]; exact ((back_iff (hr x hx) (hr x hx)).1 e).symm)
        by_cases hm : (x - g) % s ∈ T
        · rw [lkO_yes hm, lkO_yes (by simp [hm])]
        · rw [lkO_no hm, lkO_no (by simp only [List.mem_append, List.mem_singleton]; rintro (q | q); exact hm q; exact hq q)]
      have e2 : aft B (T ++ [x]) zs s g x = some ⟨B y, 0, none⟩ := by
        unfold aft
        rw [if_pos (by simp), hzy, lkO_yes hy]
      rw [e1, e2]
      exact (hxl.set2 _).other _ hbb
    · by_cases ey : x = y
      · subst ey
        have e1 : lkO B (T ++ [z]) ((x - g) % s) = some ⟨B z, 0, none⟩ := by
          rw [(back_iff (hr x hx) (hr z hz)).2 hzy.symm, lkO_yes (by simp)]
        have e2 : aft B (T ++ [z]) zs s g x = aft B T zs s g x := by
          unfold aft
          by_cases hm : x ∈ T
          · rw [if_pos hm, if_pos (by simp [hm])]
          · rw [if_neg hm, if_neg (by simp only [List.mem_append, List.mem_singleton]; rintro (q | q); exact hm q; exact ez q)]
        rw [e1, e2]
        exact (hxl.other _ (fun e => hbb e.symm)).set1 _
      · have e1 : lkO B (T ++ [z]) ((x - g) % s) = lkO B T ((x - g) % s) := by
          have hq : (x - g) % s ≠ z := fun e => ey (by rw [← hzy]; exact (back_iff (hr x hx) (hr z hz)).1 e)
          by_cases hm : (x - g) % s ∈ T
          · rw [lkO_yes hm, lkO_yes (by simp [hm])]
          · rw [lkO_no hm, lkO_no (by simp only [List.mem_append, List.mem_singleton]; rintro (q | q); exact hm q; exact hq q)]
        have e2 : aft B (T ++ [z]) zs s g x = aft B T zs s g x := by
          unfold aft
          by_cases hm : x ∈ T
          · rw [if_pos hm, if_pos (by simp [hm])]
          · rw [if_neg hm, if_neg (by simp only [List.mem_append, List.mem_singleton]; rintro (q | q); exact hm q; exact ez q)]
        rw [e1, e2]
        exact (hxl.other _ (hinj z hz x hx (fun e => ez e.symm))).other _ (hinj y hy x hx (fun e => ey e.symm))
  · exact two_below htw (((Below.refl (w.heap.size + 2) wr).setCell (by show w.heap.size + 2 ≤ B z; omega) _).setCell (by show w.heap.size + 2 ≤ B y; omega) _) (by omega)
  · exact (hbl.setCell (by show w.heap.size ≤ B z; omega) _).setCell (by show w.heap.size ≤ B y; omega) _
  · simpa using hsz
/-- What links hands back. -/
def LksPost (s : Int) (zs : List Int) (g : Int) (w : World) (e : Ending) (w' : World) : Prop :=
  ∃ (B : Int → Nat) (gb cv : Nat), e = .returned (.slice (some ⟨gb, 0, none⟩) zs.length cv) ∧ zs.length ≤ cv ∧ (∀ i z, zs[i]? = some z → w'.cell? ⟨gb, i, none⟩ = some (.pointer (some ⟨B z, 0, none⟩))) ∧
    (∀ z ∈ zs, w.heap.size ≤ B z ∧ Lnk w' (B z) z (lkO B zs ((z - g) % s)) (lkO B zs ((z + g) % s))) ∧ Below w.heap.size w w'
theorem lk2_row {s : Int} {a : Option Addr} {len cap : Nat} {B : Int → Nat} {T zs : List Int} {g : Int} {w wr : World} {av : Option Addr} {cv : Nat} (h : Lk2 s a len cap B T zs g w wr av cv) (h0 : 0 < zs.length) :
    ∃ gb, av = some ⟨gb, 0, none⟩ ∧ zs.length ≤ cv ∧ ∀ i z, zs[i]? = some z → wr.cell? ⟨gb, i, none⟩ = some (.pointer (some ⟨B z, 0, none⟩)) := by
  have hown := h.1
  have hc := @World.ownsRow.cells _ _ _ _ _ _ _ hown
  obtain ⟨_, ⟨_, q⟩ | ⟨gb, cap', cur, e, hB, hg, hn, _⟩⟩ := hown
  · omega
  · cases e
    refine ⟨gb, rfl, hn, fun i z hz => ?_⟩
    have := hc (g := gb) rfl i (.pointer (some ⟨B z, 0, none⟩)) (by unfold lkR; rw [List.getElem?_map, hz]; rfl)
    unfold Addr.add at this
    rw [← this]
    congr 1
    simp
theorem lk2_end {s : Int} {a : Option Addr} {len cap : Nat} {B : Int → Nat} {zs : List Int} {g : Int} {w wr : World} {gb cv : Nat} (h : Lk2 s a len cap B zs zs g w wr (some ⟨gb, 0, none⟩) cv) (h0 : 0 < zs.length) :
    LksPost s zs g w (.returned (.slice (some ⟨gb, 0, none⟩) zs.length cv)) wr := by
  obtain ⟨gb', e, hcv, hc⟩ := lk2_row h h0
  cases e
  refine ⟨B, gb, cv, rfl, hcv, hc, fun z hz => ?_, h.2.2.2.2.1⟩
  obtain ⟨h1, h2⟩ := h.2.2.1 z hz
  rw [show aft B zs zs s g z = lkO B zs ((z + g) % s) from if_pos hz] at h2
  exact ⟨by omega, h2⟩
end Go.Proofs.Ythcmpkhfimapgaa.Rhy
