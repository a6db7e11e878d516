/-
  Helpers of the claims beside this text: patterns on a line: whether it is a pattern, and its course: the program's.
-/
import Derived.Test.YtldpikcgeijkpaaLnc
import Derived.WalkMore
import Derived.Deep.LoopGhost
namespace Go.Proofs.Ytldpikcgeijkpaa.Rhy
open Go.RowKit Go.Maps
set_option linter.unusedVariables false
set_option linter.unusedSimpArgs false
set_option maxRecDepth 100000

/-! ### a box of three cells -/
def Bx3 (w : World) (b : Nat) (v0 v1 v2 : Value) (t : TypeId) : Prop := w.heap[b]? = some (.cells #[v0, v1, v2] t (0, 0))
theorem Bx3.lt {w : World} {b : Nat} {v0 v1 v2 : Value} {t : TypeId} (h : Bx3 w b v0 v1 v2 t) : b < w.heap.size := by
  rcases Nat.lt_or_ge b w.heap.size with h' | h'
  · exact h'
  · unfold Bx3 at h
    rw [Array.getElem?_eq_none h'] at h
    cases h
theorem Bx3.facts {w : World} {b : Nat} {v0 v1 v2 : Value} {t : TypeId} (h : Bx3 w b v0 v1 v2 t) :
    w.cell? ⟨b, 0, none⟩ = some v0 ∧ w.cell? ⟨b, 1, none⟩ = some v1 ∧ w.cell? ⟨b, 2, none⟩ = some v2 ∧ w.frozen? ⟨b, 0, none⟩ = false ∧ w.frozen? ⟨b, 1, none⟩ = false ∧ w.frozen? ⟨b, 2, none⟩ = false := by
  unfold Bx3 at h
  refine ⟨?_, ?_, ?_, ?_, ?_, ?_⟩ <;> simp [World.cell?, World.frozen?, h]
theorem bx3_new (w : World) (v0 v1 v2 : Value) (t : TypeId) : Bx3 (w.alloc (.cells #[v0, v1, v2] t)) w.heap.size v0 v1 v2 t := heap_alloc_new w _
theorem Bx3.keep {w w' : World} {b B : Nat} {v0 v1 v2 : Value} {t : TypeId} (h : Bx3 w b v0 v1 v2 t) (hb : Below B w w') (hB : b < B) : Bx3 w' b v0 v1 v2 t := by
  unfold Bx3
  rw [hb.block b hB]
  exact h
theorem Bx3.kept {w w' : World} {b : Nat} {v0 v1 v2 : Value} {t : TypeId} {row : Option Nat} (h : Bx3 w b v0 v1 v2 t) (hg : w.grownBy w' row) (hne : some b ≠ row) : Bx3 w' b v0 v1 v2 t := by
  obtain ⟨_, _, _, _, h5⟩ := hg
  unfold Bx3
  rw [h5 b h.lt (by first | exact hne | exact fun e => hne e.symm)]
  exact h
theorem Bx3.set0 {w : World} {b : Nat} {v0 v1 v2 : Value} {t : TypeId} (h : Bx3 w b v0 v1 v2 t) (v : Value) : Bx3 (w.setCell ⟨b, 0, none⟩ v) b v v1 v2 t := heap_setCell_same w b 0 _ _ _ h
theorem Bx3.set1 {w : World} {b : Nat} {v0 v1 v2 : Value} {t : TypeId} (h : Bx3 w b v0 v1 v2 t) (v : Value) : Bx3 (w.setCell ⟨b, 1, none⟩ v) b v0 v v2 t := heap_setCell_same w b 1 _ _ _ h
theorem Bx3.set2 {w : World} {b : Nat} {v0 v1 v2 : Value} {t : TypeId} (h : Bx3 w b v0 v1 v2 t) (v : Value) : Bx3 (w.setCell ⟨b, 2, none⟩ v) b v0 v1 v t := heap_setCell_same w b 2 _ _ _ h
theorem Bx3.other {w : World} {b c o : Nat} {v0 v1 v2 : Value} {t : TypeId} (h : Bx3 w b v0 v1 v2 t) (v : Value) (hc : c ≠ b) : Bx3 (w.setCell ⟨c, o, none⟩ v) b v0 v1 v2 t := by
  unfold Bx3
  rw [Below.heap_setCell _ _ _ _ (by show b ≠ c; omega)]
  exact h

/-! ### a set of numbers, and how many -/
def SeenL (w : World) (b m : Nat) (L : List Int) : Prop :=
  ∃ D : DataW Unit, w.ownsMap Try.prog 3 (plainElem Try.prog 4) b m D ∧ (∀ z : Int, D.atKey (.int .i64 z) (.lit (.bool false)) = .lit (.bool (decide (z ∈ L)))) ∧ (∀ z : Int, Maps.has D (.int .i64 z) = decide (z ∈ L)) ∧ Maps.size D = L.length
theorem SeenL.made (w : World) : SeenL (w.alloc (.map #[] 0)) w.heap.size 0 [] := ⟨.map [], World.ownsMap_made _ _ _ _, fun z => by rw [atKey_of_not_has (by rfl)]; simp, fun z => by rfl, rfl⟩
theorem SeenL.seen {w : World} {b m : Nat} {L : List Int} (h : SeenL w b m L) : Seen w b m L := by obtain ⟨D, h1, h2, _⟩ := h; exact ⟨D, h1, h2⟩
theorem SeenL.lt {w : World} {b m : Nat} {L : List Int} (h : SeenL w b m L) : b < w.heap.size := h.seen.lt
theorem SeenL.kept {w w' : World} {b m : Nat} {L : List Int} (h : SeenL w b m L) {row : Option Nat} (hg : w.grownBy w' row) (hne : some b ≠ row) : SeenL w' b m L := by
  obtain ⟨D, h, h2⟩ := h
  exact ⟨D, h.kept hg hne, h2⟩
theorem SeenL.below {w w' : World} {b m B : Nat} {L : List Int} (h : SeenL w b m L) (hb : Below w.heap.size w w') : SeenL w' b m L := h.kept (grown_of_below hb none) (by simp)
theorem SeenL.set {w : World} {b m : Nat} {L : List Int} (h : SeenL w b m L) {g : Nat} (hg : g ≠ b) (j : Nat) (v : Value) : SeenL (w.setCell ⟨g, j, none⟩ v) b m L := by
  obtain ⟨D, h, h2⟩ := h
  exact ⟨D, h.setCell (a := ⟨g, j, none⟩) (fun e => hg e.symm) _, h2⟩
theorem lookup_seenL {w : World} {b m : Nat} {L : List Int} {z : Int} {t : TypeId} (ht : Try.prog.underlying t = some (.map 3 4)) (hz : -9223372036854775808 ≤ z ∧ z ≤ 9223372036854775807) (h : Seen w b m L) :
    (Instr.lookup t (.map (some b)) (.int .i64 z) false).run Try.prog w = .ok (.bool (decide (z ∈ L))) w := by
  obtain ⟨D, hown, h1⟩ := h
  obtain ⟨v, ps, hrun, hv⟩ := hown.lookup lawN ht (zeroB w) (plainElem_bool Try.underlying4 false) (keyOf_int_mk Try.underlying3 (wfi hz))
  rw [h1 z] at hv
  obtain ⟨x', rfl, hx'⟩ := plainElem_bool_inv Try.underlying4 hv
  have e : decide (z ∈ L) = x' := by
    injection hx' with e1 _; injection e1 with e2; injection e2
  rw [e]
  exact hrun
theorem len_seenL {w : World} {b m n : Nat} {L : List Int} {t : TypeId} (ty : TypeId) (ht : Try.prog.underlying t = some (.map 3 4)) (h : SeenL w b m L) (hn : L.length = n) :
    (Builtin.len_ #[t] ty #[.map (some b)]).run Try.prog w = .ok (.int .i64 n) w := by
  obtain ⟨D, hown, _, _, h4⟩ := h
  rw [hown.len ht ty, h4, hn]
section
variable (w : World) {ops : Array Oper} {rest : List Oper} {o : Oper} {a : Act} {Q : Exit → Act → World → Prop}
theorem wpList_len_seen (hg : o.guard = none) (x : Operand) (t : TypeId) (hop : o.op = Op.call { callee := Callee.builtin Builtin.len, args := #[x], argTypes := #[t] }) (ht : Try.prog.underlying t = some (.map 3 4)) (b m : Nat) (L : List Int) (n : Nat) (hn : L.length = n)
    (hm : a.eval x = .map (some b)) (hc : SeenL w b m L) (hK : wpList Try.prog ops Q rest (a.put o.dst (.int .i64 n)) w) : wpList Try.prog ops Q (o :: rest) a w := by
  obtain ⟨D, hown, _, _, h4⟩ := hc
  refine wpList_len_own w hg x t hop _ _ ht _ b m D hm hown ?_
  rw [h4, hn]
  exact hK
theorem wpList_store_seenL (hg : o.guard = none) (x y v : Operand) (t : TypeId) (hop : o.op = Op.mapUpdate t x y v) (ht : Try.prog.underlying t = some (.map 3 4)) (b m : Nat) (hmm : m ≤ 1000000) (L : List Int) (z : Int) (hz : -9223372036854775808 ≤ z ∧ z ≤ 9223372036854775807) (hn : ¬ z ∈ L)
    (hm : a.eval x = .map (some b)) (hc : SeenL w b m L) (hx : a.eval y = .int .i64 z) (hv : a.eval v = .bool true) (hK : ∀ w', SeenL w' b (m + 1) (L ++ [z]) → w.grownBy w' (some b) → wpList Try.prog ops Q rest (a.put o.dst undef) w') : wpList Try.prog ops Q (o :: rest) a w := by
  obtain ⟨D, hown, h1, h2, h3⟩ := hc
  have hkey := keyOf_int_mk Try.underlying3 (wfi hz)
  refine wpList_mapUpdate_own w hg x y v t hop _ _ lawN ht _ b m D hm hown (by unfold maxLen; omega) _ _ _ hx hv hkey _ [] (plainElem_bool Try.underlying4 true) fun w' hown' hgr => ?_
  refine hK w' ⟨_, hown', fun q => ?_, fun q => ?_, ?_⟩ hgr
  · by_cases e : q = z
    · subst e
      rw [atKey_put_same (hown.tidy lawN).isMap (lawN.key hkey)]
      simp
    · rw [atKey_put_other (fun e2 => e (by injection e2)), h1 q]
      simp [e]
  · by_cases e : q = z
    · subst e
      rw [has_put_same (hown.tidy lawN).isMap (lawN.key hkey)]
      simp
    · rw [has_put_other (fun e2 => e (by injection e2)), h2 q]
      simp [e]
  · rw [size_put (hown.tidy lawN), h2 z, if_neg (by simpa using hn), h3, List.length_append]
    rfl
end

/-! ### the program's PatternOk -/
theorem pok_impl (a : Option Addr) (len cap : Nat) (zs : List Int) (w : World) (h : IntsAt w a len zs) (hm : len ≤ 1048576) (hcap : len ≤ cap) (q : Bool) (hq : (PatC zs → q = true) ∧ (¬ PatC zs → q = false)) :
    Calls Try.prog 31 #[.slice a len cap] w fun e w' => e = .returned (.bool q) ∧ w = w' := by
  have HS := Lib.hid h
  have HQ := Lib.hid hq
  clear h hq
  by_cases h0 : len = 0
  · have HE : Hid (q = false) := Lib.hid (HQ.out.2 (fun hc => by have h1 := hc.1; rw [List.getElem?_eq_none (by rw [HS.out.1]; omega)] at h1; cases h1))
    subst h0
    go_enter Try.func31, Try.ntmps31
    go_wp2
    go_ret
    exact ⟨ret_q HE.out.symm, rfl⟩
  · obtain ⟨b, off, z, rfl, hb, hs, hc, hz1, hz2⟩ := HS.out.at (k := 0) (by omega)
    rw [Nat.add_zero] at hc
    have hl0 : ((len : Int) == 0) = false := by simp; omega
    by_cases hz : z = 0
    · subst hz
      have H0 := Lib.hid hs
      clear hs
      by_cases hc1 : cap = 1
      · have hlen : len = 1 := by omega
        subst hc1 hlen
        have HE : Hid (q = true) := Lib.hid (HQ.out.1 (patC_of H0.out (by rw [HS.out.1]; intro j x y hj; omega)))
        go_enter Try.func31, Try.ntmps31
        go_wp2
        go_loop [17] (fun i => i = .int .i64 0) (fun i => 0)
        case atStart => rfl
        case round =>
          subst hrel
          go_wp2
          go_ret
          exact ⟨ret_q HE.out.symm, rfl⟩
      · obtain ⟨N, hN⟩ : ∃ N : Nat, len = N + 1 := ⟨len - 1, by omega⟩
        subst hN
        go_enter Try.func31, Try.ntmps31
        go_wp2
        go_loop [17] (fun i => ∃ (k : Nat), k ≤ N ∧ i = .int .i64 k ∧ Hid (PatK zs (k + 1))) (fun i => N - (intOf i).toNat)
        case atStart => exact ⟨0, by omega, rfl, Lib.hid (fun j x y hj => by omega)⟩
        case round =>
          obtain ⟨k, hk, rfl, HG⟩ := hrel
          by_cases hlt : k < N
          · obtain ⟨b', off', y, he, hb', hs', hc', hy1, hy2⟩ := HS.out.at (k := k) (by omega)
            obtain ⟨rfl, rfl⟩ : b = b' ∧ off = off' := by simpa using he
            obtain ⟨b', off', z, he', hb', hs, hc2, hz1, hz2⟩ := HS.out.at (k := k + 1) (by omega)
            obtain ⟨rfl, rfl⟩ : b = b' ∧ off = off' := by simpa using he'
            rw [show off + (k + 1) = off + 1 + k by omega] at hc2
            by_cases hle : z ≤ y
            · have HE : Hid (q = false) := Lib.hid (HQ.out.2 (fun hc => by have h1 := hc.2 k y z hs' hs; omega))
              clear hs hs' he he' hb'
              go_wp2
              go_ret
              exact ⟨ret_q HE.out.symm, rfl⟩
            · by_cases hgt : 12 < z
              · have HE : Hid (q = false) := Lib.hid (HQ.out.2 (fun hc => by have h1 := hc.2 k y z hs' hs; omega))
                clear hs hs' he he' hb'
                go_wp2
                go_ret
                exact ⟨ret_q HE.out.symm, rfl⟩
              · have HF : Hid (PatK zs (k + 1 + 1)) := Lib.hid (patK_snoc HG.out hs' hs (by omega) (by omega))
                clear hs hs' he he' hb'
                go_wp2
                go_round
                case rel => exact ⟨k + 1, by omega, by go_num, HF⟩
                case measure => simp [intOf]; omega
          · have HE : Hid (q = true) := Lib.hid (HQ.out.1 (patC_of H0.out (by rw [HS.out.1, show N = k by omega]; exact HG.out)))
            go_wp2
            go_ret
            exact ⟨ret_q HE.out.symm, rfl⟩
    · have hz' : (z == 0) = false := by simpa using hz
      have HE : Hid (q = false) := Lib.hid (HQ.out.2 (fun hc => by have h1 := hc.1; rw [hs] at h1; injection h1 with e1; exact hz e1))
      clear hs hz
      go_enter Try.func31, Try.ntmps31
      go_wp2
      go_ret
      exact ⟨ret_q HE.out.symm, rfl⟩

/-! ### the program's course -/
theorem lay_yes {t x : Nat} {L ys : List Nat} (h : ¬ t + x ∈ L) : layN t L (x :: ys) = layN t (L ++ [t + x]) ys := by
  simp only [layN]
  rw [if_neg (by simpa using h)]
theorem lay_no {t x : Nat} {L ys : List Nat} (h : t + x ∈ L) : layN t L (x :: ys) = none := by
  simp only [layN]
  rw [if_pos (by simpa using h)]
theorem drop_cons {xs : List Nat} {k x : Nat} (h : xs[k]? = some x) : xs.drop k = x :: xs.drop (k + 1) := by
  have hk : k < xs.length := by
    rcases Nat.lt_or_ge k xs.length with h3 | h3
    · exact h3
    · rw [List.getElem?_eq_none h3] at h; cases h
  rw [List.drop_eq_getElem_cons hk]
  rw [List.getElem?_eq_getElem hk] at h
  injection h with h
  rw [h]
/-- The box of a course. -/
abbrev BxC (w : World) (b : Nat) (v : Value) (t : Nat) (g : Bool) : Prop := Bx3 w b v (.int .i64 t) (.bool g) 85
def CrsPost (es : List Nat) (t : Nat) (g : Bool) (w : World) (e : Ending) (w' : World) : Prop :=
  ∃ b c, e = .returned (.agg #[.slice b es.length c, .int .i64 (t : Nat), .bool g]) ∧ w'.ownsRow w.heap.size 3 1 (.slice b es.length c) es.length (ints (zsN es)) ∧ Below w.heap.size w w'
theorem crs_seen {xs L ES : List Nat} {f T : Nat} (hgo : T = 0 ∨ T < L.length) (hin : T ∈ L) : crsN xs (f + 1) T L ES = crsN xs f (T + 1) L ES := by
  conv => lhs; unfold crsN
  rw [if_pos (by rcases hgo with h | h; simp [h]; simp [h]), if_pos (by simpa using hin)]
theorem crs_none {xs L ES : List Nat} {f T : Nat} (hgo : T = 0 ∨ T < L.length) (hin : ¬ T ∈ L) (h : layN T L xs = none) : crsN xs (f + 1) T L ES = some (ES, T, false) := by
  conv => lhs; unfold crsN
  rw [if_pos (by rcases hgo with h | h; simp [h]; simp [h]), if_neg (by simpa using hin), h]
theorem crs_some {xs L L' ES : List Nat} {f T : Nat} (hgo : T = 0 ∨ T < L.length) (hin : ¬ T ∈ L) (h : layN T L xs = some L') : crsN xs (f + 1) T L ES = crsN xs f (T + 1) L' (ES ++ [T]) := by
  conv => lhs; unfold crsN
  rw [if_pos (by rcases hgo with h | h; simp [h]; simp [h]), if_neg (by simpa using hin), h]
theorem crs_end {xs L ES : List Nat} {f T : Nat} (hgo : ¬ (T = 0 ∨ T < L.length)) : crsN xs (f + 1) T L ES = some (ES, T, true) := by
  conv => lhs; unfold crsN
  rw [if_neg (by simp; omega)]
/-- What the outer loop keeps. -/
structure OutC (w wr : World) (xs : List Nat) (f T : Nat) (L ES : List Nat) (R : Option (List Nat × Nat × Bool)) (av : Option Addr) (cv M : Nat) : Prop where
  run : crsN xs f T L ES = R
  sum : T + f = 40
  res : Bx3 wr w.heap.size (.slice none 0 0) (.int .i64 0) (.bool false) 85
  box : BxC wr (w.heap.size + 1) (.slice av ES.length cv) T true
  map : SeenL wr (w.heap.size + 1 + 1) M (zsN L)
  mle : M + 100 * f ≤ 10000
  lle : L.length + 100 * f ≤ 10000
  ele : ES.length + f ≤ 40
  row : wr.ownsRow (w.heap.size + 3) 3 1 (.slice av ES.length cv) ES.length (ints (zsN ES))
  bel : Below w.heap.size w wr
  siz : w.heap.size + 3 ≤ wr.heap.size
/-- What the inner loop keeps. -/
structure InC (w wr : World) (xs : List Nat) (T : Nat) (L L' : List Nat) (k : Nat) (ES : List Nat) (av : Option Addr) (cv M : Nat) : Prop where
  run : layN T L xs = layN T L' (xs.drop k)
  res : Bx3 wr w.heap.size (.slice none 0 0) (.int .i64 0) (.bool false) 85
  box : BxC wr (w.heap.size + 1) (.slice av ES.length cv) T true
  map : SeenL wr (w.heap.size + 1 + 1) M (zsN L')
  row : wr.ownsRow (w.heap.size + 3) 3 1 (.slice av ES.length cv) ES.length (ints (zsN ES))
  bel : Below w.heap.size w wr
  siz : w.heap.size + 3 ≤ wr.heap.size
theorem outC_lt {w wr : World} {xs L ES : List Nat} {f T : Nat} {R : Option (List Nat × Nat × Bool)} {av : Option Addr} {cv M : Nat} (h : OutC w wr xs f T L ES R av cv M) : f ≤ 40 ∧ T ≤ 40 := by have := h.sum; omega

theorem outC_tick {w wr : World} {xs L ES : List Nat} {f T : Nat} {R : Option (List Nat × Nat × Bool)} {av : Option Addr} {cv M : Nat} (h : OutC w wr xs (f + 1) T L ES R av cv M) (hr : crsN xs f (T + 1) L ES = R) :
    OutC w (wr.setCell ⟨w.heap.size + 1, 1, none⟩ (.int .i64 ((T + 1 : Nat) : Int))) xs f (T + 1) L ES R av cv M where
  run := hr
  sum := by have := h.sum; omega
  res := h.res.other _ (by omega)
  box := h.box.set1 _
  map := h.map.set (by omega) _ _
  mle := by have := h.mle; omega
  lle := by have := h.lle; omega
  ele := by have := h.ele; omega
  row := ownsRow_setCell_below h.row (by show w.heap.size + 1 < w.heap.size + 3; omega) _
  bel := h.bel.setCell (by show w.heap.size ≤ w.heap.size + 1; omega) _
  siz := by have := h.siz; simpa using this
theorem row_zs {W : World} {B : Nat} {av : Option Addr} {cv : Nat} {ES : List Nat} (h : W.ownsRow B 3 1 (.slice av ES.length cv) ES.length (ints (zsN ES))) : W.ownsRow B 3 1 (.slice av ES.length cv) (zsN ES).length (ints (zsN ES)) := by
  rw [zsN_len]; exact h
theorem app_keep {w wy w' : World} {xs L L' ES : List Nat} {T k cv M2 c' : Nat} {av a' : Option Addr} (h : InC w wy xs T L L' k ES av cv M2)
    (ho : w'.ownsRow (w.heap.size + 3) 3 1 (.slice a' (zsN ES ++ [(T : Int)]).length c') (zsN ES ++ [(T : Int)]).length (ints (zsN ES ++ [(T : Int)]))) (hb : Below (w.heap.size + 3) wy w') :
    Hid (w'.ownsRow (w.heap.size + 3) 3 1 (.slice a' (ES ++ [T]).length c') (ES ++ [T]).length (ints (zsN (ES ++ [T])))) ∧ Hid (Below w.heap.size w w') ∧
      Hid (Bx3 w' w.heap.size (.slice none 0 0) (.int .i64 0) (.bool false) 85) ∧ Hid (BxC w' (w.heap.size + 1) (.slice av ES.length cv) T true) ∧ Hid (SeenL w' (w.heap.size + 1 + 1) M2 (zsN L')) ∧ Hid (w.heap.size + 3 ≤ w'.heap.size) := by
  refine ⟨Lib.hid ?_, Lib.hid (h.bel.trans (hb.mono (by omega))), Lib.hid (h.res.keep hb (by omega)), Lib.hid (h.box.keep hb (by omega)), Lib.hid ?_, Lib.hid (Nat.le_trans h.siz hb.size)⟩
  · rw [zsN_snoc]
    simpa [zsN_len] using ho
  · obtain ⟨D, h1, h2⟩ := h.map
    obtain ⟨es, clock, hh, r⟩ := h1
    exact ⟨D, ⟨es, clock, (hb.block _ (by omega)).trans hh, r⟩, h2⟩

theorem own_grownL {w w' : World} {B : Nat} {e : TypeId} {size : Nat} {v : Value} {n : Nat} {xs : List Value} {b : Nat} (h : w.ownsRow B e size v n xs) (hg : w.grownBy w' (some b)) (hne : ∀ j, v.ownBlock = some j → b = j → False) : w'.ownsRow B e size v n xs := by
  cases hv : v.ownBlock with
  | none => exact h.kept hg (.inl hv)
  | some g => exact h.kept hg (.inr (by rw [hv]; exact fun e => hne g hv (by injection e with e; exact e.symm)))
theorem crspost_of {w w' : World} {es ES : List Nat} {t T cv : Nat} {g gg : Bool} {av : Option Addr} (hr : some (ES, T, gg) = some (es, t, g))
    (ho : w'.ownsRow (w.heap.size + 3) 3 1 (.slice av ES.length cv) ES.length (ints (zsN ES))) (hb : Below w.heap.size w w') : CrsPost es t g w (.returned (.agg #[.slice av ES.length cv, .int .i64 (T : Nat), .bool gg])) w' := by
  injection hr with hr
  injection hr with e1 hr
  injection hr with e2 e3
  subst e1 e2 e3
  exact ⟨av, cv, rfl, own_base ho (by omega), hb⟩
theorem inC_tick {w wy w3 : World} {xs L L' L2 ES : List Nat} {T k cv M2 : Nat} {av : Option Addr} (h : InC w wy xs T L L' k ES av cv M2) (hr : layN T L xs = layN T L2 (xs.drop (k + 1))) (hs : SeenL w3 (w.heap.size + 1 + 1) (M2 + 1) (zsN L2)) (hg : wy.grownBy w3 (some (w.heap.size + 1 + 1))) :
    InC w w3 xs T L L2 (k + 1) ES av cv (M2 + 1) where
  run := hr
  res := h.res.kept hg (fun e => by have := Option.some.inj e; omega)
  box := h.box.kept hg (fun e => by have := Option.some.inj e; omega)
  map := hs
  row := own_grownL h.row hg (fun j hj e => by have h1 := (h.row.lt j hj).1; omega)
  bel := h.bel.grown hg (by have := h.siz; omega) (fun j e => by have h2 : w.heap.size + 1 + 1 = j := Option.some.inj e; omega)
  siz := Nat.le_trans h.siz hg.size
theorem outC_app {w w' : World} {xs L' ES : List Nat} {f T c' M2 cv : Nat} {R : Option (List Nat × Nat × Bool)} {a' av : Option Addr} (hr : crsN xs f (T + 1) L' (ES ++ [T]) = R) (hs : T + 1 + f = 40) (hm : M2 + 100 * f ≤ 10000) (hl : L'.length + 100 * f ≤ 10000) (he : ES.length + 1 + f ≤ 40)
    (ho : w'.ownsRow (w.heap.size + 3) 3 1 (.slice a' (ES.length + 1) c') (ES.length + 1) (ints (zsN (ES ++ [T])))) (hb : Below w.heap.size w w')
    (hre : Bx3 w' w.heap.size (.slice none 0 0) (.int .i64 0) (.bool false) 85) (hbo : BxC w' (w.heap.size + 1) (.slice av ES.length cv) T true) (hmp : SeenL w' (w.heap.size + 1 + 1) M2 (zsN L')) (hsz : w.heap.size + 3 ≤ w'.heap.size) :
    OutC w ((w'.setCell ⟨w.heap.size + 1, 0, none⟩ (.slice a' ((zsN ES).length + 1) c')).setCell ⟨w.heap.size + 1, 1, none⟩ (.int .i64 ((T : Int) + 1))) xs f (T + 1) L' (ES ++ [T]) R a' c' M2 where
  run := hr
  sum := by omega
  res := (hre.other _ (by omega)).other _ (by omega)
  box := by
    have h := (hbo.set0 (.slice a' ((zsN ES).length + 1) c')).set1 (.int .i64 ((T : Int) + 1))
    rw [zsN_len] at h ⊢
    show Bx3 _ _ (.slice a' (ES ++ [T]).length c') (.int .i64 ((T + 1 : Nat) : Int)) (.bool true) _
    rw [List.length_append]
    exact h
  map := (hmp.set (by omega) _ _).set (by omega) _ _
  mle := hm
  lle := hl
  ele := by simp; omega
  row := by
    have h := ownsRow_setCell_below (ownsRow_setCell_below ho (by show w.heap.size + 1 < w.heap.size + 3; omega) (a := ⟨w.heap.size + 1, 0, none⟩) (.slice a' ((zsN ES).length + 1) c')) (by show w.heap.size + 1 < w.heap.size + 3; omega) (a := ⟨w.heap.size + 1, 1, none⟩) (.int .i64 ((T : Int) + 1))
    rw [List.length_append]
    exact h
  bel := (hb.setCell (by show w.heap.size ≤ w.heap.size + 1; omega) _).setCell (by show w.heap.size ≤ w.heap.size + 1; omega) _
  siz := by simpa using hsz

set_option maxHeartbeats 1000000 in
theorem lcrs_impl (a : Option Addr) (len cap : Nat) (zs : List Int) (xs es : List Nat) (t : Nat) (g : Bool) (w : World) (h : IntsAt w a len zs) (hm : len ≤ 1048576) (hp : PatC zs) (C : Crs zs xs es t g) :
    Calls Try.prog 72 #[.slice a len cap] w (CrsPost es t g w) := by
  have HS := Lib.hid h
  have HC := Lib.hid C
  have HX := Lib.hid (C.small hp)
  have hl13 : len ≤ 13 := by have := C.len; rw [← h.1, C.pat, zsN_len]; exact this
  have hll : xs.length = len := by rw [← HS.out.1, C.pat, zsN_len]
  have HL := Lib.hid hll
  clear h C hp hll
  have hmm := @run_makeMap Try.prog
  go_enter Try.func72, Try.ntmps72
  go_wp2
  go_step3
  go_wp2
  go_step3
  go_wp2
  obtain ⟨W0, HW⟩ : ∃ W0, Hid (W0 = (((w.alloc (.cells #[.slice none 0 0, .int .i64 0, .bool false] 85)).alloc (.cells #[.slice none 0 0, .int .i64 0, .bool true] 85)).alloc (.map #[] 0))) := ⟨_, Lib.hid rfl⟩
  rw [← HW.out]
  have HI0 : Hid (OutC w W0 xs 40 0 [] [] (some (es, t, g)) none 0 0) := Lib.hid {
    run := HC.out.run
    sum := rfl
    res := by rw [HW.out]; exact ((bx3_new w _ _ _ _).keep ((bel2 _ _ _)) (by simp))
    box := by rw [HW.out]; show Bx3 _ _ _ (.int .i64 0) (.bool true) _; simpa using (bx3_new (w.alloc (.cells #[.slice none 0 0, .int .i64 0, .bool false] 85)) (.slice none 0 0) (.int .i64 0) (.bool true) 85).keep (bel1 _ _) (by simp)
    map := by rw [HW.out]; show SeenL _ _ _ []; simpa using SeenL.made ((w.alloc (.cells #[.slice none 0 0, .int .i64 0, .bool false] 85)).alloc (.cells #[.slice none 0 0, .int .i64 0, .bool true] 85))
    mle := by omega
    lle := by simp
    ele := by simp
    row := World.ownsRow_nil _ _ _ _
    bel := by rw [HW.out]; exact bel3 _ _ _ _
    siz := by rw [HW.out]; simp }
  clear hmm
  go_loopg [6] 40 (fun f _ wr => ∃ (T : Nat) (L ES : List Nat) (av : Option Addr) (cv M : Nat), OutC w wr xs f T L ES (some (es, t, g)) av cv M)
  case atStart => exact ⟨0, [], [], none, 0, 0, HI0.out⟩
  case round =>
    clear HI0 HW
    obtain ⟨T, L, ES, av, cv, M, hI⟩ := hrel
    have HI := Lib.hid hI
    have hsum := hI.sum
    have hmle := hI.mle
    have hlle := hI.lle
    have hele := hI.ele
    have hsiz := hI.siz
    obtain ⟨b0, b1, b2, f0, f1, f2⟩ := hI.box.facts
    have hblt := hI.box.lt
    cases gk with
    | zero => exact absurd hI.run (by simp [crsN])
    | succ f =>
      clear hI
      by_cases hgo : T = 0 ∨ T < L.length
      · have hlk := lookup_seenL Try.underlying116 (z := (T : Int)) ⟨by omega, by omega⟩ HI.out.map.seen
        by_cases hin : T ∈ L
        · have HR : Hid (crsN xs f (T + 1) L ES = some (es, t, g)) := Lib.hid (by rw [← crs_seen hgo hin]; exact HI.out.run)
          rw [decide_eq_true (zsN_has.2 hin)] at hlk
          clear hin
          by_cases h0 : T = 0
          · have hz : ((T : Int) == 0) = true := by simp [h0]
            clear hgo h0
            go_wp2
            go_roundg f
            case measure => omega
            case rel => exact ⟨T + 1, L, ES, av, cv, M, outC_tick HI.out HR.out⟩
          · have hz : ((T : Int) == 0) = false := by simp; omega
            have hlt : T < L.length := by omega
            clear hgo h0
            have hln := len_seenL 3 Try.underlying116 HI.out.map (zsN_len L)
            go_wp2
            go_roundg f
            case measure => omega
            case rel => exact ⟨T + 1, L, ES, av, cv, M, outC_tick HI.out HR.out⟩
        · have HRN : Hid (layN T L xs = none → some (ES, T, false) = some (es, t, g)) := Lib.hid (fun h => by rw [← crs_none hgo hin h]; exact HI.out.run)
          have HRS : Hid (∀ L', layN T L xs = some L' → crsN xs f (T + 1) L' (ES ++ [T]) = some (es, t, g)) := Lib.hid (fun L' h => by rw [← crs_some hgo hin h]; exact HI.out.run)
          rw [decide_eq_false (fun h => hin (zsN_has.1 h))] at hlk
          clear hin
          by_cases h0 : T = 0
          · have hz : ((T : Int) == 0) = true := by simp [h0]
            clear hgo h0
            go_wp2
            go_loopg [29] len (fun f2 i2 wy => ∃ (k M2 : Nat) (L' : List Nat), k + f2 = len ∧ i2 = .int .i64 (k : Nat) ∧ M2 ≤ M + k ∧ L'.length ≤ L.length + k ∧ InC w wy xs T L L' k ES av cv M2)
            case atStart => exact ⟨0, M, L, by omega, rfl, by omega, by omega, ⟨by rw [List.drop_zero], HI.out.res, HI.out.box, HI.out.map, HI.out.row, HI.out.bel, HI.out.siz⟩⟩
            case round =>
              clear hlk b0 b1 b2 f0 f1 f2 hblt hsiz
              obtain ⟨k, M2, L', hk, rfl, hM2, hL2, hJ⟩ := hrel
              have HJ := Lib.hid hJ
              have hsiz := hJ.siz
              obtain ⟨b0, b1, b2, f0, f1, f2⟩ := hJ.box.facts
              have hblt := hJ.box.lt
              have HSA := Lib.hid (HS.out.below hJ.bel)
              clear hJ
              cases gk with
              | zero =>
                have hkl : k = len := by omega
                have HR : Hid (crsN xs f (T + 1) L' (ES ++ [T]) = some (es, t, g)) := Lib.hid (HRS.out L' (by rw [HJ.out.run, List.drop_of_length_le (by rw [HL.out]; omega)]; rfl))
                have hlt : ¬ (k < len) := by omega
                go_wp2_with (at_builtin; refine append_int rfl _ _ rfl (w.heap.size + 3) _ (zsN ES) _ _ (row_zs HJ.out.row) (by rw [zsN_len]; omega) HJ.out.siz _ rfl rfl rfl ?_; intro a' c' w' hown' hb'; obtain ⟨HO2, HX2, HRE, HBO, HMP, HSZ⟩ := app_keep HJ.out hown' hb'; obtain ⟨p0, p1, p2, p3, p4, p5⟩ := HBO.out.facts; have plt := HBO.out.lt; clear hown' hb')
                go_roundg f
                case measure => omega
                case rel => exact ⟨T + 1, L', ES ++ [T], a', c', M2, outC_app HR.out (by omega) (by omega) (by omega) (by omega) (by simpa [zsN_len] using HO2.out) HX2.out HRE.out (by simpa [zsN_len] using HBO.out) HMP.out HSZ.out⟩
              | succ f2 =>
                have hlt : k < len := by omega
                obtain ⟨b, off, z, rfl, hb, hs, hc, hz1, hz2⟩ := HSA.out.at hlt
                obtain ⟨x, hxk, rfl⟩ : ∃ x, xs[k]? = some x ∧ z = (x : Int) := zsN_at (by rw [← HC.out.pat]; exact hs)
                have hx12 : x ≤ 12 := HX.out x (List.mem_of_getElem? hxk)
                have hlk2 := lookup_seenL Try.underlying116 (z := (T : Int) + (x : Int)) ⟨by omega, by omega⟩ HJ.out.map.seen
                have HD := Lib.hid (drop_cons hxk)
                by_cases hin2 : T + x ∈ L'
                · have HR : Hid (some (ES, T, false) = some (es, t, g)) := Lib.hid (HRN.out (by rw [HJ.out.run, HD.out, lay_no hin2]))
                  rw [decide_eq_true (show (T : Int) + (x : Int) ∈ zsN L' by rw [← Int.natCast_add]; exact zsN_has.2 hin2)] at hlk2
                  obtain ⟨d0, d1, d2, e0, e1, e2⟩ := HJ.out.res.facts
                  have hdl := HJ.out.res.lt
                  clear hin2 hs hxk
                  go_wp2
                  rw [Exit.noGoto_ret]
                  have HF := Lib.hid ((((HJ.out.res.other (c := w.heap.size + 1) (o := 2) (.bool false) (by omega)).set0 (.slice av ES.length cv)).set1 (.int .i64 (T : Nat))).set2 (.bool false))
                  obtain ⟨y0, y1, y2, y3, y4, y5⟩ := HF.out.facts
                  refine bodyPost_ret (v := .agg #[.slice av ES.length cv, .int .i64 (T : Nat), .bool false]) (by simp [results, Try.results72, go_sem, *]) rfl (crspost_of HR.out ?_ ?_)
                  · exact ownsRow_setCell_below (ownsRow_setCell_below (ownsRow_setCell_below (ownsRow_setCell_below HJ.out.row (by show w.heap.size + 1 < w.heap.size + 3; omega) _) (by show w.heap.size < w.heap.size + 3; omega) _) (by show w.heap.size < w.heap.size + 3; omega) _) (by show w.heap.size < w.heap.size + 3; omega) _
                  · exact (((HJ.out.bel.setCell (by show w.heap.size ≤ w.heap.size + 1; omega) _).setCell (Nat.le_refl _) _).setCell (Nat.le_refl _) _).setCell (Nat.le_refl _) _
                · have HRN2 : Hid (layN T L xs = layN T (L' ++ [T + x]) (xs.drop (k + 1))) := Lib.hid (by rw [HJ.out.run, HD.out, lay_yes hin2])
                  have HNI : Hid (¬ (T : Int) + (x : Int) ∈ zsN L') := Lib.hid (fun h => hin2 (zsN_has.1 (by rwa [Int.natCast_add])))
                  rw [decide_eq_false HNI.out] at hlk2
                  clear hin2 hs hxk
                  go_wp2_with (at_mapUpdate; refine wpList_store_seenL _ rfl _ _ _ _ rfl Try.underlying116 (w.heap.size + 1 + 1) M2 (by omega) (zsN L') ((T : Int) + (x : Int)) ⟨by omega, by omega⟩ HNI.out rfl HJ.out.map rfl rfl ?_; intro w3 hse3 hg3; go_frame)
                  go_roundg f2
                  case measure => omega
                  case rel => exact ⟨k + 1, M2 + 1, L' ++ [T + x], by omega, by go_num, by omega, by simp; omega, inC_tick HJ.out HRN2.out (by rw [zsN_snoc, Int.natCast_add]; exact hse3) hg3⟩
          · have hz : ((T : Int) == 0) = false := by simp; omega
            have hlt : T < L.length := by omega
            clear hgo h0
            have hln := len_seenL 3 Try.underlying116 HI.out.map (zsN_len L)
            go_wp2
            go_loopg [29] len (fun f2 i2 wy => ∃ (k M2 : Nat) (L' : List Nat), k + f2 = len ∧ i2 = .int .i64 (k : Nat) ∧ M2 ≤ M + k ∧ L'.length ≤ L.length + k ∧ InC w wy xs T L L' k ES av cv M2)
            case atStart => exact ⟨0, M, L, by omega, rfl, by omega, by omega, ⟨by rw [List.drop_zero], HI.out.res, HI.out.box, HI.out.map, HI.out.row, HI.out.bel, HI.out.siz⟩⟩
            case round =>
              clear hlk hln b0 b1 b2 f0 f1 f2 hblt hsiz
              obtain ⟨k, M2, L', hk, rfl, hM2, hL2, hJ⟩ := hrel
              have HJ := Lib.hid hJ
              have hsiz := hJ.siz
              obtain ⟨b0, b1, b2, f0, f1, f2⟩ := hJ.box.facts
              have hblt := hJ.box.lt
              have HSA := Lib.hid (HS.out.below hJ.bel)
              clear hJ
              cases gk with
              | zero =>
                have hkl : k = len := by omega
                have HR : Hid (crsN xs f (T + 1) L' (ES ++ [T]) = some (es, t, g)) := Lib.hid (HRS.out L' (by rw [HJ.out.run, List.drop_of_length_le (by rw [HL.out]; omega)]; rfl))
                have hlt : ¬ (k < len) := by omega
                go_wp2_with (at_builtin; refine append_int rfl _ _ rfl (w.heap.size + 3) _ (zsN ES) _ _ (row_zs HJ.out.row) (by rw [zsN_len]; omega) HJ.out.siz _ rfl rfl rfl ?_; intro a' c' w' hown' hb'; obtain ⟨HO2, HX2, HRE, HBO, HMP, HSZ⟩ := app_keep HJ.out hown' hb'; obtain ⟨p0, p1, p2, p3, p4, p5⟩ := HBO.out.facts; have plt := HBO.out.lt; clear hown' hb')
                go_roundg f
                case measure => omega
                case rel => exact ⟨T + 1, L', ES ++ [T], a', c', M2, outC_app HR.out (by omega) (by omega) (by omega) (by omega) (by simpa [zsN_len] using HO2.out) HX2.out HRE.out (by simpa [zsN_len] using HBO.out) HMP.out HSZ.out⟩
              | succ f2 =>
                have hlt : k < len := by omega
                obtain ⟨b, off, z, rfl, hb, hs, hc, hz1, hz2⟩ := HSA.out.at hlt
                obtain ⟨x, hxk, rfl⟩ : ∃ x, xs[k]? = some x ∧ z = (x : Int) := zsN_at (by rw [← HC.out.pat]; exact hs)
                have hx12 : x ≤ 12 := HX.out x (List.mem_of_getElem? hxk)
                have hlk2 := lookup_seenL Try.underlying116 (z := (T : Int) + (x : Int)) ⟨by omega, by omega⟩ HJ.out.map.seen
                have HD := Lib.hid (drop_cons hxk)
                by_cases hin2 : T + x ∈ L'
                · have HR : Hid (some (ES, T, false) = some (es, t, g)) := Lib.hid (HRN.out (by rw [HJ.out.run, HD.out, lay_no hin2]))
                  rw [decide_eq_true (show (T : Int) + (x : Int) ∈ zsN L' by rw [← Int.natCast_add]; exact zsN_has.2 hin2)] at hlk2
                  obtain ⟨d0, d1, d2, e0, e1, e2⟩ := HJ.out.res.facts
                  have hdl := HJ.out.res.lt
                  clear hin2 hs hxk
                  go_wp2
                  rw [Exit.noGoto_ret]
                  have HF := Lib.hid ((((HJ.out.res.other (c := w.heap.size + 1) (o := 2) (.bool false) (by omega)).set0 (.slice av ES.length cv)).set1 (.int .i64 (T : Nat))).set2 (.bool false))
                  obtain ⟨y0, y1, y2, y3, y4, y5⟩ := HF.out.facts
                  refine bodyPost_ret (v := .agg #[.slice av ES.length cv, .int .i64 (T : Nat), .bool false]) (by simp [results, Try.results72, go_sem, *]) rfl (crspost_of HR.out ?_ ?_)
                  · exact ownsRow_setCell_below (ownsRow_setCell_below (ownsRow_setCell_below (ownsRow_setCell_below HJ.out.row (by show w.heap.size + 1 < w.heap.size + 3; omega) _) (by show w.heap.size < w.heap.size + 3; omega) _) (by show w.heap.size < w.heap.size + 3; omega) _) (by show w.heap.size < w.heap.size + 3; omega) _
                  · exact (((HJ.out.bel.setCell (by show w.heap.size ≤ w.heap.size + 1; omega) _).setCell (Nat.le_refl _) _).setCell (Nat.le_refl _) _).setCell (Nat.le_refl _) _
                · have HRN2 : Hid (layN T L xs = layN T (L' ++ [T + x]) (xs.drop (k + 1))) := Lib.hid (by rw [HJ.out.run, HD.out, lay_yes hin2])
                  have HNI : Hid (¬ (T : Int) + (x : Int) ∈ zsN L') := Lib.hid (fun h => hin2 (zsN_has.1 (by rwa [Int.natCast_add])))
                  rw [decide_eq_false HNI.out] at hlk2
                  clear hin2 hs hxk
                  go_wp2_with (at_mapUpdate; refine wpList_store_seenL _ rfl _ _ _ _ rfl Try.underlying116 (w.heap.size + 1 + 1) M2 (by omega) (zsN L') ((T : Int) + (x : Int)) ⟨by omega, by omega⟩ HNI.out rfl HJ.out.map rfl rfl ?_; intro w3 hse3 hg3; go_frame)
                  go_roundg f2
                  case measure => omega
                  case rel => exact ⟨k + 1, M2 + 1, L' ++ [T + x], by omega, by go_num, by omega, by simp; omega, inC_tick HJ.out HRN2.out (by rw [zsN_snoc, Int.natCast_add]; exact hse3) hg3⟩
      · have HR : Hid (some (ES, T, true) = some (es, t, g)) := Lib.hid (by rw [← crs_end hgo (f := f) (xs := xs)]; exact HI.out.run)
        have hz : ((T : Int) == 0) = false := by simp; omega
        have hlt : ¬ T < L.length := by omega
        obtain ⟨d0, d1, d2, e0, e1, e2⟩ := HI.out.res.facts
        have hdl := HI.out.res.lt
        clear hgo
        have hln := len_seenL 3 Try.underlying116 HI.out.map (zsN_len L)
        go_wp2
        rw [Exit.noGoto_ret]
        have HF := Lib.hid (((HI.out.res.set0 (.slice av ES.length cv)).set1 (.int .i64 (T : Nat))).set2 (.bool true))
        obtain ⟨y0, y1, y2, y3, y4, y5⟩ := HF.out.facts
        refine bodyPost_ret (v := .agg #[.slice av ES.length cv, .int .i64 (T : Nat), .bool true]) (by simp [results, Try.results72, go_sem, *]) rfl (crspost_of HR.out ?_ ?_)
        · exact ownsRow_setCell_below (ownsRow_setCell_below (ownsRow_setCell_below HI.out.row (by show w.heap.size < w.heap.size + 3; omega) _) (by show w.heap.size < w.heap.size + 3; omega) _) (by show w.heap.size < w.heap.size + 3; omega) _
        · exact ((HI.out.bel.setCell (Nat.le_refl _) _).setCell (Nat.le_refl _) _).setCell (Nat.le_refl _) _
end Go.Proofs.Ytldpikcgeijkpaa.Rhy
