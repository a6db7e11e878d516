/-
  Helpers of the claims beside this text: the model's search for partners.
-/
import Derived.Test.YtgmhdmhnedljcaaSma
import Derived.Test.YtgmhdmhnedljcaaSug
import Derived.Test.YtgmhdmhnedljcaaItm
import Derived.Test.YtgmhdmhnedljcaaStp
import Derived.Test.YtgmhdmhnedljcaaReg
import Derived.RangeFuncBox
namespace Go.Proofs.Ytgmhdmhnedljcaa.Rhy
open Go.RowKit
set_option linter.unusedVariables false
set_option linter.unusedSimpArgs false
set_option maxRecDepth 100000

theorem step_app {ops : Array Oper} {o : Oper} {a : Act} {K : Act → World → Prop} {Q : Exit → Act → World → Prop} {E : Prop} (hgd : o.guard = none) (x y : Operand)
    (ho : o.op = .call { callee := .builtin .append, args := #[x, y], argTypes := #[22, 22] })
    (B : Nat) (av : Option Addr) (cv : Nat) (l : List Int) (A : Option Addr) (m c : Nat) (ys : List Int) (w : World) (hown : w.ownsRow B 3 1 (.slice av l.length cv) l.length (ints l)) (hr : IntsAt w A m ys)
    (hl : l.length ≤ 1048577) (hm : m ≤ 1048577) (hB : B ≤ w.heap.size)
    (hs : a.eval x = .slice av l.length cv) (hx : a.eval y = .slice A m c)
    (h : ∀ a' c' w', w'.ownsRow B 3 1 (.slice a' (l ++ ys).length c') (l ++ ys).length (ints (l ++ ys)) → w.grownBy w' (Value.slice av l.length cv).ownBlock → K (a.put o.dst (.slice a' (l ++ ys).length c')) w') :
    if Region.wanted o (yielded ops a.tmps) = true then Oper.wp Try.prog o a w K Q else E := by
  have hw : Region.wanted o (yielded ops a.tmps) = true := by unfold Region.wanted; rw [hgd]
  rw [if_pos hw]
  obtain ⟨i0, hi, hz0, hz1, hz2⟩ := info_parts infoInt
  have hyl := hr.1
  cases A with
  | none =>
    have hm0 : m = 0 := by
      rcases Nat.eq_zero_or_pos m with h0 | h0
      · exact h0
      · obtain ⟨b, off, h, _⟩ := hr.2.2 h0
        cases h
    subst hm0
    have hy : ys = [] := List.eq_nil_of_length_eq_zero hyl
    subst hy
    have hrun := run_app_nil o.type B _ _ _ w hown c
    unfold Oper.wp execOp
    simp only [ho, resolve, invoke, builtin, Sem.run_bind, Sem.run_pure, Result.andThen_ok, List.map_toArray, List.map_cons, List.map_nil, hs, hx, hrun]
    have h1 := h av cv w (by simpa using hown) (World.grownBy.refl _ _)
    have h2 : K (a.put o.dst (.slice av l.length cv)) w := by simpa using h1
    exact h2
  | some ad =>
    have hcells : ∀ j u, (ints ys)[j]? = some u → w.cell? (ad.add j) = some u := by
      intro j u hu
      rcases Nat.eq_zero_or_pos m with h0 | h0
      · subst h0
        have hy : ys = [] := List.eq_nil_of_length_eq_zero hyl
        subst hy
        simp [ints] at hu
      · obtain ⟨b, off, h, _, hc⟩ := hr.2.2 h0
        injection h with h
        subst h
        unfold ints at hu
        rw [List.getElem?_map, Option.map_eq_some_iff] at hu
        obtain ⟨z, hz, rfl⟩ := hu
        rw [Go.WideShapes.add_plain]
        exact hc j z hz
    refine wp_append_own w x y 22 ho B 3 i0 (.int .i64 0) 1 8 Try.underlying22 hi hz0 hz1 hz2 rfl (by decide) _ l.length (ints l) hs hown ad m c (ints ys) hx (by simp [ints, hyl]) hcells ?_ ?_ ?_ hB ?_
    · intro u hu
      unfold ints at hu
      rw [List.mem_map] at hu
      obtain ⟨z, _, rfl⟩ := hu
      rfl
    · unfold maxLen; omega
    · omega
    · intro v' w' ho' hg _
      have ho2 : w'.ownsRow B 3 1 v' (l ++ ys).length (ints (l ++ ys)) := by
        rw [List.length_append, hyl]
        simpa [ints] using ho'
      obtain ⟨_, a', c', rfl, _⟩ := own_shape ho2
      exact h a' c' w' ho2 hg
theorem box_apart {w : World} {b B n : Nat} {v0 v1 v : Value} {t e : TypeId} {size : Nat} {xs : List Value} (h : Box w b v0 v1 t) (ht : t ≠ e) (hr : w.ownsRow B e size v n xs) : some b ≠ v.ownBlock := by
  rcases hr.2 with ⟨rfl, _⟩ | ⟨g, cap, cur, rfl, _, hgb, _⟩
  · simp [Value.ownBlock]
  · intro e'
    obtain rfl : b = g := by simpa [Value.ownBlock] using e'
    have := (show w.heap[b]? = _ from h).symm.trans hgb
    simp at this
    exact ht this.2
theorem box_row {w w' : World} {b B n : Nat} {v0 v1 v : Value} {t e : TypeId} {size : Nat} {xs : List Value} (h : Box w b v0 v1 t) (ht : t ≠ e) (hr : w.ownsRow B e size v n xs) (hg : w.grownBy w' v.ownBlock) : Box w' b v0 v1 t :=
  (hg.block b h.lt (box_apart h ht hr)).trans h
theorem own_past {w : World} {b B n : Nat} {v0 v1 v : Value} {xs : List Value} (hr : w.ownsRow B 3 1 v n xs) (h : Box w b v0 v1 28) (u0 u1 : Value) : ((w.setCell ⟨b, 0, none⟩ u0).setCell ⟨b, 1, none⟩ u1).ownsRow B 3 1 v n xs := by
  have hne := box_apart h (by decide) hr
  refine ⟨hr.1, ?_⟩
  rcases hr.2 with hn | ⟨g, c, cur, rfl, hb, hg, rest⟩
  · exact .inl hn
  · have hgb : g ≠ b := fun e => hne (by rw [← e]; rfl)
    exact .inr ⟨g, c, cur, rfl, hb, by rw [heap_setCell_other _ _ _ _ hgb, heap_setCell_other _ _ _ _ hgb]; exact hg, rest⟩
theorem ints_box {w : World} {b : Nat} {y : Int} (h : Boxed w b 3 (.int .i64 y)) (hy : -9223372036854775808 ≤ y ∧ y ≤ 9223372036854775807) : IntsAt w (some ⟨b, 0, none⟩) 1 [y] :=
  ⟨rfl, fun z hz => by rw [List.mem_singleton] at hz; subst hz; exact hy, fun _ => ⟨b, 0, rfl, h.lt, fun j z hj => by
    rcases j with _ | j
    · rw [← Option.some.inj hj]; exact h.cell
    · cases hj⟩⟩


theorem ok_len'' {s : Int} {xs : List Int} (h : Ok s xs) : xs.length ≤ 24 := by
  have := ok_len h
  have := h.1
  omega
theorem box_two {w : World} {b : Nat} {v0 v1 : Value} {t : TypeId} (h : Box w b v0 v1 t) (u0 u1 : Value) : Box ((w.setCell ⟨b, 0, none⟩ u0).setCell ⟨b, 1, none⟩ u1) b u0 u1 t := (h.set0 u0).set1 u1
/-- What a function that appends to a slice leaves: its row alone has changed, and the new row is the old one or a new one. -/
def Fr (w w' : World) (v v' : Value) : Prop := w.grownBy w' v.ownBlock ∧ (v'.ownBlock = v.ownBlock ∨ ∃ k, v'.ownBlock = some k ∧ w.heap.size ≤ k)
theorem Fr.of_below {w w' : World} {v : Value} (h : Below w.heap.size w w') : Fr w w' v v := ⟨⟨h.os, h.tape, h.output, h.size, fun k hk _ => h.block k hk⟩, .inl rfl⟩
theorem Fr.trans {a b c : World} {u v x : Value} (h : Fr a b u v) (k : Fr b c v x) : Fr a c u x := by
  obtain ⟨⟨h1, h2, h3, h4, h5⟩, h6⟩ := h
  obtain ⟨⟨k1, k2, k3, k4, k5⟩, k6⟩ := k
  refine ⟨⟨k1.trans h1, k2.trans h2, k3.trans h3, Nat.le_trans h4 k4, fun i hi hn => ?_⟩, ?_⟩
  · rw [k5 i (by omega) (fun e => ?_), h5 i hi hn]
    rcases h6 with e6 | ⟨j, e6, hj⟩
    · exact hn (by rw [e, e6])
    · rw [e6] at e
      have := Option.some.inj e
      omega
  · rcases k6 with e | ⟨j, e, hj⟩
    · rw [e]; exact h6
    · exact .inr ⟨j, e, by omega⟩
theorem Fr.size {a b : World} {u v : Value} (h : Fr a b u v) : a.heap.size ≤ b.heap.size := h.1.size
theorem Fr.ints {w w' : World} {v v' : Value} {a : Option Addr} {len : Nat} {zs : List Int} (h : Fr w w' v v') (hi : IntsAt w a len zs) (ho : 0 < len → ∀ b off, a = some ⟨b, off, none⟩ → v.ownBlock ≠ some b) : IntsAt w' a len zs := by
  refine ⟨hi.1, hi.2.1, fun hp => ?_⟩
  obtain ⟨b, off, rfl, hlt, hc⟩ := hi.2.2 hp
  refine ⟨b, off, rfl, Nat.lt_of_lt_of_le hlt h.size, fun j z hj => ?_⟩
  rw [World.cell?_of_block (h.1.block b hlt (fun e => ho hp b off rfl e.symm))]
  exact hc j z hj
theorem Fr.two {w w' : World} {v v' : Value} {b : Nat} {v0 v1 : Value} (h : Fr w w' v v') (hi : Two w b v0 v1) (ho : v.ownBlock ≠ some b) : Two w' b v0 v1 := by
  have e := h.1.block b hi.1 (fun e => ho e.symm)
  exact ⟨Nat.lt_of_lt_of_le hi.1 h.size, by rw [World.cell?_of_block e]; exact hi.2.1, by rw [World.cell?_of_block e]; exact hi.2.2⟩
theorem Fr.off {w w' : World} {v v' : Value} (h : Fr w w' v v') {b : Nat} (hb : b < w.heap.size) (ho : v.ownBlock ≠ some b) : v'.ownBlock ≠ some b := by
  rcases h.2 with e | ⟨k, e, hk⟩
  · rw [e]; exact ho
  · rw [e]; intro q; have := Option.some.inj q; omega
/-- 'append(out, r)' at a slice of rhythms of the call's own. -/
theorem append_rhy' {ops : Array Oper} {rest : List Oper} {o : Oper} {a : Act} {Q : Exit → Act → World → Prop} (hgd : o.guard = none) (x y : Operand)
    (ho : o.op = .call { callee := .builtin .append, args := #[x, y], argTypes := #[26, 26] })
    (lo : Nat) (v : Value) (L : List Item) (r : Item) (wr w2 : World) (h : Items wr lo v L) (hb : Below wr.heap.size wr w2) (hlo : lo ≤ wr.heap.size) (hl : L.length ≤ 1048577)
    (hr : w2.ownsRow wr.heap.size 3 1 r.slc r.zs.length (ints r.zs)) (N : Nat) (hN : N = w2.heap.size)
    (hs : a.eval x = v) (hx : a.eval y = .slice (some ⟨N, 0, none⟩) 1 1)
    (hK : ∀ a' c' w3, Items w3 lo (.slice a' (L.length + 1) c') (L ++ [r]) → Fr w2 w3 v (.slice a' (L.length + 1) c') → wpList Try.prog ops Q rest (a.put o.dst (.slice a' (L.length + 1) c')) w3) :
    wpList Try.prog ops Q (o :: rest) a (w2.alloc (.cells #[.int .i64 r.s, r.slc] 28)) := by
  obtain ⟨i0, hi, hz, hsz, hby⟩ := info_parts' infoR
  subst hN
  have hw := hb.size
  refine wpList_append_own_at _ hgd x y 26 ho lo 28 i0 (.agg #[.int .i64 0, .slice none 0 0]) 2 32 Try.underlying26 hi hz hsz hby rfl (by decide) v L.length (itemCells L) hs ((own_below h.outer hb).alloc _) ⟨w2.heap.size, 0, none⟩ 1 1 r.cells hx rfl ?_ ?_ ?_ ?_ ?_ ?_
  · intro j u hu
    have hn := heap_alloc_new w2 (.cells #[.int .i64 r.s, r.slc] 28)
    have hadd : (⟨w2.heap.size, 0, none⟩ : Addr).add j = ⟨w2.heap.size, j, none⟩ := by unfold Addr.add; split <;> simp_all
    rw [hadd, cell_of_row _ _ _ _ _ _ hn]
    rw [← hu, List.getElem?_toArray]; rfl
  · intro u hu
    simp only [Item.cells, List.mem_cons, List.not_mem_nil, or_false] at hu
    rcases hu with rfl | rfl <;> rfl
  · unfold maxLen; omega
  · omega
  · simp; omega
  · intro v' w' ho' hg _ hat
    have ho2 : w'.ownsRow lo 28 2 v' (L.length + 1) (itemCells L ++ r.cells) := ho'
    obtain ⟨_, hsh⟩ := ho'
    have hfr : Fr w2 w' v v' := by
      refine (Fr.of_below (bel1 w2 (.cells #[.int .i64 r.s, r.slc] 28))).trans ⟨hg, ?_⟩
      rcases hat with e | e
      · exact .inl e
      · exact .inr ⟨_, e, Nat.le_refl _⟩
    rcases hsh with ⟨_, h0⟩ | ⟨g, cap, cur, rfl, _⟩
    · omega
    · exact hK _ cap w' (items_snoc h hb hlo hr ho2 hg hat) hfr

/-- What the search hands back: all, or the first one alone. -/
def resl {α : Type} (one : Bool) (P F : List α) : List α := if one then (P ++ F).take 1 else P ++ F
theorem resl_nil {α : Type} {one : Bool} {P : List α} (h : one = true → P.length ≤ 1) : resl one P [] = P := by
  unfold resl
  cases one
  · simp
  · simpa using List.take_of_length_le (h rfl)
theorem resl_full {α : Type} {P F : List α} (h : P.length = 1) : resl true P F = P := by
  show (P ++ F).take 1 = P
  rw [List.take_append_of_le_length (by omega), List.take_of_length_le (by omega)]
theorem resl_resl {α : Type} (one : Bool) (P F G : List α) : resl one (resl one P F) G = resl one P (F ++ G) := by
  unfold resl
  cases one
  · simp
  · show ((P ++ F).take 1 ++ G).take 1 = (P ++ (F ++ G)).take 1
    rw [← List.append_assoc]
    rcases h : P ++ F with _ | ⟨x, M⟩ <;> simp
theorem resl_len {α : Type} (one : Bool) (P F : List α) : (resl one P F).length ≤ P.length + F.length ∧ (one = true → (resl one P F).length ≤ 1) := by
  unfold resl
  cases one
  · simp
  · exact ⟨by show ((P ++ F).take 1).length ≤ _; rw [List.length_take]; simp; omega, fun _ => by show ((P ++ F).take 1).length ≤ 1; rw [List.length_take]; omega⟩

/-- What the search is called with. -/
structure FndIn (n : Nat) (xs : List Int) (pa : Option Addr) (lo : Nat) (one : Bool) (F : List (List Int)) (Z : List Int) (a : Option Addr) (cap : Nat) (v : Value) (L : List Item) (W0 w : World) : Prop where
  hx : IntsAt w pa xs.length xs
  offx : ∀ b off, pa = some ⟨b, off, none⟩ → v.ownBlock ≠ some b
  hz : IntsAt w a Z.length Z
  offz : 0 < Z.length → ∀ b off, a = some ⟨b, off, none⟩ → v.ownBlock ≠ some b
  ok : Ok (n : Int) Z
  dir : dirC n xs Z
  items : Items W0 lo v L
  below : Below W0.heap.size W0 w
  le : lo ≤ W0.heap.size
  room : L.length + F.length ≤ 5000
  few : one = true → L.length ≤ 1
  own : xs.length * Z.length = n → w.ownsRow W0.heap.size 3 1 (.slice a Z.length cap) Z.length (ints Z)
def FndPost (n : Nat) (lo : Nat) (one : Bool) (F : List (List Int)) (v : Value) (L : List Item) (w : World) (e : Ending) (w' : World) : Prop :=
  ∃ av cv L', e = .returned (.slice av L'.length cv) ∧ Items w' lo (.slice av L'.length cv) L' ∧ vals L' = resl one (vals L) (F.map fun zs => ((n : Int), zs)) ∧ Fr w w' v (.slice av L'.length cv)

set_option maxHeartbeats 1000000 in
theorem fnd_one (n : Nat) (xs : List Int) (pa : Option Addr) (ca lo p : Nat) (F : List (List Int)) (Z : List Int) (a : Option Addr) (cap : Nat) (av : Option Addr) (cv : Nat) (L : List Item) (W0 w : World) (hl0 : 0 < L.length)
    (hin : FndIn n xs pa lo true F Z a cap (.slice av L.length cv) L W0 w) :
    Calls Try.prog 22 #[rhy n pa xs.length ca, rhy n a Z.length cap, .slice av L.length cv, .int .i64 p, .bool true] w (FndPost n lo true F (.slice av L.length cv) L w) := by
  have hLl : L.length ≤ 5000 := by have := hin.room; omega
  have HRL : Hid (resl true (vals L) (F.map fun zs => ((n : Int), zs)) = vals L) := Lib.hid (resl_full (by have := hin.few rfl; unfold vals; rw [List.length_map]; omega))
  have HIT1 := Lib.hid (hin.items.keep hin.below)
  clear hin
  go_enter Try.func22, Try.ntmps22
  go_wp2
  go_ret
  exact ⟨av, cv, L, rfl, HIT1.out.keep (bel2 _ _ _), HRL.out.symm, Fr.of_below (bel2 _ _ _)⟩

set_option maxHeartbeats 1000000 in
theorem fnd_full (n : Nat) (xs : List Int) (pa : Option Addr) (ca lo p : Nat) (one : Bool) (Z : List Int) (a : Option Addr) (cap : Nat) (av : Option Addr) (cv : Nat) (L : List Item) (W0 w : World) (hn : n ≤ 24) (hxl : xs.length ≤ 24) (hzl : Z.length ≤ 24) (hone : ¬ (one = true ∧ 0 < L.length)) (hm : xs.length * Z.length = n)
    (hin : FndIn n xs pa lo one [Z] Z a cap (.slice av L.length cv) L W0 w) :
    Calls Try.prog 22 #[rhy n pa xs.length ca, rhy n a Z.length cap, .slice av L.length cv, .int .i64 p, .bool one] w (FndPost n lo one [Z] (.slice av L.length cv) L w) := by
  have hLl : L.length ≤ 5000 := by have := hin.room; omega
  have HRL : Hid (resl one (vals L) ([Z].map fun zs => ((n : Int), zs)) = vals (L ++ [⟨n, a, cap, Z⟩])) := Lib.hid (by
    unfold resl
    cases one
    · simp [vals]
    · have : L = [] := List.eq_nil_of_length_eq_zero (by
        rcases Nat.eq_zero_or_pos L.length with h | h
        · exact h
        · exact absurd ⟨rfl, h⟩ hone)
      subst this
      simp [vals])
  have hmi : ((xs.length : Int) * (Z.length : Int)) = (n : Int) := by rw [← hm]; simp
  have HI0 := Lib.hid hin.items
  have HBL := Lib.hid hin.below
  have HOW := Lib.hid (hin.own hm)
  have hlo := hin.le
  have hsz := hin.below.size
  clear hin
  have key : ∀ a' c' w3, Items w3 lo (.slice a' (L.length + 1) c') (L ++ [⟨n, a, cap, Z⟩]) → Fr ((w.alloc (.cells #[.int .i64 n, .slice pa xs.length ca] 28)).alloc (.cells #[.int .i64 n, .slice a Z.length cap] 28)) w3 (.slice av L.length cv) (.slice a' (L.length + 1) c') → FndPost n lo one [Z] (.slice av L.length cv) L w (.returned (.slice a' (L.length + 1) c')) w3 := fun a' c' w3 hit hfr =>
    ⟨a', c', L ++ [⟨n, a, cap, Z⟩], by simp, by simpa using hit, HRL.out.symm, by simpa using (Fr.of_below (bel2 w _ _)).trans hfr⟩
  have HKEY := Lib.hid key
  clear key
  rcases (show one = false ∨ (one = true ∧ L.length = 0) by cases one; exact .inl rfl; exact .inr ⟨rfl, by rcases Nat.eq_zero_or_pos L.length with h | h; exact h; exact absurd ⟨rfl, h⟩ hone⟩) with rfl | ⟨rfl, hl0⟩
  · clear hone
    go_enter Try.func22, Try.ntmps22
    go_wp2_with (at_builtin; refine append_rhy' rfl _ _ rfl lo _ L ⟨n, a, cap, Z⟩ W0 _ HI0.out (HBL.out.trans ((bel2 w _ _).mono hsz)) hlo (by omega) (own_below HOW.out (bel2 w _ _)) (w.heap.size + 1 + 1) (by simp) rfl rfl ?_; intro a' c' w3 hit hfr; have HIT := Lib.hid hit; have HFR := Lib.hid hfr; clear hit hfr)
    go_ret
    exact HKEY.out a' c' w3 HIT.out HFR.out
  · have hl0' : ¬ 0 < L.length := by omega
    clear hone hl0
    go_enter Try.func22, Try.ntmps22
    go_wp2_with (at_builtin; refine append_rhy' rfl _ _ rfl lo _ L ⟨n, a, cap, Z⟩ W0 _ HI0.out (HBL.out.trans ((bel2 w _ _).mono hsz)) hlo (by omega) (own_below HOW.out (bel2 w _ _)) (w.heap.size + 1 + 1) (by simp) rfl rfl ?_; intro a' c' w3 hit hfr; have HIT := Lib.hid hit; have HFR := Lib.hid hfr; clear hit hfr)
    go_ret
    exact HKEY.out a' c' w3 HIT.out HFR.out

set_option maxHeartbeats 1000000 in
theorem fnd_few (n : Nat) (xs : List Int) (pa : Option Addr) (ca lo p : Nat) (one : Bool) (Z : List Int) (a : Option Addr) (cap : Nat) (av : Option Addr) (cv : Nat) (L : List Item) (W0 w : World) (hn : n ≤ 24) (hp : p ≤ n) (hx1 : 1 ≤ xs.length) (hxl : xs.length ≤ 24) (hzl : Z.length ≤ 24) (hone : ¬ (one = true ∧ 0 < L.length)) (hm : xs.length * Z.length ≠ n)
    (hfew : Z.length + (n - p) < n / xs.length) (hin : FndIn n xs pa lo one [] Z a cap (.slice av L.length cv) L W0 w) :
    Calls Try.prog 22 #[rhy n pa xs.length ca, rhy n a Z.length cap, .slice av L.length cv, .int .i64 p, .bool one] w (FndPost n lo one [] (.slice av L.length cv) L w) := by
  have hLl : L.length ≤ 5000 := by have := hin.room; omega
  have HRL : Hid (resl one (vals L) (([] : List (List Int)).map fun zs => ((n : Int), zs)) = vals L) := Lib.hid (resl_nil (fun h => by unfold vals; rw [List.length_map]; exact hin.few h))
  have HIT1 := Lib.hid (hin.items.keep hin.below)
  obtain ⟨M, hM⟩ : ∃ M, xs.length * Z.length = M := ⟨_, rfl⟩
  have hM2 : M ≤ 576 := by rw [← hM]; exact Nat.mul_le_mul hxl hzl
  have hmi : ((xs.length : Int) * (Z.length : Int)) = (M : Int) := by rw [← hM]; simp
  have hMn : ((M : Int) == (n : Int)) = false := by rw [beq_eq_false_iff_ne]; omega
  have hdv : ((n : Int) / (xs.length : Int)) = ((n / xs.length : Nat) : Int) := by simp
  obtain ⟨D, hD⟩ : ∃ D, n / xs.length = D := ⟨_, rfl⟩
  rw [hD] at hfew hdv
  have hx0 : ((xs.length : Int) == 0) = false := by rw [beq_eq_false_iff_ne]; omega
  have hDn : D ≤ n := by rw [← hD]; exact Nat.div_le_self _ _
  have hwd : (Z.length : Int) + (n : Int) - (p : Int) < wrap64 (D : Int) := by rw [IntWalk.wrap64_in _ ⟨by omega, by omega⟩]; omega
  clear hM hD hin hm
  rcases (show one = false ∨ (one = true ∧ L.length = 0) by cases one; exact .inl rfl; exact .inr ⟨rfl, by rcases Nat.eq_zero_or_pos L.length with h | h; exact h; exact absurd ⟨rfl, h⟩ hone⟩) with rfl | ⟨rfl, hl0⟩
  · clear hone
    go_enter Try.func22, Try.ntmps22
    go_wp2
    go_quiet (fail)
    go_wp2
    go_ret
    exact ⟨av, cv, L, rfl, HIT1.out.keep (below_drewN (bel2 _ _ _) _), HRL.out.symm, Fr.of_below (below_drewN (bel2 _ _ _) _)⟩
  · have hl0' : ¬ 0 < L.length := by omega
    clear hone hl0
    go_enter Try.func22, Try.ntmps22
    go_wp2
    go_quiet (fail)
    go_wp2
    go_ret
    exact ⟨av, cv, L, rfl, HIT1.out.keep (below_drewN (bel2 _ _ _) _), HRL.out.symm, Fr.of_below (below_drewN (bel2 _ _ _) _)⟩

/-! the search -/

theorem ok_int'' {s : Int} {zs : List Int} (h : Ok s zs) : AllInt zs := fun z hz => by
  obtain ⟨j, hj⟩ := List.mem_iff_getElem?.1 hz
  have := ok_at h hj
  have := h.1
  omega
theorem ok_snoc {n p : Nat} {Z : List Int} (h : Ok (n : Int) Z) (hl : ∀ z ∈ Z, z < (p : Int)) (hp : p < n) : Ok (n : Int) (Z ++ [(p : Int)]) := by
  refine ok_of (by have := h.1; omega) (by have := h.1; omega) ?_ ?_
  · rw [List.pairwise_append]
    refine ⟨ok_sorted h, List.pairwise_singleton _ _, fun x hx y hy => ?_⟩
    rw [List.mem_singleton] at hy
    rw [hy]
    exact hl x hx
  · intro z hz
    rcases List.mem_append.1 hz with hz | hz
    · obtain ⟨j, hj⟩ := List.mem_iff_getElem?.1 hz
      exact ok_at h hj
    · rw [List.mem_singleton] at hz
      rw [hz]
      omega

set_option maxHeartbeats 4000000 in
theorem fnd_any (n : Nat) (xs : List Int) (pa : Option Addr) (ca lo : Nat) (one : Bool) (hx : Ok (n : Int) xs) (hx1 : 1 ≤ xs.length) (hdv : n % xs.length = 0) : ∀ (m : Nat) (Z : List Int) (a : Option Addr) (cap : Nat) (av : Option Addr) (cv : Nat) (L : List Item) (W0 w : World), m ≤ n →
    FndIn n xs pa lo one (fndL n xs m Z) Z a cap (.slice av L.length cv) L W0 w → (∀ z ∈ Z, z < ((n - m : Nat) : Int)) →
    Calls Try.prog 22 #[rhy n pa xs.length ca, rhy n a Z.length cap, .slice av L.length cv, .int .i64 ((n - m : Nat) : Int), .bool one] w (FndPost n lo one (fndL n xs m Z) (.slice av L.length cv) L w) := by
  have hn24 : 1 ≤ n ∧ n ≤ 24 := by have := hx.1; omega
  have hxl := ok_len'' hx
  have hdm : xs.length * (n / xs.length) = n := by have := Nat.div_add_mod n xs.length; omega
  intro m
  induction m with
  | zero =>
    intro Z a cap av cv L W0 w hm hin hlow
    have hzl := ok_len'' hin.ok
    by_cases hone : one = true ∧ 0 < L.length
    · obtain ⟨rfl, hl0⟩ := hone
      exact fnd_one n xs pa ca lo (n - 0) _ Z a cap av cv L W0 w hl0 hin
    · by_cases hfull : xs.length * Z.length = n
      · have e : fndL n xs 0 Z = [Z] := by unfold fndL; rw [if_pos hfull]
        rw [e] at hin ⊢
        exact fnd_full n xs pa ca lo (n - 0) one Z a cap av cv L W0 w hn24.2 hxl hzl hone hfull hin
      · have e : fndL n xs 0 Z = [] := by unfold fndL; rw [if_neg hfull]
        have h1 := dir_le hn24.1 hin.dir
        have h2 : Z.length < n / xs.length := by
          rcases Nat.lt_or_ge Z.length (n / xs.length) with h | h
          · exact h
          · have := Nat.mul_le_mul_left xs.length h
            omega
        rw [e] at hin ⊢
        exact fnd_few n xs pa ca lo (n - 0) one Z a cap av cv L W0 w hn24.2 (by omega) hx1 hxl hzl hone hfull (by omega) hin
  | succ m ih =>
    intro Z a cap av cv L W0 w hm hin hlow
    have hzl := ok_len'' hin.ok
    by_cases hone : one = true ∧ 0 < L.length
    · obtain ⟨rfl, hl0⟩ := hone
      exact fnd_one n xs pa ca lo (n - (m + 1)) _ Z a cap av cv L W0 w hl0 hin
    by_cases hfull : xs.length * Z.length = n
    · have e : fndL n xs (m + 1) Z = [Z] := by unfold fndL; rw [if_pos hfull]
      rw [e] at hin ⊢
      exact fnd_full n xs pa ca lo (n - (m + 1)) one Z a cap av cv L W0 w hn24.2 hxl hzl hone hfull hin
    by_cases hfew : Z.length + (m + 1) < n / xs.length
    · have e : fndL n xs (m + 1) Z = [] := by unfold fndL; rw [if_neg hfull, if_pos hfew]
      rw [e] at hin ⊢
      exact fnd_few n xs pa ca lo (n - (m + 1)) one Z a cap av cv L W0 w hn24.2 (by omega) hx1 hxl hzl hone hfull (by omega) hin
    have HFL : Hid (fndL n xs (m + 1) Z = (if dirC n xs (Z ++ [((n - (m + 1) : Nat) : Int)]) then fndL n xs m (Z ++ [((n - (m + 1) : Nat) : Int)]) else []) ++ (if n - (m + 1) = 0 then [] else fndL n xs m Z)) := Lib.hid (by rw [fndL, if_neg hfull, if_neg hfew])
    have hroom := hin.room
    have HIN := Lib.hid hin
    have HIH := Lib.hid ih
    have HNE := Lib.hid hfull
    obtain ⟨p, hp⟩ : ∃ p, n - (m + 1) = p := ⟨_, rfl⟩
    rw [hp] at HFL hlow ⊢
    have HLOW := Lib.hid hlow
    have hpn : p + m + 1 = n := by omega
    have hpm : n - m = p + 1 := by omega
    have hLl : L.length ≤ 5000 := by have := hin.room; omega
    have HX := Lib.hid hx
    obtain ⟨M, hM⟩ : ∃ M, xs.length * Z.length = M := ⟨_, rfl⟩
    have hM2 : M ≤ 576 := by rw [← hM]; exact Nat.mul_le_mul hxl hzl
    have hmi : ((xs.length : Int) * (Z.length : Int)) = (M : Int) := by rw [← hM]; simp
    have hMn : ((M : Int) == (n : Int)) = false := by rw [beq_eq_false_iff_ne]; omega
    have hdvi : ((n : Int) / (xs.length : Int)) = ((n / xs.length : Nat) : Int) := by simp
    obtain ⟨D, hD⟩ : ∃ D, n / xs.length = D := ⟨_, rfl⟩
    rw [hD] at hfew hdvi
    have hx0 : ((xs.length : Int) == 0) = false := by rw [beq_eq_false_iff_ne]; omega
    have hDn : D ≤ n := by rw [← hD]; exact Nat.div_le_self _ _
    have hwd3 : (D : Int) ≤ (Z.length : Int) + (n : Int) - (p : Int) := by omega
    have HIT0 := Lib.hid (hin.items.keep hin.below)
    have HZ0 := Lib.hid hin.hz
    have HXA := Lib.hid hin.hx
    have hone' : one = false ∨ (one = true ∧ L.length = 0) := by
      cases one
      · exact .inl rfl
      · exact .inr ⟨rfl, by rcases Nat.eq_zero_or_pos L.length with h | h; exact h; exact absurd ⟨rfl, h⟩ hone⟩
    have hgd : ∃ g : Bool, g = (one && decide (0 < (L.length : Int))) ∧ g = false := ⟨false, by
      rcases hone' with rfl | ⟨rfl, h⟩
      · rfl
      · simp [h], rfl⟩
    clear hx ih hin hlow hfull hfew hM hD hdm hdv hone hgd
    rcases hone' with rfl | ⟨rfl, hl0⟩
    · go_enter Try.func22, Try.ntmps22
      go_wp2
      go_quiet (fail)
      obtain ⟨w3, hw3⟩ : ∃ W, W = ((w.alloc (.cells #[.int .i64 n, .slice pa xs.length ca] 28)).alloc (.cells #[.int .i64 n, .slice a Z.length cap] 28)).drewN nq := ⟨_, rfl⟩
      rw [← hw3]
      have HB3 := Lib.hid (show Below w.heap.size w w3 by rw [hw3]; exact below_drewN (bel2 w _ _) _)
      have HA3 := Lib.hid (show Two w3 w.heap.size (.int .i64 n) (.slice pa xs.length ca) by rw [hw3]; exact ((two_new w _ _ _).keep (bel1 _ _)).keep (below_drewN (Below.refl _ _) _))
      have HT3 := Lib.hid (show Two w3 (w.heap.size + 1) (.int .i64 n) (.slice a Z.length cap) by
        rw [hw3]
        have := (two_new (w.alloc (.cells #[.int .i64 n, .slice pa xs.length ca] 28)) (.int .i64 n) (.slice a Z.length cap) 28).keep (below_drewN (Below.refl _ _) nq)
        simpa using this)
      have hz3 : w3.heap.size = w.heap.size + 2 := by rw [hw3]; simp
      clear hw3
      have HIZW : Hid (∀ W : World, Below w3.heap.size w3 W → IntsAt W a Z.length Z) := Lib.hid (fun W hW => HZ0.out.below (HB3.out.trans (hW.mono (by omega))))
      obtain ⟨s0, s1, s2⟩ := HA3.out
      obtain ⟨t0, t1, t2⟩ := HT3.out
      go_wp2
      go_cut [11] (fun s11 wx => ∃ g b e, s11 = .pointer (some ⟨g, 0, none⟩) ∧ Box wx g (.int .i64 n) (.slice b (Z.length + 1) e) 28 ∧ wx.ownsRow w3.heap.size 3 1 (.slice b (Z.length + 1) e) (Z.length + 1) (ints (Z ++ [(p : Int)])) ∧ Below w3.heap.size w3 wx ∧ w3.heap.size ≤ g)
      case first =>
        have HK : Hid (∀ W : World, Below w3.heap.size w3 W → W.cell? ⟨w.heap.size, 0, none⟩ = some (.int .i64 n) ∧ W.cell? ⟨w.heap.size + 1, 1, none⟩ = some (.slice a Z.length cap)) := Lib.hid (fun W hW => ⟨(HA3.out.keep hW).2.1, (HT3.out.keep hW).2.2⟩)
        refine wp_region_held_drew (S := fun W => W.cell? ⟨w.heap.size, 0, none⟩ = some (.int .i64 n) ∧ W.cell? ⟨w.heap.size + 1, 1, none⟩ = some (.slice a Z.length cap)) (by kernel_rfl) (HK.out _ (Below.refl _ _).drew) (fun hSS => ?_)
        refine wpAnyH_take (i := 0) (oi := ⟨some 49, _, _, _, _, _⟩) (v := .pointer (some ⟨w.heap.size, 0, none⟩)) rfl (by kernel_rfl) (by kernel_rfl) (by kernel_rfl) (fun _ _ _ h => h) (Or.inl ⟨by rfl, fun W hSw => by go_simp⟩) (by assumption) ?_
        try simp only [Act.put, List.setIfInBounds_toArray, List.set_cons_zero, List.set_cons_succ]
        refine wpAnyH_take (i := 1) (oi := ⟨some 50, _, _, _, _, _⟩) (v := .int .i64 n) rfl (by kernel_rfl) (by kernel_rfl) (by kernel_rfl) (fun _ _ _ h => h) (Or.inl ⟨by rfl, fun W hSw => by obtain ⟨q1, q2⟩ := hSw; go_simp⟩) (by assumption) ?_
        try simp only [Act.put, List.setIfInBounds_toArray, List.set_cons_zero, List.set_cons_succ]
        refine wpAnyH_take (i := 3) (oi := ⟨some 52, _, _, _, _, _⟩) (v := .pointer (some ⟨w.heap.size + 1, 1, none⟩)) rfl (by kernel_rfl) (by kernel_rfl) (by kernel_rfl) (fun _ _ _ h => h) (Or.inl ⟨by rfl, fun W hSw => by go_simp⟩) (by assumption) ?_
        try simp only [Act.put, List.setIfInBounds_toArray, List.set_cons_zero, List.set_cons_succ]
        refine wpAnyH_take (i := 4) (oi := ⟨some 53, _, _, _, _, _⟩) (v := .slice a Z.length cap) rfl (by kernel_rfl) (by kernel_rfl) (by kernel_rfl) (fun _ _ _ h => h) (Or.inl ⟨by rfl, fun W hSw => by obtain ⟨q1, q2⟩ := hSw; go_simp⟩) (by assumption) ?_
        try simp only [Act.put, List.setIfInBounds_toArray, List.set_cons_zero, List.set_cons_succ]
        refine wpAnyH_take (i := 6) (oi := ⟨some 55, _, _, _, _, _⟩) (v := .int .i64 p) rfl (by kernel_rfl) (by kernel_rfl) (by kernel_rfl) (fun _ _ _ h => h) (Or.inl ⟨by rfl, fun W hSw => by go_simp⟩) (by assumption) ?_
        try simp only [Act.put, List.setIfInBounds_toArray, List.set_cons_zero, List.set_cons_succ]
        obtain ⟨v0, hv0⟩ : ∃ V, V = w3.drew := ⟨_, rfl⟩
        rw [← hv0]
        have B0 : Hid (Below w3.heap.size w3 v0) := Lib.hid (by rw [hv0]; exact (Below.refl _ _).drew)
        have z0 : w3.heap.size ≤ v0.heap.size := by rw [hv0]; exact Nat.le_refl _
        clear hv0
        refine wpAnyH_ready (rs := [2, 7, 10]) (by kernel_rfl) (by simp) ?_
        refine AllReadyH.cons rfl (fun K hKK => ?_) (AllReadyH.cons rfl (fun K hKK => ?_) (AllReadyH.cons rfl (fun K hKK => ?_) AllReadyH.nil))
        · skip
          go_simp
          obtain ⟨v1, hv1⟩ : ∃ V, V = v0.alloc (.cells #[] 3) := ⟨_, rfl⟩
          rw [← hv1]
          have B1 : Hid (Below w3.heap.size w3 v1) := Lib.hid (by rw [hv1]; exact B0.out.alloc (by omega) _)
          have z1 : v0.heap.size < v1.heap.size := by rw [hv1]; simp
          have E1 : Hid (v1.ownsRow w3.heap.size 3 1 (.slice (some ⟨v0.heap.size, 0, none⟩) 0 0) 0 (ints [])) := Lib.hid (by rw [hv1]; exact World.ownsRow_made v0 #[] 0 (by omega) (by unfold maxLen; omega) rfl)
          clear hv1
          refine hKK.out _ _ (HK.out _ B1.out) (fun hSS => ?_)
          clear hKK K
          try simp only [Act.put, List.setIfInBounds_toArray, List.set_cons_zero, List.set_cons_succ]
          refine wpAnyH_ready (rs := [5, 7, 10]) (by kernel_rfl) (by simp) ?_
          refine AllReadyH.cons rfl (fun K hKK => ?_) (AllReadyH.cons rfl (fun K hKK => ?_) (AllReadyH.cons rfl (fun K hKK => ?_) AllReadyH.nil))
          · skip
            refine step_app rfl _ _ rfl w3.heap.size (some ⟨v0.heap.size, 0, none⟩) 0 [] a Z.length cap Z v1 E1.out (HIZW.out _ B1.out) (by simp) (by omega) (by omega) rfl rfl ?_
            intro a2 c2 v2 hown hgr
            rw [List.nil_append] at hown ⊢
            have z2 : v1.heap.size ≤ v2.heap.size := hgr.size
            have B2 : Hid (Below w3.heap.size w3 v2) := Lib.hid (B1.out.grown hgr (by omega) (fun x hx => (E1.out.lt x hx).1))
            have A2 := Lib.hid hown
            clear hown hgr
            refine hKK.out _ _ (HK.out _ B2.out) (fun hSS => ?_)
            clear hKK K
            try simp only [Act.put, List.setIfInBounds_toArray, List.set_cons_zero, List.set_cons_succ]
            refine wpAnyH_ready (rs := [7, 10]) (by kernel_rfl) (by simp) ?_
            refine AllReadyH.cons rfl (fun K hKK => ?_) (AllReadyH.cons rfl (fun K hKK => ?_) AllReadyH.nil)
            · skip
              go_simp
              obtain ⟨v3, hv3⟩ : ∃ V, V = v2.alloc (.cells #[.int .i64 p] 3) := ⟨_, rfl⟩
              rw [← hv3]
              have B3 : Hid (Below w3.heap.size w3 v3) := Lib.hid (by rw [hv3]; exact B2.out.alloc (by omega) _)
              have z3 : v2.heap.size < v3.heap.size := by rw [hv3]; simp
              have A3 : Hid (v3.ownsRow w3.heap.size 3 1 (.slice a2 Z.length c2) Z.length (ints Z)) := Lib.hid (by rw [hv3]; exact A2.out.alloc _)
              have P3 : Hid (Boxed v3 v2.heap.size 3 (.int .i64 p)) := Lib.hid (by rw [hv3]; exact Boxed.new _ _ _)
              clear hv3
              refine hKK.out _ _ (HK.out _ B3.out) (fun hSS => ?_)
              clear hKK K
              try simp only [Act.put, List.setIfInBounds_toArray, List.set_cons_zero, List.set_cons_succ]
              refine wpAnyH_ready (rs := [8, 10]) (by kernel_rfl) (by simp) ?_
              refine AllReadyH.cons rfl (fun K hKK => ?_) (AllReadyH.cons rfl (fun K hKK => ?_) AllReadyH.nil)
              · skip
                refine step_app rfl _ _ rfl w3.heap.size a2 c2 Z (some ⟨v2.heap.size, 0, none⟩) 1 1 [(p : Int)] v3 A3.out (ints_box P3.out (by omega)) (by omega) (by omega) (by omega) rfl rfl ?_
                intro a4 c4 v4 hown hgr
                have z4 : v3.heap.size ≤ v4.heap.size := hgr.size
                have B4 : Hid (Below w3.heap.size w3 v4) := Lib.hid (B3.out.grown hgr (by omega) (fun x hx => (A3.out.lt x hx).1))
                have Q4 := Lib.hid hown
                clear hown hgr
                refine hKK.out _ _ (HK.out _ B4.out) (fun hSS => ?_)
                clear hKK K
                try simp only [Act.put, List.setIfInBounds_toArray, List.set_cons_zero, List.set_cons_succ]
                refine wpAnyH_take (i := 9) (oi := ⟨some 58, _, _, _, _, _⟩) (v := .agg #[.int .i64 n, .slice a4 (Z ++ [(p : Int)]).length c4]) rfl (by kernel_rfl) (by kernel_rfl) (by kernel_rfl) (fun _ _ _ h => h) (Or.inl ⟨by rfl, fun W hSw => by go_simp⟩) (by assumption) ?_
                try simp only [Act.put, List.setIfInBounds_toArray, List.set_cons_zero, List.set_cons_succ]
                refine wpAnyH_ready (rs := [10]) (by kernel_rfl) (by simp) ?_
                refine AllReadyH.cons rfl (fun K hKK => ?_) AllReadyH.nil
                go_simp
                obtain ⟨v5, hv5⟩ : ∃ V, V = v4.alloc (.cells #[.int .i64 0, .slice none 0 0] 28) := ⟨_, rfl⟩
                rw [← hv5]
                have B5 : Hid (Below w3.heap.size w3 v5) := Lib.hid (by rw [hv5]; exact B4.out.alloc (by omega) _)
                have z5 : v4.heap.size < v5.heap.size := by rw [hv5]; simp
                have Q5 : Hid (v5.ownsRow w3.heap.size 3 1 (.slice a4 (Z ++ [(p : Int)]).length c4) (Z ++ [(p : Int)]).length (ints (Z ++ [(p : Int)]))) := Lib.hid (by rw [hv5]; exact Q4.out.alloc _)
                have X5 : Hid (Box v5 v4.heap.size (.int .i64 0) (.slice none 0 0) 28) := Lib.hid (by rw [hv5]; exact box_new _ _ _ _)
                clear hv5
                refine hKK.out _ _ (HK.out _ B5.out) (fun hSS => ?_)
                clear hKK K
                try simp only [Act.put, List.setIfInBounds_toArray, List.set_cons_zero, List.set_cons_succ]
                obtain ⟨_, _, x2, x3⟩ := X5.out.facts
                have xl := X5.out.lt
                refine wpAnyH_ready (rs := [11]) (by kernel_rfl) (by simp) ?_
                refine AllReadyH.cons rfl (fun K hKK => ?_) AllReadyH.nil
                go_simp
                refine hKK.out _ _ (HK.out _ ((B5.out.setCell (by show w3.heap.size ≤ v4.heap.size; omega) _).setCell (by show w3.heap.size ≤ v4.heap.size; omega) _)) (fun hSS => ?_)
                clear hKK K x2 x3 xl
                try simp only [Act.put, List.setIfInBounds_toArray, List.set_cons_zero, List.set_cons_succ]
                refine wpAnyH_done (by kernel_rfl) ?_ _
                go_wp2_with fail
                go_meet
                exact ⟨v4.heap.size, a4, c4, rfl, box_two X5.out _ _, (by have h9 := own_past Q5.out X5.out (.int .i64 n) (.slice a4 (Z.length + 1) c4); rw [List.length_append] at h9; exact h9), (B5.out.setCell (by show w3.heap.size ≤ v4.heap.size; omega) _).setCell (by show w3.heap.size ≤ v4.heap.size; omega) _, by omega⟩
              · skip
                go_simp
                obtain ⟨v6, hv6⟩ : ∃ V, V = v3.alloc (.cells #[.int .i64 0, .slice none 0 0] 28) := ⟨_, rfl⟩
                rw [← hv6]
                have B6 : Hid (Below w3.heap.size w3 v6) := Lib.hid (by rw [hv6]; exact B3.out.alloc (by omega) _)
                have z6 : v3.heap.size < v6.heap.size := by rw [hv6]; simp
                have A6 : Hid (v6.ownsRow w3.heap.size 3 1 (.slice a2 Z.length c2) Z.length (ints Z)) := Lib.hid (by rw [hv6]; exact A3.out.alloc _)
                have P6 : Hid (Boxed v6 v2.heap.size 3 (.int .i64 p)) := Lib.hid (by rw [hv6]; exact P3.out.alloc _)
                have X6 : Hid (Box v6 v3.heap.size (.int .i64 0) (.slice none 0 0) 28) := Lib.hid (by rw [hv6]; exact box_new _ _ _ _)
                clear hv6
                refine hKK.out _ _ (HK.out _ B6.out) (fun hSS => ?_)
                clear hKK K
                try simp only [Act.put, List.setIfInBounds_toArray, List.set_cons_zero, List.set_cons_succ]
                refine wpAnyH_ready (rs := [8]) (by kernel_rfl) (by simp) ?_
                refine AllReadyH.cons rfl (fun K hKK => ?_) AllReadyH.nil
                refine step_app rfl _ _ rfl w3.heap.size a2 c2 Z (some ⟨v2.heap.size, 0, none⟩) 1 1 [(p : Int)] v6 A6.out (ints_box P6.out (by omega)) (by omega) (by omega) (by omega) rfl rfl ?_
                intro a7 c7 v7 hown hgr
                have z7 : v6.heap.size ≤ v7.heap.size := hgr.size
                have B7 : Hid (Below w3.heap.size w3 v7) := Lib.hid (B6.out.grown hgr (by omega) (fun x hx => (A6.out.lt x hx).1))
                have Q7 := Lib.hid hown
                have X7 : Hid (Box v7 v3.heap.size (.int .i64 0) (.slice none 0 0) 28) := Lib.hid (box_row X6.out (by decide) A6.out hgr)
                clear hown hgr
                refine hKK.out _ _ (HK.out _ B7.out) (fun hSS => ?_)
                clear hKK K
                try simp only [Act.put, List.setIfInBounds_toArray, List.set_cons_zero, List.set_cons_succ]
                refine wpAnyH_take (i := 9) (oi := ⟨some 58, _, _, _, _, _⟩) (v := .agg #[.int .i64 n, .slice a7 (Z ++ [(p : Int)]).length c7]) rfl (by kernel_rfl) (by kernel_rfl) (by kernel_rfl) (fun _ _ _ h => h) (Or.inl ⟨by rfl, fun W hSw => by go_simp⟩) (by assumption) ?_
                try simp only [Act.put, List.setIfInBounds_toArray, List.set_cons_zero, List.set_cons_succ]
                obtain ⟨_, _, x2, x3⟩ := X7.out.facts
                have xl := X7.out.lt
                refine wpAnyH_ready (rs := [11]) (by kernel_rfl) (by simp) ?_
                refine AllReadyH.cons rfl (fun K hKK => ?_) AllReadyH.nil
                go_simp
                refine hKK.out _ _ (HK.out _ ((B7.out.setCell (by show w3.heap.size ≤ v3.heap.size; omega) _).setCell (by show w3.heap.size ≤ v3.heap.size; omega) _)) (fun hSS => ?_)
                clear hKK K x2 x3 xl
                try simp only [Act.put, List.setIfInBounds_toArray, List.set_cons_zero, List.set_cons_succ]
                refine wpAnyH_done (by kernel_rfl) ?_ _
                go_wp2_with fail
                go_meet
                exact ⟨v3.heap.size, a7, c7, rfl, box_two X7.out _ _, (by have h9 := own_past Q7.out X7.out (.int .i64 n) (.slice a7 (Z.length + 1) c7); rw [List.length_append] at h9; exact h9), (B7.out.setCell (by show w3.heap.size ≤ v3.heap.size; omega) _).setCell (by show w3.heap.size ≤ v3.heap.size; omega) _, by omega⟩
            · skip
              go_simp
              obtain ⟨v8, hv8⟩ : ∃ V, V = v2.alloc (.cells #[.int .i64 0, .slice none 0 0] 28) := ⟨_, rfl⟩
              rw [← hv8]
              have B8 : Hid (Below w3.heap.size w3 v8) := Lib.hid (by rw [hv8]; exact B2.out.alloc (by omega) _)
              have z8 : v2.heap.size < v8.heap.size := by rw [hv8]; simp
              have A8 : Hid (v8.ownsRow w3.heap.size 3 1 (.slice a2 Z.length c2) Z.length (ints Z)) := Lib.hid (by rw [hv8]; exact A2.out.alloc _)
              have X8 : Hid (Box v8 v2.heap.size (.int .i64 0) (.slice none 0 0) 28) := Lib.hid (by rw [hv8]; exact box_new _ _ _ _)
              clear hv8
              refine hKK.out _ _ (HK.out _ B8.out) (fun hSS => ?_)
              clear hKK K
              try simp only [Act.put, List.setIfInBounds_toArray, List.set_cons_zero, List.set_cons_succ]
              refine wpAnyH_ready (rs := [7]) (by kernel_rfl) (by simp) ?_
              refine AllReadyH.cons rfl (fun K hKK => ?_) AllReadyH.nil
              go_simp
              obtain ⟨v9, hv9⟩ : ∃ V, V = v8.alloc (.cells #[.int .i64 p] 3) := ⟨_, rfl⟩
              rw [← hv9]
              have B9 : Hid (Below w3.heap.size w3 v9) := Lib.hid (by rw [hv9]; exact B8.out.alloc (by omega) _)
              have z9 : v8.heap.size < v9.heap.size := by rw [hv9]; simp
              have A9 : Hid (v9.ownsRow w3.heap.size 3 1 (.slice a2 Z.length c2) Z.length (ints Z)) := Lib.hid (by rw [hv9]; exact A8.out.alloc _)
              have X9 : Hid (Box v9 v2.heap.size (.int .i64 0) (.slice none 0 0) 28) := Lib.hid (by rw [hv9]; exact X8.out.keep (bel1 _ _) X8.out.lt)
              have P9 : Hid (Boxed v9 v8.heap.size 3 (.int .i64 p)) := Lib.hid (by rw [hv9]; exact Boxed.new _ _ _)
              clear hv9
              refine hKK.out _ _ (HK.out _ B9.out) (fun hSS => ?_)
              clear hKK K
              try simp only [Act.put, List.setIfInBounds_toArray, List.set_cons_zero, List.set_cons_succ]
              refine wpAnyH_ready (rs := [8]) (by kernel_rfl) (by simp) ?_
              refine AllReadyH.cons rfl (fun K hKK => ?_) AllReadyH.nil
              refine step_app rfl _ _ rfl w3.heap.size a2 c2 Z (some ⟨v8.heap.size, 0, none⟩) 1 1 [(p : Int)] v9 A9.out (ints_box P9.out (by omega)) (by omega) (by omega) (by omega) rfl rfl ?_
              intro a10 c10 v10 hown hgr
              have z10 : v9.heap.size ≤ v10.heap.size := hgr.size
              have B10 : Hid (Below w3.heap.size w3 v10) := Lib.hid (B9.out.grown hgr (by omega) (fun x hx => (A9.out.lt x hx).1))
              have Q10 := Lib.hid hown
              have X10 : Hid (Box v10 v2.heap.size (.int .i64 0) (.slice none 0 0) 28) := Lib.hid (box_row X9.out (by decide) A9.out hgr)
              clear hown hgr
              refine hKK.out _ _ (HK.out _ B10.out) (fun hSS => ?_)
              clear hKK K
              try simp only [Act.put, List.setIfInBounds_toArray, List.set_cons_zero, List.set_cons_succ]
              refine wpAnyH_take (i := 9) (oi := ⟨some 58, _, _, _, _, _⟩) (v := .agg #[.int .i64 n, .slice a10 (Z ++ [(p : Int)]).length c10]) rfl (by kernel_rfl) (by kernel_rfl) (by kernel_rfl) (fun _ _ _ h => h) (Or.inl ⟨by rfl, fun W hSw => by go_simp⟩) (by assumption) ?_
              try simp only [Act.put, List.setIfInBounds_toArray, List.set_cons_zero, List.set_cons_succ]
              obtain ⟨_, _, x2, x3⟩ := X10.out.facts
              have xl := X10.out.lt
              refine wpAnyH_ready (rs := [11]) (by kernel_rfl) (by simp) ?_
              refine AllReadyH.cons rfl (fun K hKK => ?_) AllReadyH.nil
              go_simp
              refine hKK.out _ _ (HK.out _ ((B10.out.setCell (by show w3.heap.size ≤ v2.heap.size; omega) _).setCell (by show w3.heap.size ≤ v2.heap.size; omega) _)) (fun hSS => ?_)
              clear hKK K x2 x3 xl
              try simp only [Act.put, List.setIfInBounds_toArray, List.set_cons_zero, List.set_cons_succ]
              refine wpAnyH_done (by kernel_rfl) ?_ _
              go_wp2_with fail
              go_meet
              exact ⟨v2.heap.size, a10, c10, rfl, box_two X10.out _ _, (by have h9 := own_past Q10.out X10.out (.int .i64 n) (.slice a10 (Z.length + 1) c10); rw [List.length_append] at h9; exact h9), (B10.out.setCell (by show w3.heap.size ≤ v2.heap.size; omega) _).setCell (by show w3.heap.size ≤ v2.heap.size; omega) _, by omega⟩
          · skip
            go_simp
            obtain ⟨v11, hv11⟩ : ∃ V, V = v1.alloc (.cells #[.int .i64 p] 3) := ⟨_, rfl⟩
            rw [← hv11]
            have B11 : Hid (Below w3.heap.size w3 v11) := Lib.hid (by rw [hv11]; exact B1.out.alloc (by omega) _)
            have z11 : v1.heap.size < v11.heap.size := by rw [hv11]; simp
            have E11 : Hid (v11.ownsRow w3.heap.size 3 1 (.slice (some ⟨v0.heap.size, 0, none⟩) 0 0) 0 (ints [])) := Lib.hid (by rw [hv11]; exact E1.out.alloc _)
            have P11 : Hid (Boxed v11 v1.heap.size 3 (.int .i64 p)) := Lib.hid (by rw [hv11]; exact Boxed.new _ _ _)
            clear hv11
            refine hKK.out _ _ (HK.out _ B11.out) (fun hSS => ?_)
            clear hKK K
            try simp only [Act.put, List.setIfInBounds_toArray, List.set_cons_zero, List.set_cons_succ]
            refine wpAnyH_ready (rs := [5, 10]) (by kernel_rfl) (by simp) ?_
            refine AllReadyH.cons rfl (fun K hKK => ?_) (AllReadyH.cons rfl (fun K hKK => ?_) AllReadyH.nil)
            · skip
              refine step_app rfl _ _ rfl w3.heap.size (some ⟨v0.heap.size, 0, none⟩) 0 [] a Z.length cap Z v11 E11.out (HIZW.out _ B11.out) (by simp) (by omega) (by omega) rfl rfl ?_
              intro a12 c12 v12 hown hgr
              rw [List.nil_append] at hown ⊢
              have z12 : v11.heap.size ≤ v12.heap.size := hgr.size
              have B12 : Hid (Below w3.heap.size w3 v12) := Lib.hid (B11.out.grown hgr (by omega) (fun x hx => (E11.out.lt x hx).1))
              have A12 := Lib.hid hown
              have P12 : Hid (Boxed v12 v1.heap.size 3 (.int .i64 p)) := Lib.hid (P11.out.kept hgr (fun e => by have := Option.some.inj e; simp at this; omega))
              clear hown hgr
              refine hKK.out _ _ (HK.out _ B12.out) (fun hSS => ?_)
              clear hKK K
              try simp only [Act.put, List.setIfInBounds_toArray, List.set_cons_zero, List.set_cons_succ]
              refine wpAnyH_ready (rs := [8, 10]) (by kernel_rfl) (by simp) ?_
              refine AllReadyH.cons rfl (fun K hKK => ?_) (AllReadyH.cons rfl (fun K hKK => ?_) AllReadyH.nil)
              · skip
                refine step_app rfl _ _ rfl w3.heap.size a12 c12 Z (some ⟨v1.heap.size, 0, none⟩) 1 1 [(p : Int)] v12 A12.out (ints_box P12.out (by omega)) (by omega) (by omega) (by omega) rfl rfl ?_
                intro a13 c13 v13 hown hgr
                have z13 : v12.heap.size ≤ v13.heap.size := hgr.size
                have B13 : Hid (Below w3.heap.size w3 v13) := Lib.hid (B12.out.grown hgr (by omega) (fun x hx => (A12.out.lt x hx).1))
                have Q13 := Lib.hid hown
                clear hown hgr
                refine hKK.out _ _ (HK.out _ B13.out) (fun hSS => ?_)
                clear hKK K
                try simp only [Act.put, List.setIfInBounds_toArray, List.set_cons_zero, List.set_cons_succ]
                refine wpAnyH_take (i := 9) (oi := ⟨some 58, _, _, _, _, _⟩) (v := .agg #[.int .i64 n, .slice a13 (Z ++ [(p : Int)]).length c13]) rfl (by kernel_rfl) (by kernel_rfl) (by kernel_rfl) (fun _ _ _ h => h) (Or.inl ⟨by rfl, fun W hSw => by go_simp⟩) (by assumption) ?_
                try simp only [Act.put, List.setIfInBounds_toArray, List.set_cons_zero, List.set_cons_succ]
                refine wpAnyH_ready (rs := [10]) (by kernel_rfl) (by simp) ?_
                refine AllReadyH.cons rfl (fun K hKK => ?_) AllReadyH.nil
                go_simp
                obtain ⟨v14, hv14⟩ : ∃ V, V = v13.alloc (.cells #[.int .i64 0, .slice none 0 0] 28) := ⟨_, rfl⟩
                rw [← hv14]
                have B14 : Hid (Below w3.heap.size w3 v14) := Lib.hid (by rw [hv14]; exact B13.out.alloc (by omega) _)
                have z14 : v13.heap.size < v14.heap.size := by rw [hv14]; simp
                have Q14 : Hid (v14.ownsRow w3.heap.size 3 1 (.slice a13 (Z ++ [(p : Int)]).length c13) (Z ++ [(p : Int)]).length (ints (Z ++ [(p : Int)]))) := Lib.hid (by rw [hv14]; exact Q13.out.alloc _)
                have X14 : Hid (Box v14 v13.heap.size (.int .i64 0) (.slice none 0 0) 28) := Lib.hid (by rw [hv14]; exact box_new _ _ _ _)
                clear hv14
                refine hKK.out _ _ (HK.out _ B14.out) (fun hSS => ?_)
                clear hKK K
                try simp only [Act.put, List.setIfInBounds_toArray, List.set_cons_zero, List.set_cons_succ]
                obtain ⟨_, _, x2, x3⟩ := X14.out.facts
                have xl := X14.out.lt
                refine wpAnyH_ready (rs := [11]) (by kernel_rfl) (by simp) ?_
                refine AllReadyH.cons rfl (fun K hKK => ?_) AllReadyH.nil
                go_simp
                refine hKK.out _ _ (HK.out _ ((B14.out.setCell (by show w3.heap.size ≤ v13.heap.size; omega) _).setCell (by show w3.heap.size ≤ v13.heap.size; omega) _)) (fun hSS => ?_)
                clear hKK K x2 x3 xl
                try simp only [Act.put, List.setIfInBounds_toArray, List.set_cons_zero, List.set_cons_succ]
                refine wpAnyH_done (by kernel_rfl) ?_ _
                go_wp2_with fail
                go_meet
                exact ⟨v13.heap.size, a13, c13, rfl, box_two X14.out _ _, (by have h9 := own_past Q14.out X14.out (.int .i64 n) (.slice a13 (Z.length + 1) c13); rw [List.length_append] at h9; exact h9), (B14.out.setCell (by show w3.heap.size ≤ v13.heap.size; omega) _).setCell (by show w3.heap.size ≤ v13.heap.size; omega) _, by omega⟩
              · skip
                go_simp
                obtain ⟨v15, hv15⟩ : ∃ V, V = v12.alloc (.cells #[.int .i64 0, .slice none 0 0] 28) := ⟨_, rfl⟩
                rw [← hv15]
                have B15 : Hid (Below w3.heap.size w3 v15) := Lib.hid (by rw [hv15]; exact B12.out.alloc (by omega) _)
                have z15 : v12.heap.size < v15.heap.size := by rw [hv15]; simp
                have A15 : Hid (v15.ownsRow w3.heap.size 3 1 (.slice a12 Z.length c12) Z.length (ints Z)) := Lib.hid (by rw [hv15]; exact A12.out.alloc _)
                have P15 : Hid (Boxed v15 v1.heap.size 3 (.int .i64 p)) := Lib.hid (by rw [hv15]; exact P12.out.alloc _)
                have X15 : Hid (Box v15 v12.heap.size (.int .i64 0) (.slice none 0 0) 28) := Lib.hid (by rw [hv15]; exact box_new _ _ _ _)
                clear hv15
                refine hKK.out _ _ (HK.out _ B15.out) (fun hSS => ?_)
                clear hKK K
                try simp only [Act.put, List.setIfInBounds_toArray, List.set_cons_zero, List.set_cons_succ]
                refine wpAnyH_ready (rs := [8]) (by kernel_rfl) (by simp) ?_
                refine AllReadyH.cons rfl (fun K hKK => ?_) AllReadyH.nil
                refine step_app rfl _ _ rfl w3.heap.size a12 c12 Z (some ⟨v1.heap.size, 0, none⟩) 1 1 [(p : Int)] v15 A15.out (ints_box P15.out (by omega)) (by omega) (by omega) (by omega) rfl rfl ?_
                intro a16 c16 v16 hown hgr
                have z16 : v15.heap.size ≤ v16.heap.size := hgr.size
                have B16 : Hid (Below w3.heap.size w3 v16) := Lib.hid (B15.out.grown hgr (by omega) (fun x hx => (A15.out.lt x hx).1))
                have Q16 := Lib.hid hown
                have X16 : Hid (Box v16 v12.heap.size (.int .i64 0) (.slice none 0 0) 28) := Lib.hid (box_row X15.out (by decide) A15.out hgr)
                clear hown hgr
                refine hKK.out _ _ (HK.out _ B16.out) (fun hSS => ?_)
                clear hKK K
                try simp only [Act.put, List.setIfInBounds_toArray, List.set_cons_zero, List.set_cons_succ]
                refine wpAnyH_take (i := 9) (oi := ⟨some 58, _, _, _, _, _⟩) (v := .agg #[.int .i64 n, .slice a16 (Z ++ [(p : Int)]).length c16]) rfl (by kernel_rfl) (by kernel_rfl) (by kernel_rfl) (fun _ _ _ h => h) (Or.inl ⟨by rfl, fun W hSw => by go_simp⟩) (by assumption) ?_
                try simp only [Act.put, List.setIfInBounds_toArray, List.set_cons_zero, List.set_cons_succ]
                obtain ⟨_, _, x2, x3⟩ := X16.out.facts
                have xl := X16.out.lt
                refine wpAnyH_ready (rs := [11]) (by kernel_rfl) (by simp) ?_
                refine AllReadyH.cons rfl (fun K hKK => ?_) AllReadyH.nil
                go_simp
                refine hKK.out _ _ (HK.out _ ((B16.out.setCell (by show w3.heap.size ≤ v12.heap.size; omega) _).setCell (by show w3.heap.size ≤ v12.heap.size; omega) _)) (fun hSS => ?_)
                clear hKK K x2 x3 xl
                try simp only [Act.put, List.setIfInBounds_toArray, List.set_cons_zero, List.set_cons_succ]
                refine wpAnyH_done (by kernel_rfl) ?_ _
                go_wp2_with fail
                go_meet
                exact ⟨v12.heap.size, a16, c16, rfl, box_two X16.out _ _, (by have h9 := own_past Q16.out X16.out (.int .i64 n) (.slice a16 (Z.length + 1) c16); rw [List.length_append] at h9; exact h9), (B16.out.setCell (by show w3.heap.size ≤ v12.heap.size; omega) _).setCell (by show w3.heap.size ≤ v12.heap.size; omega) _, by omega⟩
            · skip
              go_simp
              obtain ⟨v17, hv17⟩ : ∃ V, V = v11.alloc (.cells #[.int .i64 0, .slice none 0 0] 28) := ⟨_, rfl⟩
              rw [← hv17]
              have B17 : Hid (Below w3.heap.size w3 v17) := Lib.hid (by rw [hv17]; exact B11.out.alloc (by omega) _)
              have z17 : v11.heap.size < v17.heap.size := by rw [hv17]; simp
              have E17 : Hid (v17.ownsRow w3.heap.size 3 1 (.slice (some ⟨v0.heap.size, 0, none⟩) 0 0) 0 (ints [])) := Lib.hid (by rw [hv17]; exact E11.out.alloc _)
              have P17 : Hid (Boxed v17 v1.heap.size 3 (.int .i64 p)) := Lib.hid (by rw [hv17]; exact P11.out.alloc _)
              have X17 : Hid (Box v17 v11.heap.size (.int .i64 0) (.slice none 0 0) 28) := Lib.hid (by rw [hv17]; exact box_new _ _ _ _)
              clear hv17
              refine hKK.out _ _ (HK.out _ B17.out) (fun hSS => ?_)
              clear hKK K
              try simp only [Act.put, List.setIfInBounds_toArray, List.set_cons_zero, List.set_cons_succ]
              refine wpAnyH_ready (rs := [5]) (by kernel_rfl) (by simp) ?_
              refine AllReadyH.cons rfl (fun K hKK => ?_) AllReadyH.nil
              refine step_app rfl _ _ rfl w3.heap.size (some ⟨v0.heap.size, 0, none⟩) 0 [] a Z.length cap Z v17 E17.out (HIZW.out _ B17.out) (by simp) (by omega) (by omega) rfl rfl ?_
              intro a18 c18 v18 hown hgr
              rw [List.nil_append] at hown ⊢
              have z18 : v17.heap.size ≤ v18.heap.size := hgr.size
              have B18 : Hid (Below w3.heap.size w3 v18) := Lib.hid (B17.out.grown hgr (by omega) (fun x hx => (E17.out.lt x hx).1))
              have A18 := Lib.hid hown
              have P18 : Hid (Boxed v18 v1.heap.size 3 (.int .i64 p)) := Lib.hid (P17.out.kept hgr (fun e => by have := Option.some.inj e; simp at this; omega))
              have X18 : Hid (Box v18 v11.heap.size (.int .i64 0) (.slice none 0 0) 28) := Lib.hid (box_row X17.out (by decide) E17.out hgr)
              clear hown hgr
              refine hKK.out _ _ (HK.out _ B18.out) (fun hSS => ?_)
              clear hKK K
              try simp only [Act.put, List.setIfInBounds_toArray, List.set_cons_zero, List.set_cons_succ]
              refine wpAnyH_ready (rs := [8]) (by kernel_rfl) (by simp) ?_
              refine AllReadyH.cons rfl (fun K hKK => ?_) AllReadyH.nil
              refine step_app rfl _ _ rfl w3.heap.size a18 c18 Z (some ⟨v1.heap.size, 0, none⟩) 1 1 [(p : Int)] v18 A18.out (ints_box P18.out (by omega)) (by omega) (by omega) (by omega) rfl rfl ?_
              intro a19 c19 v19 hown hgr
              have z19 : v18.heap.size ≤ v19.heap.size := hgr.size
              have B19 : Hid (Below w3.heap.size w3 v19) := Lib.hid (B18.out.grown hgr (by omega) (fun x hx => (A18.out.lt x hx).1))
              have Q19 := Lib.hid hown
              have X19 : Hid (Box v19 v11.heap.size (.int .i64 0) (.slice none 0 0) 28) := Lib.hid (box_row X18.out (by decide) A18.out hgr)
              clear hown hgr
              refine hKK.out _ _ (HK.out _ B19.out) (fun hSS => ?_)
              clear hKK K
              try simp only [Act.put, List.setIfInBounds_toArray, List.set_cons_zero, List.set_cons_succ]
              refine wpAnyH_take (i := 9) (oi := ⟨some 58, _, _, _, _, _⟩) (v := .agg #[.int .i64 n, .slice a19 (Z ++ [(p : Int)]).length c19]) rfl (by kernel_rfl) (by kernel_rfl) (by kernel_rfl) (fun _ _ _ h => h) (Or.inl ⟨by rfl, fun W hSw => by go_simp⟩) (by assumption) ?_
              try simp only [Act.put, List.setIfInBounds_toArray, List.set_cons_zero, List.set_cons_succ]
              obtain ⟨_, _, x2, x3⟩ := X19.out.facts
              have xl := X19.out.lt
              refine wpAnyH_ready (rs := [11]) (by kernel_rfl) (by simp) ?_
              refine AllReadyH.cons rfl (fun K hKK => ?_) AllReadyH.nil
              go_simp
              refine hKK.out _ _ (HK.out _ ((B19.out.setCell (by show w3.heap.size ≤ v11.heap.size; omega) _).setCell (by show w3.heap.size ≤ v11.heap.size; omega) _)) (fun hSS => ?_)
              clear hKK K x2 x3 xl
              try simp only [Act.put, List.setIfInBounds_toArray, List.set_cons_zero, List.set_cons_succ]
              refine wpAnyH_done (by kernel_rfl) ?_ _
              go_wp2_with fail
              go_meet
              exact ⟨v11.heap.size, a19, c19, rfl, box_two X19.out _ _, (by have h9 := own_past Q19.out X19.out (.int .i64 n) (.slice a19 (Z.length + 1) c19); rw [List.length_append] at h9; exact h9), (B19.out.setCell (by show w3.heap.size ≤ v11.heap.size; omega) _).setCell (by show w3.heap.size ≤ v11.heap.size; omega) _, by omega⟩
          · skip
            go_simp
            obtain ⟨v20, hv20⟩ : ∃ V, V = v1.alloc (.cells #[.int .i64 0, .slice none 0 0] 28) := ⟨_, rfl⟩
            rw [← hv20]
            have B20 : Hid (Below w3.heap.size w3 v20) := Lib.hid (by rw [hv20]; exact B1.out.alloc (by omega) _)
            have z20 : v1.heap.size < v20.heap.size := by rw [hv20]; simp
            have E20 : Hid (v20.ownsRow w3.heap.size 3 1 (.slice (some ⟨v0.heap.size, 0, none⟩) 0 0) 0 (ints [])) := Lib.hid (by rw [hv20]; exact E1.out.alloc _)
            have X20 : Hid (Box v20 v1.heap.size (.int .i64 0) (.slice none 0 0) 28) := Lib.hid (by rw [hv20]; exact box_new _ _ _ _)
            clear hv20
            refine hKK.out _ _ (HK.out _ B20.out) (fun hSS => ?_)
            clear hKK K
            try simp only [Act.put, List.setIfInBounds_toArray, List.set_cons_zero, List.set_cons_succ]
            refine wpAnyH_ready (rs := [5, 7]) (by kernel_rfl) (by simp) ?_
            refine AllReadyH.cons rfl (fun K hKK => ?_) (AllReadyH.cons rfl (fun K hKK => ?_) AllReadyH.nil)
            · skip
              refine step_app rfl _ _ rfl w3.heap.size (some ⟨v0.heap.size, 0, none⟩) 0 [] a Z.length cap Z v20 E20.out (HIZW.out _ B20.out) (by simp) (by omega) (by omega) rfl rfl ?_
              intro a21 c21 v21 hown hgr
              rw [List.nil_append] at hown ⊢
              have z21 : v20.heap.size ≤ v21.heap.size := hgr.size
              have B21 : Hid (Below w3.heap.size w3 v21) := Lib.hid (B20.out.grown hgr (by omega) (fun x hx => (E20.out.lt x hx).1))
              have A21 := Lib.hid hown
              have X21 : Hid (Box v21 v1.heap.size (.int .i64 0) (.slice none 0 0) 28) := Lib.hid (box_row X20.out (by decide) E20.out hgr)
              clear hown hgr
              refine hKK.out _ _ (HK.out _ B21.out) (fun hSS => ?_)
              clear hKK K
              try simp only [Act.put, List.setIfInBounds_toArray, List.set_cons_zero, List.set_cons_succ]
              refine wpAnyH_ready (rs := [7]) (by kernel_rfl) (by simp) ?_
              refine AllReadyH.cons rfl (fun K hKK => ?_) AllReadyH.nil
              go_simp
              obtain ⟨v22, hv22⟩ : ∃ V, V = v21.alloc (.cells #[.int .i64 p] 3) := ⟨_, rfl⟩
              rw [← hv22]
              have B22 : Hid (Below w3.heap.size w3 v22) := Lib.hid (by rw [hv22]; exact B21.out.alloc (by omega) _)
              have z22 : v21.heap.size < v22.heap.size := by rw [hv22]; simp
              have A22 : Hid (v22.ownsRow w3.heap.size 3 1 (.slice a21 Z.length c21) Z.length (ints Z)) := Lib.hid (by rw [hv22]; exact A21.out.alloc _)
              have X22 : Hid (Box v22 v1.heap.size (.int .i64 0) (.slice none 0 0) 28) := Lib.hid (by rw [hv22]; exact X21.out.keep (bel1 _ _) X21.out.lt)
              have P22 : Hid (Boxed v22 v21.heap.size 3 (.int .i64 p)) := Lib.hid (by rw [hv22]; exact Boxed.new _ _ _)
              clear hv22
              refine hKK.out _ _ (HK.out _ B22.out) (fun hSS => ?_)
              clear hKK K
              try simp only [Act.put, List.setIfInBounds_toArray, List.set_cons_zero, List.set_cons_succ]
              refine wpAnyH_ready (rs := [8]) (by kernel_rfl) (by simp) ?_
              refine AllReadyH.cons rfl (fun K hKK => ?_) AllReadyH.nil
              refine step_app rfl _ _ rfl w3.heap.size a21 c21 Z (some ⟨v21.heap.size, 0, none⟩) 1 1 [(p : Int)] v22 A22.out (ints_box P22.out (by omega)) (by omega) (by omega) (by omega) rfl rfl ?_
              intro a23 c23 v23 hown hgr
              have z23 : v22.heap.size ≤ v23.heap.size := hgr.size
              have B23 : Hid (Below w3.heap.size w3 v23) := Lib.hid (B22.out.grown hgr (by omega) (fun x hx => (A22.out.lt x hx).1))
              have Q23 := Lib.hid hown
              have X23 : Hid (Box v23 v1.heap.size (.int .i64 0) (.slice none 0 0) 28) := Lib.hid (box_row X22.out (by decide) A22.out hgr)
              clear hown hgr
              refine hKK.out _ _ (HK.out _ B23.out) (fun hSS => ?_)
              clear hKK K
              try simp only [Act.put, List.setIfInBounds_toArray, List.set_cons_zero, List.set_cons_succ]
              refine wpAnyH_take (i := 9) (oi := ⟨some 58, _, _, _, _, _⟩) (v := .agg #[.int .i64 n, .slice a23 (Z ++ [(p : Int)]).length c23]) rfl (by kernel_rfl) (by kernel_rfl) (by kernel_rfl) (fun _ _ _ h => h) (Or.inl ⟨by rfl, fun W hSw => by go_simp⟩) (by assumption) ?_
              try simp only [Act.put, List.setIfInBounds_toArray, List.set_cons_zero, List.set_cons_succ]
              obtain ⟨_, _, x2, x3⟩ := X23.out.facts
              have xl := X23.out.lt
              refine wpAnyH_ready (rs := [11]) (by kernel_rfl) (by simp) ?_
              refine AllReadyH.cons rfl (fun K hKK => ?_) AllReadyH.nil
              go_simp
              refine hKK.out _ _ (HK.out _ ((B23.out.setCell (by show w3.heap.size ≤ v1.heap.size; omega) _).setCell (by show w3.heap.size ≤ v1.heap.size; omega) _)) (fun hSS => ?_)
              clear hKK K x2 x3 xl
              try simp only [Act.put, List.setIfInBounds_toArray, List.set_cons_zero, List.set_cons_succ]
              refine wpAnyH_done (by kernel_rfl) ?_ _
              go_wp2_with fail
              go_meet
              exact ⟨v1.heap.size, a23, c23, rfl, box_two X23.out _ _, (by have h9 := own_past Q23.out X23.out (.int .i64 n) (.slice a23 (Z.length + 1) c23); rw [List.length_append] at h9; exact h9), (B23.out.setCell (by show w3.heap.size ≤ v1.heap.size; omega) _).setCell (by show w3.heap.size ≤ v1.heap.size; omega) _, by omega⟩
            · skip
              go_simp
              obtain ⟨v24, hv24⟩ : ∃ V, V = v20.alloc (.cells #[.int .i64 p] 3) := ⟨_, rfl⟩
              rw [← hv24]
              have B24 : Hid (Below w3.heap.size w3 v24) := Lib.hid (by rw [hv24]; exact B20.out.alloc (by omega) _)
              have z24 : v20.heap.size < v24.heap.size := by rw [hv24]; simp
              have E24 : Hid (v24.ownsRow w3.heap.size 3 1 (.slice (some ⟨v0.heap.size, 0, none⟩) 0 0) 0 (ints [])) := Lib.hid (by rw [hv24]; exact E20.out.alloc _)
              have X24 : Hid (Box v24 v1.heap.size (.int .i64 0) (.slice none 0 0) 28) := Lib.hid (by rw [hv24]; exact X20.out.keep (bel1 _ _) X20.out.lt)
              have P24 : Hid (Boxed v24 v20.heap.size 3 (.int .i64 p)) := Lib.hid (by rw [hv24]; exact Boxed.new _ _ _)
              clear hv24
              refine hKK.out _ _ (HK.out _ B24.out) (fun hSS => ?_)
              clear hKK K
              try simp only [Act.put, List.setIfInBounds_toArray, List.set_cons_zero, List.set_cons_succ]
              refine wpAnyH_ready (rs := [5]) (by kernel_rfl) (by simp) ?_
              refine AllReadyH.cons rfl (fun K hKK => ?_) AllReadyH.nil
              refine step_app rfl _ _ rfl w3.heap.size (some ⟨v0.heap.size, 0, none⟩) 0 [] a Z.length cap Z v24 E24.out (HIZW.out _ B24.out) (by simp) (by omega) (by omega) rfl rfl ?_
              intro a25 c25 v25 hown hgr
              rw [List.nil_append] at hown ⊢
              have z25 : v24.heap.size ≤ v25.heap.size := hgr.size
              have B25 : Hid (Below w3.heap.size w3 v25) := Lib.hid (B24.out.grown hgr (by omega) (fun x hx => (E24.out.lt x hx).1))
              have A25 := Lib.hid hown
              have P25 : Hid (Boxed v25 v20.heap.size 3 (.int .i64 p)) := Lib.hid (P24.out.kept hgr (fun e => by have := Option.some.inj e; simp at this; omega))
              have X25 : Hid (Box v25 v1.heap.size (.int .i64 0) (.slice none 0 0) 28) := Lib.hid (box_row X24.out (by decide) E24.out hgr)
              clear hown hgr
              refine hKK.out _ _ (HK.out _ B25.out) (fun hSS => ?_)
              clear hKK K
              try simp only [Act.put, List.setIfInBounds_toArray, List.set_cons_zero, List.set_cons_succ]
              refine wpAnyH_ready (rs := [8]) (by kernel_rfl) (by simp) ?_
              refine AllReadyH.cons rfl (fun K hKK => ?_) AllReadyH.nil
              refine step_app rfl _ _ rfl w3.heap.size a25 c25 Z (some ⟨v20.heap.size, 0, none⟩) 1 1 [(p : Int)] v25 A25.out (ints_box P25.out (by omega)) (by omega) (by omega) (by omega) rfl rfl ?_
              intro a26 c26 v26 hown hgr
              have z26 : v25.heap.size ≤ v26.heap.size := hgr.size
              have B26 : Hid (Below w3.heap.size w3 v26) := Lib.hid (B25.out.grown hgr (by omega) (fun x hx => (A25.out.lt x hx).1))
              have Q26 := Lib.hid hown
              have X26 : Hid (Box v26 v1.heap.size (.int .i64 0) (.slice none 0 0) 28) := Lib.hid (box_row X25.out (by decide) A25.out hgr)
              clear hown hgr
              refine hKK.out _ _ (HK.out _ B26.out) (fun hSS => ?_)
              clear hKK K
              try simp only [Act.put, List.setIfInBounds_toArray, List.set_cons_zero, List.set_cons_succ]
              refine wpAnyH_take (i := 9) (oi := ⟨some 58, _, _, _, _, _⟩) (v := .agg #[.int .i64 n, .slice a26 (Z ++ [(p : Int)]).length c26]) rfl (by kernel_rfl) (by kernel_rfl) (by kernel_rfl) (fun _ _ _ h => h) (Or.inl ⟨by rfl, fun W hSw => by go_simp⟩) (by assumption) ?_
              try simp only [Act.put, List.setIfInBounds_toArray, List.set_cons_zero, List.set_cons_succ]
              obtain ⟨_, _, x2, x3⟩ := X26.out.facts
              have xl := X26.out.lt
              refine wpAnyH_ready (rs := [11]) (by kernel_rfl) (by simp) ?_
              refine AllReadyH.cons rfl (fun K hKK => ?_) AllReadyH.nil
              go_simp
              refine hKK.out _ _ (HK.out _ ((B26.out.setCell (by show w3.heap.size ≤ v1.heap.size; omega) _).setCell (by show w3.heap.size ≤ v1.heap.size; omega) _)) (fun hSS => ?_)
              clear hKK K x2 x3 xl
              try simp only [Act.put, List.setIfInBounds_toArray, List.set_cons_zero, List.set_cons_succ]
              refine wpAnyH_done (by kernel_rfl) ?_ _
              go_wp2_with fail
              go_meet
              exact ⟨v1.heap.size, a26, c26, rfl, box_two X26.out _ _, (by have h9 := own_past Q26.out X26.out (.int .i64 n) (.slice a26 (Z.length + 1) c26); rw [List.length_append] at h9; exact h9), (B26.out.setCell (by show w3.heap.size ≤ v1.heap.size; omega) _).setCell (by show w3.heap.size ≤ v1.heap.size; omega) _, by omega⟩
        · skip
          go_simp
          obtain ⟨v27, hv27⟩ : ∃ V, V = v0.alloc (.cells #[.int .i64 p] 3) := ⟨_, rfl⟩
          rw [← hv27]
          have B27 : Hid (Below w3.heap.size w3 v27) := Lib.hid (by rw [hv27]; exact B0.out.alloc (by omega) _)
          have z27 : v0.heap.size < v27.heap.size := by rw [hv27]; simp
          have P27 : Hid (Boxed v27 v0.heap.size 3 (.int .i64 p)) := Lib.hid (by rw [hv27]; exact Boxed.new _ _ _)
          clear hv27
          refine hKK.out _ _ (HK.out _ B27.out) (fun hSS => ?_)
          clear hKK K
          try simp only [Act.put, List.setIfInBounds_toArray, List.set_cons_zero, List.set_cons_succ]
          refine wpAnyH_ready (rs := [2, 10]) (by kernel_rfl) (by simp) ?_
          refine AllReadyH.cons rfl (fun K hKK => ?_) (AllReadyH.cons rfl (fun K hKK => ?_) AllReadyH.nil)
          · skip
            go_simp
            obtain ⟨v28, hv28⟩ : ∃ V, V = v27.alloc (.cells #[] 3) := ⟨_, rfl⟩
            rw [← hv28]
            have B28 : Hid (Below w3.heap.size w3 v28) := Lib.hid (by rw [hv28]; exact B27.out.alloc (by omega) _)
            have z28 : v27.heap.size < v28.heap.size := by rw [hv28]; simp
            have P28 : Hid (Boxed v28 v0.heap.size 3 (.int .i64 p)) := Lib.hid (by rw [hv28]; exact P27.out.alloc _)
            have E28 : Hid (v28.ownsRow w3.heap.size 3 1 (.slice (some ⟨v27.heap.size, 0, none⟩) 0 0) 0 (ints [])) := Lib.hid (by rw [hv28]; exact World.ownsRow_made v27 #[] 0 (by omega) (by unfold maxLen; omega) rfl)
            clear hv28
            refine hKK.out _ _ (HK.out _ B28.out) (fun hSS => ?_)
            clear hKK K
            try simp only [Act.put, List.setIfInBounds_toArray, List.set_cons_zero, List.set_cons_succ]
            refine wpAnyH_ready (rs := [5, 10]) (by kernel_rfl) (by simp) ?_
            refine AllReadyH.cons rfl (fun K hKK => ?_) (AllReadyH.cons rfl (fun K hKK => ?_) AllReadyH.nil)
            · skip
              refine step_app rfl _ _ rfl w3.heap.size (some ⟨v27.heap.size, 0, none⟩) 0 [] a Z.length cap Z v28 E28.out (HIZW.out _ B28.out) (by simp) (by omega) (by omega) rfl rfl ?_
              intro a29 c29 v29 hown hgr
              rw [List.nil_append] at hown ⊢
              have z29 : v28.heap.size ≤ v29.heap.size := hgr.size
              have B29 : Hid (Below w3.heap.size w3 v29) := Lib.hid (B28.out.grown hgr (by omega) (fun x hx => (E28.out.lt x hx).1))
              have A29 := Lib.hid hown
              have P29 : Hid (Boxed v29 v0.heap.size 3 (.int .i64 p)) := Lib.hid (P28.out.kept hgr (fun e => by have := Option.some.inj e; simp at this; omega))
              clear hown hgr
              refine hKK.out _ _ (HK.out _ B29.out) (fun hSS => ?_)
              clear hKK K
              try simp only [Act.put, List.setIfInBounds_toArray, List.set_cons_zero, List.set_cons_succ]
              refine wpAnyH_ready (rs := [8, 10]) (by kernel_rfl) (by simp) ?_
              refine AllReadyH.cons rfl (fun K hKK => ?_) (AllReadyH.cons rfl (fun K hKK => ?_) AllReadyH.nil)
              · skip
                refine step_app rfl _ _ rfl w3.heap.size a29 c29 Z (some ⟨v0.heap.size, 0, none⟩) 1 1 [(p : Int)] v29 A29.out (ints_box P29.out (by omega)) (by omega) (by omega) (by omega) rfl rfl ?_
                intro a30 c30 v30 hown hgr
                have z30 : v29.heap.size ≤ v30.heap.size := hgr.size
                have B30 : Hid (Below w3.heap.size w3 v30) := Lib.hid (B29.out.grown hgr (by omega) (fun x hx => (A29.out.lt x hx).1))
                have Q30 := Lib.hid hown
                clear hown hgr
                refine hKK.out _ _ (HK.out _ B30.out) (fun hSS => ?_)
                clear hKK K
                try simp only [Act.put, List.setIfInBounds_toArray, List.set_cons_zero, List.set_cons_succ]
                refine wpAnyH_take (i := 9) (oi := ⟨some 58, _, _, _, _, _⟩) (v := .agg #[.int .i64 n, .slice a30 (Z ++ [(p : Int)]).length c30]) rfl (by kernel_rfl) (by kernel_rfl) (by kernel_rfl) (fun _ _ _ h => h) (Or.inl ⟨by rfl, fun W hSw => by go_simp⟩) (by assumption) ?_
                try simp only [Act.put, List.setIfInBounds_toArray, List.set_cons_zero, List.set_cons_succ]
                refine wpAnyH_ready (rs := [10]) (by kernel_rfl) (by simp) ?_
                refine AllReadyH.cons rfl (fun K hKK => ?_) AllReadyH.nil
                go_simp
                obtain ⟨v31, hv31⟩ : ∃ V, V = v30.alloc (.cells #[.int .i64 0, .slice none 0 0] 28) := ⟨_, rfl⟩
                rw [← hv31]
                have B31 : Hid (Below w3.heap.size w3 v31) := Lib.hid (by rw [hv31]; exact B30.out.alloc (by omega) _)
                have z31 : v30.heap.size < v31.heap.size := by rw [hv31]; simp
                have Q31 : Hid (v31.ownsRow w3.heap.size 3 1 (.slice a30 (Z ++ [(p : Int)]).length c30) (Z ++ [(p : Int)]).length (ints (Z ++ [(p : Int)]))) := Lib.hid (by rw [hv31]; exact Q30.out.alloc _)
                have X31 : Hid (Box v31 v30.heap.size (.int .i64 0) (.slice none 0 0) 28) := Lib.hid (by rw [hv31]; exact box_new _ _ _ _)
                clear hv31
                refine hKK.out _ _ (HK.out _ B31.out) (fun hSS => ?_)
                clear hKK K
                try simp only [Act.put, List.setIfInBounds_toArray, List.set_cons_zero, List.set_cons_succ]
                obtain ⟨_, _, x2, x3⟩ := X31.out.facts
                have xl := X31.out.lt
                refine wpAnyH_ready (rs := [11]) (by kernel_rfl) (by simp) ?_
                refine AllReadyH.cons rfl (fun K hKK => ?_) AllReadyH.nil
                go_simp
                refine hKK.out _ _ (HK.out _ ((B31.out.setCell (by show w3.heap.size ≤ v30.heap.size; omega) _).setCell (by show w3.heap.size ≤ v30.heap.size; omega) _)) (fun hSS => ?_)
                clear hKK K x2 x3 xl
                try simp only [Act.put, List.setIfInBounds_toArray, List.set_cons_zero, List.set_cons_succ]
                refine wpAnyH_done (by kernel_rfl) ?_ _
                go_wp2_with fail
                go_meet
                exact ⟨v30.heap.size, a30, c30, rfl, box_two X31.out _ _, (by have h9 := own_past Q31.out X31.out (.int .i64 n) (.slice a30 (Z.length + 1) c30); rw [List.length_append] at h9; exact h9), (B31.out.setCell (by show w3.heap.size ≤ v30.heap.size; omega) _).setCell (by show w3.heap.size ≤ v30.heap.size; omega) _, by omega⟩
              · skip
                go_simp
                obtain ⟨v32, hv32⟩ : ∃ V, V = v29.alloc (.cells #[.int .i64 0, .slice none 0 0] 28) := ⟨_, rfl⟩
                rw [← hv32]
                have B32 : Hid (Below w3.heap.size w3 v32) := Lib.hid (by rw [hv32]; exact B29.out.alloc (by omega) _)
                have z32 : v29.heap.size < v32.heap.size := by rw [hv32]; simp
                have A32 : Hid (v32.ownsRow w3.heap.size 3 1 (.slice a29 Z.length c29) Z.length (ints Z)) := Lib.hid (by rw [hv32]; exact A29.out.alloc _)
                have P32 : Hid (Boxed v32 v0.heap.size 3 (.int .i64 p)) := Lib.hid (by rw [hv32]; exact P29.out.alloc _)
                have X32 : Hid (Box v32 v29.heap.size (.int .i64 0) (.slice none 0 0) 28) := Lib.hid (by rw [hv32]; exact box_new _ _ _ _)
                clear hv32
                refine hKK.out _ _ (HK.out _ B32.out) (fun hSS => ?_)
                clear hKK K
                try simp only [Act.put, List.setIfInBounds_toArray, List.set_cons_zero, List.set_cons_succ]
                refine wpAnyH_ready (rs := [8]) (by kernel_rfl) (by simp) ?_
                refine AllReadyH.cons rfl (fun K hKK => ?_) AllReadyH.nil
                refine step_app rfl _ _ rfl w3.heap.size a29 c29 Z (some ⟨v0.heap.size, 0, none⟩) 1 1 [(p : Int)] v32 A32.out (ints_box P32.out (by omega)) (by omega) (by omega) (by omega) rfl rfl ?_
                intro a33 c33 v33 hown hgr
                have z33 : v32.heap.size ≤ v33.heap.size := hgr.size
                have B33 : Hid (Below w3.heap.size w3 v33) := Lib.hid (B32.out.grown hgr (by omega) (fun x hx => (A32.out.lt x hx).1))
                have Q33 := Lib.hid hown
                have X33 : Hid (Box v33 v29.heap.size (.int .i64 0) (.slice none 0 0) 28) := Lib.hid (box_row X32.out (by decide) A32.out hgr)
                clear hown hgr
                refine hKK.out _ _ (HK.out _ B33.out) (fun hSS => ?_)
                clear hKK K
                try simp only [Act.put, List.setIfInBounds_toArray, List.set_cons_zero, List.set_cons_succ]
                refine wpAnyH_take (i := 9) (oi := ⟨some 58, _, _, _, _, _⟩) (v := .agg #[.int .i64 n, .slice a33 (Z ++ [(p : Int)]).length c33]) rfl (by kernel_rfl) (by kernel_rfl) (by kernel_rfl) (fun _ _ _ h => h) (Or.inl ⟨by rfl, fun W hSw => by go_simp⟩) (by assumption) ?_
                try simp only [Act.put, List.setIfInBounds_toArray, List.set_cons_zero, List.set_cons_succ]
                obtain ⟨_, _, x2, x3⟩ := X33.out.facts
                have xl := X33.out.lt
                refine wpAnyH_ready (rs := [11]) (by kernel_rfl) (by simp) ?_
                refine AllReadyH.cons rfl (fun K hKK => ?_) AllReadyH.nil
                go_simp
                refine hKK.out _ _ (HK.out _ ((B33.out.setCell (by show w3.heap.size ≤ v29.heap.size; omega) _).setCell (by show w3.heap.size ≤ v29.heap.size; omega) _)) (fun hSS => ?_)
                clear hKK K x2 x3 xl
                try simp only [Act.put, List.setIfInBounds_toArray, List.set_cons_zero, List.set_cons_succ]
                refine wpAnyH_done (by kernel_rfl) ?_ _
                go_wp2_with fail
                go_meet
                exact ⟨v29.heap.size, a33, c33, rfl, box_two X33.out _ _, (by have h9 := own_past Q33.out X33.out (.int .i64 n) (.slice a33 (Z.length + 1) c33); rw [List.length_append] at h9; exact h9), (B33.out.setCell (by show w3.heap.size ≤ v29.heap.size; omega) _).setCell (by show w3.heap.size ≤ v29.heap.size; omega) _, by omega⟩
            · skip
              go_simp
              obtain ⟨v34, hv34⟩ : ∃ V, V = v28.alloc (.cells #[.int .i64 0, .slice none 0 0] 28) := ⟨_, rfl⟩
              rw [← hv34]
              have B34 : Hid (Below w3.heap.size w3 v34) := Lib.hid (by rw [hv34]; exact B28.out.alloc (by omega) _)
              have z34 : v28.heap.size < v34.heap.size := by rw [hv34]; simp
              have E34 : Hid (v34.ownsRow w3.heap.size 3 1 (.slice (some ⟨v27.heap.size, 0, none⟩) 0 0) 0 (ints [])) := Lib.hid (by rw [hv34]; exact E28.out.alloc _)
              have P34 : Hid (Boxed v34 v0.heap.size 3 (.int .i64 p)) := Lib.hid (by rw [hv34]; exact P28.out.alloc _)
              have X34 : Hid (Box v34 v28.heap.size (.int .i64 0) (.slice none 0 0) 28) := Lib.hid (by rw [hv34]; exact box_new _ _ _ _)
              clear hv34
              refine hKK.out _ _ (HK.out _ B34.out) (fun hSS => ?_)
              clear hKK K
              try simp only [Act.put, List.setIfInBounds_toArray, List.set_cons_zero, List.set_cons_succ]
              refine wpAnyH_ready (rs := [5]) (by kernel_rfl) (by simp) ?_
              refine AllReadyH.cons rfl (fun K hKK => ?_) AllReadyH.nil
              refine step_app rfl _ _ rfl w3.heap.size (some ⟨v27.heap.size, 0, none⟩) 0 [] a Z.length cap Z v34 E34.out (HIZW.out _ B34.out) (by simp) (by omega) (by omega) rfl rfl ?_
              intro a35 c35 v35 hown hgr
              rw [List.nil_append] at hown ⊢
              have z35 : v34.heap.size ≤ v35.heap.size := hgr.size
              have B35 : Hid (Below w3.heap.size w3 v35) := Lib.hid (B34.out.grown hgr (by omega) (fun x hx => (E34.out.lt x hx).1))
              have A35 := Lib.hid hown
              have P35 : Hid (Boxed v35 v0.heap.size 3 (.int .i64 p)) := Lib.hid (P34.out.kept hgr (fun e => by have := Option.some.inj e; simp at this; omega))
              have X35 : Hid (Box v35 v28.heap.size (.int .i64 0) (.slice none 0 0) 28) := Lib.hid (box_row X34.out (by decide) E34.out hgr)
              clear hown hgr
              refine hKK.out _ _ (HK.out _ B35.out) (fun hSS => ?_)
              clear hKK K
              try simp only [Act.put, List.setIfInBounds_toArray, List.set_cons_zero, List.set_cons_succ]
              refine wpAnyH_ready (rs := [8]) (by kernel_rfl) (by simp) ?_
              refine AllReadyH.cons rfl (fun K hKK => ?_) AllReadyH.nil
              refine step_app rfl _ _ rfl w3.heap.size a35 c35 Z (some ⟨v0.heap.size, 0, none⟩) 1 1 [(p : Int)] v35 A35.out (ints_box P35.out (by omega)) (by omega) (by omega) (by omega) rfl rfl ?_
              intro a36 c36 v36 hown hgr
              have z36 : v35.heap.size ≤ v36.heap.size := hgr.size
              have B36 : Hid (Below w3.heap.size w3 v36) := Lib.hid (B35.out.grown hgr (by omega) (fun x hx => (A35.out.lt x hx).1))
              have Q36 := Lib.hid hown
              have X36 : Hid (Box v36 v28.heap.size (.int .i64 0) (.slice none 0 0) 28) := Lib.hid (box_row X35.out (by decide) A35.out hgr)
              clear hown hgr
              refine hKK.out _ _ (HK.out _ B36.out) (fun hSS => ?_)
              clear hKK K
              try simp only [Act.put, List.setIfInBounds_toArray, List.set_cons_zero, List.set_cons_succ]
              refine wpAnyH_take (i := 9) (oi := ⟨some 58, _, _, _, _, _⟩) (v := .agg #[.int .i64 n, .slice a36 (Z ++ [(p : Int)]).length c36]) rfl (by kernel_rfl) (by kernel_rfl) (by kernel_rfl) (fun _ _ _ h => h) (Or.inl ⟨by rfl, fun W hSw => by go_simp⟩) (by assumption) ?_
              try simp only [Act.put, List.setIfInBounds_toArray, List.set_cons_zero, List.set_cons_succ]
              obtain ⟨_, _, x2, x3⟩ := X36.out.facts
              have xl := X36.out.lt
              refine wpAnyH_ready (rs := [11]) (by kernel_rfl) (by simp) ?_
              refine AllReadyH.cons rfl (fun K hKK => ?_) AllReadyH.nil
              go_simp
              refine hKK.out _ _ (HK.out _ ((B36.out.setCell (by show w3.heap.size ≤ v28.heap.size; omega) _).setCell (by show w3.heap.size ≤ v28.heap.size; omega) _)) (fun hSS => ?_)
              clear hKK K x2 x3 xl
              try simp only [Act.put, List.setIfInBounds_toArray, List.set_cons_zero, List.set_cons_succ]
              refine wpAnyH_done (by kernel_rfl) ?_ _
              go_wp2_with fail
              go_meet
              exact ⟨v28.heap.size, a36, c36, rfl, box_two X36.out _ _, (by have h9 := own_past Q36.out X36.out (.int .i64 n) (.slice a36 (Z.length + 1) c36); rw [List.length_append] at h9; exact h9), (B36.out.setCell (by show w3.heap.size ≤ v28.heap.size; omega) _).setCell (by show w3.heap.size ≤ v28.heap.size; omega) _, by omega⟩
          · skip
            go_simp
            obtain ⟨v37, hv37⟩ : ∃ V, V = v27.alloc (.cells #[.int .i64 0, .slice none 0 0] 28) := ⟨_, rfl⟩
            rw [← hv37]
            have B37 : Hid (Below w3.heap.size w3 v37) := Lib.hid (by rw [hv37]; exact B27.out.alloc (by omega) _)
            have z37 : v27.heap.size < v37.heap.size := by rw [hv37]; simp
            have P37 : Hid (Boxed v37 v0.heap.size 3 (.int .i64 p)) := Lib.hid (by rw [hv37]; exact P27.out.alloc _)
            have X37 : Hid (Box v37 v27.heap.size (.int .i64 0) (.slice none 0 0) 28) := Lib.hid (by rw [hv37]; exact box_new _ _ _ _)
            clear hv37
            refine hKK.out _ _ (HK.out _ B37.out) (fun hSS => ?_)
            clear hKK K
            try simp only [Act.put, List.setIfInBounds_toArray, List.set_cons_zero, List.set_cons_succ]
            refine wpAnyH_ready (rs := [2]) (by kernel_rfl) (by simp) ?_
            refine AllReadyH.cons rfl (fun K hKK => ?_) AllReadyH.nil
            go_simp
            obtain ⟨v38, hv38⟩ : ∃ V, V = v37.alloc (.cells #[] 3) := ⟨_, rfl⟩
            rw [← hv38]
            have B38 : Hid (Below w3.heap.size w3 v38) := Lib.hid (by rw [hv38]; exact B37.out.alloc (by omega) _)
            have z38 : v37.heap.size < v38.heap.size := by rw [hv38]; simp
            have P38 : Hid (Boxed v38 v0.heap.size 3 (.int .i64 p)) := Lib.hid (by rw [hv38]; exact P37.out.alloc _)
            have X38 : Hid (Box v38 v27.heap.size (.int .i64 0) (.slice none 0 0) 28) := Lib.hid (by rw [hv38]; exact X37.out.keep (bel1 _ _) X37.out.lt)
            have E38 : Hid (v38.ownsRow w3.heap.size 3 1 (.slice (some ⟨v37.heap.size, 0, none⟩) 0 0) 0 (ints [])) := Lib.hid (by rw [hv38]; exact World.ownsRow_made v37 #[] 0 (by omega) (by unfold maxLen; omega) rfl)
            clear hv38
            refine hKK.out _ _ (HK.out _ B38.out) (fun hSS => ?_)
            clear hKK K
            try simp only [Act.put, List.setIfInBounds_toArray, List.set_cons_zero, List.set_cons_succ]
            refine wpAnyH_ready (rs := [5]) (by kernel_rfl) (by simp) ?_
            refine AllReadyH.cons rfl (fun K hKK => ?_) AllReadyH.nil
            refine step_app rfl _ _ rfl w3.heap.size (some ⟨v37.heap.size, 0, none⟩) 0 [] a Z.length cap Z v38 E38.out (HIZW.out _ B38.out) (by simp) (by omega) (by omega) rfl rfl ?_
            intro a39 c39 v39 hown hgr
            rw [List.nil_append] at hown ⊢
            have z39 : v38.heap.size ≤ v39.heap.size := hgr.size
            have B39 : Hid (Below w3.heap.size w3 v39) := Lib.hid (B38.out.grown hgr (by omega) (fun x hx => (E38.out.lt x hx).1))
            have A39 := Lib.hid hown
            have P39 : Hid (Boxed v39 v0.heap.size 3 (.int .i64 p)) := Lib.hid (P38.out.kept hgr (fun e => by have := Option.some.inj e; simp at this; omega))
            have X39 : Hid (Box v39 v27.heap.size (.int .i64 0) (.slice none 0 0) 28) := Lib.hid (box_row X38.out (by decide) E38.out hgr)
            clear hown hgr
            refine hKK.out _ _ (HK.out _ B39.out) (fun hSS => ?_)
            clear hKK K
            try simp only [Act.put, List.setIfInBounds_toArray, List.set_cons_zero, List.set_cons_succ]
            refine wpAnyH_ready (rs := [8]) (by kernel_rfl) (by simp) ?_
            refine AllReadyH.cons rfl (fun K hKK => ?_) AllReadyH.nil
            refine step_app rfl _ _ rfl w3.heap.size a39 c39 Z (some ⟨v0.heap.size, 0, none⟩) 1 1 [(p : Int)] v39 A39.out (ints_box P39.out (by omega)) (by omega) (by omega) (by omega) rfl rfl ?_
            intro a40 c40 v40 hown hgr
            have z40 : v39.heap.size ≤ v40.heap.size := hgr.size
            have B40 : Hid (Below w3.heap.size w3 v40) := Lib.hid (B39.out.grown hgr (by omega) (fun x hx => (A39.out.lt x hx).1))
            have Q40 := Lib.hid hown
            have X40 : Hid (Box v40 v27.heap.size (.int .i64 0) (.slice none 0 0) 28) := Lib.hid (box_row X39.out (by decide) A39.out hgr)
            clear hown hgr
            refine hKK.out _ _ (HK.out _ B40.out) (fun hSS => ?_)
            clear hKK K
            try simp only [Act.put, List.setIfInBounds_toArray, List.set_cons_zero, List.set_cons_succ]
            refine wpAnyH_take (i := 9) (oi := ⟨some 58, _, _, _, _, _⟩) (v := .agg #[.int .i64 n, .slice a40 (Z ++ [(p : Int)]).length c40]) rfl (by kernel_rfl) (by kernel_rfl) (by kernel_rfl) (fun _ _ _ h => h) (Or.inl ⟨by rfl, fun W hSw => by go_simp⟩) (by assumption) ?_
            try simp only [Act.put, List.setIfInBounds_toArray, List.set_cons_zero, List.set_cons_succ]
            obtain ⟨_, _, x2, x3⟩ := X40.out.facts
            have xl := X40.out.lt
            refine wpAnyH_ready (rs := [11]) (by kernel_rfl) (by simp) ?_
            refine AllReadyH.cons rfl (fun K hKK => ?_) AllReadyH.nil
            go_simp
            refine hKK.out _ _ (HK.out _ ((B40.out.setCell (by show w3.heap.size ≤ v27.heap.size; omega) _).setCell (by show w3.heap.size ≤ v27.heap.size; omega) _)) (fun hSS => ?_)
            clear hKK K x2 x3 xl
            try simp only [Act.put, List.setIfInBounds_toArray, List.set_cons_zero, List.set_cons_succ]
            refine wpAnyH_done (by kernel_rfl) ?_ _
            go_wp2_with fail
            go_meet
            exact ⟨v27.heap.size, a40, c40, rfl, box_two X40.out _ _, (by have h9 := own_past Q40.out X40.out (.int .i64 n) (.slice a40 (Z.length + 1) c40); rw [List.length_append] at h9; exact h9), (B40.out.setCell (by show w3.heap.size ≤ v27.heap.size; omega) _).setCell (by show w3.heap.size ≤ v27.heap.size; omega) _, by omega⟩
        · skip
          go_simp
          obtain ⟨v41, hv41⟩ : ∃ V, V = v0.alloc (.cells #[.int .i64 0, .slice none 0 0] 28) := ⟨_, rfl⟩
          rw [← hv41]
          have B41 : Hid (Below w3.heap.size w3 v41) := Lib.hid (by rw [hv41]; exact B0.out.alloc (by omega) _)
          have z41 : v0.heap.size < v41.heap.size := by rw [hv41]; simp
          have X41 : Hid (Box v41 v0.heap.size (.int .i64 0) (.slice none 0 0) 28) := Lib.hid (by rw [hv41]; exact box_new _ _ _ _)
          clear hv41
          refine hKK.out _ _ (HK.out _ B41.out) (fun hSS => ?_)
          clear hKK K
          try simp only [Act.put, List.setIfInBounds_toArray, List.set_cons_zero, List.set_cons_succ]
          refine wpAnyH_ready (rs := [2, 7]) (by kernel_rfl) (by simp) ?_
          refine AllReadyH.cons rfl (fun K hKK => ?_) (AllReadyH.cons rfl (fun K hKK => ?_) AllReadyH.nil)
          · skip
            go_simp
            obtain ⟨v42, hv42⟩ : ∃ V, V = v41.alloc (.cells #[] 3) := ⟨_, rfl⟩
            rw [← hv42]
            have B42 : Hid (Below w3.heap.size w3 v42) := Lib.hid (by rw [hv42]; exact B41.out.alloc (by omega) _)
            have z42 : v41.heap.size < v42.heap.size := by rw [hv42]; simp
            have X42 : Hid (Box v42 v0.heap.size (.int .i64 0) (.slice none 0 0) 28) := Lib.hid (by rw [hv42]; exact X41.out.keep (bel1 _ _) X41.out.lt)
            have E42 : Hid (v42.ownsRow w3.heap.size 3 1 (.slice (some ⟨v41.heap.size, 0, none⟩) 0 0) 0 (ints [])) := Lib.hid (by rw [hv42]; exact World.ownsRow_made v41 #[] 0 (by omega) (by unfold maxLen; omega) rfl)
            clear hv42
            refine hKK.out _ _ (HK.out _ B42.out) (fun hSS => ?_)
            clear hKK K
            try simp only [Act.put, List.setIfInBounds_toArray, List.set_cons_zero, List.set_cons_succ]
            refine wpAnyH_ready (rs := [5, 7]) (by kernel_rfl) (by simp) ?_
            refine AllReadyH.cons rfl (fun K hKK => ?_) (AllReadyH.cons rfl (fun K hKK => ?_) AllReadyH.nil)
            · skip
              refine step_app rfl _ _ rfl w3.heap.size (some ⟨v41.heap.size, 0, none⟩) 0 [] a Z.length cap Z v42 E42.out (HIZW.out _ B42.out) (by simp) (by omega) (by omega) rfl rfl ?_
              intro a43 c43 v43 hown hgr
              rw [List.nil_append] at hown ⊢
              have z43 : v42.heap.size ≤ v43.heap.size := hgr.size
              have B43 : Hid (Below w3.heap.size w3 v43) := Lib.hid (B42.out.grown hgr (by omega) (fun x hx => (E42.out.lt x hx).1))
              have A43 := Lib.hid hown
              have X43 : Hid (Box v43 v0.heap.size (.int .i64 0) (.slice none 0 0) 28) := Lib.hid (box_row X42.out (by decide) E42.out hgr)
              clear hown hgr
              refine hKK.out _ _ (HK.out _ B43.out) (fun hSS => ?_)
              clear hKK K
              try simp only [Act.put, List.setIfInBounds_toArray, List.set_cons_zero, List.set_cons_succ]
              refine wpAnyH_ready (rs := [7]) (by kernel_rfl) (by simp) ?_
              refine AllReadyH.cons rfl (fun K hKK => ?_) AllReadyH.nil
              go_simp
              obtain ⟨v44, hv44⟩ : ∃ V, V = v43.alloc (.cells #[.int .i64 p] 3) := ⟨_, rfl⟩
              rw [← hv44]
              have B44 : Hid (Below w3.heap.size w3 v44) := Lib.hid (by rw [hv44]; exact B43.out.alloc (by omega) _)
              have z44 : v43.heap.size < v44.heap.size := by rw [hv44]; simp
              have A44 : Hid (v44.ownsRow w3.heap.size 3 1 (.slice a43 Z.length c43) Z.length (ints Z)) := Lib.hid (by rw [hv44]; exact A43.out.alloc _)
              have X44 : Hid (Box v44 v0.heap.size (.int .i64 0) (.slice none 0 0) 28) := Lib.hid (by rw [hv44]; exact X43.out.keep (bel1 _ _) X43.out.lt)
              have P44 : Hid (Boxed v44 v43.heap.size 3 (.int .i64 p)) := Lib.hid (by rw [hv44]; exact Boxed.new _ _ _)
              clear hv44
              refine hKK.out _ _ (HK.out _ B44.out) (fun hSS => ?_)
              clear hKK K
              try simp only [Act.put, List.setIfInBounds_toArray, List.set_cons_zero, List.set_cons_succ]
              refine wpAnyH_ready (rs := [8]) (by kernel_rfl) (by simp) ?_
              refine AllReadyH.cons rfl (fun K hKK => ?_) AllReadyH.nil
              refine step_app rfl _ _ rfl w3.heap.size a43 c43 Z (some ⟨v43.heap.size, 0, none⟩) 1 1 [(p : Int)] v44 A44.out (ints_box P44.out (by omega)) (by omega) (by omega) (by omega) rfl rfl ?_
              intro a45 c45 v45 hown hgr
              have z45 : v44.heap.size ≤ v45.heap.size := hgr.size
              have B45 : Hid (Below w3.heap.size w3 v45) := Lib.hid (B44.out.grown hgr (by omega) (fun x hx => (A44.out.lt x hx).1))
              have Q45 := Lib.hid hown
              have X45 : Hid (Box v45 v0.heap.size (.int .i64 0) (.slice none 0 0) 28) := Lib.hid (box_row X44.out (by decide) A44.out hgr)
              clear hown hgr
              refine hKK.out _ _ (HK.out _ B45.out) (fun hSS => ?_)
              clear hKK K
              try simp only [Act.put, List.setIfInBounds_toArray, List.set_cons_zero, List.set_cons_succ]
              refine wpAnyH_take (i := 9) (oi := ⟨some 58, _, _, _, _, _⟩) (v := .agg #[.int .i64 n, .slice a45 (Z ++ [(p : Int)]).length c45]) rfl (by kernel_rfl) (by kernel_rfl) (by kernel_rfl) (fun _ _ _ h => h) (Or.inl ⟨by rfl, fun W hSw => by go_simp⟩) (by assumption) ?_
              try simp only [Act.put, List.setIfInBounds_toArray, List.set_cons_zero, List.set_cons_succ]
              obtain ⟨_, _, x2, x3⟩ := X45.out.facts
              have xl := X45.out.lt
              refine wpAnyH_ready (rs := [11]) (by kernel_rfl) (by simp) ?_
              refine AllReadyH.cons rfl (fun K hKK => ?_) AllReadyH.nil
              go_simp
              refine hKK.out _ _ (HK.out _ ((B45.out.setCell (by show w3.heap.size ≤ v0.heap.size; omega) _).setCell (by show w3.heap.size ≤ v0.heap.size; omega) _)) (fun hSS => ?_)
              clear hKK K x2 x3 xl
              try simp only [Act.put, List.setIfInBounds_toArray, List.set_cons_zero, List.set_cons_succ]
              refine wpAnyH_done (by kernel_rfl) ?_ _
              go_wp2_with fail
              go_meet
              exact ⟨v0.heap.size, a45, c45, rfl, box_two X45.out _ _, (by have h9 := own_past Q45.out X45.out (.int .i64 n) (.slice a45 (Z.length + 1) c45); rw [List.length_append] at h9; exact h9), (B45.out.setCell (by show w3.heap.size ≤ v0.heap.size; omega) _).setCell (by show w3.heap.size ≤ v0.heap.size; omega) _, by omega⟩
            · skip
              go_simp
              obtain ⟨v46, hv46⟩ : ∃ V, V = v42.alloc (.cells #[.int .i64 p] 3) := ⟨_, rfl⟩
              rw [← hv46]
              have B46 : Hid (Below w3.heap.size w3 v46) := Lib.hid (by rw [hv46]; exact B42.out.alloc (by omega) _)
              have z46 : v42.heap.size < v46.heap.size := by rw [hv46]; simp
              have E46 : Hid (v46.ownsRow w3.heap.size 3 1 (.slice (some ⟨v41.heap.size, 0, none⟩) 0 0) 0 (ints [])) := Lib.hid (by rw [hv46]; exact E42.out.alloc _)
              have X46 : Hid (Box v46 v0.heap.size (.int .i64 0) (.slice none 0 0) 28) := Lib.hid (by rw [hv46]; exact X42.out.keep (bel1 _ _) X42.out.lt)
              have P46 : Hid (Boxed v46 v42.heap.size 3 (.int .i64 p)) := Lib.hid (by rw [hv46]; exact Boxed.new _ _ _)
              clear hv46
              refine hKK.out _ _ (HK.out _ B46.out) (fun hSS => ?_)
              clear hKK K
              try simp only [Act.put, List.setIfInBounds_toArray, List.set_cons_zero, List.set_cons_succ]
              refine wpAnyH_ready (rs := [5]) (by kernel_rfl) (by simp) ?_
              refine AllReadyH.cons rfl (fun K hKK => ?_) AllReadyH.nil
              refine step_app rfl _ _ rfl w3.heap.size (some ⟨v41.heap.size, 0, none⟩) 0 [] a Z.length cap Z v46 E46.out (HIZW.out _ B46.out) (by simp) (by omega) (by omega) rfl rfl ?_
              intro a47 c47 v47 hown hgr
              rw [List.nil_append] at hown ⊢
              have z47 : v46.heap.size ≤ v47.heap.size := hgr.size
              have B47 : Hid (Below w3.heap.size w3 v47) := Lib.hid (B46.out.grown hgr (by omega) (fun x hx => (E46.out.lt x hx).1))
              have A47 := Lib.hid hown
              have P47 : Hid (Boxed v47 v42.heap.size 3 (.int .i64 p)) := Lib.hid (P46.out.kept hgr (fun e => by have := Option.some.inj e; simp at this; omega))
              have X47 : Hid (Box v47 v0.heap.size (.int .i64 0) (.slice none 0 0) 28) := Lib.hid (box_row X46.out (by decide) E46.out hgr)
              clear hown hgr
              refine hKK.out _ _ (HK.out _ B47.out) (fun hSS => ?_)
              clear hKK K
              try simp only [Act.put, List.setIfInBounds_toArray, List.set_cons_zero, List.set_cons_succ]
              refine wpAnyH_ready (rs := [8]) (by kernel_rfl) (by simp) ?_
              refine AllReadyH.cons rfl (fun K hKK => ?_) AllReadyH.nil
              refine step_app rfl _ _ rfl w3.heap.size a47 c47 Z (some ⟨v42.heap.size, 0, none⟩) 1 1 [(p : Int)] v47 A47.out (ints_box P47.out (by omega)) (by omega) (by omega) (by omega) rfl rfl ?_
              intro a48 c48 v48 hown hgr
              have z48 : v47.heap.size ≤ v48.heap.size := hgr.size
              have B48 : Hid (Below w3.heap.size w3 v48) := Lib.hid (B47.out.grown hgr (by omega) (fun x hx => (A47.out.lt x hx).1))
              have Q48 := Lib.hid hown
              have X48 : Hid (Box v48 v0.heap.size (.int .i64 0) (.slice none 0 0) 28) := Lib.hid (box_row X47.out (by decide) A47.out hgr)
              clear hown hgr
              refine hKK.out _ _ (HK.out _ B48.out) (fun hSS => ?_)
              clear hKK K
              try simp only [Act.put, List.setIfInBounds_toArray, List.set_cons_zero, List.set_cons_succ]
              refine wpAnyH_take (i := 9) (oi := ⟨some 58, _, _, _, _, _⟩) (v := .agg #[.int .i64 n, .slice a48 (Z ++ [(p : Int)]).length c48]) rfl (by kernel_rfl) (by kernel_rfl) (by kernel_rfl) (fun _ _ _ h => h) (Or.inl ⟨by rfl, fun W hSw => by go_simp⟩) (by assumption) ?_
              try simp only [Act.put, List.setIfInBounds_toArray, List.set_cons_zero, List.set_cons_succ]
              obtain ⟨_, _, x2, x3⟩ := X48.out.facts
              have xl := X48.out.lt
              refine wpAnyH_ready (rs := [11]) (by kernel_rfl) (by simp) ?_
              refine AllReadyH.cons rfl (fun K hKK => ?_) AllReadyH.nil
              go_simp
              refine hKK.out _ _ (HK.out _ ((B48.out.setCell (by show w3.heap.size ≤ v0.heap.size; omega) _).setCell (by show w3.heap.size ≤ v0.heap.size; omega) _)) (fun hSS => ?_)
              clear hKK K x2 x3 xl
              try simp only [Act.put, List.setIfInBounds_toArray, List.set_cons_zero, List.set_cons_succ]
              refine wpAnyH_done (by kernel_rfl) ?_ _
              go_wp2_with fail
              go_meet
              exact ⟨v0.heap.size, a48, c48, rfl, box_two X48.out _ _, (by have h9 := own_past Q48.out X48.out (.int .i64 n) (.slice a48 (Z.length + 1) c48); rw [List.length_append] at h9; exact h9), (B48.out.setCell (by show w3.heap.size ≤ v0.heap.size; omega) _).setCell (by show w3.heap.size ≤ v0.heap.size; omega) _, by omega⟩
          · skip
            go_simp
            obtain ⟨v49, hv49⟩ : ∃ V, V = v41.alloc (.cells #[.int .i64 p] 3) := ⟨_, rfl⟩
            rw [← hv49]
            have B49 : Hid (Below w3.heap.size w3 v49) := Lib.hid (by rw [hv49]; exact B41.out.alloc (by omega) _)
            have z49 : v41.heap.size < v49.heap.size := by rw [hv49]; simp
            have X49 : Hid (Box v49 v0.heap.size (.int .i64 0) (.slice none 0 0) 28) := Lib.hid (by rw [hv49]; exact X41.out.keep (bel1 _ _) X41.out.lt)
            have P49 : Hid (Boxed v49 v41.heap.size 3 (.int .i64 p)) := Lib.hid (by rw [hv49]; exact Boxed.new _ _ _)
            clear hv49
            refine hKK.out _ _ (HK.out _ B49.out) (fun hSS => ?_)
            clear hKK K
            try simp only [Act.put, List.setIfInBounds_toArray, List.set_cons_zero, List.set_cons_succ]
            refine wpAnyH_ready (rs := [2]) (by kernel_rfl) (by simp) ?_
            refine AllReadyH.cons rfl (fun K hKK => ?_) AllReadyH.nil
            go_simp
            obtain ⟨v50, hv50⟩ : ∃ V, V = v49.alloc (.cells #[] 3) := ⟨_, rfl⟩
            rw [← hv50]
            have B50 : Hid (Below w3.heap.size w3 v50) := Lib.hid (by rw [hv50]; exact B49.out.alloc (by omega) _)
            have z50 : v49.heap.size < v50.heap.size := by rw [hv50]; simp
            have P50 : Hid (Boxed v50 v41.heap.size 3 (.int .i64 p)) := Lib.hid (by rw [hv50]; exact P49.out.alloc _)
            have X50 : Hid (Box v50 v0.heap.size (.int .i64 0) (.slice none 0 0) 28) := Lib.hid (by rw [hv50]; exact X49.out.keep (bel1 _ _) X49.out.lt)
            have E50 : Hid (v50.ownsRow w3.heap.size 3 1 (.slice (some ⟨v49.heap.size, 0, none⟩) 0 0) 0 (ints [])) := Lib.hid (by rw [hv50]; exact World.ownsRow_made v49 #[] 0 (by omega) (by unfold maxLen; omega) rfl)
            clear hv50
            refine hKK.out _ _ (HK.out _ B50.out) (fun hSS => ?_)
            clear hKK K
            try simp only [Act.put, List.setIfInBounds_toArray, List.set_cons_zero, List.set_cons_succ]
            refine wpAnyH_ready (rs := [5]) (by kernel_rfl) (by simp) ?_
            refine AllReadyH.cons rfl (fun K hKK => ?_) AllReadyH.nil
            refine step_app rfl _ _ rfl w3.heap.size (some ⟨v49.heap.size, 0, none⟩) 0 [] a Z.length cap Z v50 E50.out (HIZW.out _ B50.out) (by simp) (by omega) (by omega) rfl rfl ?_
            intro a51 c51 v51 hown hgr
            rw [List.nil_append] at hown ⊢
            have z51 : v50.heap.size ≤ v51.heap.size := hgr.size
            have B51 : Hid (Below w3.heap.size w3 v51) := Lib.hid (B50.out.grown hgr (by omega) (fun x hx => (E50.out.lt x hx).1))
            have A51 := Lib.hid hown
            have P51 : Hid (Boxed v51 v41.heap.size 3 (.int .i64 p)) := Lib.hid (P50.out.kept hgr (fun e => by have := Option.some.inj e; simp at this; omega))
            have X51 : Hid (Box v51 v0.heap.size (.int .i64 0) (.slice none 0 0) 28) := Lib.hid (box_row X50.out (by decide) E50.out hgr)
            clear hown hgr
            refine hKK.out _ _ (HK.out _ B51.out) (fun hSS => ?_)
            clear hKK K
            try simp only [Act.put, List.setIfInBounds_toArray, List.set_cons_zero, List.set_cons_succ]
            refine wpAnyH_ready (rs := [8]) (by kernel_rfl) (by simp) ?_
            refine AllReadyH.cons rfl (fun K hKK => ?_) AllReadyH.nil
            refine step_app rfl _ _ rfl w3.heap.size a51 c51 Z (some ⟨v41.heap.size, 0, none⟩) 1 1 [(p : Int)] v51 A51.out (ints_box P51.out (by omega)) (by omega) (by omega) (by omega) rfl rfl ?_
            intro a52 c52 v52 hown hgr
            have z52 : v51.heap.size ≤ v52.heap.size := hgr.size
            have B52 : Hid (Below w3.heap.size w3 v52) := Lib.hid (B51.out.grown hgr (by omega) (fun x hx => (A51.out.lt x hx).1))
            have Q52 := Lib.hid hown
            have X52 : Hid (Box v52 v0.heap.size (.int .i64 0) (.slice none 0 0) 28) := Lib.hid (box_row X51.out (by decide) A51.out hgr)
            clear hown hgr
            refine hKK.out _ _ (HK.out _ B52.out) (fun hSS => ?_)
            clear hKK K
            try simp only [Act.put, List.setIfInBounds_toArray, List.set_cons_zero, List.set_cons_succ]
            refine wpAnyH_take (i := 9) (oi := ⟨some 58, _, _, _, _, _⟩) (v := .agg #[.int .i64 n, .slice a52 (Z ++ [(p : Int)]).length c52]) rfl (by kernel_rfl) (by kernel_rfl) (by kernel_rfl) (fun _ _ _ h => h) (Or.inl ⟨by rfl, fun W hSw => by go_simp⟩) (by assumption) ?_
            try simp only [Act.put, List.setIfInBounds_toArray, List.set_cons_zero, List.set_cons_succ]
            obtain ⟨_, _, x2, x3⟩ := X52.out.facts
            have xl := X52.out.lt
            refine wpAnyH_ready (rs := [11]) (by kernel_rfl) (by simp) ?_
            refine AllReadyH.cons rfl (fun K hKK => ?_) AllReadyH.nil
            go_simp
            refine hKK.out _ _ (HK.out _ ((B52.out.setCell (by show w3.heap.size ≤ v0.heap.size; omega) _).setCell (by show w3.heap.size ≤ v0.heap.size; omega) _)) (fun hSS => ?_)
            clear hKK K x2 x3 xl
            try simp only [Act.put, List.setIfInBounds_toArray, List.set_cons_zero, List.set_cons_succ]
            refine wpAnyH_done (by kernel_rfl) ?_ _
            go_wp2_with fail
            go_meet
            exact ⟨v0.heap.size, a52, c52, rfl, box_two X52.out _ _, (by have h9 := own_past Q52.out X52.out (.int .i64 n) (.slice a52 (Z.length + 1) c52); rw [List.length_append] at h9; exact h9), (B52.out.setCell (by show w3.heap.size ≤ v0.heap.size; omega) _).setCell (by show w3.heap.size ≤ v0.heap.size; omega) _, by omega⟩
      case rest =>
        obtain ⟨g2, b2, e2, rfl, hbx, hown2, hb4, hg2⟩ := hcut
        obtain ⟨w4, rfl⟩ : ∃ w4, w4 = wc := ⟨_, rfl⟩
        have HO4 := Lib.hid hown2
        have HX4 := Lib.hid hbx
        have HB4 := Lib.hid hb4
        have HA4 := Lib.hid (HA3.out.keep hb4)
        have HT4 := Lib.hid (HT3.out.keep hb4)
        have hz4 := hb4.size
        have hgl := hbx.lt
        clear hown2 hbx hb4 s0 s1 s2 t0 t1 t2
        obtain ⟨s0, s1, s2⟩ := HA4.out
        obtain ⟨t0, t1, t2⟩ := HT4.out
        obtain ⟨x0, x1, x2, x3⟩ := HX4.out.facts
        have hlz : (Z ++ [(p : Int)]).length = Z.length + 1 := by simp
        have HOKZ := Lib.hid (ok_snoc HIN.out.ok HLOW.out (show p < n by omega))
        have HI4 : Hid (IntsAt w4 b2 (Z.length + 1) (Z ++ [(p : Int)])) := Lib.hid (intsAt_own HO4.out (ok_int'' HOKZ.out))
        go_wp2_with fail
        refine (btw_spec n pa xs.length ca xs n b2 (Z.length + 1) e2 (Z ++ [(p : Int)]) _ ((HXA.out.below HB3.out).below HB4.out) (by omega) HI4.out (by omega) 0 1 (by omega) (by omega) (by omega) (by omega)).mono ?_
        rintro e w5 ⟨rfl, hb5⟩
        rw [dirB_btw]
        have HB5 := Lib.hid (HB4.out.trans (hb5.mono hz4))
        have HA5 := Lib.hid (HA4.out.keep hb5)
        have HT5 := Lib.hid (HT4.out.keep hb5)
        have HX5 := Lib.hid (HX4.out.keep hb5 hgl)
        have HO5 := Lib.hid (own_below HO4.out hb5)
        have HFW5 := Lib.hid (HB3.out.trans (HB5.out.mono (by omega)))
        have hz5 := HB5.out.size
        clear hb5 s0 s1 s2 t0 t1 t2 x0 x1 x2 x3
        obtain ⟨s0, s1, s2⟩ := HA5.out
        obtain ⟨t0, t1, t2⟩ := HT5.out
        obtain ⟨x0, x1, x2, x3⟩ := HX5.out.facts
        by_cases hd : dirC n xs (Z ++ [(p : Int)])
        · have HD : Hid (dirB n xs n (Z ++ [(p : Int)]) = true) := Lib.hid (cB_yes ⟨⟨HX.out, HOKZ.out, rfl⟩, hd⟩)
          have hroom1 : L.length + (fndL n xs m (Z ++ [(p : Int)])).length ≤ 5000 := by
            have h3 := hroom
            rw [HFL.out, if_pos hd, List.length_append] at h3
            omega
          have HIN1 : Hid (FndIn n xs pa lo false (fndL n xs m (Z ++ [(p : Int)])) (Z ++ [(p : Int)]) b2 e2 (.slice av L.length cv) L w3 w5) := Lib.hid {
            hx := (HXA.out.below HFW5.out), offx := HIN.out.offx
            hz := by rw [hlz]; exact intsAt_own HO5.out (ok_int'' HOKZ.out)
            offz := fun _ b off e => by
              subst e
              intro q
              have h1 := (HO5.out.lt b (by
                rcases (intsAt_own HO5.out (ok_int'' HOKZ.out)).2.2 (by omega) with ⟨b', off', e', _, _⟩
                obtain ⟨_, a', c', hv, hg⟩ := own_shape HO5.out
                obtain ⟨g', hg', _⟩ := hg (by omega)
                simp at hv
                rw [← hv.1] at hg'
                simp at hg'
                simp [Value.ownBlock, hg'])).1
              have h2 := (HIT0.out.outer.lt b q).2
              omega
            ok := HOKZ.out, dir := hd, items := HIT0.out.keep HB3.out, below := HB5.out, le := Nat.le_trans (Nat.le_trans HIN.out.le HIN.out.below.size) (by omega), room := hroom1, few := HIN.out.few
            own := fun _ => by rw [hlz]; exact HO5.out }
          have HIH1 := Lib.hid (HIH.out (Z ++ [(p : Int)]) b2 e2 av cv L w3 w5 (by omega) HIN1.out (fun z hz => by
            rcases List.mem_append.1 hz with hz | hz
            · have := HLOW.out z hz; omega
            · rw [List.mem_singleton] at hz; rw [hz]; omega))
          rw [hpm, hlz] at HIH1
          rw [HD.out]
          go_wp2_with fail
          refine (HIH1.out).mono ?_
          rintro e w6 ⟨av6, cv6, L6, rfl, hit6, hv6, hfr6⟩
          have HIT6 := Lib.hid hit6
          have HV6 := Lib.hid hv6
          have hvb : ∀ k, (Value.slice av L.length cv).ownBlock = some k → k < w.heap.size := fun k hk => (HIT0.out.outer.lt k hk).2
          have HA6 := Lib.hid (hfr6.two HA5.out (fun e => by have := hvb _ e; omega))
          have HT6 := Lib.hid (hfr6.two HT5.out (fun e => by have := hvb _ e; omega))
          have FRW6 := Lib.hid ((Fr.of_below (v := .slice av L.length cv) HFW5.out).trans hfr6)
          have IX6 := Lib.hid (FRW6.out.ints HXA.out (fun _ => HIN.out.offx))
          have IZ6 := Lib.hid (FRW6.out.ints HZ0.out HIN.out.offz)
          clear hit6 hv6 hfr6 s0 s1 s2 t0 t1 t2 x0 x1 x2 x3 hvb
          by_cases hp0 : p = 0
          · have HF : Hid (fndL n xs (m + 1) Z = fndL n xs m (Z ++ [(p : Int)])) := Lib.hid (by rw [HFL.out]; rw [if_pos hd]; rw [if_pos hp0]; simp)
            have hpb : ((p : Int) == 0) = true := by rw [hp0]; rfl
            clear hp0
            go_wp2
            go_ret
            exact ⟨av6, cv6, L6, rfl, HIT6.out, HV6.out.trans (by rw [HF.out]), FRW6.out⟩
          · have hpb : ((p : Int) == 0) = false := by rw [beq_eq_false_iff_ne]; omega
            have HF : Hid (fndL n xs (m + 1) Z = fndL n xs m (Z ++ [(p : Int)]) ++ fndL n xs m Z) := Lib.hid (by rw [HFL.out]; rw [if_pos hd]; rw [if_neg hp0])
            have HLEN : L6.length + (fndL n xs m Z).length ≤ 5000 := by
              have h1 := congrArg List.length HV6.out
              have h2 := (resl_len false (vals L) ((fndL n xs m (Z ++ [(p : Int)])).map fun zs => ((n : Int), zs))).1
              have h3 := hroom
              rw [HF.out, List.length_append] at h3
              rw [← h1] at h2
              simp only [vals, List.length_map] at h2
              omega
            have HFEW : false = true → L6.length ≤ 1 := fun ho => by
              have h1 := congrArg List.length HV6.out
              have h2 := (resl_len false (vals L) ((fndL n xs m (Z ++ [(p : Int)])).map fun zs => ((n : Int), zs))).2 ho
              rw [← h1] at h2
              simpa [vals] using h2
            have HIN2 : Hid (FndIn n xs pa lo false (fndL n xs m Z) Z a cap (.slice av6 L6.length cv6) L6 w6 w6) := Lib.hid {
              hx := IX6.out, offx := fun b off e => by
                obtain ⟨b', off', e', hlt, _⟩ := HIN.out.hx.2.2 (by omega)
                rw [e'] at e
                obtain ⟨rfl, rfl⟩ : b' = b ∧ off' = off := by simpa using e
                exact FRW6.out.off hlt (HIN.out.offx b' off' e')
              hz := IZ6.out, offz := fun hp b off e => by
                obtain ⟨b', off', e', hlt, _⟩ := HIN.out.hz.2.2 hp
                rw [e'] at e
                obtain ⟨rfl, rfl⟩ : b' = b ∧ off' = off := by simpa using e
                exact FRW6.out.off hlt (HIN.out.offz hp b' off' e')
              ok := HIN.out.ok, dir := HIN.out.dir, items := HIT6.out, below := Below.refl _ _, le := Nat.le_trans (Nat.le_trans HIN.out.le HIN.out.below.size) FRW6.out.size, room := HLEN, few := HFEW, own := fun h => absurd h HNE.out }
            have HIH2 := Lib.hid (HIH.out Z a cap av6 cv6 L6 w6 w6 (by omega) HIN2.out (fun z hz => by have := HLOW.out z hz; omega))
            rw [hpm] at HIH2
            obtain ⟨s0, s1, s2⟩ := HA6.out
            obtain ⟨t0, t1, t2⟩ := HT6.out
            clear hp0
            go_wp2_with fail
            refine (HIH2.out).mono ?_
            rintro e w9 ⟨av9, cv9, L9, rfl, hit9, hv9, hfr9⟩
            have HIT9 := Lib.hid hit9
            have HFR9 := Lib.hid (FRW6.out.trans hfr9)
            have HV9 : Hid (vals L9 = resl false (vals L) ((fndL n xs (m + 1) Z).map fun zs => ((n : Int), zs))) := Lib.hid (hv9.trans ((congrArg (fun q => resl false q ((fndL n xs m Z).map fun zs => ((n : Int), zs))) HV6.out).trans (by rw [resl_resl, ← List.map_append, HF.out])))
            clear hit9 hv9 hfr9
            go_wp2
            go_ret
            exact ⟨av9, cv9, L9, rfl, HIT9.out, HV9.out, HFR9.out⟩
        · have HD : Hid (dirB n xs n (Z ++ [(p : Int)]) = false) := Lib.hid (cB_no (fun h => hd h.2))
          rw [HD.out]
          have HIT5 := Lib.hid (HIT0.out.keep HFW5.out)
          have HV5 : Hid (vals L = resl false (vals L) (([] : List (List Int)).map fun zs => ((n : Int), zs))) := Lib.hid (resl_nil (fun h => by unfold vals; rw [List.length_map]; exact HIN.out.few h)).symm
          have FRW5 := Lib.hid (Fr.of_below (v := .slice av L.length cv) HFW5.out)
          have IX5 := Lib.hid (HXA.out.below HFW5.out)
          have IZ5 := Lib.hid (HZ0.out.below HFW5.out)
          by_cases hp0 : p = 0
          · have HF : Hid (fndL n xs (m + 1) Z = ([] : List (List Int))) := Lib.hid (by rw [HFL.out]; rw [if_neg hd]; rw [if_pos hp0]; simp)
            have hpb : ((p : Int) == 0) = true := by rw [hp0]; rfl
            clear hp0
            go_wp2
            go_ret
            exact ⟨av, cv, L, rfl, HIT5.out, HV5.out.trans (by rw [HF.out]), FRW5.out⟩
          · have hpb : ((p : Int) == 0) = false := by rw [beq_eq_false_iff_ne]; omega
            have HF : Hid (fndL n xs (m + 1) Z = ([] : List (List Int)) ++ fndL n xs m Z) := Lib.hid (by rw [HFL.out]; rw [if_neg hd]; rw [if_neg hp0])
            have HLEN : L.length + (fndL n xs m Z).length ≤ 5000 := by
              have h1 := congrArg List.length HV5.out
              have h2 := (resl_len false (vals L) ((([] : List (List Int))).map fun zs => ((n : Int), zs))).1
              have h3 := hroom
              rw [HF.out, List.length_append] at h3
              rw [← h1] at h2
              simp only [vals, List.length_map] at h2
              omega
            have HFEW : false = true → L.length ≤ 1 := fun ho => by
              have h1 := congrArg List.length HV5.out
              have h2 := (resl_len false (vals L) ((([] : List (List Int))).map fun zs => ((n : Int), zs))).2 ho
              rw [← h1] at h2
              simpa [vals] using h2
            have HIN2 : Hid (FndIn n xs pa lo false (fndL n xs m Z) Z a cap (.slice av L.length cv) L w5 w5) := Lib.hid {
              hx := IX5.out, offx := fun b off e => by
                obtain ⟨b', off', e', hlt, _⟩ := HIN.out.hx.2.2 (by omega)
                rw [e'] at e
                obtain ⟨rfl, rfl⟩ : b' = b ∧ off' = off := by simpa using e
                exact FRW5.out.off hlt (HIN.out.offx b' off' e')
              hz := IZ5.out, offz := fun hp b off e => by
                obtain ⟨b', off', e', hlt, _⟩ := HIN.out.hz.2.2 hp
                rw [e'] at e
                obtain ⟨rfl, rfl⟩ : b' = b ∧ off' = off := by simpa using e
                exact FRW5.out.off hlt (HIN.out.offz hp b' off' e')
              ok := HIN.out.ok, dir := HIN.out.dir, items := HIT5.out, below := Below.refl _ _, le := Nat.le_trans (Nat.le_trans HIN.out.le HIN.out.below.size) FRW5.out.size, room := HLEN, few := HFEW, own := fun h => absurd h HNE.out }
            have HIH2 := Lib.hid (HIH.out Z a cap av cv L w5 w5 (by omega) HIN2.out (fun z hz => by have := HLOW.out z hz; omega))
            rw [hpm] at HIH2
            obtain ⟨s0, s1, s2⟩ := HA5.out
            obtain ⟨t0, t1, t2⟩ := HT5.out
            clear hp0
            go_wp2_with fail
            refine (HIH2.out).mono ?_
            rintro e w9 ⟨av9, cv9, L9, rfl, hit9, hv9, hfr9⟩
            have HIT9 := Lib.hid hit9
            have HFR9 := Lib.hid (FRW5.out.trans hfr9)
            have HV9 : Hid (vals L9 = resl false (vals L) ((fndL n xs (m + 1) Z).map fun zs => ((n : Int), zs))) := Lib.hid (hv9.trans ((congrArg (fun q => resl false q ((fndL n xs m Z).map fun zs => ((n : Int), zs))) HV5.out).trans (by rw [resl_resl, ← List.map_append, HF.out])))
            clear hit9 hv9 hfr9
            go_wp2
            go_ret
            exact ⟨av9, cv9, L9, rfl, HIT9.out, HV9.out, HFR9.out⟩
    · have hl0' : ¬ 0 < L.length := by omega
      clear hl0
      go_enter Try.func22, Try.ntmps22
      go_wp2
      go_quiet (fail)
      obtain ⟨w3, hw3⟩ : ∃ W, W = ((w.alloc (.cells #[.int .i64 n, .slice pa xs.length ca] 28)).alloc (.cells #[.int .i64 n, .slice a Z.length cap] 28)).drewN nq := ⟨_, rfl⟩
      rw [← hw3]
      have HB3 := Lib.hid (show Below w.heap.size w w3 by rw [hw3]; exact below_drewN (bel2 w _ _) _)
      have HA3 := Lib.hid (show Two w3 w.heap.size (.int .i64 n) (.slice pa xs.length ca) by rw [hw3]; exact ((two_new w _ _ _).keep (bel1 _ _)).keep (below_drewN (Below.refl _ _) _))
      have HT3 := Lib.hid (show Two w3 (w.heap.size + 1) (.int .i64 n) (.slice a Z.length cap) by
        rw [hw3]
        have := (two_new (w.alloc (.cells #[.int .i64 n, .slice pa xs.length ca] 28)) (.int .i64 n) (.slice a Z.length cap) 28).keep (below_drewN (Below.refl _ _) nq)
        simpa using this)
      have hz3 : w3.heap.size = w.heap.size + 2 := by rw [hw3]; simp
      clear hw3
      have HIZW : Hid (∀ W : World, Below w3.heap.size w3 W → IntsAt W a Z.length Z) := Lib.hid (fun W hW => HZ0.out.below (HB3.out.trans (hW.mono (by omega))))
      obtain ⟨s0, s1, s2⟩ := HA3.out
      obtain ⟨t0, t1, t2⟩ := HT3.out
      go_wp2
      go_cut [11] (fun s11 wx => ∃ g b e, s11 = .pointer (some ⟨g, 0, none⟩) ∧ Box wx g (.int .i64 n) (.slice b (Z.length + 1) e) 28 ∧ wx.ownsRow w3.heap.size 3 1 (.slice b (Z.length + 1) e) (Z.length + 1) (ints (Z ++ [(p : Int)])) ∧ Below w3.heap.size w3 wx ∧ w3.heap.size ≤ g)
      case first =>
        have HK : Hid (∀ W : World, Below w3.heap.size w3 W → W.cell? ⟨w.heap.size, 0, none⟩ = some (.int .i64 n) ∧ W.cell? ⟨w.heap.size + 1, 1, none⟩ = some (.slice a Z.length cap)) := Lib.hid (fun W hW => ⟨(HA3.out.keep hW).2.1, (HT3.out.keep hW).2.2⟩)
        refine wp_region_held_drew (S := fun W => W.cell? ⟨w.heap.size, 0, none⟩ = some (.int .i64 n) ∧ W.cell? ⟨w.heap.size + 1, 1, none⟩ = some (.slice a Z.length cap)) (by kernel_rfl) (HK.out _ (Below.refl _ _).drew) (fun hSS => ?_)
        refine wpAnyH_take (i := 0) (oi := ⟨some 49, _, _, _, _, _⟩) (v := .pointer (some ⟨w.heap.size, 0, none⟩)) rfl (by kernel_rfl) (by kernel_rfl) (by kernel_rfl) (fun _ _ _ h => h) (Or.inl ⟨by rfl, fun W hSw => by go_simp⟩) (by assumption) ?_
        try simp only [Act.put, List.setIfInBounds_toArray, List.set_cons_zero, List.set_cons_succ]
        refine wpAnyH_take (i := 1) (oi := ⟨some 50, _, _, _, _, _⟩) (v := .int .i64 n) rfl (by kernel_rfl) (by kernel_rfl) (by kernel_rfl) (fun _ _ _ h => h) (Or.inl ⟨by rfl, fun W hSw => by obtain ⟨q1, q2⟩ := hSw; go_simp⟩) (by assumption) ?_
        try simp only [Act.put, List.setIfInBounds_toArray, List.set_cons_zero, List.set_cons_succ]
        refine wpAnyH_take (i := 3) (oi := ⟨some 52, _, _, _, _, _⟩) (v := .pointer (some ⟨w.heap.size + 1, 1, none⟩)) rfl (by kernel_rfl) (by kernel_rfl) (by kernel_rfl) (fun _ _ _ h => h) (Or.inl ⟨by rfl, fun W hSw => by go_simp⟩) (by assumption) ?_
        try simp only [Act.put, List.setIfInBounds_toArray, List.set_cons_zero, List.set_cons_succ]
        refine wpAnyH_take (i := 4) (oi := ⟨some 53, _, _, _, _, _⟩) (v := .slice a Z.length cap) rfl (by kernel_rfl) (by kernel_rfl) (by kernel_rfl) (fun _ _ _ h => h) (Or.inl ⟨by rfl, fun W hSw => by obtain ⟨q1, q2⟩ := hSw; go_simp⟩) (by assumption) ?_
        try simp only [Act.put, List.setIfInBounds_toArray, List.set_cons_zero, List.set_cons_succ]
        refine wpAnyH_take (i := 6) (oi := ⟨some 55, _, _, _, _, _⟩) (v := .int .i64 p) rfl (by kernel_rfl) (by kernel_rfl) (by kernel_rfl) (fun _ _ _ h => h) (Or.inl ⟨by rfl, fun W hSw => by go_simp⟩) (by assumption) ?_
        try simp only [Act.put, List.setIfInBounds_toArray, List.set_cons_zero, List.set_cons_succ]
        obtain ⟨v0, hv0⟩ : ∃ V, V = w3.drew := ⟨_, rfl⟩
        rw [← hv0]
        have B0 : Hid (Below w3.heap.size w3 v0) := Lib.hid (by rw [hv0]; exact (Below.refl _ _).drew)
        have z0 : w3.heap.size ≤ v0.heap.size := by rw [hv0]; exact Nat.le_refl _
        clear hv0
        refine wpAnyH_ready (rs := [2, 7, 10]) (by kernel_rfl) (by simp) ?_
        refine AllReadyH.cons rfl (fun K hKK => ?_) (AllReadyH.cons rfl (fun K hKK => ?_) (AllReadyH.cons rfl (fun K hKK => ?_) AllReadyH.nil))
        · skip
          go_simp
          obtain ⟨v1, hv1⟩ : ∃ V, V = v0.alloc (.cells #[] 3) := ⟨_, rfl⟩
          rw [← hv1]
          have B1 : Hid (Below w3.heap.size w3 v1) := Lib.hid (by rw [hv1]; exact B0.out.alloc (by omega) _)
          have z1 : v0.heap.size < v1.heap.size := by rw [hv1]; simp
          have E1 : Hid (v1.ownsRow w3.heap.size 3 1 (.slice (some ⟨v0.heap.size, 0, none⟩) 0 0) 0 (ints [])) := Lib.hid (by rw [hv1]; exact World.ownsRow_made v0 #[] 0 (by omega) (by unfold maxLen; omega) rfl)
          clear hv1
          refine hKK.out _ _ (HK.out _ B1.out) (fun hSS => ?_)
          clear hKK K
          try simp only [Act.put, List.setIfInBounds_toArray, List.set_cons_zero, List.set_cons_succ]
          refine wpAnyH_ready (rs := [5, 7, 10]) (by kernel_rfl) (by simp) ?_
          refine AllReadyH.cons rfl (fun K hKK => ?_) (AllReadyH.cons rfl (fun K hKK => ?_) (AllReadyH.cons rfl (fun K hKK => ?_) AllReadyH.nil))
          · skip
            refine step_app rfl _ _ rfl w3.heap.size (some ⟨v0.heap.size, 0, none⟩) 0 [] a Z.length cap Z v1 E1.out (HIZW.out _ B1.out) (by simp) (by omega) (by omega) rfl rfl ?_
            intro a2 c2 v2 hown hgr
            rw [List.nil_append] at hown ⊢
            have z2 : v1.heap.size ≤ v2.heap.size := hgr.size
            have B2 : Hid (Below w3.heap.size w3 v2) := Lib.hid (B1.out.grown hgr (by omega) (fun x hx => (E1.out.lt x hx).1))
            have A2 := Lib.hid hown
            clear hown hgr
            refine hKK.out _ _ (HK.out _ B2.out) (fun hSS => ?_)
            clear hKK K
            try simp only [Act.put, List.setIfInBounds_toArray, List.set_cons_zero, List.set_cons_succ]
            refine wpAnyH_ready (rs := [7, 10]) (by kernel_rfl) (by simp) ?_
            refine AllReadyH.cons rfl (fun K hKK => ?_) (AllReadyH.cons rfl (fun K hKK => ?_) AllReadyH.nil)
            · skip
              go_simp
              obtain ⟨v3, hv3⟩ : ∃ V, V = v2.alloc (.cells #[.int .i64 p] 3) := ⟨_, rfl⟩
              rw [← hv3]
              have B3 : Hid (Below w3.heap.size w3 v3) := Lib.hid (by rw [hv3]; exact B2.out.alloc (by omega) _)
              have z3 : v2.heap.size < v3.heap.size := by rw [hv3]; simp
              have A3 : Hid (v3.ownsRow w3.heap.size 3 1 (.slice a2 Z.length c2) Z.length (ints Z)) := Lib.hid (by rw [hv3]; exact A2.out.alloc _)
              have P3 : Hid (Boxed v3 v2.heap.size 3 (.int .i64 p)) := Lib.hid (by rw [hv3]; exact Boxed.new _ _ _)
              clear hv3
              refine hKK.out _ _ (HK.out _ B3.out) (fun hSS => ?_)
              clear hKK K
              try simp only [Act.put, List.setIfInBounds_toArray, List.set_cons_zero, List.set_cons_succ]
              refine wpAnyH_ready (rs := [8, 10]) (by kernel_rfl) (by simp) ?_
              refine AllReadyH.cons rfl (fun K hKK => ?_) (AllReadyH.cons rfl (fun K hKK => ?_) AllReadyH.nil)
              · skip
                refine step_app rfl _ _ rfl w3.heap.size a2 c2 Z (some ⟨v2.heap.size, 0, none⟩) 1 1 [(p : Int)] v3 A3.out (ints_box P3.out (by omega)) (by omega) (by omega) (by omega) rfl rfl ?_
                intro a4 c4 v4 hown hgr
                have z4 : v3.heap.size ≤ v4.heap.size := hgr.size
                have B4 : Hid (Below w3.heap.size w3 v4) := Lib.hid (B3.out.grown hgr (by omega) (fun x hx => (A3.out.lt x hx).1))
                have Q4 := Lib.hid hown
                clear hown hgr
                refine hKK.out _ _ (HK.out _ B4.out) (fun hSS => ?_)
                clear hKK K
                try simp only [Act.put, List.setIfInBounds_toArray, List.set_cons_zero, List.set_cons_succ]
                refine wpAnyH_take (i := 9) (oi := ⟨some 58, _, _, _, _, _⟩) (v := .agg #[.int .i64 n, .slice a4 (Z ++ [(p : Int)]).length c4]) rfl (by kernel_rfl) (by kernel_rfl) (by kernel_rfl) (fun _ _ _ h => h) (Or.inl ⟨by rfl, fun W hSw => by go_simp⟩) (by assumption) ?_
                try simp only [Act.put, List.setIfInBounds_toArray, List.set_cons_zero, List.set_cons_succ]
                refine wpAnyH_ready (rs := [10]) (by kernel_rfl) (by simp) ?_
                refine AllReadyH.cons rfl (fun K hKK => ?_) AllReadyH.nil
                go_simp
                obtain ⟨v5, hv5⟩ : ∃ V, V = v4.alloc (.cells #[.int .i64 0, .slice none 0 0] 28) := ⟨_, rfl⟩
                rw [← hv5]
                have B5 : Hid (Below w3.heap.size w3 v5) := Lib.hid (by rw [hv5]; exact B4.out.alloc (by omega) _)
                have z5 : v4.heap.size < v5.heap.size := by rw [hv5]; simp
                have Q5 : Hid (v5.ownsRow w3.heap.size 3 1 (.slice a4 (Z ++ [(p : Int)]).length c4) (Z ++ [(p : Int)]).length (ints (Z ++ [(p : Int)]))) := Lib.hid (by rw [hv5]; exact Q4.out.alloc _)
                have X5 : Hid (Box v5 v4.heap.size (.int .i64 0) (.slice none 0 0) 28) := Lib.hid (by rw [hv5]; exact box_new _ _ _ _)
                clear hv5
                refine hKK.out _ _ (HK.out _ B5.out) (fun hSS => ?_)
                clear hKK K
                try simp only [Act.put, List.setIfInBounds_toArray, List.set_cons_zero, List.set_cons_succ]
                obtain ⟨_, _, x2, x3⟩ := X5.out.facts
                have xl := X5.out.lt
                refine wpAnyH_ready (rs := [11]) (by kernel_rfl) (by simp) ?_
                refine AllReadyH.cons rfl (fun K hKK => ?_) AllReadyH.nil
                go_simp
                refine hKK.out _ _ (HK.out _ ((B5.out.setCell (by show w3.heap.size ≤ v4.heap.size; omega) _).setCell (by show w3.heap.size ≤ v4.heap.size; omega) _)) (fun hSS => ?_)
                clear hKK K x2 x3 xl
                try simp only [Act.put, List.setIfInBounds_toArray, List.set_cons_zero, List.set_cons_succ]
                refine wpAnyH_done (by kernel_rfl) ?_ _
                go_wp2_with fail
                go_meet
                exact ⟨v4.heap.size, a4, c4, rfl, box_two X5.out _ _, (by have h9 := own_past Q5.out X5.out (.int .i64 n) (.slice a4 (Z.length + 1) c4); rw [List.length_append] at h9; exact h9), (B5.out.setCell (by show w3.heap.size ≤ v4.heap.size; omega) _).setCell (by show w3.heap.size ≤ v4.heap.size; omega) _, by omega⟩
              · skip
                go_simp
                obtain ⟨v6, hv6⟩ : ∃ V, V = v3.alloc (.cells #[.int .i64 0, .slice none 0 0] 28) := ⟨_, rfl⟩
                rw [← hv6]
                have B6 : Hid (Below w3.heap.size w3 v6) := Lib.hid (by rw [hv6]; exact B3.out.alloc (by omega) _)
                have z6 : v3.heap.size < v6.heap.size := by rw [hv6]; simp
                have A6 : Hid (v6.ownsRow w3.heap.size 3 1 (.slice a2 Z.length c2) Z.length (ints Z)) := Lib.hid (by rw [hv6]; exact A3.out.alloc _)
                have P6 : Hid (Boxed v6 v2.heap.size 3 (.int .i64 p)) := Lib.hid (by rw [hv6]; exact P3.out.alloc _)
                have X6 : Hid (Box v6 v3.heap.size (.int .i64 0) (.slice none 0 0) 28) := Lib.hid (by rw [hv6]; exact box_new _ _ _ _)
                clear hv6
                refine hKK.out _ _ (HK.out _ B6.out) (fun hSS => ?_)
                clear hKK K
                try simp only [Act.put, List.setIfInBounds_toArray, List.set_cons_zero, List.set_cons_succ]
                refine wpAnyH_ready (rs := [8]) (by kernel_rfl) (by simp) ?_
                refine AllReadyH.cons rfl (fun K hKK => ?_) AllReadyH.nil
                refine step_app rfl _ _ rfl w3.heap.size a2 c2 Z (some ⟨v2.heap.size, 0, none⟩) 1 1 [(p : Int)] v6 A6.out (ints_box P6.out (by omega)) (by omega) (by omega) (by omega) rfl rfl ?_
                intro a7 c7 v7 hown hgr
                have z7 : v6.heap.size ≤ v7.heap.size := hgr.size
                have B7 : Hid (Below w3.heap.size w3 v7) := Lib.hid (B6.out.grown hgr (by omega) (fun x hx => (A6.out.lt x hx).1))
                have Q7 := Lib.hid hown
                have X7 : Hid (Box v7 v3.heap.size (.int .i64 0) (.slice none 0 0) 28) := Lib.hid (box_row X6.out (by decide) A6.out hgr)
                clear hown hgr
                refine hKK.out _ _ (HK.out _ B7.out) (fun hSS => ?_)
                clear hKK K
                try simp only [Act.put, List.setIfInBounds_toArray, List.set_cons_zero, List.set_cons_succ]
                refine wpAnyH_take (i := 9) (oi := ⟨some 58, _, _, _, _, _⟩) (v := .agg #[.int .i64 n, .slice a7 (Z ++ [(p : Int)]).length c7]) rfl (by kernel_rfl) (by kernel_rfl) (by kernel_rfl) (fun _ _ _ h => h) (Or.inl ⟨by rfl, fun W hSw => by go_simp⟩) (by assumption) ?_
                try simp only [Act.put, List.setIfInBounds_toArray, List.set_cons_zero, List.set_cons_succ]
                obtain ⟨_, _, x2, x3⟩ := X7.out.facts
                have xl := X7.out.lt
                refine wpAnyH_ready (rs := [11]) (by kernel_rfl) (by simp) ?_
                refine AllReadyH.cons rfl (fun K hKK => ?_) AllReadyH.nil
                go_simp
                refine hKK.out _ _ (HK.out _ ((B7.out.setCell (by show w3.heap.size ≤ v3.heap.size; omega) _).setCell (by show w3.heap.size ≤ v3.heap.size; omega) _)) (fun hSS => ?_)
                clear hKK K x2 x3 xl
                try simp only [Act.put, List.setIfInBounds_toArray, List.set_cons_zero, List.set_cons_succ]
                refine wpAnyH_done (by kernel_rfl) ?_ _
                go_wp2_with fail
                go_meet
                exact ⟨v3.heap.size, a7, c7, rfl, box_two X7.out _ _, (by have h9 := own_past Q7.out X7.out (.int .i64 n) (.slice a7 (Z.length + 1) c7); rw [List.length_append] at h9; exact h9), (B7.out.setCell (by show w3.heap.size ≤ v3.heap.size; omega) _).setCell (by show w3.heap.size ≤ v3.heap.size; omega) _, by omega⟩
            · skip
              go_simp
              obtain ⟨v8, hv8⟩ : ∃ V, V = v2.alloc (.cells #[.int .i64 0, .slice none 0 0] 28) := ⟨_, rfl⟩
              rw [← hv8]
              have B8 : Hid (Below w3.heap.size w3 v8) := Lib.hid (by rw [hv8]; exact B2.out.alloc (by omega) _)
              have z8 : v2.heap.size < v8.heap.size := by rw [hv8]; simp
              have A8 : Hid (v8.ownsRow w3.heap.size 3 1 (.slice a2 Z.length c2) Z.length (ints Z)) := Lib.hid (by rw [hv8]; exact A2.out.alloc _)
              have X8 : Hid (Box v8 v2.heap.size (.int .i64 0) (.slice none 0 0) 28) := Lib.hid (by rw [hv8]; exact box_new _ _ _ _)
              clear hv8
              refine hKK.out _ _ (HK.out _ B8.out) (fun hSS => ?_)
              clear hKK K
              try simp only [Act.put, List.setIfInBounds_toArray, List.set_cons_zero, List.set_cons_succ]
              refine wpAnyH_ready (rs := [7]) (by kernel_rfl) (by simp) ?_
              refine AllReadyH.cons rfl (fun K hKK => ?_) AllReadyH.nil
              go_simp
              obtain ⟨v9, hv9⟩ : ∃ V, V = v8.alloc (.cells #[.int .i64 p] 3) := ⟨_, rfl⟩
              rw [← hv9]
              have B9 : Hid (Below w3.heap.size w3 v9) := Lib.hid (by rw [hv9]; exact B8.out.alloc (by omega) _)
              have z9 : v8.heap.size < v9.heap.size := by rw [hv9]; simp
              have A9 : Hid (v9.ownsRow w3.heap.size 3 1 (.slice a2 Z.length c2) Z.length (ints Z)) := Lib.hid (by rw [hv9]; exact A8.out.alloc _)
              have X9 : Hid (Box v9 v2.heap.size (.int .i64 0) (.slice none 0 0) 28) := Lib.hid (by rw [hv9]; exact X8.out.keep (bel1 _ _) X8.out.lt)
              have P9 : Hid (Boxed v9 v8.heap.size 3 (.int .i64 p)) := Lib.hid (by rw [hv9]; exact Boxed.new _ _ _)
              clear hv9
              refine hKK.out _ _ (HK.out _ B9.out) (fun hSS => ?_)
              clear hKK K
              try simp only [Act.put, List.setIfInBounds_toArray, List.set_cons_zero, List.set_cons_succ]
              refine wpAnyH_ready (rs := [8]) (by kernel_rfl) (by simp) ?_
              refine AllReadyH.cons rfl (fun K hKK => ?_) AllReadyH.nil
              refine step_app rfl _ _ rfl w3.heap.size a2 c2 Z (some ⟨v8.heap.size, 0, none⟩) 1 1 [(p : Int)] v9 A9.out (ints_box P9.out (by omega)) (by omega) (by omega) (by omega) rfl rfl ?_
              intro a10 c10 v10 hown hgr
              have z10 : v9.heap.size ≤ v10.heap.size := hgr.size
              have B10 : Hid (Below w3.heap.size w3 v10) := Lib.hid (B9.out.grown hgr (by omega) (fun x hx => (A9.out.lt x hx).1))
              have Q10 := Lib.hid hown
              have X10 : Hid (Box v10 v2.heap.size (.int .i64 0) (.slice none 0 0) 28) := Lib.hid (box_row X9.out (by decide) A9.out hgr)
              clear hown hgr
              refine hKK.out _ _ (HK.out _ B10.out) (fun hSS => ?_)
              clear hKK K
              try simp only [Act.put, List.setIfInBounds_toArray, List.set_cons_zero, List.set_cons_succ]
              refine wpAnyH_take (i := 9) (oi := ⟨some 58, _, _, _, _, _⟩) (v := .agg #[.int .i64 n, .slice a10 (Z ++ [(p : Int)]).length c10]) rfl (by kernel_rfl) (by kernel_rfl) (by kernel_rfl) (fun _ _ _ h => h) (Or.inl ⟨by rfl, fun W hSw => by go_simp⟩) (by assumption) ?_
              try simp only [Act.put, List.setIfInBounds_toArray, List.set_cons_zero, List.set_cons_succ]
              obtain ⟨_, _, x2, x3⟩ := X10.out.facts
              have xl := X10.out.lt
              refine wpAnyH_ready (rs := [11]) (by kernel_rfl) (by simp) ?_
              refine AllReadyH.cons rfl (fun K hKK => ?_) AllReadyH.nil
              go_simp
              refine hKK.out _ _ (HK.out _ ((B10.out.setCell (by show w3.heap.size ≤ v2.heap.size; omega) _).setCell (by show w3.heap.size ≤ v2.heap.size; omega) _)) (fun hSS => ?_)
              clear hKK K x2 x3 xl
              try simp only [Act.put, List.setIfInBounds_toArray, List.set_cons_zero, List.set_cons_succ]
              refine wpAnyH_done (by kernel_rfl) ?_ _
              go_wp2_with fail
              go_meet
              exact ⟨v2.heap.size, a10, c10, rfl, box_two X10.out _ _, (by have h9 := own_past Q10.out X10.out (.int .i64 n) (.slice a10 (Z.length + 1) c10); rw [List.length_append] at h9; exact h9), (B10.out.setCell (by show w3.heap.size ≤ v2.heap.size; omega) _).setCell (by show w3.heap.size ≤ v2.heap.size; omega) _, by omega⟩
          · skip
            go_simp
            obtain ⟨v11, hv11⟩ : ∃ V, V = v1.alloc (.cells #[.int .i64 p] 3) := ⟨_, rfl⟩
            rw [← hv11]
            have B11 : Hid (Below w3.heap.size w3 v11) := Lib.hid (by rw [hv11]; exact B1.out.alloc (by omega) _)
            have z11 : v1.heap.size < v11.heap.size := by rw [hv11]; simp
            have E11 : Hid (v11.ownsRow w3.heap.size 3 1 (.slice (some ⟨v0.heap.size, 0, none⟩) 0 0) 0 (ints [])) := Lib.hid (by rw [hv11]; exact E1.out.alloc _)
            have P11 : Hid (Boxed v11 v1.heap.size 3 (.int .i64 p)) := Lib.hid (by rw [hv11]; exact Boxed.new _ _ _)
            clear hv11
            refine hKK.out _ _ (HK.out _ B11.out) (fun hSS => ?_)
            clear hKK K
            try simp only [Act.put, List.setIfInBounds_toArray, List.set_cons_zero, List.set_cons_succ]
            refine wpAnyH_ready (rs := [5, 10]) (by kernel_rfl) (by simp) ?_
            refine AllReadyH.cons rfl (fun K hKK => ?_) (AllReadyH.cons rfl (fun K hKK => ?_) AllReadyH.nil)
            · skip
              refine step_app rfl _ _ rfl w3.heap.size (some ⟨v0.heap.size, 0, none⟩) 0 [] a Z.length cap Z v11 E11.out (HIZW.out _ B11.out) (by simp) (by omega) (by omega) rfl rfl ?_
              intro a12 c12 v12 hown hgr
              rw [List.nil_append] at hown ⊢
              have z12 : v11.heap.size ≤ v12.heap.size := hgr.size
              have B12 : Hid (Below w3.heap.size w3 v12) := Lib.hid (B11.out.grown hgr (by omega) (fun x hx => (E11.out.lt x hx).1))
              have A12 := Lib.hid hown
              have P12 : Hid (Boxed v12 v1.heap.size 3 (.int .i64 p)) := Lib.hid (P11.out.kept hgr (fun e => by have := Option.some.inj e; simp at this; omega))
              clear hown hgr
              refine hKK.out _ _ (HK.out _ B12.out) (fun hSS => ?_)
              clear hKK K
              try simp only [Act.put, List.setIfInBounds_toArray, List.set_cons_zero, List.set_cons_succ]
              refine wpAnyH_ready (rs := [8, 10]) (by kernel_rfl) (by simp) ?_
              refine AllReadyH.cons rfl (fun K hKK => ?_) (AllReadyH.cons rfl (fun K hKK => ?_) AllReadyH.nil)
              · skip
                refine step_app rfl _ _ rfl w3.heap.size a12 c12 Z (some ⟨v1.heap.size, 0, none⟩) 1 1 [(p : Int)] v12 A12.out (ints_box P12.out (by omega)) (by omega) (by omega) (by omega) rfl rfl ?_
                intro a13 c13 v13 hown hgr
                have z13 : v12.heap.size ≤ v13.heap.size := hgr.size
                have B13 : Hid (Below w3.heap.size w3 v13) := Lib.hid (B12.out.grown hgr (by omega) (fun x hx => (A12.out.lt x hx).1))
                have Q13 := Lib.hid hown
                clear hown hgr
                refine hKK.out _ _ (HK.out _ B13.out) (fun hSS => ?_)
                clear hKK K
                try simp only [Act.put, List.setIfInBounds_toArray, List.set_cons_zero, List.set_cons_succ]
                refine wpAnyH_take (i := 9) (oi := ⟨some 58, _, _, _, _, _⟩) (v := .agg #[.int .i64 n, .slice a13 (Z ++ [(p : Int)]).length c13]) rfl (by kernel_rfl) (by kernel_rfl) (by kernel_rfl) (fun _ _ _ h => h) (Or.inl ⟨by rfl, fun W hSw => by go_simp⟩) (by assumption) ?_
                try simp only [Act.put, List.setIfInBounds_toArray, List.set_cons_zero, List.set_cons_succ]
                refine wpAnyH_ready (rs := [10]) (by kernel_rfl) (by simp) ?_
                refine AllReadyH.cons rfl (fun K hKK => ?_) AllReadyH.nil
                go_simp
                obtain ⟨v14, hv14⟩ : ∃ V, V = v13.alloc (.cells #[.int .i64 0, .slice none 0 0] 28) := ⟨_, rfl⟩
                rw [← hv14]
                have B14 : Hid (Below w3.heap.size w3 v14) := Lib.hid (by rw [hv14]; exact B13.out.alloc (by omega) _)
                have z14 : v13.heap.size < v14.heap.size := by rw [hv14]; simp
                have Q14 : Hid (v14.ownsRow w3.heap.size 3 1 (.slice a13 (Z ++ [(p : Int)]).length c13) (Z ++ [(p : Int)]).length (ints (Z ++ [(p : Int)]))) := Lib.hid (by rw [hv14]; exact Q13.out.alloc _)
                have X14 : Hid (Box v14 v13.heap.size (.int .i64 0) (.slice none 0 0) 28) := Lib.hid (by rw [hv14]; exact box_new _ _ _ _)
                clear hv14
                refine hKK.out _ _ (HK.out _ B14.out) (fun hSS => ?_)
                clear hKK K
                try simp only [Act.put, List.setIfInBounds_toArray, List.set_cons_zero, List.set_cons_succ]
                obtain ⟨_, _, x2, x3⟩ := X14.out.facts
                have xl := X14.out.lt
                refine wpAnyH_ready (rs := [11]) (by kernel_rfl) (by simp) ?_
                refine AllReadyH.cons rfl (fun K hKK => ?_) AllReadyH.nil
                go_simp
                refine hKK.out _ _ (HK.out _ ((B14.out.setCell (by show w3.heap.size ≤ v13.heap.size; omega) _).setCell (by show w3.heap.size ≤ v13.heap.size; omega) _)) (fun hSS => ?_)
                clear hKK K x2 x3 xl
                try simp only [Act.put, List.setIfInBounds_toArray, List.set_cons_zero, List.set_cons_succ]
                refine wpAnyH_done (by kernel_rfl) ?_ _
                go_wp2_with fail
                go_meet
                exact ⟨v13.heap.size, a13, c13, rfl, box_two X14.out _ _, (by have h9 := own_past Q14.out X14.out (.int .i64 n) (.slice a13 (Z.length + 1) c13); rw [List.length_append] at h9; exact h9), (B14.out.setCell (by show w3.heap.size ≤ v13.heap.size; omega) _).setCell (by show w3.heap.size ≤ v13.heap.size; omega) _, by omega⟩
              · skip
                go_simp
                obtain ⟨v15, hv15⟩ : ∃ V, V = v12.alloc (.cells #[.int .i64 0, .slice none 0 0] 28) := ⟨_, rfl⟩
                rw [← hv15]
                have B15 : Hid (Below w3.heap.size w3 v15) := Lib.hid (by rw [hv15]; exact B12.out.alloc (by omega) _)
                have z15 : v12.heap.size < v15.heap.size := by rw [hv15]; simp
                have A15 : Hid (v15.ownsRow w3.heap.size 3 1 (.slice a12 Z.length c12) Z.length (ints Z)) := Lib.hid (by rw [hv15]; exact A12.out.alloc _)
                have P15 : Hid (Boxed v15 v1.heap.size 3 (.int .i64 p)) := Lib.hid (by rw [hv15]; exact P12.out.alloc _)
                have X15 : Hid (Box v15 v12.heap.size (.int .i64 0) (.slice none 0 0) 28) := Lib.hid (by rw [hv15]; exact box_new _ _ _ _)
                clear hv15
                refine hKK.out _ _ (HK.out _ B15.out) (fun hSS => ?_)
                clear hKK K
                try simp only [Act.put, List.setIfInBounds_toArray, List.set_cons_zero, List.set_cons_succ]
                refine wpAnyH_ready (rs := [8]) (by kernel_rfl) (by simp) ?_
                refine AllReadyH.cons rfl (fun K hKK => ?_) AllReadyH.nil
                refine step_app rfl _ _ rfl w3.heap.size a12 c12 Z (some ⟨v1.heap.size, 0, none⟩) 1 1 [(p : Int)] v15 A15.out (ints_box P15.out (by omega)) (by omega) (by omega) (by omega) rfl rfl ?_
                intro a16 c16 v16 hown hgr
                have z16 : v15.heap.size ≤ v16.heap.size := hgr.size
                have B16 : Hid (Below w3.heap.size w3 v16) := Lib.hid (B15.out.grown hgr (by omega) (fun x hx => (A15.out.lt x hx).1))
                have Q16 := Lib.hid hown
                have X16 : Hid (Box v16 v12.heap.size (.int .i64 0) (.slice none 0 0) 28) := Lib.hid (box_row X15.out (by decide) A15.out hgr)
                clear hown hgr
                refine hKK.out _ _ (HK.out _ B16.out) (fun hSS => ?_)
                clear hKK K
                try simp only [Act.put, List.setIfInBounds_toArray, List.set_cons_zero, List.set_cons_succ]
                refine wpAnyH_take (i := 9) (oi := ⟨some 58, _, _, _, _, _⟩) (v := .agg #[.int .i64 n, .slice a16 (Z ++ [(p : Int)]).length c16]) rfl (by kernel_rfl) (by kernel_rfl) (by kernel_rfl) (fun _ _ _ h => h) (Or.inl ⟨by rfl, fun W hSw => by go_simp⟩) (by assumption) ?_
                try simp only [Act.put, List.setIfInBounds_toArray, List.set_cons_zero, List.set_cons_succ]
                obtain ⟨_, _, x2, x3⟩ := X16.out.facts
                have xl := X16.out.lt
                refine wpAnyH_ready (rs := [11]) (by kernel_rfl) (by simp) ?_
                refine AllReadyH.cons rfl (fun K hKK => ?_) AllReadyH.nil
                go_simp
                refine hKK.out _ _ (HK.out _ ((B16.out.setCell (by show w3.heap.size ≤ v12.heap.size; omega) _).setCell (by show w3.heap.size ≤ v12.heap.size; omega) _)) (fun hSS => ?_)
                clear hKK K x2 x3 xl
                try simp only [Act.put, List.setIfInBounds_toArray, List.set_cons_zero, List.set_cons_succ]
                refine wpAnyH_done (by kernel_rfl) ?_ _
                go_wp2_with fail
                go_meet
                exact ⟨v12.heap.size, a16, c16, rfl, box_two X16.out _ _, (by have h9 := own_past Q16.out X16.out (.int .i64 n) (.slice a16 (Z.length + 1) c16); rw [List.length_append] at h9; exact h9), (B16.out.setCell (by show w3.heap.size ≤ v12.heap.size; omega) _).setCell (by show w3.heap.size ≤ v12.heap.size; omega) _, by omega⟩
            · skip
              go_simp
              obtain ⟨v17, hv17⟩ : ∃ V, V = v11.alloc (.cells #[.int .i64 0, .slice none 0 0] 28) := ⟨_, rfl⟩
              rw [← hv17]
              have B17 : Hid (Below w3.heap.size w3 v17) := Lib.hid (by rw [hv17]; exact B11.out.alloc (by omega) _)
              have z17 : v11.heap.size < v17.heap.size := by rw [hv17]; simp
              have E17 : Hid (v17.ownsRow w3.heap.size 3 1 (.slice (some ⟨v0.heap.size, 0, none⟩) 0 0) 0 (ints [])) := Lib.hid (by rw [hv17]; exact E11.out.alloc _)
              have P17 : Hid (Boxed v17 v1.heap.size 3 (.int .i64 p)) := Lib.hid (by rw [hv17]; exact P11.out.alloc _)
              have X17 : Hid (Box v17 v11.heap.size (.int .i64 0) (.slice none 0 0) 28) := Lib.hid (by rw [hv17]; exact box_new _ _ _ _)
              clear hv17
              refine hKK.out _ _ (HK.out _ B17.out) (fun hSS => ?_)
              clear hKK K
              try simp only [Act.put, List.setIfInBounds_toArray, List.set_cons_zero, List.set_cons_succ]
              refine wpAnyH_ready (rs := [5]) (by kernel_rfl) (by simp) ?_
              refine AllReadyH.cons rfl (fun K hKK => ?_) AllReadyH.nil
              refine step_app rfl _ _ rfl w3.heap.size (some ⟨v0.heap.size, 0, none⟩) 0 [] a Z.length cap Z v17 E17.out (HIZW.out _ B17.out) (by simp) (by omega) (by omega) rfl rfl ?_
              intro a18 c18 v18 hown hgr
              rw [List.nil_append] at hown ⊢
              have z18 : v17.heap.size ≤ v18.heap.size := hgr.size
              have B18 : Hid (Below w3.heap.size w3 v18) := Lib.hid (B17.out.grown hgr (by omega) (fun x hx => (E17.out.lt x hx).1))
              have A18 := Lib.hid hown
              have P18 : Hid (Boxed v18 v1.heap.size 3 (.int .i64 p)) := Lib.hid (P17.out.kept hgr (fun e => by have := Option.some.inj e; simp at this; omega))
              have X18 : Hid (Box v18 v11.heap.size (.int .i64 0) (.slice none 0 0) 28) := Lib.hid (box_row X17.out (by decide) E17.out hgr)
              clear hown hgr
              refine hKK.out _ _ (HK.out _ B18.out) (fun hSS => ?_)
              clear hKK K
              try simp only [Act.put, List.setIfInBounds_toArray, List.set_cons_zero, List.set_cons_succ]
              refine wpAnyH_ready (rs := [8]) (by kernel_rfl) (by simp) ?_
              refine AllReadyH.cons rfl (fun K hKK => ?_) AllReadyH.nil
              refine step_app rfl _ _ rfl w3.heap.size a18 c18 Z (some ⟨v1.heap.size, 0, none⟩) 1 1 [(p : Int)] v18 A18.out (ints_box P18.out (by omega)) (by omega) (by omega) (by omega) rfl rfl ?_
              intro a19 c19 v19 hown hgr
              have z19 : v18.heap.size ≤ v19.heap.size := hgr.size
              have B19 : Hid (Below w3.heap.size w3 v19) := Lib.hid (B18.out.grown hgr (by omega) (fun x hx => (A18.out.lt x hx).1))
              have Q19 := Lib.hid hown
              have X19 : Hid (Box v19 v11.heap.size (.int .i64 0) (.slice none 0 0) 28) := Lib.hid (box_row X18.out (by decide) A18.out hgr)
              clear hown hgr
              refine hKK.out _ _ (HK.out _ B19.out) (fun hSS => ?_)
              clear hKK K
              try simp only [Act.put, List.setIfInBounds_toArray, List.set_cons_zero, List.set_cons_succ]
              refine wpAnyH_take (i := 9) (oi := ⟨some 58, _, _, _, _, _⟩) (v := .agg #[.int .i64 n, .slice a19 (Z ++ [(p : Int)]).length c19]) rfl (by kernel_rfl) (by kernel_rfl) (by kernel_rfl) (fun _ _ _ h => h) (Or.inl ⟨by rfl, fun W hSw => by go_simp⟩) (by assumption) ?_
              try simp only [Act.put, List.setIfInBounds_toArray, List.set_cons_zero, List.set_cons_succ]
              obtain ⟨_, _, x2, x3⟩ := X19.out.facts
              have xl := X19.out.lt
              refine wpAnyH_ready (rs := [11]) (by kernel_rfl) (by simp) ?_
              refine AllReadyH.cons rfl (fun K hKK => ?_) AllReadyH.nil
              go_simp
              refine hKK.out _ _ (HK.out _ ((B19.out.setCell (by show w3.heap.size ≤ v11.heap.size; omega) _).setCell (by show w3.heap.size ≤ v11.heap.size; omega) _)) (fun hSS => ?_)
              clear hKK K x2 x3 xl
              try simp only [Act.put, List.setIfInBounds_toArray, List.set_cons_zero, List.set_cons_succ]
              refine wpAnyH_done (by kernel_rfl) ?_ _
              go_wp2_with fail
              go_meet
              exact ⟨v11.heap.size, a19, c19, rfl, box_two X19.out _ _, (by have h9 := own_past Q19.out X19.out (.int .i64 n) (.slice a19 (Z.length + 1) c19); rw [List.length_append] at h9; exact h9), (B19.out.setCell (by show w3.heap.size ≤ v11.heap.size; omega) _).setCell (by show w3.heap.size ≤ v11.heap.size; omega) _, by omega⟩
          · skip
            go_simp
            obtain ⟨v20, hv20⟩ : ∃ V, V = v1.alloc (.cells #[.int .i64 0, .slice none 0 0] 28) := ⟨_, rfl⟩
            rw [← hv20]
            have B20 : Hid (Below w3.heap.size w3 v20) := Lib.hid (by rw [hv20]; exact B1.out.alloc (by omega) _)
            have z20 : v1.heap.size < v20.heap.size := by rw [hv20]; simp
            have E20 : Hid (v20.ownsRow w3.heap.size 3 1 (.slice (some ⟨v0.heap.size, 0, none⟩) 0 0) 0 (ints [])) := Lib.hid (by rw [hv20]; exact E1.out.alloc _)
            have X20 : Hid (Box v20 v1.heap.size (.int .i64 0) (.slice none 0 0) 28) := Lib.hid (by rw [hv20]; exact box_new _ _ _ _)
            clear hv20
            refine hKK.out _ _ (HK.out _ B20.out) (fun hSS => ?_)
            clear hKK K
            try simp only [Act.put, List.setIfInBounds_toArray, List.set_cons_zero, List.set_cons_succ]
            refine wpAnyH_ready (rs := [5, 7]) (by kernel_rfl) (by simp) ?_
            refine AllReadyH.cons rfl (fun K hKK => ?_) (AllReadyH.cons rfl (fun K hKK => ?_) AllReadyH.nil)
            · skip
              refine step_app rfl _ _ rfl w3.heap.size (some ⟨v0.heap.size, 0, none⟩) 0 [] a Z.length cap Z v20 E20.out (HIZW.out _ B20.out) (by simp) (by omega) (by omega) rfl rfl ?_
              intro a21 c21 v21 hown hgr
              rw [List.nil_append] at hown ⊢
              have z21 : v20.heap.size ≤ v21.heap.size := hgr.size
              have B21 : Hid (Below w3.heap.size w3 v21) := Lib.hid (B20.out.grown hgr (by omega) (fun x hx => (E20.out.lt x hx).1))
              have A21 := Lib.hid hown
              have X21 : Hid (Box v21 v1.heap.size (.int .i64 0) (.slice none 0 0) 28) := Lib.hid (box_row X20.out (by decide) E20.out hgr)
              clear hown hgr
              refine hKK.out _ _ (HK.out _ B21.out) (fun hSS => ?_)
              clear hKK K
              try simp only [Act.put, List.setIfInBounds_toArray, List.set_cons_zero, List.set_cons_succ]
              refine wpAnyH_ready (rs := [7]) (by kernel_rfl) (by simp) ?_
              refine AllReadyH.cons rfl (fun K hKK => ?_) AllReadyH.nil
              go_simp
              obtain ⟨v22, hv22⟩ : ∃ V, V = v21.alloc (.cells #[.int .i64 p] 3) := ⟨_, rfl⟩
              rw [← hv22]
              have B22 : Hid (Below w3.heap.size w3 v22) := Lib.hid (by rw [hv22]; exact B21.out.alloc (by omega) _)
              have z22 : v21.heap.size < v22.heap.size := by rw [hv22]; simp
              have A22 : Hid (v22.ownsRow w3.heap.size 3 1 (.slice a21 Z.length c21) Z.length (ints Z)) := Lib.hid (by rw [hv22]; exact A21.out.alloc _)
              have X22 : Hid (Box v22 v1.heap.size (.int .i64 0) (.slice none 0 0) 28) := Lib.hid (by rw [hv22]; exact X21.out.keep (bel1 _ _) X21.out.lt)
              have P22 : Hid (Boxed v22 v21.heap.size 3 (.int .i64 p)) := Lib.hid (by rw [hv22]; exact Boxed.new _ _ _)
              clear hv22
              refine hKK.out _ _ (HK.out _ B22.out) (fun hSS => ?_)
              clear hKK K
              try simp only [Act.put, List.setIfInBounds_toArray, List.set_cons_zero, List.set_cons_succ]
              refine wpAnyH_ready (rs := [8]) (by kernel_rfl) (by simp) ?_
              refine AllReadyH.cons rfl (fun K hKK => ?_) AllReadyH.nil
              refine step_app rfl _ _ rfl w3.heap.size a21 c21 Z (some ⟨v21.heap.size, 0, none⟩) 1 1 [(p : Int)] v22 A22.out (ints_box P22.out (by omega)) (by omega) (by omega) (by omega) rfl rfl ?_
              intro a23 c23 v23 hown hgr
              have z23 : v22.heap.size ≤ v23.heap.size := hgr.size
              have B23 : Hid (Below w3.heap.size w3 v23) := Lib.hid (B22.out.grown hgr (by omega) (fun x hx => (A22.out.lt x hx).1))
              have Q23 := Lib.hid hown
              have X23 : Hid (Box v23 v1.heap.size (.int .i64 0) (.slice none 0 0) 28) := Lib.hid (box_row X22.out (by decide) A22.out hgr)
              clear hown hgr
              refine hKK.out _ _ (HK.out _ B23.out) (fun hSS => ?_)
              clear hKK K
              try simp only [Act.put, List.setIfInBounds_toArray, List.set_cons_zero, List.set_cons_succ]
              refine wpAnyH_take (i := 9) (oi := ⟨some 58, _, _, _, _, _⟩) (v := .agg #[.int .i64 n, .slice a23 (Z ++ [(p : Int)]).length c23]) rfl (by kernel_rfl) (by kernel_rfl) (by kernel_rfl) (fun _ _ _ h => h) (Or.inl ⟨by rfl, fun W hSw => by go_simp⟩) (by assumption) ?_
              try simp only [Act.put, List.setIfInBounds_toArray, List.set_cons_zero, List.set_cons_succ]
              obtain ⟨_, _, x2, x3⟩ := X23.out.facts
              have xl := X23.out.lt
              refine wpAnyH_ready (rs := [11]) (by kernel_rfl) (by simp) ?_
              refine AllReadyH.cons rfl (fun K hKK => ?_) AllReadyH.nil
              go_simp
              refine hKK.out _ _ (HK.out _ ((B23.out.setCell (by show w3.heap.size ≤ v1.heap.size; omega) _).setCell (by show w3.heap.size ≤ v1.heap.size; omega) _)) (fun hSS => ?_)
              clear hKK K x2 x3 xl
              try simp only [Act.put, List.setIfInBounds_toArray, List.set_cons_zero, List.set_cons_succ]
              refine wpAnyH_done (by kernel_rfl) ?_ _
              go_wp2_with fail
              go_meet
              exact ⟨v1.heap.size, a23, c23, rfl, box_two X23.out _ _, (by have h9 := own_past Q23.out X23.out (.int .i64 n) (.slice a23 (Z.length + 1) c23); rw [List.length_append] at h9; exact h9), (B23.out.setCell (by show w3.heap.size ≤ v1.heap.size; omega) _).setCell (by show w3.heap.size ≤ v1.heap.size; omega) _, by omega⟩
            · skip
              go_simp
              obtain ⟨v24, hv24⟩ : ∃ V, V = v20.alloc (.cells #[.int .i64 p] 3) := ⟨_, rfl⟩
              rw [← hv24]
              have B24 : Hid (Below w3.heap.size w3 v24) := Lib.hid (by rw [hv24]; exact B20.out.alloc (by omega) _)
              have z24 : v20.heap.size < v24.heap.size := by rw [hv24]; simp
              have E24 : Hid (v24.ownsRow w3.heap.size 3 1 (.slice (some ⟨v0.heap.size, 0, none⟩) 0 0) 0 (ints [])) := Lib.hid (by rw [hv24]; exact E20.out.alloc _)
              have X24 : Hid (Box v24 v1.heap.size (.int .i64 0) (.slice none 0 0) 28) := Lib.hid (by rw [hv24]; exact X20.out.keep (bel1 _ _) X20.out.lt)
              have P24 : Hid (Boxed v24 v20.heap.size 3 (.int .i64 p)) := Lib.hid (by rw [hv24]; exact Boxed.new _ _ _)
              clear hv24
              refine hKK.out _ _ (HK.out _ B24.out) (fun hSS => ?_)
              clear hKK K
              try simp only [Act.put, List.setIfInBounds_toArray, List.set_cons_zero, List.set_cons_succ]
              refine wpAnyH_ready (rs := [5]) (by kernel_rfl) (by simp) ?_
              refine AllReadyH.cons rfl (fun K hKK => ?_) AllReadyH.nil
              refine step_app rfl _ _ rfl w3.heap.size (some ⟨v0.heap.size, 0, none⟩) 0 [] a Z.length cap Z v24 E24.out (HIZW.out _ B24.out) (by simp) (by omega) (by omega) rfl rfl ?_
              intro a25 c25 v25 hown hgr
              rw [List.nil_append] at hown ⊢
              have z25 : v24.heap.size ≤ v25.heap.size := hgr.size
              have B25 : Hid (Below w3.heap.size w3 v25) := Lib.hid (B24.out.grown hgr (by omega) (fun x hx => (E24.out.lt x hx).1))
              have A25 := Lib.hid hown
              have P25 : Hid (Boxed v25 v20.heap.size 3 (.int .i64 p)) := Lib.hid (P24.out.kept hgr (fun e => by have := Option.some.inj e; simp at this; omega))
              have X25 : Hid (Box v25 v1.heap.size (.int .i64 0) (.slice none 0 0) 28) := Lib.hid (box_row X24.out (by decide) E24.out hgr)
              clear hown hgr
              refine hKK.out _ _ (HK.out _ B25.out) (fun hSS => ?_)
              clear hKK K
              try simp only [Act.put, List.setIfInBounds_toArray, List.set_cons_zero, List.set_cons_succ]
              refine wpAnyH_ready (rs := [8]) (by kernel_rfl) (by simp) ?_
              refine AllReadyH.cons rfl (fun K hKK => ?_) AllReadyH.nil
              refine step_app rfl _ _ rfl w3.heap.size a25 c25 Z (some ⟨v20.heap.size, 0, none⟩) 1 1 [(p : Int)] v25 A25.out (ints_box P25.out (by omega)) (by omega) (by omega) (by omega) rfl rfl ?_
              intro a26 c26 v26 hown hgr
              have z26 : v25.heap.size ≤ v26.heap.size := hgr.size
              have B26 : Hid (Below w3.heap.size w3 v26) := Lib.hid (B25.out.grown hgr (by omega) (fun x hx => (A25.out.lt x hx).1))
              have Q26 := Lib.hid hown
              have X26 : Hid (Box v26 v1.heap.size (.int .i64 0) (.slice none 0 0) 28) := Lib.hid (box_row X25.out (by decide) A25.out hgr)
              clear hown hgr
              refine hKK.out _ _ (HK.out _ B26.out) (fun hSS => ?_)
              clear hKK K
              try simp only [Act.put, List.setIfInBounds_toArray, List.set_cons_zero, List.set_cons_succ]
              refine wpAnyH_take (i := 9) (oi := ⟨some 58, _, _, _, _, _⟩) (v := .agg #[.int .i64 n, .slice a26 (Z ++ [(p : Int)]).length c26]) rfl (by kernel_rfl) (by kernel_rfl) (by kernel_rfl) (fun _ _ _ h => h) (Or.inl ⟨by rfl, fun W hSw => by go_simp⟩) (by assumption) ?_
              try simp only [Act.put, List.setIfInBounds_toArray, List.set_cons_zero, List.set_cons_succ]
              obtain ⟨_, _, x2, x3⟩ := X26.out.facts
              have xl := X26.out.lt
              refine wpAnyH_ready (rs := [11]) (by kernel_rfl) (by simp) ?_
              refine AllReadyH.cons rfl (fun K hKK => ?_) AllReadyH.nil
              go_simp
              refine hKK.out _ _ (HK.out _ ((B26.out.setCell (by show w3.heap.size ≤ v1.heap.size; omega) _).setCell (by show w3.heap.size ≤ v1.heap.size; omega) _)) (fun hSS => ?_)
              clear hKK K x2 x3 xl
              try simp only [Act.put, List.setIfInBounds_toArray, List.set_cons_zero, List.set_cons_succ]
              refine wpAnyH_done (by kernel_rfl) ?_ _
              go_wp2_with fail
              go_meet
              exact ⟨v1.heap.size, a26, c26, rfl, box_two X26.out _ _, (by have h9 := own_past Q26.out X26.out (.int .i64 n) (.slice a26 (Z.length + 1) c26); rw [List.length_append] at h9; exact h9), (B26.out.setCell (by show w3.heap.size ≤ v1.heap.size; omega) _).setCell (by show w3.heap.size ≤ v1.heap.size; omega) _, by omega⟩
        · skip
          go_simp
          obtain ⟨v27, hv27⟩ : ∃ V, V = v0.alloc (.cells #[.int .i64 p] 3) := ⟨_, rfl⟩
          rw [← hv27]
          have B27 : Hid (Below w3.heap.size w3 v27) := Lib.hid (by rw [hv27]; exact B0.out.alloc (by omega) _)
          have z27 : v0.heap.size < v27.heap.size := by rw [hv27]; simp
          have P27 : Hid (Boxed v27 v0.heap.size 3 (.int .i64 p)) := Lib.hid (by rw [hv27]; exact Boxed.new _ _ _)
          clear hv27
          refine hKK.out _ _ (HK.out _ B27.out) (fun hSS => ?_)
          clear hKK K
          try simp only [Act.put, List.setIfInBounds_toArray, List.set_cons_zero, List.set_cons_succ]
          refine wpAnyH_ready (rs := [2, 10]) (by kernel_rfl) (by simp) ?_
          refine AllReadyH.cons rfl (fun K hKK => ?_) (AllReadyH.cons rfl (fun K hKK => ?_) AllReadyH.nil)
          · skip
            go_simp
            obtain ⟨v28, hv28⟩ : ∃ V, V = v27.alloc (.cells #[] 3) := ⟨_, rfl⟩
            rw [← hv28]
            have B28 : Hid (Below w3.heap.size w3 v28) := Lib.hid (by rw [hv28]; exact B27.out.alloc (by omega) _)
            have z28 : v27.heap.size < v28.heap.size := by rw [hv28]; simp
            have P28 : Hid (Boxed v28 v0.heap.size 3 (.int .i64 p)) := Lib.hid (by rw [hv28]; exact P27.out.alloc _)
            have E28 : Hid (v28.ownsRow w3.heap.size 3 1 (.slice (some ⟨v27.heap.size, 0, none⟩) 0 0) 0 (ints [])) := Lib.hid (by rw [hv28]; exact World.ownsRow_made v27 #[] 0 (by omega) (by unfold maxLen; omega) rfl)
            clear hv28
            refine hKK.out _ _ (HK.out _ B28.out) (fun hSS => ?_)
            clear hKK K
            try simp only [Act.put, List.setIfInBounds_toArray, List.set_cons_zero, List.set_cons_succ]
            refine wpAnyH_ready (rs := [5, 10]) (by kernel_rfl) (by simp) ?_
            refine AllReadyH.cons rfl (fun K hKK => ?_) (AllReadyH.cons rfl (fun K hKK => ?_) AllReadyH.nil)
            · skip
              refine step_app rfl _ _ rfl w3.heap.size (some ⟨v27.heap.size, 0, none⟩) 0 [] a Z.length cap Z v28 E28.out (HIZW.out _ B28.out) (by simp) (by omega) (by omega) rfl rfl ?_
              intro a29 c29 v29 hown hgr
              rw [List.nil_append] at hown ⊢
              have z29 : v28.heap.size ≤ v29.heap.size := hgr.size
              have B29 : Hid (Below w3.heap.size w3 v29) := Lib.hid (B28.out.grown hgr (by omega) (fun x hx => (E28.out.lt x hx).1))
              have A29 := Lib.hid hown
              have P29 : Hid (Boxed v29 v0.heap.size 3 (.int .i64 p)) := Lib.hid (P28.out.kept hgr (fun e => by have := Option.some.inj e; simp at this; omega))
              clear hown hgr
              refine hKK.out _ _ (HK.out _ B29.out) (fun hSS => ?_)
              clear hKK K
              try simp only [Act.put, List.setIfInBounds_toArray, List.set_cons_zero, List.set_cons_succ]
              refine wpAnyH_ready (rs := [8, 10]) (by kernel_rfl) (by simp) ?_
              refine AllReadyH.cons rfl (fun K hKK => ?_) (AllReadyH.cons rfl (fun K hKK => ?_) AllReadyH.nil)
              · skip
                refine step_app rfl _ _ rfl w3.heap.size a29 c29 Z (some ⟨v0.heap.size, 0, none⟩) 1 1 [(p : Int)] v29 A29.out (ints_box P29.out (by omega)) (by omega) (by omega) (by omega) rfl rfl ?_
                intro a30 c30 v30 hown hgr
                have z30 : v29.heap.size ≤ v30.heap.size := hgr.size
                have B30 : Hid (Below w3.heap.size w3 v30) := Lib.hid (B29.out.grown hgr (by omega) (fun x hx => (A29.out.lt x hx).1))
                have Q30 := Lib.hid hown
                clear hown hgr
                refine hKK.out _ _ (HK.out _ B30.out) (fun hSS => ?_)
                clear hKK K
                try simp only [Act.put, List.setIfInBounds_toArray, List.set_cons_zero, List.set_cons_succ]
                refine wpAnyH_take (i := 9) (oi := ⟨some 58, _, _, _, _, _⟩) (v := .agg #[.int .i64 n, .slice a30 (Z ++ [(p : Int)]).length c30]) rfl (by kernel_rfl) (by kernel_rfl) (by kernel_rfl) (fun _ _ _ h => h) (Or.inl ⟨by rfl, fun W hSw => by go_simp⟩) (by assumption) ?_
                try simp only [Act.put, List.setIfInBounds_toArray, List.set_cons_zero, List.set_cons_succ]
                refine wpAnyH_ready (rs := [10]) (by kernel_rfl) (by simp) ?_
                refine AllReadyH.cons rfl (fun K hKK => ?_) AllReadyH.nil
                go_simp
                obtain ⟨v31, hv31⟩ : ∃ V, V = v30.alloc (.cells #[.int .i64 0, .slice none 0 0] 28) := ⟨_, rfl⟩
                rw [← hv31]
                have B31 : Hid (Below w3.heap.size w3 v31) := Lib.hid (by rw [hv31]; exact B30.out.alloc (by omega) _)
                have z31 : v30.heap.size < v31.heap.size := by rw [hv31]; simp
                have Q31 : Hid (v31.ownsRow w3.heap.size 3 1 (.slice a30 (Z ++ [(p : Int)]).length c30) (Z ++ [(p : Int)]).length (ints (Z ++ [(p : Int)]))) := Lib.hid (by rw [hv31]; exact Q30.out.alloc _)
                have X31 : Hid (Box v31 v30.heap.size (.int .i64 0) (.slice none 0 0) 28) := Lib.hid (by rw [hv31]; exact box_new _ _ _ _)
                clear hv31
                refine hKK.out _ _ (HK.out _ B31.out) (fun hSS => ?_)
                clear hKK K
                try simp only [Act.put, List.setIfInBounds_toArray, List.set_cons_zero, List.set_cons_succ]
                obtain ⟨_, _, x2, x3⟩ := X31.out.facts
                have xl := X31.out.lt
                refine wpAnyH_ready (rs := [11]) (by kernel_rfl) (by simp) ?_
                refine AllReadyH.cons rfl (fun K hKK => ?_) AllReadyH.nil
                go_simp
                refine hKK.out _ _ (HK.out _ ((B31.out.setCell (by show w3.heap.size ≤ v30.heap.size; omega) _).setCell (by show w3.heap.size ≤ v30.heap.size; omega) _)) (fun hSS => ?_)
                clear hKK K x2 x3 xl
                try simp only [Act.put, List.setIfInBounds_toArray, List.set_cons_zero, List.set_cons_succ]
                refine wpAnyH_done (by kernel_rfl) ?_ _
                go_wp2_with fail
                go_meet
                exact ⟨v30.heap.size, a30, c30, rfl, box_two X31.out _ _, (by have h9 := own_past Q31.out X31.out (.int .i64 n) (.slice a30 (Z.length + 1) c30); rw [List.length_append] at h9; exact h9), (B31.out.setCell (by show w3.heap.size ≤ v30.heap.size; omega) _).setCell (by show w3.heap.size ≤ v30.heap.size; omega) _, by omega⟩
              · skip
                go_simp
                obtain ⟨v32, hv32⟩ : ∃ V, V = v29.alloc (.cells #[.int .i64 0, .slice none 0 0] 28) := ⟨_, rfl⟩
                rw [← hv32]
                have B32 : Hid (Below w3.heap.size w3 v32) := Lib.hid (by rw [hv32]; exact B29.out.alloc (by omega) _)
                have z32 : v29.heap.size < v32.heap.size := by rw [hv32]; simp
                have A32 : Hid (v32.ownsRow w3.heap.size 3 1 (.slice a29 Z.length c29) Z.length (ints Z)) := Lib.hid (by rw [hv32]; exact A29.out.alloc _)
                have P32 : Hid (Boxed v32 v0.heap.size 3 (.int .i64 p)) := Lib.hid (by rw [hv32]; exact P29.out.alloc _)
                have X32 : Hid (Box v32 v29.heap.size (.int .i64 0) (.slice none 0 0) 28) := Lib.hid (by rw [hv32]; exact box_new _ _ _ _)
                clear hv32
                refine hKK.out _ _ (HK.out _ B32.out) (fun hSS => ?_)
                clear hKK K
                try simp only [Act.put, List.setIfInBounds_toArray, List.set_cons_zero, List.set_cons_succ]
                refine wpAnyH_ready (rs := [8]) (by kernel_rfl) (by simp) ?_
                refine AllReadyH.cons rfl (fun K hKK => ?_) AllReadyH.nil
                refine step_app rfl _ _ rfl w3.heap.size a29 c29 Z (some ⟨v0.heap.size, 0, none⟩) 1 1 [(p : Int)] v32 A32.out (ints_box P32.out (by omega)) (by omega) (by omega) (by omega) rfl rfl ?_
                intro a33 c33 v33 hown hgr
                have z33 : v32.heap.size ≤ v33.heap.size := hgr.size
                have B33 : Hid (Below w3.heap.size w3 v33) := Lib.hid (B32.out.grown hgr (by omega) (fun x hx => (A32.out.lt x hx).1))
                have Q33 := Lib.hid hown
                have X33 : Hid (Box v33 v29.heap.size (.int .i64 0) (.slice none 0 0) 28) := Lib.hid (box_row X32.out (by decide) A32.out hgr)
                clear hown hgr
                refine hKK.out _ _ (HK.out _ B33.out) (fun hSS => ?_)
                clear hKK K
                try simp only [Act.put, List.setIfInBounds_toArray, List.set_cons_zero, List.set_cons_succ]
                refine wpAnyH_take (i := 9) (oi := ⟨some 58, _, _, _, _, _⟩) (v := .agg #[.int .i64 n, .slice a33 (Z ++ [(p : Int)]).length c33]) rfl (by kernel_rfl) (by kernel_rfl) (by kernel_rfl) (fun _ _ _ h => h) (Or.inl ⟨by rfl, fun W hSw => by go_simp⟩) (by assumption) ?_
                try simp only [Act.put, List.setIfInBounds_toArray, List.set_cons_zero, List.set_cons_succ]
                obtain ⟨_, _, x2, x3⟩ := X33.out.facts
                have xl := X33.out.lt
                refine wpAnyH_ready (rs := [11]) (by kernel_rfl) (by simp) ?_
                refine AllReadyH.cons rfl (fun K hKK => ?_) AllReadyH.nil
                go_simp
                refine hKK.out _ _ (HK.out _ ((B33.out.setCell (by show w3.heap.size ≤ v29.heap.size; omega) _).setCell (by show w3.heap.size ≤ v29.heap.size; omega) _)) (fun hSS => ?_)
                clear hKK K x2 x3 xl
                try simp only [Act.put, List.setIfInBounds_toArray, List.set_cons_zero, List.set_cons_succ]
                refine wpAnyH_done (by kernel_rfl) ?_ _
                go_wp2_with fail
                go_meet
                exact ⟨v29.heap.size, a33, c33, rfl, box_two X33.out _ _, (by have h9 := own_past Q33.out X33.out (.int .i64 n) (.slice a33 (Z.length + 1) c33); rw [List.length_append] at h9; exact h9), (B33.out.setCell (by show w3.heap.size ≤ v29.heap.size; omega) _).setCell (by show w3.heap.size ≤ v29.heap.size; omega) _, by omega⟩
            · skip
              go_simp
              obtain ⟨v34, hv34⟩ : ∃ V, V = v28.alloc (.cells #[.int .i64 0, .slice none 0 0] 28) := ⟨_, rfl⟩
              rw [← hv34]
              have B34 : Hid (Below w3.heap.size w3 v34) := Lib.hid (by rw [hv34]; exact B28.out.alloc (by omega) _)
              have z34 : v28.heap.size < v34.heap.size := by rw [hv34]; simp
              have E34 : Hid (v34.ownsRow w3.heap.size 3 1 (.slice (some ⟨v27.heap.size, 0, none⟩) 0 0) 0 (ints [])) := Lib.hid (by rw [hv34]; exact E28.out.alloc _)
              have P34 : Hid (Boxed v34 v0.heap.size 3 (.int .i64 p)) := Lib.hid (by rw [hv34]; exact P28.out.alloc _)
              have X34 : Hid (Box v34 v28.heap.size (.int .i64 0) (.slice none 0 0) 28) := Lib.hid (by rw [hv34]; exact box_new _ _ _ _)
              clear hv34
              refine hKK.out _ _ (HK.out _ B34.out) (fun hSS => ?_)
              clear hKK K
              try simp only [Act.put, List.setIfInBounds_toArray, List.set_cons_zero, List.set_cons_succ]
              refine wpAnyH_ready (rs := [5]) (by kernel_rfl) (by simp) ?_
              refine AllReadyH.cons rfl (fun K hKK => ?_) AllReadyH.nil
              refine step_app rfl _ _ rfl w3.heap.size (some ⟨v27.heap.size, 0, none⟩) 0 [] a Z.length cap Z v34 E34.out (HIZW.out _ B34.out) (by simp) (by omega) (by omega) rfl rfl ?_
              intro a35 c35 v35 hown hgr
              rw [List.nil_append] at hown ⊢
              have z35 : v34.heap.size ≤ v35.heap.size := hgr.size
              have B35 : Hid (Below w3.heap.size w3 v35) := Lib.hid (B34.out.grown hgr (by omega) (fun x hx => (E34.out.lt x hx).1))
              have A35 := Lib.hid hown
              have P35 : Hid (Boxed v35 v0.heap.size 3 (.int .i64 p)) := Lib.hid (P34.out.kept hgr (fun e => by have := Option.some.inj e; simp at this; omega))
              have X35 : Hid (Box v35 v28.heap.size (.int .i64 0) (.slice none 0 0) 28) := Lib.hid (box_row X34.out (by decide) E34.out hgr)
              clear hown hgr
              refine hKK.out _ _ (HK.out _ B35.out) (fun hSS => ?_)
              clear hKK K
              try simp only [Act.put, List.setIfInBounds_toArray, List.set_cons_zero, List.set_cons_succ]
              refine wpAnyH_ready (rs := [8]) (by kernel_rfl) (by simp) ?_
              refine AllReadyH.cons rfl (fun K hKK => ?_) AllReadyH.nil
              refine step_app rfl _ _ rfl w3.heap.size a35 c35 Z (some ⟨v0.heap.size, 0, none⟩) 1 1 [(p : Int)] v35 A35.out (ints_box P35.out (by omega)) (by omega) (by omega) (by omega) rfl rfl ?_
              intro a36 c36 v36 hown hgr
              have z36 : v35.heap.size ≤ v36.heap.size := hgr.size
              have B36 : Hid (Below w3.heap.size w3 v36) := Lib.hid (B35.out.grown hgr (by omega) (fun x hx => (A35.out.lt x hx).1))
              have Q36 := Lib.hid hown
              have X36 : Hid (Box v36 v28.heap.size (.int .i64 0) (.slice none 0 0) 28) := Lib.hid (box_row X35.out (by decide) A35.out hgr)
              clear hown hgr
              refine hKK.out _ _ (HK.out _ B36.out) (fun hSS => ?_)
              clear hKK K
              try simp only [Act.put, List.setIfInBounds_toArray, List.set_cons_zero, List.set_cons_succ]
              refine wpAnyH_take (i := 9) (oi := ⟨some 58, _, _, _, _, _⟩) (v := .agg #[.int .i64 n, .slice a36 (Z ++ [(p : Int)]).length c36]) rfl (by kernel_rfl) (by kernel_rfl) (by kernel_rfl) (fun _ _ _ h => h) (Or.inl ⟨by rfl, fun W hSw => by go_simp⟩) (by assumption) ?_
              try simp only [Act.put, List.setIfInBounds_toArray, List.set_cons_zero, List.set_cons_succ]
              obtain ⟨_, _, x2, x3⟩ := X36.out.facts
              have xl := X36.out.lt
              refine wpAnyH_ready (rs := [11]) (by kernel_rfl) (by simp) ?_
              refine AllReadyH.cons rfl (fun K hKK => ?_) AllReadyH.nil
              go_simp
              refine hKK.out _ _ (HK.out _ ((B36.out.setCell (by show w3.heap.size ≤ v28.heap.size; omega) _).setCell (by show w3.heap.size ≤ v28.heap.size; omega) _)) (fun hSS => ?_)
              clear hKK K x2 x3 xl
              try simp only [Act.put, List.setIfInBounds_toArray, List.set_cons_zero, List.set_cons_succ]
              refine wpAnyH_done (by kernel_rfl) ?_ _
              go_wp2_with fail
              go_meet
              exact ⟨v28.heap.size, a36, c36, rfl, box_two X36.out _ _, (by have h9 := own_past Q36.out X36.out (.int .i64 n) (.slice a36 (Z.length + 1) c36); rw [List.length_append] at h9; exact h9), (B36.out.setCell (by show w3.heap.size ≤ v28.heap.size; omega) _).setCell (by show w3.heap.size ≤ v28.heap.size; omega) _, by omega⟩
          · skip
            go_simp
            obtain ⟨v37, hv37⟩ : ∃ V, V = v27.alloc (.cells #[.int .i64 0, .slice none 0 0] 28) := ⟨_, rfl⟩
            rw [← hv37]
            have B37 : Hid (Below w3.heap.size w3 v37) := Lib.hid (by rw [hv37]; exact B27.out.alloc (by omega) _)
            have z37 : v27.heap.size < v37.heap.size := by rw [hv37]; simp
            have P37 : Hid (Boxed v37 v0.heap.size 3 (.int .i64 p)) := Lib.hid (by rw [hv37]; exact P27.out.alloc _)
            have X37 : Hid (Box v37 v27.heap.size (.int .i64 0) (.slice none 0 0) 28) := Lib.hid (by rw [hv37]; exact box_new _ _ _ _)
            clear hv37
            refine hKK.out _ _ (HK.out _ B37.out) (fun hSS => ?_)
            clear hKK K
            try simp only [Act.put, List.setIfInBounds_toArray, List.set_cons_zero, List.set_cons_succ]
            refine wpAnyH_ready (rs := [2]) (by kernel_rfl) (by simp) ?_
            refine AllReadyH.cons rfl (fun K hKK => ?_) AllReadyH.nil
            go_simp
            obtain ⟨v38, hv38⟩ : ∃ V, V = v37.alloc (.cells #[] 3) := ⟨_, rfl⟩
            rw [← hv38]
            have B38 : Hid (Below w3.heap.size w3 v38) := Lib.hid (by rw [hv38]; exact B37.out.alloc (by omega) _)
            have z38 : v37.heap.size < v38.heap.size := by rw [hv38]; simp
            have P38 : Hid (Boxed v38 v0.heap.size 3 (.int .i64 p)) := Lib.hid (by rw [hv38]; exact P37.out.alloc _)
            have X38 : Hid (Box v38 v27.heap.size (.int .i64 0) (.slice none 0 0) 28) := Lib.hid (by rw [hv38]; exact X37.out.keep (bel1 _ _) X37.out.lt)
            have E38 : Hid (v38.ownsRow w3.heap.size 3 1 (.slice (some ⟨v37.heap.size, 0, none⟩) 0 0) 0 (ints [])) := Lib.hid (by rw [hv38]; exact World.ownsRow_made v37 #[] 0 (by omega) (by unfold maxLen; omega) rfl)
            clear hv38
            refine hKK.out _ _ (HK.out _ B38.out) (fun hSS => ?_)
            clear hKK K
            try simp only [Act.put, List.setIfInBounds_toArray, List.set_cons_zero, List.set_cons_succ]
            refine wpAnyH_ready (rs := [5]) (by kernel_rfl) (by simp) ?_
            refine AllReadyH.cons rfl (fun K hKK => ?_) AllReadyH.nil
            refine step_app rfl _ _ rfl w3.heap.size (some ⟨v37.heap.size, 0, none⟩) 0 [] a Z.length cap Z v38 E38.out (HIZW.out _ B38.out) (by simp) (by omega) (by omega) rfl rfl ?_
            intro a39 c39 v39 hown hgr
            rw [List.nil_append] at hown ⊢
            have z39 : v38.heap.size ≤ v39.heap.size := hgr.size
            have B39 : Hid (Below w3.heap.size w3 v39) := Lib.hid (B38.out.grown hgr (by omega) (fun x hx => (E38.out.lt x hx).1))
            have A39 := Lib.hid hown
            have P39 : Hid (Boxed v39 v0.heap.size 3 (.int .i64 p)) := Lib.hid (P38.out.kept hgr (fun e => by have := Option.some.inj e; simp at this; omega))
            have X39 : Hid (Box v39 v27.heap.size (.int .i64 0) (.slice none 0 0) 28) := Lib.hid (box_row X38.out (by decide) E38.out hgr)
            clear hown hgr
            refine hKK.out _ _ (HK.out _ B39.out) (fun hSS => ?_)
            clear hKK K
            try simp only [Act.put, List.setIfInBounds_toArray, List.set_cons_zero, List.set_cons_succ]
            refine wpAnyH_ready (rs := [8]) (by kernel_rfl) (by simp) ?_
            refine AllReadyH.cons rfl (fun K hKK => ?_) AllReadyH.nil
            refine step_app rfl _ _ rfl w3.heap.size a39 c39 Z (some ⟨v0.heap.size, 0, none⟩) 1 1 [(p : Int)] v39 A39.out (ints_box P39.out (by omega)) (by omega) (by omega) (by omega) rfl rfl ?_
            intro a40 c40 v40 hown hgr
            have z40 : v39.heap.size ≤ v40.heap.size := hgr.size
            have B40 : Hid (Below w3.heap.size w3 v40) := Lib.hid (B39.out.grown hgr (by omega) (fun x hx => (A39.out.lt x hx).1))
            have Q40 := Lib.hid hown
            have X40 : Hid (Box v40 v27.heap.size (.int .i64 0) (.slice none 0 0) 28) := Lib.hid (box_row X39.out (by decide) A39.out hgr)
            clear hown hgr
            refine hKK.out _ _ (HK.out _ B40.out) (fun hSS => ?_)
            clear hKK K
            try simp only [Act.put, List.setIfInBounds_toArray, List.set_cons_zero, List.set_cons_succ]
            refine wpAnyH_take (i := 9) (oi := ⟨some 58, _, _, _, _, _⟩) (v := .agg #[.int .i64 n, .slice a40 (Z ++ [(p : Int)]).length c40]) rfl (by kernel_rfl) (by kernel_rfl) (by kernel_rfl) (fun _ _ _ h => h) (Or.inl ⟨by rfl, fun W hSw => by go_simp⟩) (by assumption) ?_
            try simp only [Act.put, List.setIfInBounds_toArray, List.set_cons_zero, List.set_cons_succ]
            obtain ⟨_, _, x2, x3⟩ := X40.out.facts
            have xl := X40.out.lt
            refine wpAnyH_ready (rs := [11]) (by kernel_rfl) (by simp) ?_
            refine AllReadyH.cons rfl (fun K hKK => ?_) AllReadyH.nil
            go_simp
            refine hKK.out _ _ (HK.out _ ((B40.out.setCell (by show w3.heap.size ≤ v27.heap.size; omega) _).setCell (by show w3.heap.size ≤ v27.heap.size; omega) _)) (fun hSS => ?_)
            clear hKK K x2 x3 xl
            try simp only [Act.put, List.setIfInBounds_toArray, List.set_cons_zero, List.set_cons_succ]
            refine wpAnyH_done (by kernel_rfl) ?_ _
            go_wp2_with fail
            go_meet
            exact ⟨v27.heap.size, a40, c40, rfl, box_two X40.out _ _, (by have h9 := own_past Q40.out X40.out (.int .i64 n) (.slice a40 (Z.length + 1) c40); rw [List.length_append] at h9; exact h9), (B40.out.setCell (by show w3.heap.size ≤ v27.heap.size; omega) _).setCell (by show w3.heap.size ≤ v27.heap.size; omega) _, by omega⟩
        · skip
          go_simp
          obtain ⟨v41, hv41⟩ : ∃ V, V = v0.alloc (.cells #[.int .i64 0, .slice none 0 0] 28) := ⟨_, rfl⟩
          rw [← hv41]
          have B41 : Hid (Below w3.heap.size w3 v41) := Lib.hid (by rw [hv41]; exact B0.out.alloc (by omega) _)
          have z41 : v0.heap.size < v41.heap.size := by rw [hv41]; simp
          have X41 : Hid (Box v41 v0.heap.size (.int .i64 0) (.slice none 0 0) 28) := Lib.hid (by rw [hv41]; exact box_new _ _ _ _)
          clear hv41
          refine hKK.out _ _ (HK.out _ B41.out) (fun hSS => ?_)
          clear hKK K
          try simp only [Act.put, List.setIfInBounds_toArray, List.set_cons_zero, List.set_cons_succ]
          refine wpAnyH_ready (rs := [2, 7]) (by kernel_rfl) (by simp) ?_
          refine AllReadyH.cons rfl (fun K hKK => ?_) (AllReadyH.cons rfl (fun K hKK => ?_) AllReadyH.nil)
          · skip
            go_simp
            obtain ⟨v42, hv42⟩ : ∃ V, V = v41.alloc (.cells #[] 3) := ⟨_, rfl⟩
            rw [← hv42]
            have B42 : Hid (Below w3.heap.size w3 v42) := Lib.hid (by rw [hv42]; exact B41.out.alloc (by omega) _)
            have z42 : v41.heap.size < v42.heap.size := by rw [hv42]; simp
            have X42 : Hid (Box v42 v0.heap.size (.int .i64 0) (.slice none 0 0) 28) := Lib.hid (by rw [hv42]; exact X41.out.keep (bel1 _ _) X41.out.lt)
            have E42 : Hid (v42.ownsRow w3.heap.size 3 1 (.slice (some ⟨v41.heap.size, 0, none⟩) 0 0) 0 (ints [])) := Lib.hid (by rw [hv42]; exact World.ownsRow_made v41 #[] 0 (by omega) (by unfold maxLen; omega) rfl)
            clear hv42
            refine hKK.out _ _ (HK.out _ B42.out) (fun hSS => ?_)
            clear hKK K
            try simp only [Act.put, List.setIfInBounds_toArray, List.set_cons_zero, List.set_cons_succ]
            refine wpAnyH_ready (rs := [5, 7]) (by kernel_rfl) (by simp) ?_
            refine AllReadyH.cons rfl (fun K hKK => ?_) (AllReadyH.cons rfl (fun K hKK => ?_) AllReadyH.nil)
            · skip
              refine step_app rfl _ _ rfl w3.heap.size (some ⟨v41.heap.size, 0, none⟩) 0 [] a Z.length cap Z v42 E42.out (HIZW.out _ B42.out) (by simp) (by omega) (by omega) rfl rfl ?_
              intro a43 c43 v43 hown hgr
              rw [List.nil_append] at hown ⊢
              have z43 : v42.heap.size ≤ v43.heap.size := hgr.size
              have B43 : Hid (Below w3.heap.size w3 v43) := Lib.hid (B42.out.grown hgr (by omega) (fun x hx => (E42.out.lt x hx).1))
              have A43 := Lib.hid hown
              have X43 : Hid (Box v43 v0.heap.size (.int .i64 0) (.slice none 0 0) 28) := Lib.hid (box_row X42.out (by decide) E42.out hgr)
              clear hown hgr
              refine hKK.out _ _ (HK.out _ B43.out) (fun hSS => ?_)
              clear hKK K
              try simp only [Act.put, List.setIfInBounds_toArray, List.set_cons_zero, List.set_cons_succ]
              refine wpAnyH_ready (rs := [7]) (by kernel_rfl) (by simp) ?_
              refine AllReadyH.cons rfl (fun K hKK => ?_) AllReadyH.nil
              go_simp
              obtain ⟨v44, hv44⟩ : ∃ V, V = v43.alloc (.cells #[.int .i64 p] 3) := ⟨_, rfl⟩
              rw [← hv44]
              have B44 : Hid (Below w3.heap.size w3 v44) := Lib.hid (by rw [hv44]; exact B43.out.alloc (by omega) _)
              have z44 : v43.heap.size < v44.heap.size := by rw [hv44]; simp
              have A44 : Hid (v44.ownsRow w3.heap.size 3 1 (.slice a43 Z.length c43) Z.length (ints Z)) := Lib.hid (by rw [hv44]; exact A43.out.alloc _)
              have X44 : Hid (Box v44 v0.heap.size (.int .i64 0) (.slice none 0 0) 28) := Lib.hid (by rw [hv44]; exact X43.out.keep (bel1 _ _) X43.out.lt)
              have P44 : Hid (Boxed v44 v43.heap.size 3 (.int .i64 p)) := Lib.hid (by rw [hv44]; exact Boxed.new _ _ _)
              clear hv44
              refine hKK.out _ _ (HK.out _ B44.out) (fun hSS => ?_)
              clear hKK K
              try simp only [Act.put, List.setIfInBounds_toArray, List.set_cons_zero, List.set_cons_succ]
              refine wpAnyH_ready (rs := [8]) (by kernel_rfl) (by simp) ?_
              refine AllReadyH.cons rfl (fun K hKK => ?_) AllReadyH.nil
              refine step_app rfl _ _ rfl w3.heap.size a43 c43 Z (some ⟨v43.heap.size, 0, none⟩) 1 1 [(p : Int)] v44 A44.out (ints_box P44.out (by omega)) (by omega) (by omega) (by omega) rfl rfl ?_
              intro a45 c45 v45 hown hgr
              have z45 : v44.heap.size ≤ v45.heap.size := hgr.size
              have B45 : Hid (Below w3.heap.size w3 v45) := Lib.hid (B44.out.grown hgr (by omega) (fun x hx => (A44.out.lt x hx).1))
              have Q45 := Lib.hid hown
              have X45 : Hid (Box v45 v0.heap.size (.int .i64 0) (.slice none 0 0) 28) := Lib.hid (box_row X44.out (by decide) A44.out hgr)
              clear hown hgr
              refine hKK.out _ _ (HK.out _ B45.out) (fun hSS => ?_)
              clear hKK K
              try simp only [Act.put, List.setIfInBounds_toArray, List.set_cons_zero, List.set_cons_succ]
              refine wpAnyH_take (i := 9) (oi := ⟨some 58, _, _, _, _, _⟩) (v := .agg #[.int .i64 n, .slice a45 (Z ++ [(p : Int)]).length c45]) rfl (by kernel_rfl) (by kernel_rfl) (by kernel_rfl) (fun _ _ _ h => h) (Or.inl ⟨by rfl, fun W hSw => by go_simp⟩) (by assumption) ?_
              try simp only [Act.put, List.setIfInBounds_toArray, List.set_cons_zero, List.set_cons_succ]
              obtain ⟨_, _, x2, x3⟩ := X45.out.facts
              have xl := X45.out.lt
              refine wpAnyH_ready (rs := [11]) (by kernel_rfl) (by simp) ?_
              refine AllReadyH.cons rfl (fun K hKK => ?_) AllReadyH.nil
              go_simp
              refine hKK.out _ _ (HK.out _ ((B45.out.setCell (by show w3.heap.size ≤ v0.heap.size; omega) _).setCell (by show w3.heap.size ≤ v0.heap.size; omega) _)) (fun hSS => ?_)
              clear hKK K x2 x3 xl
              try simp only [Act.put, List.setIfInBounds_toArray, List.set_cons_zero, List.set_cons_succ]
              refine wpAnyH_done (by kernel_rfl) ?_ _
              go_wp2_with fail
              go_meet
              exact ⟨v0.heap.size, a45, c45, rfl, box_two X45.out _ _, (by have h9 := own_past Q45.out X45.out (.int .i64 n) (.slice a45 (Z.length + 1) c45); rw [List.length_append] at h9; exact h9), (B45.out.setCell (by show w3.heap.size ≤ v0.heap.size; omega) _).setCell (by show w3.heap.size ≤ v0.heap.size; omega) _, by omega⟩
            · skip
              go_simp
              obtain ⟨v46, hv46⟩ : ∃ V, V = v42.alloc (.cells #[.int .i64 p] 3) := ⟨_, rfl⟩
              rw [← hv46]
              have B46 : Hid (Below w3.heap.size w3 v46) := Lib.hid (by rw [hv46]; exact B42.out.alloc (by omega) _)
              have z46 : v42.heap.size < v46.heap.size := by rw [hv46]; simp
              have E46 : Hid (v46.ownsRow w3.heap.size 3 1 (.slice (some ⟨v41.heap.size, 0, none⟩) 0 0) 0 (ints [])) := Lib.hid (by rw [hv46]; exact E42.out.alloc _)
              have X46 : Hid (Box v46 v0.heap.size (.int .i64 0) (.slice none 0 0) 28) := Lib.hid (by rw [hv46]; exact X42.out.keep (bel1 _ _) X42.out.lt)
              have P46 : Hid (Boxed v46 v42.heap.size 3 (.int .i64 p)) := Lib.hid (by rw [hv46]; exact Boxed.new _ _ _)
              clear hv46
              refine hKK.out _ _ (HK.out _ B46.out) (fun hSS => ?_)
              clear hKK K
              try simp only [Act.put, List.setIfInBounds_toArray, List.set_cons_zero, List.set_cons_succ]
              refine wpAnyH_ready (rs := [5]) (by kernel_rfl) (by simp) ?_
              refine AllReadyH.cons rfl (fun K hKK => ?_) AllReadyH.nil
              refine step_app rfl _ _ rfl w3.heap.size (some ⟨v41.heap.size, 0, none⟩) 0 [] a Z.length cap Z v46 E46.out (HIZW.out _ B46.out) (by simp) (by omega) (by omega) rfl rfl ?_
              intro a47 c47 v47 hown hgr
              rw [List.nil_append] at hown ⊢
              have z47 : v46.heap.size ≤ v47.heap.size := hgr.size
              have B47 : Hid (Below w3.heap.size w3 v47) := Lib.hid (B46.out.grown hgr (by omega) (fun x hx => (E46.out.lt x hx).1))
              have A47 := Lib.hid hown
              have P47 : Hid (Boxed v47 v42.heap.size 3 (.int .i64 p)) := Lib.hid (P46.out.kept hgr (fun e => by have := Option.some.inj e; simp at this; omega))
              have X47 : Hid (Box v47 v0.heap.size (.int .i64 0) (.slice none 0 0) 28) := Lib.hid (box_row X46.out (by decide) E46.out hgr)
              clear hown hgr
              refine hKK.out _ _ (HK.out _ B47.out) (fun hSS => ?_)
              clear hKK K
              try simp only [Act.put, List.setIfInBounds_toArray, List.set_cons_zero, List.set_cons_succ]
              refine wpAnyH_ready (rs := [8]) (by kernel_rfl) (by simp) ?_
              refine AllReadyH.cons rfl (fun K hKK => ?_) AllReadyH.nil
              refine step_app rfl _ _ rfl w3.heap.size a47 c47 Z (some ⟨v42.heap.size, 0, none⟩) 1 1 [(p : Int)] v47 A47.out (ints_box P47.out (by omega)) (by omega) (by omega) (by omega) rfl rfl ?_
              intro a48 c48 v48 hown hgr
              have z48 : v47.heap.size ≤ v48.heap.size := hgr.size
              have B48 : Hid (Below w3.heap.size w3 v48) := Lib.hid (B47.out.grown hgr (by omega) (fun x hx => (A47.out.lt x hx).1))
              have Q48 := Lib.hid hown
              have X48 : Hid (Box v48 v0.heap.size (.int .i64 0) (.slice none 0 0) 28) := Lib.hid (box_row X47.out (by decide) A47.out hgr)
              clear hown hgr
              refine hKK.out _ _ (HK.out _ B48.out) (fun hSS => ?_)
              clear hKK K
              try simp only [Act.put, List.setIfInBounds_toArray, List.set_cons_zero, List.set_cons_succ]
              refine wpAnyH_take (i := 9) (oi := ⟨some 58, _, _, _, _, _⟩) (v := .agg #[.int .i64 n, .slice a48 (Z ++ [(p : Int)]).length c48]) rfl (by kernel_rfl) (by kernel_rfl) (by kernel_rfl) (fun _ _ _ h => h) (Or.inl ⟨by rfl, fun W hSw => by go_simp⟩) (by assumption) ?_
              try simp only [Act.put, List.setIfInBounds_toArray, List.set_cons_zero, List.set_cons_succ]
              obtain ⟨_, _, x2, x3⟩ := X48.out.facts
              have xl := X48.out.lt
              refine wpAnyH_ready (rs := [11]) (by kernel_rfl) (by simp) ?_
              refine AllReadyH.cons rfl (fun K hKK => ?_) AllReadyH.nil
              go_simp
              refine hKK.out _ _ (HK.out _ ((B48.out.setCell (by show w3.heap.size ≤ v0.heap.size; omega) _).setCell (by show w3.heap.size ≤ v0.heap.size; omega) _)) (fun hSS => ?_)
              clear hKK K x2 x3 xl
              try simp only [Act.put, List.setIfInBounds_toArray, List.set_cons_zero, List.set_cons_succ]
              refine wpAnyH_done (by kernel_rfl) ?_ _
              go_wp2_with fail
              go_meet
              exact ⟨v0.heap.size, a48, c48, rfl, box_two X48.out _ _, (by have h9 := own_past Q48.out X48.out (.int .i64 n) (.slice a48 (Z.length + 1) c48); rw [List.length_append] at h9; exact h9), (B48.out.setCell (by show w3.heap.size ≤ v0.heap.size; omega) _).setCell (by show w3.heap.size ≤ v0.heap.size; omega) _, by omega⟩
          · skip
            go_simp
            obtain ⟨v49, hv49⟩ : ∃ V, V = v41.alloc (.cells #[.int .i64 p] 3) := ⟨_, rfl⟩
            rw [← hv49]
            have B49 : Hid (Below w3.heap.size w3 v49) := Lib.hid (by rw [hv49]; exact B41.out.alloc (by omega) _)
            have z49 : v41.heap.size < v49.heap.size := by rw [hv49]; simp
            have X49 : Hid (Box v49 v0.heap.size (.int .i64 0) (.slice none 0 0) 28) := Lib.hid (by rw [hv49]; exact X41.out.keep (bel1 _ _) X41.out.lt)
            have P49 : Hid (Boxed v49 v41.heap.size 3 (.int .i64 p)) := Lib.hid (by rw [hv49]; exact Boxed.new _ _ _)
            clear hv49
            refine hKK.out _ _ (HK.out _ B49.out) (fun hSS => ?_)
            clear hKK K
            try simp only [Act.put, List.setIfInBounds_toArray, List.set_cons_zero, List.set_cons_succ]
            refine wpAnyH_ready (rs := [2]) (by kernel_rfl) (by simp) ?_
            refine AllReadyH.cons rfl (fun K hKK => ?_) AllReadyH.nil
            go_simp
            obtain ⟨v50, hv50⟩ : ∃ V, V = v49.alloc (.cells #[] 3) := ⟨_, rfl⟩
            rw [← hv50]
            have B50 : Hid (Below w3.heap.size w3 v50) := Lib.hid (by rw [hv50]; exact B49.out.alloc (by omega) _)
            have z50 : v49.heap.size < v50.heap.size := by rw [hv50]; simp
            have P50 : Hid (Boxed v50 v41.heap.size 3 (.int .i64 p)) := Lib.hid (by rw [hv50]; exact P49.out.alloc _)
            have X50 : Hid (Box v50 v0.heap.size (.int .i64 0) (.slice none 0 0) 28) := Lib.hid (by rw [hv50]; exact X49.out.keep (bel1 _ _) X49.out.lt)
            have E50 : Hid (v50.ownsRow w3.heap.size 3 1 (.slice (some ⟨v49.heap.size, 0, none⟩) 0 0) 0 (ints [])) := Lib.hid (by rw [hv50]; exact World.ownsRow_made v49 #[] 0 (by omega) (by unfold maxLen; omega) rfl)
            clear hv50
            refine hKK.out _ _ (HK.out _ B50.out) (fun hSS => ?_)
            clear hKK K
            try simp only [Act.put, List.setIfInBounds_toArray, List.set_cons_zero, List.set_cons_succ]
            refine wpAnyH_ready (rs := [5]) (by kernel_rfl) (by simp) ?_
            refine AllReadyH.cons rfl (fun K hKK => ?_) AllReadyH.nil
            refine step_app rfl _ _ rfl w3.heap.size (some ⟨v49.heap.size, 0, none⟩) 0 [] a Z.length cap Z v50 E50.out (HIZW.out _ B50.out) (by simp) (by omega) (by omega) rfl rfl ?_
            intro a51 c51 v51 hown hgr
            rw [List.nil_append] at hown ⊢
            have z51 : v50.heap.size ≤ v51.heap.size := hgr.size
            have B51 : Hid (Below w3.heap.size w3 v51) := Lib.hid (B50.out.grown hgr (by omega) (fun x hx => (E50.out.lt x hx).1))
            have A51 := Lib.hid hown
            have P51 : Hid (Boxed v51 v41.heap.size 3 (.int .i64 p)) := Lib.hid (P50.out.kept hgr (fun e => by have := Option.some.inj e; simp at this; omega))
            have X51 : Hid (Box v51 v0.heap.size (.int .i64 0) (.slice none 0 0) 28) := Lib.hid (box_row X50.out (by decide) E50.out hgr)
            clear hown hgr
            refine hKK.out _ _ (HK.out _ B51.out) (fun hSS => ?_)
            clear hKK K
            try simp only [Act.put, List.setIfInBounds_toArray, List.set_cons_zero, List.set_cons_succ]
            refine wpAnyH_ready (rs := [8]) (by kernel_rfl) (by simp) ?_
            refine AllReadyH.cons rfl (fun K hKK => ?_) AllReadyH.nil
            refine step_app rfl _ _ rfl w3.heap.size a51 c51 Z (some ⟨v41.heap.size, 0, none⟩) 1 1 [(p : Int)] v51 A51.out (ints_box P51.out (by omega)) (by omega) (by omega) (by omega) rfl rfl ?_
            intro a52 c52 v52 hown hgr
            have z52 : v51.heap.size ≤ v52.heap.size := hgr.size
            have B52 : Hid (Below w3.heap.size w3 v52) := Lib.hid (B51.out.grown hgr (by omega) (fun x hx => (A51.out.lt x hx).1))
            have Q52 := Lib.hid hown
            have X52 : Hid (Box v52 v0.heap.size (.int .i64 0) (.slice none 0 0) 28) := Lib.hid (box_row X51.out (by decide) A51.out hgr)
            clear hown hgr
            refine hKK.out _ _ (HK.out _ B52.out) (fun hSS => ?_)
            clear hKK K
            try simp only [Act.put, List.setIfInBounds_toArray, List.set_cons_zero, List.set_cons_succ]
            refine wpAnyH_take (i := 9) (oi := ⟨some 58, _, _, _, _, _⟩) (v := .agg #[.int .i64 n, .slice a52 (Z ++ [(p : Int)]).length c52]) rfl (by kernel_rfl) (by kernel_rfl) (by kernel_rfl) (fun _ _ _ h => h) (Or.inl ⟨by rfl, fun W hSw => by go_simp⟩) (by assumption) ?_
            try simp only [Act.put, List.setIfInBounds_toArray, List.set_cons_zero, List.set_cons_succ]
            obtain ⟨_, _, x2, x3⟩ := X52.out.facts
            have xl := X52.out.lt
            refine wpAnyH_ready (rs := [11]) (by kernel_rfl) (by simp) ?_
            refine AllReadyH.cons rfl (fun K hKK => ?_) AllReadyH.nil
            go_simp
            refine hKK.out _ _ (HK.out _ ((B52.out.setCell (by show w3.heap.size ≤ v0.heap.size; omega) _).setCell (by show w3.heap.size ≤ v0.heap.size; omega) _)) (fun hSS => ?_)
            clear hKK K x2 x3 xl
            try simp only [Act.put, List.setIfInBounds_toArray, List.set_cons_zero, List.set_cons_succ]
            refine wpAnyH_done (by kernel_rfl) ?_ _
            go_wp2_with fail
            go_meet
            exact ⟨v0.heap.size, a52, c52, rfl, box_two X52.out _ _, (by have h9 := own_past Q52.out X52.out (.int .i64 n) (.slice a52 (Z.length + 1) c52); rw [List.length_append] at h9; exact h9), (B52.out.setCell (by show w3.heap.size ≤ v0.heap.size; omega) _).setCell (by show w3.heap.size ≤ v0.heap.size; omega) _, by omega⟩
      case rest =>
        obtain ⟨g2, b2, e2, rfl, hbx, hown2, hb4, hg2⟩ := hcut
        obtain ⟨w4, rfl⟩ : ∃ w4, w4 = wc := ⟨_, rfl⟩
        have HO4 := Lib.hid hown2
        have HX4 := Lib.hid hbx
        have HB4 := Lib.hid hb4
        have HA4 := Lib.hid (HA3.out.keep hb4)
        have HT4 := Lib.hid (HT3.out.keep hb4)
        have hz4 := hb4.size
        have hgl := hbx.lt
        clear hown2 hbx hb4 s0 s1 s2 t0 t1 t2
        obtain ⟨s0, s1, s2⟩ := HA4.out
        obtain ⟨t0, t1, t2⟩ := HT4.out
        obtain ⟨x0, x1, x2, x3⟩ := HX4.out.facts
        have hlz : (Z ++ [(p : Int)]).length = Z.length + 1 := by simp
        have HOKZ := Lib.hid (ok_snoc HIN.out.ok HLOW.out (show p < n by omega))
        have HI4 : Hid (IntsAt w4 b2 (Z.length + 1) (Z ++ [(p : Int)])) := Lib.hid (intsAt_own HO4.out (ok_int'' HOKZ.out))
        go_wp2_with fail
        refine (btw_spec n pa xs.length ca xs n b2 (Z.length + 1) e2 (Z ++ [(p : Int)]) _ ((HXA.out.below HB3.out).below HB4.out) (by omega) HI4.out (by omega) 0 1 (by omega) (by omega) (by omega) (by omega)).mono ?_
        rintro e w5 ⟨rfl, hb5⟩
        rw [dirB_btw]
        have HB5 := Lib.hid (HB4.out.trans (hb5.mono hz4))
        have HA5 := Lib.hid (HA4.out.keep hb5)
        have HT5 := Lib.hid (HT4.out.keep hb5)
        have HX5 := Lib.hid (HX4.out.keep hb5 hgl)
        have HO5 := Lib.hid (own_below HO4.out hb5)
        have HFW5 := Lib.hid (HB3.out.trans (HB5.out.mono (by omega)))
        have hz5 := HB5.out.size
        clear hb5 s0 s1 s2 t0 t1 t2 x0 x1 x2 x3
        obtain ⟨s0, s1, s2⟩ := HA5.out
        obtain ⟨t0, t1, t2⟩ := HT5.out
        obtain ⟨x0, x1, x2, x3⟩ := HX5.out.facts
        by_cases hd : dirC n xs (Z ++ [(p : Int)])
        · have HD : Hid (dirB n xs n (Z ++ [(p : Int)]) = true) := Lib.hid (cB_yes ⟨⟨HX.out, HOKZ.out, rfl⟩, hd⟩)
          have hroom1 : L.length + (fndL n xs m (Z ++ [(p : Int)])).length ≤ 5000 := by
            have h3 := hroom
            rw [HFL.out, if_pos hd, List.length_append] at h3
            omega
          have HIN1 : Hid (FndIn n xs pa lo true (fndL n xs m (Z ++ [(p : Int)])) (Z ++ [(p : Int)]) b2 e2 (.slice av L.length cv) L w3 w5) := Lib.hid {
            hx := (HXA.out.below HFW5.out), offx := HIN.out.offx
            hz := by rw [hlz]; exact intsAt_own HO5.out (ok_int'' HOKZ.out)
            offz := fun _ b off e => by
              subst e
              intro q
              have h1 := (HO5.out.lt b (by
                rcases (intsAt_own HO5.out (ok_int'' HOKZ.out)).2.2 (by omega) with ⟨b', off', e', _, _⟩
                obtain ⟨_, a', c', hv, hg⟩ := own_shape HO5.out
                obtain ⟨g', hg', _⟩ := hg (by omega)
                simp at hv
                rw [← hv.1] at hg'
                simp at hg'
                simp [Value.ownBlock, hg'])).1
              have h2 := (HIT0.out.outer.lt b q).2
              omega
            ok := HOKZ.out, dir := hd, items := HIT0.out.keep HB3.out, below := HB5.out, le := Nat.le_trans (Nat.le_trans HIN.out.le HIN.out.below.size) (by omega), room := hroom1, few := HIN.out.few
            own := fun _ => by rw [hlz]; exact HO5.out }
          have HIH1 := Lib.hid (HIH.out (Z ++ [(p : Int)]) b2 e2 av cv L w3 w5 (by omega) HIN1.out (fun z hz => by
            rcases List.mem_append.1 hz with hz | hz
            · have := HLOW.out z hz; omega
            · rw [List.mem_singleton] at hz; rw [hz]; omega))
          rw [hpm, hlz] at HIH1
          rw [HD.out]
          go_wp2_with fail
          refine (HIH1.out).mono ?_
          rintro e w6 ⟨av6, cv6, L6, rfl, hit6, hv6, hfr6⟩
          have HIT6 := Lib.hid hit6
          have HV6 := Lib.hid hv6
          have hvb : ∀ k, (Value.slice av L.length cv).ownBlock = some k → k < w.heap.size := fun k hk => (HIT0.out.outer.lt k hk).2
          have HA6 := Lib.hid (hfr6.two HA5.out (fun e => by have := hvb _ e; omega))
          have HT6 := Lib.hid (hfr6.two HT5.out (fun e => by have := hvb _ e; omega))
          have FRW6 := Lib.hid ((Fr.of_below (v := .slice av L.length cv) HFW5.out).trans hfr6)
          have IX6 := Lib.hid (FRW6.out.ints HXA.out (fun _ => HIN.out.offx))
          have IZ6 := Lib.hid (FRW6.out.ints HZ0.out HIN.out.offz)
          clear hit6 hv6 hfr6 s0 s1 s2 t0 t1 t2 x0 x1 x2 x3 hvb
          by_cases hp0 : p = 0
          · have HF : Hid (fndL n xs (m + 1) Z = fndL n xs m (Z ++ [(p : Int)])) := Lib.hid (by rw [HFL.out]; rw [if_pos hd]; rw [if_pos hp0]; simp)
            have hpb : ((p : Int) == 0) = true := by rw [hp0]; rfl
            clear hp0
            go_wp2
            go_ret
            exact ⟨av6, cv6, L6, rfl, HIT6.out, HV6.out.trans (by rw [HF.out]), FRW6.out⟩
          · have hpb : ((p : Int) == 0) = false := by rw [beq_eq_false_iff_ne]; omega
            have HF : Hid (fndL n xs (m + 1) Z = fndL n xs m (Z ++ [(p : Int)]) ++ fndL n xs m Z) := Lib.hid (by rw [HFL.out]; rw [if_pos hd]; rw [if_neg hp0])
            have HLEN : L6.length + (fndL n xs m Z).length ≤ 5000 := by
              have h1 := congrArg List.length HV6.out
              have h2 := (resl_len true (vals L) ((fndL n xs m (Z ++ [(p : Int)])).map fun zs => ((n : Int), zs))).1
              have h3 := hroom
              rw [HF.out, List.length_append] at h3
              rw [← h1] at h2
              simp only [vals, List.length_map] at h2
              omega
            have HFEW : true = true → L6.length ≤ 1 := fun ho => by
              have h1 := congrArg List.length HV6.out
              have h2 := (resl_len true (vals L) ((fndL n xs m (Z ++ [(p : Int)])).map fun zs => ((n : Int), zs))).2 ho
              rw [← h1] at h2
              simpa [vals] using h2
            have HIN2 : Hid (FndIn n xs pa lo true (fndL n xs m Z) Z a cap (.slice av6 L6.length cv6) L6 w6 w6) := Lib.hid {
              hx := IX6.out, offx := fun b off e => by
                obtain ⟨b', off', e', hlt, _⟩ := HIN.out.hx.2.2 (by omega)
                rw [e'] at e
                obtain ⟨rfl, rfl⟩ : b' = b ∧ off' = off := by simpa using e
                exact FRW6.out.off hlt (HIN.out.offx b' off' e')
              hz := IZ6.out, offz := fun hp b off e => by
                obtain ⟨b', off', e', hlt, _⟩ := HIN.out.hz.2.2 hp
                rw [e'] at e
                obtain ⟨rfl, rfl⟩ : b' = b ∧ off' = off := by simpa using e
                exact FRW6.out.off hlt (HIN.out.offz hp b' off' e')
              ok := HIN.out.ok, dir := HIN.out.dir, items := HIT6.out, below := Below.refl _ _, le := Nat.le_trans (Nat.le_trans HIN.out.le HIN.out.below.size) FRW6.out.size, room := HLEN, few := HFEW, own := fun h => absurd h HNE.out }
            have HIH2 := Lib.hid (HIH.out Z a cap av6 cv6 L6 w6 w6 (by omega) HIN2.out (fun z hz => by have := HLOW.out z hz; omega))
            rw [hpm] at HIH2
            obtain ⟨s0, s1, s2⟩ := HA6.out
            obtain ⟨t0, t1, t2⟩ := HT6.out
            clear hp0
            go_wp2_with fail
            refine (HIH2.out).mono ?_
            rintro e w9 ⟨av9, cv9, L9, rfl, hit9, hv9, hfr9⟩
            have HIT9 := Lib.hid hit9
            have HFR9 := Lib.hid (FRW6.out.trans hfr9)
            have HV9 : Hid (vals L9 = resl true (vals L) ((fndL n xs (m + 1) Z).map fun zs => ((n : Int), zs))) := Lib.hid (hv9.trans ((congrArg (fun q => resl true q ((fndL n xs m Z).map fun zs => ((n : Int), zs))) HV6.out).trans (by rw [resl_resl, ← List.map_append, HF.out])))
            clear hit9 hv9 hfr9
            go_wp2
            go_ret
            exact ⟨av9, cv9, L9, rfl, HIT9.out, HV9.out, HFR9.out⟩
        · have HD : Hid (dirB n xs n (Z ++ [(p : Int)]) = false) := Lib.hid (cB_no (fun h => hd h.2))
          rw [HD.out]
          have HIT5 := Lib.hid (HIT0.out.keep HFW5.out)
          have HV5 : Hid (vals L = resl true (vals L) (([] : List (List Int)).map fun zs => ((n : Int), zs))) := Lib.hid (resl_nil (fun h => by unfold vals; rw [List.length_map]; exact HIN.out.few h)).symm
          have FRW5 := Lib.hid (Fr.of_below (v := .slice av L.length cv) HFW5.out)
          have IX5 := Lib.hid (HXA.out.below HFW5.out)
          have IZ5 := Lib.hid (HZ0.out.below HFW5.out)
          by_cases hp0 : p = 0
          · have HF : Hid (fndL n xs (m + 1) Z = ([] : List (List Int))) := Lib.hid (by rw [HFL.out]; rw [if_neg hd]; rw [if_pos hp0]; simp)
            have hpb : ((p : Int) == 0) = true := by rw [hp0]; rfl
            clear hp0
            go_wp2
            go_ret
            exact ⟨av, cv, L, rfl, HIT5.out, HV5.out.trans (by rw [HF.out]), FRW5.out⟩
          · have hpb : ((p : Int) == 0) = false := by rw [beq_eq_false_iff_ne]; omega
            have HF : Hid (fndL n xs (m + 1) Z = ([] : List (List Int)) ++ fndL n xs m Z) := Lib.hid (by rw [HFL.out]; rw [if_neg hd]; rw [if_neg hp0])
            have HLEN : L.length + (fndL n xs m Z).length ≤ 5000 := by
              have h1 := congrArg List.length HV5.out
              have h2 := (resl_len true (vals L) ((([] : List (List Int))).map fun zs => ((n : Int), zs))).1
              have h3 := hroom
              rw [HF.out, List.length_append] at h3
              rw [← h1] at h2
              simp only [vals, List.length_map] at h2
              omega
            have HFEW : true = true → L.length ≤ 1 := fun ho => by
              have h1 := congrArg List.length HV5.out
              have h2 := (resl_len true (vals L) ((([] : List (List Int))).map fun zs => ((n : Int), zs))).2 ho
              rw [← h1] at h2
              simpa [vals] using h2
            have HIN2 : Hid (FndIn n xs pa lo true (fndL n xs m Z) Z a cap (.slice av L.length cv) L w5 w5) := Lib.hid {
              hx := IX5.out, offx := fun b off e => by
                obtain ⟨b', off', e', hlt, _⟩ := HIN.out.hx.2.2 (by omega)
                rw [e'] at e
                obtain ⟨rfl, rfl⟩ : b' = b ∧ off' = off := by simpa using e
                exact FRW5.out.off hlt (HIN.out.offx b' off' e')
              hz := IZ5.out, offz := fun hp b off e => by
                obtain ⟨b', off', e', hlt, _⟩ := HIN.out.hz.2.2 hp
                rw [e'] at e
                obtain ⟨rfl, rfl⟩ : b' = b ∧ off' = off := by simpa using e
                exact FRW5.out.off hlt (HIN.out.offz hp b' off' e')
              ok := HIN.out.ok, dir := HIN.out.dir, items := HIT5.out, below := Below.refl _ _, le := Nat.le_trans (Nat.le_trans HIN.out.le HIN.out.below.size) FRW5.out.size, room := HLEN, few := HFEW, own := fun h => absurd h HNE.out }
            have HIH2 := Lib.hid (HIH.out Z a cap av cv L w5 w5 (by omega) HIN2.out (fun z hz => by have := HLOW.out z hz; omega))
            rw [hpm] at HIH2
            obtain ⟨s0, s1, s2⟩ := HA5.out
            obtain ⟨t0, t1, t2⟩ := HT5.out
            clear hp0
            go_wp2_with fail
            refine (HIH2.out).mono ?_
            rintro e w9 ⟨av9, cv9, L9, rfl, hit9, hv9, hfr9⟩
            have HIT9 := Lib.hid hit9
            have HFR9 := Lib.hid (FRW5.out.trans hfr9)
            have HV9 : Hid (vals L9 = resl true (vals L) ((fndL n xs (m + 1) Z).map fun zs => ((n : Int), zs))) := Lib.hid (hv9.trans ((congrArg (fun q => resl true q ((fndL n xs m Z).map fun zs => ((n : Int), zs))) HV5.out).trans (by rw [resl_resl, ← List.map_append, HF.out])))
            clear hit9 hv9 hfr9
            go_wp2
            go_ret
            exact ⟨av9, cv9, L9, rfl, HIT9.out, HV9.out, HFR9.out⟩
end Go.Proofs.Ytgmhdmhnedljcaa.Rhy

/-
  Helpers of the claims beside this text: PartnersOf of the model.
-/
namespace Go.Proofs.Ytgmhdmhnedljcaa.Rhy
open Go.RowKit
set_option linter.unusedVariables false
set_option linter.unusedSimpArgs false
set_option maxRecDepth 100000

def ParC (s : Int) (xs : List Int) : Prop := Ok s xs ∧ s ≤ 12 ∧ 0 < xs.length ∧ s.toNat % xs.length = 0
noncomputable def parZ (s : Int) (xs : List Int) : List (List Int) := @ite _ (ParC s xs) (Classical.propDecidable _) (partL s.toNat xs) []
theorem parZ_yes {s : Int} {xs : List Int} (h : ParC s xs) : parZ s xs = partL s.toNat xs := by simp [parZ, h]
theorem parZ_no {s : Int} {xs : List Int} (h : ¬ ParC s xs) : parZ s xs = [] := by simp [parZ, h]
theorem rs_nil (s : Int) (P : List (List Int)) (hP : P = []) (w w' : World) (hb : Below w.heap.size w w') : RSPost s P w (.returned (.slice none 0 0)) w' := by
  subst hP
  exact ⟨none, 0, [], rfl, items_nil _ _, rfl, hb⟩
theorem part_few {n : Nat} (xs : List Int) (hn : n ≤ 12) : (partL n xs).length ≤ 2048 := by
  unfold partL
  refine Nat.le_trans (List.length_filter_le _ _) ?_
  rw [bars_len]
  exact Nat.le_trans (Nat.pow_le_pow_right (by omega) (show n - 1 ≤ 11 by omega)) (by decide)

set_option maxHeartbeats 1000000 in
theorem par_spec (s : Int) (a : Option Addr) (len cap : Nat) (xs : List Int) (w : World) (h : IntsAt w a len xs) (hm : xs.length ≤ 1048576) (hs1 : -9223372036854775808 ≤ s) (hs2 : s ≤ 9223372036854775807) :
    Calls Try.prog 7 #[rhy s a len cap] w (RSPost s (parZ s xs) w) := by
  have HS := Lib.hid h
  have hl : len ≤ 1048576 := by have := h.1; omega
  have hxl : xs.length = len := h.1
  clear h
  obtain ⟨W0, hW⟩ : ∃ W0, W0 = w.alloc (.cells #[.int .i64 s, .slice a len cap] 28) := ⟨_, rfl⟩
  have HW := Lib.hid hW
  have HB := Lib.hid (show Below w.heap.size w W0 by rw [hW]; exact bel1 w _)
  have HT := Lib.hid (show Two W0 w.heap.size (.int .i64 s) (.slice a len cap) by rw [hW]; exact two_new w _ _ _)
  clear hW
  by_cases ho : Ok s xs
  · have HO := Lib.hid ho
    by_cases h12 : s ≤ 12
    · obtain ⟨n, rfl⟩ : ∃ n : Nat, s = n := ⟨s.toNat, by have := ho.1; omega⟩
      have hn1 : 1 ≤ n := by have := ho.1; omega
      by_cases h0 : 0 < len
      · have hd0 : ((len : Int) == 0) = false := by rw [beq_eq_false_iff_ne]; omega
        have hmod : (n : Int).tmod (len : Int) = ((n % len : Nat) : Int) := by rw [Int.tmod_eq_emod_of_nonneg (by omega)]; simp
        by_cases hdv : n % len = 0
        · have HE : Hid (parZ n xs = partL n xs) := Lib.hid (parZ_yes ⟨ho, h12, by omega, by rw [Int.toNat_natCast, hxl]; exact hdv⟩)
          have HF := Lib.hid (fnd_part ho (by omega) (by rw [hxl]; exact hdv))
          have hmb : (((n % len : Nat) : Int) == 0) = true := by rw [hdv]; rfl
          have HPF := part_few (n := n) xs (by omega)
          have HFA := Lib.hid (fun W0' W1' av cv => fnd_any n xs a cap w.heap.size false ho (by omega) (by rw [hxl]; exact hdv) n [] none 0 av cv [] W0' W1' (Nat.le_refl _))
          clear ho
          go_enter Try.func7, Try.ntmps7
          go_wp2_with fail
          rw [← HW.out]
          refine (ok_yes n a len cap xs _ (HS.out.below HB.out) hl HO.out).mono ?_
          rintro e w1 ⟨rfl, hb1⟩
          have B1 := Lib.hid (HB.out.trans (hb1.mono HB.out.size))
          have T1 := Lib.hid (HT.out.keep hb1)
          obtain ⟨t0, t1, t2⟩ := T1.out
          clear hb1
          have hwz : w.heap.size + 1 ≤ w1.heap.size := T1.out.1
          obtain ⟨w2, hw2⟩ : ∃ w2, w2 = w1.alloc (.cells #[] 28) := ⟨_, rfl⟩
          have HW2 := Lib.hid hw2
          have hit2 : Items w2 w.heap.size (.slice (some ⟨w1.heap.size, 0, none⟩) 0 0) [] := by rw [hw2]; exact items_made w1 (by omega)
          have hb2 : Below w.heap.size w w2 := by rw [hw2]; exact B1.out.trans ((bel1 w1 _).mono B1.out.size)
          have hz2 : w2.heap.size = w1.heap.size + 1 := by rw [hw2]; simp
          have hin : FndIn n xs a w.heap.size false (fndL n xs n []) [] none 0 (.slice (some ⟨w1.heap.size, 0, none⟩) 0 0) [] w2 w2 := {
            hx := by rw [hxl]; exact HS.out.below hb2
            offx := fun b off e => by
              obtain ⟨b', off', e', hlt, _⟩ := HS.out.2.2 h0
              rw [e'] at e
              obtain ⟨rfl, rfl⟩ : b' = b ∧ off' = off := by simpa using e
              simp [Value.ownBlock]
              omega
            hz := ⟨rfl, (fun z hz => by cases hz), fun h => absurd h (by simp)⟩
            offz := fun h => absurd h (by simp)
            ok := ok_of (by have := HO.out.1; omega) (by have := HO.out.1; omega) List.Pairwise.nil (fun z hz => by cases hz)
            dir := dir_none _ _
            items := hit2, below := Below.refl _ _, le := by omega
            room := by rw [HF.out]; simp; omega
            few := fun h => by cases h
            own := fun h => by simp at h; omega }
          have HIN := Lib.hid hin
          have HB2 := Lib.hid hb2
          clear hw2 hit2 hb2 hin
          go_wp2_with fail
          rw [← HW2.out]
          have hcall := HFA.out w2 w2 (some ⟨w1.heap.size, 0, none⟩) 0 HIN.out (fun z hz => by cases hz)
          rw [Nat.sub_self, HF.out, hxl] at hcall
          refine hcall.mono ?_
          rintro e w3 ⟨av, cv, L', rfl, hit, hv, hfr⟩
          have hlen : L'.length = (partL n xs).length := by
            have := congrArg List.length hv
            simpa [vals, resl] using this
          have HIT := Lib.hid hit
          have HV : Hid (vals L' = (partL n xs).map fun zs => ((n : Int), zs)) := Lib.hid (by rw [hv]; simp [vals, resl])
          have HB3 : Hid (Below w.heap.size w w3) := Lib.hid (HB2.out.grown hfr.1 HB2.out.size (fun k hk => by simp [Value.ownBlock] at hk; omega))
          clear hit hv hfr hcall
          go_wp2
          go_ret
          rw [HE.out]
          refine ⟨av, cv, L', by rw [← hlen]; rfl, ?_, HV.out, HB3.out⟩
          rw [← hlen]
          exact HIT.out
        · have HE : Hid (parZ n xs = []) := Lib.hid (parZ_no (fun h => hdv (by have := h.2.2.2; rw [Int.toNat_natCast, hxl] at this; exact this)))
          have hmb : (((n % len : Nat) : Int) == 0) = false := by rw [beq_eq_false_iff_ne]; omega
          clear ho
          go_enter Try.func7, Try.ntmps7
          go_wp2_with fail
          rw [← HW.out]
          refine (ok_yes n a len cap xs _ (HS.out.below HB.out) hl HO.out).mono ?_
          rintro e w1 ⟨rfl, hb1⟩
          have B1 := Lib.hid (HB.out.trans (hb1.mono HB.out.size))
          have T1 := Lib.hid (HT.out.keep hb1)
          obtain ⟨t0, t1, t2⟩ := T1.out
          clear hb1
          go_wp2
          go_ret
          rw [HE.out]
          exact ⟨_, 0, [], rfl, items_made w1 (Nat.le_of_lt T1.out.1), rfl, B1.out.trans ((bel1 w1 _).mono B1.out.size)⟩
      · have HE : Hid (parZ n xs = []) := Lib.hid (parZ_no (fun h => by have := h.2.2.1; omega))
        have hl0 : len = 0 := by omega
        have hd0 : ((len : Int) == 0) = true := by rw [hl0]; rfl
        clear ho hl0
        go_enter Try.func7, Try.ntmps7
        go_wp2_with fail
        rw [← HW.out]
        refine (ok_yes n a len cap xs _ (HS.out.below HB.out) hl HO.out).mono ?_
        rintro e w1 ⟨rfl, hb1⟩
        have B1 := Lib.hid (HB.out.trans (hb1.mono HB.out.size))
        have T1 := Lib.hid (HT.out.keep hb1)
        obtain ⟨t0, t1, t2⟩ := T1.out
        clear hb1
        go_wp2
        go_ret
        rw [HE.out]
        exact ⟨_, 0, [], rfl, items_made w1 (Nat.le_of_lt T1.out.1), rfl, B1.out.trans ((bel1 w1 _).mono B1.out.size)⟩
    · have HE : Hid (parZ s xs = []) := Lib.hid (parZ_no (fun h => h12 h.2.1))
      have hs12 : decide (12 < s) = true := by simp; omega
      clear ho
      go_enter Try.func7, Try.ntmps7
      go_wp2_with fail
      rw [← HW.out]
      refine (ok_yes s a len cap xs _ (HS.out.below HB.out) hl HO.out).mono ?_
      rintro e w1 ⟨rfl, hb1⟩
      have B1 := Lib.hid (HB.out.trans (hb1.mono HB.out.size))
      have T1 := Lib.hid (HT.out.keep hb1)
      obtain ⟨t0, t1, t2⟩ := T1.out
      clear hb1
      go_wp2
      go_ret
      exact rs_nil _ _ HE.out _ _ B1.out
  · have HE : Hid (parZ s xs = []) := Lib.hid (parZ_no (fun h => ho h.1))
    have HO := Lib.hid ho
    clear ho
    go_enter Try.func7, Try.ntmps7
    go_wp2_with fail
    rw [← HW.out]
    refine (ok_no s a len cap xs _ (HS.out.below HB.out) hl HO.out).mono ?_
    rintro e w1 ⟨rfl, hb1⟩
    have B1 := Lib.hid (HB.out.trans (hb1.mono HB.out.size))
    have T1 := Lib.hid (HT.out.keep hb1)
    obtain ⟨t0, t1, t2⟩ := T1.out
    clear hb1
    go_wp2
    go_ret
    exact rs_nil _ _ HE.out _ _ B1.out
end Go.Proofs.Ytgmhdmhnedljcaa.Rhy

/-
  Helpers of the claims beside this text: CountPartners of the model; what the model's partners are at a valid rhythm.
-/
namespace Go.Proofs.Ytgmhdmhnedljcaa.Rhy
open Go.RowKit
set_option linter.unusedVariables false
set_option linter.unusedSimpArgs false
set_option maxRecDepth 100000

theorem part_none {n : Nat} {xs : List Int} (hn : 1 ≤ n) (h : ¬ (0 < xs.length ∧ n % xs.length = 0)) : partL n xs = [] := by
  unfold partL
  rw [List.filter_eq_nil_iff]
  intro ys _ hy
  have h1 := ((tile_len hn).1 (by simpa using hy)).2
  refine h ⟨?_, ?_⟩
  · rcases Nat.eq_zero_or_pos xs.length with h2 | h2
    · rw [h2] at h1; simp at h1; omega
    · exact h2
  · rw [← h1]; exact Nat.mul_mod_right _ _
theorem par_tie {s : Int} {xs : List Int} (ho : Ok s xs) (h12 : s ≤ 12) : parZ s xs = partL s.toNat xs := by
  by_cases hc : 0 < xs.length ∧ s.toNat % xs.length = 0
  · exact parZ_yes ⟨ho, h12, hc.1, hc.2⟩
  · rw [parZ_no (fun h => hc ⟨h.2.2.1, h.2.2.2⟩), part_none (by have := ho.1; omega) hc]
noncomputable def couV (s : Int) (xs : List Int) : Int := @ite _ (Ok s xs ∧ s ≤ 12) (Classical.propDecidable _) ((partL s.toNat xs).length : Int) (-1)
theorem couV_yes {s : Int} {xs : List Int} (h : Ok s xs ∧ s ≤ 12) : couV s xs = ((partL s.toNat xs).length : Int) := by simp [couV, h]
theorem couV_no {s : Int} {xs : List Int} (h : ¬ (Ok s xs ∧ s ≤ 12)) : couV s xs = -1 := by simp [couV, h]
set_option maxHeartbeats 1000000 in
theorem cou_spec (s : Int) (a : Option Addr) (len cap : Nat) (xs : List Int) (w : World) (h : IntsAt w a len xs) (hm : xs.length ≤ 1048576) (hs1 : -9223372036854775808 ≤ s) (hs2 : s ≤ 9223372036854775807) :
    Calls Try.prog 15 #[rhy s a len cap] w fun e w' => e = .returned (.int .i64 (couV s xs)) ∧ Below w.heap.size w w' := by
  have HS := Lib.hid h
  have hl : len ≤ 1048576 := by have := h.1; omega
  clear h
  by_cases ho : Ok s xs
  · have HO := Lib.hid ho
    have hs24 : s ≤ 24 := by have := ho.1; omega
    by_cases h12 : s ≤ 12
    · have HE := Lib.hid (couV_yes ⟨ho, h12⟩)
      have HT' := Lib.hid (par_tie ho h12)
      have hd : decide (12 < s) = false := by simp; omega
      clear ho
      go_enter Try.func15, Try.ntmps15
      go_wp2_with fail
      refine (ok_yes s a len cap xs _ (HS.out.below (bel1 w _)) hl HO.out).mono ?_
      rintro e w1 ⟨rfl, hb1⟩
      have HB := Lib.hid ((bel1 w (.cells #[.int .i64 s, .slice a len cap] 28)).trans (hb1.mono (by simp)))
      have HT := Lib.hid ((two_new w (.int .i64 s) (.slice a len cap) 28).keep hb1)
      obtain ⟨t1, t1a, t1b⟩ := HT.out
      clear hb1
      go_wp2_with fail
      refine (par_spec s a len cap xs _ (HS.out.below HB.out) hm hs1 hs2).mono ?_
      rintro e w2 ⟨a2, c2, L, rfl, _, _, hb2⟩
      have HB2 := Lib.hid (HB.out.trans (hb2.mono HB.out.size))
      clear hb2
      rw [HT'.out]
      go_wp2
      go_ret
      exact ⟨by rw [HE.out]; rfl, HB2.out⟩
    · have HE := Lib.hid (couV_no (s := s) (xs := xs) (fun h => h12 h.2))
      have hd : decide (12 < s) = true := by simp; omega
      clear ho
      rw [HE.out]
      go_enter Try.func15, Try.ntmps15
      go_wp2_with fail
      refine (ok_yes s a len cap xs _ (HS.out.below (bel1 w _)) hl HO.out).mono ?_
      rintro e w1 ⟨rfl, hb1⟩
      have HB := Lib.hid ((bel1 w (.cells #[.int .i64 s, .slice a len cap] 28)).trans (hb1.mono (by simp)))
      have HT := Lib.hid ((two_new w (.int .i64 s) (.slice a len cap) 28).keep hb1)
      obtain ⟨t1, t1a, t1b⟩ := HT.out
      clear hb1
      go_wp2
      go_ret
      exact ⟨rfl, HB.out⟩
  · have HO := Lib.hid ho
    have HE := Lib.hid (couV_no (s := s) (xs := xs) (fun h => ho h.1))
    clear ho
    rw [HE.out]
    go_enter Try.func15, Try.ntmps15
    go_wp2_with fail
    refine (ok_no s a len cap xs _ (HS.out.below (bel1 w _)) hl HO.out).mono ?_
    rintro e w1 ⟨rfl, hb1⟩
    have HB := Lib.hid ((bel1 w (.cells #[.int .i64 s, .slice a len cap] 28)).trans (hb1.mono (by simp)))
    clear hb1
    go_wp2
    go_ret
    exact ⟨rfl, HB.out⟩
end Go.Proofs.Ytgmhdmhnedljcaa.Rhy
