/-
  Helpers of the claims beside this text: how many bits a number has, counted by the library.
-/
import Derived.Test.YtgmhdmhnedljcaaTwi
import Derived.RangeFuncNested
import Derived.RangeFuncBound
import Derived.RangeFuncCalls
import Derived.RangeFuncLeaves
import Derived.Shelf.Abstract
import Derived.Shelf.RegionOpen
import Derived.OwnWalkIn
import Derived.TacticsInMore
import Derived.LoopNIn
import Derived.LoopIn
import Derived.Maps.AppendAt
import Derived.Test.YtgmhdmhnedljcaaOut
import Derived.Test.YtgmhdmhnedljcaaIvs
import Derived.Test.YtgmhdmhnedljcaaItm
import Derived.Test.YtgmhdmhnedljcaaRts
import Derived.Test.YtgmhdmhnedljcaaPpc
namespace Go.Proofs.Ytgmhdmhnedljcaa.Rhy
open Go.RowKit
set_option linter.unusedVariables false
set_option linter.unusedSimpArgs false
set_option maxRecDepth 100000

theorem u64_in (a : Nat) (h : a < 18446744073709551616) : IntKind.u64.wrap (a : Int) = a := by
  show (a : Int) % _ = a
  exact Int.emod_eq_of_lt (by omega) (by show (a : Int) < 18446744073709551616; omega)
theorem bv_of (a : Nat) (h : a < 18446744073709551616) : (BitVec.ofInt 64 (a : Int)).toNat = a := by
  rw [BitVec.toNat_ofInt, Int.emod_eq_of_lt (by omega) (by show (a : Int) < ((2 ^ 64 : Nat) : Int); omega)]
  omega
theorem and_u64 (a b : Nat) (ha : a < 18446744073709551616) (hb : b < 18446744073709551616) : Go.bits .and .u64 (a : Int) (b : Int) = ((a &&& b : Nat) : Int) := by
  have e : (BitVec.ofInt 64 (a : Int) &&& BitVec.ofInt 64 (b : Int)).toNat = a &&& b := by rw [BitVec.toNat_and, bv_of a ha, bv_of b hb]
  show IntKind.u64.wrap ((BitVec.ofInt 64 (a : Int) &&& BitVec.ofInt 64 (b : Int)).toNat : Int) = _
  rw [e]
  exact u64_in _ (Nat.lt_of_le_of_lt Nat.and_le_left ha)
theorem and_i64 (a b : Nat) (ha : a < 9223372036854775808) (hb : b < 9223372036854775808) : Go.bits .and .i64 (a : Int) (b : Int) = ((a &&& b : Nat) : Int) := by
  have e : (BitVec.ofInt 64 (a : Int) &&& BitVec.ofInt 64 (b : Int)).toNat = a &&& b := by rw [BitVec.toNat_and, bv_of a (by omega), bv_of b (by omega)]
  show IntKind.i64.wrap ((BitVec.ofInt 64 (a : Int) &&& BitVec.ofInt 64 (b : Int)).toNat : Int) = _
  rw [e]
  have : a &&& b ≤ a := Nat.and_le_left
  exact IntWalk.i64_in _ ⟨by omega, by omega⟩



/-- As many bits as beats. -/
theorem pop_len {n x : Nat} (hn : n ≤ 16) (hx : x < 2 ^ n) : (bitsL n x).length = popc x := by
  unfold bitsL bitP popc
  rw [List.length_map]
  have e1 : (List.range n).map (fun p => n - 1 - p) = (List.range n).reverse := by
    apply List.ext_getElem
    · simp
    · intro i h1 h2
      simp only [List.length_map, List.length_range] at h1
      simp [List.getElem_reverse]
  have e2 : ((List.range n).filter fun p => decide (x / 2 ^ (n - 1 - p) % 2 = 1)).length = (((List.range n).map (fun p => n - 1 - p)).filter fun i => decide (x / 2 ^ i % 2 = 1)).length := by
    rw [List.filter_map, List.length_map]
    rfl
  rw [e2, e1, List.filter_reverse, List.length_reverse]
  have e3 : List.range 16 = List.range n ++ (List.range (16 - n)).map (fun i => n + i) := by
    rw [← List.range_add]
    congr 1
    omega
  rw [e3, List.filter_append, List.length_append]
  have e4 : ((List.range (16 - n)).map (fun i => n + i)).filter (fun i => decide (x / 2 ^ i % 2 = 1)) = [] := by
    rw [List.filter_eq_nil_iff]
    intro i hi
    rw [List.mem_map] at hi
    obtain ⟨j, _, rfl⟩ := hi
    have : x / 2 ^ (n + j) = 0 := Nat.div_eq_of_lt (Nat.lt_of_lt_of_le hx (Nat.pow_le_pow_right (by omega) (by omega)))
    simp [this]
  rw [e4]
  simp
end Go.Proofs.Ytgmhdmhnedljcaa.Rhy

/-
  Helpers of the claims beside this text: a rhythm out of the bits of a number, as the program makes it.
-/
namespace Go.Proofs.Ytgmhdmhnedljcaa.Rhy
open Go.RowKit
set_option linter.unusedVariables false
set_option linter.unusedSimpArgs false

theorem pow_23 {m : Nat} (h : m ≤ 23) : 2 ^ m ≤ 8388608 := Nat.le_trans (Nat.pow_le_pow_right (by omega) h) (by decide)
theorem pbit_any (n p : Nat) (w : World) (hn1 : 1 ≤ n) (hn : n ≤ 24) (hp : p < n) :
    Calls Try.prog 39 #[.int .i64 n, .int .i64 p] w fun e w' => e = .returned (.int .i64 ((2 ^ (n - 1 - p) : Nat) : Int)) ∧ w = w' := by
  have HV : Hid (wrap64 ((2 : Int) ^ (n - 1 - p)) = ((2 ^ (n - 1 - p) : Nat) : Int)) := Lib.hid (by
    have h1 := pow_23 (show n - 1 - p ≤ 23 by omega)
    have h2 : ((2 : Int) ^ (n - 1 - p)) = ((2 ^ (n - 1 - p) : Nat) : Int) := by simp
    rw [h2]
    generalize 2 ^ (n - 1 - p) = q at h1
    unfold wrap64
    omega)
  go_enter Try.func39, Try.ntmps39
  go_wp2
  go_ret
  exact ⟨ret_int HV.out, rfl⟩
theorem and_pow (b m : Nat) (hb : b < 16777216) (hm : m ≤ 23) : bits .and .i64 (b : Int) ((2 ^ m : Nat) : Int) = if b / 2 ^ m % 2 = 1 then ((2 ^ m : Nat) : Int) else 0 := by
  have hp := pow_23 hm
  have hx : b &&& 2 ^ m = if b / 2 ^ m % 2 = 1 then 2 ^ m else 0 := by
    refine Nat.eq_of_testBit_eq fun i => ?_
    rw [Nat.testBit_and, Nat.testBit_two_pow]
    by_cases e : m = i
    · subst e
      rw [Nat.testBit_eq_decide_div_mod_eq]
      by_cases h : b / 2 ^ m % 2 = 1
      · rw [if_pos h]; simp [h]
      · rw [if_neg h]; simp [h]
    · split
      · rw [Nat.testBit_two_pow]; simp [e]
      · simp [e]
  have e : bits .and .i64 (b : Int) ((2 ^ m : Nat) : Int) = ((b &&& 2 ^ m : Nat) : Int) := by
    have h1 : (BitVec.ofInt 64 (b : Int) &&& BitVec.ofInt 64 ((2 ^ m : Nat) : Int)).toNat = b &&& 2 ^ m := by
      rw [BitVec.toNat_and, BitVec.toNat_ofInt, BitVec.toNat_ofInt]
      have h2 : ((b : Int) % ((2 ^ 64 : Nat) : Int)).toNat = b := by rw [Int.emod_eq_of_lt (by omega) (by omega)]; omega
      have h3 : (((2 ^ m : Nat) : Int) % ((2 ^ 64 : Nat) : Int)).toNat = 2 ^ m := by
        generalize 2 ^ m = t at hp ⊢
        rw [Int.emod_eq_of_lt (by omega) (by omega)]; omega
      rw [h2, h3]
    have h4 : b &&& 2 ^ m ≤ b := Nat.and_le_left
    have h5 : ((BitVec.ofInt 64 (b : Int) &&& BitVec.ofInt 64 ((2 ^ m : Nat) : Int)).toNat : Int) ≤ b := by rw [h1]; omega
    show IntKind.i64.wrap ((BitVec.ofInt 64 (b : Int) &&& BitVec.ofInt 64 ((2 ^ m : Nat) : Int)).toNat : Int) = _
    rw [h1] at h5 ⊢
    exact IntWalk.i64_in _ ⟨by omega, by omega⟩
  rw [e, hx]
  split <;> rfl

set_option maxHeartbeats 1000000 in
theorem ofBits_any (n bits : Nat) (w : World) (hn1 : 1 ≤ n) (hn : n ≤ 24) (hb : bits < 2 ^ n) :
    Calls Try.prog 43 #[.int .i64 n, .int .i64 bits] w (RhyPost n (bitsL n bits) w) := by
  have hbb : bits < 16777216 := Nat.lt_of_lt_of_le hb (Nat.pow_le_pow_right (by omega) hn)
  have HB := Lib.hid hb
  clear hb
  obtain ⟨w1, hW⟩ : ∃ w1, w1 = w.alloc (.cells #[.int .i64 0, .slice none 0 0] 28) := ⟨_, rfl⟩
  have HW := Lib.hid hW
  have B1 := Lib.hid (show Below w.heap.size w w1 by rw [hW]; exact bel1 w _)
  have U1 := Lib.hid (show Box w1 w.heap.size (.int .i64 0) (.slice none 0 0) 28 by rw [hW]; exact box_new w _ _ _)
  have HSZ := Lib.hid (show w1.heap.size = w.heap.size + 1 by rw [hW]; simp)
  clear hW
  go_enter Try.func43, Try.ntmps43
  go_wp2
  rw [← HW.out, ← HSZ.out]
  go_loopw [10] (fun i wr => ∃ k : Nat, k ≤ n ∧ i = .int .i64 k ∧ LstAt n (bitP n bits k) w1 wr) (fun i _ => n - (intOf i).toNat)
  case atStart => exact ⟨0, by omega, rfl, lst_start n w1⟩
  case round =>
    obtain ⟨k, hk, rfl, hat⟩ := hrel
    obtain ⟨av, cv, hb0, hown, hnx, hsz⟩ := hat
    obtain ⟨L, hL⟩ : ∃ L, bitP n bits k = L := ⟨_, rfl⟩
    rw [hL] at hb0 hown
    have HL := Lib.hid hL
    have H0 := Lib.hid hb0
    have HO := Lib.hid hown
    have HX := Lib.hid hnx
    have HZ := Lib.hid hsz
    have lt0 := hb0.lt
    clear hb0 hown hnx hsz hL
    obtain ⟨c0, c1, f0, f1⟩ := H0.out.facts
    by_cases hlt : k < n
    · have hv := and_pow bits (n - 1 - k) hbb (by omega)
      have HPB : Hid (∀ W, Calls Try.prog 39 #[.int .i64 n, .int .i64 k] W fun e w' => e = .returned (.int .i64 ((2 ^ (n - 1 - k) : Nat) : Int)) ∧ W = w') := Lib.hid (fun W => pbit_any n k W hn1 hn hlt)
      have hpp : 1 ≤ 2 ^ (n - 1 - k) := Nat.one_le_two_pow
      by_cases hbit : bits / 2 ^ (n - 1 - k) % 2 = 1
      · have HN := Lib.hid (bitP_yes hbit)
        rw [if_pos hbit] at hv
        obtain ⟨q, hq⟩ : ∃ q, 2 ^ (n - 1 - k) = q := ⟨_, rfl⟩
        rw [hq] at hv HPB hpp
        have hbv : ((q : Int) == 0) = false := by simp; omega
        have hsl : L.length ≤ 1048577 := by rw [← HL.out]; have := bitP_len n bits k; omega
        clear hbit hq
        go_wp2_with (first | (go_at_call 39; refine (HPB.out _).mono ?_; rintro e w' ⟨rfl, rfl⟩) | (at_builtin; refine append_int rfl _ _ rfl (w1.heap.size + 1) _ L _ _ HO.out hsl HZ.out _ rfl rfl rfl ?_; intro a' c' w' hown' hb'; have HO2 := Lib.hid hown'; have HX2 := Lib.hid hb'; have hq := HX2.out.frozen (p := ⟨w1.heap.size, 1, none⟩) (by show w1.heap.size < w1.heap.size + 1; omega); have hq2 := HX2.out.cell (p := ⟨w1.heap.size, 1, none⟩) (by show w1.heap.size < w1.heap.size + 1; omega); clear hown' hb'))
        go_roundw
        case rel =>
          refine ⟨k + 1, by omega, by go_num, ?_⟩
          rw [HN.out, HL.out]
          have := lst_snoc H0.out HX.out HZ.out HO2.out HX2.out
          simpa using this
        case measure => simp [intOf]; omega
      · have HN := Lib.hid (bitP_no hbit)
        rw [if_neg hbit] at hv
        obtain ⟨q, hq⟩ : ∃ q, 2 ^ (n - 1 - k) = q := ⟨_, rfl⟩
        rw [hq] at hv HPB hpp
        clear hbit hq
        go_wp2_with (go_at_call 39; refine (HPB.out _).mono ?_; rintro e w' ⟨rfl, rfl⟩)
        go_roundw
        case rel => exact ⟨k + 1, by omega, by go_num, by rw [HN.out, HL.out]; exact ⟨av, cv, H0.out, HO.out, HX.out, HZ.out⟩⟩
        case measure => simp [intOf]; omega
    · have e : k = n := by omega
      have HE : Hid (bitsL n bits = L) := Lib.hid (by rw [← HL.out, e]; rfl)
      have b1 := B1.out.size
      obtain ⟨y1, y2, y3, y4⟩ := (U1.out.keep HX.out U1.out.lt).facts
      have y5 := (U1.out.keep HX.out U1.out.lt).lt
      clear e
      go_wp2
      refine bodyPost_ret (v := rhy n av L.length cv) (by simp [results, Try.results43, go_sem, *]) rfl ?_
      rw [HE.out]
      refine ⟨av, cv, rfl, ?_, ?_⟩
      · exact own_base (ownsRow_setCell_below (ownsRow_setCell_below HO.out (by show w.heap.size < w1.heap.size + 1; have := U1.out.lt; omega) _) (by show w.heap.size < w1.heap.size + 1; have := U1.out.lt; omega) _) (by omega)
      · exact ((B1.out.trans (HX.out.mono (by omega))).setCell (by simp) _).setCell (by simp) _

end Go.Proofs.Ytgmhdmhnedljcaa.Rhy

/-
  Helpers of the claims beside this text: iterators: what one gives, and what a loop over one keeps.
-/
namespace Go.Proofs.Ytgmhdmhnedljcaa.Rhy
open Go.RowKit
set_option linter.unusedVariables false

theorem wide_fn (f : FuncId) : Fence.wide.fn f = True := rfl
theorem wide_depth : Fence.wide.depth = none := rfl

/-- What a round that goes on keeps: whatever lay below n, and the blocks between lo and hi (the iterator's own variables). -/
def Kp (n lo hi : Nat) (W W' : World) : Prop := Below n W W' ∧ Same lo hi W W'
theorem Kp.refl (n lo hi : Nat) (W : World) : Kp n lo hi W W := ⟨Below.refl _ _, Same.refl _ _ _⟩
theorem Kp.t {n lo hi : Nat} {A B C : World} (h : Kp n lo hi A B) (k : Kp n lo hi B C) : Kp n lo hi A C := ⟨h.1.trans k.1, h.2.trans k.2⟩
theorem Kp.of_below {n lo hi : Nat} {A B : World} (h : Below A.heap.size A B) (hn : n ≤ A.heap.size) (hh : hi ≤ A.heap.size) : Kp n lo hi A B := ⟨h.mono hn, Same.of_below h hh⟩
theorem Kp.b {n lo hi : Nat} {w : World} (hn : n ≤ w.heap.size) (hh : hi ≤ w.heap.size) (W : World) (l : Nat) (o o' : Obj) (hl : w.heap.size ≤ l) (h : W.heap[l]? = some o) (_ : o.isCells = false) (_ : o.isWalk = false) : Kp n lo hi W (W.putObj l o') :=
  ⟨(Below.refl n W).grown (grownBy_putObj' W l o') (by have := (Array.getElem?_eq_some_iff.1 h).1; omega) (fun k e => by cases e; omega), fun k h1 h2 => World.putObj_heap_other (by omega)⟩
theorem Kp.cell {n lo hi : Nat} {A B : World} (h : Kp n lo hi A B) {p : Addr} (h1 : lo ≤ p.block) (h2 : p.block < hi) : B.cell? p = A.cell? p := World.cell?_of_block (h.2 p.block h1 h2)
theorem Kp.set {n lo hi : Nat} (W : World) (g : Nat) (hg : n ≤ g) (hg2 : g < lo ∨ hi ≤ g) (j : Nat) (v : Value) : Kp n lo hi W (W.setCell ⟨g, j, none⟩ v) :=
  ⟨(Below.refl n W).setCell (p := ⟨g, j, none⟩) hg v, (Same.refl lo hi W).setCell g hg2 j v⟩
theorem Kp.drew (n lo hi : Nat) (W : World) : Kp n lo hi W W.drew := ⟨(Below.refl n W).drew, fun _ _ _ => rfl⟩

/-- What is no cells lies as it lay behind a call that turns nothing that was there. -/
theorem others_below {W W' : World} (h : Below W.heap.size W W') : KeepsOthers W W' := ⟨h.size, fun k o hk _ => (h.block k (Array.getElem?_eq_some_iff.1 hk).1).trans hk⟩
theorem others_drew (W : World) : KeepsOthers W W.drew := ⟨Nat.le_refl _, fun _ _ h _ => h⟩

/-- The iterator (g, lb) gives the numbers l, one after another. (A round is handed the place of a number, and so knows that it is one of l.) -/
def Gives (n lo hi : Nat) (w : World) (g : Nat) (lb : Array Value) (l : List Int) : Prop :=
  ∀ m, SeqStopsK Fence.wide m Try.prog g lb (fun i : Nat => #[Value.int .i64 (l[i]?.getD 0)]) (Kp n lo hi) (fun ys => ys = List.range l.length) (fun pre => pre <+: List.range l.length) l.length w
theorem Gives.later {n lo hi : Nat} {w w' : World} {g : Nat} {lb : Array Value} {l : List Int} (h : Gives n lo hi w g lb l) (hb : Below w.heap.size w w') : Gives n lo hi w' g lb l :=
  fun m k J Jx W hW => h m k J Jx W (hb.trans (hW.mono hb.size))
/-- A function of the program is entered. -/
def Enters (g : Nat) : Prop := ∀ args w, (callFunc g args).run Try.prog w = .ok (.enter g args) w

def valsOf (l : List Int) (is : List Nat) : List Int := is.map fun i => l[i]?.getD 0
theorem valsOf_snoc (l : List Int) (is : List Nat) (i : Nat) : valsOf l (is ++ [i]) = valsOf l is ++ [l[i]?.getD 0] := by simp [valsOf]
theorem valsOf_len (l : List Int) (is : List Nat) : (valsOf l is).length = is.length := by simp [valsOf]
theorem valsOf_all (l : List Int) : valsOf l (List.range l.length) = l := by
  apply List.ext_getElem
  · simp [valsOf]
  · intro i h1 h2
    simp [valsOf, h2]
theorem valsOf_pre {l : List Int} {is : List Nat} (h : is <+: List.range l.length) : valsOf l is <+: l := by
  have := List.IsPrefix.map (fun i => l[i]?.getD 0) h
  rw [show (List.range l.length).map (fun i => l[i]?.getD 0) = l from valsOf_all l] at this
  exact this
theorem val_mem (l : List Int) (i : Nat) : l[i]?.getD 0 ∈ l ∨ l[i]?.getD 0 = 0 := by
  cases h : l[i]? with
  | none => exact .inr rfl
  | some x => exact .inl (List.mem_of_getElem? h)

theorem range_pre {k n : Nat} (h : k ≤ n) : List.range k <+: List.range n := by
  have := List.take_prefix k (List.range n)
  rw [List.take_range, Nat.min_eq_left h] at this
  exact this

/-- A loop over an iterator. -/
theorem wp_range {g : Operand} {p : Tmp} {assign body : Code} {Q : Exit → Act → World → Prop} {a : Act} {w : World} {m n lo hi gf : Nat} {lb : Array Value} {l : List Int}
    (h1 : 1 ≤ m) (hg : a.eval g = .func (.func gf) #[] lb) (hE : Enters gf) (hG : Gives n lo hi w gf lb l) (hn : n ≤ w.heap.size) (hh : hi ≤ w.heap.size)
    (I : List Int → World → Prop) (Ix : Code → List Int → World → Prop) (hI : OwnFrom w.heap.size I) (hIx : ∀ c, OwnFrom w.heap.size (Ix c)) (h0 : I [] w) (a₁ : Int → Act)
    (hassign : ∀ (q : Nat) (x : Int) (W : World) (K : Act → World → Prop), K (a₁ x) W →
      assign.wpIn (Fence.wide.inRound q) (m - 1 - 1) Try.prog (Exit.then K (fun _ _ _ => False)) { tmps := a.tmps.setIfInBounds p (.int .i64 x), defers := [] } W)
    (hbody : ∀ (q : Nat) (pre : List Int) (x : Int) (W : World), I pre W → pre.length < l.length → (x ∈ l ∨ x = 0) → body.wpIn (Fence.wide.inRound q) (m - 1 - 1) Try.prog (ownPostG w.heap.size (Kp n lo hi) I Ix (pre ++ [x]) W) (a₁ x) W)
    (hdone : ∀ (D : Nat) (W : World), w.heap.size ≤ D → I l W → W.heap[D]? = some (.deferred (some [])) → Q .normal { a with defers := { target := .collected D, args := #[] } :: a.defers } W)
    (hstop : ∀ (D : Nat) (c : Code) (pre : List Int) (W : World), w.heap.size ≤ D → pre <+: l → Ix c pre W → W.heap[D]? = some (.deferred (some [])) → c.wpIn Fence.wide m Try.prog Q { a with defers := { target := .collected D, args := #[] } :: a.defers } W) :
    (Code.rangeFunc g #[p] assign body).wpIn Fence.wide m Try.prog Q a w := by
  refine wpIn_rangeFunc_ownG rfl h1 hg trivial hE (hG (m - 1)) (fun h k => h.t k) (Kp.b hn hh) (Below.refl _ _) (fun _ => rfl)
    (fun is W => I (valsOf l is) W) (fun c is W => Ix c (valsOf l is) W) (fun s => hI (valsOf l s)) (fun c s => hIx c (valsOf l s)) h0 (fun i => a₁ (l[i]?.getD 0)) ?_ ?_ ?_ ?_
  · intro q i W K hK
    have e : ((#[p] : Array Tmp).zip #[Value.int .i64 (l[i]?.getD 0)]).foldl (fun t (x : Tmp × Value) => t.setIfInBounds x.1 x.2) a.tmps = a.tmps.setIfInBounds p (.int .i64 (l[i]?.getD 0)) := by simp
    have h := hassign q _ W K hK
    rw [← e] at h
    exact h
  · intro q pre i W hi hlen
    have h := hbody q (valsOf l pre) (l[i]?.getD 0) W hi (by rw [valsOf_len]; exact hlen) (val_mem l i)
    rw [← valsOf_snoc] at h
    exact Go.wpIn_mono h fun e a W' hp => by cases e <;> exact hp
  · intro D xs W hD hS hi hK
    subst hS
    rw [valsOf_all] at hi
    exact hdone D W hD hi hK
  · intro D c pre W hD hS hi hK
    exact hstop D c _ W hD (valsOf_pre hS) hi hK

/-- On the way out of a function that holds one loop over an iterator. -/
theorem leave_mark {fn : Func} {tmps : Array Value} {R : Ending → World → Prop} {m D : Nat} {W : World} (v : Value) (hK : W.heap[D]? = some (.deferred (some [])))
    (hres : (results fn tmps).run Try.prog (W.putObj D (.deferred none)) = .ok v (W.putObj D (.deferred none))) (hR : R (.returned v) (W.putObj D (.deferred none))) :
    LeavesInM Fence.wide m Try.prog fn tmps R [{ target := .collected D, args := #[] }] .returning W :=
  ⟨by simp, .inl ⟨_, _, rfl, run_takeDeferred hK, ⟨v, hres, hR⟩⟩⟩
end Go.Proofs.Ytgmhdmhnedljcaa.Rhy

/-
  Helpers of the claims beside this text: iterators over rhythms: what one gives, and a loop over one whose rounds go on.
-/
namespace Go.Proofs.Ytgmhdmhnedljcaa.Rhy
open Go.RowKit
set_option linter.unusedVariables false
set_option linter.unusedSimpArgs false

theorem intsAt_kept {A B : World} {row : Option Nat} {a : Option Addr} {len : Nat} {zs : List Int} (h : IntsAt A a len zs) (hg : A.grownBy B row) (hr : ∀ r, row = some r → ∃ o : Obj, A.heap[r]? = some o ∧ o.isCells = false) : IntsAt B a len zs := by
  refine ⟨h.1, h.2.1, fun hp => ?_⟩
  obtain ⟨b, off, rfl, hb, hc⟩ := h.2.2 hp
  exact ⟨b, off, rfl, Nat.lt_of_lt_of_le hb hg.size, fun j z hj => cell_kept (hc j z hj) hg hr⟩

theorem below_put {n R : Nat} {U V : World} {o : Obj} (h : Below n U V) (hR : R < U.heap.size) : Below n (U.putObj R o) (V.putObj R o) := by
  refine ⟨h.os, h.tape, h.output, by simpa [World.putObj] using h.size, fun k hk => ?_⟩
  by_cases e : k = R
  · subst e
    have := h.size
    rw [World.putObj_heap_same hR, World.putObj_heap_same (by omega)]
  · rw [World.putObj_heap_other e, World.putObj_heap_other e]
    exact h.block k hk
theorem own_put {w : World} {B R : Nat} {e : TypeId} {size : Nat} {v : Value} {n : Nat} {xs : List Value} (h : w.ownsRow B e size v n xs) (hR : R < B) (o : Obj) : (w.putObj R o).ownsRow B e size v n xs :=
  own_grown h (grownBy_putObj' w R o) (fun k hk e => by have h1 := (h.lt k hk).1; have h2 : R = k := Option.some.inj e; omega)

/-- The iterator (g, lb) gives rhythms of sz pulses one after another, with the beats of L; the beats of each lie in a row of their own, made since the round before. -/
def GivesR (n lo hi : Nat) (w : World) (g : Nat) (lb : Array Value) (sz : Int) (L : List (List Int)) : Prop :=
  ∀ (m q : Nat) (J : Nat → World → Prop) (W : World), 2 ≤ m → Below w.heap.size w W → AbidesFrom W.heap.size J →
    (∀ (k : Nat) (X : List Int) (a : Option Addr) (cap : Nat) (U V : World), L[k]? = some X → J k U → Below U.heap.size U V → V.ownsRow U.heap.size 3 1 (.slice a X.length cap) X.length (ints X) →
      YieldAt Fence.wide (m - 1) Try.prog q #[rhy sz a X.length cap] V fun e V' => e = .returned (.bool true) ∧ J (k + 1) V' ∧ Kp n lo hi V V') →
    J 0 W → CallsIn Fence.wide m Try.prog g (#[.func (.yield q) #[] #[]] ++ lb) W fun e V' => (∃ v, e = .returned v) ∧ J L.length V'

/-- How a round's body ends: it goes on. -/
def EndsR (B n lo hi : Nat) (I : Nat → World → Prop) (k : Nat) (W : World) : Exit → Act → World → Prop
  | .normal, _, W' => KeepsFrom B W W' ∧ Kp n lo hi W W' ∧ I k W'
  | _, _, _ => False

/-- A loop over such an iterator; the loop's variable lies in a box of its own each round. -/
theorem wp_rangeR {g : Operand} {p : Tmp} {assign body : Code} {Q : Exit → Act → World → Prop} {a : Act} {w : World} {m n lo hi gf : Nat} {lb : Array Value} {sz : Int} {L : List (List Int)}
    (h1 : 3 ≤ m) (hg : a.eval g = .func (.func gf) #[] lb) (hE : Enters gf) (hG : GivesR n lo hi w gf lb sz L) (hn : n ≤ w.heap.size) (hh : hi ≤ w.heap.size)
    (I : Nat → World → Prop) (hI : OwnFrom w.heap.size I) (h0 : I 0 w) (a₁ : Option Addr → Nat → Nat → Nat → Act)
    (hassign : ∀ (q : Nat) (ax : Option Addr) (len cx : Nat) (W : World) (K : Act → World → Prop), K (a₁ ax len cx W.heap.size) (W.alloc (.cells #[.int .i64 sz, .slice ax len cx] 28)) →
      assign.wpIn (Fence.wide.inRound q) (m - 1 - 1) Try.prog (Exit.then K (fun _ _ _ => False)) { tmps := a.tmps.setIfInBounds p (rhy sz ax len cx), defers := [] } W)
    (hbody : ∀ (q k : Nat) (X : List Int) (ax : Option Addr) (cx b : Nat) (U W : World), L[k]? = some X → I k U → w.heap.size ≤ U.heap.size → Below U.heap.size U W → U.heap.size ≤ b →
      Box W b (.int .i64 sz) (.slice ax X.length cx) 28 → W.ownsRow U.heap.size 3 1 (.slice ax X.length cx) X.length (ints X) →
      body.wpIn (Fence.wide.inRound q) (m - 1 - 1) Try.prog (EndsR w.heap.size n lo hi I (k + 1) W) (a₁ ax X.length cx b) W)
    (hdone : ∀ (D : Nat) (W : World), w.heap.size ≤ D → I L.length W → W.heap[D]? = some (.deferred (some [])) → Q .normal { a with defers := { target := .collected D, args := #[] } :: a.defers } W) :
    (Code.rangeFunc g #[p] assign body).wpIn Fence.wide m Try.prog Q a w := by
  refine wpIn_rangeFunc ?_
  intro fn hfn
  obtain ⟨R, hR⟩ : ∃ R, R = w.heap.size + 1 := ⟨_, rfl⟩
  obtain ⟨rec, hrec⟩ : ∃ rec : LoopState → Option Code → Loop, rec = fun st pe => { state := st, pending := pe, fn, tmps := a.tmps, params := #[p], assign, body, defers := w.heap.size } := ⟨_, rfl⟩
  obtain ⟨V1, hV1⟩ : ∃ V1, (w.alloc (.deferred (some []))).alloc (.loop (rec .ready none)) = V1 := ⟨_, rfl⟩
  have hbV : Below w.heap.size w V1 := by rw [← hV1]; exact bel2 w _ _
  have hlo : V1.heap[R]? = some (.loop (rec .ready none)) := by
    rw [← hV1, hR]
    have := World.alloc_heap_new (w.alloc (.deferred (some []))) (.loop (rec .ready none))
    rwa [World.size_alloc] at this
  have hde : V1.heap[w.heap.size]? = some (.deferred (some [])) := by
    rw [← hV1]
    exact (Below.heap_alloc _ _ _ (by simp)).trans (World.alloc_heap_new w _)
  have hi0 : I 0 V1 := by rw [← hV1]; exact hI.alloc _ (hI.alloc _ h0)
  have hsz1 : V1.heap.size = w.heap.size + 2 := by rw [← hV1]; simp
  refine ⟨R, [{ target := .collected w.heap.size, args := #[] }], V1, { target := .fn (.func gf) lb, args := #[.func (.yield R) #[] #[]] }, V1, gf, #[.func (.yield R) #[] #[]] ++ lb, V1, ?_, ?_, ?_, ?_, fun _ => by omega, ?_⟩
  · rw [← hV1, hrec, hR]
    exact run_enterLoop_outer _ _ _ _ _
  · simp only [resolve, hg]
    simp [go_sem]
  · intro f' hf'
    trivial
  · have eg := hE
    simp [invoke, go_sem]
    exact eg _ _
  · have hturn : ∀ {A B : World} {row : Option Nat}, (∀ r, row = some r → V1.heap.size ≤ r ∧ ∃ o : Obj, A.heap[r]? = some o ∧ o.isWalk = true) → (∀ r, row = some r → w.heap.size ≤ r ∧ ∃ o : Obj, A.heap[r]? = some o ∧ o.isCells = false) :=
      fun hr r e => by
        obtain ⟨hB, o, ho, hw⟩ := hr r e
        exact ⟨by omega, o, ho, Obj.not_cells_of_walk hw⟩
    refine (hG (m - 1) R (fun k W => I k W ∧ W.heap[R]? = some (.loop (rec .ready none)) ∧ W.heap[w.heap.size]? = some (.deferred (some []))) V1 (by omega) hbV
      (fun s A B row hs hg' hr => ⟨hI s A B row hs.1 hg' (hturn (B := B) hr), (grownBy_keeps hg' (fun r e => (hr r e).2) hs.2.1 rfl).trans hs.2.1, (grownBy_keeps hg' (fun r e => (hr r e).2) hs.2.2 rfl).trans hs.2.2⟩)
      ?_ ⟨hi0, hlo, hde⟩).mono ?_
    · -- one round
      rintro k X ax cx U W hX ⟨hiU, hlU, hdU⟩ hUW hown
      have hRU : R < U.heap.size := (Array.getElem?_eq_some_iff.1 hlU).1
      have hlW : W.heap[R]? = some (.loop (rec .ready none)) := (hUW.block R hRU).trans hlU
      have hdW : W.heap[w.heap.size]? = some (.deferred (some [])) := (hUW.block _ (by omega)).trans hdU
      have hRW : R < W.heap.size := (Array.getElem?_eq_some_iff.1 hlW).1
      have hy := run_yield (P := Try.prog) (args := #[rhy sz ax X.length cx]) hlW (by rw [hrec]; rfl)
      rw [hrec] at hy
      have htm : ((#[p] : Array Tmp).zip #[rhy sz ax X.length cx]).foldl (fun t (x : Tmp × Value) => t.setIfInBounds x.1 x.2) a.tmps = a.tmps.setIfInBounds p (rhy sz ax X.length cx) := by simp
      obtain ⟨o, ho⟩ : ∃ o : Obj, o = .cells #[.int .i64 sz, .slice ax X.length cx] 28 := ⟨_, rfl⟩
      have hlA : (W.alloc o).heap[R]? = some (.loop (rec .ready none)) := (Below.heap_alloc _ _ _ hRW).trans hlW
      have hdA : (W.alloc o).heap[w.heap.size]? = some (.deferred (some [])) := (Below.heap_alloc _ _ _ (by omega)).trans hdW
      have hkA : Kp n lo hi W (W.alloc o) := Kp.of_below (bel1 W o) (by omega) (by omega)
      have has := hassign R ax X.length cx W
      rw [← ho] at has
      rw [← htm] at has
      refine ⟨fn, _, assign, body, hy, roundIn_of_wpIn hfn (has _ ⟨_, run_beginRound hlA (by rw [hrec]), ?_⟩)⟩
      obtain ⟨W2, hW2⟩ : ∃ W2, W2 = (W.alloc o).putObj R (.loop { rec .ready none with state := .busy }) := ⟨_, rfl⟩
      have hszA : (W.alloc o).heap.size = W.heap.size + 1 := by simp
      have hl2 : W2.heap[R]? = some (.loop { rec .ready none with state := .busy }) := by rw [hW2]; exact World.putObj_heap_same (by omega)
      have hd2 : W2.heap[w.heap.size]? = some (.deferred (some [])) := by rw [hW2]; exact (World.putObj_heap_other (by omega)).trans hdA
      obtain ⟨U2, hU2⟩ : ∃ U2, U2 = U.putObj R (.loop { rec .ready none with state := .busy }) := ⟨_, rfl⟩
      have hszU : U2.heap.size = U.heap.size := by rw [hU2]; simp [World.putObj]
      have hi2 : I k U2 := by rw [hU2]; exact hI.putObj _ hiU (by omega) hlU rfl
      have hUA : Below U.heap.size U (W.alloc o) := hUW.alloc hUW.size o
      have hUW2 : Below U2.heap.size U2 W2 := by rw [hszU, hU2, hW2]; exact below_put hUA hRU
      have hk2 : Kp n lo hi (W.alloc o) W2 := by rw [hW2]; exact Kp.b hn hh _ _ _ _ (by omega) hlA rfl rfl
      have hx2 : Box W2 W.heap.size (.int .i64 sz) (.slice ax X.length cx) 28 := by
        rw [hW2]
        refine (World.putObj_heap_other (by omega)).trans ?_
        rw [ho]
        exact box_new W _ _ _
      have ho2 : W2.ownsRow U2.heap.size 3 1 (.slice ax X.length cx) X.length (ints X) := by
        rw [hszU, hW2]
        exact own_put (hown.alloc o) hRU _
      have hb := hbody R k X ax cx W.heap.size U2 W2 hX hi2 (by omega) hUW2 (by have := hUW.size; omega) hx2 ho2
      rw [hW2] at hb
      refine Go.wpIn_mono hb ?_
      rw [← hW2]
      rintro e a3 W3 hp
      cases e with
      | normal =>
        obtain ⟨hkf, hkp, hi3⟩ := hp
        have hl3 := hkf.same _ _ (by omega) hl2 rfl
        have hd3 := hkf.same _ _ (Nat.le_refl _) hd2 rfl
        have hend := run_endRound (P := Try.prog) none hl3
        rw [hrec] at hend hl3
        refine ⟨_, _, hend, rfl, ⟨?_, ?_, ?_⟩, ?_⟩
        · exact hI.putObj _ hi3 (by omega) hl3 rfl
        · rw [hrec]
          exact World.putObj_heap_same (Array.getElem?_eq_some_iff.1 hl3).1
        · exact (World.putObj_heap_other (by omega)).trans hd3
        · exact (hkA.t hk2).t (hkp.t (Kp.b hn hh _ _ _ _ (by omega) hl3 rfl rfl))
      | ret => exact hp.elim
      | exit id => exact hp.elim
      | goto t => exact hp.elim
      | panic ch => exact hp.elim
      | outgrown => exact hp.elim
    · -- behind the iterator
      rintro e W2 ⟨⟨v, rfl⟩, hi2, hl2, hd2⟩
      refine ⟨none, _, by have := run_endLoop (P := Try.prog) hl2 (by rw [hrec]; simp); rw [hrec] at this; exact this, ?_⟩
      exact hdone _ _ (Nat.le_refl _) (hI.putObj _ hi2 (by omega) hl2 rfl) ((World.putObj_heap_other (by omega)).trans hd2)
end Go.Proofs.Ytgmhdmhnedljcaa.Rhy
namespace Go.Proofs.Ytgmhdmhnedljcaa.Rhy
open Go.RowKit
end Go.Proofs.Ytgmhdmhnedljcaa.Rhy

/-
  Helpers of the claims beside this text: the program's iterator over the rhythms of some pulses with some beats.
-/
namespace Go.Proofs.Ytgmhdmhnedljcaa.Rhy
open Go.RowKit
set_option linter.unusedVariables false
set_option linter.unusedSimpArgs false

/-- The rhythms out of the first j numbers, from the greatest one down, that have c beats. -/
def wthJ (n c j : Nat) : List (List Int) := ((List.range j).map fun i => bitsL n (2 ^ n - 1 - i)).filter fun X => decide (X.length = c)
theorem wthJ_yes {n c j m : Nat} (hm : 2 ^ n - 1 - j = m) (h : (bitsL n m).length = c) : wthJ n c (j + 1) = wthJ n c j ++ [bitsL n m] := by
  unfold wthJ
  rw [List.range_succ, List.map_append, List.filter_append]
  simp only [List.map_cons, List.map_nil, hm]
  rw [List.filter_cons_of_pos (by simpa using h)]
  rfl
theorem wthJ_no {n c j m : Nat} (hm : 2 ^ n - 1 - j = m) (h : (bitsL n m).length ≠ c) : wthJ n c (j + 1) = wthJ n c j := by
  unfold wthJ
  rw [List.range_succ, List.map_append, List.filter_append]
  simp only [List.map_cons, List.map_nil, hm]
  rw [List.filter_cons_of_neg (by simpa using h)]
  simp
theorem wthJ_pre (n c : Nat) {i j : Nat} (h : i ≤ j) : wthJ n c i <+: wthJ n c j := by
  unfold wthJ
  exact (List.IsPrefix.map _ (range_pre h)).filter _
theorem wthJ_at {n c j N m : Nat} (hm : 2 ^ n - 1 - j = m) (h : (bitsL n m).length = c) (hj : j < N) : (wthJ n c N)[(wthJ n c j).length]? = some (bitsL n m) := by
  obtain ⟨t, ht⟩ := wthJ_pre n c (show j + 1 ≤ N from hj)
  rw [← ht, wthJ_yes hm h, List.append_assoc, List.getElem?_append_right (Nat.le_refl _), Nat.sub_self]
  rfl



end Go.Proofs.Ytgmhdmhnedljcaa.Rhy
