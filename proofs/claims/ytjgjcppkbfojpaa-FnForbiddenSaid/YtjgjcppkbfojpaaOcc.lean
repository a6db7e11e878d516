/-
  Helpers of the claims beside this text: the program's circles: functions that give one pulse after another; CirclesOf, MostAvoiding.
-/
import Derived.Test.YtjgjcppkbfojpaaItl
import Derived.Test.YtjgjcppkbfojpaaOdm
import Derived.Test.YtjgjcppkbfojpaaOca
namespace Go.Proofs.Ytjgjcppkbfojpaa.Rhy
open Go.RowKit
set_option linter.unusedVariables false
set_option linter.unusedSimpArgs false

/-- A circle whose three variables lie in blocks b (d), b + 1 (the size), b + 2 (the pulse ahead). -/
def cirV (b : Nat) : Value := .func (.func 154) #[] #[.pointer (some ⟨b + 2, 0, none⟩), .pointer (some ⟨b, 0, none⟩), .pointer (some ⟨b + 1, 0, none⟩)]
structure CirAt (w : World) (b d n p : Nat) : Prop where
  d : Boxed w b 3 (.int .i64 d)
  n : Boxed w (b + 1) 3 (.int .i64 n)
  p : Boxed w (b + 2) 3 (.int .i64 p)
theorem CirAt.of {w w' : World} {b d n p : Nat} (h : CirAt w b d n p) (hs : ∀ k, b ≤ k → k < b + 3 → w'.heap[k]? = w.heap[k]?) : CirAt w' b d n p :=
  ⟨(hs b (by omega) (by omega)).trans h.d, (hs (b + 1) (by omega) (by omega)).trans h.n, (hs (b + 2) (by omega) (by omega)).trans h.p⟩
theorem grown_then {w a b : World} {r : Nat} (h : w.grownBy a (some r)) (hb : Below w.heap.size a b) : w.grownBy b (some r) :=
  ⟨hb.os.trans h.os, hb.tape.trans h.tape, hb.output.trans h.output, Nat.le_trans h.size hb.size, fun k hk hne => (hb.block k hk).trans (h.block k hk hne)⟩
theorem below_grown {w a : World} {r B : Nat} (h : w.grownBy a (some r)) (hB : B ≤ r) (hBw : B ≤ w.heap.size) : Below B w a :=
  ⟨h.os, h.tape, h.output, h.size, fun k hk => h.block k (by omega) (fun e => by have := Option.some.inj e; omega)⟩
theorem own_at {w w' : World} {B : Nat} {e : TypeId} {size n : Nat} {v : Value} {xs : List Value} (h : w.ownsRow B e size v n xs) (hs : ∀ k, v.ownBlock = some k → w'.heap[k]? = w.heap[k]?) : w'.ownsRow B e size v n xs := by
  refine ⟨h.1, ?_⟩
  rcases h.2 with hn | ⟨g, c, cur, rfl, hb, hg, rest⟩
  · exact .inl hn
  · exact .inr ⟨g, c, cur, rfl, hb, by rw [hs g rfl]; exact hg, rest⟩

set_option maxHeartbeats 400000 in
theorem cirNext_any (b d n p : Nat) (w : World) (h : CirAt w b d n p) (hn : 1 ≤ n ∧ n ≤ 24) (hd : d ≤ 24) (hp : p ≤ 24) :
    Calls Try.prog 154 #[.pointer (some ⟨b + 2, 0, none⟩), .pointer (some ⟨b, 0, none⟩), .pointer (some ⟨b + 1, 0, none⟩)] w
      fun e w' => e = .returned (.int .i64 p) ∧ w' = w.setCell ⟨b + 2, 0, none⟩ (.int .i64 (((p + d) % n : Nat) : Int)) := by
  have x1 := h.d.cell
  have x2 := h.n.cell
  have x3 := h.p.cell
  have x4 := h.p.frozen
  have hn1 := hn.1
  have hn24 := hn.2
  have HR : Hid (remB ((p : Int) + d) n = (((p + d) % n : Nat) : Int)) := Lib.hid (by unfold remB; simp)
  have hw1 : wrap64 ((p : Int) + d) = p + d := by unfold wrap64; omega
  clear h hn
  go_enter Try.func154, Try.ntmps154
  go_wp2_with fail
  refine (around_any ((p : Int) + d) n _ (by omega) (by omega) (by omega) (by omega)).mono ?_
  rintro e w' ⟨rfl, rfl⟩
  rw [HR.out]
  go_wp2
  go_ret
  exact ⟨rfl, rfl⟩

set_option maxHeartbeats 400000 in
theorem cirFrom_any (p d n : Nat) (w : World) :
    Calls Try.prog 125 #[.int .i64 p, .int .i64 d, .int .i64 n] w fun e w' => e = .returned (cirV w.heap.size) ∧ CirAt w' w.heap.size d n p ∧ Below w.heap.size w w' ∧ w'.heap.size = w.heap.size + 3 := by
  have HX : Hid (∀ W : World, W = ((w.alloc (.cells #[.int .i64 d] 3)).alloc (.cells #[.int .i64 n] 3)).alloc (.cells #[.int .i64 p] 3) → CirAt W w.heap.size d n p ∧ Below w.heap.size w W ∧ W.heap.size = w.heap.size + 3) := Lib.hid (by
    rintro W rfl
    have h2 := Boxed.new (w.alloc (.cells #[.int .i64 d] 3)) 3 (.int .i64 n)
    have h3 := Boxed.new ((w.alloc (.cells #[.int .i64 d] 3)).alloc (.cells #[.int .i64 n] 3)) 3 (.int .i64 p)
    simp only [World.size_alloc] at h2 h3
    exact ⟨⟨((Boxed.new w 3 (.int .i64 d)).alloc _).alloc _, h2.alloc _, h3⟩, (bel2 w _ _).trans ((bel1 _ _).mono (by simp; omega)), by simp⟩)
  go_enter Try.func125, Try.ntmps125
  go_wp2
  go_ret
  exact ⟨rfl, HX.out _ rfl⟩

set_option maxHeartbeats 1000000 in
theorem onceC_any (b d n p : Nat) (w : World) (h : CirAt w b d n p) (hn : 2 ≤ n ∧ n ≤ 24) (hd : 1 ≤ d ∧ d < n) (hp : p < n) :
    Calls Try.prog 84 #[cirV b] w fun e w' => ∃ a c, e = .returned (.slice a (n / Nat.gcd n d) c) ∧ w'.ownsRow w.heap.size 3 1 (.slice a (n / Nat.gcd n d) c) (n / Nat.gcd n d) (ints (cirZ n d p)) ∧ w.grownBy w' (some (b + 2)) := by
  obtain ⟨m, hm⟩ : ∃ m, n / Nat.gcd n d = m := ⟨_, rfl⟩
  have hm1 : 1 ≤ m := by rw [← hm]; exact circ_pos hn.1 hd
  have hm24 : m ≤ 24 := by rw [← hm]; have : n / Nat.gcd n d ≤ n := Nat.div_le_self _ _; omega
  have HTK : Hid (∀ i, i < m → (cirZ n d p).take (i + 1) = (cirZ n d p).take i ++ [(((p + i * d) % n : Nat) : Int)]) := Lib.hid (fun i hi => cirZ_take (by rw [hm]; exact hi))
  have HON : Hid (∀ i, 0 < i → i < m → (p + i * d) % n ≠ p) := Lib.hid (fun i h0 hi => circ_on hn hd hp h0 (by rw [hm]; exact hi))
  have HBK : Hid ((p + m * d) % n = p) := Lib.hid (by rw [← hm]; exact circ_back hn hd hp)
  have HALL : Hid ((cirZ n d p).take m = cirZ n d p) := Lib.hid (List.take_of_length_le (by rw [cirZ_len, hm]; exact Nat.le_refl _))
  have HLEN : Hid (∀ i, i ≤ m → ((cirZ n d p).take i).length = i) := Lib.hid (fun i hi => by rw [List.length_take, cirZ_len, hm]; omega)
  have HNX : Hid (∀ i : Nat, ((p + i * d) % n + d) % n = (p + (i + 1) * d) % n) := Lib.hid (fun i => by rw [Nat.mod_add_mod, Nat.add_assoc, Nat.add_mul, Nat.one_mul])
  have HMD : Hid (∀ i : Nat, (p + i * d) % n < n) := Lib.hid (fun i => Nat.mod_lt _ (by omega))
  have HH := Lib.hid h
  have hbw := h.p.lt
  have hn1 := hn.1
  have hn24 := hn.2
  have hd1 := hd.1
  have hd2 := hd.2
  clear h hn hd
  rw [hm]
  clear hm
  unfold cirV
  go_enter Try.func84, Try.ntmps84
  go_wp2_with fail
  refine (cirNext_any b d n p _ HH.out (by omega) (by omega) (by omega)).mono ?_
  rintro e w1 ⟨rfl, hw1⟩
  have HC1 : Hid (CirAt w1 b d n ((p + d) % n)) := Lib.hid (by
    rw [hw1]
    exact ⟨HH.out.d.other (by omega) _, HH.out.n.other (by omega) _, HH.out.p.set _⟩)
  have HG1 : Hid (w.grownBy w1 (some (b + 2))) := Lib.hid (by rw [hw1]; exact grownBy_setCell' w (b + 2) _)
  have HZ1 : Hid (w1.heap.size = w.heap.size) := Lib.hid (by rw [hw1]; simp)
  clear hw1
  go_wp2_with fail
  obtain ⟨W2, hW2⟩ : ∃ W2, W2 = w1.alloc (.cells #[.int .i64 p] 3) := ⟨_, rfl⟩
  rw [← hW2]
  have HO2 : Hid (W2.ownsRow w.heap.size 3 1 (.slice (some ⟨w1.heap.size, 0, none⟩) 1 1) 1 (ints ((cirZ n d p).take 1))) := Lib.hid (by
    have e := HTK.out 0 (by omega)
    rw [Nat.zero_add, List.take_zero, List.nil_append, Nat.zero_mul, Nat.add_zero, Nat.mod_eq_of_lt hp] at e
    rw [e, hW2]
    exact ⟨rfl, .inr ⟨w1.heap.size, 1, #[.int .i64 p], rfl, by rw [HZ1.out]; exact Nat.le_refl _, heap_alloc_new w1 _, Nat.le_refl _, by unfold maxLen; omega, rfl, rfl⟩⟩)
  have HC2 : Hid (CirAt W2 b d n ((p + d) % n)) := Lib.hid (by rw [hW2]; exact ⟨HC1.out.d.alloc _, HC1.out.n.alloc _, HC1.out.p.alloc _⟩)
  have HG2 : Hid (w.grownBy W2 (some (b + 2))) := Lib.hid (by rw [hW2]; exact grown_then HG1.out ((bel1 w1 _).mono (by rw [HZ1.out]; exact Nat.le_refl _)))
  clear hW2
  have hq1 := HMD.out 1
  rw [Nat.one_mul] at hq1
  refine (cirNext_any b d n ((p + d) % n) _ HC2.out (by omega) (by omega) (by omega)).mono ?_
  rintro e w3 ⟨rfl, hw3⟩
  have HC3 : Hid (CirAt w3 b d n ((p + (1 + 1) * d) % n)) := Lib.hid (by
    rw [hw3]
    have e1 := HNX.out 1
    rw [Nat.one_mul] at e1
    rw [← e1]
    exact ⟨HC2.out.d.other (by omega) _, HC2.out.n.other (by omega) _, HC2.out.p.set _⟩)
  have HG3 : Hid (w.grownBy w3 (some (b + 2))) := Lib.hid (by rw [hw3]; exact HG2.out.trans (grownBy_setCell' W2 (b + 2) _))
  have HO3 : Hid (w3.ownsRow w.heap.size 3 1 (.slice (some ⟨w1.heap.size, 0, none⟩) 1 1) 1 (ints ((cirZ n d p).take 1))) := Lib.hid (by
    rw [hw3]
    exact own_grown HO2.out (grownBy_setCell' W2 (b + 2) _) (fun k hk e => by have := (HO2.out.lt k hk).1; have := Option.some.inj e; omega))
  have HQ1 : Hid (((p + d) % n : Nat) = (p + 1 * d) % n) := Lib.hid (by rw [Nat.one_mul])
  clear hw3 hq1
  rw [HQ1.out]
  go_wp2
  go_loopw [4, 5] (fun v x wr => ∃ i : Nat, 1 ≤ i ∧ i ≤ m ∧ x = .int .i64 (((p + i * d) % n : Nat) : Int) ∧ (∃ av cv, v = .slice av i cv ∧ wr.ownsRow w.heap.size 3 1 (.slice av i cv) i (ints ((cirZ n d p).take i))) ∧ CirAt wr b d n ((p + (i + 1) * d) % n) ∧ w.grownBy wr (some (b + 2))) (fun v _ _ => m + 1 - (match v with | .slice _ k _ => k | _ => 0))
  case atStart => exact ⟨1, by omega, hm1, by simp, ⟨_, _, rfl, HO3.out⟩, HC3.out, HG3.out⟩
  case round =>
    obtain ⟨i, hi1, him, rfl, ⟨av, cv, rfl, hown⟩, hci, hgr⟩ := hrel
    have HO4 := Lib.hid hown
    have HCI := Lib.hid hci
    have HGR := Lib.hid hgr
    have hzz := hgr.size
    have hqi := HMD.out i
    have hqj := HMD.out (i + 1)
    clear hown hci hgr
    obtain ⟨y, hy⟩ : ∃ y, (p + i * d) % n = y := ⟨_, rfl⟩
    have HY := Lib.hid hy
    rw [hy] at hqi ⊢
    clear hy
    by_cases hlt : i < m
    · have hne : ¬ y = p := by rw [← HY.out]; exact HON.out i (by omega) hlt
      have hne2 : ((y : Int) == (p : Int)) = false := by simp; omega
      have hne3 : ((y : Int) != (p : Int)) = true := by simp; omega
      obtain ⟨L, hL⟩ : ∃ L, (cirZ n d p).take i = L := ⟨_, rfl⟩
      have HL := Lib.hid hL
      have hll : L.length = i := by rw [← hL]; exact HLEN.out i him
      have HLL := Lib.hid hll
      have HT2 : Hid ((cirZ n d p).take (i + 1) = L ++ [(y : Int)]) := Lib.hid (by rw [HTK.out i hlt, hL, HY.out])
      have HOL : Hid (wr.ownsRow w.heap.size 3 1 (.slice av i cv) L.length (ints L)) := Lib.hid (by have := HO4.out; rw [hL] at this; rw [hll]; exact this)
      clear hL hll
      go_wp2_with (at_builtin; refine append_int rfl _ _ rfl w.heap.size _ L _ _ HOL.out (by have := HLL.out; omega) hzz _ rfl rfl rfl ?_; intro a' c' w4 hown' hb'; have HO5 := Lib.hid hown'; have HX5 := Lib.hid hb'; clear hown' hb')
      have HC5 : Hid (CirAt w4 b d n ((p + (i + 1) * d) % n)) := Lib.hid (HCI.out.of (fun k h1 h2 => HX5.out.block k (by omega)))
      have HG5 : Hid (w.grownBy w4 (some (b + 2))) := Lib.hid (grown_then HGR.out HX5.out)
      have HLN : Hid ((L ++ [(y : Int)]).length = i + 1) := Lib.hid (by rw [List.length_append, HLL.out]; rfl)
      try rw [HLN.out]
      go_wp2_with fail
      refine (cirNext_any b d n ((p + (i + 1) * d) % n) _ HC5.out (by omega) (by omega) (by omega)).mono ?_
      rintro e w6 ⟨rfl, hw6⟩
      have HC6 : Hid (CirAt w6 b d n ((p + (i + 1 + 1) * d) % n)) := Lib.hid (by
        rw [hw6, ← HNX.out (i + 1)]
        exact ⟨HC5.out.d.other (by omega) _, HC5.out.n.other (by omega) _, HC5.out.p.set _⟩)
      have HG6 : Hid (w.grownBy w6 (some (b + 2))) := Lib.hid (by rw [hw6]; exact HG5.out.trans (grownBy_setCell' w4 (b + 2) _))
      have HO6 : Hid (w6.ownsRow w.heap.size 3 1 (.slice a' (i + 1) c') (i + 1) (ints ((cirZ n d p).take (i + 1)))) := Lib.hid (by
        have h5 := HO5.out
        rw [HLN.out, ← HT2.out] at h5
        rw [hw6]
        exact own_grown h5 (grownBy_setCell' w4 (b + 2) _) (fun k hk e => by have := (h5.lt k hk).1; have := Option.some.inj e; omega))
      clear hw6
      go_wp2
      go_roundw
      case rel => exact ⟨i + 1, by omega, by omega, by first | rfl | simp, ⟨a', c', by rw [HLL.out], HO6.out⟩, HC6.out, HG6.out⟩
      case measure => have := HLL.out; simp; omega
    · have e : i = m := by omega
      subst e
      have hyp : y = p := by rw [← HY.out]; exact HBK.out
      subst hyp
      go_wp2
      go_ret
      exact ⟨av, cv, rfl, by have := HO4.out; rw [HALL.out] at this; exact this, HGR.out⟩
end Go.Proofs.Ytjgjcppkbfojpaa.Rhy

/-
  Helpers of the claims beside this text: slices of circles.
-/
namespace Go.Proofs.Ytjgjcppkbfojpaa.Rhy
open Go.RowKit
set_option linter.unusedVariables false
set_option linter.unusedSimpArgs false

theorem infoC : (Try.prog.info? 81).map (fun i => (i.zero, i.size, i.bytes)) = some (some Value.nilFunc, 1, 8) := by kernel_rfl
/-- Circles in a slice: its row, and those from place k on as they were made. -/
structure Circs (w : World) (lo hi : Nat) (v : Value) (d n : Nat) (Bs : List Nat) (k : Nat) : Prop where
  row : w.ownsRow lo 81 1 v Bs.length (Bs.map cirV)
  rhi : ∀ x, v.ownBlock = some x → x < hi
  box : ∀ (j b : Nat), Bs[j]? = some b → k ≤ j → CirAt w b d n j
  bhi : ∀ (j b : Nat), Bs[j]? = some b → lo ≤ b ∧ b + 3 ≤ hi
  asc : Bs.Pairwise (fun a b => a + 3 ≤ b)
theorem circs_nil (w : World) (lo hi d n : Nat) : Circs w lo hi (.slice none 0 0) d n [] 0 :=
  ⟨World.ownsRow_nil _ _ _ _, fun x h => by simp [Value.ownBlock] at h, fun j b h => by simp at h, fun j b h => by simp at h, List.Pairwise.nil⟩
theorem Circs.below {w w' : World} {lo hi : Nat} {v : Value} {d n : Nat} {Bs : List Nat} {k : Nat} (h : Circs w lo hi v d n Bs k) (hb : Below hi w w') : Circs w' lo hi v d n Bs k :=
  ⟨own_at h.row (fun x hx => hb.block x (h.rhi x hx)), h.rhi, fun j b hj hk => (h.box j b hj hk).of (fun x h1 h2 => hb.block x (by have := (h.bhi j b hj).2; omega)), h.bhi, h.asc⟩
theorem asc_at {Bs : List Nat} (h : Bs.Pairwise (fun a b => a + 3 ≤ b)) {i j a b : Nat} (hi : Bs[i]? = some a) (hj : Bs[j]? = some b) (hij : i < j) : a + 3 ≤ b := by
  rw [List.pairwise_iff_getElem] at h
  have h1 := at_lt hi
  have h2 := at_lt hj
  have := h i j h1 h2 hij
  rw [List.getElem?_eq_getElem h1] at hi
  rw [List.getElem?_eq_getElem h2] at hj
  rw [Option.some.inj hi, Option.some.inj hj] at this
  exact this
/-- The circle at place k has been gone around. -/
theorem Circs.step {w w' : World} {lo hi : Nat} {v : Value} {d n : Nat} {Bs : List Nat} {k b : Nat} (h : Circs w lo hi v d n Bs k) (hk : Bs[k]? = some b) (hg : w.grownBy w' (some (b + 2))) : Circs w' lo hi v d n Bs (k + 1) := by
  have hc := h.box k b hk (Nat.le_refl _)
  have hne : some (b + 2) ≠ v.ownBlock := hc.p.not_row (by decide) h.row
  refine ⟨own_grown h.row hg (fun x hx e => hne (by rw [e, hx])), h.rhi, fun j b' hj hkj => ?_, h.bhi, h.asc⟩
  have h1 := h.box j b' hj (by omega)
  have h2 := asc_at h.asc hk hj (by omega)
  exact ⟨h1.d.kept hg (fun e => by have := Option.some.inj e; omega), h1.n.kept hg (fun e => by have := Option.some.inj e; omega), h1.p.kept hg (fun e => by have := Option.some.inj e; omega)⟩
/-- 'circles = append(circles, c)' at a slice of circles of the call's own. -/
theorem append_cir {ops : Array Oper} {rest : List Oper} {o : Oper} {a : Act} {Q : Exit → Act → World → Prop} (hgd : o.guard = none) (x y : Operand)
    (ho : o.op = .call { callee := .builtin .append, args := #[x, y], argTypes := #[79, 79] })
    (lo : Nat) (v : Value) (d n : Nat) (Bs : List Nat) (wr w2 : World) (h : Circs wr lo wr.heap.size v d n Bs 0) (hb : Below wr.heap.size wr w2) (hc : CirAt w2 wr.heap.size d n Bs.length) (hz : w2.heap.size = wr.heap.size + 3) (hlo : lo ≤ wr.heap.size) (hl : Bs.length ≤ 1048577) (N : Nat) (hN : N = w2.heap.size)
    (hs : a.eval x = v) (hx : a.eval y = .slice (some ⟨N, 0, none⟩) 1 1)
    (hK : ∀ a' c' w3, Circs w3 lo w3.heap.size (.slice a' (Bs.length + 1) c') d n (Bs ++ [wr.heap.size]) 0 → Below lo w2 w3 → wpList Try.prog ops Q rest (a.put o.dst (.slice a' (Bs.length + 1) c')) w3) :
    wpList Try.prog ops Q (o :: rest) a (w2.alloc (.cells #[cirV wr.heap.size] 81)) := by
  obtain ⟨i0, hi, hz0, hsz, hby⟩ := info_parts' infoC
  subst hN
  have h2 := h.below hb
  refine wpList_append_own _ hgd x y 79 ho lo 81 i0 Value.nilFunc 1 8 Try.underlying79 hi hz0 hsz hby rfl (by decide) v Bs.length (Bs.map cirV) hs (h2.row.alloc _) ⟨w2.heap.size, 0, none⟩ 1 1 [cirV wr.heap.size] hx rfl (cell_one_new _ _ _) ?_ ?_ ?_ ?_ ?_
  · intro u hu
    simp only [List.mem_cons, List.not_mem_nil, or_false] at hu
    rcases hu with rfl
    rfl
  · unfold maxLen; omega
  · omega
  · simp; omega
  · intro v' w' ho' hg _
    have ho2 : w'.ownsRow lo 81 1 v' (Bs.length + 1) (Bs.map cirV ++ [cirV wr.heap.size]) := ho'
    obtain ⟨g, cap, rfl⟩ := ownsRow_succ ho2
    have hkeep : ∀ (t : TypeId) (b : Nat) (u : Value), t ≠ 81 → Boxed w2 b t u → Boxed w' b t u := fun t b u ht hx => (hx.alloc _).kept hg (hx.not_row ht h2.row)
    refine hK _ cap w' ⟨by rw [List.map_append, List.length_append]; exact ho2, fun x hx => (ho2.lt x hx).2, fun j b hj _ => ?_, fun j b hj => ?_, ?_⟩ ((((Below.refl lo w2).alloc (by omega) _).grown hg (by simp; omega) fun k hk => (h2.row.lt k hk).1))
    · rcases getElem_snoc hj with q | ⟨e1, e2⟩
      · have h3 := h2.box j b q (Nat.zero_le _)
        exact ⟨hkeep _ _ _ (by decide) h3.d, hkeep _ _ _ (by decide) h3.n, hkeep _ _ _ (by decide) h3.p⟩
      · rw [e1, e2]
        exact ⟨hkeep _ _ _ (by decide) hc.d, hkeep _ _ _ (by decide) hc.n, hkeep _ _ _ (by decide) hc.p⟩
    · have hsz' := hg.size
      simp at hsz'
      rcases getElem_snoc hj with q | ⟨e1, e2⟩
      · have := h.bhi j b q; omega
      · omega
    · rw [List.pairwise_append]
      refine ⟨h.asc, by simp, fun x hx y hy => ?_⟩
      rw [List.mem_singleton] at hy
      rw [hy]
      obtain ⟨j, hj⟩ := List.mem_iff_getElem?.1 hx
      exact (h.bhi j x hj).2

set_option maxHeartbeats 1000000 in
theorem circs_any (d n : Nat) (w : World) (hn : 2 ≤ n ∧ n ≤ 24) (hd : 1 ≤ d ∧ d < n) :
    Calls Try.prog 83 #[.int .i64 d, .int .i64 n] w fun e w' => ∃ a c Bs, e = .returned (.slice a (Nat.gcd n d) c) ∧ Bs.length = Nat.gcd n d ∧ Circs w' w.heap.size w'.heap.size (.slice a (Nat.gcd n d) c) d n Bs 0 ∧ Below w.heap.size w w' := by
  obtain ⟨g, hg⟩ : ∃ g, Nat.gcd n d = g := ⟨_, rfl⟩
  have HG : Hid (Nat.gcd d n = g) := Lib.hid (by rw [Nat.gcd_comm]; exact hg)
  have hg24 : g ≤ 24 := by rw [← hg]; have : Nat.gcd n d ≤ n := Nat.gcd_le_left _ (by omega); omega
  rw [hg]
  clear hg
  go_enter Try.func83, Try.ntmps83
  go_wp2_with fail
  refine (gcd_impl d n _ (by omega) (by omega)).mono ?_
  rintro e w1 ⟨rfl, hb1⟩
  have HB1 := Lib.hid hb1
  clear hb1
  rw [HG.out]
  go_wp2
  go_loopw [5, 10] (fun v i wr => ∃ (k : Nat) (Bs : List Nat) (av : Option Addr) (cv : Nat), k ≤ g ∧ i = .int .i64 k ∧ Bs.length = k ∧ v = .slice av Bs.length cv ∧ Circs wr w1.heap.size wr.heap.size (.slice av Bs.length cv) d n Bs 0 ∧ Below w1.heap.size w1 wr) (fun _ i _ => g - (intOf i).toNat)
  case atStart => exact ⟨0, [], none, 0, by omega, rfl, rfl, rfl, circs_nil _ _ _ _ _, Below.refl _ _⟩
  case round =>
    obtain ⟨k, Bs, av, cv, hk, rfl, hbs, rfl, hci, hbw⟩ := hrel
    have HBS := Lib.hid hbs
    have HCI := Lib.hid hci
    have HBW := Lib.hid hbw
    clear hbs hci hbw
    by_cases hlt : k < g
    · have hbl : Bs.length ≤ 1048577 := by have := HBS.out; omega
      go_wp2_with fail
      refine (cirFrom_any k d n wr).mono ?_
      rintro e w2 ⟨rfl, hc2, hb2, hz2⟩
      have HC2 : Hid (CirAt w2 wr.heap.size d n Bs.length) := Lib.hid (by rw [HBS.out]; exact hc2)
      unfold cirV
      have HB2 := Lib.hid hb2
      have HZ2 := Lib.hid hz2
      clear hc2 hb2 hz2
      go_wp2_with (at_builtin; refine append_cir rfl _ _ rfl w1.heap.size _ d n Bs wr w2 HCI.out HB2.out HC2.out HZ2.out HBW.out.size hbl _ rfl rfl rfl ?_; intro a' c' w3 hc3 hb3; have HC3 := Lib.hid hc3; have HB3 := Lib.hid hb3; clear hc3 hb3)
      go_roundw
      case rel => exact ⟨k + 1, Bs ++ [wr.heap.size], a', c', by omega, by go_num, by rw [List.length_append, HBS.out]; rfl, by rw [List.length_append]; rfl, by rw [List.length_append]; exact HC3.out, HBW.out.trans ((HB2.out.mono HBW.out.size).trans HB3.out)⟩
      case measure => simp [intOf]; omega
    · have e : k = g := by omega
      have HE : Hid (Bs.length = g) := Lib.hid (by rw [HBS.out, e])
      clear e
      go_wp2
      go_ret
      refine ⟨av, cv, Bs, by rw [HE.out]; rfl, HE.out, ?_, HB1.out.trans (HBW.out.mono HB1.out.size)⟩
      have hc := HCI.out
      rw [HE.out] at hc
      exact ⟨own_base hc.row HB1.out.size, hc.rhi, hc.box, fun j b hj => ⟨Nat.le_trans HB1.out.size (hc.bhi j b hj).1, (hc.bhi j b hj).2⟩, hc.asc⟩
end Go.Proofs.Ytjgjcppkbfojpaa.Rhy

/-
  Helpers of the claims beside this text: CirclesOf and MostAvoiding of the program.
-/
namespace Go.Proofs.Ytjgjcppkbfojpaa.Rhy
open Go.RowKit
set_option linter.unusedVariables false
set_option linter.unusedSimpArgs false

theorem once_lit (b d n p : Nat) (w : World) (h : CirAt w b d n p) (hn : 2 ≤ n ∧ n ≤ 24) (hd : 1 ≤ d ∧ d < n) (hp : p < n) :
    Calls Try.prog 84 #[cirV b] w fun e w' => ∃ a c, e = .returned (.slice a (cirZ n d p).length c) ∧ w'.ownsRow w.heap.size 3 1 (.slice a (cirZ n d p).length c) (cirZ n d p).length (ints (cirZ n d p)) ∧ w.grownBy w' (some (b + 2)) :=
  (onceC_any b d n p w h hn hd hp).mono (by rintro e w' ⟨a, c, rfl, ho, hg⟩; exact ⟨a, c, by rw [cirZ_len], by rw [cirZ_len]; exact ho, hg⟩)
theorem havec_yes (n d : Int) (w : World) (h : n ≤ 24) (h1 : 1 ≤ d) (h2 : d < n) : Calls Try.prog 82 #[.int .i64 n, .int .i64 d] w fun e w' => e = .returned (.bool true) ∧ w = w' := by
  go_enter Try.func82, Try.ntmps82
  go_wp2_with fail
  refine (isint_yes d n _ h1 h2).mono ?_
  rintro e w' ⟨rfl, rfl⟩
  go_wp2
  go_ret
  exact ⟨rfl, rfl⟩
theorem havec_no (n d : Int) (w : World) (h : ¬ (n ≤ 24 ∧ 1 ≤ d ∧ d < n)) : Calls Try.prog 82 #[.int .i64 n, .int .i64 d] w fun e w' => e = .returned (.bool false) ∧ w = w' := by
  by_cases hn : n ≤ 24
  · have HD : Hid (¬ (1 ≤ d ∧ d < n)) := Lib.hid (fun q => h ⟨hn, q⟩)
    clear h
    go_enter Try.func82, Try.ntmps82
    go_wp2_with fail
    refine (isint_no d n _ HD.out).mono ?_
    rintro e w' ⟨rfl, rfl⟩
    go_wp2
    go_ret
    exact ⟨rfl, rfl⟩
  · clear h
    go_enter Try.func82, Try.ntmps82
    go_wp2
    go_ret
    exact ⟨rfl, rfl⟩
theorem circs_cell {w : World} {lo hi gb g c d n : Nat} {Bs : List Nat} {k b : Nat} (h : Circs w lo hi (.slice (some ⟨gb, 0, none⟩) g c) d n Bs k) (hl : Bs.length = g) {j : Nat} (hj : Bs[j]? = some b) : w.cell? ⟨gb, j, none⟩ = some (cirV b) := by
  subst hl
  have hr := h.row
  have hlt := at_lt hj
  rw [hr.cellAt j (by omega), List.getElem?_map, hj]
  rfl
theorem circs_addr {w : World} {lo hi g c d n : Nat} {a : Option Addr} {Bs : List Nat} {k : Nat} (h : Circs w lo hi (.slice a g c) d n Bs k) (hl : Bs.length = g) (hg : 1 ≤ g) : ∃ gb, a = some ⟨gb, 0, none⟩ := by
  rcases h.row.2 with ⟨_, h0⟩ | ⟨gb, cap, cur, hv, _⟩
  · omega
  · exact ⟨gb, by injection hv⟩

set_option maxHeartbeats 1000000 in
theorem mostav_impl (n d : Int) (w : World) (h1 : -9223372036854775808 ≤ n) (h2 : n ≤ 9223372036854775807) (h3 : -9223372036854775808 ≤ d) (h4 : d ≤ 9223372036854775807) :
    Calls Try.prog 34 #[.int .i64 n, .int .i64 d] w fun e w' => e = .returned (.int .i64 (moaB n d)) ∧ Below w.heap.size w w' := by
  by_cases hc : n ≤ 24 ∧ 1 ≤ d ∧ d < n
  · have HE := Lib.hid (moaB_yes (n := n) (d := d) ⟨⟨by omega, hc.1⟩, by omega⟩)
    obtain ⟨N, rfl⟩ : ∃ N : Nat, n = N := ⟨n.toNat, by omega⟩
    obtain ⟨D, rfl⟩ : ∃ D : Nat, d = D := ⟨d.toNat, by omega⟩
    have HC := Lib.hid hc
    have HN : Hid (2 ≤ N ∧ N ≤ 24) := Lib.hid (by omega)
    have HD : Hid (1 ≤ D ∧ D < N) := Lib.hid (by omega)
    obtain ⟨g, hg⟩ : ∃ g, Nat.gcd N D = g := ⟨_, rfl⟩
    have hg1 : 1 ≤ g := by rw [← hg]; exact Nat.gcd_pos_of_pos_left _ (by omega)
    have hgn : g ≤ N := by rw [← hg]; exact Nat.gcd_le_left _ (by omega)
    obtain ⟨m, hm⟩ : ∃ m, N / g = m := ⟨_, rfl⟩
    have hm24 : m ≤ 24 := by rw [← hm]; have : N / g ≤ N := Nat.div_le_self _ _; omega
    obtain ⟨q, hq⟩ : ∃ q, m / 2 = q := ⟨_, rfl⟩
    have hq12 : q ≤ 12 := by omega
    have hqi : (m : Int) / 2 = (q : Int) := by omega
    have HQI := Lib.hid hqi
    have HM : Hid ((mostN (N : Int).toNat (D : Int).toNat : Nat) = g * q) := Lib.hid (by unfold mostN; rw [Int.toNat_natCast, Int.toNat_natCast, hg, hm, hq])
    have HLEN : Hid (∀ k, (cirZ N D k).length = m) := Lib.hid (fun k => by rw [cirZ_len, hg, hm])
    have HG := Lib.hid hg
    clear hg hm hq hqi hc
    rw [HE.out, HM.out]
    go_enter Try.func34, Try.ntmps34
    go_wp2_with fail
    refine (havec_yes N D _ HC.out.1 HC.out.2.1 HC.out.2.2).mono ?_
    rintro e w' ⟨rfl, rfl⟩
    go_wp2_with fail
    refine (circs_any D N _ HN.out HD.out).mono ?_
    rintro e w1 ⟨a, c, Bs, rfl, hbl, hci, hb1⟩
    rw [HG.out] at hbl hci ⊢
    obtain ⟨gb, rfl⟩ := circs_addr hci hbl hg1
    have HBL := Lib.hid hbl
    have HCI := Lib.hid hci
    have HB1 := Lib.hid hb1
    clear hbl hci hb1
    go_wp2
    go_loopw [5, 16] (fun v i wr => ∃ k : Nat, k ≤ g ∧ i = .int .i64 k ∧ v = .int .i64 ((k * q : Nat) : Int) ∧ Circs wr w.heap.size w1.heap.size (.slice (some ⟨gb, 0, none⟩) g c) D N Bs k ∧ Below w.heap.size w wr ∧ w1.heap.size ≤ wr.heap.size) (fun _ i _ => g - (intOf i).toNat)
    case atStart => exact ⟨0, by omega, rfl, by simp, HCI.out, HB1.out, Nat.le_refl _⟩
    case round =>
      obtain ⟨k, hk, rfl, rfl, hci, hbw, hzw⟩ := hrel
      have HCK := Lib.hid hci
      have HBW := Lib.hid hbw
      clear hci hbw
      obtain ⟨x, hx⟩ : ∃ x, k * q = x := ⟨_, rfl⟩
      have hxb : x ≤ 288 := by rw [← hx]; exact Nat.mul_le_mul (show k ≤ 24 by have := HN.out; omega) hq12
      have HXX : Hid ((k + 1) * q = x + q) := Lib.hid (by rw [Nat.add_mul, Nat.one_mul, hx])
      have HX := Lib.hid hx
      rw [hx]
      clear hx
      by_cases hlt : k < g
      · obtain ⟨b, hb⟩ : ∃ b, Bs[k]? = some b := ⟨_, List.getElem?_eq_getElem (by have := HBL.out; omega)⟩
        have HBK := Lib.hid hb
        have hcell := circs_cell HCK.out HBL.out hb
        clear hb
        go_wp2_with fail
        refine (once_lit b D N k wr (HCK.out.box k b HBK.out (Nat.le_refl _)) HN.out HD.out (by omega)).mono ?_
        rintro e w2 ⟨a2, c2, rfl, -, hgr⟩
        rw [HLEN.out]
        have HGR := Lib.hid hgr
        have hbh := HCK.out.bhi k b HBK.out
        have hz2 := hgr.size
        have HC2 := Lib.hid (HCK.out.step HBK.out hgr)
        have HB2 : Hid (Below w.heap.size w w2) := Lib.hid (HBW.out.trans (below_grown hgr (by omega) HBW.out.size))
        clear hgr hcell
        have hqi := HQI.out
        have hw1 : wrap64 ((x : Int) + (q : Int)) = x + q := by unfold wrap64; omega
        have HVAL : Hid (Value.int .i64 ((x : Int) + (q : Int)) = Value.int .i64 (((k + 1) * q : Nat) : Int)) := Lib.hid (by rw [HXX.out]; simp)
        clear hw1
        go_wp2
        go_roundw
        case rel => exact ⟨k + 1, by omega, by go_num, HVAL.out, HC2.out, HB2.out, by omega⟩
        case measure => simp [intOf]; omega
      · have e : k = g := by omega
        have HE2 : Hid (g * q = x) := Lib.hid (by rw [← e]; exact HX.out)
        clear e
        go_wp2
        go_ret
        exact ⟨by rw [HE2.out]; rfl, HBW.out⟩
  · have HC := Lib.hid hc
    have HE := Lib.hid (moaB_no (n := n) (d := d) (fun x => hc (by have := x.1; have := x.2; omega)))
    clear hc
    rw [HE.out]
    go_enter Try.func34, Try.ntmps34
    go_wp2_with fail
    refine (havec_no n d _ HC.out).mono ?_
    rintro e w' ⟨rfl, rfl⟩
    go_wp2
    go_ret
    exact ⟨rfl, Below.refl _ _⟩

/-- What both answer. -/
noncomputable def cirB (n d : Int) : List (List Int) := @ite _ (MoC n d) (Classical.propDecidable _) (cirsZ n.toNat d.toNat) []
theorem cirB_yes {n d : Int} (h : MoC n d) : cirB n d = cirsZ n.toNat d.toNat := by simp [cirB, h]
theorem cirB_no {n d : Int} (h : ¬ MoC n d) : cirB n d = [] := by simp [cirB, h]
theorem valsL_snoc {L : List Lit} {P : List (List Int)} {r : Lit} (h : valsL L = P) : valsL (L ++ [r]) = P ++ [r.zs] := by rw [← h]; simp [valsL]
theorem ls_none {w w' : World} (hb : Below w.heap.size w w') : LSPost [] w (.returned (.slice none 0 0)) w' := ⟨none, 0, [], rfl, lits_nil _ _, rfl, hb⟩

set_option maxHeartbeats 1000000 in
theorem cir_impl (n d : Int) (w : World) (h1 : -9223372036854775808 ≤ n) (h2 : n ≤ 9223372036854775807) (h3 : -9223372036854775808 ≤ d) (h4 : d ≤ 9223372036854775807) :
    Calls Try.prog 32 #[.int .i64 n, .int .i64 d] w (LSPost (cirB n d) w) := by
  by_cases hc : n ≤ 24 ∧ 1 ≤ d ∧ d < n
  · have HE := Lib.hid (cirB_yes (n := n) (d := d) ⟨⟨by omega, hc.1⟩, by omega⟩)
    obtain ⟨N, rfl⟩ : ∃ N : Nat, n = N := ⟨n.toNat, by omega⟩
    obtain ⟨D, rfl⟩ : ∃ D : Nat, d = D := ⟨d.toNat, by omega⟩
    have HC := Lib.hid hc
    have HN : Hid (2 ≤ N ∧ N ≤ 24) := Lib.hid (by omega)
    have HD : Hid (1 ≤ D ∧ D < N) := Lib.hid (by omega)
    obtain ⟨g, hg⟩ : ∃ g, Nat.gcd N D = g := ⟨_, rfl⟩
    have hg1 : 1 ≤ g := by rw [← hg]; exact Nat.gcd_pos_of_pos_left _ (by omega)
    have hgn : g ≤ N := by rw [← hg]; exact Nat.gcd_le_left _ (by omega)
    have HTK : Hid (∀ k, k < g → (cirsZ N D).take (k + 1) = (cirsZ N D).take k ++ [cirZ N D k]) := Lib.hid (fun k hk => cirsZ_take (by rw [hg]; exact hk))
    have HPL : Hid ((cirsZ N D).length = g) := Lib.hid (by rw [cirsZ_len, hg])
    have HG := Lib.hid hg
    rw [Int.toNat_natCast, Int.toNat_natCast] at HE
    clear hg hc
    rw [HE.out]
    go_enter Try.func32, Try.ntmps32
    go_wp2_with fail
    refine (havec_yes N D _ HC.out.1 HC.out.2.1 HC.out.2.2).mono ?_
    rintro e w' ⟨rfl, rfl⟩
    go_wp2_with fail
    refine (circs_any D N _ HN.out HD.out).mono ?_
    rintro e w1 ⟨a, c, Bs, rfl, hbl, hci, hb1⟩
    rw [HG.out] at hbl hci ⊢
    obtain ⟨gb, rfl⟩ := circs_addr hci hbl hg1
    have HBL := Lib.hid hbl
    have HCI := Lib.hid hci
    have HB1 := Lib.hid hb1
    clear hbl hci hb1
    go_wp2
    go_loopw [5, 16] (fun v i wr => ∃ (k : Nat) (L : List Lit) (av : Option Addr) (cv : Nat), k ≤ g ∧ i = .int .i64 k ∧ v = .slice av L.length cv ∧ Lits wr w1.heap.size (.slice av L.length cv) L ∧ valsL L = (cirsZ N D).take k ∧ L.length = k ∧ Circs wr w.heap.size w1.heap.size (.slice (some ⟨gb, 0, none⟩) g c) D N Bs k ∧ Below w.heap.size w wr ∧ w1.heap.size ≤ wr.heap.size) (fun _ i _ => g - (intOf i).toNat)
    case atStart => exact ⟨0, [], none, 0, by omega, rfl, rfl, lits_nil _ _, rfl, rfl, HCI.out, HB1.out, Nat.le_refl _⟩
    case round =>
      obtain ⟨k, L, av, cv, hk, rfl, rfl, hli, hvl, hll, hci, hbw, hzw⟩ := hrel
      have HLI := Lib.hid hli
      have HVL := Lib.hid hvl
      have HLL := Lib.hid hll
      have HCK := Lib.hid hci
      have HBW := Lib.hid hbw
      have hl1 : L.length ≤ 1048577 := by have := HN.out; omega
      clear hli hvl hll hci hbw
      by_cases hlt : k < g
      · obtain ⟨b, hb⟩ : ∃ b, Bs[k]? = some b := ⟨_, List.getElem?_eq_getElem (by have := HBL.out; omega)⟩
        have HBK := Lib.hid hb
        have hcell := circs_cell HCK.out HBL.out hb
        clear hb
        go_wp2_with fail
        refine (once_lit b D N k wr (HCK.out.box k b HBK.out (Nat.le_refl _)) HN.out HD.out (by omega)).mono ?_
        rintro e w2 ⟨a2, c2, rfl, hown, hgr⟩
        have HO2 := Lib.hid hown
        have hbh := HCK.out.bhi k b HBK.out
        have hz2 := hgr.size
        have HZ2 := Lib.hid hz2
        have HC2 := Lib.hid (HCK.out.step HBK.out hgr)
        have HB2 : Hid (Below w.heap.size w w2) := Lib.hid (HBW.out.trans (below_grown hgr (by omega) HBW.out.size))
        have HLI2 : Hid (Lits w2 w1.heap.size (.slice av L.length cv) L) := Lib.hid (HLI.out.grown hgr (fun x hx e => by have := (HLI.out.outer.lt x hx).1; have := Option.some.inj e; omega) (fun i r x hi hx e => by have := ((HLI.out.each i r hi).lt x hx).1; have := Option.some.inj e; omega))
        clear hgr hcell hown
        go_wp2_with (at_builtin; refine append_lit rfl _ _ rfl w1.heap.size _ L ⟨a2, c2, cirZ N D k⟩ wr w2 HLI2.out (fun i r x hi hx => ((HLI.out.each i r hi).lt x hx).2) (fun x hx => (HLI.out.outer.lt x hx).2) HZ2.out hzw hl1 HO2.out _ rfl rfl rfl ?_; intro a' c' w3 hli3 hb3 hz3 _; have HLI3 := Lib.hid hli3; have HB3 := Lib.hid hb3; have HZ3 := Lib.hid hz3; clear hli3 hb3 hz3)
        go_roundw
        case rel =>
          refine ⟨k + 1, L ++ [⟨a2, c2, cirZ N D k⟩], a', c', by omega, by go_num, by rw [List.length_append]; rfl, by rw [List.length_append]; exact HLI3.out, by rw [HTK.out k hlt]; exact valsL_snoc HVL.out, by rw [List.length_append, HLL.out]; rfl, HC2.out.below HB3.out, HB2.out.trans (HB3.out.mono HB1.out.size), ?_⟩
          have := HZ2.out; have := HZ3.out; omega
        case measure => simp [intOf]; omega
      · have e : k = g := by omega
        have HE2 : Hid (valsL L = cirsZ N D) := Lib.hid (by have := HVL.out; rwa [e, List.take_of_length_le (by rw [HPL.out]; exact Nat.le_refl _)] at this)
        have HL2 : Hid (L.length = (cirsZ N D).length) := Lib.hid (by rw [HLL.out, HPL.out, e])
        clear e
        go_wp2
        go_ret
        exact ⟨av, cv, L, by rw [HL2.out]; rfl, by have := HLI.out.base HB1.out.size; rwa [HL2.out] at this, HE2.out, HBW.out⟩
  · have HC := Lib.hid hc
    have HE := Lib.hid (cirB_no (n := n) (d := d) (fun x => hc (by have := x.1; have := x.2; omega)))
    clear hc
    rw [HE.out]
    go_enter Try.func32, Try.ntmps32
    go_wp2_with fail
    refine (havec_no n d _ HC.out).mono ?_
    rintro e w' ⟨rfl, rfl⟩
    go_wp2
    go_ret
    exact ls_none (Below.refl _ _)
end Go.Proofs.Ytjgjcppkbfojpaa.Rhy
