/-
  Helpers of the claims beside this text: the program's circles: functions that give one pulse after another; CirclesOf, MostAvoiding.
-/
import Derived.Test.YtpbceckbmalabaaItl
import Derived.Test.YtpbceckbmalabaaOdm
import Derived.Test.YtpbceckbmalabaaOca
namespace Go.Proofs.Ytpbceckbmalabaa.Rhy
open Go.RowKit
set_option linter.unusedVariables false
set_option linter.unusedSimpArgs false

/-- A circle whose three variables lie in blocks b (d), b + 1 (the size), b + 2 (the pulse ahead). -/
def cirV (b : Nat) : Value := .func (.func 89) #[] #[.pointer (some ⟨b + 2, 0, none⟩), .pointer (some ⟨b, 0, none⟩), .pointer (some ⟨b + 1, 0, none⟩)]
structure CirAt (w : World) (b d n p : Nat) : Prop where
  d : Boxed w b 3 (.int .i64 d)
  n : Boxed w (b + 1) 3 (.int .i64 n)
  p : Boxed w (b + 2) 3 (.int .i64 p)
theorem CirAt.of {w w' : World} {b d n p : Nat} (h : CirAt w b d n p) (hs : ∀ k, b ≤ k → k < b + 3 → w'.heap[k]? = w.heap[k]?) : CirAt w' b d n p :=
  ⟨(hs b (by omega) (by omega)).trans h.d, (hs (b + 1) (by omega) (by omega)).trans h.n, (hs (b + 2) (by omega) (by omega)).trans h.p⟩
theorem grown_then {w a b : World} {r : Nat} (h : w.grownBy a (some r)) (hb : Below w.heap.size a b) : w.grownBy b (some r) :=
  ⟨hb.os.trans h.os, hb.tape.trans h.tape, hb.output.trans h.output, Nat.le_trans h.size hb.size, fun k hk hne => (hb.block k hk).trans (h.block k hk hne)⟩
theorem below_grown {w a : World} {r B : Nat} (h : w.grownBy a (some r)) (hB : B ≤ r) (hBw : B ≤ w.heap.size) : Below B w a :=
  ⟨h.os, h.tape, h.output, h.size, fun k hk => h.block k (by omega) (fun e => by have := Option.some.inj e; omega)⟩
theorem own_at {w w' : World} {B : Nat} {e : TypeId} {size n : Nat} {v : Value} {xs : List Value} (h : w.ownsRow B e size v n xs) (hs : ∀ k, v.ownBlock = some k → w'.heap[k]? = w.heap[k]?) : w'.ownsRow B e size v n xs := by
  refine ⟨h.1, ?_⟩
  rcases h.2 with hn | ⟨g, c, cur, rfl, hb, hg, rest⟩
  · exact .inl hn
  · exact .inr ⟨g, c, cur, rfl, hb, by rw [hs g rfl]; exact hg, rest⟩

set_option maxHeartbeats 400000 in
theorem cirNext_any (b d n p : Nat) (w : World) (h : CirAt w b d n p) (hn : 1 ≤ n ∧ n ≤ 24) (hd : d ≤ 24) (hp : p ≤ 24) :
    Calls Try.prog 89 #[.pointer (some ⟨b + 2, 0, none⟩), .pointer (some ⟨b, 0, none⟩), .pointer (some ⟨b + 1, 0, none⟩)] w
      fun e w' => e = .returned (.int .i64 p) ∧ w' = w.setCell ⟨b + 2, 0, none⟩ (.int .i64 (((p + d) % n : Nat) : Int)) := by
  have x1 := h.d.cell
  have x2 := h.n.cell
  have x3 := h.p.cell
  have x4 := h.p.frozen
  have hn1 := hn.1
  have hn24 := hn.2
  have HR : Hid (remB ((p : Int) + d) n = (((p + d) % n : Nat) : Int)) := Lib.hid (by unfold remB; simp)
  have hw1 : wrap64 ((p : Int) + d) = p + d := by unfold wrap64; omega
  clear h hn
  go_enter Try.func89, Try.ntmps89
  go_wp2_with fail
  refine (around_any ((p : Int) + d) n _ (by omega) (by omega) (by omega) (by omega)).mono ?_
  rintro e w' ⟨rfl, rfl⟩
  rw [HR.out]
  go_wp2
  go_ret
  exact ⟨rfl, rfl⟩

set_option maxHeartbeats 400000 in
theorem cirFrom_any (p d n : Nat) (w : World) :
    Calls Try.prog 76 #[.int .i64 p, .int .i64 d, .int .i64 n] w fun e w' => e = .returned (cirV w.heap.size) ∧ CirAt w' w.heap.size d n p ∧ Below w.heap.size w w' ∧ w'.heap.size = w.heap.size + 3 := by
  have HX : Hid (∀ W : World, W = ((w.alloc (.cells #[.int .i64 d] 3)).alloc (.cells #[.int .i64 n] 3)).alloc (.cells #[.int .i64 p] 3) → CirAt W w.heap.size d n p ∧ Below w.heap.size w W ∧ W.heap.size = w.heap.size + 3) := Lib.hid (by
    rintro W rfl
    have h2 := Boxed.new (w.alloc (.cells #[.int .i64 d] 3)) 3 (.int .i64 n)
    have h3 := Boxed.new ((w.alloc (.cells #[.int .i64 d] 3)).alloc (.cells #[.int .i64 n] 3)) 3 (.int .i64 p)
    simp only [World.size_alloc] at h2 h3
    exact ⟨⟨((Boxed.new w 3 (.int .i64 d)).alloc _).alloc _, h2.alloc _, h3⟩, (bel2 w _ _).trans ((bel1 _ _).mono (by simp; omega)), by simp⟩)
  go_enter Try.func76, Try.ntmps76
  go_wp2
  go_ret
  exact ⟨rfl, HX.out _ rfl⟩

set_option maxHeartbeats 1000000 in
theorem once_any (b d n p : Nat) (w : World) (h : CirAt w b d n p) (hn : 2 ≤ n ∧ n ≤ 24) (hd : 1 ≤ d ∧ d < n) (hp : p < n) :
    Calls Try.prog 50 #[cirV b] w fun e w' => ∃ a c, e = .returned (.slice a (n / Nat.gcd n d) c) ∧ w'.ownsRow w.heap.size 3 1 (.slice a (n / Nat.gcd n d) c) (n / Nat.gcd n d) (ints (cirZ n d p)) ∧ w.grownBy w' (some (b + 2)) := by
  obtain ⟨m, hm⟩ : ∃ m, n / Nat.gcd n d = m := ⟨_, rfl⟩
  have hm1 : 1 ≤ m := by rw [← hm]; exact circ_pos hn.1 hd
  have hm24 : m ≤ 24 := by rw [← hm]; have : n / Nat.gcd n d ≤ n := Nat.div_le_self _ _; omega
  have HTK : Hid (∀ i, i < m → (cirZ n d p).take (i + 1) = (cirZ n d p).take i ++ [(((p + i * d) % n : Nat) : Int)]) := Lib.hid (fun i hi => cirZ_take (by rw [hm]; exact hi))
  have HON : Hid (∀ i, 0 < i → i < m → (p + i * d) % n ≠ p) := Lib.hid (fun i h0 hi => circ_on hn hd hp h0 (by rw [hm]; exact hi))
  have HBK : Hid ((p + m * d) % n = p) := Lib.hid (by rw [← hm]; exact circ_back hn hd hp)
  have HALL : Hid ((cirZ n d p).take m = cirZ n d p) := Lib.hid (List.take_of_length_le (by rw [cirZ_len, hm]; exact Nat.le_refl _))
  have HLEN : Hid (∀ i, i ≤ m → ((cirZ n d p).take i).length = i) := Lib.hid (fun i hi => by rw [List.length_take, cirZ_len, hm]; omega)
  have HNX : Hid (∀ i : Nat, ((p + i * d) % n + d) % n = (p + (i + 1) * d) % n) := Lib.hid (fun i => by rw [Nat.mod_add_mod, Nat.add_assoc, Nat.add_mul, Nat.one_mul])
  have HMD : Hid (∀ i : Nat, (p + i * d) % n < n) := Lib.hid (fun i => Nat.mod_lt _ (by omega))
  have HH := Lib.hid h
  have hbw := h.p.lt
  have hn1 := hn.1
  have hn24 := hn.2
  have hd1 := hd.1
  have hd2 := hd.2
  clear h hn hd
  rw [hm]
  clear hm
  unfold cirV
  go_enter Try.func50, Try.ntmps50
  go_wp2_with fail
  refine (cirNext_any b d n p _ HH.out (by omega) (by omega) (by omega)).mono ?_
  rintro e w1 ⟨rfl, hw1⟩
  have HC1 : Hid (CirAt w1 b d n ((p + d) % n)) := Lib.hid (by
    rw [hw1]
    exact ⟨HH.out.d.other (by omega) _, HH.out.n.other (by omega) _, HH.out.p.set _⟩)
  have HG1 : Hid (w.grownBy w1 (some (b + 2))) := Lib.hid (by rw [hw1]; exact grownBy_setCell' w (b + 2) _)
  have HZ1 : Hid (w1.heap.size = w.heap.size) := Lib.hid (by rw [hw1]; simp)
  clear hw1
  go_wp2_with fail
  obtain ⟨W2, hW2⟩ : ∃ W2, W2 = w1.alloc (.cells #[.int .i64 p] 3) := ⟨_, rfl⟩
  rw [← hW2]
  have HO2 : Hid (W2.ownsRow w.heap.size 3 1 (.slice (some ⟨w1.heap.size, 0, none⟩) 1 1) 1 (ints ((cirZ n d p).take 1))) := Lib.hid (by
    have e := HTK.out 0 (by omega)
    rw [Nat.zero_add, List.take_zero, List.nil_append, Nat.zero_mul, Nat.add_zero, Nat.mod_eq_of_lt hp] at e
    rw [e, hW2]
    exact ⟨rfl, .inr ⟨w1.heap.size, 1, #[.int .i64 p], rfl, by rw [HZ1.out]; exact Nat.le_refl _, heap_alloc_new w1 _, Nat.le_refl _, by unfold maxLen; omega, rfl, rfl⟩⟩)
  have HC2 : Hid (CirAt W2 b d n ((p + d) % n)) := Lib.hid (by rw [hW2]; exact ⟨HC1.out.d.alloc _, HC1.out.n.alloc _, HC1.out.p.alloc _⟩)
  have HG2 : Hid (w.grownBy W2 (some (b + 2))) := Lib.hid (by rw [hW2]; exact grown_then HG1.out ((bel1 w1 _).mono (by rw [HZ1.out]; exact Nat.le_refl _)))
  clear hW2
  have hq1 := HMD.out 1
  rw [Nat.one_mul] at hq1
  refine (cirNext_any b d n ((p + d) % n) _ HC2.out (by omega) (by omega) (by omega)).mono ?_
  rintro e w3 ⟨rfl, hw3⟩
  have HC3 : Hid (CirAt w3 b d n ((p + (1 + 1) * d) % n)) := Lib.hid (by
    rw [hw3]
    have e1 := HNX.out 1
    rw [Nat.one_mul] at e1
    rw [← e1]
    exact ⟨HC2.out.d.other (by omega) _, HC2.out.n.other (by omega) _, HC2.out.p.set _⟩)
  have HG3 : Hid (w.grownBy w3 (some (b + 2))) := Lib.hid (by rw [hw3]; exact HG2.out.trans (grownBy_setCell' W2 (b + 2) _))
  have HO3 : Hid (w3.ownsRow w.heap.size 3 1 (.slice (some ⟨w1.heap.size, 0, none⟩) 1 1) 1 (ints ((cirZ n d p).take 1))) := Lib.hid (by
    rw [hw3]
    exact own_grown HO2.out (grownBy_setCell' W2 (b + 2) _) (fun k hk e => by have := (HO2.out.lt k hk).1; have := Option.some.inj e; omega))
  have HQ1 : Hid (((p + d) % n : Nat) = (p + 1 * d) % n) := Lib.hid (by rw [Nat.one_mul])
  clear hw3 hq1
  rw [HQ1.out]
  go_wp2
  go_loopw [4, 5] (fun v x wr => ∃ i : Nat, 1 ≤ i ∧ i ≤ m ∧ x = .int .i64 (((p + i * d) % n : Nat) : Int) ∧ (∃ av cv, v = .slice av i cv ∧ wr.ownsRow w.heap.size 3 1 (.slice av i cv) i (ints ((cirZ n d p).take i))) ∧ CirAt wr b d n ((p + (i + 1) * d) % n) ∧ w.grownBy wr (some (b + 2))) (fun v _ _ => m + 1 - (match v with | .slice _ k _ => k | _ => 0))
  case atStart => exact ⟨1, by omega, hm1, by simp, ⟨_, _, rfl, HO3.out⟩, HC3.out, HG3.out⟩
  case round =>
    obtain ⟨i, hi1, him, rfl, ⟨av, cv, rfl, hown⟩, hci, hgr⟩ := hrel
    have HO4 := Lib.hid hown
    have HCI := Lib.hid hci
    have HGR := Lib.hid hgr
    have hzz := hgr.size
    have hqi := HMD.out i
    have hqj := HMD.out (i + 1)
    clear hown hci hgr
    obtain ⟨y, hy⟩ : ∃ y, (p + i * d) % n = y := ⟨_, rfl⟩
    have HY := Lib.hid hy
    rw [hy] at hqi ⊢
    clear hy
    by_cases hlt : i < m
    · have hne : ¬ y = p := by rw [← HY.out]; exact HON.out i (by omega) hlt
      have hne2 : ((y : Int) == (p : Int)) = false := by simp; omega
      have hne3 : ((y : Int) != (p : Int)) = true := by simp; omega
      obtain ⟨L, hL⟩ : ∃ L, (cirZ n d p).take i = L := ⟨_, rfl⟩
      have HL := Lib.hid hL
      have hll : L.length = i := by rw [← hL]; exact HLEN.out i him
      have HLL := Lib.hid hll
      have HT2 : Hid ((cirZ n d p).take (i + 1) = L ++ [(y : Int)]) := Lib.hid (by rw [HTK.out i hlt, hL, HY.out])
      have HOL : Hid (wr.ownsRow w.heap.size 3 1 (.slice av i cv) L.length (ints L)) := Lib.hid (by have := HO4.out; rw [hL] at this; rw [hll]; exact this)
      clear hL hll
      go_wp2_with (at_builtin; refine append_int rfl _ _ rfl w.heap.size _ L _ _ HOL.out (by have := HLL.out; omega) hzz _ rfl rfl rfl ?_; intro a' c' w4 hown' hb'; have HO5 := Lib.hid hown'; have HX5 := Lib.hid hb'; clear hown' hb')
      have HC5 : Hid (CirAt w4 b d n ((p + (i + 1) * d) % n)) := Lib.hid (HCI.out.of (fun k h1 h2 => HX5.out.block k (by omega)))
      have HG5 : Hid (w.grownBy w4 (some (b + 2))) := Lib.hid (grown_then HGR.out HX5.out)
      have HLN : Hid ((L ++ [(y : Int)]).length = i + 1) := Lib.hid (by rw [List.length_append, HLL.out]; rfl)
      try rw [HLN.out]
      go_wp2_with fail
      refine (cirNext_any b d n ((p + (i + 1) * d) % n) _ HC5.out (by omega) (by omega) (by omega)).mono ?_
      rintro e w6 ⟨rfl, hw6⟩
      have HC6 : Hid (CirAt w6 b d n ((p + (i + 1 + 1) * d) % n)) := Lib.hid (by
        rw [hw6, ← HNX.out (i + 1)]
        exact ⟨HC5.out.d.other (by omega) _, HC5.out.n.other (by omega) _, HC5.out.p.set _⟩)
      have HG6 : Hid (w.grownBy w6 (some (b + 2))) := Lib.hid (by rw [hw6]; exact HG5.out.trans (grownBy_setCell' w4 (b + 2) _))
      have HO6 : Hid (w6.ownsRow w.heap.size 3 1 (.slice a' (i + 1) c') (i + 1) (ints ((cirZ n d p).take (i + 1)))) := Lib.hid (by
        have h5 := HO5.out
        rw [HLN.out, ← HT2.out] at h5
        rw [hw6]
        exact own_grown h5 (grownBy_setCell' w4 (b + 2) _) (fun k hk e => by have := (h5.lt k hk).1; have := Option.some.inj e; omega))
      clear hw6
      go_wp2
      go_roundw
      case rel => exact ⟨i + 1, by omega, by omega, by first | rfl | simp, ⟨a', c', by rw [HLL.out], HO6.out⟩, HC6.out, HG6.out⟩
      case measure => have := HLL.out; simp; omega
    · have e : i = m := by omega
      subst e
      have hyp : y = p := by rw [← HY.out]; exact HBK.out
      subst hyp
      go_wp2
      go_ret
      exact ⟨av, cv, rfl, by have := HO4.out; rw [HALL.out] at this; exact this, HGR.out⟩
end Go.Proofs.Ytpbceckbmalabaa.Rhy
