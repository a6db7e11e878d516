/-
  Helpers of the claims beside this text: canons: ReadCanon of the model.
-/
import Derived.Test.YtldpikcgeijkpaaCnb
import Derived.Test.YtldpikcgeijkpaaCnj
import Derived.Test.YtldpikcgeijkpaaPrs
import Derived.Deep.RegionHeld3
namespace Go.Proofs.Ytldpikcgeijkpaa.Rhy
open Go.RowKit
set_option linter.unusedVariables false
set_option linter.unusedSimpArgs false

/-- The entries that the texts find among the first pulses: each as early as it can. -/
def rdE (f : Nat → ByteArray) (ss : List ByteArray) : Nat → List Int
  | 0 => []
  | p + 1 => if ss[(rdE f ss p).length]? = some (f p) then rdE f ss p ++ [(p : Int)] else rdE f ss p
theorem rdE_yes {f : Nat → ByteArray} {ss : List ByteArray} {p : Nat} (h : ss[(rdE f ss p).length]? = some (f p)) : rdE f ss (p + 1) = rdE f ss p ++ [(p : Int)] := by
  show (if _ then _ else _) = _
  rw [if_pos h]
theorem rdE_no {f : Nat → ByteArray} {ss : List ByteArray} {p : Nat} (h : ss[(rdE f ss p).length]? ≠ some (f p)) : rdE f ss (p + 1) = rdE f ss p := by
  show (if _ then _ else _) = _
  rw [if_neg h]
theorem rdE_len (f : Nat → ByteArray) (ss : List ByteArray) (p : Nat) : (rdE f ss p).length ≤ p := by
  induction p with
  | zero => exact Nat.le_refl _
  | succ p ih =>
    by_cases h : ss[(rdE f ss p).length]? = some (f p)
    · rw [rdE_yes h]; simp; omega
    · rw [rdE_no h]; omega
theorem rdE_mem {f : Nat → ByteArray} {ss : List ByteArray} {p : Nat} {z : Int} (h : z ∈ rdE f ss p) : 0 ≤ z ∧ z < p := by
  induction p with
  | zero => cases h
  | succ p ih =>
    by_cases hq : ss[(rdE f ss p).length]? = some (f p)
    · rw [rdE_yes hq] at h
      rcases List.mem_append.1 h with h | h
      · have := ih h; omega
      · simp at h; omega
    · rw [rdE_no hq] at h
      have := ih h
      omega
theorem rdE_full {f : Nat → ByteArray} {ss : List ByteArray} {p : Nat} (h : ss.length ≤ (rdE f ss p).length) (k : Nat) : rdE f ss (p + k) = rdE f ss p := by
  induction k with
  | zero => rfl
  | succ k ih =>
    rw [← Nat.add_assoc, rdE_no, ih]
    rw [ih, List.getElem?_eq_none h]
    simp
theorem rdE_most (f : Nat → ByteArray) (ss : List ByteArray) (p : Nat) : (rdE f ss p).length ≤ ss.length := by
  induction p with
  | zero => exact Nat.zero_le _
  | succ p ih =>
    by_cases h : ss[(rdE f ss p).length]? = some (f p)
    · have : (rdE f ss p).length < ss.length := by
        rcases Nat.lt_or_ge (rdE f ss p).length ss.length with h' | h'
        · exact h'
        · rw [List.getElem?_eq_none h'] at h; cases h
      rw [rdE_yes h]; simp; omega
    · rw [rdE_no h]; exact ih
theorem rdE_int {f : Nat → ByteArray} {ss : List ByteArray} {p : Nat} (h : p ≤ 1048576) : AllInt (rdE f ss p) := fun z hz => by
  have := rdE_mem hz
  omega

def rd0 (ss : List ByteArray) : ByteArray := ss[0]?.getD ByteArray.empty
def rdX (ss : List ByteArray) : List Int := xZ (rd0 ss) (rd0 ss).size
def rdF (t : ByteArray) (p : Nat) : ByteArray := fmtT t.size (ofZ t.size (mapL t.size (xZ t t.size) 1 p))
def rdZ (ss : List ByteArray) : List Int := rdE (rdF (rd0 ss)) ss (rd0 ss).size
def RdC (ss : List ByteArray) : Prop := PC (rd0 ss) ∧ 0 < (rdX ss).length ∧ ss.length ≤ (rdZ ss).length
theorem rdF_zero {t : ByteArray} (h : PC t) : rdF t 0 = t := by
  have ho : Ok (t.size : Nat) (xZ t t.size) := xZ_ok h.1.1 h.1.2
  have := rot_zero ho
  unfold rdF
  rw [show ofZ t.size (mapL t.size (xZ t t.size) 1 (0 : Nat)) = xZ t t.size by have h2 := this; unfold rotZ at h2; rw [Int.toNat_natCast] at h2; exact h2]
  exact fmt_eq.2 h.2
theorem ba_ne {a b : ByteArray} (h : a ≠ b) : (a.toList == b.toList) = false := by
  rw [beq_eq_false_iff_ne]
  intro e
  apply h
  rw [ByteArray.toList_eq, ByteArray.toList_eq] at e
  exact ByteArray.ext (by simpa using congrArg List.toArray e)

/-- The loop's state: the box of the entries; all else is as it was. -/
def RdAt (d : Nat) (n : Nat) (l : List Int) (w2 wr : World) : Prop :=
  ∃ av cv, Box wr d (.int .i64 n) (.slice av l.length cv) 25 ∧ wr.ownsRow (d + 1) 3 1 (.slice av l.length cv) l.length (ints l) ∧ Below d w2 wr
theorem RdAt.keep {d n : Nat} {l : List Int} {w2 wr w' : World} (h : RdAt d n l w2 wr) (hb : Below wr.heap.size wr w') : RdAt d n l w2 w' := by
  obtain ⟨av, cv, h1, h2, h3⟩ := h
  exact ⟨av, cv, h1.keep hb h1.lt, own_below h2 hb, h3.trans (hb.mono (by have := h1.lt; omega))⟩


end Go.Proofs.Ytldpikcgeijkpaa.Rhy

/-
  Helpers of the claims beside this text: canons: ReadCanon of the program.
-/
namespace Go.Proofs.Ytldpikcgeijkpaa.Rhy
open Go.RowKit
set_option linter.unusedVariables false
set_option linter.unusedSimpArgs false

theorem RowC.wide {w : World} {lo hi hi' : Nat} {a0 : Option Addr} {c0 : Nat} {z0 : List Int} {a1 : Option Addr} {c1 : Nat} {z1 : List Int} (h : RowC w lo hi a0 c0 z0 a1 c1 z1) (hh : hi ≤ hi') : RowC w lo hi' a0 c0 z0 a1 c1 z1 := by
  obtain ⟨l0, h0, l1, h1, q1, q2, q3, q4, q5, q6, q7, r0, r1⟩ := h
  exact ⟨l0, h0, l1, h1, q1, q2, by omega, q4, q5, by omega, q7, r0, r1⟩
set_option maxHeartbeats 4000000 in
set_option maxRecDepth 100000 in
theorem ent_impl (n : Nat) (p1 : Option Addr) (c1 : Nat) (xs : List Int) (a : Option Addr) (m c : Nat) (ss : List ByteArray) (f : Nat → ByteArray) (w : World) (hx : IntsAt w p1 xs.length xs) (ha : TxtsAt w a m ss) (hm : m ≤ 1048576) (ho : Ok (n : Int) xs)
    (hf : ∀ p : Nat, f p = fmtT n (ofZ n (mapL n xs 1 p))) (hm0 : 0 < m) :
    Calls Try.prog 67 #[rhy n p1 xs.length c1, .slice a m c] w (RhyPost n (rdE f ss n) w) := by
  have HX0 := Lib.hid hx
  have HS := Lib.hid ha
  have hml : ss.length = m := ha.1
  have HO := Lib.hid ho
  have HF := Lib.hid hf
  have h24 := ho.1
  have hxl : xs.length ≤ 24 := ok_len' ho
  obtain ⟨b0, off0, t0, rfl, hb0, hst0, hct0⟩ := HS.out.at (k := 0) hm0
  have HMM : Hid (∀ W, Below w.heap.size w W → TxtsAt W (some ⟨b0, off0, none⟩) m ss) := Lib.hid (fun W hW => HS.out.below hW)
  clear hx ha ho hf hst0 hct0
  obtain ⟨W1, hW1⟩ : ∃ W1, W1 = (w.alloc (.cells #[.int .i64 n, .slice p1 xs.length c1] 25)).alloc (.cells #[.int .i64 0, .slice none 0 0] 25) := ⟨_, rfl⟩
  have HW1 := Lib.hid hW1
  have hz1 : W1.heap.size = w.heap.size + 2 := by rw [hW1]; simp
  have B1 := Lib.hid (show Below w.heap.size w W1 by rw [hW1]; exact bel2 w _ _)
  have T1 := Lib.hid (show Two W1 w.heap.size (.int .i64 n) (.slice p1 xs.length c1) by rw [hW1]; exact (two_new w _ _ _).keep (bel1 _ _))
  have U1 := Lib.hid (show Box W1 (w.heap.size + 1) (.int .i64 0) (.slice none 0 0) 25 by
    rw [hW1]
    have := box_new (w.alloc (.cells #[.int .i64 n, .slice p1 xs.length c1] 25)) (.int .i64 0) (.slice none 0 0) 25
    simpa using this)
  clear hW1
  obtain ⟨W2, hW2⟩ : ∃ W2, W2 = W1.alloc (.cells #[.int .i64 n, .slice none 0 0] 25) := ⟨_, rfl⟩
  have HW2 := Lib.hid hW2
  have R2 := Lib.hid (show RdAt (w.heap.size + 2) n [] W1 W2 by
    rw [hW2, ← hz1]
    exact ⟨none, 0, box_new W1 _ _ _, World.ownsRow_nil _ _ _ _, bel1 W1 _⟩)
  have T2 := Lib.hid (show Two W2 w.heap.size (.int .i64 n) (.slice p1 xs.length c1) by rw [hW2]; exact T1.out.keep (bel1 _ _))
  clear hW2
  obtain ⟨t0', t1, t2⟩ := T1.out
  obtain ⟨y0, y1, y2⟩ := T2.out
  go_enter Try.func67, Try.ntmps67
  go_wp2_with fail
  rw [← HW1.out]
  go_wp2
  rw [← HW2.out]
  go_wp2
  go_loopw [13] (fun iv wr => ∃ q : Nat, q ≤ n ∧ iv = .int .i64 q ∧ RdAt (w.heap.size + 2) n (rdE f ss q) W1 wr) (fun iv _ => n - (intOf iv).toNat)
  case atStart => exact ⟨0, by omega, rfl, R2.out⟩
  case round =>
    obtain ⟨q, hq, rfl, hrd⟩ := hrel
    obtain ⟨av, cv, hbx, hox, hbel⟩ := hrd
    obtain ⟨L, hL⟩ : ∃ L, rdE f ss q = L := ⟨_, rfl⟩
    rw [hL] at hbx hox
    have HLL := Lib.hid hL
    have hLl : L.length ≤ 24 := by rw [← hL]; have := rdE_len f ss q; omega
    have HBX := Lib.hid hbx
    have HOX := Lib.hid hox
    have BR := Lib.hid (show Below W1.heap.size W1 wr by rw [hz1]; exact hbel)
    have hdz : w.heap.size + 2 < wr.heap.size := hbx.lt
    have T3 := Lib.hid (T1.out.keep BR.out)
    have U3 := Lib.hid (U1.out.keep BR.out (by omega))
    have B3 := Lib.hid (B1.out.trans (BR.out.mono (by omega)))
    obtain ⟨z0, z1, z2, z3⟩ := hbx.facts
    clear hbx hox hbel hL t0' t1 t2 y0 y1 y2
    obtain ⟨y0, y1, y2⟩ := T3.out
    by_cases hlt : q < n
    · by_cases hnx : L.length < m
      · obtain ⟨b9, off9, line, hadr, hb9, hsl, hcl⟩ := (HMM.out wr B3.out).at hnx
        obtain ⟨rfl, rfl⟩ : b0 = b9 ∧ off0 = off9 := by simpa using hadr
        have HSL := Lib.hid hsl
        clear hadr hsl
        have hd : decide ((L.length : Int) < (m : Int)) = true := by simp; omega
        have HK : Hid (∀ W, Below wr.heap.size wr W → W.cell? ⟨w.heap.size, 0, none⟩ = some (.int .i64 n) ∧ W.cell? ⟨w.heap.size, 1, none⟩ = some (.slice p1 xs.length c1) ∧ W.cell? ⟨b0, off0 + L.length, none⟩ = some (.string line) ∧ Below wr.heap.size wr W) :=
          Lib.hid (fun W hW => ⟨(T3.out.keep hW).2.1, (T3.out.keep hW).2.2, by rw [hW.cell (p := ⟨b0, off0 + L.length, none⟩) hb9]; exact hcl, hW⟩)
        have HM := Lib.hid (fun W (hW : Below wr.heap.size wr W) => moved_of n p1 xs.length c1 xs 1 q W (HX0.out.below (B3.out.trans (hW.mono B3.out.size))) (by omega) HO.out (by omega) (by omega) (by omega) (by omega) (gcd_one _))
        have hok : Ok (n : Int) (ofZ (n : Int).toNat (mapL n xs 1 q)) := rot_ok h24 1 q
        have HOK := Lib.hid hok
        have HIA : Hid (AllInt (ofZ (n : Int).toNat (mapL n xs 1 q))) := Lib.hid (ofZ_int (by omega))
        have hlen5 := ofZ_len (n : Int).toNat (mapL n xs 1 q)
        have HFQ : Hid (fmtT (n : Int).toNat (ofZ (n : Int).toNat (mapL n xs 1 q)) = f q) := Lib.hid (by rw [HF.out q, Int.toNat_natCast])
        clear hok hcl
        by_cases heq : f q = line
        · have hyes : ss[(rdE f ss q).length]? = some (f q) := by rw [HLL.out, HSL.out, heq]
          have HN := Lib.hid (rdE_yes hyes)
          have hstr : ((f q).toList == line.toList) = true := by rw [heq]; simp
          obtain ⟨fl, hfl⟩ : ∃ fl, f q = fl := ⟨_, rfl⟩
          rw [hfl] at hstr HFQ
          clear hyes heq hfl
          go_wp2
          go_region_held3 (fun W => W.cell? ⟨w.heap.size, 0, none⟩ = some (.int .i64 n) ∧ W.cell? ⟨w.heap.size, 1, none⟩ = some (.slice p1 xs.length c1) ∧ W.cell? ⟨b0, off0 + L.length, none⟩ = some (.string line) ∧ Below wr.heap.size wr W)
            (first | exact HK.out _ (Below.refl _ _).drew | exact HK.out _ hb5 | exact HK.out _ hb6)
            ((first
              | (go_at_call 84; refine (HM.out _ (Below.refl _ _).drew).mono ?_; rintro e w4 ⟨p4, c4, rfl, hown4, hc4⟩; have hb5 := (Below.refl wr.heap.size wr).drew.trans hc4; have hi4 := intsAt_own hown4 HIA.out; clear hc4)
              | (go_at_call 65; refine (text_any n p4 _ c4 _ w4 hi4 (by omega) HOK.out).mono ?_; rintro e w5 ⟨rfl, hc5⟩; rw [HFQ.out]; have hb6 := hb5.trans (hc5.mono hb5.size); clear hc5)))
          rename_i hh
          have hb6 := hh.2.2.2
          clear hh
          have HB6 := Lib.hid hb6
          have HBX6 := Lib.hid (HBX.out.keep hb6 (by omega))
          have HOX6 := Lib.hid (own_below HOX.out hb6)
          have hz6 := hb6.size
          clear hb6 z0 z1 z2 z3 y0 y1 y2
          obtain ⟨z0, z1, z2, z3⟩ := HBX6.out.facts
          go_wp2_with (at_builtin; refine append_int rfl _ _ rfl (w.heap.size + 2 + 1) _ L _ _ HOX6.out (by omega) (by omega) _ rfl rfl rfl ?_; intro a' c' w' hown' hb'; have HO2 := Lib.hid hown'; have HX2 := Lib.hid hb'; have hq1 := HX2.out.frozen (p := ⟨w.heap.size + 1 + 1, 1, none⟩) (by show w.heap.size + 1 + 1 < w.heap.size + 2 + 1; omega); have hq2 := HX2.out.cell (p := ⟨w.heap.size + 1 + 1, 1, none⟩) (by show w.heap.size + 1 + 1 < w.heap.size + 2 + 1; omega); clear hown' hb')
          go_roundw
          case rel =>
            refine ⟨q + 1, by omega, by go_num, ?_⟩
            rw [HN.out, HLL.out]
            refine ⟨a', c', ?_, ?_, ?_⟩
            · have := (HBX6.out.keep HX2.out (by omega)).set1 (.slice a' (L.length + 1) c')
              simpa using this
            · exact ownsRow_setCell_below HO2.out (by show w.heap.size + 1 + 1 < w.heap.size + 2 + 1; omega) _
            · exact ((show Below (w.heap.size + 2) W1 wr by rw [← hz1]; exact BR.out).trans ((HB6.out.mono (by omega)).trans (HX2.out.mono (by omega)))).setCell (by show w.heap.size + 2 ≤ w.heap.size + 1 + 1; omega) _
          case measure => simp [intOf]; omega
        · have hno : ss[(rdE f ss q).length]? ≠ some (f q) := by
            rw [HLL.out, HSL.out]
            exact fun h => heq (Option.some.inj h).symm
          have HN := Lib.hid (rdE_no hno)
          have hstr : ((f q).toList == line.toList) = false := ba_ne heq
          obtain ⟨fl, hfl⟩ : ∃ fl, f q = fl := ⟨_, rfl⟩
          rw [hfl] at hstr HFQ
          clear hno heq hfl
          go_wp2
          go_region_held3 (fun W => W.cell? ⟨w.heap.size, 0, none⟩ = some (.int .i64 n) ∧ W.cell? ⟨w.heap.size, 1, none⟩ = some (.slice p1 xs.length c1) ∧ W.cell? ⟨b0, off0 + L.length, none⟩ = some (.string line) ∧ Below wr.heap.size wr W)
            (first | exact HK.out _ (Below.refl _ _).drew | exact HK.out _ hb5 | exact HK.out _ hb6)
            ((first
              | (go_at_call 84; refine (HM.out _ (Below.refl _ _).drew).mono ?_; rintro e w4 ⟨p4, c4, rfl, hown4, hc4⟩; have hb5 := (Below.refl wr.heap.size wr).drew.trans hc4; have hi4 := intsAt_own hown4 HIA.out; clear hc4)
              | (go_at_call 65; refine (text_any n p4 _ c4 _ w4 hi4 (by omega) HOK.out).mono ?_; rintro e w5 ⟨rfl, hc5⟩; rw [HFQ.out]; have hb6 := hb5.trans (hc5.mono hb5.size); clear hc5)))
          rename_i hh
          have hb6 := hh.2.2.2
          clear hh
          have HB6 := Lib.hid hb6
          have HBX6 := Lib.hid (HBX.out.keep hb6 (by omega))
          have HOX6 := Lib.hid (own_below HOX.out hb6)
          have hz6 := hb6.size
          clear hb6 z0 z1 z2 z3 y0 y1 y2
          go_wp2
          go_roundw
          case rel =>
            refine ⟨q + 1, by omega, by go_num, ?_⟩
            rw [HN.out, HLL.out]
            exact ⟨av, cv, HBX6.out, HOX6.out, (show Below (w.heap.size + 2) W1 wr by rw [← hz1]; exact BR.out).trans (HB6.out.mono (by omega))⟩
          case measure => simp [intOf]; omega
      · have hd : decide ((L.length : Int) < (m : Int)) = false := by simp; omega
        have hno : ss[(rdE f ss q).length]? ≠ some (f q) := by rw [HLL.out, List.getElem?_eq_none (by omega)]; simp
        have HN := Lib.hid (rdE_no hno)
        clear hno
        go_wp2
        refine wp_region_held_drew (S := fun W => Below wr.heap.size wr W) (by kernel_rfl) ((Below.refl _ _).drew) (fun hS0 => ?_)
        refine wpAnyH_take (i := 0) (oi := ⟨some 19, _, _, _, _, _⟩) (v := .int .i64 L.length) rfl (by kernel_rfl) (by kernel_rfl) (by kernel_rfl) (fun _ _ _ h => h) (Or.inl ⟨by rfl, fun w hSw => by go_simp⟩) (by assumption) ?_
        try simp only [Act.put, List.setIfInBounds_toArray, List.set_cons_zero, List.set_cons_succ]
        refine wpAnyH_take (i := 1) (oi := ⟨some 20, _, _, _, _, _⟩) (v := .slice (some ⟨b0, off0, none⟩) m c) rfl (by kernel_rfl) (by kernel_rfl) (by kernel_rfl) (fun _ _ _ h => h) (Or.inl ⟨by rfl, fun w hSw => by go_simp⟩) (by assumption) ?_
        try simp only [Act.put, List.setIfInBounds_toArray, List.set_cons_zero, List.set_cons_succ]
        refine wpAnyH_take (i := 2) (oi := ⟨some 21, _, _, _, _, _⟩) (v := .int .i64 m) rfl (by kernel_rfl) (by kernel_rfl) (by kernel_rfl) (fun _ _ _ h => h) (Or.inl ⟨by rfl, fun w hSw => by go_simp⟩) (by assumption) ?_
        try simp only [Act.put, List.setIfInBounds_toArray, List.set_cons_zero, List.set_cons_succ]
        refine wpAnyH_take (i := 3) (oi := ⟨some 22, _, _, _, _, _⟩) (v := .bool false) rfl (by kernel_rfl) (by kernel_rfl) (by kernel_rfl) (fun _ _ _ h => h) (Or.inl ⟨by rfl, fun w hSw => by go_simp⟩) (by assumption) ?_
        try simp only [Act.put, List.setIfInBounds_toArray, List.set_cons_zero, List.set_cons_succ]
        refine wpAnyH_take (i := 4) (oi := ⟨some 23, _, _, _, _, _⟩) (v := .bool false) rfl (by kernel_rfl) (by kernel_rfl) (by kernel_rfl) (fun _ _ _ h => h) (Or.inl ⟨by rfl, fun w hSw => by go_simp⟩) (by assumption) ?_
        try simp only [Act.put, List.setIfInBounds_toArray, List.set_cons_zero, List.set_cons_succ]
        refine wpAnyH_take (i := 5) (oi := ⟨some 24, _, _, _, _, _⟩) (v := undef) rfl (by kernel_rfl) (by kernel_rfl) (by kernel_rfl) (fun _ _ _ h => h) (Or.inr ⟨by rfl, rfl⟩) (by assumption) ?_
        try simp only [Act.put, List.setIfInBounds_toArray, List.set_cons_zero, List.set_cons_succ]
        refine wpAnyH_take (i := 6) (oi := ⟨some 25, _, _, _, _, _⟩) (v := undef) rfl (by kernel_rfl) (by kernel_rfl) (by kernel_rfl) (fun _ _ _ h => h) (Or.inr ⟨by rfl, rfl⟩) (by assumption) ?_
        try simp only [Act.put, List.setIfInBounds_toArray, List.set_cons_zero, List.set_cons_succ]
        refine wpAnyH_take (i := 7) (oi := ⟨some 26, _, _, _, _, _⟩) (v := undef) rfl (by kernel_rfl) (by kernel_rfl) (by kernel_rfl) (fun _ _ _ h => h) (Or.inr ⟨by rfl, rfl⟩) (by assumption) ?_
        try simp only [Act.put, List.setIfInBounds_toArray, List.set_cons_zero, List.set_cons_succ]
        refine wpAnyH_take (i := 8) (oi := ⟨some 27, _, _, _, _, _⟩) (v := undef) rfl (by kernel_rfl) (by kernel_rfl) (by kernel_rfl) (fun _ _ _ h => h) (Or.inr ⟨by rfl, rfl⟩) (by assumption) ?_
        try simp only [Act.put, List.setIfInBounds_toArray, List.set_cons_zero, List.set_cons_succ]
        refine wpAnyH_take (i := 9) (oi := ⟨some 28, _, _, _, _, _⟩) (v := undef) rfl (by kernel_rfl) (by kernel_rfl) (by kernel_rfl) (fun _ _ _ h => h) (Or.inr ⟨by rfl, rfl⟩) (by assumption) ?_
        try simp only [Act.put, List.setIfInBounds_toArray, List.set_cons_zero, List.set_cons_succ]
        refine wpAnyH_take (i := 10) (oi := ⟨some 29, _, _, _, _, _⟩) (v := undef) rfl (by kernel_rfl) (by kernel_rfl) (by kernel_rfl) (fun _ _ _ h => h) (Or.inr ⟨by rfl, rfl⟩) (by assumption) ?_
        try simp only [Act.put, List.setIfInBounds_toArray, List.set_cons_zero, List.set_cons_succ]
        refine wpAnyH_take (i := 11) (oi := ⟨some 30, _, _, _, _, _⟩) (v := undef) rfl (by kernel_rfl) (by kernel_rfl) (by kernel_rfl) (fun _ _ _ h => h) (Or.inr ⟨by rfl, rfl⟩) (by assumption) ?_
        try simp only [Act.put, List.setIfInBounds_toArray, List.set_cons_zero, List.set_cons_succ]
        refine wpAnyH_take (i := 12) (oi := ⟨some 31, _, _, _, _, _⟩) (v := undef) rfl (by kernel_rfl) (by kernel_rfl) (by kernel_rfl) (fun _ _ _ h => h) (Or.inr ⟨by rfl, rfl⟩) (by assumption) ?_
        try simp only [Act.put, List.setIfInBounds_toArray, List.set_cons_zero, List.set_cons_succ]
        refine wpAnyH_take (i := 13) (oi := ⟨some 32, _, _, _, _, _⟩) (v := undef) rfl (by kernel_rfl) (by kernel_rfl) (by kernel_rfl) (fun _ _ _ h => h) (Or.inr ⟨by rfl, rfl⟩) (by assumption) ?_
        try simp only [Act.put, List.setIfInBounds_toArray, List.set_cons_zero, List.set_cons_succ]
        refine wpAnyH_take (i := 14) (oi := ⟨some 33, _, _, _, _, _⟩) (v := .bool false) rfl (by kernel_rfl) (by kernel_rfl) (by kernel_rfl) (fun _ _ _ h => h) (Or.inl ⟨by rfl, fun w hSw => by go_simp⟩) (by assumption) ?_
        try simp only [Act.put, List.setIfInBounds_toArray, List.set_cons_zero, List.set_cons_succ]
        refine wpAnyH_done (by kernel_rfl) ?_ _
        clear hS0
        go_wp2
        go_roundw
        case rel =>
          refine ⟨q + 1, by omega, by go_num, ?_⟩
          rw [HN.out, HLL.out]
          exact ⟨av, cv, HBX.out.keep (Below.refl wr.heap.size wr).drew (by omega), own_below HOX.out (Below.refl _ _).drew, (show Below (w.heap.size + 2) W1 wr by rw [← hz1]; exact BR.out).trans ((Below.refl wr.heap.size wr).drew.mono (by omega))⟩
        case measure => simp [intOf]; omega
    · have e : q = n := by omega
      have HE : Hid (rdE f ss n = L) := Lib.hid (by rw [← e]; exact HLL.out)
      obtain ⟨u0, u1, u2, u3⟩ := U3.out.facts
      have u4 := U3.out.lt
      obtain ⟨e0, e1, e2, e3⟩ := ((U3.out.set0 (.int .i64 n)).set1 (.slice av L.length cv)).facts
      clear e
      go_wp2
      clear u0 u1 u2 u3
      refine bodyPost_ret (v := rhy n av L.length cv) (by simp [results, Try.results67, go_sem, *]) rfl ?_
      rw [HE.out]
      refine ⟨av, cv, rfl, own_set2 HOX.out (by omega) (by omega), below_set2 B3.out (by omega)⟩

set_option maxHeartbeats 4000000 in
set_option maxRecDepth 100000 in
theorem rd_impl (a : Option Addr) (m c : Nat) (ss : List ByteArray) (w : World) (ha : TxtsAt w a m ss) (hm : m ≤ 1048576) (hs0 : (rd0 ss).size ≤ 1048576) :
    Calls Try.prog 25 #[.slice a m c] w (CanC (RdC ss) (rd0 ss).size (rdX ss) (rd0 ss).size (rdZ ss) w) := by
  have HS := Lib.hid ha
  have hml : ss.length = m := ha.1
  clear ha
  obtain ⟨W0, hW⟩ : ∃ W0, W0 = w.alloc (canCells 0 none 0 0 0 none 0 0 29) := ⟨_, rfl⟩
  have HW := Lib.hid hW
  have HB := Lib.hid (show Below w.heap.size w W0 by rw [hW]; exact bel1 w _)
  have HU := Lib.hid (show Bux W0 w.heap.size (.int .i64 0) (.slice none 0 0) (.int .i64 0) (.slice none 0 0) 29 by rw [hW]; exact bux_new w _ _ _ _ _)
  have hz0 : W0.heap.size = w.heap.size + 1 := by rw [hW]; simp
  clear hW
  obtain ⟨u0, u1, u2, u3, u5, u6, u7, u8⟩ := HU.out.facts
  have u4 := HU.out.lt
  by_cases h0 : m = 0
  · have HN : Hid (¬ RdC ss) := Lib.hid (fun h => by
      have e : ss = [] := List.eq_nil_of_length_eq_zero (by omega)
      subst e
      have := h.1.1.1
      simp [rd0] at this)
    subst h0
    go_enter Try.func25, Try.ntmps25
    go_wp2_with fail
    rw [← HW.out]
    go_wp2
    refine bodyPost_ret (v := .tuple #[can 0 none 0 0 0 none 0 0, .bool false]) (by simp [results, Try.results25, go_sem, *]) rfl (canc_no HN.out ?_)
    exact HB.out
  · obtain ⟨b0, off0, t0, rfl, hb0, hst0, hct0⟩ := HS.out.at (k := 0) (by omega)
    have e0 : rd0 ss = t0 := by unfold rd0; rw [hst0]; rfl
    simp only [Nat.add_zero] at hct0
    have hq0 : ((m : Int) == 0) = false := by simp; omega
    have HP := Lib.hid (fun W => prs_impl t0 W (by rw [← e0]; exact hs0))
    have HMM : Hid (∀ W, Below w.heap.size w W → TxtsAt W (some ⟨b0, off0, none⟩) m ss) := Lib.hid (fun W hW => HS.out.below hW)
    unfold CPost at HP
    by_cases hpc : PC t0
    · rw [cS_yes hpc, cZ_yes hpc, cB_yes hpc] at HP
      obtain ⟨n, hn⟩ : ∃ n, t0.size = n := ⟨_, rfl⟩
      obtain ⟨xs, hxs⟩ : ∃ xs, xZ t0 t0.size = xs := ⟨_, rfl⟩
      have h24 : 1 ≤ n ∧ n ≤ 24 := by rw [← hn]; exact hpc.1
      have HO : Hid (Ok (n : Int) xs) := Lib.hid (by rw [← hxs, ← hn]; exact xZ_ok hpc.1.1 hpc.1.2)
      have hxi : AllInt xs := by rw [← hxs]; exact xZ_int (by have := hpc.1; omega)
      have hxl : xs.length ≤ 24 := by rw [← hxs]; have := xZ_len t0 t0.size; omega
      rw [hxs, hn] at HP
      have HF0 := Lib.hid (rdF_zero hpc)
      have HFD : Hid (∀ p : Nat, rdF t0 p = fmtT n (ofZ n (mapL n xs 1 p))) := Lib.hid (fun p => by unfold rdF; rw [hxs, hn])
      by_cases hx0 : 0 < xs.length
      · have HRC : Hid (RdC ss ↔ ss.length ≤ (rdE (rdF t0) ss n).length) := Lib.hid (by
          unfold RdC rdX rdZ
          rw [e0, hxs, hn]
          exact ⟨fun h => h.2.2, fun h => ⟨hpc, hx0, h⟩⟩)
        have HRX : Hid (rdX ss = xs) := Lib.hid (by unfold rdX; rw [e0, hxs])
        have HRZ : Hid (rdZ ss = rdE (rdF t0) ss n) := Lib.hid (by unfold rdZ; rw [e0, hn])
        have HRN : Hid ((rd0 ss).size = n) := Lib.hid (by rw [e0, hn])
        have hxq : ((xs.length : Int) == 0) = false := by rw [beq_eq_false_iff_ne]; omega
        clear hpc hxs hn hst0
        go_enter Try.func25, Try.ntmps25
        go_wp2_with fail
        rw [← HW.out]
        go_wp2_with fail
        refine (HP.out _).mono ?_
        rintro e w1 ⟨p1, c1, rfl, hown1, hb1⟩
        have B1 := Lib.hid (HB.out.trans (hb1.mono HB.out.size))
        have U1 := Lib.hid (HU.out.keep hb1 u4)
        have I1 := Lib.hid (intsAt_own hown1 hxi)
        have O1 := Lib.hid (row_of (own_base hown1 (show w.heap.size + 1 ≤ W0.heap.size by omega)))
        have hz1 : w.heap.size + 1 ≤ w1.heap.size := by have := hb1.size; omega
        clear hown1 hb1 u0 u1 u2 u3 u5 u6 u7 u8 u4 hct0
        obtain ⟨W2, hW2⟩ : ∃ W2, W2 = w1.alloc (.cells #[.int .i64 n, .slice p1 xs.length c1] 25) := ⟨_, rfl⟩
        have HW2 := Lib.hid hW2
        have B2 := Lib.hid (show Below w.heap.size w W2 by rw [hW2]; exact B1.out.trans ((bel1 w1 _).mono B1.out.size))
        have U2 := Lib.hid (show Bux W2 w.heap.size (.int .i64 0) (.slice none 0 0) (.int .i64 0) (.slice none 0 0) 29 by rw [hW2]; exact U1.out.keep (bel1 _ _) (by omega))
        have T2 := Lib.hid (show Two W2 w1.heap.size (.int .i64 n) (.slice p1 xs.length c1) by rw [hW2]; exact two_new w1 _ _ _)
        have I2 := Lib.hid (show IntsAt W2 p1 xs.length xs by rw [hW2]; exact I1.out.below (bel1 _ _))
        have O2 := Lib.hid (show Row W2 (w.heap.size + 1) w1.heap.size p1 xs.length c1 xs by rw [hW2]; exact O1.out.keep (bel1 _ _))
        have hz2 : W2.heap.size = w1.heap.size + 1 := by rw [hW2]; simp
        clear hW2
        obtain ⟨y0, y1, y2⟩ := T2.out
        go_wp2_with fail
        rw [← HW2.out]
        refine (ent_impl n p1 c1 xs (some ⟨b0, off0, none⟩) m c ss (rdF t0) _ I2.out (HMM.out _ B2.out) hm HO.out HFD.out (by omega)).mono ?_
        rintro e w3 ⟨p3, c3, rfl, hown3, hb3⟩
        obtain ⟨L, hL⟩ : ∃ L, rdE (rdF t0) ss n = L := ⟨_, rfl⟩
        have hLm := rdE_most (rdF t0) ss n
        rw [hL] at hown3 hLm ⊢
        have HLL := Lib.hid hL
        rw [hL] at HRZ HRC
        have B3 := Lib.hid (B2.out.trans (hb3.mono B2.out.size))
        have U3 := Lib.hid (U2.out.keep hb3 (by omega))
        have T3 := Lib.hid (T2.out.keep hb3)
        have O3 := Lib.hid (O2.out.keep hb3)
        have P3 := Lib.hid (row_of hown3)
        have hz3 : w1.heap.size + 1 ≤ w3.heap.size := by have := hb3.size; omega
        clear hown3 hb3 hL y0 y1 y2
        obtain ⟨v0, v1, v2⟩ := T3.out
        obtain ⟨u0, u1, u2, u3, u5, u6, u7, u8⟩ := U3.out.facts
        have u4 := U3.out.lt
        by_cases hful : L.length < m
        · have HN : Hid (¬ RdC ss) := Lib.hid (fun h => by have := HRC.out.1 h; omega)
          go_wp2
          refine bodyPost_ret (v := .tuple #[can 0 none 0 0 0 none 0 0, .bool false]) (by simp [results, Try.results25, go_sem, *]) rfl (canc_no HN.out ?_)
          exact (below_set4 B3.out (Nat.le_refl _)).alloc (by have := B3.out.size; simpa using this) _
        · have HYES : Hid (RdC ss) := Lib.hid (HRC.out.2 (by omega))
          obtain ⟨e0', e1, e2, e3, e5, e6, e7, e8⟩ := ((((U3.out.set0 (.int .i64 n)).set1 (.slice p1 xs.length c1)).set2 (.int .i64 n)).set3 (.slice p3 L.length c3)).facts
          go_wp2
          clear u0 u1 u2 u3 u5 u6 u7 u8
          refine bodyPost_ret (v := .tuple #[can n p1 xs.length c1 n p3 L.length c3, .bool true]) (by simp [results, Try.results25, go_sem, *]) rfl ?_
          rw [HRN.out, HRX.out, HRZ.out]
          have hR : RowC w3 (w.heap.size + 1) w3.heap.size p1 c1 xs p3 c3 L := RowC.of (m := w1.heap.size) hz1 (by omega) O3.out (Row.wide P3.out (by omega) (Nat.le_refl _) (Nat.le_refl _))
          have hR2 := rowC_set4 hR (g := w.heap.size) (x := .int .i64 n) (y := .slice p1 xs.length c1) (u := .int .i64 n) (v := .slice p3 L.length c3) (by omega)
          have hR3 := (hR2.keep (bel1 _ (.cells #[.int .i64 n, .slice p3 L.length c3] 25))).wide (hi' := w3.heap.size + 1) (by omega)
          exact canc_yes (lo := w.heap.size + 1) HYES.out (by simpa using hR3) (by omega) ((below_set4 B3.out (Nat.le_refl _)).alloc (by have := B3.out.size; simpa using this) _)
      · have hxe : xs.length = 0 := by omega
        have HN : Hid (¬ RdC ss) := Lib.hid (fun h => by
          have h2 := h.2.1
          unfold rdX at h2
          rw [e0, hxs] at h2
          omega)
        clear hpc hxs hn hst0 hx0
        go_enter Try.func25, Try.ntmps25
        go_wp2_with fail
        rw [← HW.out]
        go_wp2_with fail
        refine (HP.out _).mono ?_
        rintro e w1 ⟨p1, c1, rfl, hown1, hb1⟩
        have B1 := Lib.hid (HB.out.trans (hb1.mono HB.out.size))
        have U1 := Lib.hid (HU.out.keep hb1 u4)
        rw [hxe]
        clear hown1 hb1 u0 u1 u2 u3 u5 u6 u7 u8 u4 hct0 hxe
        obtain ⟨u0, u1, u2, u3, u5, u6, u7, u8⟩ := U1.out.facts
        have u4 := U1.out.lt
        go_wp2
        refine bodyPost_ret (v := .tuple #[can 0 none 0 0 0 none 0 0, .bool false]) (by simp [results, Try.results25, go_sem, *]) rfl (canc_no HN.out ?_)
        exact (below_set4 B1.out (Nat.le_refl _)).alloc (by have := B1.out.size; simpa using this) _
    · rw [cS_no hpc, cZ_no hpc, cB_no hpc] at HP
      have HN : Hid (¬ RdC ss) := Lib.hid (fun h => hpc (by have := h.1; rwa [e0] at this))
      clear hpc hst0
      go_enter Try.func25, Try.ntmps25
      go_wp2_with fail
      rw [← HW.out]
      go_wp2_with fail
      refine (HP.out _).mono ?_
      rintro e w1 ⟨p1, c1, rfl, hown1, hb1⟩
      have B1 := Lib.hid (HB.out.trans (hb1.mono HB.out.size))
      have U1 := Lib.hid (HU.out.keep hb1 u4)
      clear hown1 hb1 u0 u1 u2 u3 u5 u6 u7 u8 u4 hct0
      obtain ⟨u0, u1, u2, u3, u5, u6, u7, u8⟩ := U1.out.facts
      have u4 := U1.out.lt
      go_wp2
      refine bodyPost_ret (v := .tuple #[can 0 none 0 0 0 none 0 0, .bool false]) (by simp [results, Try.results25, go_sem, *]) rfl (canc_no HN.out ?_)
      exact (below_set4 B1.out (Nat.le_refl _)).alloc (by have := B1.out.size; simpa using this) _

end Go.Proofs.Ytldpikcgeijkpaa.Rhy

/-
  Helpers of the claims beside this text: canons: what ReadCanon finds in FormatCanon's lines.
-/
namespace Go.Proofs.Ytldpikcgeijkpaa.Rhy
open Go.RowKit
set_option linter.unusedVariables false
set_option linter.unusedSimpArgs false

theorem rdE_mono (f : Nat → ByteArray) (ss : List ByteArray) (p : Nat) : (rdE f ss p).length ≤ (rdE f ss (p + 1)).length := by
  by_cases h : ss[(rdE f ss p).length]? = some (f p)
  · rw [rdE_yes h]; simp
  · rw [rdE_no h]; exact Nat.le_refl _
/-- Taking each as early as it can finds all, where some ascending pulses have them. -/
theorem rdE_finds {f : Nat → ByteArray} {ss : List ByteArray} {q : Nat → Nat} (ha : ∀ j, j + 1 < ss.length → q j < q (j + 1)) (hq : ∀ j, j < ss.length → ss[j]? = some (f (q j))) :
    ∀ p j, j < ss.length → q j < p → j + 1 ≤ (rdE f ss p).length := by
  intro p
  induction p with
  | zero => intro j _ h; omega
  | succ p ih =>
    intro j hj hp
    by_cases h : q j < p
    · exact Nat.le_trans (ih j hj h) (rdE_mono f ss p)
    · have e : q j = p := by omega
      have h1 : j ≤ (rdE f ss p).length := by
        rcases j with _ | i
        · omega
        · exact ih i (by omega) (by have := ha i hj; omega)
      by_cases h2 : (rdE f ss p).length = j
      · have h3 : ss[(rdE f ss p).length]? = some (f p) := by rw [h2, hq j hj, e]
        rw [rdE_yes h3]
        simp
        omega
      · exact Nat.le_trans (by omega) (rdE_mono f ss p)
/-- What has been taken stands where it was found. -/
theorem rdE_at {f : Nat → ByteArray} {ss : List ByteArray} : ∀ (p j : Nat) (z : Int), (rdE f ss p)[j]? = some z → ss[j]? = some (f z.toNat) := by
  intro p
  induction p with
  | zero => intro j z h; simp [rdE] at h
  | succ p ih =>
    intro j z h
    by_cases h1 : ss[(rdE f ss p).length]? = some (f p)
    · rw [rdE_yes h1] at h
      by_cases h2 : j < (rdE f ss p).length
      · rw [List.getElem?_append_left h2] at h
        exact ih j z h
      · have hlt := (List.getElem?_eq_some_iff.1 h).1
        simp at hlt
        have e : j = (rdE f ss p).length := by omega
        rw [e] at h ⊢
        simp at h
        rw [h1, ← h]
        simp
    · rw [rdE_no h1] at h
      exact ih j z h

theorem xZ_fmt {n : Nat} {zs : List Int} (hs : zs.Pairwise (· < ·)) (hr : ∀ x ∈ zs, 0 ≤ x ∧ x < n) : xZ (fmtT n zs) n = zs := by
  have e : xZ (fmtT n zs) n = ofZ n zs := by
    unfold xZ ofZ
    refine List.filter_congr fun x hx => ?_
    obtain ⟨k, hk, rfl⟩ := List.mem_map.1 hx
    rw [List.mem_range] at hk
    unfold xB
    show ((fmtT n zs).data.toList[k]? == some 120) = zs.contains (k : Int)
    have h1 : (fmtT n zs).data.toList = fmtL n zs := rfl
    rw [h1]
    unfold fmtL
    rw [List.getElem?_map, List.getElem?_range hk]
    simp only [Option.map_some, mark8]
    cases zs.contains (k : Int) <;> rfl
  rw [e, ofZ_self hs hr]
theorem ofZ_in {n : Nat} {l : List Int} : ∀ x ∈ ofZ n l, 0 ≤ x ∧ x < n := fun x hx => (ofZ_mem.1 hx).1
theorem rdF_turn {n : Nat} {xs : List Int} {k : Int} {p : Nat} (hn : 1 ≤ n) : rdF (fmtT n (ofZ n (mapL n xs 1 k))) p = fmtT n (ofZ n (mapL n xs 1 (k + p))) := by
  unfold rdF
  rw [fmtT_size, xZ_fmt (ofZ_sorted _ _) ofZ_in]
  have hN : (n : Int) ≠ 0 := by omega
  rw [ofZ_congr (b := mapL n xs 1 (k + p))]
  intro x
  unfold mapL
  simp only [List.mem_map, ofZ_mem, remB, Int.one_mul]
  constructor
  · rintro ⟨y, ⟨_, q, hq, rfl⟩, rfl⟩
    exact ⟨q, hq, by rw [Int.emod_add_emod, Int.add_assoc]⟩
  · rintro ⟨q, hq, rfl⟩
    exact ⟨(q + k) % n, ⟨⟨Int.emod_nonneg _ hN, Int.emod_lt_of_pos _ (by omega)⟩, q, hq, rfl⟩, by rw [Int.emod_add_emod, Int.add_assoc]⟩

/-- The line of a voice. -/
theorem fcaL_at {s : Int} {xs ys : List Int} {k j : Nat} (hj : j < k) : (fcaL s xs ys k)[j]? = some (fmtT s.toNat (voiZ s xs ys j)) := by
  unfold fcaL
  rw [List.getElem?_map, List.getElem?_range hj]
  rfl
theorem voi_at {n : Nat} {xs ys : List Int} {j : Nat} {y : Int} (h : ys[j]? = some y) : voiZ (n : Int) xs ys (j : Nat) = ofZ n (mapL n xs 1 y) := by
  unfold voiZ
  rw [Int.toNat_natCast, Int.toNat_natCast, List.getD_eq_getElem?_getD, h]
  rfl
theorem getElem_lt {ys : List Int} (h : ys.Pairwise (· < ·)) {i j : Nat} {x y : Int} (hij : i < j) (hx : ys[i]? = some x) (hy : ys[j]? = some y) : x < y := by
  obtain ⟨h1, h2⟩ := List.getElem?_eq_some_iff.1 hx
  obtain ⟨h3, h4⟩ := List.getElem?_eq_some_iff.1 hy
  rw [← h2, ← h4]
  exact List.pairwise_iff_getElem.1 h i j h1 h3 hij
/-- ReadCanon finds FormatCanon's lines again. -/
theorem read_back {n : Nat} {xs ys : List Int} (h : CC (n : Int) xs n ys) :
    RdC (fcaL n xs ys ys.length) ∧ rdX (fcaL n xs ys ys.length) = voiZ n xs ys 0 ∧ (rdZ (fcaL n xs ys ys.length)).length = ys.length ∧ (rd0 (fcaL n xs ys ys.length)).size = n ∧
      rd0 (fcaL n xs ys ys.length) = fmtT n (voiZ n xs ys 0) ∧
      fcaL n (rdX (fcaL n xs ys ys.length)) (rdZ (fcaL n xs ys ys.length)) ys.length = fcaL n xs ys ys.length := by
  obtain ⟨⟨hx, hy, -⟩, hxp, hyp⟩ := h
  have hn : 1 ≤ n ∧ n ≤ 24 := ⟨by have := hx.1; omega, by have := hx.1; omega⟩
  obtain ⟨L, hL⟩ : ∃ L, fcaL n xs ys ys.length = L := ⟨_, rfl⟩
  rw [hL]
  have hLl : L.length = ys.length := by rw [← hL, fcaL_len]
  have hat : ∀ j, j < ys.length → L[j]? = some (fmtT n (voiZ n xs ys j)) := fun j hj => by rw [← hL, fcaL_at hj, Int.toNat_natCast]
  have hy0 := List.getElem?_eq_getElem hyp
  obtain ⟨y0, hy0e⟩ : ∃ y0, ys[0] = y0 := ⟨_, rfl⟩
  rw [hy0e] at hy0
  have hv0 := voi_at (n := n) (xs := xs) hy0
  have h0 : rd0 L = fmtT n (voiZ n xs ys 0) := by
    have := hat 0 hyp
    unfold rd0
    rw [this]
    rfl
  have hv0' : voiZ (n : Int) xs ys 0 = ofZ n (mapL n xs 1 y0) := hv0
  have hs : (rd0 L).size = n := by rw [h0, fmtT_size]
  have hX : rdX L = voiZ n xs ys 0 := by
    unfold rdX
    rw [hs, h0, hv0', xZ_fmt (ofZ_sorted _ _) ofZ_in]
  have hf : ∀ p, rdF (rd0 L) p = fmtT n (ofZ n (mapL n xs 1 (y0 + p))) := fun p => by rw [h0, hv0', rdF_turn hn.1]
  have hso := ok_sorted hy
  have hra := ok_range hy
  have hqv : ∀ j y, ys[j]? = some y → (y0 : Int) ≤ y := fun j y hj => by
    rcases Nat.eq_zero_or_pos j with h | h
    · rw [h, hy0] at hj; simp at hj; omega
    · exact Int.le_of_lt (getElem_lt hso h hy0 hj)
  have hfi := rdE_finds (f := rdF (rd0 L)) (ss := L) (q := fun j => ((ys[j]?).getD 0 - y0).toNat)
    (fun j hj => by
      rw [hLl] at hj
      have e1 := List.getElem?_eq_getElem (show j < ys.length by omega)
      have e2 := List.getElem?_eq_getElem hj
      have h1 := getElem_lt hso (show j < j + 1 by omega) e1 e2
      have h2 := hqv _ _ e1
      simp only [e1, e2, Option.getD_some]
      omega)
    (fun j hj => by
      rw [hLl] at hj
      have e1 := List.getElem?_eq_getElem hj
      have h2 := hqv _ _ e1
      rw [hat j hj, hf, voi_at e1]
      simp only [e1, Option.getD_some]
      rw [show y0 + ((ys[j] - y0).toNat : Int) = ys[j] by omega])
  have hlen : (rdZ L).length = ys.length := by
    have h1 := rdE_most (rdF (rd0 L)) L (rd0 L).size
    have hj : ys.length - 1 < L.length := by omega
    have h2 := hfi n (ys.length - 1) hj (by
      have e1 := List.getElem?_eq_getElem (show ys.length - 1 < ys.length by omega)
      simp only [e1, Option.getD_some]
      have := hra _ (List.getElem_mem (show ys.length - 1 < ys.length by omega))
      have h3 := hra y0 (by rw [← hy0e]; exact List.getElem_mem hyp)
      omega)
    unfold rdZ
    rw [hs] at h1 ⊢
    omega
  have hvp : 0 < (voiZ (n : Int) xs ys 0).length := by
    rw [hv0']
    obtain ⟨x, hxm⟩ : ∃ x, x ∈ xs := ⟨_, List.getElem_mem hxp⟩
    have hN : (n : Int) ≠ 0 := by omega
    exact List.length_pos_of_mem (ofZ_mem.2 ⟨⟨Int.emod_nonneg (1 * x + y0) hN, Int.emod_lt_of_pos _ (by omega)⟩, List.mem_map.2 ⟨x, hxm, rfl⟩⟩)
  have hPC : PC (rd0 L) := ⟨by rw [hs]; omega, by
    rw [← fmt_eq, hs, h0, hv0', xZ_fmt (ofZ_sorted _ _) ofZ_in]⟩
  refine ⟨⟨hPC, by rw [hX]; exact hvp, by omega⟩, hX, hlen, hs, h0, ?_⟩
  refine List.ext_getElem? fun j => ?_
  by_cases hj : j < ys.length
  · rw [fcaL_at hj, hat j hj, Int.toNat_natCast]
    have e1 := List.getElem?_eq_getElem (show j < (rdZ L).length by omega)
    have h3 := rdE_at (f := rdF (rd0 L)) (ss := L) _ j _ e1
    have h4 := rdE_mem (f := rdF (rd0 L)) (ss := L) (List.getElem_mem (show j < (rdZ L).length by omega))
    rw [hat j hj] at h3
    have h5 : fmtT n (voiZ n xs ys j) = rdF (rd0 L) ((rdZ L)[j]'(by omega)).toNat := Option.some.inj h3
    rw [h5, voi_at e1]
    unfold rdF
    rw [hs, h0, xZ_fmt (by rw [hv0']; exact ofZ_sorted _ _) (by rw [hv0']; exact ofZ_in), hX, Int.toNat_of_nonneg h4.1]
  · rw [List.getElem?_eq_none (by rw [fcaL_len]; omega), List.getElem?_eq_none (by omega)]
end Go.Proofs.Ytldpikcgeijkpaa.Rhy
