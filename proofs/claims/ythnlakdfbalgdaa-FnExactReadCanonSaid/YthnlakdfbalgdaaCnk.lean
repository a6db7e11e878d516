/-
  Helpers of the claims beside this text: canons: ReadCanon of the model.
-/
import Derived.Test.YthnlakdfbalgdaaCnf
import Derived.Test.YthnlakdfbalgdaaCnj
import Derived.Test.YthnlakdfbalgdaaPrs
namespace Go.Proofs.Ythnlakdfbalgdaa.Rhy
open Go.RowKit
set_option linter.unusedVariables false
set_option linter.unusedSimpArgs false

/-- The entries that the texts find among the first pulses: each as early as it can. -/
def rdE (f : Nat → ByteArray) (ss : List ByteArray) : Nat → List Int
  | 0 => []
  | p + 1 => if ss[(rdE f ss p).length]? = some (f p) then rdE f ss p ++ [(p : Int)] else rdE f ss p
theorem rdE_yes {f : Nat → ByteArray} {ss : List ByteArray} {p : Nat} (h : ss[(rdE f ss p).length]? = some (f p)) : rdE f ss (p + 1) = rdE f ss p ++ [(p : Int)] := by
  show (if _ then _ else _) = _
  rw [if_pos h]
theorem rdE_no {f : Nat → ByteArray} {ss : List ByteArray} {p : Nat} (h : ss[(rdE f ss p).length]? ≠ some (f p)) : rdE f ss (p + 1) = rdE f ss p := by
  show (if _ then _ else _) = _
  rw [if_neg h]
theorem rdE_len (f : Nat → ByteArray) (ss : List ByteArray) (p : Nat) : (rdE f ss p).length ≤ p := by
  induction p with
  | zero => exact Nat.le_refl _
  | succ p ih =>
    by_cases h : ss[(rdE f ss p).length]? = some (f p)
    · rw [rdE_yes h]; simp; omega
    · rw [rdE_no h]; omega
theorem rdE_mem {f : Nat → ByteArray} {ss : List ByteArray} {p : Nat} {z : Int} (h : z ∈ rdE f ss p) : 0 ≤ z ∧ z < p := by
  induction p with
  | zero => cases h
  | succ p ih =>
    by_cases hq : ss[(rdE f ss p).length]? = some (f p)
    · rw [rdE_yes hq] at h
      rcases List.mem_append.1 h with h | h
      · have := ih h; omega
      · simp at h; omega
    · rw [rdE_no hq] at h
      have := ih h
      omega
theorem rdE_full {f : Nat → ByteArray} {ss : List ByteArray} {p : Nat} (h : ss.length ≤ (rdE f ss p).length) (k : Nat) : rdE f ss (p + k) = rdE f ss p := by
  induction k with
  | zero => rfl
  | succ k ih =>
    rw [← Nat.add_assoc, rdE_no, ih]
    rw [ih, List.getElem?_eq_none h]
    simp
theorem rdE_most (f : Nat → ByteArray) (ss : List ByteArray) (p : Nat) : (rdE f ss p).length ≤ ss.length := by
  induction p with
  | zero => exact Nat.zero_le _
  | succ p ih =>
    by_cases h : ss[(rdE f ss p).length]? = some (f p)
    · have : (rdE f ss p).length < ss.length := by
        rcases Nat.lt_or_ge (rdE f ss p).length ss.length with h' | h'
        · exact h'
        · rw [List.getElem?_eq_none h'] at h; cases h
      rw [rdE_yes h]; simp; omega
    · rw [rdE_no h]; exact ih
theorem rdE_int {f : Nat → ByteArray} {ss : List ByteArray} {p : Nat} (h : p ≤ 1048576) : AllInt (rdE f ss p) := fun z hz => by
  have := rdE_mem hz
  omega

def rd0 (ss : List ByteArray) : ByteArray := ss[0]?.getD ByteArray.empty
def rdX (ss : List ByteArray) : List Int := xZ (rd0 ss) (rd0 ss).size
def rdF (t : ByteArray) (p : Nat) : ByteArray := fmtT t.size (ofZ t.size (mapL t.size (xZ t t.size) 1 p))
def rdZ (ss : List ByteArray) : List Int := rdE (rdF (rd0 ss)) ss (rd0 ss).size
def RdC (ss : List ByteArray) : Prop := PC (rd0 ss) ∧ 0 < (rdX ss).length ∧ ss.length ≤ (rdZ ss).length
theorem rdF_zero {t : ByteArray} (h : PC t) : rdF t 0 = t := by
  have ho : Ok (t.size : Nat) (xZ t t.size) := xZ_ok h.1.1 h.1.2
  have := rot_zero ho
  unfold rdF
  rw [show ofZ t.size (mapL t.size (xZ t t.size) 1 (0 : Nat)) = xZ t t.size by have h2 := this; unfold rotZ at h2; rw [Int.toNat_natCast] at h2; exact h2]
  exact fmt_eq.2 h.2
theorem ba_ne {a b : ByteArray} (h : a ≠ b) : (a.toList == b.toList) = false := by
  rw [beq_eq_false_iff_ne]
  intro e
  apply h
  rw [ByteArray.toList_eq, ByteArray.toList_eq] at e
  exact ByteArray.ext (by simpa using congrArg List.toArray e)

/-- The loop's state: the box of the entries; all else is as it was. -/
def RdAt (d : Nat) (n : Nat) (l : List Int) (w2 wr : World) : Prop :=
  ∃ av cv, Box wr d (.int .i64 n) (.slice av l.length cv) 25 ∧ wr.ownsRow (d + 1) 3 1 (.slice av l.length cv) l.length (ints l) ∧ Below d w2 wr
theorem RdAt.keep {d n : Nat} {l : List Int} {w2 wr w' : World} (h : RdAt d n l w2 wr) (hb : Below wr.heap.size wr w') : RdAt d n l w2 w' := by
  obtain ⟨av, cv, h1, h2, h3⟩ := h
  exact ⟨av, cv, h1.keep hb h1.lt, own_below h2 hb, h3.trans (hb.mono (by have := h1.lt; omega))⟩

set_option maxHeartbeats 4000000 in
set_option maxRecDepth 100000 in
theorem rd_spec (a : Option Addr) (m c : Nat) (ss : List ByteArray) (w : World) (ha : TxtsAt w a m ss) (hm : m ≤ 1048576) (hs0 : (rd0 ss).size ≤ 1048576) :
    Calls Try.prog 50 #[.slice a m c] w (CanC (RdC ss) (rd0 ss).size (rdX ss) (rd0 ss).size (rdZ ss) w) := by
  have HS := Lib.hid ha
  have hml : ss.length = m := ha.1
  clear ha
  obtain ⟨W0, hW⟩ : ∃ W0, W0 = w.alloc (canCells 0 none 0 0 0 none 0 0 29) := ⟨_, rfl⟩
  have HW := Lib.hid hW
  have HB := Lib.hid (show Below w.heap.size w W0 by rw [hW]; exact bel1 w _)
  have HU := Lib.hid (show Bux W0 w.heap.size (.int .i64 0) (.slice none 0 0) (.int .i64 0) (.slice none 0 0) 29 by rw [hW]; exact bux_new w _ _ _ _ _)
  have hz0 : W0.heap.size = w.heap.size + 1 := by rw [hW]; simp
  clear hW
  obtain ⟨u0, u1, u2, u3, u5, u6, u7, u8⟩ := HU.out.facts
  have u4 := HU.out.lt
  by_cases h0 : m = 0
  · have HN : Hid (¬ RdC ss) := Lib.hid (fun h => by
      have e : ss = [] := List.eq_nil_of_length_eq_zero (by omega)
      subst e
      have := h.1.1.1
      simp [rd0] at this)
    subst h0
    go_enter Try.func50, Try.ntmps50
    go_wp2_with fail
    rw [← HW.out]
    go_wp2
    refine bodyPost_ret (v := .tuple #[can 0 none 0 0 0 none 0 0, .bool false]) (by simp [results, Try.results50, go_sem, *]) rfl (canc_no HN.out ?_)
    exact HB.out
  · obtain ⟨b0, off0, t0, rfl, hb0, hst0, hct0⟩ := HS.out.at (k := 0) (by omega)
    have e0 : rd0 ss = t0 := by unfold rd0; rw [hst0]; rfl
    simp only [Nat.add_zero] at hct0
    have hq0 : ((m : Int) == 0) = false := by simp; omega
    have HP := Lib.hid (fun W => prs_spec t0 W (by rw [← e0]; exact hs0))
    have HMM : Hid (∀ W, Below w.heap.size w W → TxtsAt W (some ⟨b0, off0, none⟩) m ss) := Lib.hid (fun W hW => HS.out.below hW)
    unfold CPost at HP
    by_cases hpc : PC t0
    · rw [cS_yes hpc, cZ_yes hpc, cB_yes hpc] at HP
      obtain ⟨n, hn⟩ : ∃ n, t0.size = n := ⟨_, rfl⟩
      obtain ⟨xs, hxs⟩ : ∃ xs, xZ t0 t0.size = xs := ⟨_, rfl⟩
      have h24 : 1 ≤ n ∧ n ≤ 24 := by rw [← hn]; exact hpc.1
      have HO : Hid (Ok (n : Int) xs) := Lib.hid (by rw [← hxs, ← hn]; exact xZ_ok hpc.1.1 hpc.1.2)
      have hxi : AllInt xs := by rw [← hxs]; exact xZ_int (by have := hpc.1; omega)
      have hxl : xs.length ≤ 24 := by rw [← hxs]; have := xZ_len t0 t0.size; omega
      rw [hxs, hn] at HP
      have HF0 := Lib.hid (rdF_zero hpc)
      have HFD : Hid (∀ p : Nat, rdF t0 p = fmtT n (ofZ n (mapL n xs 1 p))) := Lib.hid (fun p => by unfold rdF; rw [hxs, hn])
      by_cases hx0 : 0 < xs.length
      · have HRC : Hid (RdC ss ↔ ss.length ≤ (rdE (rdF t0) ss n).length) := Lib.hid (by
          unfold RdC rdX rdZ
          rw [e0, hxs, hn]
          exact ⟨fun h => h.2.2, fun h => ⟨hpc, hx0, h⟩⟩)
        have HRX : Hid (rdX ss = xs) := Lib.hid (by unfold rdX; rw [e0, hxs])
        have HRZ : Hid (rdZ ss = rdE (rdF t0) ss n) := Lib.hid (by unfold rdZ; rw [e0, hn])
        have HRN : Hid ((rd0 ss).size = n) := Lib.hid (by rw [e0, hn])
        have hxq : ((xs.length : Int) == 0) = false := by rw [beq_eq_false_iff_ne]; omega
        clear hpc hxs hn hst0
        go_enter Try.func50, Try.ntmps50
        go_wp2_with fail
        rw [← HW.out]
        go_wp2_with fail
        refine (HP.out _).mono ?_
        rintro e w1 ⟨p1, c1, rfl, hown1, hb1⟩
        have B1 := Lib.hid (HB.out.trans (hb1.mono HB.out.size))
        have U1 := Lib.hid (HU.out.keep hb1 u4)
        have I1 := Lib.hid (intsAt_own hown1 hxi)
        have O1 := Lib.hid (row_of (own_base hown1 (show w.heap.size + 1 ≤ W0.heap.size by omega)))
        have hz1 : w.heap.size + 1 ≤ w1.heap.size := by have := hb1.size; omega
        clear hown1 hb1 u0 u1 u2 u3 u5 u6 u7 u8 u4 hct0
        obtain ⟨W2, hW2⟩ : ∃ W2, W2 = w1.alloc (.cells #[.int .i64 n, .slice p1 xs.length c1] 25) := ⟨_, rfl⟩
        have HW2 := Lib.hid hW2
        have B2 := Lib.hid (show Below w.heap.size w W2 by rw [hW2]; exact B1.out.trans ((bel1 w1 _).mono B1.out.size))
        have U2 := Lib.hid (show Bux W2 w.heap.size (.int .i64 0) (.slice none 0 0) (.int .i64 0) (.slice none 0 0) 29 by rw [hW2]; exact U1.out.keep (bel1 _ _) (by omega))
        have T2 := Lib.hid (show Two W2 w1.heap.size (.int .i64 n) (.slice p1 xs.length c1) by rw [hW2]; exact two_new w1 _ _ _)
        have I2 := Lib.hid (show IntsAt W2 p1 xs.length xs by rw [hW2]; exact I1.out.below (bel1 _ _))
        have O2 := Lib.hid (show Row W2 (w.heap.size + 1) w1.heap.size p1 xs.length c1 xs by rw [hW2]; exact O1.out.keep (bel1 _ _))
        have hz2 : W2.heap.size = w1.heap.size + 1 := by rw [hW2]; simp
        clear hW2
        obtain ⟨W3, hW3⟩ : ∃ W3, W3 = W2.alloc (.cells #[.int .i64 n, .slice none 0 0] 25) := ⟨_, rfl⟩
        have HW3 := Lib.hid hW3
        have R3 := Lib.hid (show RdAt (w1.heap.size + 1) n [] W2 W3 by
          rw [hW3, ← hz2]
          exact ⟨none, 0, box_new W2 _ _ _, World.ownsRow_nil _ _ _ _, bel1 W2 _⟩)
        clear hW3
        obtain ⟨y0, y1, y2⟩ := T2.out
        go_wp2_with fail
        rw [← HW2.out]
        rw [← HW3.out]
        have HE1 : Hid (∀ p : Nat, (rdE (rdF t0) ss p).length ≤ p) := Lib.hid (rdE_len _ _)
        go_loopw [7, 35] (fun pv iv wr => ∃ p i : Nat, p ≤ n ∧ i ≤ m ∧ pv = .int .i64 p ∧ iv = .int .i64 i ∧ (rdE (rdF t0) ss p).length = i ∧ (i = 0 → p = 0) ∧ RdAt (w1.heap.size + 1) n (rdE (rdF t0) ss p) W2 wr) (fun _ iv _ => m - (intOf iv).toNat)
        case atStart => exact ⟨0, 0, by omega, by omega, rfl, rfl, rfl, fun _ => rfl, R3.out⟩
        case round =>
          obtain ⟨wo, rfl⟩ : ∃ wo, wo = wr := ⟨_, rfl⟩
          obtain ⟨p, i, hp, hi, rfl, rfl, hel, hip, hrd⟩ := hrel
          have HR := Lib.hid hrd
          have HEL := Lib.hid hel
          have BR := Lib.hid (hrd.choose_spec.choose_spec.2.2)
          have hdz : w1.heap.size + 1 < wo.heap.size := hrd.choose_spec.choose_spec.1.lt
          have T3 := Lib.hid (T2.out.keep (show Below W2.heap.size W2 wo by rw [hz2]; exact BR.out))
          have B3 := Lib.hid (B2.out.trans (show Below w.heap.size W2 wo from BR.out.mono (by omega)))
          clear hrd hel y0 y1 y2
          obtain ⟨y0, y1, y2⟩ := T3.out
          by_cases hlt : i < m
          · obtain ⟨b9, off9, line, hadr, hb9, hsl, hcl⟩ := (HMM.out wo B3.out).at hlt
            obtain ⟨rfl, rfl⟩ : b0 = b9 ∧ off0 = off9 := by simpa using hadr
            have HSL := Lib.hid hsl
            clear hadr hsl
            go_wp2
            go_loopw [7] (fun pv wX => ∃ q : Nat, p ≤ q ∧ q ≤ n ∧ pv = .int .i64 q ∧ rdE (rdF t0) ss q = rdE (rdF t0) ss p ∧ (i = 0 → q = 0) ∧ Below wo.heap.size wo wX) (fun pv _ => n - (intOf pv).toNat)
            case atStart => exact ⟨p, Nat.le_refl _, hp, rfl, rfl, hip, Below.refl _ _⟩
            case round =>
              obtain ⟨q, hpq, hq, rfl, hqe, hiq, hb3⟩ := hrel
              have HQE := Lib.hid hqe
              have B4 := Lib.hid hb3
              have T4 := Lib.hid (T3.out.keep hb3)
              have hz4 := hb3.size
              clear hqe hb3 y0 y1 y2 hcl
              obtain ⟨y0, y1, y2⟩ := T4.out
              by_cases hqn : q < n
              · have I4 := (I2.out.below (show Below W2.heap.size W2 wo by rw [hz2]; exact BR.out)).below B4.out
                go_wp2_with fail
                refine (map_any n p1 xs.length c1 xs 1 q _ I4 (by omega) HO.out (by omega) (by omega) (by omega) (by omega)).mono ?_
                rintro e w5 ⟨p5, c5, rfl, hown5, hb5⟩
                have hok : Ok (n : Int) (ofZ (n : Int).toNat (mapL n xs 1 q)) := rot_ok (by omega) 1 q
                have hI5 := intsAt_own hown5 (ofZ_int (by omega))
                have hlen5 := ofZ_len (n : Int).toNat (mapL n xs 1 q)
                clear hown5
                go_wp2_with fail
                refine (fmt_spec n p5 _ c5 _ _ hI5 (by omega)).mono ?_
                rintro e w6 ⟨rfl, hb6⟩
                have B6 := Lib.hid ((B4.out.trans (hb5.mono B4.out.size)).trans (hb6.mono (by have := hb5.size; omega)))
                have R6 := Lib.hid (HR.out.keep B6.out)
                rw [HQE.out.symm] at R6
                rw [fmtB_yes hok, Int.toNat_natCast, ← HFD.out q]
                clear hI5 hlen5 hok hb5 hb6 I4 y0 y1 y2
                obtain ⟨y0, y1, y2⟩ := (T3.out.keep B6.out)
                by_cases heq : rdF t0 q = line
                · have hyes : ss[(rdE (rdF t0) ss q).length]? = some (rdF t0 q) := by rw [HQE.out, HEL.out, HSL.out, heq]
                  have hstr : ((rdF t0 q).toList == line.toList) = true := by rw [heq]; simp
                  obtain ⟨fl, hfl⟩ : ∃ fl, rdF t0 q = fl := ⟨_, rfl⟩
                  rw [hfl] at hstr ⊢
                  have hqnb : ((q : Int) == (n : Int)) = false := by rw [beq_eq_false_iff_ne]; omega
                  by_cases hi0 : i = 0
                  · have hq0' : q = 0 := hiq hi0
                    have hi0b : ((i : Int) == 0) = true := by rw [hi0]; rfl
                    have hq0d : q ≤ 0 := by omega
                    clear heq hiq hip hfl hi0 hq0'
                    obtain ⟨av, cv, hbx, hox, hbel⟩ := R6.out
                    obtain ⟨L, hL⟩ : ∃ L, rdE (rdF t0) ss q = L := ⟨_, rfl⟩
                    rw [hL] at hbx hox
                    have HLL := Lib.hid hL
                    have hLl : L.length ≤ 1048577 := by rw [← hL]; have := rdE_len (rdF t0) ss q; omega
                    have HBX := Lib.hid hbx
                    have HOX := Lib.hid hox
                    have HBL := Lib.hid hbel
                    have hzd : w1.heap.size + 2 ≤ w6.heap.size := hbx.lt
                    obtain ⟨z0, z1, z2, z3⟩ := hbx.facts
                    have HN := Lib.hid (rdE_yes (p := q) hyes)
                    clear hbx hox hbel hL hyes
                    go_wp2_with (at_builtin; refine append_int rfl _ _ rfl (w1.heap.size + 1 + 1) _ L _ _ HOX.out hLl hzd _ rfl rfl rfl ?_; intro a' c' w' hown' hb'; have HO2 := Lib.hid hown'; have HX2 := Lib.hid hb'; have hq1 := HX2.out.frozen (p := ⟨w1.heap.size + 1, 1, none⟩) (by show w1.heap.size + 1 < w1.heap.size + 1 + 1; omega); have hq2 := HX2.out.cell (p := ⟨w1.heap.size + 1, 1, none⟩) (by show w1.heap.size + 1 < w1.heap.size + 1 + 1; omega); clear hown' hb')
                    go_roundw
                    case rel =>
                      refine ⟨q + 1, i + 1, by omega, by omega, by go_num, by go_num, ?_, fun h => absurd h (by omega), ?_⟩
                      · rw [HN.out, HLL.out]; have := HEL.out; rw [← HQE.out, HLL.out] at this; simp; omega
                      · rw [HN.out, HLL.out]
                        refine ⟨a', c', ?_, ?_, ?_⟩
                        · have := (HBX.out.keep HX2.out (by omega)).set1 (.slice a' (L.length + 1) c')
                          simpa using this
                        · exact ownsRow_setCell_below HO2.out (by show w1.heap.size + 1 < w1.heap.size + 1 + 1; omega) _
                        · exact (HBL.out.trans (HX2.out.mono (by omega))).setCell (by show w1.heap.size + 1 ≤ w1.heap.size + 1; omega) _
                    case measure => simp [intOf]; omega
                  · have hi0b : ((i : Int) == 0) = false := by rw [beq_eq_false_iff_ne]; omega
                    clear heq hiq hip hfl
                    obtain ⟨av, cv, hbx, hox, hbel⟩ := R6.out
                    obtain ⟨L, hL⟩ : ∃ L, rdE (rdF t0) ss q = L := ⟨_, rfl⟩
                    rw [hL] at hbx hox
                    have HLL := Lib.hid hL
                    have hLl : L.length ≤ 1048577 := by rw [← hL]; have := rdE_len (rdF t0) ss q; omega
                    have HBX := Lib.hid hbx
                    have HOX := Lib.hid hox
                    have HBL := Lib.hid hbel
                    have hzd : w1.heap.size + 2 ≤ w6.heap.size := hbx.lt
                    obtain ⟨z0, z1, z2, z3⟩ := hbx.facts
                    have HN := Lib.hid (rdE_yes (p := q) hyes)
                    clear hbx hox hbel hL hyes
                    go_wp2_with (at_builtin; refine append_int rfl _ _ rfl (w1.heap.size + 1 + 1) _ L _ _ HOX.out hLl hzd _ rfl rfl rfl ?_; intro a' c' w' hown' hb'; have HO2 := Lib.hid hown'; have HX2 := Lib.hid hb'; have hq1 := HX2.out.frozen (p := ⟨w1.heap.size + 1, 1, none⟩) (by show w1.heap.size + 1 < w1.heap.size + 1 + 1; omega); have hq2 := HX2.out.cell (p := ⟨w1.heap.size + 1, 1, none⟩) (by show w1.heap.size + 1 < w1.heap.size + 1 + 1; omega); clear hown' hb')
                    go_roundw
                    case rel =>
                      refine ⟨q + 1, i + 1, by omega, by omega, by go_num, by go_num, ?_, fun h => absurd h (by omega), ?_⟩
                      · rw [HN.out, HLL.out]; have := HEL.out; rw [← HQE.out, HLL.out] at this; simp; omega
                      · rw [HN.out, HLL.out]
                        refine ⟨a', c', ?_, ?_, ?_⟩
                        · have := (HBX.out.keep HX2.out (by omega)).set1 (.slice a' (L.length + 1) c')
                          simpa using this
                        · exact ownsRow_setCell_below HO2.out (by show w1.heap.size + 1 < w1.heap.size + 1 + 1; omega) _
                        · exact (HBL.out.trans (HX2.out.mono (by omega))).setCell (by show w1.heap.size + 1 ≤ w1.heap.size + 1; omega) _
                    case measure => simp [intOf]; omega
                · have hno : ss[(rdE (rdF t0) ss q).length]? ≠ some (rdF t0 q) := by
                    rw [HQE.out, HEL.out, HSL.out]
                    exact fun h => heq (Option.some.inj h).symm
                  have HN := Lib.hid (rdE_no (p := q) hno)
                  have hstr : ((rdF t0 q).toList == line.toList) = false := ba_ne heq
                  have HI0 : Hid (i = 0 → q + 1 = 0) := Lib.hid (fun h => by
                    exfalso
                    have h1 := hiq h
                    have h2 := HSL.out
                    subst h
                    subst h1
                    apply heq
                    rw [HF0.out, ← e0]
                    unfold rd0
                    rw [h2]
                    rfl)
                  obtain ⟨fl, hfl⟩ : ∃ fl, rdF t0 q = fl := ⟨_, rfl⟩
                  rw [hfl] at hstr ⊢
                  clear hno heq hiq hip hfl
                  go_wp2
                  go_roundw
                  case rel => exact ⟨q + 1, by omega, by omega, by go_num, by rw [HN.out, HQE.out], HI0.out, B6.out⟩
                  case measure => simp [intOf]; omega
              · have e : q = n := by omega
                have HN : Hid (¬ RdC ss) := Lib.hid (fun h => by
                  have h2 := HRC.out.1 h
                  rw [← e, HQE.out, HEL.out] at h2
                  omega)
                have hqnb : ((q : Int) == (n : Int)) = true := by rw [e]; simp
                have hzq : w.heap.size < wr.heap.size := by have := B3.out.size; omega
                obtain ⟨u0, u1, u2, u3, u5, u6, u7, u8⟩ := ((U2.out.keep (show Below W2.heap.size W2 wo by rw [hz2]; exact BR.out) (by omega)).keep B4.out (by omega)).facts
                have hqm : n ≤ q := by omega
                clear hqn e hiq hip
                go_wp2
                refine bodyPost_ret (v := .tuple #[can 0 none 0 0 0 none 0 0, .bool false]) (by simp [results, Try.results50, go_sem, *]) rfl (canc_no HN.out ?_)
                exact below_set4 (B3.out.trans (B4.out.mono B3.out.size)) (Nat.le_refl _)
          · have e : i = m := by omega
            have hfull := rdE_full (f := rdF t0) (ss := ss) (p := p) (by rw [HEL.out, e, hml]; exact Nat.le_refl _) (n - p)
            rw [show p + (n - p) = n by omega] at hfull
            have HYES : Hid (RdC ss) := Lib.hid (HRC.out.2 (by rw [hfull, HEL.out, e, hml]; exact Nat.le_refl _))
            obtain ⟨av, cv, hbx, hox, hbel⟩ := HR.out
            obtain ⟨L, hL⟩ : ∃ L, rdE (rdF t0) ss p = L := ⟨_, rfl⟩
            rw [hL] at hbx hox hfull
            have HFU := Lib.hid hfull
            have HOX := Lib.hid hox
            obtain ⟨z0, z1, z2, z3⟩ := hbx.facts
            have z4 := hbx.lt
            have hbw : Below W2.heap.size W2 wo := by rw [hz2]; exact BR.out
            have UX := Lib.hid (U2.out.keep hbw (by omega))
            have OX2 := Lib.hid (O2.out.keep hbw)
            have hzq : w.heap.size < wo.heap.size := by have := B3.out.size; omega
            obtain ⟨e0', e1, e2, e3, e5, e6, e7, e8⟩ := ((((UX.out.set0 (.int .i64 n)).set1 (.slice p1 xs.length c1)).set2 (.int .i64 n)).set3 (.slice av L.length cv)).facts
            obtain ⟨u0, u1, u2, u3, u5, u6, u7, u8⟩ := UX.out.facts
            clear hbx hox hbel hL hfull hbw e
            go_wp2
            clear u0 u1 u2 u3 u5 u6 u7 u8
            refine bodyPost_ret (v := .tuple #[can n p1 xs.length c1 n av L.length cv, .bool true]) (by simp [results, Try.results50, go_sem, *]) rfl ?_
            rw [HRN.out, HRX.out, HRZ.out, HFU.out]
            have hR : RowC wo (w.heap.size + 1) wo.heap.size p1 c1 xs av cv L := RowC.of (m := w1.heap.size) hz1 (by omega) OX2.out ((row_of HOX.out).lo (by omega))
            have hR2 := rowC_set4 hR (g := w.heap.size) (x := .int .i64 n) (y := .slice p1 xs.length c1) (u := .int .i64 n) (v := .slice av L.length cv) (by omega)
            exact canc_yes (lo := w.heap.size + 1) HYES.out (by simpa using hR2) (by omega) (below_set4 B3.out (Nat.le_refl _))
      · have hxe : xs.length = 0 := by omega
        have HN : Hid (¬ RdC ss) := Lib.hid (fun h => by
          have h2 := h.2.1
          unfold rdX at h2
          rw [e0, hxs] at h2
          omega)
        clear hpc hxs hn hst0 hx0
        go_enter Try.func50, Try.ntmps50
        go_wp2_with fail
        rw [← HW.out]
        go_wp2_with fail
        refine (HP.out _).mono ?_
        rintro e w1 ⟨p1, c1, rfl, hown1, hb1⟩
        have B1 := Lib.hid (HB.out.trans (hb1.mono HB.out.size))
        have U1 := Lib.hid (HU.out.keep hb1 u4)
        rw [hxe]
        clear hown1 hb1 u0 u1 u2 u3 u5 u6 u7 u8 u4 hct0 hxe
        obtain ⟨u0, u1, u2, u3, u5, u6, u7, u8⟩ := U1.out.facts
        have u4 := U1.out.lt
        go_wp2
        refine bodyPost_ret (v := .tuple #[can 0 none 0 0 0 none 0 0, .bool false]) (by simp [results, Try.results50, go_sem, *]) rfl (canc_no HN.out ?_)
        exact (below_set4 B1.out (Nat.le_refl _)).alloc (by have := B1.out.size; simpa using this) _
    · rw [cS_no hpc, cZ_no hpc, cB_no hpc] at HP
      have HN : Hid (¬ RdC ss) := Lib.hid (fun h => hpc (by have := h.1; rwa [e0] at this))
      clear hpc hst0
      go_enter Try.func50, Try.ntmps50
      go_wp2_with fail
      rw [← HW.out]
      go_wp2_with fail
      refine (HP.out _).mono ?_
      rintro e w1 ⟨p1, c1, rfl, hown1, hb1⟩
      have B1 := Lib.hid (HB.out.trans (hb1.mono HB.out.size))
      have U1 := Lib.hid (HU.out.keep hb1 u4)
      clear hown1 hb1 u0 u1 u2 u3 u5 u6 u7 u8 u4 hct0
      obtain ⟨u0, u1, u2, u3, u5, u6, u7, u8⟩ := U1.out.facts
      have u4 := U1.out.lt
      go_wp2
      refine bodyPost_ret (v := .tuple #[can 0 none 0 0 0 none 0 0, .bool false]) (by simp [results, Try.results50, go_sem, *]) rfl (canc_no HN.out ?_)
      exact (below_set4 B1.out (Nat.le_refl _)).alloc (by have := B1.out.size; simpa using this) _
end Go.Proofs.Ythnlakdfbalgdaa.Rhy
