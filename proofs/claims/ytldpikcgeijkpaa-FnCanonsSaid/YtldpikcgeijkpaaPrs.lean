/-
  Helpers of the claims beside this text: ParseRhythm of the model and of the program.
-/
import Derived.Test.YtldpikcgeijkpaaFmt
namespace Go.Proofs.Ytldpikcgeijkpaa.Rhy
open Go.RowKit
set_option linter.unusedVariables false

def xB (t : ByteArray) (i : Nat) : Bool := t.data.toList[i]? == some 120
def xZ (t : ByteArray) (n : Nat) : List Int := ((List.range n).map Int.ofNat).filter (fun x => xB t x.toNat)
theorem xZ_zero (t : ByteArray) : xZ t 0 = [] := rfl
theorem xZ_yes {t : ByteArray} {k : Nat} (h : xB t k = true) : xZ t (k + 1) = xZ t k ++ [(k : Int)] := by
  unfold xZ
  rw [List.range_succ, List.map_append, List.filter_append]
  simp only [List.map_cons, List.map_nil, List.filter_cons, List.filter_nil]
  rw [show (Int.ofNat k).toNat = k from rfl, if_pos h]
  rfl
theorem xZ_no {t : ByteArray} {k : Nat} (h : xB t k = false) : xZ t (k + 1) = xZ t k := by
  unfold xZ
  rw [List.range_succ, List.map_append, List.filter_append]
  simp only [List.map_cons, List.map_nil, List.filter_cons, List.filter_nil]
  rw [show (Int.ofNat k).toNat = k from rfl, h]
  simp
theorem xZ_len (t : ByteArray) (n : Nat) : (xZ t n).length ≤ n := by
  unfold xZ
  refine Nat.le_trans (List.length_filter_le _ _) ?_
  simp
theorem xZ_mem {t : ByteArray} {n : Nat} {x : Int} : x ∈ xZ t n ↔ (0 ≤ x ∧ x < n) ∧ xB t x.toNat = true := by
  unfold xZ
  rw [List.mem_filter, List.mem_map]
  constructor
  · rintro ⟨⟨a, ha, rfl⟩, hc⟩
    rw [List.mem_range] at ha
    exact ⟨⟨by simp, by simpa using ha⟩, hc⟩
  · rintro ⟨⟨h0, h1⟩, hc⟩
    exact ⟨⟨x.toNat, by rw [List.mem_range]; omega, by show ((x.toNat : Nat) : Int) = x; omega⟩, hc⟩
theorem xZ_sorted (t : ByteArray) (n : Nat) : (xZ t n).Pairwise (· < ·) := by
  unfold xZ
  refine List.Pairwise.filter _ ?_
  rw [List.pairwise_map]
  exact List.pairwise_lt_range.imp (fun h => by simpa using h)
theorem xZ_ok {t : ByteArray} {n : Nat} (h1 : 1 ≤ n) (h2 : n ≤ 24) : Ok (n : Int) (xZ t n) :=
  ok_of (by omega) (by omega) (xZ_sorted t n) (fun z hz => (xZ_mem.1 hz).1)
theorem xZ_int {t : ByteArray} {n : Nat} (h : n ≤ 1000) : AllInt (xZ t n) := by
  intro z hz
  have := (xZ_mem.1 hz).1
  omega
theorem xZ_has {t : ByteArray} {n k : Nat} (h : k < n) : (xZ t n).contains (k : Int) = xB t k := by
  rw [Bool.eq_iff_iff, List.contains_iff_mem, xZ_mem]
  simp
  intro _
  exact h

/-- Every byte is an x or a dot. -/
def AllXD (t : ByteArray) : Prop := ∀ i, i < t.size → t.data.toList[i]? = some 120 ∨ t.data.toList[i]? = some 46
theorem fmt_eq {t : ByteArray} : fmtT t.size (xZ t t.size) = t ↔ AllXD t := by
  have hl : t.data.toList.length = t.size := by rw [Array.length_toList]; rfl
  constructor
  · intro h i hi
    have h2 : (fmtL t.size (xZ t t.size))[i]? = t.data.toList[i]? := by
      have := congrArg (fun b : ByteArray => b.data.toList[i]?) h
      simpa [fmtT] using this
    rw [← h2]
    unfold fmtL
    rw [List.getElem?_map, List.getElem?_range hi]
    simp only [Option.map_some, mark8]
    split
    · exact .inl rfl
    · exact .inr rfl
  · intro h
    apply ByteArray.ext
    apply Array.ext'
    show fmtL t.size (xZ t t.size) = t.data.toList
    apply List.ext_getElem?
    intro i
    rcases Nat.lt_or_ge i t.size with hi | hi
    · unfold fmtL
      rw [List.getElem?_map, List.getElem?_range hi]
      simp only [Option.map_some, mark8]
      rw [xZ_has hi]
      unfold xB
      rcases h i hi with e | e <;> rw [e] <;> simp
    · rw [List.getElem?_eq_none (by rw [fmtL_len]; exact hi), List.getElem?_eq_none (by omega)]

/-- A text that is a rhythm. -/
def PC (t : ByteArray) : Prop := (1 ≤ t.size ∧ t.size ≤ 24) ∧ AllXD t
theorem xB_at {t : ByteArray} {k : Nat} (h : k < t.size) : xB t k = (t[k] == 120) := by
  unfold xB
  have : t.data.toList[k]? = some t[k] := by
    rw [List.getElem?_eq_getElem (by rw [Array.length_toList]; exact h)]
    rfl
  rw [this]
  rfl
theorem u8_beq (c : UInt8) (n : Nat) (hn : n < 256) : ((c.toNat : Int) == (n : Int)) = (c == UInt8.ofNat n) := by
  rw [Bool.eq_iff_iff]
  simp
  constructor
  · intro h
    apply UInt8.toNat_inj.1
    simp
    omega
  · rintro rfl
    simp
    omega

theorem str_ne {a b : ByteArray} (h : a ≠ b) : (a.toList == b.toList) = false := by
  rw [ByteArray.toList_eq, ByteArray.toList_eq, beq_eq_false_iff_ne]
  intro e
  exact h (ByteArray.ext (Array.ext' e))
theorem str_same {a b : ByteArray} (h : a = b) : (a.toList == b.toList) = true := by
  rw [h, beq_self_eq_true]


-- the program
theorem cut_one {t : ByteArray} {k : Nat} (h : k < t.size) : t.extract k (k + 1) = ⟨#[t[k]]⟩ := by
  have hd : k < t.data.size := h
  apply ByteArray.ext
  rw [ByteArray.data_extract]
  apply Array.ext
  · simp; omega
  · intro i h1 h2
    have e : i = 0 := by simp at h2; omega
    subst e
    simp
    rfl

set_option maxHeartbeats 1000000 in
theorem prs_impl (t : ByteArray) (w : World) (ht : t.size ≤ 1048576) :
    Calls Try.prog 66 #[.string t] w (CPost (PC t) t.size (xZ t t.size) w) := by
  by_cases ht0 : t.size = 0
  · have e : t = ⟨#[]⟩ := by
      obtain ⟨⟨l⟩⟩ := t
      cases l with
      | nil => rfl
      | cons c l => simp [ByteArray.size] at ht0
    have HC := Lib.hid (show ¬ PC t from fun q => by have := q.1.1; omega)
    clear ht0
    subst e
    go_enter Try.func66, Try.ntmps66
    go_wp2
    refine bodyPost_ret (v := .tuple #[rhy 0 none 0 0, .bool false]) (by simp [results, Try.results66, go_sem, *]) rfl (cpost_no HC.out ?_)
    exact bel1 w _
  have hemp : t.toList.isEmpty = false := by
    rw [ByteArray.toList_eq]
    obtain ⟨⟨l⟩⟩ := t
    cases l <;> simp [ByteArray.size] at ht0 ⊢
  by_cases h24 : t.size ≤ 24
  · have hd : decide (24 < t.size) = false := by simp; omega
    obtain ⟨w1, hW⟩ : ∃ w1, w1 = w.alloc (.cells #[.int .i64 0, .slice none 0 0] 25) := ⟨_, rfl⟩
    have HW := Lib.hid hW
    have B1 := Lib.hid (show Below w.heap.size w w1 by rw [hW]; exact bel1 w _)
    have U1 := Lib.hid (show Box w1 w.heap.size (.int .i64 0) (.slice none 0 0) 25 by rw [hW]; exact box_new w _ _ _)
    have HSZ := Lib.hid (show w1.heap.size = w.heap.size + 1 by rw [hW]; simp)
    clear hW
    go_enter Try.func66, Try.ntmps66
    go_wp2
    rw [← HW.out, ← HSZ.out]
    go_loopw [19] (fun i wr => ∃ k : Nat, k ≤ t.size ∧ i = .int .i64 k ∧ LstAt (t.size : Int) (xZ t k) w1 wr ∧ Hid (∀ i, i < k → t.data.toList[i]? = some 120 ∨ t.data.toList[i]? = some 46)) (fun i _ => t.size - (intOf i).toNat)
    case atStart => exact ⟨0, by omega, rfl, lst_start _ w1, Lib.hid (fun i hi => by omega)⟩
    case round =>
      obtain ⟨k, hk, rfl, ⟨av, cv, hb0, hown, hnx, hsz⟩, HA⟩ := hrel
      have H0 := Lib.hid hb0
      have HO := Lib.hid hown
      have HX := Lib.hid hnx
      have HZ := Lib.hid hsz
      obtain ⟨c0, c1, f0, f1⟩ := H0.out.facts
      have lt0 := hb0.lt
      obtain ⟨y1, y2, y3, y4⟩ := (U1.out.keep HX.out U1.out.lt).facts
      have y5 := (U1.out.keep HX.out U1.out.lt).lt
      clear hb0 hown hnx hsz
      by_cases hlt : k < t.size
      · have hcut := cut_one hlt
        have hat : t.data.toList[k]? = some t[k] := by
          rw [List.getElem?_eq_getElem (by rw [Array.length_toList]; exact hlt)]
          rfl
        have HAT := Lib.hid hat
        have HXB := Lib.hid (xB_at hlt)
        obtain ⟨c, hc⟩ : ∃ c : UInt8, c = t[k] := ⟨_, rfl⟩
        rw [← hc] at hcut
        have HC0 := Lib.hid hc
        clear hat hc
        by_cases h120 : c = 120
        · subst h120
          have HC := Lib.hid (show xB t k = true by rw [HXB.out, ← HC0.out]; rfl)
          have HA2 := Lib.hid (show ∀ i, i < k + 1 → t.data.toList[i]? = some 120 ∨ t.data.toList[i]? = some 46 from fun i hi => by
            by_cases e : i = k
            · rw [e, HAT.out, ← HC0.out]; exact .inl rfl
            · exact HA.out i (by omega))
          go_wp2_with (at_builtin; refine append_int rfl _ _ rfl (w1.heap.size + 1) _ (xZ t k) _ _ HO.out (by have := xZ_len t k; omega) HZ.out _ rfl rfl rfl ?_; intro a' c' w' hown' hb'; have HO2 := Lib.hid hown'; have HX2 := Lib.hid hb'; have hq := HX2.out.frozen (p := ⟨w1.heap.size, 1, none⟩) (by show w1.heap.size < w1.heap.size + 1; omega); have hq2 := HX2.out.cell (p := ⟨w1.heap.size, 1, none⟩) (by show w1.heap.size < w1.heap.size + 1; omega); clear hown' hb')
          go_roundw
          case rel =>
            refine ⟨k + 1, by omega, by go_num, ?_, HA2⟩
            rw [xZ_yes HC.out]
            have := lst_snoc H0.out HX.out HZ.out HO2.out HX2.out
            simpa using this
          case measure => simp [intOf]; omega
        · by_cases h46 : c = 46
          · subst h46
            have HC := Lib.hid (show xB t k = false by rw [HXB.out, ← HC0.out]; rfl)
            have HA2 := Lib.hid (show ∀ i, i < k + 1 → t.data.toList[i]? = some 120 ∨ t.data.toList[i]? = some 46 from fun i hi => by
              by_cases e : i = k
              · rw [e, HAT.out, ← HC0.out]; exact .inr rfl
              · exact HA.out i (by omega))
            clear h120
            go_wp2
            go_roundw
            case rel => exact ⟨k + 1, by omega, by go_num, ⟨av, cv, by rw [xZ_no HC.out]; exact H0.out, by rw [xZ_no HC.out]; exact HO.out, HX.out, HZ.out⟩, HA2⟩
            case measure => simp [intOf]; omega
          · have HC := Lib.hid (show ¬ PC t from fun q => by
              have := q.2 k hlt
              rw [HAT.out, ← HC0.out] at this
              simp at this
              rcases this with e | e
              · exact h120 e
              · exact h46 e)
            have hn1 : (c == 120) = false := by simpa using h120
            have hn2 : (c == 46) = false := by simpa using h46
            clear h120 h46
            go_wp2
            refine bodyPost_ret (v := .tuple #[rhy 0 none 0 0, .bool false]) (by simp [results, Try.results66, go_sem, *]) rfl (cpost_no HC.out ?_)
            exact ((B1.out.trans (HX.out.mono (by have := HSZ.out; omega))).setCell (by simp) _).setCell (by simp) _
      · have e : k = t.size := by omega
        have HC := Lib.hid (show PC t from ⟨⟨by omega, h24⟩, fun i hi => HA.out i (by omega)⟩)
        have EK := Lib.hid e
        clear e
        have hd1 : decide (k < t.size) = false := by simp; omega
        go_wp2
        refine bodyPost_ret (v := .tuple #[rhy (t.size : Int) av (xZ t k).length cv, .bool true]) (by simp [results, Try.results66, go_sem, *]) rfl (cpost_yes HC.out (by rw [EK.out]) ?_ ?_)
        · rw [← EK.out]
          exact own_base (ownsRow_setCell_below (ownsRow_setCell_below HO.out (by show w.heap.size < w1.heap.size + 1; have := HSZ.out; omega) _) (by show w.heap.size < w1.heap.size + 1; have := HSZ.out; omega) _) (by have := HSZ.out; omega)
        · exact ((B1.out.trans (HX.out.mono (by have := HSZ.out; omega))).setCell (by simp) _).setCell (by simp) _
  · have hd : decide (24 < t.size) = true := by simp; omega
    have HC := Lib.hid (show ¬ PC t from fun q => h24 q.1.2)
    go_enter Try.func66, Try.ntmps66
    go_wp2
    refine bodyPost_ret (v := .tuple #[rhy 0 none 0 0, .bool false]) (by simp [results, Try.results66, go_sem, *]) rfl (cpost_no HC.out ?_)
    exact bel1 w _
end Go.Proofs.Ytldpikcgeijkpaa.Rhy
