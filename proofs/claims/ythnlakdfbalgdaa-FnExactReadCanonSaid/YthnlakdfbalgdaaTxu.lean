/-
  Helpers of the claims beside this text: slices of texts: what szStringS and toStringS of the laws do; a slice of texts that comes in.
-/
import Derived.Test.YthnlakdfbalgdaaTxs
import Derived.Test.YthnlakdfbalgdaaOpen
import Derived.SliceStrings
namespace Go.Proofs.Ythnlakdfbalgdaa.Rhy
open Go.ChangeShapes Go.WideShapes Go.RowKit Go.Joins
set_option linter.unusedVariables false

/-- The bytes of all texts. -/
def totT (l : List ByteArray) : Nat := (l.map (·.size)).sum
theorem totT_snoc (ss : List ByteArray) (k : Nat) (s : ByteArray) (h : ss[k]? = some s) : totT (ss.take (k + 1)) = totT (ss.take k) + s.size := by
  rw [List.take_add_one, h]
  simp [totT]
theorem totT_mem {ss : List ByteArray} {s : ByteArray} (h : s ∈ ss) : s.size ≤ totT ss := by
  induction ss with
  | nil => cases h
  | cons a ss ih =>
    rcases List.mem_cons.1 h with rfl | h
    · simp [totT]
    · have := ih h
      simp [totT] at this ⊢
      omega
/-- What the measure of a list of texts says. -/
def SzPost (len : Nat) (ss : List ByteArray) (w : World) (e : Ending) (w' : World) : Prop :=
  ∃ r : Int, e = .returned (.int .i64 r) ∧ Below w.heap.size w w' ∧ (r < 0 ∨ (0 ≤ r ∧ len ≤ 1048576 ∧ totT ss ≤ 1048576)) ∧ -9223372036854775808 ≤ r ∧ r ≤ 9223372036854775807
theorem size_txts (a : Option Addr) (len cap : Nat) (ss : List ByteArray) (w : World) (h : TxtsAt w a len ss) (hm : len ≤ 9223372036854775807) (hz : ∀ s ∈ ss, s.size ≤ 9223372036854775807) :
    Calls Try.prog 49 #[.slice a len cap, .int .i64 1048576] w (SzPost len ss w) := by
  by_cases hl : 1048576 < len
  · go_enter Try.func49, Try.ntmps49
    go_wp2
    go_ret
    exact ⟨-1, rfl, Below.refl _ _, .inl (by omega), by omega, by omega⟩
  · have HS := Lib.hid h
    have HZ := Lib.hid hz
    clear h hz
    go_enter Try.func49, Try.ntmps49
    go_wp2
    go_loop [1, 5] (fun q i => ∃ k : Nat, ∃ r : Int, k ≤ len ∧ i = .int .i64 k ∧ q = .int .i64 r ∧ 0 ≤ r ∧ r ≤ 1048576 ∧ r + len + totT (ss.take k) = 1048576) (fun _ i => len - (intOf i).toNat)
    case atStart => exact ⟨0, (1048576 : Int) - len, by omega, rfl, rfl, by omega, by omega, by simp [totT]⟩
    case round =>
      obtain ⟨k, r, hk, rfl, rfl, hr0, hr1, hr⟩ := hrel
      have HR := Lib.hid hr
      clear hr
      by_cases hlt : k < len
      · obtain ⟨b, off, s, rfl, _, hs, hcell⟩ := HS.out.at hlt
        have hsz := HZ.out s (List.mem_of_getElem? hs)
        have HT := Lib.hid (totT_snoc ss k s hs)
        clear hs
        by_cases hneg : r < s.size
        · go_wp2
          go_ret
          exact ⟨-1, rfl, Below.refl _ _, .inl (by omega), by omega, by omega⟩
        · go_wp2
          go_round
          case rel => exact ⟨k + 1, r - s.size, by omega, by go_num, rfl, by omega, by omega, by rw [HT.out]; have := HR.out; omega⟩
          case measure => simp [intOf]; omega
      · go_wp2
        go_ret
        have e : k = len := by omega
        subst e
        have hr := HR.out
        rw [List.take_of_length_le (by rw [HS.out.1]; exact Nat.le_refl _)] at hr
        exact ⟨r, rfl, Below.refl _ _, .inr ⟨hr0, by omega, by omega⟩, by omega, by omega⟩

theorem copyT_step (l : List ByteArray) (n k : Nat) (s : ByteArray) (hn : l.length = n) (hs : l[k]? = some s) :
    (txts (l.take k) ++ List.replicate (n - k) (Value.string ByteArray.empty)).set k (.string s) = txts (l.take (k + 1)) ++ List.replicate (n - (k + 1)) (Value.string ByteArray.empty) := by
  have hk : k < l.length := by
    rcases Nat.lt_or_ge k l.length with h | h
    · exact h
    · rw [List.getElem?_eq_none h] at hs; cases hs
  have e : n - k = (n - (k + 1)) + 1 := by omega
  unfold txts
  rw [e, List.replicate_succ]
  have h := set_mid ((l.take k).map Value.string) (List.replicate (n - (k + 1)) (Value.string ByteArray.empty)) (.string ByteArray.empty) (.string s)
  rw [List.length_map, List.length_take, Nat.min_eq_left (by omega)] at h
  rw [h, List.take_add_one, hs]
  simp
theorem copy_txts (a : Option Addr) (len cap : Nat) (ss : List ByteArray) (w : World) (h : TxtsAt w a len ss) (hm : len ≤ 1048576) :
    Calls Try.prog 51 #[.slice a len cap] w (TPost ss w) := by
  have HS := Lib.hid h
  have hl : ss.length = len := h.1
  clear h
  obtain ⟨i0, hi, hz0, hz1, hz2⟩ := info_parts infoTxt
  have HI := Lib.hid (show _ ∧ _ ∧ _ ∧ _ from ⟨hi, hz0, hz1, hz2⟩)
  clear hi hz0 hz1 hz2
  go_enter Try.func51, Try.ntmps51
  go_wp2_with (at_make; refine wpList_make_full _ rfl _ _ 42 rfl w.heap.size 9 i0 (.string ByteArray.empty) 1 Try.underlying42 HI.out.1 HI.out.2.1 HI.out.2.2.1 .i64 .i64 len len len rfl rfl rfl rfl ?b2 ?b3 ?b4 ?_)
  case b2 => rw [HI.out.2.2.2]; omega
  case b3 => unfold maxLen; omega
  case b4 => exact Nat.le_refl _
  intro w1 hown hgrow
  have HO := Lib.hid hown
  have HG : Hid (Below w.heap.size w w1) := Lib.hid ((Below.refl w.heap.size w).grown hgrow (Nat.le_refl _) (by intro k hk; cases hk))
  clear hown hgrow
  obtain ⟨g, hg⟩ : ∃ g, g = w.heap.size := ⟨_, rfl⟩
  have HGE := Lib.hid hg
  rw [← hg]
  rw [← hg] at HO HG
  clear hg
  go_wp2
  go_loopw [4] (fun i wr => ∃ k : Nat, k ≤ len ∧ i = .int .i64 k ∧ wr.ownsRow g 9 1 (.slice (some ⟨g, 0, none⟩) len len) len (txts (ss.take k) ++ List.replicate (len - k) (Value.string ByteArray.empty)) ∧ Below g w wr) (fun i _ => len - (intOf i).toNat)
  case atStart => exact ⟨0, by omega, rfl, by have := HO.out; rw [toList_madeCells_one] at this; simpa [txts] using this, HG.out⟩
  case round =>
    obtain ⟨k, hk, rfl, hown, hnx⟩ := hrel
    have HR := Lib.hid hown
    have HX := Lib.hid hnx
    clear hown hnx
    by_cases hlt : k < len
    · obtain ⟨b, off, s, rfl, hb, hs, hc⟩ := HS.out.at hlt
      have hcell : wr.cell? ⟨b, off + k, none⟩ = some (.string s) := by rw [HX.out.cell (p := ⟨b, off + k, none⟩) (by rw [HGE.out]; exact hb)]; exact hc
      have hfz := HR.out.frozenAt k
      obtain ⟨old, hold⟩ : ∃ v, wr.cell? ⟨g, k, none⟩ = some v := by
        rw [HR.out.cellAt k (by omega)]
        exact ⟨_, List.getElem?_eq_getElem (by have := HR.out.1; omega)⟩
      have HC := Lib.hid (copyT_step ss len k s HS.out.1 hs)
      clear hc hs
      go_wp2
      go_roundw
      case rel =>
        have hst := HR.out.stored k (.string s)
        rw [HC.out] at hst
        exact ⟨k + 1, by omega, by go_num, hst.1, HX.out.setCell (Nat.le_refl _) _⟩
      case measure => simp [intOf]; omega
    · go_wp2
      go_ret
      have e : k = len := by omega
      subst e
      have := HR.out
      rw [List.take_of_length_le (by rw [HS.out.1]; exact Nat.le_refl _), Nat.sub_self] at this
      refine ⟨some ⟨g, 0, none⟩, k, by rw [hl]; rfl, ?_, by rw [← HGE.out]; exact HX.out⟩
      rw [← HGE.out, hl]
      simpa using this

/-- What is known of a slice of texts that comes in. -/
def OpenedT (W : World) (a : Option Addr) (len : Nat) (ss : List ByteArray) : Prop :=
  TxtsAt W a len ss ∧ len ≤ 9223372036854775807 ∧ ∀ s ∈ ss, s.size ≤ 9223372036854775807
theorem txts_at {W : World} {x : Addr} {len cap : Nat} {ss : List ByteArray} (hl : len ≤ cap) (hz : ss.length = cap) (hcell : ∀ i, i < ss.length → W.cell? (x.add i) = some (.string (ss.getD i ByteArray.empty))) :
    TxtsAt W (some x) len (ss.take len) := by
  refine ⟨by rw [List.length_take]; omega, fun hp => ?_⟩
  obtain ⟨b, off, spot⟩ := x
  have h0 := hcell 0 (by omega)
  have hspot : spot = none := by simpa [Addr.add] using World.cell?_spot h0
  subst hspot
  refine ⟨b, off, rfl, ?_, fun j s hj => ?_⟩
  · have := World.block_lt_of_cell? W _ h0
    simpa [Addr.add] using this
  · have hj1 : j < len ∧ ss[j]? = some s := by
      rw [List.getElem?_take] at hj
      split at hj
      · exact ⟨by assumption, hj⟩
      · cases hj
    rw [← Go.WideShapes.add_plain, hcell j (by omega), List.getD, hj1.2]
    rfl
set_option maxRecDepth 100000 in
theorem openedT {W : World} {H : Type} {enc : TypeId × Value → H} {v : Value} {d : DataW H} {p : List MemPlace} {b0 : Nat} (hv : Value.okWide Try.prog W .any b0 42 v)
    (h : DataW.Trod enc Try.prog W 0 (fun _ => true) true 42 v d p) :
    ∃ a len cap ss, v = .slice a len cap ∧ OpenedT W a len ss := by
  obtain ⟨a, len, cap, rfl⟩ := okWide_slice Try.underlying42 hv
  obtain ⟨fuel, hf⟩ := h
  rcases open_strings Try.underlying42 Try.underlying9 (by kernel_rfl) hf with ⟨hcs, _⟩ | ⟨x, l, c, ss, hcs, _, hl, hm, hz, _, hcell, hsz⟩
  · simp [Value.cells] at hcs
    obtain ⟨rfl, rfl, rfl⟩ := hcs
    exact ⟨_, _, _, [], rfl, ⟨rfl, fun h => absurd h (by omega)⟩, by omega, fun s h => by cases h⟩
  · simp [Value.cells] at hcs
    obtain ⟨rfl, rfl, rfl⟩ := hcs
    have hz' : ss.length = cap := by simpa using hz
    unfold maxLen at hm
    exact ⟨_, _, _, ss.take len, rfl, txts_at hl hz' hcell, by omega, fun s h => by have := hsz s (List.mem_of_mem_take h); unfold maxLen at this; omega⟩
end Go.Proofs.Ythnlakdfbalgdaa.Rhy
