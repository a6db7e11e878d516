/-
  Helpers of the claims beside this text: a part of a row of the call's own; lists without zeros at the end.
-/
import Derived.Test.YtdpcabiajhfllaaPlb
import Derived.Test.YtdpcabiajhfllaaApp
namespace Go.Proofs.Ytdpcabiajhfllaa.Rhy
open Go.RowKit
set_option linter.unusedVariables false
set_option linter.unusedSimpArgs false

/-- A part of a row of the call's own, in a block from lo up to hi. -/
def PRow (w : World) (lo hi : Nat) (a : Option Addr) (n cap : Nat) (l : List Int) : Prop :=
  l.length = n ∧ hi ≤ w.heap.size ∧ (0 < n → ∃ g off N M L, a = some ⟨g, off, none⟩ ∧ lo ≤ g ∧ g < hi ∧ w.ownsRow lo 3 1 (.slice (some ⟨g, 0, none⟩) N M) N (ints L) ∧ off + n ≤ N ∧ (L.drop off).take n = l)
theorem PRow.lo {w : World} {lo hi lo' : Nat} {a : Option Addr} {n cap : Nat} {l : List Int} (h : PRow w lo hi a n cap l) (hl : lo' ≤ lo) : PRow w lo' hi a n cap l := by
  refine ⟨h.1, h.2.1, fun hp => ?_⟩
  obtain ⟨g, off, N, M, L, h1, h2, h3, h4, h5⟩ := h.2.2 hp
  exact ⟨g, off, N, M, L, h1, Nat.le_trans hl h2, h3, own_base h4 hl, h5⟩
theorem PRow.hi {w : World} {lo hi hi' : Nat} {a : Option Addr} {n cap : Nat} {l : List Int} (h : PRow w lo hi a n cap l) (hl : hi ≤ hi') (hs : hi' ≤ w.heap.size) : PRow w lo hi' a n cap l := by
  refine ⟨h.1, hs, fun hp => ?_⟩
  obtain ⟨g, off, N, M, L, h1, h2, h3, h4, h5⟩ := h.2.2 hp
  exact ⟨g, off, N, M, L, h1, h2, Nat.lt_of_lt_of_le h3 hl, h4, h5⟩
theorem PRow.keep {w w' : World} {lo hi : Nat} {a : Option Addr} {n cap : Nat} {l : List Int} (h : PRow w lo hi a n cap l) (hb : Below w.heap.size w w') : PRow w' lo hi a n cap l := by
  refine ⟨h.1, Nat.le_trans h.2.1 hb.size, fun hp => ?_⟩
  obtain ⟨g, off, N, M, L, h1, h2, h3, h4, h5⟩ := h.2.2 hp
  exact ⟨g, off, N, M, L, h1, h2, h3, own_below h4 hb, h5⟩
theorem PRow.within {w w' : World} {lo hi lo' hi' : Nat} {a : Option Addr} {n cap : Nat} {l : List Int} (h : PRow w lo hi a n cap l) (hb : Within lo' hi' w w') (hd : hi ≤ lo' ∨ hi' ≤ lo) : PRow w' lo hi a n cap l := by
  refine ⟨h.1, Nat.le_trans h.2.1 hb.size, fun hp => ?_⟩
  obtain ⟨g, off, N, M, L, h1, h2, h3, h4, h5⟩ := h.2.2 hp
  refine ⟨g, off, N, M, L, h1, h2, h3, hb.grown (fun k e => ?_) (fun k e => (h4.lt k e).2) h4, h5⟩
  obtain rfl : g = k := by simpa [Value.ownBlock] using e
  omega
theorem own_len {w : World} {B : Nat} {v : Value} {n : Nat} {l : List Int} (h : w.ownsRow B 3 1 v n (ints l)) : l.length = n := (own_shape h).1
theorem PRow.at {w : World} {lo hi : Nat} {a : Option Addr} {n cap : Nat} {l : List Int} (h : PRow w lo hi a n cap l) (hi : AllInt l) : IntsAt w a n l := by
  refine ⟨h.1, hi, fun hp => ?_⟩
  obtain ⟨g, off, N, M, L, rfl, h2, h3, h4, h5, h6⟩ := h.2.2 hp
  refine ⟨g, off, rfl, Nat.lt_of_lt_of_le h3 h.2.1, fun j z hj => ?_⟩
  have hjn : j < n := by
    have := (List.getElem?_eq_some_iff.1 hj).1
    rw [h.1] at this
    exact this
  rw [h4.cellAt (off + j) (by omega), ints, List.getElem?_map]
  rw [← h6, List.getElem?_take, if_pos hjn, List.getElem?_drop] at hj
  rw [hj]
  rfl
theorem prow_of {w' : World} {lo : Nat} {a : Option Addr} {n cap : Nat} {l : List Int} (h : w'.ownsRow lo 3 1 (.slice a n cap) n (ints l)) : PRow w' lo w'.heap.size a n cap l := by
  refine ⟨own_len h, Nat.le_refl _, fun hp => ?_⟩
  obtain ⟨hl, a', cap', hv, hc⟩ := own_shape h
  obtain ⟨g, rfl, h1, h2, _⟩ := hc hp
  simp at hv
  obtain ⟨rfl, rfl⟩ := hv
  exact ⟨g, 0, n, cap, l, rfl, h1, h2, h, by omega, by simp [← hl]⟩
theorem prow_own {w : World} {lo g N M : Nat} {L : List Int} (h : w.ownsRow lo 3 1 (.slice (some ⟨g, 0, none⟩) N M) N (ints L)) (off n cap : Nat) (hn : off + n ≤ N) {l : List Int} (hl : (L.drop off).take n = l) : PRow w lo w.heap.size (some ⟨g, off, none⟩) n cap l := by
  have e := own_len h
  refine ⟨by rw [← hl]; simp; omega, Nat.le_refl _, fun hp => ⟨g, off, N, M, L, rfl, (h.lt g rfl).1, (h.lt g rfl).2, h, hn, hl⟩⟩
theorem prow_nil (w : World) {lo : Nat} (a : Option Addr) (cap : Nat) : PRow w lo w.heap.size a 0 cap [] := ⟨rfl, Nat.le_refl _, fun h => by omega⟩
theorem prow_addr {w : World} {lo hi : Nat} {a b : Option Addr} {n c c' : Nat} {l : List Int} (h : PRow w lo hi a n c l) (e : 0 < n → b = a) : PRow w lo hi b n c' l :=
  ⟨h.1, h.2.1, fun hp => by rw [e hp]; exact h.2.2 hp⟩
/-- What a function that answers with a part of a row leaves. -/
def IPart (zs : List Int) (w : World) (e : Ending) (w' : World) : Prop :=
  ∃ a cap, e = .returned (.slice a zs.length cap) ∧ PRow w' w.heap.size w'.heap.size a zs.length cap zs ∧ Below w.heap.size w w'
theorem ipart_of {zs : List Int} {w : World} {e : Ending} {w' : World} (h : IPost zs w e w') : IPart zs w e w' := by
  obtain ⟨a, cap, rfl, h1, h2⟩ := h
  exact ⟨a, cap, rfl, prow_of h1, h2⟩
theorem marks_set (l : List Int) (n k c : Nat) (hn : l.length = n) (hk : k < n) :
    (marks c k ++ l.drop k).set k ((c + k : Nat) : Int) = marks c (k + 1) ++ l.drop (k + 1) := by
  have e : marks c (k + 1) = marks c k ++ [((c + k : Nat) : Int)] := by simp [marks, List.range_succ]
  have hd : l.drop k = l[k]'(by omega) :: l.drop (k + 1) := by rw [List.drop_eq_getElem_cons (by omega)]
  have hs := set_mid (marks c k) (l.drop (k + 1)) (l[k]'(by omega)) ((c + k : Nat) : Int)
  rw [marks_len] at hs
  rw [e, hd, hs, List.append_assoc]
  rfl
theorem mark_part (lo hi c : Nat) (a : Option Addr) (cap n : Nat) (l : List Int) (w : World) (ha : PRow w lo hi a n cap l) (hl : n ≤ 1073741000) (hc : c ≤ 1073741000) :
    Calls Try.prog 20 #[.slice a n cap, .int .i64 c] w fun e w' => e = .returned (.int .i64 ((c : Int) + n)) ∧ PRow w' lo hi a n cap (marks c n) ∧ Within lo hi w w' := by
  by_cases hn0 : n = 0
  · subst hn0
    have HA := Lib.hid ha
    clear ha
    go_enter Try.func20, Try.ntmps20
    go_wp2
    go_loopw [5, 1] (fun i q wr => i = .int .i64 0 ∧ q = .int .i64 (c : Int) ∧ wr = w) (fun i _ _ => 0)
    case atStart => exact ⟨rfl, rfl, rfl⟩
    case round =>
      obtain ⟨rfl, rfl, rfl⟩ := hrel
      go_wp2
      go_ret
      exact ⟨by simp, ⟨by simp [marks], HA.out.2.1, fun h => by omega⟩, Within.refl _ _ _⟩
  · obtain ⟨g, off, N, M, L, rfl, hlo, hhi, hown, hoff, hL⟩ := ha.2.2 (by omega)
    have hlen : l.length = n := ha.1
    have hLN : L.length = N := own_len hown
    have HS := Lib.hid ha.2.1
    have HA := Lib.hid hown
    have HL := Lib.hid hL
    have HN := Lib.hid hlen
    have HLN := Lib.hid hLN
    clear ha hown hL hlen hLN
    go_enter Try.func20, Try.ntmps20
    go_wp2
    go_loopw [5, 1] (fun i q wr => ∃ k : Nat, k ≤ n ∧ i = .int .i64 k ∧ q = .int .i64 ((c : Int) + k) ∧ (∃ L' : List Int, wr.ownsRow lo 3 1 (.slice (some ⟨g, 0, none⟩) N M) N (ints L') ∧ (L'.drop off).take n = marks c k ++ l.drop k) ∧ Within lo hi w wr) (fun i _ _ => n - (intOf i).toNat)
    case atStart => exact ⟨0, by omega, rfl, by simp, ⟨L, HA.out, by simpa [marks] using HL.out⟩, Within.refl _ _ _⟩
    case round =>
      obtain ⟨k, hk, rfl, rfl, ⟨L', hown, hL'⟩, hnx⟩ := hrel
      have HO := Lib.hid hown
      have HX := Lib.hid hnx
      have HP := Lib.hid hL'
      clear hown hnx hL'
      by_cases hlt : k < n
      · obtain ⟨z, hz⟩ : ∃ z, L'[off + k]? = some z := ⟨_, List.getElem?_eq_getElem (by have := own_len HO.out; omega)⟩
        have hc1 := HO.out.cellAt (off + k) (by omega)
        have hc2 : wr.cell? ⟨g, off + k, none⟩ = some (.int .i64 z) := by rw [hc1, ints, List.getElem?_map, hz]; rfl
        have hf1 := HO.out.frozenAt (off + k)
        have HQ : Hid (((L'.set (off + k) ((c + k : Nat) : Int)).drop off).take n = marks c (k + 1) ++ l.drop (k + 1)) := Lib.hid (by
          rw [List.drop_set, if_neg (by omega), List.take_set, HP.out, show off + k - off = k by omega]
          exact marks_set l n k c HN.out hlt)
        clear hz hc1
        go_wp2
        go_roundw
        case rel =>
          have hst := HO.out.stored (off + k) (.int .i64 ((c + k : Nat) : Int))
          rw [ints, ← List.map_set] at hst
          exact ⟨k + 1, by omega, by go_num, by go_num, ⟨_, hst.1, HQ.out⟩, HX.out.setCell g ⟨hlo, hhi⟩ _ _⟩
        case measure => simp [intOf]; omega
      · go_wp2
        go_ret
        have e : k = n := by omega
        subst e
        refine ⟨rfl, ⟨marks_len _ _, Nat.le_trans HS.out HX.out.size, fun _ => ⟨g, off, N, M, L', rfl, hlo, hhi, HO.out, hoff, ?_⟩⟩, HX.out⟩
        rw [HP.out, List.drop_of_length_le (by rw [HN.out]; exact Nat.le_refl _), List.append_nil]
theorem ret_b {a b : Bool} (h : a = b) : Ending.returned (.bool a) = .returned (.bool b) := by rw [h]
theorem ret_i {k : IntKind} {a b : Int} (h : a = b) : Ending.returned (.int k a) = .returned (.int k b) := by rw [h]
/-! ### Without the zeros at the end -/
theorem take_snoc {zs : List Int} {k : Nat} {z : Int} (h : zs[k]? = some z) : zs.take (k + 1) = zs.take k ++ [z] := by rw [List.take_add_one, h]; rfl
theorem trim_yes {zs : List Int} {k : Nat} (h : zs[k]? = some 0) : trimL (zs.take (k + 1)) = trimL (zs.take k) := by rw [take_snoc h, trim_snoc, if_pos rfl]
theorem trim_no {zs : List Int} {k : Nat} {z : Int} (h : zs[k]? = some z) (hz : z ≠ 0) : trimL (zs.take (k + 1)) = zs.take (k + 1) := by rw [take_snoc h, trim_snoc, if_neg hz]
theorem trim_is_take (l : List Int) : trimL l = l.take (trimL l).length := by
  refine rev_ind (P := fun l => trimL l = l.take (trimL l).length) (by simp [trimL]) (fun l x ih => ?_) l
  rw [trim_snoc]
  split
  · rw [List.take_append_of_le_length (trim_len l)]; exact ih
  · rw [List.take_length]
theorem clean_nil : Clean [] := fun h => absurd rfl h
theorem clean_iff {zs : List Int} {k : Nat} {z : Int} (hl : zs.length = k + 1) (h : zs[k]? = some z) : Clean zs ↔ z ≠ 0 := by
  have hn : zs ≠ [] := by intro e; rw [e] at hl; simp at hl
  have e : zs.getLast hn = z := by
    rw [List.getLast_eq_getElem]
    have := (List.getElem?_eq_some_iff.1 h).2
    simpa [hl] using this
  exact ⟨fun h => by rw [← e]; exact h hn, fun h _ => by rw [e]; exact h⟩
theorem co_some {zs : List Int} {k : Nat} {z : Int} (h : zs[k]? = some z) : co zs k = z := by simp [co, h]
/-- A polynomial with small coefficients. -/
def PolC (zs : List Int) : Prop := zs.length ≤ 40 ∧ Clean zs ∧ ∀ z ∈ zs, -1000 ≤ z ∧ z ≤ 1000
theorem pol_bds {zs : List Int} (h : PolC zs) : Bd (1000 : Nat) zs := by
  intro p
  by_cases hp : p < zs.length
  · rw [co_get hp]; have := h.2.2 _ (List.getElem_mem hp); omega
  · rw [co_big (by omega)]; omega
theorem bd_int {M : Int} {l : List Int} (h : Bd M l) (hM : M ≤ 4611686018427387904) : AllInt l := by
  intro z hz
  obtain ⟨i, hi, rfl⟩ := List.getElem_of_mem hz
  have := h i
  rw [co_get hi] at this
  omega
end Go.Proofs.Ytdpcabiajhfllaa.Rhy
