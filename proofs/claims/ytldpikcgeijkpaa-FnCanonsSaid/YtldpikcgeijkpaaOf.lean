/-
  Helpers of the claims beside this text: the model's rhythm of some pulses, and its map of a rhythm.
-/
import Derived.Test.YtldpikcgeijkpaaApp
import Derived.Test.YtldpikcgeijkpaaHas
import Derived.Test.YtldpikcgeijkpaaMath
namespace Go.Proofs.Ytldpikcgeijkpaa.Rhy
open Go.RowKit
set_option linter.unusedVariables false

theorem hasB_def (l : List Int) (x : Int) : hasB l x = l.contains x := rfl

def OfAt (g n k : Nat) (l : List Int) (w wr : World) : Prop :=
  ∃ av cv, Box wr g (.int .i64 0) (.slice none 0 0) 25 ∧ Box wr (g + 1) (.int .i64 n) (.slice av (ofZ k l).length cv) 25 ∧
    wr.ownsRow (g + 2) 3 1 (.slice av (ofZ k l).length cv) (ofZ k l).length (ints (ofZ k l)) ∧ Below g w wr ∧ g + 2 ≤ wr.heap.size

set_option maxHeartbeats 400000 in
theorem of_any (n : Nat) (a : Option Addr) (len cap : Nat) (l : List Int) (w : World) (h : IntsAt w a len l) (hm : len ≤ 1048576) (hn : n ≤ 1000) :
    Calls Try.prog 76 #[.int .i64 n, .slice a len cap] w (RhyPost n (ofZ n l) w) := by
  have HS := Lib.hid h
  clear h
  go_enter Try.func76, Try.ntmps76
  go_wp2
  obtain ⟨g, hg⟩ : ∃ g, g = w.heap.size := ⟨_, rfl⟩
  have HG := Lib.hid hg
  rw [← hg]
  clear hg
  go_loopw [6] (fun i wr => ∃ k : Nat, k ≤ n ∧ i = .int .i64 k ∧ OfAt g n k l w wr) (fun i _ => n - (intOf i).toNat)
  case atStart =>
    refine ⟨0, by omega, rfl, none, 0, ?_, ?_, World.ownsRow_nil _ _ _ _, ?_, ?_⟩
    · have := box_new w (.int .i64 0) (.slice none 0 0) 25
      rw [HG.out]
      exact this.keep (B := w.heap.size + 1) ((Below.refl _ _).alloc (by simp) _) (by omega)
    · have := box_new (w.alloc (.cells #[.int .i64 0, .slice none 0 0] 25)) (.int .i64 n) (.slice none 0 0) 25
      rw [HG.out]
      simpa [ofZ_zero] using this
    · rw [HG.out]; exact bel2 w _ _
    · rw [HG.out]; simp
  case round =>
    obtain ⟨k, hk, rfl, av, cv, hb0, hb1, hown, hnx, hsz⟩ := hrel
    have H0 := Lib.hid hb0
    have H1 := Lib.hid hb1
    have HO := Lib.hid hown
    have HX := Lib.hid hnx
    have HZ := Lib.hid hsz
    obtain ⟨c0, c1, f0, f1⟩ := H0.out.facts
    obtain ⟨d0, d1, e0, e1⟩ := H1.out.facts
    obtain ⟨lt0, lt1⟩ := And.intro hb0.lt hb1.lt
    clear hb0 hb1 hown hnx hsz
    by_cases hlt : k < n
    · have HI : Hid (IntsAt wr a len l) := Lib.hid (HS.out.below (by rw [← HG.out]; exact HX.out))
      cases hc : l.contains (k : Int)
      · have HC := Lib.hid hc
        clear hc
        go_wp2_with (go_at_call 91; refine (has_any a len cap l _ _ HI.out (by omega)).mono ?_; rintro e w' ⟨rfl, rfl⟩; rw [show hasB l (k : Int) = false from HC.out])
        go_roundw
        case rel => exact ⟨k + 1, by omega, by go_num, av, cv, H0.out, by rw [ofZ_no HC.out]; exact H1.out, by rw [ofZ_no HC.out]; exact HO.out, HX.out, HZ.out⟩
        case measure => simp [intOf]; omega
      · have HC := Lib.hid hc
        clear hc
        go_wp2_with (first | (go_at_call 91; refine (has_any a len cap l _ _ HI.out (by omega)).mono ?_; rintro e w' ⟨rfl, rfl⟩; rw [show hasB l (k : Int) = true from HC.out]) | (at_builtin; refine append_int rfl _ _ rfl (g + 2) _ (ofZ k l) _ _ HO.out (by have := ofZ_len k l; omega) HZ.out _ rfl rfl rfl ?_; intro a' c' w' hown' hb'; have HO2 := Lib.hid hown'; have HX2 := Lib.hid hb'; have hq := HX2.out.frozen (p := ⟨g + 1, 1, none⟩) (by show g + 1 < g + 2; omega); have hq2 := HX2.out.cell (p := ⟨g + 1, 1, none⟩) (by show g + 1 < g + 2; omega); clear hown' hb'))
        go_roundw
        case rel =>
          refine ⟨k + 1, by omega, by go_num, a', c', ?_, ?_, ?_, ?_, ?_⟩
          · exact (H0.out.keep HX2.out (by omega)).other _ (by omega)
          · rw [ofZ_yes HC.out]
            have := (H1.out.keep HX2.out (by omega)).set1 (.slice a' ((ofZ k l).length + 1) c')
            simpa using this
          · rw [ofZ_yes HC.out]
            exact ownsRow_setCell_below HO2.out (by show g + 1 < g + 2; omega) _
          · exact (HX.out.trans (HX2.out.mono (by omega))).setCell (by show g ≤ g + 1; omega) _
          · have := HX2.out.size
            have := HZ.out
            simp; omega
        case measure => simp [intOf]; omega
    · go_wp2
      have e : k = n := by omega
      subst e
      refine bodyPost_ret (v := rhy k av (ofZ k l).length cv) (by simp [results, Try.results76, go_sem, *]) rfl ⟨av, cv, rfl, ?_, ?_⟩
      · exact own_base (ownsRow_setCell_below (ownsRow_setCell_below HO.out (by show g < g + 2; omega) _) (by show g < g + 2; omega) _) (by have := HG.out; omega)
      · rw [← HG.out]; exact (HX.out.setCell (by simp) _).setCell (by simp) _

theorem of_int (s : Int) (a : Option Addr) (len cap : Nat) (l : List Int) (w : World) (h : IntsAt w a len l) (hm : len ≤ 1048576) (h0 : 0 ≤ s) (h1 : s ≤ 1000) :
    Calls Try.prog 76 #[.int .i64 s, .slice a len cap] w (RhyPost s (ofZ s.toNat l) w) := by
  obtain ⟨n, rfl⟩ : ∃ n : Nat, s = n := ⟨s.toNat, by omega⟩
  exact of_any n a len cap l w h hm (by omega)

/-- The remainders of u * p + k of the beats p. -/
def mapL (s : Int) (zs : List Int) (u k : Int) : List Int := zs.map fun p => remB (u * p + k) s
theorem mapL_len (s : Int) (zs : List Int) (u k : Int) : (mapL s zs u k).length = zs.length := by simp [mapL]
theorem mapL_snoc {s : Int} {zs : List Int} {u k : Int} {j : Nat} {z : Int} (h : zs[j]? = some z) : mapL s (zs.take (j + 1)) u k = mapL s (zs.take j) u k ++ [remB (u * z + k) s] := by
  unfold mapL
  rw [List.take_add_one, h]
  simp
theorem mul_bd {u z : Int} (h1 : -1000 ≤ u) (h2 : u ≤ 1000) (h3 : 0 ≤ z) (h4 : z < 24) : -24000 ≤ u * z ∧ u * z ≤ 24000 := by
  have a1 : u * z ≤ 1000 * z := Int.mul_le_mul_of_nonneg_right h2 h3
  have a2 : -1000 * z ≤ u * z := Int.mul_le_mul_of_nonneg_right h1 h3
  omega

def MapAt (g len j : Nat) (s : Int) (a : Option Addr) (cap : Nat) (zs : List Int) (u k : Int) (v : Value) (w wr : World) : Prop :=
  ∃ av cv, v = .slice av (mapL s (zs.take j) u k).length cv ∧ Box wr g (.int .i64 s) (.slice a len cap) 25 ∧ Box wr (g + 1) (.int .i64 0) (.slice none 0 0) 25 ∧
    wr.ownsRow (g + 2) 3 1 (.slice av (mapL s (zs.take j) u k).length cv) (mapL s (zs.take j) u k).length (ints (mapL s (zs.take j) u k)) ∧ Below g w wr ∧ g + 2 ≤ wr.heap.size

theorem ok_at {s : Int} {zs : List Int} (h : Ok s zs) {j : Nat} {z : Int} (hz : zs[j]? = some z) : 0 ≤ z ∧ z < s := by
  have hj : j < zs.length := by
    rcases Nat.lt_or_ge j zs.length with h' | h'
    · exact h'
    · rw [List.getElem?_eq_none h'] at hz; cases hz
  have := h.2 j hj z hz
  exact ⟨this.1, this.2.1⟩
theorem remB_int {k n : Int} (h1 : 1 ≤ n) (h2 : n ≤ 1000) : -9223372036854775808 ≤ remB k n ∧ remB k n ≤ 9223372036854775807 := by
  have := remB_bd k n (by omega)
  omega
theorem mapL_int {s : Int} {zs : List Int} {u k : Int} (h1 : 1 ≤ s) (h2 : s ≤ 1000) : AllInt (mapL s zs u k) := by
  intro z hz
  unfold mapL at hz
  rw [List.mem_map] at hz
  obtain ⟨p, _, rfl⟩ := hz
  exact remB_int h1 h2


end Go.Proofs.Ytldpikcgeijkpaa.Rhy
