/-
  Helpers of the claims beside this text: JoinRhythms of the model and of the program.
-/
import Derived.Test.YtjgjcppkbfojpaaApp2
import Derived.Test.YtjgjcppkbfojpaaCmp
import Derived.Test.YtjgjcppkbfojpaaSame
namespace Go.Proofs.Ytjgjcppkbfojpaa.Rhy
open Go.RowKit
set_option linter.unusedVariables false

theorem cell_set_ne (w : World) (c o b p : Nat) (v : Value) (h : c ≠ b) : (w.setCell ⟨c, o, none⟩ v).cell? ⟨b, p, none⟩ = w.cell? ⟨b, p, none⟩ :=
  World.cell?_of_block (Below.heap_setCell _ _ _ _ (by show b ≠ c; omega))

theorem join_at {w : World} {B : Nat} {a : Option Addr} {c : Nat} {xs ys : List Int} (h : w.ownsRow B 3 1 (.slice a (([] ++ xs) ++ ys).length c) (([] ++ xs) ++ ys).length (ints (([] ++ xs) ++ ys))) (hi : AllInt (xs ++ ys)) : IntsAt w a (xs.length + ys.length) (xs ++ ys) := by
  have h2 := h
  rw [List.nil_append, List.length_append] at h2
  exact intsAt_own h2 hi

def JC (s : Int) (xs : List Int) (t : Int) (ys : List Int) : Prop := Ok s xs ∧ Ok t ys ∧ s = t
theorem join_range {s t : Int} {xs ys : List Int} (h : JC s xs t ys) : ∀ x ∈ xs ++ ys, 0 ≤ x ∧ x < (s.toNat : Nat) := by
  intro x hx
  rw [List.mem_append] at hx
  have h1 := h.1.1.1
  have h2 := h.2.2
  rcases hx with hx | hx
  · have := ok_range h.1 x hx; omega
  · have := ok_range h.2.1 x hx; omega
theorem join_int {s t : Int} {xs ys : List Int} (h : JC s xs t ys) : AllInt (xs ++ ys) := by
  intro x hx
  have := join_range h x hx
  have := h.1.1
  omega
theorem join_len {s t : Int} {xs ys : List Int} (h : JC s xs t ys) : (xs ++ ys).length ≤ 48 := by
  have := ok_len h.1
  have := ok_len h.2.1
  rw [List.length_append]
  omega

set_option maxHeartbeats 1000000 in
theorem join_impl (s : Int) (a : Option Addr) (n ca : Nat) (xs : List Int) (t : Int) (b : Option Addr) (m cb : Nat) (ys : List Int) (w : World) (ha : IntsAt w a n xs) (hn : xs.length ≤ 1048576) (hb : IntsAt w b m ys) (hm : ys.length ≤ 1048576) :
    Calls Try.prog 18 #[rhy s a n ca, rhy t b m cb] w (CPost (JC s xs t ys) s (ofZ s.toNat (xs ++ ys)) w) := by
  have FA := Lib.hid ha
  have FB := Lib.hid hb
  have ln : n ≤ 1048576 := by have := ha.1; omega
  have lm : m ≤ 1048576 := by have := hb.1; omega
  clear ha hb
  obtain ⟨W0, hW⟩ : ∃ W0, W0 = ((w.alloc (.cells #[.int .i64 s, .slice a n ca] 25)).alloc (.cells #[.int .i64 t, .slice b m cb] 25)).alloc (.cells #[.int .i64 0, .slice none 0 0] 25) := ⟨_, rfl⟩
  have HW := Lib.hid hW
  have HB := Lib.hid (show Below w.heap.size w W0 by rw [hW]; exact bel3 w _ _ _)
  have HT := Lib.hid (show Two W0 w.heap.size (.int .i64 s) (.slice a n ca) by rw [hW]; exact (two_new w _ _ _).keep (bel2 _ _ _))
  have HV := Lib.hid (show Two W0 (w.heap.size + 1) (.int .i64 t) (.slice b m cb) by
    rw [hW]
    have := (two_new (w.alloc (.cells #[.int .i64 s, .slice a n ca] 25)) (.int .i64 t) (.slice b m cb) 25).keep (bel1 _ (.cells #[.int .i64 0, .slice none 0 0] 25))
    simpa using this)
  have HU := Lib.hid (show Box W0 (w.heap.size + 1 + 1) (.int .i64 0) (.slice none 0 0) 25 by
    rw [hW]
    have := box_new ((w.alloc (.cells #[.int .i64 s, .slice a n ca] 25)).alloc (.cells #[.int .i64 t, .slice b m cb] 25)) (.int .i64 0) (.slice none 0 0) 25
    simpa using this)
  have hz0 := HU.out.lt
  clear hW
  by_cases ho : JC s xs t ys
  · have HC := Lib.hid ho
    have HO := Lib.hid ho.1
    have HP := Lib.hid ho.2.1
    have HQ := Lib.hid (oneB_yes ho)
    have hs1 := ho.1.1.1
    have hs2 := ho.1.1.2
    clear ho
    go_enter Try.func18, Try.ntmps18
    go_wp2_with fail
    rw [← HW.out]
    refine (one_any s a n ca xs t b m cb ys _ (FA.out.below HB.out) hn (FB.out.below HB.out) hm).mono ?_
    rintro e w2 ⟨rfl, hb2⟩
    rw [HQ.out]
    have B2 := Lib.hid (HB.out.trans (hb2.mono HB.out.size))
    have T2 := Lib.hid (HT.out.keep hb2)
    have V2 := Lib.hid (HV.out.keep hb2)
    have U2 := Lib.hid (HU.out.keep hb2 hz0)
    obtain ⟨t2, t2a, t2b⟩ := T2.out
    obtain ⟨v2, v2a, v2b⟩ := V2.out
    have u2 := U2.out.lt
    clear hb2
    go_wp2_with fail
    have K2 := Lib.hid (bel1 w2 (.cells #[.slice a n ca, .slice b m cb] 23))
    refine (concat_any w2.heap.size a b n m ca cb xs ys _ (two_new w2 _ _ _) ((FA.out.below B2.out).below K2.out) ((FB.out.below B2.out).below K2.out) ln lm).mono ?_
    rintro e w3 ⟨r, c3, rfl, hown3, hb3⟩
    have O3 := Lib.hid hown3
    have K3 := Lib.hid (K2.out.trans (hb3.mono K2.out.size))
    have hz3 : w2.heap.size + 1 ≤ w3.heap.size := by have := hb3.size; simp at this; omega
    have B3 := Lib.hid (B2.out.trans (K3.out.mono B2.out.size))
    have T3 := Lib.hid (T2.out.keep K3.out)
    have U3 := Lib.hid (U2.out.keep K3.out u2)
    obtain ⟨t3, t3a, t3b⟩ := T3.out
    have hjl := join_len HC.out
    clear hown3 hb3
    go_wp2_with fail
    refine (sort_own (w2.heap.size + 1) r (xs.length + ys.length) c3 (xs ++ ys) w3 (by rw [← List.length_append]; exact own_base O3.out (by simp)) (by rw [← List.length_append]; omega) hz3).mono ?_
    rintro e w4 ⟨rfl, hown4, hb4⟩
    have O4 := Lib.hid hown4
    have B4 := Lib.hid (B3.out.trans (hb4.mono (by have := B2.out.size; omega)))
    have X4 := Lib.hid (show w4.cell? ⟨w.heap.size, 0, none⟩ = some (.int .i64 s) by rw [hb4.cell (p := ⟨w.heap.size, 0, none⟩) (by show w.heap.size < _; omega)]; exact T3.out.2.1)
    have U4 := Lib.hid (U3.out.keep hb4 (by omega))
    have hz4 : w2.heap.size + 1 ≤ w4.heap.size := by have := hb4.size; omega
    clear hown4 hb4
    go_wp2
    have hcl := Lib.compact_length_le (sortZ (xs ++ ys))
    have hsl := sortZ_len (xs ++ ys)
    have HCS := Lib.hid (show Lib.compact (sortZ (xs ++ ys)) = ofZ s.toNat (xs ++ ys) from compact_sort (join_range HC.out))
    have HO5 := Lib.hid (show w4.drew.ownsRow (w2.heap.size + 1) 3 1 (.slice r (xs.length + ys.length) c3) (xs.length + ys.length) (ints (sortZ (xs ++ ys))) from O4.out)
    have hlen : xs.length + ys.length ≤ 48 := by rw [← List.length_append]; exact hjl
    go_region_held3 (fun W => W.cell? ⟨w.heap.size, 0, none⟩ = some (.int .i64 s))
      (first | exact X4.out | exact hx5 | (rw [cell_set_ne _ _ _ _ _ _ (by omega), cell_set_ne _ _ _ _ _ _ (by omega)]; exact hx5))
      ((first
        | (go_at_call 66; refine (compact_own (w2.heap.size + 1) r (xs.length + ys.length) c3 (sortZ (xs ++ ys)) _ HO5.out (by omega) hz4).mono ?_; rintro e w5 ⟨rfl, hown5, hc5⟩; have hb5 := ((Below.refl (w2.heap.size + 1) w4).drew).trans hc5; have O5 := Lib.hid hown5; have K5 := Lib.hid hb5; have U5 := Lib.hid (U4.out.keep hb5 (by omega)); obtain ⟨q0, q1, q2, q3⟩ := U5.out.facts; have hx5 : w5.cell? ⟨w.heap.size, 0, none⟩ = some (.int .i64 s) := (hb5.cell (p := ⟨w.heap.size, 0, none⟩) (show w.heap.size < w2.heap.size + 1 by omega)).trans X4.out; clear hown5 hb5 hc5)))
    rename_i hh
    clear hh
    have l5 := U5.out.lt
    go_wp2
    rw [HCS.out] at O5
    refine bodyPost_ret (v := .tuple #[rhy s r (Lib.compact (sortZ (xs ++ ys))).length c3, .bool true]) (by simp [results, Try.results18, go_sem, *]) rfl (cpost_yes HC.out (by rw [HCS.out]) ?_ ?_)
    · rw [HCS.out]
      exact own_base (ownsRow_setCell_below (ownsRow_setCell_below O5.out (by show w.heap.size + 1 + 1 < _; omega) _) (by show w.heap.size + 1 + 1 < _; omega) _) (by have := B2.out.size; omega)
    · exact ((B4.out.trans (K5.out.mono (by have := B2.out.size; omega))).setCell (by simp; omega) _).setCell (by simp; omega) _
  · have HC := Lib.hid ho
    have HQ := Lib.hid (oneB_no ho)
    clear ho
    go_enter Try.func18, Try.ntmps18
    go_wp2_with fail
    rw [← HW.out]
    refine (one_any s a n ca xs t b m cb ys _ (FA.out.below HB.out) hn (FB.out.below HB.out) hm).mono ?_
    rintro e w1 ⟨rfl, hb1⟩
    rw [HQ.out]
    have B1 := Lib.hid (HB.out.trans (hb1.mono HB.out.size))
    have U1 := Lib.hid (HU.out.keep hb1 hz0)
    clear hb1
    obtain ⟨q0, q1, q2, q3⟩ := U1.out.facts
    go_wp2
    refine bodyPost_ret (v := .tuple #[rhy 0 none 0 0, .bool false]) (by simp [results, Try.results18, go_sem, *]) rfl (cpost_no HC.out ?_)
    exact (B1.out.setCell (by simp; omega) _).setCell (by simp; omega) _


end Go.Proofs.Ytjgjcppkbfojpaa.Rhy
