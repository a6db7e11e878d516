/-
  Helpers of the claims beside this text: SameRhythm of the model and of the program.
-/
import Derived.Test.YtjgjcppkbfojpaaOne
namespace Go.Proofs.Ytjgjcppkbfojpaa.Rhy
open Go.RowKit
set_option linter.unusedVariables false

def eqB (xs ys : List Int) : Bool := decide (xs = ys)
theorem eqB_yes {xs ys : List Int} (h : xs = ys) : eqB xs ys = true := by simp [eqB, h]
theorem eqB_no {xs ys : List Int} (h : xs ≠ ys) : eqB xs ys = false := by simp [eqB, h]
theorem eqB_len {xs ys : List Int} (h : xs.length ≠ ys.length) : eqB xs ys = false := eqB_no (fun e => h (by rw [e]))
theorem eqB_at {xs ys : List Int} {k : Nat} {x y : Int} (hx : xs[k]? = some x) (hy : ys[k]? = some y) (h : x ≠ y) : eqB xs ys = false :=
  eqB_no (fun e => h (by rw [e, hy] at hx; exact (Option.some.inj hx).symm))
theorem eqB_all {xs ys : List Int} (hl : xs.length = ys.length) (h : ∀ j, j < xs.length → xs[j]? = ys[j]?) : eqB xs ys = true :=
  eqB_yes (List.ext_getElem? (fun j => by
    rcases Nat.lt_or_ge j xs.length with hj | hj
    · exact h j hj
    · rw [List.getElem?_eq_none hj, List.getElem?_eq_none (by omega)]))

theorem same_spec0 (a b : Option Addr) (n m ca cb : Nat) (xs ys : List Int) (w : World) (ha : IntsAt w a n xs) (hb : IntsAt w b m ys) (hn : n ≤ 1048576) (hm : m ≤ 1048576) :
    Calls Try.prog 101 #[.slice a n ca, .slice b m cb] w fun e w' => e = .returned (.bool (eqB xs ys)) ∧ w = w' := by
  have FA := Lib.hid ha
  have FB := Lib.hid hb
  by_cases hl : n = m
  · have HL := Lib.hid (show xs.length = ys.length by rw [ha.1, hb.1, hl])
    obtain rfl := hl
    clear ha hb
    go_enter Try.func101, Try.ntmps101
    go_wp2
    go_loop [14] (fun i => ∃ (k : Nat), k ≤ n ∧ i = .int .i64 k ∧ Hid (∀ j, j < k → xs[j]? = ys[j]?)) (fun i => n - (intOf i).toNat)
    case atStart => exact ⟨0, by omega, rfl, Lib.hid (fun j hj => by omega)⟩
    case round =>
      obtain ⟨k, hk, rfl, HN⟩ := hrel
      by_cases hlt : k < n
      · obtain ⟨g, o, z, rfl, hg, hs, hc, _, _⟩ := FA.out.at hlt
        obtain ⟨g', o', z', rfl, hg', hs', hc', _, _⟩ := FB.out.at hlt
        by_cases he : z = z'
        · have HM : Hid (∀ j, j < k + 1 → xs[j]? = ys[j]?) := Lib.hid (fun j hj => by
            by_cases e : j = k
            · rw [e, hs, hs', he]
            · exact HN.out j (by omega))
          have hq : (z != z') = false := by simpa using he
          clear he hs hs'
          go_wp2
          go_round
          case rel => exact ⟨k + 1, by omega, by go_num, HM⟩
          case measure => simp [intOf]; omega
        · have HB := Lib.hid (eqB_at hs hs' he)
          have hq : (z != z') = true := by simpa using he
          clear he hs hs'
          go_wp2
          go_ret
          exact ⟨ret_bool HB.out.symm, rfl⟩
      · have HB := Lib.hid (eqB_all HL.out (fun j hj => HN.out j (by have := FA.out.1; omega)))
        go_wp2
        go_ret
        exact ⟨ret_bool HB.out.symm, rfl⟩
  · have HB := Lib.hid (eqB_len (xs := xs) (ys := ys) (by rw [ha.1, hb.1]; exact hl))
    have hq : (n == m) = false := by simpa using hl
    have hq' : ((n : Int) != (m : Int)) = true := by simp; omega
    clear ha hb hl
    go_enter Try.func101, Try.ntmps101
    go_wp2
    go_ret
    exact ⟨ret_bool HB.out.symm, rfl⟩

theorem same_impl0 (a b : Option Addr) (n m ca cb : Nat) (xs ys : List Int) (w : World) (ha : IntsAt w a n xs) (hb : IntsAt w b m ys) (hn : n ≤ 1048576) (hm : m ≤ 1048576) :
    Calls Try.prog 119 #[.slice a n ca, .slice b m cb] w fun e w' => e = .returned (.bool (eqB xs ys)) ∧ Below w.heap.size w w' := by
  by_cases hl : n = m
  · obtain rfl := hl
    by_cases h0 : n = 0
    · subst h0
      refine (Try.slices_Equal_int_empty a b ca 0 cb w (by omega)).mono ?_
      rintro e w' ⟨rfl, rfl⟩
      exact ⟨ret_bool (by rw [eqB_yes (by rw [List.eq_nil_of_length_eq_zero ha.1, List.eq_nil_of_length_eq_zero hb.1])]; rfl), Below.refl _ _⟩
    · obtain ⟨g, o, rfl, hg, hc⟩ := ha.2.2 (by omega)
      obtain ⟨g', o', rfl, hg', hc'⟩ := hb.2.2 (by omega)
      have h1 := ha.1
      have h2 := hb.1
      refine (Try.slices_Equal_int g o n ca g' o' n cb xs ys w (by omega) (by omega) (by omega) (by omega) (fun j hj => ?_) (fun j hj => ?_)).mono ?_
      · rw [hc j _ (List.getElem?_eq_getElem hj), List.getD_eq_getElem?_getD, List.getElem?_eq_getElem hj]; rfl
      · rw [hc' j _ (List.getElem?_eq_getElem hj), List.getD_eq_getElem?_getD, List.getElem?_eq_getElem hj]; rfl
      · rintro e w' ⟨rfl, q, rfl⟩
        refine ⟨ret_bool ?_, below_drewN (Below.refl _ _) q⟩
        rw [List.take_of_length_le (by omega), List.take_of_length_le (by omega), eqB]
        rw [Bool.eq_iff_iff]; simp
  · refine (Try.slices_Equal_int_lens a b n ca m cb w hl).mono ?_
    rintro e w' ⟨rfl, rfl⟩
    exact ⟨ret_bool (eqB_len (by rw [ha.1, hb.1]; exact hl)).symm, Below.refl _ _⟩

noncomputable def sameB (s : Int) (xs : List Int) (t : Int) (ys : List Int) : Bool := okB s xs && okB t ys && decide (s = t) && eqB xs ys



end Go.Proofs.Ytjgjcppkbfojpaa.Rhy
