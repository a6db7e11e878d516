/-
  Helpers of the claims beside this text: SameRhythm of the model and of the program.
-/
import Derived.Test.YtpgolnkhbnancaaOne
namespace Go.Proofs.Ytpgolnkhbnancaa.Rhy
open Go.RowKit
set_option linter.unusedVariables false

def eqB (xs ys : List Int) : Bool := decide (xs = ys)
theorem eqB_yes {xs ys : List Int} (h : xs = ys) : eqB xs ys = true := by simp [eqB, h]
theorem eqB_no {xs ys : List Int} (h : xs ≠ ys) : eqB xs ys = false := by simp [eqB, h]
theorem eqB_len {xs ys : List Int} (h : xs.length ≠ ys.length) : eqB xs ys = false := eqB_no (fun e => h (by rw [e]))
theorem eqB_at {xs ys : List Int} {k : Nat} {x y : Int} (hx : xs[k]? = some x) (hy : ys[k]? = some y) (h : x ≠ y) : eqB xs ys = false :=
  eqB_no (fun e => h (by rw [e, hy] at hx; exact (Option.some.inj hx).symm))
theorem eqB_all {xs ys : List Int} (hl : xs.length = ys.length) (h : ∀ j, j < xs.length → xs[j]? = ys[j]?) : eqB xs ys = true :=
  eqB_yes (List.ext_getElem? (fun j => by
    rcases Nat.lt_or_ge j xs.length with hj | hj
    · exact h j hj
    · rw [List.getElem?_eq_none hj, List.getElem?_eq_none (by omega)]))

theorem same_spec0 (a b : Option Addr) (n m ca cb : Nat) (xs ys : List Int) (w : World) (ha : IntsAt w a n xs) (hb : IntsAt w b m ys) (hn : n ≤ 1048576) (hm : m ≤ 1048576) :
    Calls Try.prog 98 #[.slice a n ca, .slice b m cb] w fun e w' => e = .returned (.bool (eqB xs ys)) ∧ w = w' := by
  have FA := Lib.hid ha
  have FB := Lib.hid hb
  by_cases hl : n = m
  · have HL := Lib.hid (show xs.length = ys.length by rw [ha.1, hb.1, hl])
    obtain rfl := hl
    clear ha hb
    go_enter Try.func98, Try.ntmps98
    go_wp2
    go_loop [14] (fun i => ∃ (k : Nat), k ≤ n ∧ i = .int .i64 k ∧ Hid (∀ j, j < k → xs[j]? = ys[j]?)) (fun i => n - (intOf i).toNat)
    case atStart => exact ⟨0, by omega, rfl, Lib.hid (fun j hj => by omega)⟩
    case round =>
      obtain ⟨k, hk, rfl, HN⟩ := hrel
      by_cases hlt : k < n
      · obtain ⟨g, o, z, rfl, hg, hs, hc, _, _⟩ := FA.out.at hlt
        obtain ⟨g', o', z', rfl, hg', hs', hc', _, _⟩ := FB.out.at hlt
        by_cases he : z = z'
        · have HM : Hid (∀ j, j < k + 1 → xs[j]? = ys[j]?) := Lib.hid (fun j hj => by
            by_cases e : j = k
            · rw [e, hs, hs', he]
            · exact HN.out j (by omega))
          have hq : (z != z') = false := by simpa using he
          clear he hs hs'
          go_wp2
          go_round
          case rel => exact ⟨k + 1, by omega, by go_num, HM⟩
          case measure => simp [intOf]; omega
        · have HB := Lib.hid (eqB_at hs hs' he)
          have hq : (z != z') = true := by simpa using he
          clear he hs hs'
          go_wp2
          go_ret
          exact ⟨ret_bool HB.out.symm, rfl⟩
      · have HB := Lib.hid (eqB_all HL.out (fun j hj => HN.out j (by have := FA.out.1; omega)))
        go_wp2
        go_ret
        exact ⟨ret_bool HB.out.symm, rfl⟩
  · have HB := Lib.hid (eqB_len (xs := xs) (ys := ys) (by rw [ha.1, hb.1]; exact hl))
    have hq : (n == m) = false := by simpa using hl
    have hq' : ((n : Int) != (m : Int)) = true := by simp; omega
    clear ha hb hl
    go_enter Try.func98, Try.ntmps98
    go_wp2
    go_ret
    exact ⟨ret_bool HB.out.symm, rfl⟩


noncomputable def sameB (s : Int) (xs : List Int) (t : Int) (ys : List Int) : Bool := okB s xs && okB t ys && decide (s = t) && eqB xs ys



end Go.Proofs.Ytpgolnkhbnancaa.Rhy
