/-
  Helpers of the claims beside this text: what the laws' own same, rhythms, has and sum do; contracts at valid rhythms in the words that the laws' walks want; a region of a body by its number.
-/
import Derived.Test.YtldpikcgeijkpaaRot
import Derived.Test.YtldpikcgeijkpaaHas
import Derived.Test.YtldpikcgeijkpaaDrw
namespace Go.Proofs.Ytldpikcgeijkpaa.Rhy
open Go.RowKit
set_option linter.unusedVariables false
set_option linter.unusedSimpArgs false

set_option maxHeartbeats 400000 in
theorem same_law (a b : Option Addr) (n ca cb : Nat) (l : List Int) (w : World) (ha : IntsAt w a n l) (hb : IntsAt w b n l) (hn : n ≤ 1048576) :
    Calls Try.prog 21 #[.slice a n ca, .slice b n cb] w fun e w' => e = .returned (.bool true) ∧ w = w' := by
  have FA := Lib.hid ha
  have FB := Lib.hid hb
  clear ha hb
  go_enter Try.func21, Try.ntmps21
  go_wp2
  go_loop [14] (fun i => ∃ k : Nat, k ≤ n ∧ i = .int .i64 k) (fun i => n - (intOf i).toNat)
  case atStart => exact ⟨0, by omega, rfl⟩
  case round =>
    obtain ⟨k, hk, rfl⟩ := hrel
    by_cases hlt : k < n
    · obtain ⟨ga, oa, z, rfl, la, hza, c1, _, _⟩ := FA.out.at hlt
      obtain ⟨gb, ob, z', rfl, lb, hzb, c2, _, _⟩ := FB.out.at hlt
      rw [hza] at hzb
      obtain rfl : z = z' := Option.some.inj hzb
      clear hza hzb
      go_wp2
      go_round
      case rel => exact ⟨k + 1, by omega, by go_num⟩
      case measure => simp [intOf]; omega
    · go_wp2
      go_ret
      exact ⟨rfl, rfl⟩

/-- A rhythm and true, of a function that has one. -/
theorem cpost_open {c : Prop} {s : Int} {l : List Int} {w w' : World} {e : Ending} (hc : c) (h : CPost c s l w e w') : RetPost s l true w e w' := by
  unfold CPost at h
  rwa [cS_yes hc, cZ_yes hc, cB_yes hc] at h
theorem cpost_shut {c : Prop} {s : Int} {l : List Int} {w w' : World} {e : Ending} (hc : ¬ c) (h : CPost c s l w e w') : RetPost 0 [] false w e w' := by
  unfold CPost at h
  rwa [cS_no hc, cZ_no hc, cB_no hc] at h
theorem r_rot (n : Nat) (a : Option Addr) (cap : Nat) (zs l : List Int) (k : Int) (w : World) (h : IntsAt w a zs.length zs) (ho : Ok n zs) (h1 : -1000 ≤ k) (h2 : k ≤ 1000) (hl : rotZ n zs 1 k = l) :
    Calls Try.prog 56 #[rhy n a zs.length cap, .int .i64 k] w (RetPost n l true w) := by
  refine (rot_impl n a zs.length cap zs k w h (by have := ok_len ho; omega) (by omega) (by omega)).mono fun e w' h => ?_
  rw [← hl]
  exact cpost_open ⟨ho, h1, h2⟩ h

theorem r_has (n : Nat) (a : Option Addr) (cap : Nat) (zs : List Int) (k : Int) (r : Bool) (w : World) (h : IntsAt w a zs.length zs) (ho : Ok n zs) (h1 : -1000 ≤ k) (h2 : k ≤ 1000) (hr : hasB zs (remB k n) = r) :
    Calls Try.prog 23 #[rhy n a zs.length cap, .int .i64 k] w fun e w' => e = .returned (.bool r) ∧ Below w.heap.size w w' := by
  have := beat_impl n a zs.length cap zs k w h (by have := ok_len ho; omega) (by omega) (by omega)
  rwa [beatB_yes ho, hr] at this
theorem v_lhas (a : Option Addr) (len cap : Nat) (zs : List Int) (x : Int) (r : Bool) (w : World) (h : IntsAt w a len zs) (hm : len ≤ 1048576) (hr : hasB zs x = r) :
    Calls Try.prog 28 #[.slice a len cap, .int .i64 x] w fun e w' => e = .returned (.bool r) ∧ Below w.heap.size w w' := by
  subst hr
  have HS := Lib.hid h
  clear h
  go_enter Try.func28, Try.ntmps28
  go_wp2
  go_loop [9] (fun i => ∃ (k : Nat), k ≤ len ∧ i = .int .i64 k ∧ Hid (∀ j, j < k → zs[j]? ≠ some x)) (fun i => len - (intOf i).toNat)
  case atStart => exact ⟨0, by omega, rfl, Lib.hid (fun j hj => by omega)⟩
  case round =>
    obtain ⟨k, hk, rfl, HN⟩ := hrel
    by_cases hlt : k < len
    · obtain ⟨b, off, z, rfl, hb, hs, hc, hz1, hz2⟩ := HS.out.at hlt
      by_cases he : z = x
      · have HB := Lib.hid (has_of zs x k (by rw [← he]; exact hs))
        have hq : (z == x) = true := by simpa using he
        clear he hs
        go_wp2
        go_ret
        exact ⟨ret_bool HB.out.symm, Below.refl _ _⟩
      · have HM : Hid (∀ j, j < k + 1 → zs[j]? ≠ some x) := Lib.hid (fun j hj => by
          by_cases e : j = k
          · rw [e, hs]; exact fun q => he (Option.some.inj q)
          · exact HN.out j (by omega))
        have hq : (z == x) = false := by simpa using he
        clear he hs
        go_wp2
        go_round
        case rel => exact ⟨k + 1, by omega, by go_num, HM⟩
        case measure => simp [intOf]; omega
    · have HB := Lib.hid (has_not zs x (fun j hj => HN.out j (by have := HS.out.1; omega)))
      go_wp2
      go_ret
      exact ⟨ret_bool HB.out.symm, Below.refl _ _⟩
/-- The piece of a code that bears a number. -/
def rgAt (n : Nat) : Code → Option Code
  | .region i ops d => if i = n then some (.region i ops d) else none
  | .seq a b => match rgAt n a with
    | some c => some c
    | none => rgAt n b
  | .cond _ a b => match rgAt n a with
    | some c => some c
    | none => rgAt n b
  | .block _ b => rgAt n b
  | .loop b => rgAt n b
  | _ => none
def rgOf (f : Func) (n : Nat) : Code := ((f.body.bind (rgAt n)).getD .skip)
theorem wp_code {P : Program} {c c' : Code} {Q : Exit → Act → World → Prop} {a : Act} {w : World} (h : c' = c) (hw : Code.wp P c' Q a w) : Code.wp P c Q a w := h ▸ hw
theorem sum_more {m : List Int} {k : Nat} {z : Int} (h : m[k]? = some z) : (m.take (k + 1)).sum = (m.take k).sum + z := by
  rw [List.take_add_one, h]
  simp

end Go.Proofs.Ytldpikcgeijkpaa.Rhy
