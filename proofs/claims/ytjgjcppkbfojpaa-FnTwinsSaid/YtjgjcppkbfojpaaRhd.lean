/-
  Helpers of the claims beside this text: what the laws' own same and rhythms do; contracts at valid rhythms in the words that the laws' walks want.
-/
import Derived.Test.YtjgjcppkbfojpaaMoves
import Derived.Test.YtjgjcppkbfojpaaHas
import Derived.Test.YtjgjcppkbfojpaaRot
namespace Go.Proofs.Ytjgjcppkbfojpaa.Rhy
open Go.RowKit
set_option linter.unusedVariables false

set_option maxHeartbeats 400000 in
theorem same_law (a b : Option Addr) (n ca cb : Nat) (l : List Int) (w : World) (ha : IntsAt w a n l) (hb : IntsAt w b n l) (hn : n ≤ 1048576) :
    Calls Try.prog 61 #[.slice a n ca, .slice b n cb] w fun e w' => e = .returned (.bool true) ∧ w = w' := by
  have FA := Lib.hid ha
  have FB := Lib.hid hb
  clear ha hb
  go_enter Try.func61, Try.ntmps61
  go_wp2
  go_loop [14] (fun i => ∃ k : Nat, k ≤ n ∧ i = .int .i64 k) (fun i => n - (intOf i).toNat)
  case atStart => exact ⟨0, by omega, rfl⟩
  case round =>
    obtain ⟨k, hk, rfl⟩ := hrel
    by_cases hlt : k < n
    · obtain ⟨ga, oa, z, rfl, la, hza, c1, _, _⟩ := FA.out.at hlt
      obtain ⟨gb, ob, z', rfl, lb, hzb, c2, _, _⟩ := FB.out.at hlt
      rw [hza] at hzb
      obtain rfl : z = z' := Option.some.inj hzb
      clear hza hzb
      go_wp2
      go_round
      case rel => exact ⟨k + 1, by omega, by go_num⟩
      case measure => simp [intOf]; omega
    · go_wp2
      go_ret
      exact ⟨rfl, rfl⟩
/-- Two equal rhythms. -/
theorem rhythms_law (s : Int) (a b : Option Addr) (ca cb : Nat) (l : List Int) (w : World) (ha : IntsAt w a l.length l) (hb : IntsAt w b l.length l) (hn : l.length ≤ 1048576) :
    Calls Try.prog 15 #[rhy s a l.length ca, rhy s b l.length cb] w fun e w' => e = .returned (.bool true) ∧ Below w.heap.size w w' := by
  have FA := Lib.hid ha
  have FB := Lib.hid hb
  clear ha hb
  go_enter Try.func15, Try.ntmps15
  go_wp2_with fail
  refine (same_law a b l.length ca cb l _ (FA.out.below (bel2 w _ _)) (FB.out.below (bel2 w _ _)) hn).mono ?_
  rintro e w1 ⟨rfl, rfl⟩
  go_wp2
  go_ret
  exact ⟨rfl, bel2 w _ _⟩

/-- A rhythm and true, of a function that has one. -/
theorem cpost_open {c : Prop} {s : Int} {l : List Int} {w w' : World} {e : Ending} (hc : c) (h : CPost c s l w e w') : RetPost s l true w e w' := by
  unfold CPost at h
  rwa [cS_yes hc, cZ_yes hc, cB_yes hc] at h
theorem cpost_shut {c : Prop} {s : Int} {l : List Int} {w w' : World} {e : Ending} (hc : ¬ c) (h : CPost c s l w e w') : RetPost 0 [] false w e w' := by
  unfold CPost at h
  rwa [cS_no hc, cZ_no hc, cB_no hc] at h
end Go.Proofs.Ytjgjcppkbfojpaa.Rhy

/-
  Helpers of the claims beside this text: rhythms at valid rhythms: what the program answers, in the words that the laws want.
-/
namespace Go.Proofs.Ytjgjcppkbfojpaa.Rhy
open Go.RowKit
set_option linter.unusedVariables false

theorem r_rot (n : Nat) (a : Option Addr) (cap : Nat) (zs l : List Int) (k : Int) (w : World) (h : IntsAt w a zs.length zs) (ho : Ok n zs) (h1 : -1000 ≤ k) (h2 : k ≤ 1000) (hl : rotZ n zs 1 k = l) :
    Calls Try.prog 12 #[rhy n a zs.length cap, .int .i64 k] w (RetPost n l true w) := by
  refine (rot_impl n a zs.length cap zs k w h (by have := ok_len ho; omega) (by omega) (by omega)).mono fun e w' h => ?_
  rw [← hl]
  exact cpost_open ⟨ho, h1, h2⟩ h
theorem r_mir (n : Nat) (a : Option Addr) (cap : Nat) (zs l : List Int) (w : World) (h : IntsAt w a zs.length zs) (ho : Ok n zs) (hl : rotZ n zs (-1) 0 = l) :
    Calls Try.prog 13 #[rhy n a zs.length cap] w (RetPost n l true w) := by
  refine (mir_impl n a zs.length cap zs w h (by have := ok_len ho; omega)).mono fun e w' h => ?_
  rw [← hl]
  exact cpost_open ho h
theorem r_oth (n : Nat) (a : Option Addr) (cap : Nat) (zs l : List Int) (w : World) (h : IntsAt w a zs.length zs) (ho : Ok n zs) (hl : notZ n zs = l) :
    Calls Try.prog 14 #[rhy n a zs.length cap] w (RetPost n l true w) := by
  refine (oth_impl n a zs.length cap zs w h (by have := ok_len ho; omega)).mono fun e w' h => ?_
  rw [← hl]
  exact cpost_open ho h
theorem r_cnt (n : Nat) (a : Option Addr) (cap : Nat) (zs : List Int) (r : Int) (w : World) (h : IntsAt w a zs.length zs) (ho : Ok n zs) (hr : (zs.length : Int) = r) :
    Calls Try.prog 16 #[rhy n a zs.length cap] w fun e w' => e = .returned (.int .i64 r) ∧ Below w.heap.size w w' := by
  have := count_impl n a zs.length cap zs w h (by have := ok_len ho; omega)
  rwa [countB_yes ho, hr] at this
theorem r_has (n : Nat) (a : Option Addr) (cap : Nat) (zs : List Int) (k : Int) (r : Bool) (w : World) (h : IntsAt w a zs.length zs) (ho : Ok n zs) (h1 : -1000 ≤ k) (h2 : k ≤ 1000) (hr : hasB zs (remB k n) = r) :
    Calls Try.prog 17 #[rhy n a zs.length cap, .int .i64 k] w fun e w' => e = .returned (.bool r) ∧ Below w.heap.size w w' := by
  have := beat_impl n a zs.length cap zs k w h (by have := ok_len ho; omega) (by omega) (by omega)
  rwa [beatB_yes ho, hr] at this
theorem r_str_yes (n : Nat) (a : Option Addr) (cap : Nat) (zs l : List Int) (u : Nat) (w : World) (h : IntsAt w a zs.length zs) (ho : Ok n zs) (h1 : 1 ≤ u) (h2 : (u : Int) ≤ max 1 ((n : Int) - 1)) (hg : Nat.gcd u n = 1) (hl : rotZ n zs u 0 = l) :
    Calls Try.prog 19 #[rhy n a zs.length cap, .int .i64 u] w (RetPost n l true w) := by
  have hn := ho.1.2
  refine (str_impl n a zs.length cap zs u w h (by have := ok_len ho; omega) (by omega) (by omega)).mono fun e w' h => ?_
  rw [← hl]
  exact cpost_open ⟨ho, ⟨by omega, h2⟩, by simpa using hg⟩ h
theorem r_str_no (n : Nat) (a : Option Addr) (cap : Nat) (zs : List Int) (u : Nat) (w : World) (h : IntsAt w a zs.length zs) (ho : Ok n zs) (h1 : 1 ≤ u) (h2 : (u : Int) ≤ max 1 ((n : Int) - 1)) (hg : Nat.gcd u n ≠ 1) :
    Calls Try.prog 19 #[rhy n a zs.length cap, .int .i64 u] w (RetPost 0 [] false w) := by
  have hn := ho.1.2
  exact (str_impl n a zs.length cap zs u w h (by have := ok_len ho; omega) (by omega) (by omega)).mono fun e w' h => cpost_shut (fun q => hg (by simpa using q.2.2)) h
theorem len_moved {s : Int} {zs : List Int} (ho : Ok s zs) {u k : Int} (hc : Nat.gcd u.natAbs s.natAbs = 1) : (rotZ s zs u k).length = zs.length := by
  unfold rotZ
  rw [← moved_eq ho hc, sortZ_len, mapL_len]
theorem not_len' {n : Nat} {zs : List Int} (ho : Ok n zs) : (notZ n zs).length + zs.length = n := not_len ho
theorem not_not' {n : Nat} {zs : List Int} (ho : Ok n zs) : notZ n (notZ n zs) = zs := not_not ho
theorem not_ok' {n : Nat} {zs : List Int} (ho : Ok n zs) : Ok n (notZ n zs) := not_ok ho
theorem rot_back {n : Int} {zs : List Int} (ho : Ok n zs) (k : Int) : rotZ n (rotZ n zs 1 k) 1 (-k) = zs := by
  rw [rot_rot ho, show k + -k = 0 by omega, rot_zero ho]
theorem mir_back {n : Int} {zs : List Int} (ho : Ok n zs) : rotZ n (rotZ n zs (-1) 0) (-1) 0 = zs := by
  rw [mir_mir ho, show (0 : Int) - 0 = 0 by omega, rot_zero ho]
end Go.Proofs.Ytjgjcppkbfojpaa.Rhy
