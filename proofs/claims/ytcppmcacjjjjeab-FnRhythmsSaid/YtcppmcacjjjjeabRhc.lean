/-
  Helpers of the claims beside this text: rhythms at valid rhythms: what the program answers, in the words that the law on rhythms wants.
-/
import Derived.Test.YtcppmcacjjjjeabLwb
import Derived.Test.YtcppmcacjjjjeabRhm
import Derived.Test.YtcppmcacjjjjeabGcd
import Derived.Test.YtcppmcacjjjjeabJoin
import Derived.Test.YtcppmcacjjjjeabRtc
namespace Go.Proofs.Ytcppmcacjjjjeab.Rhy
open Go.RowKit
set_option linter.unusedVariables false

theorem gcd_law (a b : Nat) (w : World) (ha : a ≤ 1000) (hb : b ≤ 1000) :
    Calls Try.prog 16 #[.int .i64 a, .int .i64 b] w fun e w' => e = .returned (.int .i64 (Nat.gcd a b)) ∧ w = w' := by
  go_enter Try.func16, Try.ntmps16
  go_wp2
  go_loop [0, 1] (fun x y => ∃ p q : Nat, p ≤ 1000 ∧ q ≤ 1000 ∧ x = .int .i64 p ∧ y = .int .i64 q ∧ Hid (Nat.gcd p q = Nat.gcd a b)) (fun _ y => (intOf y).toNat)
  case atStart => exact ⟨a, b, ha, hb, rfl, rfl, Lib.hid rfl⟩
  case round =>
    obtain ⟨p, q, hp, hq, rfl, rfl, HG⟩ := hrel
    by_cases h0 : 0 < q
    · have HM : Hid (Nat.gcd q (p % q) = Nat.gcd a b) := Lib.hid (by rw [← HG.out, Nat.gcd_comm q (p % q), ← Nat.gcd_rec, Nat.gcd_comm])
      have HL := Lib.hid (Nat.mod_lt p h0)
      go_wp2
      go_round
      case rel => exact ⟨q, p % q, by omega, by have := HL.out; omega, rfl, by simp, HM⟩
      case measure => have := HL.out; simp [intOf]; omega
    · have e : q = 0 := by omega
      subst e
      go_wp2
      go_ret
      exact ⟨ret_int (by rw [← HG.out]; simp), rfl⟩
theorem r_gcd (u n : Nat) (g : Int) (w : World) (hu : u ≤ 1000) (hn : n ≤ 1000) (hg : (Nat.gcd u n : Int) = g) :
    Calls Try.prog 16 #[.int .i64 u, .int .i64 n] w fun e w' => e = .returned (.int .i64 g) ∧ Below w.heap.size w w' :=
  (gcd_law u n w hu hn).mono fun e w' h => ⟨by rw [h.1, hg], by rw [← h.2]; exact Below.refl _ _⟩

theorem r_rot (n : Nat) (a : Option Addr) (cap : Nat) (zs l : List Int) (k : Int) (w : World) (h : IntsAt w a zs.length zs) (ho : Ok n zs) (h1 : -1000 ≤ k) (h2 : k ≤ 1000) (hl : rotZ n zs 1 k = l) :
    Calls Try.prog 8 #[rhy n a zs.length cap, .int .i64 k] w (RetPost n l true w) := by
  refine (rot_impl n a zs.length cap zs k w h (by have := ok_len ho; omega) (by omega) (by omega)).mono fun e w' h => ?_
  rw [← hl]
  exact cpost_open ⟨ho, h1, h2⟩ h
theorem r_mir (n : Nat) (a : Option Addr) (cap : Nat) (zs l : List Int) (w : World) (h : IntsAt w a zs.length zs) (ho : Ok n zs) (hl : rotZ n zs (-1) 0 = l) :
    Calls Try.prog 9 #[rhy n a zs.length cap] w (RetPost n l true w) := by
  refine (mir_impl n a zs.length cap zs w h (by have := ok_len ho; omega)).mono fun e w' h => ?_
  rw [← hl]
  exact cpost_open ho h
theorem r_oth (n : Nat) (a : Option Addr) (cap : Nat) (zs l : List Int) (w : World) (h : IntsAt w a zs.length zs) (ho : Ok n zs) (hl : notZ n zs = l) :
    Calls Try.prog 10 #[rhy n a zs.length cap] w (RetPost n l true w) := by
  refine (oth_impl n a zs.length cap zs w h (by have := ok_len ho; omega)).mono fun e w' h => ?_
  rw [← hl]
  exact cpost_open ho h
theorem r_cnt (n : Nat) (a : Option Addr) (cap : Nat) (zs : List Int) (r : Int) (w : World) (h : IntsAt w a zs.length zs) (ho : Ok n zs) (hr : (zs.length : Int) = r) :
    Calls Try.prog 12 #[rhy n a zs.length cap] w fun e w' => e = .returned (.int .i64 r) ∧ Below w.heap.size w w' := by
  have := count_impl n a zs.length cap zs w h (by have := ok_len ho; omega)
  rwa [countB_yes ho, hr] at this
theorem r_has (n : Nat) (a : Option Addr) (cap : Nat) (zs : List Int) (k : Int) (r : Bool) (w : World) (h : IntsAt w a zs.length zs) (ho : Ok n zs) (h1 : -1000 ≤ k) (h2 : k ≤ 1000) (hr : hasB zs (remB k n) = r) :
    Calls Try.prog 13 #[rhy n a zs.length cap, .int .i64 k] w fun e w' => e = .returned (.bool r) ∧ Below w.heap.size w w' := by
  have := beat_impl n a zs.length cap zs k w h (by have := ok_len ho; omega) (by omega) (by omega)
  rwa [beatB_yes ho, hr] at this
theorem r_join (n : Nat) (a : Option Addr) (ca : Nat) (xs : List Int) (b : Option Addr) (cb : Nat) (ys l : List Int) (w : World) (ha : IntsAt w a xs.length xs) (hb : IntsAt w b ys.length ys) (hx : Ok n xs) (hy : Ok n ys) (hl : ofZ n (xs ++ ys) = l) :
    Calls Try.prog 14 #[rhy n a xs.length ca, rhy n b ys.length cb] w (RetPost n l true w) := by
  refine (join_impl n a xs.length ca xs n b ys.length cb ys w ha (by have := ok_len hx; omega) hb (by have := ok_len hy; omega)).mono fun e w' h => ?_
  rw [← hl]
  exact cpost_open ⟨hx, hy, rfl⟩ h
theorem r_str_yes (n : Nat) (a : Option Addr) (cap : Nat) (zs l : List Int) (u : Nat) (w : World) (h : IntsAt w a zs.length zs) (ho : Ok n zs) (h1 : 1 ≤ u) (h2 : (u : Int) ≤ max 1 ((n : Int) - 1)) (hg : Nat.gcd u n = 1) (hl : rotZ n zs u 0 = l) :
    Calls Try.prog 15 #[rhy n a zs.length cap, .int .i64 u] w (RetPost n l true w) := by
  have hn := ho.1.2
  refine (str_impl n a zs.length cap zs u w h (by have := ok_len ho; omega) (by omega) (by omega)).mono fun e w' h => ?_
  rw [← hl]
  exact cpost_open ⟨ho, ⟨by omega, h2⟩, by simpa using hg⟩ h
theorem r_str_no (n : Nat) (a : Option Addr) (cap : Nat) (zs : List Int) (u : Nat) (w : World) (h : IntsAt w a zs.length zs) (ho : Ok n zs) (h1 : 1 ≤ u) (h2 : (u : Int) ≤ max 1 ((n : Int) - 1)) (hg : Nat.gcd u n ≠ 1) :
    Calls Try.prog 15 #[rhy n a zs.length cap, .int .i64 u] w (RetPost 0 [] false w) := by
  have hn := ho.1.2
  exact (str_impl n a zs.length cap zs u w h (by have := ok_len ho; omega) (by omega) (by omega)).mono fun e w' h => cpost_shut (fun q => hg (by simpa using q.2.2)) h
theorem r_rep_yes (n : Nat) (a : Option Addr) (cap : Nat) (zs l : List Int) (w : World) (h : IntsAt w a zs.length zs) (ho : Ok n zs) (h2 : 2 * n ≤ 24) (hl : repL n zs 2 = l) :
    Calls Try.prog 17 #[rhy n a zs.length cap, .int .i64 2] w (RetPost ((2 * n : Nat) : Int) l true w) := by
  have h1 := ho.1.1
  refine (rep_impl n a zs.length cap zs 2 w h (by have := ok_len ho; omega) (by omega) (by omega)).mono fun e w' h => ?_
  rw [← hl]
  have := cpost_open (c := Ok n zs ∧ (1 : Int) ≤ 2 ∧ (2 : Int) * n ≤ 24) ⟨ho, by omega, by omega⟩ h
  rwa [show (2 : Int) * (n : Int) = ((2 * n : Nat) : Int) by omega] at this
theorem r_rep_no (n : Nat) (a : Option Addr) (cap : Nat) (zs : List Int) (w : World) (h : IntsAt w a zs.length zs) (ho : Ok n zs) (h2 : ¬ 2 * n ≤ 24) :
    Calls Try.prog 17 #[rhy n a zs.length cap, .int .i64 2] w (RetPost 0 [] false w) :=
  (rep_impl n a zs.length cap zs 2 w h (by have := ok_len ho; omega) (by omega) (by omega)).mono fun e w' h => cpost_shut (fun q => h2 (by have := q.2.2; omega)) h
theorem r_per (n : Nat) (a : Option Addr) (cap : Nat) (zs : List Int) (p : Nat) (w : World) (h : IntsAt w a zs.length zs) (ho : Ok n zs) (hp : perZ n zs = p) :
    Calls Try.prog 18 #[rhy n a zs.length cap] w fun e w' => e = .returned (.int .i64 (p : Nat)) ∧ Below w.heap.size w w' := by
  have := period_impl n a zs.length cap zs w h (by have := ok_len ho; omega)
  rwa [perB_yes ho, hp] at this
theorem r_ok (n : Nat) (a : Option Addr) (cap : Nat) (zs : List Int) (w : World) (h : IntsAt w a zs.length zs) (ho : Ok n zs) :
    Calls Try.prog 19 #[rhy n a zs.length cap] w fun e w' => e = .returned (.bool true) ∧ Below w.heap.size w w' := by
  have HS := Lib.hid h
  have HO := Lib.hid ho
  have hl : zs.length ≤ 1048576 := by have := ok_len ho; omega
  clear h ho
  go_enter Try.func19, Try.ntmps19
  go_wp2_with fail
  refine (valid_yes n a zs.length cap zs _ (HS.out.below (bel1 w _)) hl HO.out).mono ?_
  rintro e w1 ⟨rfl, hb1⟩
  have HB := Lib.hid hb1
  clear hb1
  go_wp2
  go_ret
  exact ⟨rfl, (bel1 w _).trans (HB.out.mono (by simp))⟩
theorem len_moved {s : Int} {zs : List Int} (ho : Ok s zs) {u k : Int} (hc : Nat.gcd u.natAbs s.natAbs = 1) : (rotZ s zs u k).length = zs.length := by
  unfold rotZ
  rw [← moved_eq ho hc, sortZ_len, mapL_len]
theorem all_ok {n : Nat} {xs : List Int} (h : 1 ≤ n ∧ n ≤ 24) : Ok n (ofZ n xs) :=
  ok_of (by omega) (by omega) (ofZ_sorted _ _) fun z hz => (ofZ_mem.1 hz).1
theorem not_len' {n : Nat} {zs : List Int} (ho : Ok n zs) : (notZ n zs).length + zs.length = n := not_len ho
theorem not_not' {n : Nat} {zs : List Int} (ho : Ok n zs) : notZ n (notZ n zs) = zs := not_not ho
theorem not_ok' {n : Nat} {zs : List Int} (ho : Ok n zs) : Ok n (notZ n zs) := not_ok ho
theorem all_len' {n : Nat} {zs : List Int} (ho : Ok n zs) : (ofZ n (zs ++ notZ n zs)).length = n := all_len ho
theorem rot_back {n : Int} {zs : List Int} (ho : Ok n zs) (k : Int) : rotZ n (rotZ n zs 1 k) 1 (-k) = zs := by
  rw [rot_rot ho, show k + -k = 0 by omega, rot_zero ho]
theorem mir_back {n : Int} {zs : List Int} (ho : Ok n zs) : rotZ n (rotZ n zs (-1) 0) (-1) 0 = zs := by
  rw [mir_mir ho, show (0 : Int) - 0 = 0 by omega, rot_zero ho]
end Go.Proofs.Ytcppmcacjjjjeab.Rhy
