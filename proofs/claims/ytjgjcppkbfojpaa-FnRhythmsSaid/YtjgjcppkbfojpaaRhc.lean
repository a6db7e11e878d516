/-
  Helpers of the claims beside this text: rhythms at valid rhythms: what the program answers, in the words that the law on rhythms wants.
-/
import Derived.Test.YtjgjcppkbfojpaaRhd
import Derived.Test.YtjgjcppkbfojpaaRot
import Derived.Test.YtjgjcppkbfojpaaJoin
import Derived.Test.YtjgjcppkbfojpaaFma
namespace Go.Proofs.Ytjgjcppkbfojpaa.Rhy
open Go.RowKit
set_option linter.unusedVariables false

theorem gcd_law (a b : Nat) (w : World) (ha : a ≤ 1000) (hb : b ≤ 1000) :
    Calls Try.prog 20 #[.int .i64 a, .int .i64 b] w fun e w' => e = .returned (.int .i64 (Nat.gcd a b)) ∧ w = w' := by
  go_enter Try.func20, Try.ntmps20
  go_wp2
  go_loop [0, 1] (fun x y => ∃ p q : Nat, p ≤ 1000 ∧ q ≤ 1000 ∧ x = .int .i64 p ∧ y = .int .i64 q ∧ Hid (Nat.gcd p q = Nat.gcd a b)) (fun _ y => (intOf y).toNat)
  case atStart => exact ⟨a, b, ha, hb, rfl, rfl, Lib.hid rfl⟩
  case round =>
    obtain ⟨p, q, hp, hq, rfl, rfl, HG⟩ := hrel
    by_cases h0 : 0 < q
    · have HM : Hid (Nat.gcd q (p % q) = Nat.gcd a b) := Lib.hid (by rw [← HG.out, Nat.gcd_comm q (p % q), ← Nat.gcd_rec, Nat.gcd_comm])
      have HL := Lib.hid (Nat.mod_lt p h0)
      go_wp2
      go_round
      case rel => exact ⟨q, p % q, by omega, by have := HL.out; omega, rfl, by simp, HM⟩
      case measure => have := HL.out; simp [intOf]; omega
    · have e : q = 0 := by omega
      subst e
      go_wp2
      go_ret
      exact ⟨ret_int (by rw [← HG.out]; simp), rfl⟩
theorem r_gcd (u n : Nat) (g : Int) (w : World) (hu : u ≤ 1000) (hn : n ≤ 1000) (hg : (Nat.gcd u n : Int) = g) :
    Calls Try.prog 20 #[.int .i64 u, .int .i64 n] w fun e w' => e = .returned (.int .i64 g) ∧ Below w.heap.size w w' :=
  (gcd_law u n w hu hn).mono fun e w' h => ⟨by rw [h.1, hg], by rw [← h.2]; exact Below.refl _ _⟩

theorem r_join (n : Nat) (a : Option Addr) (ca : Nat) (xs : List Int) (b : Option Addr) (cb : Nat) (ys l : List Int) (w : World) (ha : IntsAt w a xs.length xs) (hb : IntsAt w b ys.length ys) (hx : Ok n xs) (hy : Ok n ys) (hl : ofZ n (xs ++ ys) = l) :
    Calls Try.prog 18 #[rhy n a xs.length ca, rhy n b ys.length cb] w (RetPost n l true w) := by
  refine (join_impl n a xs.length ca xs n b ys.length cb ys w ha (by have := ok_len hx; omega) hb (by have := ok_len hy; omega)).mono fun e w' h => ?_
  rw [← hl]
  exact cpost_open ⟨hx, hy, rfl⟩ h
theorem r_rep_yes (n : Nat) (a : Option Addr) (cap : Nat) (zs l : List Int) (w : World) (h : IntsAt w a zs.length zs) (ho : Ok n zs) (h2 : 2 * n ≤ 24) (hl : repL n zs 2 = l) :
    Calls Try.prog 21 #[rhy n a zs.length cap, .int .i64 2] w (RetPost ((2 * n : Nat) : Int) l true w) := by
  have h1 := ho.1.1
  refine (rep_impl n a zs.length cap zs 2 w h (by have := ok_len ho; omega) (by omega) (by omega)).mono fun e w' h => ?_
  rw [← hl]
  have := cpost_open (c := Ok n zs ∧ (1 : Int) ≤ 2 ∧ (2 : Int) * n ≤ 24) ⟨ho, by omega, by omega⟩ h
  rwa [show (2 : Int) * (n : Int) = ((2 * n : Nat) : Int) by omega] at this
theorem r_rep_no (n : Nat) (a : Option Addr) (cap : Nat) (zs : List Int) (w : World) (h : IntsAt w a zs.length zs) (ho : Ok n zs) (h2 : ¬ 2 * n ≤ 24) :
    Calls Try.prog 21 #[rhy n a zs.length cap, .int .i64 2] w (RetPost 0 [] false w) :=
  (rep_impl n a zs.length cap zs 2 w h (by have := ok_len ho; omega) (by omega) (by omega)).mono fun e w' h => cpost_shut (fun q => h2 (by have := q.2.2; omega)) h
theorem r_per (n : Nat) (a : Option Addr) (cap : Nat) (zs : List Int) (p : Nat) (w : World) (h : IntsAt w a zs.length zs) (ho : Ok n zs) (hp : perZ n zs = p) :
    Calls Try.prog 22 #[rhy n a zs.length cap] w fun e w' => e = .returned (.int .i64 (p : Nat)) ∧ Below w.heap.size w w' := by
  have := period_impl n a zs.length cap zs w h (by have := ok_len ho; omega)
  rwa [perB_yes ho, hp] at this
theorem r_ok (n : Nat) (a : Option Addr) (cap : Nat) (zs : List Int) (w : World) (h : IntsAt w a zs.length zs) (ho : Ok n zs) :
    Calls Try.prog 23 #[rhy n a zs.length cap] w fun e w' => e = .returned (.bool true) ∧ Below w.heap.size w w' := by
  have HS := Lib.hid h
  have HO := Lib.hid ho
  have hl : zs.length ≤ 1048576 := by have := ok_len ho; omega
  clear h ho
  go_enter Try.func23, Try.ntmps23
  go_wp2_with fail
  refine (valid_yes n a zs.length cap zs _ (HS.out.below (bel1 w _)) hl HO.out).mono ?_
  rintro e w1 ⟨rfl, hb1⟩
  have HB := Lib.hid hb1
  clear hb1
  go_wp2
  go_ret
  exact ⟨rfl, (bel1 w _).trans (HB.out.mono (by simp))⟩
theorem all_ok {n : Nat} {xs : List Int} (h : 1 ≤ n ∧ n ≤ 24) : Ok n (ofZ n xs) :=
  ok_of (by omega) (by omega) (ofZ_sorted _ _) fun z hz => (ofZ_mem.1 hz).1
theorem all_len' {n : Nat} {zs : List Int} (ho : Ok n zs) : (ofZ n (zs ++ notZ n zs)).length = n := all_len ho
end Go.Proofs.Ytjgjcppkbfojpaa.Rhy
