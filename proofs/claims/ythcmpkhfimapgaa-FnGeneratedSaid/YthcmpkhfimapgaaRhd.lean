import Derived.Test.YthcmpkhfimapgaaMoves
import Derived.Test.YthcmpkhfimapgaaHas
import Derived.Test.YthcmpkhfimapgaaRot
namespace Go.Proofs.Ythcmpkhfimapgaa.Rhy
open Go.RowKit

/-- A rhythm and true, of a function that has one. -/
theorem cpost_open {c : Prop} {s : Int} {l : List Int} {w w' : World} {e : Ending} (hc : c) (h : CPost c s l w e w') : RetPost s l true w e w' := by
  unfold CPost at h
  rwa [cS_yes hc, cZ_yes hc, cB_yes hc] at h
theorem cpost_shut {c : Prop} {s : Int} {l : List Int} {w w' : World} {e : Ending} (hc : ¬ c) (h : CPost c s l w e w') : RetPost 0 [] false w e w' := by
  unfold CPost at h
  rwa [cS_no hc, cZ_no hc, cB_no hc] at h
end Go.Proofs.Ythcmpkhfimapgaa.Rhy
namespace Go.Proofs.Ythcmpkhfimapgaa.Rhy
open Go.RowKit

theorem r_oth (n : Nat) (a : Option Addr) (cap : Nat) (zs l : List Int) (w : World) (h : IntsAt w a zs.length zs) (ho : Ok n zs) (hl : notZ n zs = l) :
    Calls Try.prog 20 #[rhy n a zs.length cap] w (RetPost n l true w) := by
  refine (oth_impl n a zs.length cap zs w h (by have := ok_len ho; omega)).mono fun e w' h => ?_
  rw [← hl]
  exact cpost_open ho h
theorem r_cnt (n : Nat) (a : Option Addr) (cap : Nat) (zs : List Int) (r : Int) (w : World) (h : IntsAt w a zs.length zs) (ho : Ok n zs) (hr : (zs.length : Int) = r) :
    Calls Try.prog 27 #[rhy n a zs.length cap] w fun e w' => e = .returned (.int .i64 r) ∧ Below w.heap.size w w' := by
  have := count_impl n a zs.length cap zs w h (by have := ok_len ho; omega)
  rwa [countB_yes ho, hr] at this
theorem r_has (n : Nat) (a : Option Addr) (cap : Nat) (zs : List Int) (k : Int) (r : Bool) (w : World) (h : IntsAt w a zs.length zs) (ho : Ok n zs) (h1 : -1000 ≤ k) (h2 : k ≤ 1000) (hr : hasB zs (remB k n) = r) :
    Calls Try.prog 25 #[rhy n a zs.length cap, .int .i64 k] w fun e w' => e = .returned (.bool r) ∧ Below w.heap.size w w' := by
  have := beat_impl n a zs.length cap zs k w h (by have := ok_len ho; omega) (by omega) (by omega)
  rwa [beatB_yes ho, hr] at this


theorem len_moved {s : Int} {zs : List Int} (ho : Ok s zs) {u k : Int} (hc : Nat.gcd u.natAbs s.natAbs = 1) : (rotZ s zs u k).length = zs.length := by
  unfold rotZ
  rw [← moved_eq ho hc, sortZ_len, mapL_len]
theorem not_len' {n : Nat} {zs : List Int} (ho : Ok n zs) : (notZ n zs).length + zs.length = n := not_len ho
theorem not_not' {n : Nat} {zs : List Int} (ho : Ok n zs) : notZ n (notZ n zs) = zs := not_not ho
theorem not_ok' {n : Nat} {zs : List Int} (ho : Ok n zs) : Ok n (notZ n zs) := not_ok ho
theorem rot_back {n : Int} {zs : List Int} (ho : Ok n zs) (k : Int) : rotZ n (rotZ n zs 1 k) 1 (-k) = zs := by
  rw [rot_rot ho, show k + -k = 0 by omega, rot_zero ho]
theorem mir_back {n : Int} {zs : List Int} (ho : Ok n zs) : rotZ n (rotZ n zs (-1) 0) (-1) 0 = zs := by
  rw [mir_mir ho, show (0 : Int) - 0 = 0 by omega, rot_zero ho]
end Go.Proofs.Ythcmpkhfimapgaa.Rhy
