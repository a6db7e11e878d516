/-
  Helpers of the claims beside this text: a rhythm in a new box.
-/
import Derived.Test.YtcppmcacjjjjeabDrw
import Derived.Test.YtcppmcacjjjjeabMoves
namespace Go.Proofs.Ytcppmcacjjjjeab.Rhy
open Go.RowKit
open Go.Proofs.Ytcppmcacjjjjeab.Cur
set_option linter.unusedVariables false

theorem bytes_up {B : Nat} {w w' : World} {a : Option Addr} {len : Nat} (h : BytesAt B w a len) (hb : Below B w w') (hB : B ≤ w'.heap.size) : BytesAt w'.heap.size w' a len := by
  have h3 := h.below hb
  exact ⟨h3.1, fun hp => by obtain ⟨b, off, e, hlt, hc⟩ := h3.2 hp; exact ⟨b, off, e, by omega, hc⟩⟩

/-- A new box that holds a rhythm. -/
abbrev putR (W : World) (s : Int) (a : Option Addr) (len cap : Nat) : World := W.alloc (.cells #[.int .i64 s, .slice a len cap] 25)
theorem putR_below (W : World) (s : Int) (a : Option Addr) (len cap : Nat) : Below W.heap.size W (putR W s a len cap) := bel1 W _
theorem putR_size (W : World) (s : Int) (a : Option Addr) (len cap : Nat) : (putR W s a len cap).heap.size = W.heap.size + 1 := by simp [putR]
theorem putR_two (W : World) (s : Int) (a : Option Addr) (len cap : Nat) : Two (putR W s a len cap) W.heap.size (.int .i64 s) (.slice a len cap) := two_new W _ _ _
theorem putR_box (W : World) (s : Int) (a : Option Addr) (len cap : Nat) : Box (putR W s a len cap) W.heap.size (.int .i64 s) (.slice a len cap) 25 := box_new W _ _ _
/-- What a box holds: a rhythm. -/
def RhAt (w : World) (b : Nat) (n : Nat) (a : Option Addr) (cap : Nat) (zs : List Int) : Prop := Box w b (.int .i64 n) (.slice a zs.length cap) 25 ∧ IntsAt w a zs.length zs
theorem RhAt.keep {w w' : World} {b n : Nat} {a : Option Addr} {cap : Nat} {zs : List Int} (h : RhAt w b n a cap zs) (hb : Below w.heap.size w w') : RhAt w' b n a cap zs := ⟨h.1.keep hb h.1.lt, h.2.below hb⟩
theorem rhAt_put {w' : World} {n : Nat} {a : Option Addr} {cap : Nat} {zs : List Int} {B : Nat} (h : w'.ownsRow B 3 1 (.slice a zs.length cap) zs.length (ints zs)) (hi : AllInt zs) : RhAt (putR w' n a zs.length cap) w'.heap.size n a cap zs :=
  ⟨putR_box _ _ _ _ _, (intsAt_own h hi).below (putR_below _ _ _ _ _)⟩
theorem ok_allInt {n : Int} {zs : List Int} (h : Ok n zs) : AllInt zs := fun z hz => by have := ok_range h z hz; have := h.1; omega
end Go.Proofs.Ytcppmcacjjjjeab.Rhy
