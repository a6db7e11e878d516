/-
  Helpers of the claims beside this text: intervals at valid rhythms: what the program answers, in the words that the laws want.
-/
import Derived.Test.YtjgjcppkbfojpaaIva
import Derived.Test.YtjgjcppkbfojpaaRhd
import Derived.Test.YtjgjcppkbfojpaaDrw
namespace Go.Proofs.Ytjgjcppkbfojpaa.Rhy
open Go.RowKit
set_option linter.unusedVariables false
set_option linter.unusedSimpArgs false

theorem v_difs (n : Nat) (a : Option Addr) (cap : Nat) (zs l : List Int) (w : World) (h : IntsAt w a zs.length zs) (ho : Ok n zs) (hl : difZ n zs = l) :
    Calls Try.prog 40 #[rhy n a zs.length cap] w fun e w' => ∃ b c, e = .returned (.slice b n c) ∧ IntsAt w' b n l ∧ Below w.heap.size w w' := by
  refine (difs_impl n a zs.length cap zs w h (by have := ok_len ho; omega)).mono ?_
  rintro e w' ⟨b, c, rfl, ho', hb⟩
  have hi := intsAt_own ho' (difB_int n zs)
  have e1 : difB n zs = l := by unfold difB; rw [cZ_yes ho, hl]
  have e2 : l.length = n := by rw [← hl, difZ_len]; omega
  rw [e1, e2] at hi
  rw [e1, e2]
  exact ⟨b, c, rfl, hi, hb⟩



theorem v_sv (n : Nat) (a : Option Addr) (ca : Nat) (xs : List Int) (b : Option Addr) (cb : Nat) (ys : List Int) (w : World) (ha : IntsAt w a xs.length xs) (hb : IntsAt w b ys.length ys) (hx : Ok n xs) (hy : Ok n ys) (hq : vecZ n xs = vecZ n ys) :
    Calls Try.prog 74 #[rhy n a xs.length ca, rhy n b ys.length cb] w fun e w' => e = .returned (.bool true) ∧ Below w.heap.size w w' := by
  have := samevec_impl n a xs.length ca xs n b ys.length cb ys w ha (by have := ok_len hx; omega) hb (by have := ok_len hy; omega)
  rwa [svB_yes hx hy, eqB_yes hq] at this
theorem v_sv' (n : Nat) (a : Option Addr) (ca : Nat) (xs : List Int) (b : Option Addr) (cb : Nat) (ys : List Int) (w : World) (ha : IntsAt w a xs.length xs) (hb : IntsAt w b ys.length ys) (hx : Ok n xs) (hy : Ok n ys) :
    Calls Try.prog 74 #[rhy n a xs.length ca, rhy n b ys.length cb] w fun e w' => ∃ q : Bool, e = .returned (.bool q) ∧ Below w.heap.size w w' :=
  (samevec_impl n a xs.length ca xs n b ys.length cb ys w ha (by have := ok_len hx; omega) hb (by have := ok_len hy; omega)).mono fun e w' h => ⟨_, h⟩
theorem v_tw_no (n : Nat) (a : Option Addr) (ca : Nat) (xs : List Int) (b : Option Addr) (cb : Nat) (ys : List Int) (w : World) (ha : IntsAt w a xs.length xs) (hb : IntsAt w b ys.length ys) (hx : Ok n xs) (hy : Ok n ys) (hf : Form n xs ys) :
    Calls Try.prog 26 #[rhy n a xs.length ca, rhy n b ys.length cb] w fun e w' => e = .returned (.bool false) ∧ Below w.heap.size w w' := by
  have := twins_impl n a xs.length ca xs n b ys.length cb ys w ha (by have := ok_len hx; omega) hb (by have := ok_len hy; omega)
  have e : twB n xs n ys = false := by unfold twB; rw [(afor_form hx hy).2 hf]; simp
  rwa [e] at this
theorem v_tw_yes (n : Nat) (a : Option Addr) (ca : Nat) (xs : List Int) (b : Option Addr) (cb : Nat) (ys : List Int) (w : World) (ha : IntsAt w a xs.length xs) (hb : IntsAt w b ys.length ys) (hx : Ok n xs) (hy : Ok n ys) (hv : vecZ n xs = vecZ n ys) (hf : ¬ Form n xs ys) :
    Calls Try.prog 26 #[rhy n a xs.length ca, rhy n b ys.length cb] w fun e w' => e = .returned (.bool true) ∧ Below w.heap.size w w' := by
  have := twins_impl n a xs.length ca xs n b ys.length cb ys w ha (by have := ok_len hx; omega) hb (by have := ok_len hy; omega)
  have e : twB n xs n ys = true := by
    unfold twB
    rw [svB_yes hx hy, eqB_yes hv]
    cases hh : aforB n xs n ys with
    | false => rfl
    | true => exact absurd ((afor_form hx hy).1 hh) hf
  rwa [e] at this
theorem v_flat (n : Nat) (a : Option Addr) (cap : Nat) (zs : List Int) (r : Bool) (w : World) (h : IntsAt w a zs.length zs) (ho : Ok n zs) (hr : flatB n zs = r) :
    Calls Try.prog 31 #[rhy n a zs.length cap] w fun e w' => e = .returned (.bool r) ∧ Below w.heap.size w w' := by
  have := flat_impl n a zs.length cap zs w h (by have := ok_len ho; omega)
  rwa [hr] at this
theorem flatB_not {n : Nat} {zs : List Int} (ho : Ok n zs) : flatB n (notZ n zs) = flatB n zs := by
  have h1 : Ok n (notZ n zs) := not_ok' ho
  by_cases hf : flatZ n zs
  · rw [flatB_yes ⟨ho, hf⟩, flatB_yes ⟨h1, (flat_not ho).2 hf⟩]
  · rw [flatB_no (fun q => hf q.2), flatB_no (fun q => hf ((flat_not ho).1 q.2))]
theorem v_deep (n : Nat) (a : Option Addr) (cap : Nat) (zs : List Int) (r : Bool) (w : World) (h : IntsAt w a zs.length zs) (ho : Ok n zs) (hr : deepB n zs = r) :
    Calls Try.prog 30 #[rhy n a zs.length cap] w fun e w' => e = .returned (.bool r) ∧ Below w.heap.size w w' := by
  have := deep_impl n a zs.length cap zs w h (by have := ok_len ho; omega)
  rwa [hr] at this
theorem v_bet (n : Nat) (a : Option Addr) (cap : Nat) (zs : List Int) (p q r : Int) (w : World) (h : IntsAt w a zs.length zs) (ho : Ok n zs) (hp : -1000 ≤ p ∧ p ≤ 1000) (hq : -1000 ≤ q ∧ q ≤ 1000) (hr : betB n zs p q = r) :
    Calls Try.prog 29 #[rhy n a zs.length cap, .int .i64 p, .int .i64 q] w fun e w' => e = .returned (.int .i64 r) ∧ Below w.heap.size w w' := by
  have := bet_impl n a zs.length cap zs p q w h (by have := ok_len ho; omega) (by omega) (by omega) (by omega) (by omega)
  rwa [hr] at this

theorem dif_range {n : Int} {zs : List Int} (ho : Ok n zs) : ∀ x ∈ difZ n zs, 0 ≤ x ∧ x ≤ 1000 := by
  intro x hx
  unfold difZ at hx
  rw [List.mem_map] at hx
  obtain ⟨i, _, rfl⟩ := hx
  have := dif_le ho ((i : Nat) : Int)
  omega
theorem vec_range {n : Int} {zs : List Int} (ho : Ok n zs) : ∀ x ∈ vecZ n zs, 0 ≤ x ∧ x ≤ 1000 := by
  intro x hx
  unfold vecZ at hx
  rw [List.mem_map] at hx
  obtain ⟨j, _, rfl⟩ := hx
  have := dif_le ho ((j + 1 : Nat) : Int)
  split <;> omega
end Go.Proofs.Ytjgjcppkbfojpaa.Rhy
