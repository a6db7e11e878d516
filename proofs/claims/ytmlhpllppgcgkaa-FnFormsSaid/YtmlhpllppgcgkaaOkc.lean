/-
  Helpers of the claims beside this text: forms at valid rhythms: what the program answers, in the words that the law on forms wants.
-/
import Derived.Test.YtmlhpllppgcgkaaLwb
import Derived.Test.YtmlhpllppgcgkaaAfo
import Derived.Test.YtmlhpllppgcgkaaLsk
import Derived.Test.YtmlhpllppgcgkaaRts
namespace Go.Proofs.Ytmlhpllppgcgkaa.Rhy
open Go.RowKit
set_option linter.unusedVariables false

theorem c_per (n : Nat) (a : Option Addr) (cap : Nat) (zs : List Int) (p : Nat) (w : World) (h : IntsAt w a zs.length zs) (ho : Ok n zs) (hp : perZ n zs = p) :
    Calls Try.prog 26 #[rhy n a zs.length cap] w fun e w' => e = .returned (.int .i64 (p : Nat)) ∧ Below w.heap.size w w' := by
  have := period_impl n a zs.length cap zs w h (by have := ok_len ho; omega)
  rwa [perB_yes ho, hp] at this
theorem c_axes (n : Nat) (a : Option Addr) (cap : Nat) (zs : List Int) (q : Nat) (w : World) (h : IntsAt w a zs.length zs) (ho : Ok n zs) (hq : (axesZ n zs).length = q) :
    Calls Try.prog 29 #[rhy n a zs.length cap] w fun e w' => ∃ b c, e = .returned (.slice b q c) ∧ Below w.heap.size w w' := by
  refine (axes_impl n a zs.length cap zs w h (by have := ok_len ho; omega)).mono ?_
  rintro e w' ⟨b, c, rfl, _, hb⟩
  rw [axB_yes ho, hq]
  exact ⟨b, c, rfl, hb⟩
theorem c_rots (n : Nat) (a : Option Addr) (cap : Nat) (zs : List Int) (p : Nat) (w : World) (h : IntsAt w a zs.length zs) (ho : Ok n zs) (hp : perZ n zs = p) :
    Calls Try.prog 30 #[rhy n a zs.length cap] w fun e w' => ∃ b c, e = .returned (.slice b p c) ∧ Below w.heap.size w w' := by
  refine (rots_impl n a zs.length cap zs w h (by have := ok_len ho; omega)).mono ?_
  rintro e w' ⟨b, c, L, rfl, _, _, hb⟩
  rw [roB_yes ho, show (rotsZ n zs).length = p by unfold rotsZ; rw [rotsP_len, hp]]
  exact ⟨b, c, rfl, hb⟩
theorem c_least (n : Nat) (a : Option Addr) (cap : Nat) (zs l : List Int) (w : World) (h : IntsAt w a zs.length zs) (ho : Ok n zs) (hl : leastZ n zs = l) :
    Calls Try.prog 31 #[rhy n a zs.length cap] w (RetPost n l true w) := by
  refine (least_impl n a zs.length cap zs w h (by have := ok_len ho; omega)).mono fun e w' h => ?_
  rw [← hl]
  exact cpost_open ho h
theorem c_form (n : Nat) (a : Option Addr) (cap : Nat) (zs l : List Int) (w : World) (h : IntsAt w a zs.length zs) (ho : Ok n zs) (hl : formZ n zs = l) :
    Calls Try.prog 32 #[rhy n a zs.length cap] w (RetPost n l true w) := by
  refine (form_impl n a zs.length cap zs w h (by have := ok_len ho; omega)).mono fun e w' h => ?_
  rw [← hl]
  exact cpost_open ho h
theorem c_mir (n : Nat) (a : Option Addr) (cap : Nat) (zs l : List Int) (w : World) (h : IntsAt w a zs.length zs) (ho : Ok n zs) (hl : rotZ n zs (-1) 0 = l) :
    Calls Try.prog 17 #[rhy n a zs.length cap] w (RetPost n l true w) := by
  refine (mir_impl n a zs.length cap zs w h (by have := ok_len ho; omega)).mono fun e w' h => ?_
  rw [← hl]
  exact cpost_open ho h
theorem c_rot (n : Nat) (a : Option Addr) (cap : Nat) (zs l : List Int) (k : Int) (w : World) (h : IntsAt w a zs.length zs) (ho : Ok n zs) (h1 : -1000 ≤ k) (h2 : k ≤ 1000) (hl : rotZ n zs 1 k = l) :
    Calls Try.prog 16 #[rhy n a zs.length cap, .int .i64 k] w (RetPost n l true w) := by
  refine (rot_impl n a zs.length cap zs k w h (by have := ok_len ho; omega) (by omega) (by omega)).mono fun e w' h => ?_
  rw [← hl]
  exact cpost_open ⟨ho, h1, h2⟩ h
theorem c_ism (n : Nat) (a : Option Addr) (cap : Nat) (zs : List Int) (q : Nat) (w : World) (h : IntsAt w a zs.length zs) (ho : Ok n zs) (hq : (axesZ n zs).length = q) :
    Calls Try.prog 33 #[rhy n a zs.length cap] w fun e w' => e = .returned (.bool (decide (0 < q))) ∧ Below w.heap.size w w' := by
  have := ism_impl n a zs.length cap zs w h (by have := ok_len ho; omega)
  unfold ismB at this
  rwa [axB_yes ho, hq] at this
theorem c_isp (n : Nat) (a : Option Addr) (cap : Nat) (zs : List Int) (p : Nat) (w : World) (h : IntsAt w a zs.length zs) (ho : Ok n zs) (hp : perZ n zs = p) :
    Calls Try.prog 34 #[rhy n a zs.length cap] w fun e w' => e = .returned (.bool (decide (p < n))) ∧ Below w.heap.size w w' := by
  have := isper_impl n a zs.length cap zs w h (by have := ok_len ho; omega)
  unfold ispB at this
  rw [okB_yes ho, hp, Bool.true_and] at this
  rwa [show decide ((p : Int) < (n : Int)) = decide (p < n) by simp] at this
theorem c_ism' (n : Nat) (a : Option Addr) (cap : Nat) (zs : List Int) (q : Nat) (r : Bool) (w : World) (h : IntsAt w a zs.length zs) (ho : Ok n zs) (hq : (axesZ n zs).length = q) (hr : decide (0 < q) = r) :
    Calls Try.prog 33 #[rhy n a zs.length cap] w fun e w' => e = .returned (.bool r) ∧ Below w.heap.size w w' := by
  rw [← hr]
  exact c_ism n a cap zs q w h ho hq
theorem c_isp' (n : Nat) (a : Option Addr) (cap : Nat) (zs : List Int) (p : Nat) (r : Bool) (w : World) (h : IntsAt w a zs.length zs) (ho : Ok n zs) (hp : perZ n zs = p) (hr : decide (p < n) = r) :
    Calls Try.prog 34 #[rhy n a zs.length cap] w fun e w' => e = .returned (.bool r) ∧ Below w.heap.size w w' := by
  rw [← hr]
  exact c_isp n a cap zs p w h ho hp
theorem c_ilr (n : Nat) (a : Option Addr) (cap : Nat) (zs : List Int) (w : World) (h : IntsAt w a zs.length zs) (ho : Ok n zs) (hl : leastZ n zs = zs) :
    Calls Try.prog 35 #[rhy n a zs.length cap] w fun e w' => e = .returned (.bool true) ∧ Below w.heap.size w w' := by
  have := isleast_impl n a zs.length cap zs w h (by have := ok_len ho; omega)
  unfold ilrB at this
  rwa [okB_yes ho, hl, eqB_yes rfl, Bool.true_and] at this
theorem c_rotTo (n : Nat) (a : Option Addr) (ca : Nat) (xs : List Int) (b : Option Addr) (cb : Nat) (ys : List Int) (r : Int) (w : World) (ha : IntsAt w a xs.length xs) (hb : IntsAt w b ys.length ys) (hx : Ok n xs) (hy : Ok n ys) (hr : rotToZ n xs ys = r) :
    Calls Try.prog 36 #[rhy n a xs.length ca, rhy n b ys.length cb] w fun e w' => e = .returned (.int .i64 r) ∧ Below w.heap.size w w' := by
  have := rotTo_impl n a xs.length ca xs n b ys.length cb ys w ha (by have := ok_len hx; omega) hb (by have := ok_len hy; omega)
  rw [rotToB_yes hx hy] at this
  unfold rotToW at this
  rwa [if_pos rfl, hr] at this
theorem arot_eq {n : Nat} {xs ys : List Int} (hx : Ok n xs) (hy : Ok n ys) : arotB n xs n ys = true ↔ ∃ k : Int, rotZ n xs 1 k = ys := by
  unfold arotB
  rw [rotToB_yes hx hy]
  unfold rotToW
  rw [if_pos rfl, decide_eq_true_iff]
  exact rotTo_iff hx
theorem c_arot (n : Nat) (a : Option Addr) (ca : Nat) (xs : List Int) (b : Option Addr) (cb : Nat) (ys : List Int) (r : Bool) (w : World) (ha : IntsAt w a xs.length xs) (hb : IntsAt w b ys.length ys) (hx : Ok n xs) (hy : Ok n ys) (hr : (∃ k : Int, rotZ n xs 1 k = ys) ↔ r = true) :
    Calls Try.prog 37 #[rhy n a xs.length ca, rhy n b ys.length cb] w fun e w' => e = .returned (.bool r) ∧ Below w.heap.size w w' := by
  have := arot_impl n a xs.length ca xs n b ys.length cb ys w ha (by have := ok_len hx; omega) hb (by have := ok_len hy; omega)
  have e : arotB n xs n ys = r := by
    cases r with
    | true => exact (arot_eq hx hy).2 (hr.2 rfl)
    | false => exact Bool.eq_false_iff.2 (fun q => by have := hr.1 ((arot_eq hx hy).1 q); cases this)
  rwa [e] at this
theorem c_afor (n : Nat) (a : Option Addr) (ca : Nat) (xs : List Int) (b : Option Addr) (cb : Nat) (ys : List Int) (w : World) (ha : IntsAt w a xs.length xs) (hb : IntsAt w b ys.length ys) (hx : Ok n xs) (hy : Ok n ys) (hr : (∃ k : Int, rotZ n xs 1 k = ys) ∨ (∃ k : Int, rotZ n (rotZ n xs (-1) 0) 1 k = ys)) :
    Calls Try.prog 38 #[rhy n a xs.length ca, rhy n b ys.length cb] w fun e w' => e = .returned (.bool true) ∧ Below w.heap.size w w' := by
  have := afor_impl n a xs.length ca xs n b ys.length cb ys w ha (by have := ok_len hx; omega) hb (by have := ok_len hy; omega)
  have hm : Ok n (rotZ n xs (-1) 0) := rot_ok hx.1 _ _
  unfold aforB at this
  rw [okB_yes hx, Bool.true_and] at this
  rcases hr with hr | hr
  · rwa [(arot_eq hx hy).2 hr, Bool.true_or] at this
  · rwa [(arot_eq hm hy).2 hr, Bool.or_true] at this
/-- A least rotation is a turn; a least form is a turn of the rhythm or of its mirror. -/
theorem least_turn {n : Int} {zs : List Int} (ho : Ok n zs) : ∃ k : Int, rotZ n zs 1 k = leastZ n zs := by
  obtain ⟨j, e⟩ := least_mem ho
  exact ⟨j, e.symm⟩
theorem form_turn {n : Int} {zs : List Int} (ho : Ok n zs) : (∃ k : Int, rotZ n zs 1 k = formZ n zs) ∨ (∃ k : Int, rotZ n (rotZ n zs (-1) 0) 1 k = formZ n zs) := by
  rcases (form_val ho).1 with e | e
  · obtain ⟨j, h⟩ := least_turn ho
    exact .inl ⟨j, by rw [h, e]⟩
  · obtain ⟨j, h⟩ := least_turn (rot_ok ho.1 (-1) 0 (zs := zs))
    exact .inr ⟨j, by rw [h, e]⟩
end Go.Proofs.Ytmlhpllppgcgkaa.Rhy
