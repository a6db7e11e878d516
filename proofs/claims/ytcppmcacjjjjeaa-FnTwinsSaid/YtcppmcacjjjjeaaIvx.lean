/-
  Helpers of the claims beside this text: intervals at valid rhythms: what the program answers, in the words that the laws want.
-/
import Derived.Test.YtcppmcacjjjjeaaIva
import Derived.Test.YtcppmcacjjjjeaaLwb
namespace Go.Proofs.Ytcppmcacjjjjeaa.Rhy
open Go.RowKit
set_option linter.unusedVariables false
set_option linter.unusedSimpArgs false

theorem v_difs (n : Nat) (a : Option Addr) (cap : Nat) (zs l : List Int) (w : World) (h : IntsAt w a zs.length zs) (ho : Ok n zs) (hl : difZ n zs = l) :
    Calls Try.prog 16 #[rhy n a zs.length cap] w fun e w' => ∃ b c, e = .returned (.slice b n c) ∧ IntsAt w' b n l ∧ Below w.heap.size w w' := by
  refine (difs_impl n a zs.length cap zs w h (by have := ok_len ho; omega)).mono ?_
  rintro e w' ⟨b, c, rfl, ho', hb⟩
  have hi := intsAt_own ho' (difB_int n zs)
  have e1 : difB n zs = l := by unfold difB; rw [cZ_yes ho, hl]
  have e2 : l.length = n := by rw [← hl, difZ_len]; omega
  rw [e1, e2] at hi
  rw [e1, e2]
  exact ⟨b, c, rfl, hi, hb⟩
theorem v_vec (n : Nat) (a : Option Addr) (cap : Nat) (zs l : List Int) (m : Nat) (w : World) (h : IntsAt w a zs.length zs) (ho : Ok n zs) (hl : vecZ n zs = l) (hm : n / 2 = m) :
    Calls Try.prog 17 #[rhy n a zs.length cap] w fun e w' => ∃ b c, e = .returned (.slice b m c) ∧ IntsAt w' b m l ∧ Below w.heap.size w w' := by
  refine (vec_impl n a zs.length cap zs w h (by have := ok_len ho; omega)).mono ?_
  rintro e w' ⟨b, c, rfl, ho', hb⟩
  have hi := intsAt_own ho' (vecB_int n zs)
  have e1 : vecB n zs = l := by unfold vecB; rw [cZ_yes ho, hl]
  have e2 : l.length = m := by rw [← hl, vec_len, ← hm]; omega
  rw [e1, e2] at hi
  rw [e1, e2]
  exact ⟨b, c, rfl, hi, hb⟩
theorem v_over (n : Nat) (a : Option Addr) (ca : Nat) (zs l : List Int) (b : Option Addr) (cb : Nat) (w : World) (ha : IntsAt w a zs.length zs) (hb : IntsAt w b zs.length zs) (ho : Ok n zs) (hl : difZ n zs = l) :
    Calls Try.prog 19 #[rhy n a zs.length ca, rhy n b zs.length cb] w fun e w' => ∃ b c, e = .returned (.slice b n c) ∧ IntsAt w' b n l ∧ Below w.heap.size w w' := by
  refine (over_impl n a zs.length ca zs n b zs.length cb zs w ha (by have := ok_len ho; omega) hb (by have := ok_len ho; omega)).mono ?_
  rintro e w' ⟨b, c, rfl, ho', hb⟩
  have hi := intsAt_own ho' (overB_int n zs n zs)
  have e1 : overB n zs n zs = l := by unfold overB; rw [cZ_yes ⟨ho, ho, rfl⟩, over_self, hl]
  have e2 : l.length = n := by rw [← hl, difZ_len]; omega
  rw [e1, e2] at hi
  rw [e1, e2]
  exact ⟨b, c, rfl, hi, hb⟩
theorem v_com (n : Nat) (a : Option Addr) (ca : Nat) (xs : List Int) (b : Option Addr) (cb : Nat) (ys : List Int) (q : Nat) (w : World) (ha : IntsAt w a xs.length xs) (hb : IntsAt w b ys.length ys) (hx : Ok n xs) (hy : Ok n ys) (hq : comZ xs ys = q) :
    Calls Try.prog 22 #[rhy n a xs.length ca, rhy n b ys.length cb] w fun e w' => e = .returned (.int .i64 (q : Nat)) ∧ Below w.heap.size w w' := by
  have := common_impl n a xs.length ca xs n b ys.length cb ys w ha (by have := ok_len hx; omega) hb (by have := ok_len hy; omega)
  rwa [comB_yes ⟨hx, hy, rfl⟩, hq] at this
theorem v_sv (n : Nat) (a : Option Addr) (ca : Nat) (xs : List Int) (b : Option Addr) (cb : Nat) (ys : List Int) (w : World) (ha : IntsAt w a xs.length xs) (hb : IntsAt w b ys.length ys) (hx : Ok n xs) (hy : Ok n ys) (hq : vecZ n xs = vecZ n ys) :
    Calls Try.prog 23 #[rhy n a xs.length ca, rhy n b ys.length cb] w fun e w' => e = .returned (.bool true) ∧ Below w.heap.size w w' := by
  have := samevec_impl n a xs.length ca xs n b ys.length cb ys w ha (by have := ok_len hx; omega) hb (by have := ok_len hy; omega)
  rwa [svB_yes hx hy, eqB_yes hq] at this
theorem v_sv' (n : Nat) (a : Option Addr) (ca : Nat) (xs : List Int) (b : Option Addr) (cb : Nat) (ys : List Int) (w : World) (ha : IntsAt w a xs.length xs) (hb : IntsAt w b ys.length ys) (hx : Ok n xs) (hy : Ok n ys) :
    Calls Try.prog 23 #[rhy n a xs.length ca, rhy n b ys.length cb] w fun e w' => ∃ q : Bool, e = .returned (.bool q) ∧ Below w.heap.size w w' :=
  (samevec_impl n a xs.length ca xs n b ys.length cb ys w ha (by have := ok_len hx; omega) hb (by have := ok_len hy; omega)).mono fun e w' h => ⟨_, h⟩
theorem v_tw_no (n : Nat) (a : Option Addr) (ca : Nat) (xs : List Int) (b : Option Addr) (cb : Nat) (ys : List Int) (w : World) (ha : IntsAt w a xs.length xs) (hb : IntsAt w b ys.length ys) (hx : Ok n xs) (hy : Ok n ys) (hf : Form n xs ys) :
    Calls Try.prog 24 #[rhy n a xs.length ca, rhy n b ys.length cb] w fun e w' => e = .returned (.bool false) ∧ Below w.heap.size w w' := by
  have := twins_impl n a xs.length ca xs n b ys.length cb ys w ha (by have := ok_len hx; omega) hb (by have := ok_len hy; omega)
  have e : twB n xs n ys = false := by unfold twB; rw [(afor_form hx hy).2 hf]; simp
  rwa [e] at this
theorem v_tw_yes (n : Nat) (a : Option Addr) (ca : Nat) (xs : List Int) (b : Option Addr) (cb : Nat) (ys : List Int) (w : World) (ha : IntsAt w a xs.length xs) (hb : IntsAt w b ys.length ys) (hx : Ok n xs) (hy : Ok n ys) (hv : vecZ n xs = vecZ n ys) (hf : ¬ Form n xs ys) :
    Calls Try.prog 24 #[rhy n a xs.length ca, rhy n b ys.length cb] w fun e w' => e = .returned (.bool true) ∧ Below w.heap.size w w' := by
  have := twins_impl n a xs.length ca xs n b ys.length cb ys w ha (by have := ok_len hx; omega) hb (by have := ok_len hy; omega)
  have e : twB n xs n ys = true := by
    unfold twB
    rw [svB_yes hx hy, eqB_yes hv]
    cases hh : aforB n xs n ys with
    | false => rfl
    | true => exact absurd ((afor_form hx hy).1 hh) hf
  rwa [e] at this
theorem v_flat (n : Nat) (a : Option Addr) (cap : Nat) (zs : List Int) (r : Bool) (w : World) (h : IntsAt w a zs.length zs) (ho : Ok n zs) (hr : flatB n zs = r) :
    Calls Try.prog 28 #[rhy n a zs.length cap] w fun e w' => e = .returned (.bool r) ∧ Below w.heap.size w w' := by
  have := flat_impl n a zs.length cap zs w h (by have := ok_len ho; omega)
  rwa [hr] at this
theorem flatB_not {n : Nat} {zs : List Int} (ho : Ok n zs) : flatB n (notZ n zs) = flatB n zs := by
  have h1 : Ok n (notZ n zs) := not_ok' ho
  by_cases hf : flatZ n zs
  · rw [flatB_yes ⟨ho, hf⟩, flatB_yes ⟨h1, (flat_not ho).2 hf⟩]
  · rw [flatB_no (fun q => hf q.2), flatB_no (fun q => hf ((flat_not ho).1 q.2))]
theorem v_deep (n : Nat) (a : Option Addr) (cap : Nat) (zs : List Int) (r : Bool) (w : World) (h : IntsAt w a zs.length zs) (ho : Ok n zs) (hr : deepB n zs = r) :
    Calls Try.prog 36 #[rhy n a zs.length cap] w fun e w' => e = .returned (.bool r) ∧ Below w.heap.size w w' := by
  have := deep_impl n a zs.length cap zs w h (by have := ok_len ho; omega)
  rwa [hr] at this
theorem v_bet (n : Nat) (a : Option Addr) (cap : Nat) (zs : List Int) (p q r : Int) (w : World) (h : IntsAt w a zs.length zs) (ho : Ok n zs) (hp : -1000 ≤ p ∧ p ≤ 1000) (hq : -1000 ≤ q ∧ q ≤ 1000) (hr : betB n zs p q = r) :
    Calls Try.prog 34 #[rhy n a zs.length cap, .int .i64 p, .int .i64 q] w fun e w' => e = .returned (.int .i64 r) ∧ Below w.heap.size w w' := by
  have := bet_impl n a zs.length cap zs p q w h (by have := ok_len ho; omega) (by omega) (by omega) (by omega) (by omega)
  rwa [hr] at this
/-- The sum of a list of natural numbers. -/
theorem sum_any (a : Option Addr) (n cap : Nat) (l : List Int) (t : Int) (w : World) (h : IntsAt w a n l) (hb : ∀ x ∈ l, 0 ≤ x ∧ x ≤ 1000) (hn : n ≤ 1000) (ht : l.sum = t) :
    Calls Try.prog 20 #[.slice a n cap] w fun e w' => e = .returned (.int .i64 t) ∧ Below w.heap.size w w' := by
  subst ht
  have HS := Lib.hid h
  have HBD := Lib.hid hb
  clear h hb
  have snoc : ∀ {k : Nat} {z : Int}, l[k]? = some z → (l.take (k + 1)).sum = (l.take k).sum + z := fun hz => by rw [List.take_add_one, hz]; simp
  have hsum : ∀ k, k ≤ l.length → 0 ≤ (l.take k).sum ∧ (l.take k).sum ≤ 1000 * k := by
    intro k
    induction k with
    | zero => intro _; simp
    | succ k ih =>
      intro hk
      have e := List.getElem?_eq_getElem (show k < l.length by omega)
      have hm := HBD.out _ (List.getElem_mem (show k < l.length by omega))
      have := ih (by omega)
      rw [snoc e]
      omega
  have HSU := Lib.hid hsum
  have HSN := Lib.hid (fun (k : Nat) (z : Int) (h : l[k]? = some z) => snoc h)
  clear hsum snoc
  go_enter Try.func20, Try.ntmps20
  go_wp2
  go_loop [3, 8] (fun s i => ∃ k : Nat, k ≤ n ∧ i = .int .i64 k ∧ s = .int .i64 (l.take k).sum) (fun _ i => n - (intOf i).toNat)
  case atStart => exact ⟨0, by omega, rfl, by simp⟩
  case round =>
    obtain ⟨k, hk, rfl, rfl⟩ := hrel
    by_cases hlt : k < n
    · obtain ⟨g, o, z, rfl, la, hz, c1, z0, z1⟩ := HS.out.at hlt
      have e2 : (l.take (k + 1)).sum = (l.take k).sum + z := HSN.out k z hz
      have h1 := HSU.out k (by have := HS.out.1; omega)
      have h2 := HSU.out (k + 1) (by have := HS.out.1; omega)
      have hwr : wrap64 ((l.take k).sum + z) = (l.take k).sum + z := by have := HS.out.1; unfold wrap64; omega
      have HE2 := Lib.hid e2
      clear hz e2 h1 h2
      go_wp2
      go_round
      case rel => exact ⟨k + 1, by omega, by go_num, by rw [HE2.out, hwr]⟩
      case measure => simp [intOf]; omega
    · have e : k = l.length := by have := HS.out.1; omega
      go_wp2
      go_ret
      exact ⟨rfl, Below.refl _ _⟩
theorem dif_range {n : Int} {zs : List Int} (ho : Ok n zs) : ∀ x ∈ difZ n zs, 0 ≤ x ∧ x ≤ 1000 := by
  intro x hx
  unfold difZ at hx
  rw [List.mem_map] at hx
  obtain ⟨i, _, rfl⟩ := hx
  have := dif_le ho ((i : Nat) : Int)
  omega
theorem vec_range {n : Int} {zs : List Int} (ho : Ok n zs) : ∀ x ∈ vecZ n zs, 0 ≤ x ∧ x ≤ 1000 := by
  intro x hx
  unfold vecZ at hx
  rw [List.mem_map] at hx
  obtain ⟨j, _, rfl⟩ := hx
  have := dif_le ho ((j + 1 : Nat) : Int)
  split <;> omega
end Go.Proofs.Ytcppmcacjjjjeaa.Rhy
