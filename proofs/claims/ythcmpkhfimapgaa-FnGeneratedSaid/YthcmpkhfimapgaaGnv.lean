/-
  Helpers of the claims beside this text: generated rhythms at valid rhythms: what the program answers, in the words that the law wants.
-/
import Derived.Test.YthcmpkhfimapgaaGpe
import Derived.Test.YthcmpkhfimapgaaGpt
import Derived.Test.YthcmpkhfimapgaaGng
import Derived.Test.YthcmpkhfimapgaaDrw
import Derived.Test.YthcmpkhfimapgaaRhd
import Derived.Test.YthcmpkhfimapgaaEva
namespace Go.Proofs.Ythcmpkhfimapgaa.Rhy
open Go.RowKit
set_option linter.unusedVariables false

theorem v_gcd (a b d : Nat) (w : World) (ha : a ≤ 1000) (hb : b ≤ 1000) (hd : Nat.gcd a b = d) :
    Calls Try.prog 15 #[.int .i64 a, .int .i64 b] w fun e w' => e = .returned (.int .i64 (d : Nat)) ∧ Below w.heap.size w w' := by
  subst hd
  go_enter Try.func15, Try.ntmps15
  go_wp2
  go_loop [0, 1] (fun x y => ∃ p q : Nat, p ≤ 1000 ∧ q ≤ 1000 ∧ x = .int .i64 p ∧ y = .int .i64 q ∧ Hid (Nat.gcd p q = Nat.gcd a b)) (fun _ y => (intOf y).toNat)
  case atStart => exact ⟨a, b, ha, hb, rfl, rfl, Lib.hid rfl⟩
  case round =>
    obtain ⟨p, q, hp, hq, rfl, rfl, HG⟩ := hrel
    by_cases h0 : 0 < q
    · have HM : Hid (Nat.gcd q (p % q) = Nat.gcd a b) := Lib.hid (by rw [← HG.out, Nat.gcd_comm q (p % q), ← Nat.gcd_rec, Nat.gcd_comm])
      have HL := Lib.hid (Nat.mod_lt p h0)
      go_wp2
      go_round
      case rel => exact ⟨q, p % q, by omega, by have := HL.out; omega, rfl, by simp, HM⟩
      case measure => have := HL.out; simp [intOf]; omega
    · have e : q = 0 := by omega
      subst e
      go_wp2
      go_ret
      exact ⟨ret_int (by rw [← HG.out]; simp), Below.refl _ _⟩
theorem v_lhas (a : Option Addr) (len cap : Nat) (zs : List Int) (x : Int) (r : Bool) (w : World) (h : IntsAt w a len zs) (hm : len ≤ 1048576) (hr : hasB zs x = r) :
    Calls Try.prog 21 #[.slice a len cap, .int .i64 x] w fun e w' => e = .returned (.bool r) ∧ Below w.heap.size w w' := by
  subst hr
  have HS := Lib.hid h
  clear h
  go_enter Try.func21, Try.ntmps21
  go_wp2
  go_loop [9] (fun i => ∃ (k : Nat), k ≤ len ∧ i = .int .i64 k ∧ Hid (∀ j, j < k → zs[j]? ≠ some x)) (fun i => len - (intOf i).toNat)
  case atStart => exact ⟨0, by omega, rfl, Lib.hid (fun j hj => by omega)⟩
  case round =>
    obtain ⟨k, hk, rfl, HN⟩ := hrel
    by_cases hlt : k < len
    · obtain ⟨b, off, z, rfl, hb, hs, hc, hz1, hz2⟩ := HS.out.at hlt
      by_cases he : z = x
      · have HB := Lib.hid (has_of zs x k (by rw [← he]; exact hs))
        have hq : (z == x) = true := by simpa using he
        clear he hs
        go_wp2
        go_ret
        exact ⟨ret_bool HB.out.symm, Below.refl _ _⟩
      · have HM : Hid (∀ j, j < k + 1 → zs[j]? ≠ some x) := Lib.hid (fun j hj => by
          by_cases e : j = k
          · rw [e, hs]; exact fun q => he (Option.some.inj q)
          · exact HN.out j (by omega))
        have hq : (z == x) = false := by simpa using he
        clear he hs
        go_wp2
        go_round
        case rel => exact ⟨k + 1, by omega, by go_num, HM⟩
        case measure => simp [intOf]; omega
    · have HB := Lib.hid (has_not zs x (fun j hj => HN.out j (by have := HS.out.1; omega)))
      go_wp2
      go_ret
      exact ⟨ret_bool HB.out.symm, Below.refl _ _⟩

theorem v_gen_yes (n k g : Nat) (l : List Int) (w : World) (hn : n ≤ 24) (hk : k ≤ 24) (hg : g ≤ 24) (hC : GenC n k g) (hl : genZ n k g = l) :
    Calls Try.prog 14 #[.int .i64 n, .int .i64 k, .int .i64 g] w (RetPost n l true w) := by
  subst hl
  exact (gen_impl n k g w (by omega) (by omega) (by omega) (by omega) (by omega) (by omega)).mono fun e w' h => cpost_open hC h
theorem v_gen_no (n k g : Nat) (w : World) (hn : n ≤ 24) (hk : k ≤ 24) (hg : g ≤ 24) (hC : ¬ GenC n k g) :
    Calls Try.prog 14 #[.int .i64 n, .int .i64 k, .int .i64 g] w (RetPost 0 [] false w) :=
  (gen_impl n k g w (by omega) (by omega) (by omega) (by omega) (by omega) (by omega)).mono fun e w' h => cpost_shut hC h
theorem v_rots (n : Nat) (a : Option Addr) (cap : Nat) (zs l : List Int) (k : Int) (w : World) (h : IntsAt w a zs.length zs) (ho : Ok n zs) (h1 : -1000 ≤ k) (h2 : k ≤ 1000) (hl : rotZ n zs 1 k = l) :
    Calls Try.prog 17 #[rhy n a zs.length cap, .int .i64 k] w (RetPost n l true w) := by
  refine (rot_spec n a zs.length cap zs k w h (by have := ok_len ho; omega) (by omega) (by omega)).mono fun e w' h => ?_
  rw [← hl]
  exact cpost_open ⟨ho, h1, h2⟩ h
/-- A list of numbers that a call answers with. -/
def LPost (l : List Int) (w : World) (e : Ending) (w' : World) : Prop := ∃ b c, e = .returned (.slice b l.length c) ∧ IntsAt w' b l.length l ∧ Below w.heap.size w w'
theorem ipost_l {l : List Int} {w w' : World} {e : Ending} (hi : AllInt l) (h : IPost l w e w') : LPost l w e w' := by
  obtain ⟨a, cap, rfl, ho, hb⟩ := h
  exact ⟨a, cap, rfl, intsAt_own ho hi, hb⟩
theorem v_gens (n : Nat) (a : Option Addr) (cap : Nat) (zs l : List Int) (w : World) (h : IntsAt w a zs.length zs) (ho : Ok n zs) (hl : gnB n zs = l) :
    Calls Try.prog 18 #[rhy n a zs.length cap] w (LPost l w) := by
  subst hl
  exact (gens_impl n a zs.length cap zs w h (by have := ok_len ho; omega)).mono fun e w' h => ipost_l (gnB_int _ _) h
theorem v_chn (n : Nat) (a : Option Addr) (cap : Nat) (zs l : List Int) (g : Nat) (w : World) (h : IntsAt w a zs.length zs) (ho : Ok n zs) (hg : g ≤ 24) (hl : chB n zs g = l) :
    Calls Try.prog 19 #[rhy n a zs.length cap, .int .i64 g] w (LPost l w) := by
  subst hl
  exact (chn_impl n a zs.length cap zs g w h (by have := ok_len ho; omega) (by omega) (by omega)).mono fun e w' h => ipost_l (chB_int _ _ _) h
theorem v_isgen (n : Nat) (a : Option Addr) (cap : Nat) (zs : List Int) (r : Bool) (w : World) (h : IntsAt w a zs.length zs) (ho : Ok n zs) (hr : isgB n zs = r) :
    Calls Try.prog 22 #[rhy n a zs.length cap] w fun e w' => e = .returned (.bool r) ∧ Below w.heap.size w w' := by
  subst hr
  exact isgen_impl n a zs.length cap zs w h (by have := ok_len ho; omega)
theorem v_csz (n : Nat) (a : Option Addr) (cap : Nat) (zs : List Int) (q : Nat) (w : World) (h : IntsAt w a zs.length zs) (ho : Ok n zs) (hq : (sizeB n zs).length = q) :
    Calls Try.prog 23 #[rhy n a zs.length cap] w fun e w' => e = .returned (.int .i64 (q : Nat)) ∧ Below w.heap.size w w' := by
  subst hq
  exact csz_impl n a zs.length cap zs w h (by have := ok_len ho; omega)
theorem v_ssz (n : Nat) (a : Option Addr) (cap : Nat) (zs : List Int) (r : Bool) (w : World) (h : IntsAt w a zs.length zs) (ho : Ok n zs) (hr : smB (sizeB n zs) = r) :
    Calls Try.prog 24 #[rhy n a zs.length cap] w fun e w' => e = .returned (.bool r) ∧ Below w.heap.size w w' := by
  subst hr
  exact ssz_impl n a zs.length cap zs w h (by have := ok_len ho; omega)
theorem v_ext_yes (n : Nat) (a : Option Addr) (cap : Nat) (zs l : List Int) (g : Nat) (w : World) (h : IntsAt w a zs.length zs) (ho : Ok n zs) (hg : g ≤ 24) (hC : exC n zs g) (hl : exZ n zs g = l) :
    Calls Try.prog 26 #[rhy n a zs.length cap, .int .i64 g] w (RetPost n l true w) := by
  subst hl
  exact (ext_impl n a zs.length cap zs g w h (by have := ok_len ho; omega) (by omega) (by omega)).mono fun e w' h => cpost_open hC h
theorem v_ext_no (n : Nat) (a : Option Addr) (cap : Nat) (zs : List Int) (g : Nat) (w : World) (h : IntsAt w a zs.length zs) (ho : Ok n zs) (hg : g ≤ 24) (hC : ¬ exC n zs g) :
    Calls Try.prog 26 #[rhy n a zs.length cap, .int .i64 g] w (RetPost 0 [] false w) :=
  (ext_impl n a zs.length cap zs g w h (by have := ok_len ho; omega) (by omega) (by omega)).mono fun e w' h => cpost_shut hC h
theorem v_tsc (n g : Nat) (l : List Int) (w : World) (hn : n ≤ 24) (hg : g ≤ 24) (hl : tsB n g = l) :
    Calls Try.prog 28 #[.int .i64 n, .int .i64 g] w (LPost l w) := by
  subst hl
  exact (tsc_impl n g w (by omega) (by omega) (by omega) (by omega)).mono fun e w' h => ipost_l (tsB_int _ _) h
theorem v_even (n k : Nat) (l : List Int) (w : World) (hn : 1 ≤ n ∧ n ≤ 24) (hk : k ≤ n) (hl : evZ k n 0 = l) :
    Calls Try.prog 29 #[.int .i64 k, .int .i64 n] w (RetPost n l true w) := by
  subst hl
  exact (even_impl k n w (by omega) (by omega) (by omega) (by omega)).mono fun e w' h => cpost_open (by unfold EvC; omega) h
theorem v_hts (n : Nat) (a : Option Addr) (cap : Nat) (zs : List Int) (r : Bool) (w : World) (h : IntsAt w a zs.length zs) (ho : Ok n zs) (hr : htB n zs = r) :
    Calls Try.prog 30 #[rhy n a zs.length cap] w fun e w' => e = .returned (.bool r) ∧ Below w.heap.size w w' := by
  subst hr
  exact hts_impl n a zs.length cap zs w h (by have := ok_len ho; omega)
theorem v_sizes (n : Nat) (a : Option Addr) (cap : Nat) (zs l : List Int) (w : World) (h : IntsAt w a zs.length zs) (ho : Ok n zs) (hl : sizeB n zs = l) :
    Calls Try.prog 31 #[rhy n a zs.length cap] w (LPost l w) := by
  subst hl
  exact (sizes_impl n a zs.length cap zs w h (by have := ok_len ho; omega)).mono fun e w' h => ipost_l (sizeB_int _ _) h
end Go.Proofs.Ythcmpkhfimapgaa.Rhy
