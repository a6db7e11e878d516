/-
  Helpers of the claims beside this text: whether a rhythm has a beat: the program's method.
-/
import Derived.Test.YthcmpkhfimapgaaHas
namespace Go.Proofs.Ythcmpkhfimapgaa.Rhy
open Go.RowKit
set_option linter.unusedVariables false

theorem same_of {P : Program} {f : Nat} {args : Array Value} {w : World} {v : Value} (h : Calls P f args w fun e w' => e = .returned v ∧ w' = w) : Calls P f args w fun e w' => e = .returned v ∧ w = w' :=
  h.mono fun e w' ⟨he, hw⟩ => ⟨he, hw.symm⟩

theorem hasBeat_any (s : Int) (a : Option Addr) (len cap : Nat) (zs : List Int) (k : Int) (w : World) (h : IntsAt w a len zs) (hm : len ≤ 1048576) (h1 : 1 ≤ s) (h2 : s ≤ 24) (h3 : -9223372036854775808 ≤ k) (h4 : k ≤ 9223372036854775807) :
    Calls Try.prog 63 #[rhy s a len cap, .int .i64 k] w fun e w' => e = .returned (.bool (hasB zs (remB k s))) ∧ Below w.heap.size w w' := by
  have HS := Lib.hid h
  have HB := Lib.hid (remB_bd k s (by omega))
  clear h
  go_enter Try.func63, Try.ntmps63
  go_wp2
  obtain ⟨W0, HW⟩ : ∃ W0, Hid (W0 = w.alloc (.cells #[.int .i64 s, .slice a len cap] 26)) := ⟨_, Lib.hid rfl⟩
  have HT : Hid (Two W0 w.heap.size (.int .i64 s) (.slice a len cap)) := Lib.hid (by rw [HW.out]; exact two_new w _ _ _)
  have B0 : Hid (Below w.heap.size w W0) := Lib.hid (by rw [HW.out]; exact bel1 w _)
  rw [← HW.out]
  obtain ⟨t, ta, tb⟩ := HT.out
  have HK : Hid (∀ W, Below W0.heap.size W0 W → W.cell? ⟨w.heap.size, 0, none⟩ = some (.int .i64 s) ∧ W.cell? ⟨w.heap.size, 1, none⟩ = some (.slice a len cap) ∧ Below W0.heap.size W0 W) :=
    Lib.hid (fun W hW => ⟨(HT.out.keep hW).2.1, (HT.out.keep hW).2.2, hW⟩)
  go_region_held3 (fun w' => w'.cell? ⟨w.heap.size, 0, none⟩ = some (.int .i64 s) ∧ w'.cell? ⟨w.heap.size, 1, none⟩ = some (.slice a len cap) ∧ Below W0.heap.size W0 w')
    (first | exact HK.out _ (Below.refl _ _).drew)
    ((first
      | (go_at_call 52; refine (around_any k s _ h1 (by omega) h3 h4).mono ?_; rintro e w2 ⟨rfl, rfl⟩)
      | (go_at_call 84; refine (same_of (contains_any a len cap zs _ _ ((HS.out.below B0.out).below (Below.refl _ _).drew) (by omega))).mono ?_; rintro e w3 ⟨rfl, rfl⟩)))
  rename_i hh
  have hb := hh.2.2
  clear hh HK
  go_wp2
  go_ret
  exact ⟨rfl, B0.out.trans (hb.mono B0.out.size)⟩
end Go.Proofs.Ythcmpkhfimapgaa.Rhy
