/-
  'CountPartners' of the program answers, at every rhythm, as its model does and leaves its argument as it was. No condition.
-/
import Derived.Test.YtgmhdmhnedljcaaLcp
import Derived.Conc.LeavingOf
import Derived.Conc.Holds
import Derived.ProofKit
namespace Go.Proofs.Ytgmhdmhnedljcaa.fnExactCountPartners
open Go.ChangeShapes Go.WideShapes Go.ChangeAt Go.RowKit Rhy
open Go.Conc
set_option linter.unusedVariables false
set_option linter.unusedSimpArgs false

set_option maxRecDepth 100000 in
theorem sda : Try.prog.follows .staticDataAhead = true := by rfl
def plainL : List FuncId := [6, 7, 8, 10, 11, 12, 13, 14, 15, 17, 19, 20, 21, 22, 23, 24, 26, 27, 28, 29, 30, 31, 32, 34, 35, 36, 37] ++ (List.range 26).map (· + 39)
set_option maxRecDepth 100000 in
theorem plainAll : Co.PlainFns Try.prog (plainL.contains ·) := Co.plainFns_list plainL sda (by decide +kernel)

set_option maxRecDepth 100000 in
theorem lifted (os : Os) (started : os.Started) (H : Type) (enc : TypeId × Value → H) :
    ReturnsInLeavingWide {} Try.checked os 4 .any (Rows.fnExactCountPartnersSpec.pre6 enc Try.prog Try.f4 Rows.fnExactCountPartnersRow.domain false) (Rows.fnExactCountPartnersSpec.post enc Try.prog Try.f4 false true false false) := by
  refine returnsInLeavingWide_of_change_sized (C := Try.checked) own started Try.func4
    (ChangeSpec.witness6 (enc := enc) (C := Try.checked) false ⟨#[], #[.agg #[.int .i64 0, .slice none 0 0]], []⟩ 8 (by kernel_rfl) (by kernel_rfl) (by kernel_rfl) (by kernel_rfl)) ?_
  intro W base args ds gs before hval0 hW hcnd _ _
  have hval : ∀ (j : Nat) t v, Try.f4.params[j]? = some t → args[j]? = some v → Value.okWide Try.prog W .any base t v := hval0
  have hW' := hW
  obtain ⟨p, q, hA0, hV, rfl, hfz, hnd⟩ := hW
  have hA : DataW.TrodAll enc Try.prog W 0 (fun _ => true) true Try.f4.params.toList args.toList ds p := hA0
  rw [Try.params4] at hA hval
  obtain ⟨v0, vs0, d0, ds0, p0, q0, hargs, rfl, rfl, h0, r0⟩ := trodAll_cons hA
  obtain ⟨rfl, rfl, rfl⟩ := trodAll_nil r0
  obtain rfl : args = #[v0] := by cases args; simp_all
  obtain ⟨rfl, rfl⟩ := trodVars_none hV
  have k0 := h0
  have lt0 : ∀ x ∈ p0, x.block < W.heap.size := by obtain ⟨m, hm⟩ := k0; exact DataW.trod_lt m _ _ _ hm
  obtain ⟨s0, a0, len0, cap0, z0, rfl, w0⟩ := opened (hval 0 24 v0 rfl rfl) h0
  clear hA0 hval0
  have hrun := Co.run_solo (Co.cou_walk (Post := fun v W' => Rows.fnExactCountPartnersSpec.post enc Try.prog Try.f4 false true false false W #[rhy s0 a0 len0 cap0] v W') plainAll (by decide +kernel) (by decide +kernel) (by decide +kernel) (by decide +kernel) (by decide +kernel) (by decide +kernel)
    s0 a0 len0 cap0 z0 W w0 (Co.noPend _) (fun r hr => absurd (Co.no_step r) hr) (fun fr W' hS hk hT _ => Co.run_end (by kernel_rfl) hS (fun v d hv => by
      subst hv
      have bel : Below W.heap.size W (W'.at d) := ⟨hk.os, hT, hk.output, hk.size, hk.block⟩
      exact ⟨_, _, _, [], _, [], hW', trodAll_mk1 (shut_bool Try.underlying4 _), (trodAll_cons_mk (Below.trod laidOut (by kernel_rfl) (of_decide_eq_true (by kernel_rfl)) k0 bel lt0) trodAll_mk0), rfl, bel.frame _, fun h => by cases h⟩)))
  obtain ⟨N, last, o, w', t', h1, h2, h3, h4⟩ := hrun
  exact ⟨N, last, o, w', t', h1, h2, h3, h4⟩

theorem proved : Rows.FnExactCountPartnersSaid :=
  OpenClaim.holds_of_wide_leaving 4 Try.f4 rfl rfl rfl rfl rfl rfl rfl ⟨rfl, rfl, rfl, rfl, rfl⟩ rfl rfl rfl rfl rfl (by kernel_rfl) Try.func4 (by kernel_rfl)
    (of_decide_eq_true (by kernel_rfl)) (by unfold Func.isWrapper; rw [if_neg (of_decide_eq_false (by kernel_rfl))]; exact ⟨rfl, rfl⟩)
    (fun os started H enc _ => lifted os started H enc)
#print axioms proved
end Go.Proofs.Ytgmhdmhnedljcaa.fnExactCountPartners
