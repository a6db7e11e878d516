/-
  Helpers of the claims beside this text: twins at valid rhythms: what the program answers, in the words that the law on twins wants.
-/
import Derived.Test.YtjgjcppkbfojpaaIvx
import Derived.Test.YtjgjcppkbfojpaaTwm
import Derived.Test.YtjgjcppkbfojpaaTwn
import Derived.Test.YtjgjcppkbfojpaaFmt
namespace Go.Proofs.Ytjgjcppkbfojpaa.Rhy
open Go.RowKit
set_option linter.unusedVariables false
set_option linter.unusedSimpArgs false

theorem v_tws (n : Nat) (a : Option Addr) (cap : Nat) (zs : List Int) (P : List (List Int)) (w : World) (h : IntsAt w a zs.length zs) (ho : Ok n zs) (h12 : n ≤ 12) (hP : twZ n zs = P) :
    Calls Try.prog 24 #[rhy n a zs.length cap] w fun e w' => ∃ b c q L, e = .returned (.slice b q c) ∧ L.length = q ∧ q ≤ 4096 ∧ ItemsAt w' (.slice b q c) L ∧ vals L = P.map (fun x => ((n : Int), x)) ∧ Below w.heap.size w w' := by
  refine (twinsOf_impl n a zs.length cap zs w h (by have := ok_len ho; omega)).mono ?_
  rintro e w' ⟨b, c, L, rfl, hit, hv, hb⟩
  have e1 : twinsB n zs = P := by rw [twinsB_yes ⟨ho, by omega⟩, hP]
  rw [e1] at hit hv
  rw [e1]
  have hl : L.length = P.length := by have := vals_len hv; rwa [List.length_map] at this
  have hp : P.length ≤ 4096 := by
    rw [← hP]
    exact Nat.le_trans (twJ_len n zs _) (Nat.pow_le_pow_right (by omega) h12)
  refine ⟨b, c, P.length, L, rfl, hl, hp, hit.at fun i r hr => ?_, hv, hb⟩
  have := vals_at hv hr
  rw [List.getElem?_map] at this
  obtain ⟨x, hx, hxe⟩ := Option.map_eq_some_iff.1 this
  have hxm : r.zs = x := (Prod.mk.inj hxe).2.symm
  rw [hxm]
  exact ok_int (tw_facts ho (by rw [hP]; exact List.mem_of_getElem? hx)).1
theorem v_form (n : Nat) (a : Option Addr) (cap : Nat) (zs l : List Int) (w : World) (h : IntsAt w a zs.length zs) (ho : Ok n zs) (hl : formZ n zs = l) :
    Calls Try.prog 25 #[rhy n a zs.length cap] w (RetPost n l true w) := by
  refine (form_impl n a zs.length cap zs w h (by have := ok_len ho; omega)).mono fun e w' h => ?_
  rw [← hl]
  exact cpost_open ho h
theorem v_afor_no (n : Nat) (a : Option Addr) (ca : Nat) (xs : List Int) (b : Option Addr) (cb : Nat) (ys : List Int) (w : World) (ha : IntsAt w a xs.length xs) (hb : IntsAt w b ys.length ys) (hx : Ok n xs) (hy : Ok n ys) (hf : ¬ Form n xs ys) :
    Calls Try.prog 27 #[rhy n a xs.length ca, rhy n b ys.length cb] w fun e w' => e = .returned (.bool false) ∧ Below w.heap.size w w' := by
  have := afor_impl n a xs.length ca xs n b ys.length cb ys w ha (by have := ok_len hx; omega) hb (by have := ok_len hy; omega)
  have e : aforB n xs n ys = false := by
    cases hh : aforB n xs n ys with
    | false => rfl
    | true => exact absurd ((afor_form hx hy).1 hh) hf
  rwa [e] at this
theorem v_fmt (n : Nat) (a : Option Addr) (cap : Nat) (zs : List Int) (t : ByteArray) (w : World) (h : IntsAt w a zs.length zs) (ho : Ok n zs) (ht : fmtT n zs = t) :
    Calls Try.prog 28 #[rhy n a zs.length cap] w fun e w' => e = .returned (.string t) ∧ Below w.heap.size w w' := by
  have := fmt_impl n a zs.length cap zs w h (by have := ok_len ho; omega)
  rwa [fmtB_yes ho, show ((n : Int)).toNat = n by omega, ht] at this
theorem leq_no {n : Nat} {xs ys : List Int} {A B : ByteArray} (hA : fmtT n xs = A) (hB : fmtT n ys = B) (h : valB n ys < valB n xs) : (Op.bytesLess A.toList B.toList || A.toList == B.toList) = false := by
  have h1 := text_after n xs ys
  rw [after_iff.2 h, hA, hB] at h1
  cases hh : (Op.bytesLess A.toList B.toList || A.toList == B.toList) with
  | false => rfl
  | true => rw [hh] at h1; cases h1
/-- Two items of a list of twins, one behind the other. -/
theorem tw_item {n : Nat} {zs : List Int} {L : List Item} (ho : Ok n zs) (hv : vals L = (twZ n zs).map (fun x => ((n : Int), x))) {i : Nat} {r : Item} (hr : L[i]? = some r) : r.s = n ∧ (twZ n zs)[i]? = some r.zs := by
  have := vals_at hv hr
  rw [List.getElem?_map] at this
  obtain ⟨x, hx, hxe⟩ := Option.map_eq_some_iff.1 this
  obtain ⟨e1, e2⟩ := Prod.mk.inj hxe
  exact ⟨e1.symm, by rw [hx, e2]⟩
theorem tw_two {n : Nat} {zs x y : List Int} {i : Nat} (hy : (twZ n zs)[i]? = some y) (hx : (twZ n zs)[i + 1]? = some x) : valB n x < valB n y := by
  have hp := tw_pair n zs
  obtain ⟨h1, e1⟩ := List.getElem?_eq_some_iff.1 hy
  obtain ⟨h2, e2⟩ := List.getElem?_eq_some_iff.1 hx
  have := List.pairwise_iff_getElem.1 hp i (i + 1) h1 h2 (by omega)
  rwa [e1, e2] at this
/-! an interval and its other way -/
theorem bet_nonneg {n : Nat} {zs : List Int} (ho : Ok n zs) {P Q d : Int} (hd : betB n zs P Q = d) : decide (0 ≤ d) = (hasB zs P && hasB zs Q) := by
  by_cases h : P ∈ zs ∧ Q ∈ zs
  · rw [betB_yes ⟨ho, h.1, h.2⟩] at hd
    have hb := remB_bd (P - Q) n (by have := ho.1; omega)
    rw [hasB_mem.2 h.1, hasB_mem.2 h.2]
    simp
    omega
  · rw [betB_no (fun q => h q.2)] at hd
    have e : (hasB zs P && hasB zs Q) = false := by
      cases h1 : hasB zs P with
      | false => rfl
      | true => cases h2 : hasB zs Q with
        | false => rfl
        | true => exact absurd ⟨hasB_mem.1 h1, hasB_mem.1 h2⟩ h
    rw [e, ← hd]
    rfl
theorem bet_both {n : Nat} {zs : List Int} (ho : Ok n zs) {P Q d : Int} (hp : hasB zs P = true) (hq : hasB zs Q = true) (hd : betB n zs P Q = d) : betB n zs Q P = d ∧ 0 ≤ d ∧ 2 * d ≤ n := by
  have h1 := hasB_mem.1 hp
  have h2 := hasB_mem.1 hq
  rw [betB_yes ⟨ho, h1, h2⟩] at hd
  rw [betB_yes ⟨ho, h2, h1⟩]
  have hb := remB_bd (P - Q) n (by have := ho.1; omega)
  have hb2 := remB_bd (Q - P) n (by have := ho.1; omega)
  have e : remB (Q - P) n = (n - remB (P - Q) n) % n := by
    unfold remB
    rw [sub_em, show (n : Int) - (P - Q) = (Q - P) + n by omega, Int.add_emod_right]
  by_cases h0 : remB (P - Q) n = 0
  · rw [h0, Int.sub_zero, Int.emod_self] at e
    omega
  · rw [Int.emod_eq_of_lt (by omega) (by omega)] at e
    omega
/-- An array that a list of numbers was laid into. -/
theorem ints_laid (w : World) (l : List Int) (h : AllInt l) (hl : 0 < l.length) : IntsAt (w.alloc (.cells (l.map (Value.int .i64)).toArray 3)) (some ⟨w.heap.size, 0, none⟩) l.length l := by
  refine ⟨rfl, h, fun _ => ⟨w.heap.size, 0, rfl, by simp, fun j z hj => ?_⟩⟩
  rw [Nat.zero_add, cell_of_row _ _ _ _ _ _ (heap_alloc_new w _)]
  simp [hj]
/-! what the walk wants -/
theorem rhAt_in {w' : World} {n : Nat} {a : Option Addr} {cap : Nat} {zs : List Int} (h : IntsAt w' a zs.length zs) : RhAt (putR w' n a zs.length cap) w'.heap.size n a cap zs :=
  ⟨putR_box _ _ _ _ _, h.below (putR_below _ _ _ _ _)⟩
theorem items_addr {w : World} {b : Option Addr} {q c : Nat} {L : List Item} (h : ItemsAt w (.slice b q c) L) (hL : 0 < L.length) : ∃ g o, b = some ⟨g, o, none⟩ := by
  obtain ⟨a, cap, e, _, hx⟩ := h
  obtain ⟨g, o, e2, _⟩ := hx hL
  rw [e2] at e
  exact ⟨g, o, (Value.slice.inj e).1⟩
theorem item_at {w : World} {g o q c : Nat} {L : List Item} (h : ItemsAt w (.slice (some ⟨g, o, none⟩) q c) L) {i : Nat} {r : Item} (hi : L[i]? = some r) :
    w.cell? ⟨g, o + i * 2, none⟩ = some (.int .i64 r.s) ∧ w.cell? ⟨g, o + i * 2 + 1, none⟩ = some (.slice r.a r.zs.length r.cap) ∧ IntsAt w r.a r.zs.length r.zs := by
  obtain ⟨a, cap, e, _, hx⟩ := h
  obtain ⟨g', o', e2, _, hc⟩ := hx (by have := (List.getElem?_eq_some_iff.1 hi).1; omega)
  have e3 := (Value.slice.inj e).1
  rw [e2] at e3
  cases e3
  exact hc i r hi
theorem vec_not {n : Nat} {xs ys : List Int} (hx : Ok n xs) (hy : Ok n ys) (hl : xs.length = ys.length) (hv : vecZ n xs = vecZ n ys) : vecZ n (notZ n xs) = vecZ n (notZ n ys) := by
  refine List.ext_getElem? fun j => ?_
  by_cases h : j < ((n : Int)).toNat / 2
  · have e := congrArg (fun l : List Int => l[j]?) hv
    simp only [vec_at h, Option.some.injEq] at e ⊢
    have d1 := dif_not hx ((j + 1 : Nat) : Int)
    have d2 := dif_not hy ((j + 1 : Nat) : Int)
    by_cases hh : 2 * (j + 1) = ((n : Int)).toNat
    · rw [if_pos hh, if_pos hh] at e ⊢
      omega
    · rw [if_neg hh, if_neg hh] at e ⊢
      omega
  · rw [List.getElem?_eq_none (by rw [vec_len]; omega), List.getElem?_eq_none (by rw [vec_len]; omega)]

end Go.Proofs.Ytjgjcppkbfojpaa.Rhy
