/-
  Helpers of the claims beside this text: patterns on a line: the model's least period, and the answers of both sides.
-/
import Derived.Test.YtldpikcgeijkpaaLne
import Derived.Test.YtldpikcgeijkpaaHas
namespace Go.Proofs.Ytldpikcgeijkpaa.Rhy
open Go.RowKit Go.Maps
set_option linter.unusedVariables false
set_option linter.unusedSimpArgs false
set_option maxRecDepth 100000

def allN (es : List Nat) (q p k : Nat) : Bool := (es.take k).all fun e => es.contains ((e + q) % p)
theorem allN_snoc {es : List Nat} {q p k e : Nat} (h : es[k]? = some e) : allN es q p (k + 1) = (allN es q p k && es.contains ((e + q) % p)) := by
  unfold allN
  rw [List.take_add_one, h, List.all_append]
  simp
theorem has_zsN (es : List Nat) (n : Nat) : hasB (zsN es) (n : Int) = es.contains n := by
  unfold hasB
  rw [Bool.eq_iff_iff, List.contains_iff_mem, List.contains_iff_mem, zsN_has]
set_option maxHeartbeats 400000 in
theorem lls_spec (es : List Nat) (p : Nat) (b : Option Addr) (n c : Nat) (w : World) (hi : IntsAt w b n (zsN es)) (hn : n ≤ 12) (hm : ∀ e ∈ es, e ≤ 24) (hp : p ≤ 24) (hl : ∀ q, 0 < q → q < p → p % q = 0 → ∃ e ∈ es, ¬ (e + q) % p ∈ es) :
    Calls Try.prog 75 #[.int .i64 p, .slice b n c] w fun e w' => e = .returned (.tuple #[.int .i64 p, .slice b n c]) ∧ Below w.heap.size w w' := by
  have HS := Lib.hid hi
  have HM := Lib.hid hm
  have HL := Lib.hid hl
  have HN : Hid (es.length = n) := Lib.hid (by rw [← hi.1, zsN_len])
  clear hi hm hl
  go_enter Try.func75, Try.ntmps75
  go_wp2
  go_loopw [6] (fun i wr => ∃ q : Nat, 0 < q ∧ i = .int .i64 (q : Nat) ∧ q ≤ p + 1 ∧ Below w.heap.size w wr) (fun i _ => p + 1 - (intOf i).toNat)
  case atStart => exact ⟨1, by omega, rfl, by omega, Below.refl _ _⟩
  case round =>
    obtain ⟨q, hq0, rfl, hq, hnx⟩ := hrel
    have HX := Lib.hid hnx
    have hxs := hnx.size
    clear hnx
    by_cases hlt : q < p
    · have hq1 : ((q : Int) == 0) = false := by simp; omega
      obtain ⟨R, hR⟩ : ∃ R, p % q = R := ⟨_, rfl⟩
      have hr1 : (p : Int) % (q : Int) = (R : Int) := by rw [← hR]; simp
      by_cases hz : R = 0
      · have HNO := Lib.hid (HL.out q hq0 hlt (by rw [hR]; exact hz))
        have hr2 : (p : Int) % (q : Int) = 0 := by rw [hr1, hz]; rfl
        clear hR hz hr1
        obtain ⟨wo, rfl⟩ : ∃ wo : World, wo = wr := ⟨_, rfl⟩
        go_wp2
        rw [hr2]
        clear hr2
        go_loopw [7, 8, 23] (fun gd v i wr => ∃ (k : Nat) (F : List Int), k ≤ n ∧ i = .int .i64 (k : Nat) ∧ gd = .bool (allN es q p k) ∧ F.length ≤ k ∧ VecAt F wo wr v) (fun _ _ i _ => n - (intOf i).toNat)
        case atStart => exact ⟨0, [], by omega, rfl, rfl, by simp, vec_made wo⟩
        case round =>
          obtain ⟨k, F, hk, rfl, rfl, hF, ⟨av, cv, rfl, hown, hnx, hsz⟩⟩ := hrel
          have HOW := Lib.hid hown
          have HXX := Lib.hid hnx
          have HZ := Lib.hid hsz
          clear hown hnx hsz
          have HI := Lib.hid (HS.out.below (HX.out.trans (HXX.out.mono (by omega))))
          have hFl : F.length ≤ 1048577 := by omega
          by_cases hkn : k < n
          · obtain ⟨gb, off, z, rfl, hb, hs, hcc, hz1, hz2⟩ := HI.out.at hkn
            obtain ⟨x, hxk, rfl⟩ := zsN_at hs
            have hx24 : x ≤ 24 := HM.out x (List.mem_of_getElem? hxk)
            obtain ⟨Y, hY⟩ : ∃ Y, (x + q) % p = Y := ⟨_, rfl⟩
            have hy1 : ((x : Int) + (q : Int)) % (p : Int) = (Y : Int) := by rw [← hY]; simp
            have hp0 : ((p : Int) == 0) = false := by simp; omega
            have hYp : Y < p := by rw [← hY]; exact Nat.mod_lt _ (by omega)
            have HAL : Hid (allN es q p (k + 1) = (allN es q p k && hasB (zsN es) (Y : Int))) := Lib.hid (by rw [allN_snoc hxk, hY, has_zsN])
            clear hs hxk hY
            cases hgd : allN es q p k with
            | true =>
              rw [hgd, Bool.true_and] at HAL
              clear hgd
              by_cases hxq : x < q
              · go_wp2_with (first
                  | (go_at_call 91; refine (has_any _ n c (zsN es) (Y : Int) _ HI.out (by omega)).mono ?_; rintro e w' ⟨rfl, rfl⟩)
                  | (at_builtin; refine append_int rfl _ _ rfl wo.heap.size _ F _ _ HOW.out hFl HZ.out _ rfl rfl rfl ?_; intro a' c' w' hown' hb'; have HO2 := Lib.hid hown'; have HX2 := Lib.hid hb'; clear hown' hb'))
                go_roundw
                case rel => exact ⟨k + 1, F ++ [(x : Int)], by omega, by go_num, by rw [HAL.out], by simp; omega, by have := vec_snoc HXX.out HZ.out HO2.out HX2.out; simpa using this⟩
                case measure => simp [intOf]; omega
              · go_wp2_with (go_at_call 91; refine (has_any _ n c (zsN es) (Y : Int) _ HI.out (by omega)).mono ?_; rintro e w' ⟨rfl, rfl⟩)
                go_roundw
                case rel => exact ⟨k + 1, F, by omega, by go_num, by rw [HAL.out], by omega, ⟨av, cv, rfl, HOW.out, HXX.out, HZ.out⟩⟩
                case measure => simp [intOf]; omega
            | false =>
              rw [hgd, Bool.false_and] at HAL
              clear hgd
              by_cases hxq : x < q
              · go_wp2_with (at_builtin; refine append_int rfl _ _ rfl wo.heap.size _ F _ _ HOW.out hFl HZ.out _ rfl rfl rfl ?_; intro a' c' w' hown' hb'; have HO2 := Lib.hid hown'; have HX2 := Lib.hid hb'; clear hown' hb')
                go_roundw
                case rel => exact ⟨k + 1, F ++ [(x : Int)], by omega, by go_num, by rw [HAL.out], by simp; omega, by have := vec_snoc HXX.out HZ.out HO2.out HX2.out; simpa using this⟩
                case measure => simp [intOf]; omega
              · go_wp2
                go_roundw
                case rel => exact ⟨k + 1, F, by omega, by go_num, by rw [HAL.out], by omega, ⟨av, cv, rfl, HOW.out, HXX.out, HZ.out⟩⟩
                case measure => simp [intOf]; omega
          · have hgf : allN es q p k = false := by
              obtain ⟨e, he, hno⟩ := HNO.out
              unfold allN
              rw [List.take_of_length_le (by have := HN.out; omega), List.all_eq_false]
              exact ⟨e, he, by simpa using hno⟩
            rw [hgf]
            clear hgf
            go_wp2
            go_roundw
            case rel => exact ⟨q + 1, by omega, by go_num, by omega, HX.out.trans (HXX.out.mono (by omega))⟩
            case measure => simp [intOf]; omega
      · have hr0 : ((R : Int) != 0) = true := by simp [hz]
        clear hR hz
        go_wp2
        go_roundw
        case rel => exact ⟨q + 1, by omega, by go_num, by omega, HX.out⟩
        case measure => simp [intOf]; omega
    · go_wp2
      go_ret2
      exact ⟨rfl, HX.out⟩
end Go.Proofs.Ytldpikcgeijkpaa.Rhy
