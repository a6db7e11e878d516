/-
  Helpers of the claims beside this text: patterns on a line: the program's entries.
-/
import Derived.Test.YtldpikcgeijkpaaLnd
import Derived.Test.YtldpikcgeijkpaaIvs
namespace Go.Proofs.Ytldpikcgeijkpaa.Rhy
open Go.RowKit Go.Maps
set_option linter.unusedVariables false
set_option linter.unusedSimpArgs false
set_option maxRecDepth 100000

theorem fst_snoc (es : List Nat) (t k : Nat) : fstN es t (k + 1) = fstN es t k ++ [k / es.length * t + es[k % es.length]?.getD 0] := by simp [fstN, List.range_succ]
set_option maxHeartbeats 400000 in
theorem lfst_impl (es : List Nat) (b : Option Addr) (cc t : Nat) (g : Bool) (c : Nat) (w : World) (hi : IntsAt w b es.length (zsN es)) (h0 : 0 < es.length) (h12 : es.length ≤ 12) (hm : ∀ e ∈ es, e ≤ 24) (ht : t ≤ 24) (hc : c ≤ 40) :
    Calls Try.prog 73 #[.agg #[.slice b es.length cc, .int .i64 t, .bool g], .int .i64 c] w (IPost (zsN (fstN es t c)) w) := by
  have HS := Lib.hid hi
  have HM := Lib.hid hm
  clear hi hm
  obtain ⟨n, hn⟩ : ∃ n, es.length = n := ⟨_, rfl⟩
  have HNE := Lib.hid hn
  rw [hn] at h0 h12 HS ⊢
  clear hn
  obtain ⟨W0, HW⟩ : ∃ W0, Hid (W0 = w.alloc (.cells #[.slice b n cc, .int .i64 t, .bool g] 85)) := ⟨_, Lib.hid rfl⟩
  have HB0 : Hid (Below w.heap.size w W0) := Lib.hid (by rw [HW.out]; exact bel1 w _)
  have HBX : Hid (BxC W0 w.heap.size (.slice b n cc) t g) := Lib.hid (by rw [HW.out]; exact bx3_new w _ _ _ _)
  have hz0 : W0.heap.size = w.heap.size + 1 := by rw [HW.out]; simp
  have HZ0 := Lib.hid hz0
  clear hz0
  go_enter Try.func73, Try.ntmps73
  go_wp2
  rw [← HW.out]
  go_loopw [5, 9] (fun v i wr => ∃ k : Nat, k ≤ c ∧ i = .int .i64 (k : Nat) ∧ VecAt (zsN (fstN es t k)) W0 wr v) (fun _ i _ => c - (intOf i).toNat)
  case atStart => exact ⟨0, by omega, rfl, vec_nil W0⟩
  case round =>
    obtain ⟨k, hk, rfl, ⟨av, cv, rfl, hown, hnx, hsz⟩⟩ := hrel
    obtain ⟨P, hP⟩ : ∃ P, zsN (fstN es t k) = P := ⟨_, rfl⟩
    rw [hP] at hown ⊢
    have HPP := Lib.hid hP
    have HPN : Hid (P.length = k) := Lib.hid (by rw [← hP, zsN_len, fst_len])
    have HPL : P.length ≤ 1048577 := by have := HPN.out; omega
    have HOW := Lib.hid hown
    have HXX := Lib.hid hnx
    have HZ := Lib.hid hsz
    clear hown hnx hsz hP
    have HBR := Lib.hid (HBX.out.keep HXX.out HBX.out.lt)
    obtain ⟨b0, b1, b2, f0, f1, f2⟩ := HBR.out.facts
    have hblt := HBR.out.lt
    have HI := Lib.hid (HS.out.below (HB0.out.trans (HXX.out.mono (by have := HZ0.out; omega))))
    by_cases hlt : k < c
    · obtain ⟨Q, hQ⟩ : ∃ Q, k / n = Q := ⟨_, rfl⟩
      obtain ⟨R, hR⟩ : ∃ R, k % n = R := ⟨_, rfl⟩
      have hQb : Q ≤ 40 := by rw [← hQ]; exact Nat.le_trans (Nat.div_le_self _ _) (by omega)
      have hRn : R < n := by rw [← hR]; exact Nat.mod_lt _ h0
      obtain ⟨gb, off, z, rfl, hb, hs, hcc, hz1, hz2⟩ := HI.out.at hRn
      obtain ⟨x, hxk, rfl⟩ := zsN_at hs
      have hx24 : x ≤ 24 := HM.out x (List.mem_of_getElem? hxk)
      obtain ⟨QT, hQT⟩ : ∃ QT, Q * t = QT := ⟨_, rfl⟩
      have hQTb : QT ≤ 960 := by rw [← hQT]; exact Nat.le_trans (Nat.mul_le_mul hQb ht) (by omega)
      have HT : Hid (zsN (fstN es t (k + 1)) = P ++ [((QT + x : Nat) : Int)]) := Lib.hid (by rw [fst_snoc, zsN_snoc, HPP.out, HNE.out, hQ, hR, hQT, hxk]; rfl)
      have hq1 : (k : Int) / (n : Int) = (Q : Int) := by rw [← hQ]; simp
      have hr1 : (k : Int) % (n : Int) = (R : Int) := by rw [← hR]; simp
      have hm1 : (Q : Int) * (t : Int) = (QT : Int) := by rw [← hQT]; simp
      have hn0 : ((n : Int) == 0) = false := by simp; omega
      have hne : ¬ n = 0 := by omega
      have hr2 : (k : Int).tmod (n : Int) = (R : Int) := by rw [Int.tmod_eq_emod_of_nonneg (by omega)]; exact hr1
      have hw1 : IntKind.i64.wrap (QT : Int) = (QT : Int) := IntWalk.i64_in _ ⟨by omega, by omega⟩
      have hw2 : IntKind.i64.wrap ((QT : Int) + (x : Int)) = (QT : Int) + (x : Int) := IntWalk.i64_in _ ⟨by omega, by omega⟩
      clear hQ hR hQT hs hxk
      go_wp2
      go_region_law ((refine step_append_int rfl _ _ rfl W0.heap.size _ P ((QT : Int) + (x : Int)) wr.drew (own_below HOW.out (Below.refl _ _).drew) HPL HZ.out _ rfl rfl rfl ?_; intro a' c' w' hown' hb'; have HO2 := Lib.hid hown'; have HX2 := Lib.hid hb'; clear hown' hb'))
      all_goals go_wp2
      all_goals go_roundw
      all_goals first
        | (refine ⟨k + 1, by omega, by go_num, ?_⟩
           rw [HT.out]
           have := vec_snoc HXX.out HZ.out HO2.out ((Below.refl W0.heap.size wr).drew.trans HX2.out)
           simpa using this)
        | (simp [intOf]; omega)
    · have hkc : k = c := by omega
      subst hkc
      go_wp2
      go_ret
      rw [HPP.out]
      exact ⟨av, cv, rfl, own_base HOW.out (by have := HZ0.out; omega), HB0.out.trans (HXX.out.mono (by have := HZ0.out; omega))⟩
end Go.Proofs.Ytldpikcgeijkpaa.Rhy
