/-
  Helpers of the claims beside this text: steps at valid rhythms: what the program answers, in the words that the law on steps wants.
-/
import Derived.Test.YtmlhpllppgcgkaaDoorLwb
import Derived.Test.YtmlhpllppgcgkaaDoorLwg
import Derived.Test.YtmlhpllppgcgkaaDoorStm
import Derived.Test.YtmlhpllppgcgkaaDoorStpFI
import Derived.Test.YtmlhpllppgcgkaaDoorStpE
import Derived.Test.YtmlhpllppgcgkaaDoorRtc
namespace Go.Proofs.YtmlhpllppgcgkaaDoor.Rhy
open Go.RowKit
set_option linter.unusedVariables false

/-- The least of a list of numbers below 99, told from 99 on. -/
def minF (l : List Int) : Int := l.foldl min 99
theorem minF_snoc {l : List Int} {k : Nat} {z : Int} (h : l[k]? = some z) : minF (l.take (k + 1)) = min (minF (l.take k)) z := by
  unfold minF
  rw [List.take_add_one, h]
  simp
theorem minF_all {l : List Int} (h : ∀ x ∈ l, 1 ≤ x ∧ x ≤ 24) (h0 : 0 < l.length) : minF l = minL l := by
  have key : ∀ k, k ≤ l.length → minF (l.take k) = if k = 0 then 99 else minP l k := by
    intro k
    induction k with
    | zero => intro _; simp [minF]
    | succ k ih =>
      intro hk
      have e := List.getElem?_eq_getElem (show k < l.length by omega)
      have hd : l.getD k 0 = l[k] := by rw [List.getD_eq_getElem?_getD, e]; rfl
      have hb := h _ (List.getElem_mem (show k < l.length by omega))
      rw [minF_snoc e, ih (by omega), if_neg (show ¬ (k + 1 = 0) by omega)]
      simp only [minP, hd]
      by_cases hk0 : k = 0
      · rw [if_pos hk0, if_pos (.inl hk0)]; omega
      · rw [if_neg hk0]
        by_cases q : l[k] < minP l k
        · rw [if_pos (.inr q)]; omega
        · rw [if_neg (by rintro (q2 | q2); exact hk0 q2; exact q q2)]; omega
  have := key l.length (Nat.le_refl _)
  rw [List.take_length, if_neg (by omega)] at this
  exact this
theorem sum_law (a : Option Addr) (n cap : Nat) (l : List Int) (w : World) (h : IntsAt w a n l) (hb : ∀ x ∈ l, 0 ≤ x ∧ x ≤ 1000) (hn : n ≤ 1000) :
    Calls Tryd.prog 13 #[.slice a n cap] w fun e w' => e = .returned (.int .i64 l.sum) ∧ Below w.heap.size w w' := by
  have HS := Lib.hid h
  have HBD := Lib.hid hb
  clear h hb
  have hsum : ∀ k, k ≤ l.length → 0 ≤ (l.take k).sum ∧ (l.take k).sum ≤ 1000 * k := by
    intro k
    induction k with
    | zero => intro _; simp
    | succ k ih =>
      intro hk
      have e := List.getElem?_eq_getElem (show k < l.length by omega)
      have hm := HBD.out _ (List.getElem_mem (show k < l.length by omega))
      have := ih (by omega)
      rw [sum_snoc e]
      omega
  have HSU := Lib.hid hsum
  clear hsum
  go_enter Tryd.func13, Tryd.ntmps13
  go_wp2
  go_loop [3, 8] (fun s i => ∃ k : Nat, k ≤ n ∧ i = .int .i64 k ∧ s = .int .i64 (l.take k).sum) (fun _ i => n - (intOf i).toNat)
  case atStart => exact ⟨0, by omega, rfl, by simp⟩
  case round =>
    obtain ⟨k, hk, rfl, rfl⟩ := hrel
    by_cases hlt : k < n
    · obtain ⟨g, o, z, rfl, la, hz, c1, z0, z1⟩ := HS.out.at hlt
      have e2 : (l.take (k + 1)).sum = (l.take k).sum + z := sum_snoc hz
      have h1 := HSU.out k (by have := HS.out.1; omega)
      have h2 := HSU.out (k + 1) (by have := HS.out.1; omega)
      have hwr : wrap64 ((l.take k).sum + z) = (l.take k).sum + z := by have := HS.out.1; unfold wrap64; omega
      have HE2 := Lib.hid e2
      clear hz e2 h1 h2
      go_wp2
      go_round
      case rel => exact ⟨k + 1, by omega, by go_num, by rw [HE2.out, hwr]⟩
      case measure => simp [intOf]; omega
    · have e : k = l.length := by have := HS.out.1; omega
      go_wp2
      go_ret
      exact ⟨rfl, Below.refl _ _⟩

theorem t_steps (n : Nat) (a : Option Addr) (cap : Nat) (zs l : List Int) (w : World) (h : IntsAt w a zs.length zs) (ho : Ok n zs) (hl : stB n zs = l) :
    Calls Tryd.prog 5 #[rhy n a zs.length cap] w fun e w' => ∃ b c, e = .returned (.slice b zs.length c) ∧ IntsAt w' b zs.length l ∧ Below w.heap.size w w' := by
  have hlen := stB_len_ok ho
  refine (steps_impl n a zs.length cap zs w h (by have := ok_len ho; omega)).mono ?_
  rintro e w' ⟨b, c, rfl, ho', hb⟩
  have hi := intsAt_own ho' (stB_int n zs)
  rw [hlen, hl] at hi
  rw [hlen]
  exact ⟨b, c, rfl, hi, hb⟩
/-- A cell of a list of integers. -/
theorem int_at {w : World} {g o n : Nat} {l : List Int} (h : IntsAt w (some ⟨g, o, none⟩) n l) {k : Nat} (hk : k < n) : w.cell? ⟨g, o + k, none⟩ = some (.int .i64 (l[k]?.getD 0)) := by
  obtain ⟨b, off, z, e, hb, hs, hc, _⟩ := h.at hk
  cases e
  rw [hs]
  exact hc
theorem addr_of {w : World} {a : Option Addr} {n : Nat} {l : List Int} (h : IntsAt w a n l) (hn : 0 < n) : ∃ g o, a = some ⟨g, o, none⟩ := by
  obtain ⟨b, off, z, e, _⟩ := h.at hn
  exact ⟨b, off, e⟩
theorem t_long (n : Nat) (a : Option Addr) (cap : Nat) (zs l : List Int) (m : Int) (w : World) (h : IntsAt w a zs.length zs) (ho : Ok n zs) (hl : stB n zs = l) (hm : maxL l = m) :
    Calls Tryd.prog 6 #[rhy n a zs.length cap] w fun e w' => e = .returned (.int .i64 m) ∧ Below w.heap.size w w' := by
  rw [← hm, ← hl]
  exact long_impl n a zs.length cap zs w h (by have := ok_len ho; omega)
theorem t_short (n : Nat) (a : Option Addr) (cap : Nat) (zs l : List Int) (m : Int) (w : World) (h : IntsAt w a zs.length zs) (ho : Ok n zs) (hl : stB n zs = l) (hm : minL l = m) :
    Calls Tryd.prog 19 #[rhy n a zs.length cap] w fun e w' => e = .returned (.int .i64 m) ∧ Below w.heap.size w w' := by
  rw [← hm, ← hl]
  exact short_impl n a zs.length cap zs w h (by have := ok_len ho; omega)
theorem t_rests (n : Nat) (a : Option Addr) (cap : Nat) (zs l : List Int) (m : Int) (w : World) (h : IntsAt w a zs.length zs) (ho : Ok n zs) (hl : stB n zs = l) (hm : restsL l = m) :
    Calls Tryd.prog 7 #[rhy n a zs.length cap] w fun e w' => e = .returned (.int .i64 m) ∧ Below w.heap.size w w' := by
  rw [← hm, ← hl, ← restsB_yes ho]
  exact rests_impl n a zs.length cap zs w h (by have := ok_len ho; omega)
theorem t_span (n : Nat) (a : Option Addr) (cap : Nat) (zs l : List Int) (i k : Nat) (m : Int) (w : World) (h : IntsAt w a zs.length zs) (ho : Ok n zs) (hl : stB n zs = l) (hi : i < l.length) (hk : k ≤ l.length) (hm : spanL l i k = m) :
    Calls Tryd.prog 17 #[rhy n a zs.length cap, .int .i64 i, .int .i64 k] w fun e w' => e = .returned (.int .i64 m) ∧ Below w.heap.size w w' := by
  have h24 := ok_len ho
  have hlen := stB_len_ok ho
  rw [hl] at hlen
  have := span_impl n a zs.length cap zs i k w h (by omega) (by omega) (by omega) (by omega) (by omega)
  have e : spanB n zs (i : Int) (k : Int) = m := by
    unfold spanB
    rw [hl, if_pos ⟨⟨by omega, by omega⟩, by omega, by omega⟩, ← hm]
    simp
  rwa [e] at this
theorem t_sizes (n : Nat) (a : Option Addr) (cap : Nat) (zs l z : List Int) (m : Nat) (w : World) (h : IntsAt w a zs.length zs) (ho : Ok n zs) (hl : stB n zs = l) (hz : ofZ 25 l = z) (hm : z.length = m) :
    Calls Tryd.prog 18 #[rhy n a zs.length cap] w fun e w' => ∃ b c, e = .returned (.slice b m c) ∧ IntsAt w' b m z ∧ Below w.heap.size w w' := by
  refine (sizes_impl n a zs.length cap zs w h (by have := ok_len ho; omega)).mono ?_
  rintro e w' ⟨b, c, rfl, ho', hb⟩
  have hi := intsAt_own ho' (sizeB_int n zs)
  have e : sizeB n zs = z := by unfold sizeB; rw [hl, hz]
  rw [e, hm] at hi
  rw [e, hm]
  exact ⟨b, c, rfl, hi, hb⟩
theorem t_spans (n : Nat) (a : Option Addr) (cap : Nat) (zs l z : List Int) (k m : Nat) (w : World) (h : IntsAt w a zs.length zs) (ho : Ok n zs) (hl : stB n zs = l) (h0 : 0 < l.length) (hk : k ≤ l.length) (hz : ofZ 577 (spansL l k l.length) = z) (hm : z.length = m) :
    Calls Tryd.prog 21 #[rhy n a zs.length cap, .int .i64 k] w fun e w' => ∃ b c, e = .returned (.slice b m c) ∧ IntsAt w' b m z ∧ Below w.heap.size w w' := by
  have h24 := ok_len ho
  have hlen := stB_len_ok ho
  rw [hl] at hlen
  refine (spans_impl n a zs.length cap zs k w h (by omega) (by omega) (by omega)).mono ?_
  rintro e w' ⟨b, c, rfl, ho', hb⟩
  have hi := intsAt_own ho' (spansB_int n zs k)
  have e : spansB n zs (k : Int) = z := by
    unfold spansB
    rw [hl, cZ_yes ⟨h0, by omega, by omega⟩, ← hz]
    simp
  rw [e, hm] at hi
  rw [e, hm]
  exact ⟨b, c, rfl, hi, hb⟩
theorem t_from (a : Option Addr) (cap : Nat) (zs l : List Int) (n : Nat) (f : Int) (w : World) (h : IntsAt w a zs.length l) (ho : Ok n zs) (hl : stB n zs = l) (h0 : 0 < zs.length) (hf : zs[0]?.getD 0 = f) :
    Calls Tryd.prog 10 #[.slice a zs.length cap, .int .i64 f] w (RetPost n zs true w) := by
  obtain ⟨hc, he⟩ := from_steps ho h0
  have hs := stB_sum ho h0
  rw [hl, hf] at hc he
  rw [hl] at hs
  have hf24 := hc.2.2.2
  have hz := ok_at ho (List.getElem?_eq_getElem h0)
  have hb : 0 ≤ f ∧ f ≤ 24 := by rw [← hf, List.getElem?_eq_getElem h0]; have := ho.1; simp; omega
  have h24 := ok_len ho
  have hlen := stB_len_ok ho
  rw [hl] at hlen
  refine (from_impl a zs.length cap l f w h (by omega) (by omega) (by omega)).mono fun e w' h => ?_
  have := cpost_open hc h
  rwa [hs, he] at this
theorem t_turn (n : Nat) (a : Option Addr) (cap : Nat) (zs t : List Int) (w : World) (h : IntsAt w a zs.length zs) (ho : Ok n zs) (h0 : 0 < zs.length) (ht : ofZ n (turnZ n zs) = t) :
    Calls Tryd.prog 11 #[rhy n a zs.length cap] w (RetPost n t true w) := by
  refine (turn_impl n a zs.length cap zs w h (by have := ok_len ho; omega)).mono fun e w' h => ?_
  rw [← ht]
  exact cpost_open ⟨ho, h0⟩ h
theorem t_mir (n : Nat) (a : Option Addr) (cap : Nat) (zs l : List Int) (w : World) (h : IntsAt w a zs.length zs) (ho : Ok n zs) (hl : rotZ n zs (-1) 0 = l) :
    Calls Tryd.prog 12 #[rhy n a zs.length cap] w (RetPost n l true w) := by
  refine (mir_impl n a zs.length cap zs w h (by have := ok_len ho; omega)).mono fun e w' h => ?_
  rw [← hl]
  exact cpost_open ho h
theorem t_arot (n : Nat) (a : Option Addr) (ca : Nat) (xs : List Int) (b : Option Addr) (cb : Nat) (ys : List Int) (w : World) (ha : IntsAt w a xs.length xs) (hb : IntsAt w b ys.length ys) (hx : Ok n xs) (hy : Ok n ys) (hr : ∃ k : Int, rotZ n xs 1 k = ys) :
    Calls Tryd.prog 15 #[rhy n a xs.length ca, rhy n b ys.length cb] w fun e w' => e = .returned (.bool true) ∧ Below w.heap.size w w' := by
  have := arot_impl n a xs.length ca xs n b ys.length cb ys w ha (by have := ok_len hx; omega) hb (by have := ok_len hy; omega)
  have e : arotB n xs n ys = true := by
    unfold arotB
    rw [rotToB_yes hx hy]
    unfold rotToW
    rw [if_pos rfl, decide_eq_true_iff]
    exact (rotTo_iff hx).2 hr
  rwa [e] at this
theorem t_cnt (n : Nat) (a : Option Addr) (cap : Nat) (zs : List Int) (r : Int) (w : World) (h : IntsAt w a zs.length zs) (ho : Ok n zs) (hr : (zs.length : Int) = r) :
    Calls Tryd.prog 16 #[rhy n a zs.length cap] w fun e w' => e = .returned (.int .i64 r) ∧ Below w.heap.size w w' := by
  have := count_impl n a zs.length cap zs w h (by have := ok_len ho; omega)
  rwa [countB_yes ho, hr] at this
theorem t_fmt (n : Nat) (a : Option Addr) (cap : Nat) (zs : List Int) (w : World) (h : IntsAt w a zs.length zs) (ho : Ok n zs) (h0 : zs.length = 0) (hF : Fact w) :
    Calls Tryd.prog 8 #[rhy n a zs.length cap] w fun e w' => e = .returned (.string ByteArray.empty) ∧ Below w.heap.size w w' := by
  have := fmtsteps_impl n a zs.length cap zs w h (by omega) hF
  have e : stepsText n zs = ByteArray.empty := by
    have hl : stB n zs = [] := List.eq_nil_of_length_eq_zero (by rw [stB_len_ok ho, h0])
    unfold stepsText
    rw [hl]
    rfl
  rwa [e] at this
theorem t_ok (n : Nat) (a : Option Addr) (cap : Nat) (zs : List Int) (w : World) (h : IntsAt w a zs.length zs) (ho : Ok n zs) :
    Calls Tryd.prog 9 #[rhy n a zs.length cap] w fun e w' => e = .returned (.bool true) ∧ Below w.heap.size w w' := by
  have HS := Lib.hid h
  have HO := Lib.hid ho
  have hl : zs.length ≤ 1048576 := by have := ok_len ho; omega
  clear h ho
  go_enter Tryd.func9, Tryd.ntmps9
  go_wp2_with fail
  refine (valid_yes n a zs.length cap zs _ (HS.out.below (bel1 w _)) hl HO.out).mono ?_
  rintro e w1 ⟨rfl, hb1⟩
  have HB := Lib.hid hb1
  clear hb1
  go_wp2
  go_ret
  exact ⟨rfl, (bel1 w _).trans (HB.out.mono (by simp))⟩
theorem t_same (a b : Option Addr) (ca cb : Nat) (l : List Int) (n : Nat) (w : World) (ha : IntsAt w a n l) (hb : IntsAt w b n l) (hn : n ≤ 1048576) :
    Calls Tryd.prog 20 #[.slice a n ca, .slice b n cb] w fun e w' => e = .returned (.bool true) ∧ Below w.heap.size w w' :=
  (same_law a b n ca cb l w ha hb hn).mono fun e w' h => ⟨h.1, by rw [← h.2]; exact Below.refl _ _⟩
/-- All that the law asks of a rhythm with beats. -/
theorem steps_all {n : Nat} {zs l : List Int} (ho : Ok n zs) (hl : stB n zs = l) (h0 : 0 < zs.length) :
    l.length = zs.length ∧ l.sum = n ∧ (∀ x ∈ l, 1 ≤ x ∧ x ≤ 24) ∧ (∀ i, i < l.length → spanL l i l.length = n) ∧ ofZ 577 (spansL l 1 l.length) = ofZ 25 l ∧ (ofZ 577 (spansL l l.length l.length)).length = 1 ∧ 0 < (ofZ 25 l).length ∧ (ofZ 25 l)[0]? = some (minL l) ∧ (ofZ 25 l)[(ofZ 25 l).length - 1]? = some (maxL l) ∧ minF l = minL l := by
  have hlen : l.length = zs.length := by rw [← hl, stB_len_ok ho]
  have hs : l.sum = n := by rw [← hl, stB_sum ho h0]
  have hb : ∀ x ∈ l, 1 ≤ x ∧ x ≤ 24 := by rw [← hl]; exact stB_bd n zs
  have hn := ho.1
  obtain ⟨f1, f2, f3⟩ := sizes_first hb (by omega)
  exact ⟨hlen, hs, hb, fun i hi => by rw [span_all l i hi, hs], spans_one hb, by rw [spans_all (by omega) (by omega)]; rfl, f1, f2, f3, minF_all hb (by omega)⟩
end Go.Proofs.YtmlhpllppgcgkaaDoor.Rhy
