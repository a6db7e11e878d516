/-
  Helpers of the claims beside this text: CountAvoiding and FirstAvoiding of the program.
-/
import Derived.Test.YtpbceckbmalabaaOcd
namespace Go.Proofs.Ytpbceckbmalabaa.Rhy
open Go.RowKit
set_option linter.unusedVariables false
set_option linter.unusedSimpArgs false
set_option maxRecDepth 100000

theorem arec_yes (n d k : Int) (w : World) (h : CoC n d k) : Calls Try.prog 51 #[.int .i64 n, .int .i64 d, .int .i64 k] w fun e w' => e = .returned (.bool true) ∧ w = w' := by
  have HD : Hid (1 ≤ d ∧ d < n) := Lib.hid (by have := h.2.1; omega)
  have HR : Hid (EvC k n) := Lib.hid ⟨by have := h.1; omega, by have := h.1; omega, h.2.2.1, h.2.2.2⟩
  have hn : n ≤ 16 := h.1.2
  clear h
  go_enter Try.func51, Try.ntmps51
  go_wp2_with fail
  refine (isint_yes d n _ HD.out.1 HD.out.2).mono ?_
  rintro e w' ⟨rfl, rfl⟩
  go_wp2_with fail
  refine (room_yes k n _ HR.out).mono ?_
  rintro e w' ⟨rfl, rfl⟩
  go_wp2
  go_ret
  exact ⟨rfl, rfl⟩
theorem arec_no (n d k : Int) (w : World) (h : ¬ CoC n d k) : Calls Try.prog 51 #[.int .i64 n, .int .i64 d, .int .i64 k] w fun e w' => e = .returned (.bool false) ∧ w = w' := by
  by_cases hn : n ≤ 16
  · by_cases hd : 1 ≤ d ∧ d < n
    · have HD := Lib.hid hd
      have HR : Hid (¬ EvC k n) := Lib.hid (fun x => h ⟨by omega, by omega, x.2.2.1, x.2.2.2⟩)
      clear h hd
      go_enter Try.func51, Try.ntmps51
      go_wp2_with fail
      refine (isint_yes d n _ HD.out.1 HD.out.2).mono ?_
      rintro e w' ⟨rfl, rfl⟩
      go_wp2_with fail
      refine (room_no k n _ HR.out).mono ?_
      rintro e w' ⟨rfl, rfl⟩
      go_wp2
      go_ret
      exact ⟨rfl, rfl⟩
    · have HD := Lib.hid hd
      clear h hd
      go_enter Try.func51, Try.ntmps51
      go_wp2_with fail
      refine (isint_no d n _ HD.out).mono ?_
      rintro e w' ⟨rfl, rfl⟩
      go_wp2
      go_ret
      exact ⟨rfl, rfl⟩
  · clear h
    go_enter Try.func51, Try.ntmps51
    go_wp2
    go_ret
    exact ⟨rfl, rfl⟩

/-- What the iterator over the avoiding rhythms captured. -/
theorem avd_at {W0 w1 : World} {n d c : Nat} (hw1 : w1 = ((W0.alloc (.cells #[.int .i64 n] 3)).alloc (.cells #[.int .i64 d] 3)).alloc (.cells #[.int .i64 c] 3)) :
    w1.cell? ⟨W0.heap.size, 0, none⟩ = some (.int .i64 n) ∧ w1.cell? ⟨W0.heap.size + 1, 0, none⟩ = some (.int .i64 d) ∧ w1.cell? ⟨W0.heap.size + 2, 0, none⟩ = some (.int .i64 c) ∧ Below W0.heap.size W0 w1 ∧ w1.heap.size = W0.heap.size + 3 := by
  have h1 := (((Boxed.new W0 3 (.int .i64 n)).alloc (.cells #[.int .i64 d] 3)).alloc (.cells #[.int .i64 c] 3)).cell
  have h2 := ((Boxed.new (W0.alloc (.cells #[.int .i64 n] 3)) 3 (.int .i64 d)).alloc (.cells #[.int .i64 c] 3)).cell
  have h3 := (Boxed.new ((W0.alloc (.cells #[.int .i64 n] 3)).alloc (.cells #[.int .i64 d] 3)) 3 (.int .i64 c)).cell
  rw [World.size_alloc] at h2
  rw [World.size_alloc, World.size_alloc] at h3
  subst hw1
  exact ⟨h1, h2, h3, (bel2 W0 _ _).trans ((bel1 _ _).mono (by simp; omega)), by simp⟩

attribute [local go_sem] Oper.semAt_some wide_fn wide_depth in_fn in_depth

set_option maxHeartbeats 600000 in
theorem coa_impl (n d k : Int) (w : World) (h1 : -9223372036854775808 ≤ n) (h2 : n ≤ 9223372036854775807) (h3 : -9223372036854775808 ≤ d) (h4 : d ≤ 9223372036854775807) (h5 : -9223372036854775808 ≤ k) (h6 : k ≤ 9223372036854775807) :
    Calls Try.prog 18 #[.int .i64 n, .int .i64 d, .int .i64 k] w fun e w' => e = .returned (.int .i64 (coaB n d k)) ∧ Below w.heap.size w w' := by
  by_cases hc : CoC n d k
  · obtain ⟨N, rfl⟩ : ∃ N : Nat, n = N := ⟨n.toNat, by have := hc.1; omega⟩
    obtain ⟨D, rfl⟩ : ∃ D : Nat, d = D := ⟨d.toNat, by have := hc.2.1; omega⟩
    obtain ⟨C, rfl⟩ : ∃ C : Nat, k = C := ⟨k.toNat, by have := hc.2.2; omega⟩
    have HC := Lib.hid hc
    obtain ⟨L, hL⟩ : ∃ L, avdL N D C = L := ⟨_, rfl⟩
    have hn16 : N ≤ 16 := by have := hc.1; omega
    have hn2 : 2 ≤ N := by have := hc.1; omega
    have hd1 : 1 ≤ D := by have := hc.2.1; omega
    have hdn : D < N := by have := hc.2.1; omega
    have hcn : C ≤ N := by have := hc.2.2; omega
    have hLl : L.length = cntV N D C := by rw [← hL]; exact avdL_len ⟨hd1, hdn⟩
    have HV : Hid (coaB N D C = (L.length : Nat)) := Lib.hid (by rw [coaB_yes hc, Int.toNat_natCast, Int.toNat_natCast, Int.toNat_natCast, cntF_is ⟨hn2, hn16⟩ ⟨hd1, hdn⟩ hcn, hLl])
    have hl6 : L.length ≤ 65536 := by
      rw [hLl]
      have e1 := cntM_le N D C (2 ^ N)
      have e2 : 2 ^ N ≤ 2 ^ 16 := Nat.pow_le_pow_right (by omega) hn16
      have e3 : (2 : Nat) ^ 16 = 65536 := rfl
      show cntM N D C (2 ^ N) ≤ 65536
      omega
    have HL := Lib.hid hL
    clear hc hL hLl
    rw [HV.out]
    refine (callsIn_wide (n := 9)).1 ?_
    refine callsIn_of_wp_marks Try.func18 rfl trivial ?_ rfl
    simp only [Try.ntmps18, List.size_toArray, List.length_cons, List.length_nil, Nat.reduceAdd, Nat.reduceSub, Array.replicate_succ, Array.replicate_zero, List.push_toArray, List.append_toArray, List.nil_append, List.cons_append]
    gi_wp2_with fail
    refine (callsIn_wide.2 (arec_yes N D C _ HC.out)).mono ?_
    rintro e w' ⟨rfl, rfl⟩
    gi_wp2_with fail
    obtain ⟨W0, hW0⟩ : ∃ W0, W0 = w.alloc (.cells #[.int .i64 0] 3) := ⟨_, rfl⟩
    rw [← hW0]
    have HB0 := Lib.hid (show Below w.heap.size w W0 by rw [hW0]; exact bel1 w _)
    have HK0 := Lib.hid (show Boxed W0 w.heap.size 3 (.int .i64 0) by rw [hW0]; exact Boxed.new w _ _)
    have hz0 : w.heap.size + 1 ≤ W0.heap.size := by rw [hW0]; simp
    clear hW0
    refine (callsIn_wide.2 (avd_any N D C W0)).mono ?_
    rintro e w1 ⟨rfl, hw1⟩
    obtain ⟨x1, x2, x3, hbw, hs1⟩ := avd_at hw1
    have hgv := avd_gives N D C w1 W0.heap.size (by omega) hn16 (by omega) (by omega) w.heap.size (by omega) x1 x2 x3 (by omega)
    rw [HL.out] at hgv
    have HGV := Lib.hid hgv
    have hz1 : W0.heap.size + 3 ≤ w1.heap.size := by omega
    have HB1 : Hid (Below w.heap.size w w1) := Lib.hid (HB0.out.trans (hbw.mono (by omega)))
    have HK1 : Hid (Boxed w1 w.heap.size 3 (.int .i64 ((0 : Nat) : Int))) := Lib.hid ((hbw.block _ (by omega)).trans HK0.out)
    clear hw1 x1 x2 x3 hbw hs1 hgv
    gi_wp2
    refine wp_rangeS (n := w.heap.size) (lo := W0.heap.size) (hi := W0.heap.size + 3) (sz := N) (L := L) (by omega) rfl enters_avd HGV.out (by omega) (by omega)
      (fun j Wr => Boxed Wr w.heap.size 3 (.int .i64 ((j : Nat) : Int)) ∧ Below w.heap.size w Wr ∧ w1.heap.size ≤ Wr.heap.size)
      (fun _ _ _ => False) ?hI (fun _ _ _ _ _ hs _ _ => hs.elim) ⟨HK1.out, HB1.out, Nat.le_refl _⟩
      (fun ax lx cx b => { tmps := #[.int .i64 N, .int .i64 D, .int .i64 C, undef, undef, undef, .int .i64 0, .pointer (some ⟨w.heap.size, 0, none⟩), .int .i64 N, .int .i64 D, .int .i64 C, .bool true, .bool false, .int .i64 N, .int .i64 D, .int .i64 C,
          .func (.func 78) #[] #[.pointer (some ⟨W0.heap.size, 0, none⟩), .pointer (some ⟨W0.heap.size + 2, 0, none⟩), .pointer (some ⟨W0.heap.size + 1, 0, none⟩)], rhy N ax lx cx, undef, undef, undef], defers := [] })
      (fun _ _ _ _ _ => True) (fun _ _ _ _ _ _ _ _ _ _ _ _ => trivial) ?assign ?body ?done ?stop
    case hI =>
      intro s A B row hs hg hr
      refine ⟨(hg.block _ (by have := hs.2.2; omega) (fun e => by have := (hr _ e.symm).1; omega)).trans hs.1, hs.2.1.grown hg (by have := hs.2.2; omega) (fun r e => by have := (hr r e).1; omega), by have := hg.size; have := hs.2.2; omega⟩
    case assign =>
      intro q2 ax lx cx Wr K hK
      gi_wp2
      exact hK _ Wr.heap.size (Below.refl _ _) (Nat.le_refl _) trivial
    case body =>
      rintro q2 j X ax cx b U Wb hX ⟨hbk, hbl, hz⟩ hU hUW hb hbx hown
      have hj := at_lt hX
      have hUz := hUW.size
      have HBK : Hid (Boxed Wb w.heap.size 3 (.int .i64 ((j : Nat) : Int))) := Lib.hid ((hUW.block _ (by omega)).trans hbk)
      have HBL := Lib.hid (hbl.trans (hUW.mono (by omega)))
      have c0 := HBK.out.cell
      have c1 := HBK.out.frozen
      clear hX hbk hbl hUW hbx hown
      gi_wp2
      refine ⟨(KeepsOthers.setCell _ _ _).from _, Kp.set Wb w.heap.size (Nat.le_refl _) (Or.inl (by omega)) 0 _, (Same.refl _ _ _).setCell w.heap.size (Or.inl (by omega)) 0 _, ?_, HBL.out.setCell (Nat.le_refl _) _, by simp; omega⟩
      have := HBK.out.set (.int .i64 ((j : Int) + 1))
      simpa using this
    case done =>
      rintro E Wd hE ⟨hbk, hbl, hz⟩ hK
      have HBL := Lib.hid hbl
      have c0 := hbk.cell
      clear hbk hbl
      gi_wp2
      refine leave_mark _ hK (results_tmp rfl _ _ _) ⟨rfl, ?_⟩
      exact HBL.out.grown (grownBy_putObj' Wd E _) (by omega) (fun j e => by cases e; omega)
    case stop =>
      rintro E cd j Wd _ _ hx _
      exact hx.elim
  · have HC := Lib.hid hc
    have HE := Lib.hid (coaB_no hc)
    clear hc
    rw [HE.out]
    refine (callsIn_wide (n := 9)).1 ?_
    refine callsIn_of_wp_marks Try.func18 rfl trivial ?_ rfl
    simp only [Try.ntmps18, List.size_toArray, List.length_cons, List.length_nil, Nat.reduceAdd, Nat.reduceSub, Array.replicate_succ, Array.replicate_zero, List.push_toArray, List.append_toArray, List.nil_append, List.cons_append]
    gi_wp2_with fail
    refine (callsIn_wide.2 (arec_no n d k _ HC.out)).mono ?_
    rintro e w' ⟨rfl, rfl⟩
    gi_wp2
    exact ⟨_, results_tmp rfl _ _ _, rfl, Below.refl _ _⟩
end Go.Proofs.Ytpbceckbmalabaa.Rhy
