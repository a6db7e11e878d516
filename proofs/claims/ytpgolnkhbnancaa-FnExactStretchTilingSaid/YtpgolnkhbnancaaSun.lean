/-
  Helpers of the claims beside this text: the law on stretched tilings: its regions that draw.
-/
import Derived.Test.YtpgolnkhbnancaaLwy
import Derived.Test.YtpgolnkhbnancaaSul
namespace Go.Proofs.Ytpgolnkhbnancaa.Rhy
open Go.RowKit
set_option linter.unusedVariables false
set_option linter.unusedSimpArgs false

theorem Row.hi {w : World} {lo hi : Nat} {a : Option Addr} {n cap : Nat} {l : List Int} (h : Row w lo hi a n cap l) : Row w lo w.heap.size a n cap l := ⟨h.1, fun k e => Nat.lt_of_lt_of_le (h.2.1 k e) h.2.2, Nat.le_refl _⟩
theorem row_put {w : World} {lo hi : Nat} {a : Option Addr} {n cap : Nat} {l : List Int} {u v : Value} (h : Row w lo hi a n cap l) {N : Nat} (hd : N < lo ∨ hi ≤ N) :
    Row ((w.setCell ⟨N, 0, none⟩ u).setCell ⟨N, 1, none⟩ v) lo hi a n cap l :=
  h.within (((Within.refl N (N + 1) w).setCell N ⟨Nat.le_refl _, by omega⟩ 0 u).setCell N ⟨Nat.le_refl _, by omega⟩ 1 v) (by omega)
/-- What both answer, in the words of the law. -/
noncomputable def stlS (s : Int) (xs : List Int) (t : Int) (ys : List Int) (k : Int) : Int := cS (StC s xs t ys k) (k * s)
noncomputable def stlX (s : Int) (xs : List Int) (t : Int) (ys : List Int) (k : Int) : List Int := cZ (StC s xs t ys k) (widL k.toNat 1 xs)
noncomputable def stlY (s : Int) (xs : List Int) (t : Int) (ys : List Int) (k : Int) : List Int := cZ (StC s xs t ys k) (widL k.toNat k.toNat ys)
noncomputable def stlB (s : Int) (xs : List Int) (t : Int) (ys : List Int) (k : Int) : Bool := cB (StC s xs t ys k)
theorem st_ok {s : Int} {xs : List Int} {t : Int} {ys : List Int} {k : Int} (h : StC s xs t ys k) : ∃ q kk : Nat, s = q ∧ k = kk ∧ Ok q xs ∧ Ok q ys ∧ 1 ≤ kk ∧ kk * q ≤ 24 := by
  obtain ⟨⟨⟨h1, h2, h3⟩, _⟩, h4, h5⟩ := h
  have hs := h1.1
  refine ⟨s.toNat, k.toNat, by omega, by omega, ?_, ?_, by omega, ?_⟩
  · rw [show ((s.toNat : Nat) : Int) = s by omega]; exact h1
  · rw [show ((s.toNat : Nat) : Int) = s by omega, h3]; exact h2
  · have e1 : ((k.toNat : Nat) : Int) = k := by omega
    have e2 : ((s.toNat : Nat) : Int) = s := by omega
    have : ((k.toNat * s.toNat : Nat) : Int) ≤ 24 := by rw [Int.natCast_mul, e1, e2]; exact h5
    omega
theorem st_x (s : Int) (xs : List Int) (t : Int) (ys : List Int) (k : Int) : AllInt (stlX s xs t ys k) ∧ (stlX s xs t ys k).length ≤ 576 := by
  unfold stlX
  by_cases h : StC s xs t ys k
  · rw [cZ_yes h]
    obtain ⟨q, kk, rfl, rfl, h1, h2, h3, h4⟩ := st_ok h
    rw [Int.toNat_natCast]
    exact ⟨wid_int h1 h3 h4 h3, wid_few h1 h3 h4 h3⟩
  · rw [cZ_no h]
    exact ⟨fun z hz => (by cases hz), by simp⟩
theorem st_y (s : Int) (xs : List Int) (t : Int) (ys : List Int) (k : Int) : AllInt (stlY s xs t ys k) ∧ (stlY s xs t ys k).length ≤ 576 := by
  unfold stlY
  by_cases h : StC s xs t ys k
  · rw [cZ_yes h]
    obtain ⟨q, kk, rfl, rfl, h1, h2, h3, h4⟩ := st_ok h
    rw [Int.toNat_natCast]
    exact ⟨wid_int h2 h3 h4 (Nat.le_refl _), wid_few h2 h3 h4 (Nat.le_refl _)⟩
  · rw [cZ_no h]
    exact ⟨fun z hz => (by cases hz), by simp⟩
theorem st_spec (s : Int) (a : Option Addr) (n ca : Nat) (xs : List Int) (t : Int) (b : Option Addr) (m cb : Nat) (ys : List Int) (k : Int) (w : World) (ha : IntsAt w a n xs) (hn : xs.length ≤ 1048576) (hb : IntsAt w b m ys) (hm : ys.length ≤ 1048576) (hk1 : -9223372036854775808 ≤ k) (hk2 : k ≤ 9223372036854775807) :
    Calls Try.prog 52 #[rhy s a n ca, rhy t b m cb, .int .i64 k] w (Ret2Post (stlS s xs t ys k) (stlX s xs t ys k) (stlS s xs t ys k) (stlY s xs t ys k) (stlB s xs t ys k) w) :=
  stt_spec s a n ca xs t b m cb ys k w ha hn hb hm hk1 hk2
theorem st_impl (s : Int) (a : Option Addr) (n ca : Nat) (xs : List Int) (t : Int) (b : Option Addr) (m cb : Nat) (ys : List Int) (k : Int) (w : World) (ha : IntsAt w a n xs) (hn : xs.length ≤ 1048576) (hb : IntsAt w b m ys) (hm : ys.length ≤ 1048576) (hk1 : -9223372036854775808 ≤ k) (hk2 : k ≤ 9223372036854775807) :
    Calls Try.prog 53 #[rhy s a n ca, rhy t b m cb, .int .i64 k] w (Ret2Post (stlS s xs t ys k) (stlX s xs t ys k) (stlS s xs t ys k) (stlY s xs t ys k) (stlB s xs t ys k) w) :=
  stt_impl s a n ca xs t b m cb ys k w ha hn hb hm hk1 hk2

set_option maxHeartbeats 16000000 in
set_option maxRecDepth 100000 in
theorem stl8 (ab bb : Nat) (s0 : Int) (a0 : Option Addr) (len0 cap0 : Nat) (z0 : List Int) (s1 : Int) (a1 : Option Addr) (len1 cap1 : Nat) (z1 : List Int) (k RS : Int) (L0 L1 : List Int) (RB : Bool) (w0 W : World) {K : Act → World → Prop} {u0 u1 u5 u6 u7 u8 u9 u10 u11 u12 u13 u14 u15 u16 u17 u18 u19 u20 u21 u22 u23 u24 u25 u26 u27 u28 u29 u30 u31 u32 u33 u34 u35 u36 u37 u38 u39 u40 u41 u42 u43 u44 u45 u46 u47 u48 u49 u50 u51 u52 u53 u54 u55 u56 u57 u58 u59 u60 u61 u62 u63 u64 u65 u66 u67 u68 u69 u70 u71 u72 u73 u74 u75 u76 u77 u78 u79 u80 u81 u82 u83 u84 u85 u86 u87 u88 u89 u90 u91 u92 u93 u94 u95 u96 u97 u98 u99 u100 u101 u102 u103 u104 u105 u106 u107 u108 u109 u110 u111 u112 u113 u114 u115 u116 u117 u118 u119 u120 u121 u122 u123 u124 u125 u126 u127 u128 u129 u130 u131 u132 u133 u134 u135 u136 u137 u138 u139 u140 u141 u142 u143 u144 u145 u146 u147 u148 u149 u150 u151 u152 u153 u154 u155 u156 u157 u158 u159 u160 : Value}
    (hta : Two W ab (.int .i64 s0) (.slice a0 len0 cap0)) (htb : Two W bb (.int .i64 s1) (.slice a1 len1 cap1)) (hi0 : IntsAt W a0 len0 z0) (hi1 : IntsAt W a1 len1 z1) (hl0 : len0 ≤ 1048576) (hl1 : len1 ≤ 1048576) (hz0 : AllInt z0) (hz1 : AllInt z1)
    (hcl : ∀ (p0 : Option Addr) (c0 : Nat) (p1 : Option Addr) (c1 : Nat) (w : World), IntsAt w p0 z0.length z0 → IntsAt w p1 z1.length z1 → Calls Try.prog 52 #[rhy s0 p0 z0.length c0, rhy s1 p1 z1.length c1, .int .i64 k] w (Ret2Post RS L0 RS L1 RB w))
    (hK : ∀ (x32 x33 x34 x35 x36 x37 x38 x39 x40 x41 : Value) (g0 g1 : Nat) (b0 b1 : Option Addr) (e0 e1 : Nat) (w' : World), Two w' g0 (.int .i64 RS) (.slice b0 L0.length e0) → Two w' g1 (.int .i64 RS) (.slice b1 L1.length e1) → Row w' W.heap.size w'.heap.size b0 L0.length e0 L0 → Row w' W.heap.size w'.heap.size b1 L1.length e1 L1 → Below W.heap.size W w' → K ({ tmps := #[u0, u1, .int .i64 k, .pointer (some ⟨ab, 0, none⟩), .pointer (some ⟨bb, 0, none⟩), u5, u6, u7, .pointer (some ⟨g0, 0, none⟩), .pointer (some ⟨g1, 0, none⟩), .bool RB, u11, u12, u13, u14, u15, u16, u17, u18, u19, u20, u21, u22, u23, u24, u25, u26, u27, u28, u29, u30, u31, x32, x33, x34, x35, x36, x37, x38, x39, x40, x41, u42, u43, u44, u45, u46, u47, u48, u49, u50, u51, u52, u53, u54, u55, u56, u57, u58, u59, u60, u61, u62, u63, u64, u65, u66, u67, u68, u69, u70, u71, u72, u73, u74, u75, u76, u77, u78, u79, u80, u81, u82, u83, u84, u85, u86, u87, u88, u89, u90, u91, u92, u93, u94, u95, u96, u97, u98, u99, u100, u101, u102, u103, u104, u105, u106, u107, u108, u109, u110, u111, u112, u113, u114, u115, u116, u117, u118, u119, u120, u121, u122, u123, u124, u125, u126, u127, u128, u129, u130, u131, u132, u133, u134, u135, u136, u137, u138, u139, u140, u141, u142, u143, u144, u145, u146, u147, u148, u149, u150, u151, u152, u153, u154, u155, u156, u157, u158, u159, u160], defers := [] } : Act) w') :
    Code.wp Try.prog (rgOf Try.f13 8) (Exit.then K (bodyPost Try.prog Try.f13 fun e w' => e = .returned (.bool true) ∧ Below w0.heap.size w0 w')) ({ tmps := #[u0, u1, .int .i64 k, .pointer (some ⟨ab, 0, none⟩), .pointer (some ⟨bb, 0, none⟩), u5, u6, u7, u8, u9, u10, u11, u12, u13, u14, u15, u16, u17, u18, u19, u20, u21, u22, u23, u24, u25, u26, u27, u28, u29, u30, u31, u32, u33, u34, u35, u36, u37, u38, u39, u40, u41, u42, u43, u44, u45, u46, u47, u48, u49, u50, u51, u52, u53, u54, u55, u56, u57, u58, u59, u60, u61, u62, u63, u64, u65, u66, u67, u68, u69, u70, u71, u72, u73, u74, u75, u76, u77, u78, u79, u80, u81, u82, u83, u84, u85, u86, u87, u88, u89, u90, u91, u92, u93, u94, u95, u96, u97, u98, u99, u100, u101, u102, u103, u104, u105, u106, u107, u108, u109, u110, u111, u112, u113, u114, u115, u116, u117, u118, u119, u120, u121, u122, u123, u124, u125, u126, u127, u128, u129, u130, u131, u132, u133, u134, u135, u136, u137, u138, u139, u140, u141, u142, u143, u144, u145, u146, u147, u148, u149, u150, u151, u152, u153, u154, u155, u156, u157, u158, u159, u160], defers := [] } : Act) W := by
  have HA := Lib.hid hta
  have HB := Lib.hid htb
  have HI0 := Lib.hid hi0
  have HI1 := Lib.hid hi1
  have HZ0 := Lib.hid hz0
  have HZ1 := Lib.hid hz1
  have HCL := Lib.hid hcl
  have HKK := Lib.hid hK
  have HK : Hid (∀ W' : World, Below W.heap.size W W' → W'.cell? ⟨ab, 0, none⟩ = some (.int .i64 s0) ∧ W'.cell? ⟨ab, 1, none⟩ = some (.slice a0 len0 cap0) ∧ W'.cell? ⟨bb, 0, none⟩ = some (.int .i64 s1) ∧ W'.cell? ⟨bb, 1, none⟩ = some (.slice a1 len1 cap1)) := Lib.hid (fun W' hW => ⟨(HA.out.keep hW).2.1, (HA.out.keep hW).2.2, (HB.out.keep hW).2.1, (HB.out.keep hW).2.2⟩)
  have HIX0 : Hid (∀ W' : World, Below W.heap.size W W' → IntsAt W' a0 len0 z0) := Lib.hid (fun W' hW => HI0.out.below hW)
  have HIX1 : Hid (∀ W' : World, Below W.heap.size W W' → IntsAt W' a1 len1 z1) := Lib.hid (fun W' hW => HI1.out.below hW)
  clear hta htb hi0 hi1 hz0 hz1 hcl hK HI0 HI1
  conv => enter [2]; whnf
  have hq0 : Below W.heap.size W W.drew := (Below.refl _ _).drew
  refine wp_region_held_drew (S := fun W' => W'.cell? ⟨ab, 0, none⟩ = some (.int .i64 s0) ∧ W'.cell? ⟨ab, 1, none⟩ = some (.slice a0 len0 cap0) ∧ W'.cell? ⟨bb, 0, none⟩ = some (.int .i64 s1) ∧ W'.cell? ⟨bb, 1, none⟩ = some (.slice a1 len1 cap1)) (by kernel_rfl) (HK.out _ hq0) (fun hSS0 => ?_)
  obtain ⟨y0, hy0⟩ : ∃ y, y = W.drew := ⟨_, rfl⟩
  rw [← hy0] at hq0 hSS0 ⊢
  have hz0 := hq0.size
  clear hy0
  refine wpAnyH_take (i := 0) (oi := ⟨some 33, _, _, _, _, _⟩) (v := .agg #[.int .i64 s0, .slice a0 len0 cap0]) rfl (by kernel_rfl) (by kernel_rfl) (by kernel_rfl) (fun _ _ _ h => h) (Or.inl ⟨by rfl, fun W hSw => by obtain ⟨s1, s2, s3, s4⟩ := hSw; go_simp⟩) (by assumption) ?_
  try simp only [Act.put, List.setIfInBounds_toArray, List.set_cons_zero, List.set_cons_succ]
  refine wpAnyH_take (i := 2) (oi := ⟨some 35, _, _, _, _, _⟩) (v := .agg #[.int .i64 s1, .slice a1 len1 cap1]) rfl (by kernel_rfl) (by kernel_rfl) (by kernel_rfl) (fun _ _ _ h => h) (Or.inl ⟨by rfl, fun W hSw => by obtain ⟨s1, s2, s3, s4⟩ := hSw; go_simp⟩) (by assumption) ?_
  try simp only [Act.put, List.setIfInBounds_toArray, List.set_cons_zero, List.set_cons_succ]
  refine wpAnyH_take (i := 4) (oi := ⟨some 37, _, _, _, _, _⟩) (v := .int .i64 k) rfl (by kernel_rfl) (by kernel_rfl) (by kernel_rfl) (fun _ _ _ h => h) (Or.inl ⟨by rfl, fun W hSw => by go_simp⟩) (by assumption) ?_
  try simp only [Act.put, List.setIfInBounds_toArray, List.set_cons_zero, List.set_cons_succ]
  refine wpAnyH_ready (rs := [1, 10, 11]) (by kernel_rfl) (by simp) ?_
  refine AllReadyH.cons rfl (fun K hKK => ?_) (AllReadyH.cons rfl (fun K hKK => ?_) (AllReadyH.cons rfl (fun K hKK => ?_) AllReadyH.nil))
  · go_simp
    go_at_call 30
    refine (to_rhythm s0 a0 len0 cap0 z0 _ (HIX0.out _ hq0) hl0).mono ?_
    rintro e y1 ⟨p0, c0, rfl, hown, hc⟩
    have hz1 := hc.size
    have hq1 := hq0.trans (hc.mono hq0.size)
    have in0_1 := intsAt_own hown HZ0.out
    clear hown hc
    refine hKK.out _ _ (HK.out _ hq1) (fun hSS1 => ?_)
    clear hKK hSS0
    try simp only [Act.put, List.setIfInBounds_toArray, List.set_cons_zero, List.set_cons_succ]
    refine wpAnyH_ready (rs := [3, 10, 11]) (by kernel_rfl) (by simp) ?_
    refine AllReadyH.cons rfl (fun K hKK => ?_) (AllReadyH.cons rfl (fun K hKK => ?_) (AllReadyH.cons rfl (fun K hKK => ?_) AllReadyH.nil))
    · go_simp
      go_at_call 30
      refine (to_rhythm s1 a1 len1 cap1 z1 _ (HIX1.out _ hq1) hl1).mono ?_
      rintro e y2 ⟨p1, c1, rfl, hown, hc⟩
      have hz2 := hc.size
      have hq2 := hq1.trans (hc.mono hq1.size)
      have in0_2 := in0_1.below hc
      have in1_2 := intsAt_own hown HZ1.out
      clear hown hc
      refine hKK.out _ _ (HK.out _ hq2) (fun hSS2 => ?_)
      clear hKK hSS1
      try simp only [Act.put, List.setIfInBounds_toArray, List.set_cons_zero, List.set_cons_succ]
      refine wpAnyH_ready (rs := [5, 10, 11]) (by kernel_rfl) (by simp) ?_
      refine AllReadyH.cons rfl (fun K hKK => ?_) (AllReadyH.cons rfl (fun K hKK => ?_) (AllReadyH.cons rfl (fun K hKK => ?_) AllReadyH.nil))
      · go_simp
        go_at_call 52
        refine (HCL.out p0 c0 p1 c1 _ in0_2 in1_2).mono ?_
        rintro e y3 ⟨b0, e0, b1, e1, m, rfl, rowA, rowB, hm, hc⟩
        have hz3 := hc.size
        have hq3 := hq2.trans (hc.mono hq2.size)
        have row0_3 := rowA
        have row1_3 := rowB
        have hmz := rowA.2.2
        clear rowA rowB hc
        refine hKK.out _ _ (HK.out _ hq3) (fun hSS3 => ?_)
        clear hKK hSS2
        try simp only [Act.put, List.setIfInBounds_toArray, List.set_cons_zero, List.set_cons_succ]
        refine wpAnyH_take (i := 6) (oi := ⟨some 32, _, _, _, _, _⟩) (v := .tuple #[rhy RS b0 L0.length e0, rhy RS b1 L1.length e1, .bool RB]) rfl (by kernel_rfl) (by kernel_rfl) (by kernel_rfl) (fun _ _ _ h => h) (Or.inl ⟨by rfl, fun W hSw => by go_simp⟩) (by assumption) ?_
        try simp only [Act.put, List.setIfInBounds_toArray, List.set_cons_zero, List.set_cons_succ]
        refine wpAnyH_take (i := 7) (oi := ⟨some 39, _, _, _, _, _⟩) (v := rhy RS b0 L0.length e0) rfl (by kernel_rfl) (by kernel_rfl) (by kernel_rfl) (fun _ _ _ h => h) (Or.inl ⟨by rfl, fun W hSw => by go_simp⟩) (by assumption) ?_
        try simp only [Act.put, List.setIfInBounds_toArray, List.set_cons_zero, List.set_cons_succ]
        refine wpAnyH_take (i := 8) (oi := ⟨some 40, _, _, _, _, _⟩) (v := rhy RS b1 L1.length e1) rfl (by kernel_rfl) (by kernel_rfl) (by kernel_rfl) (fun _ _ _ h => h) (Or.inl ⟨by rfl, fun W hSw => by go_simp⟩) (by assumption) ?_
        try simp only [Act.put, List.setIfInBounds_toArray, List.set_cons_zero, List.set_cons_succ]
        refine wpAnyH_take (i := 9) (oi := ⟨some 41, _, _, _, _, _⟩) (v := .bool RB) rfl (by kernel_rfl) (by kernel_rfl) (by kernel_rfl) (fun _ _ _ h => h) (Or.inl ⟨by rfl, fun W hSw => by go_simp⟩) (by assumption) ?_
        try simp only [Act.put, List.setIfInBounds_toArray, List.set_cons_zero, List.set_cons_succ]
        refine wpAnyH_ready (rs := [10, 11]) (by kernel_rfl) (by simp) ?_
        refine AllReadyH.cons rfl (fun K hKK => ?_) (AllReadyH.cons rfl (fun K hKK => ?_) AllReadyH.nil)
        · go_simp
          have hc := bel1 y3 (.cells #[.int .i64 0, .slice none 0 0] 26)
          have bxn := box_new y3 (.int .i64 0) (.slice none 0 0) 26
          obtain ⟨y4, hy⟩ : ∃ y, y = y3.alloc (.cells #[.int .i64 0, .slice none 0 0] 26) := ⟨_, rfl⟩
          rw [← hy] at hc bxn ⊢
          clear hy
          have hz4 := hc.size
          have hq4 := hq3.trans (hc.mono hq3.size)
          have row0_4 := row0_3.keep hc
          have row1_4 := row1_3.keep hc
          obtain ⟨g0, hg0⟩ : ∃ g, y3.heap.size = g := ⟨_, rfl⟩
          have bx0_4 : Box y4 g0 (.int .i64 0) (.slice none 0 0) 26 := by rw [← hg0]; exact bxn
          have gl0 : W.heap.size ≤ g0 := by rw [← hg0]; exact hq3.size
          have bl0_4 := bx0_4.lt
          refine hKK.out _ _ (HK.out _ hq4) (fun hSS4 => ?_)
          clear hKK hSS3 hc bxn
          try simp only [Act.put, List.setIfInBounds_toArray, List.set_cons_zero, List.set_cons_succ]
          rw [hg0]
          refine wpAnyH_ready (rs := [11]) (by kernel_rfl) (by simp) ?_
          refine AllReadyH.cons rfl (fun K hKK => ?_) AllReadyH.nil
          go_simp
          have hc := bel1 y4 (.cells #[.int .i64 0, .slice none 0 0] 26)
          have bxn := box_new y4 (.int .i64 0) (.slice none 0 0) 26
          obtain ⟨y5, hy⟩ : ∃ y, y = y4.alloc (.cells #[.int .i64 0, .slice none 0 0] 26) := ⟨_, rfl⟩
          rw [← hy] at hc bxn ⊢
          clear hy
          have hz5 := hc.size
          have hq5 := hq4.trans (hc.mono hq4.size)
          have bx0_5 := bx0_4.keep hc bx0_4.lt
          have bl0_5 := bx0_5.lt
          have row0_5 := row0_4.keep hc
          have row1_5 := row1_4.keep hc
          obtain ⟨g1, hg1⟩ : ∃ g, y4.heap.size = g := ⟨_, rfl⟩
          have bx1_5 : Box y5 g1 (.int .i64 0) (.slice none 0 0) 26 := by rw [← hg1]; exact bxn
          have gl1 : W.heap.size ≤ g1 := by rw [← hg1]; exact hq4.size
          have bl1_5 := bx1_5.lt
          refine hKK.out _ _ (HK.out _ hq5) (fun hSS5 => ?_)
          clear hKK hSS4 hc bxn
          try simp only [Act.put, List.setIfInBounds_toArray, List.set_cons_zero, List.set_cons_succ]
          rw [hg1]
          have hne : g0 ≠ g1 := by omega
          have hd0 : g0 < y2.heap.size ∨ y3.heap.size ≤ g0 := by omega
          have hd1 : g1 < y2.heap.size ∨ y3.heap.size ≤ g1 := by omega
          obtain ⟨q0, q1, q2, q3⟩ := bx0_5.facts
          obtain ⟨r0, r1, r2, r3⟩ := bx1_5.facts
          refine wpAnyH_ready (rs := [12]) (by kernel_rfl) (by simp) ?_
          refine AllReadyH.cons rfl (fun K hKK => ?_) AllReadyH.nil
          go_simp
          have hq6 := below_set2 (o := 0) (p := 1) (u := (.int .i64 RS)) (v := (.slice b0 L0.length e0)) hq5 gl0
          have ba0 := (bx0_5.set0 (.int .i64 RS)).set1 (.slice b0 L0.length e0)
          have bo1 := (bx1_5.other (c := g0) (o := 0) (.int .i64 RS) (by omega)).other (c := g0) (o := 1) (.slice b0 L0.length e0) (by omega)
          have ra0 := row_put (u := (.int .i64 RS)) (v := (.slice b0 L0.length e0)) row0_5 (N := g0) (by omega)
          have ra1 := row_put (u := (.int .i64 RS)) (v := (.slice b0 L0.length e0)) row1_5 (N := g0) (by omega)
          refine hKK.out _ _ (HK.out _ hq6) (fun hSS6 => ?_)
          clear hKK hSS5
          try simp only [Act.put, List.setIfInBounds_toArray, List.set_cons_zero, List.set_cons_succ]
          obtain ⟨y6, hy⟩ : ∃ y, y = (y5.setCell ⟨g0, 0, none⟩ (.int .i64 RS)).setCell ⟨g0, 1, none⟩ (.slice b0 L0.length e0) := ⟨_, rfl⟩
          rw [← hy] at hq6 ba0 bo1 ra0 ra1 hSS6 ⊢
          have hz6 : y6.heap.size = y5.heap.size := by rw [hy]; simp
          clear hy q0 q1 q2 q3 r0 r1 r2 r3
          obtain ⟨q0, q1, q2, q3⟩ := ba0.facts
          obtain ⟨r0, r1, r2, r3⟩ := bo1.facts
          have lt1 := bo1.lt
          have ra0' := ra0
          have ra1' := ra1
          clear ra0 ra1
          refine wpAnyH_ready (rs := [13]) (by kernel_rfl) (by simp) ?_
          refine AllReadyH.cons rfl (fun K hKK => ?_) AllReadyH.nil
          go_simp
          have hq7 := below_set2 (o := 0) (p := 1) (u := (.int .i64 RS)) (v := (.slice b1 L1.length e1)) hq6 gl1
          have ba1 := (bo1.set0 (.int .i64 RS)).set1 (.slice b1 L1.length e1)
          have bo0 := (ba0.other (c := g1) (o := 0) (.int .i64 RS) (by omega)).other (c := g1) (o := 1) (.slice b1 L1.length e1) (by omega)
          have ra0 := row_put (u := (.int .i64 RS)) (v := (.slice b1 L1.length e1)) ra0' (N := g1) (by omega)
          have ra1 := row_put (u := (.int .i64 RS)) (v := (.slice b1 L1.length e1)) ra1' (N := g1) (by omega)
          refine hKK.out _ _ (HK.out _ hq7) (fun hSS7 => ?_)
          clear hKK hSS6
          try simp only [Act.put, List.setIfInBounds_toArray, List.set_cons_zero, List.set_cons_succ]
          obtain ⟨y7, hy⟩ : ∃ y, y = (y6.setCell ⟨g1, 0, none⟩ (.int .i64 RS)).setCell ⟨g1, 1, none⟩ (.slice b1 L1.length e1) := ⟨_, rfl⟩
          rw [← hy] at hq7 ba1 bo0 ra0 ra1 hSS7 ⊢
          have hz7 : y7.heap.size = y6.heap.size := by rw [hy]; simp
          clear hy q0 q1 q2 q3 r0 r1 r2 r3
          refine wpAnyH_take (i := 14) (oi := ⟨some 10, _, _, _, _, _⟩) (v := .bool RB) rfl (by kernel_rfl) (by kernel_rfl) (by kernel_rfl) (fun _ _ _ h => h) (Or.inl ⟨by rfl, fun W hSw => by go_simp⟩) (by assumption) ?_
          try simp only [Act.put, List.setIfInBounds_toArray, List.set_cons_zero, List.set_cons_succ]
          refine wpAnyH_done (by kernel_rfl) ?_ _
          exact HKK.out _ _ _ _ _ _ _ _ _ _ _ _ _ _ _ _ _ bo0.two ba1.two ((ra0.hi).lo (by have := hq2.size; omega)) ((ra1.hi).lo (by have := hq2.size; omega)) hq7
        · go_simp
          have hc := bel1 y3 (.cells #[.int .i64 0, .slice none 0 0] 26)
          have bxn := box_new y3 (.int .i64 0) (.slice none 0 0) 26
          obtain ⟨y4, hy⟩ : ∃ y, y = y3.alloc (.cells #[.int .i64 0, .slice none 0 0] 26) := ⟨_, rfl⟩
          rw [← hy] at hc bxn ⊢
          clear hy
          have hz4 := hc.size
          have hq4 := hq3.trans (hc.mono hq3.size)
          have row0_4 := row0_3.keep hc
          have row1_4 := row1_3.keep hc
          obtain ⟨g1, hg1⟩ : ∃ g, y3.heap.size = g := ⟨_, rfl⟩
          have bx1_4 : Box y4 g1 (.int .i64 0) (.slice none 0 0) 26 := by rw [← hg1]; exact bxn
          have gl1 : W.heap.size ≤ g1 := by rw [← hg1]; exact hq3.size
          have bl1_4 := bx1_4.lt
          refine hKK.out _ _ (HK.out _ hq4) (fun hSS4 => ?_)
          clear hKK hSS3 hc bxn
          try simp only [Act.put, List.setIfInBounds_toArray, List.set_cons_zero, List.set_cons_succ]
          rw [hg1]
          refine wpAnyH_ready (rs := [10]) (by kernel_rfl) (by simp) ?_
          refine AllReadyH.cons rfl (fun K hKK => ?_) AllReadyH.nil
          go_simp
          have hc := bel1 y4 (.cells #[.int .i64 0, .slice none 0 0] 26)
          have bxn := box_new y4 (.int .i64 0) (.slice none 0 0) 26
          obtain ⟨y5, hy⟩ : ∃ y, y = y4.alloc (.cells #[.int .i64 0, .slice none 0 0] 26) := ⟨_, rfl⟩
          rw [← hy] at hc bxn ⊢
          clear hy
          have hz5 := hc.size
          have hq5 := hq4.trans (hc.mono hq4.size)
          have row0_5 := row0_4.keep hc
          have bx1_5 := bx1_4.keep hc bx1_4.lt
          have bl1_5 := bx1_5.lt
          have row1_5 := row1_4.keep hc
          obtain ⟨g0, hg0⟩ : ∃ g, y4.heap.size = g := ⟨_, rfl⟩
          have bx0_5 : Box y5 g0 (.int .i64 0) (.slice none 0 0) 26 := by rw [← hg0]; exact bxn
          have gl0 : W.heap.size ≤ g0 := by rw [← hg0]; exact hq4.size
          have bl0_5 := bx0_5.lt
          refine hKK.out _ _ (HK.out _ hq5) (fun hSS5 => ?_)
          clear hKK hSS4 hc bxn
          try simp only [Act.put, List.setIfInBounds_toArray, List.set_cons_zero, List.set_cons_succ]
          rw [hg0]
          have hne : g0 ≠ g1 := by omega
          have hd0 : g0 < y2.heap.size ∨ y3.heap.size ≤ g0 := by omega
          have hd1 : g1 < y2.heap.size ∨ y3.heap.size ≤ g1 := by omega
          obtain ⟨q0, q1, q2, q3⟩ := bx0_5.facts
          obtain ⟨r0, r1, r2, r3⟩ := bx1_5.facts
          refine wpAnyH_ready (rs := [12]) (by kernel_rfl) (by simp) ?_
          refine AllReadyH.cons rfl (fun K hKK => ?_) AllReadyH.nil
          go_simp
          have hq6 := below_set2 (o := 0) (p := 1) (u := (.int .i64 RS)) (v := (.slice b0 L0.length e0)) hq5 gl0
          have ba0 := (bx0_5.set0 (.int .i64 RS)).set1 (.slice b0 L0.length e0)
          have bo1 := (bx1_5.other (c := g0) (o := 0) (.int .i64 RS) (by omega)).other (c := g0) (o := 1) (.slice b0 L0.length e0) (by omega)
          have ra0 := row_put (u := (.int .i64 RS)) (v := (.slice b0 L0.length e0)) row0_5 (N := g0) (by omega)
          have ra1 := row_put (u := (.int .i64 RS)) (v := (.slice b0 L0.length e0)) row1_5 (N := g0) (by omega)
          refine hKK.out _ _ (HK.out _ hq6) (fun hSS6 => ?_)
          clear hKK hSS5
          try simp only [Act.put, List.setIfInBounds_toArray, List.set_cons_zero, List.set_cons_succ]
          obtain ⟨y6, hy⟩ : ∃ y, y = (y5.setCell ⟨g0, 0, none⟩ (.int .i64 RS)).setCell ⟨g0, 1, none⟩ (.slice b0 L0.length e0) := ⟨_, rfl⟩
          rw [← hy] at hq6 ba0 bo1 ra0 ra1 hSS6 ⊢
          have hz6 : y6.heap.size = y5.heap.size := by rw [hy]; simp
          clear hy q0 q1 q2 q3 r0 r1 r2 r3
          obtain ⟨q0, q1, q2, q3⟩ := ba0.facts
          obtain ⟨r0, r1, r2, r3⟩ := bo1.facts
          have lt1 := bo1.lt
          have ra0' := ra0
          have ra1' := ra1
          clear ra0 ra1
          refine wpAnyH_ready (rs := [13]) (by kernel_rfl) (by simp) ?_
          refine AllReadyH.cons rfl (fun K hKK => ?_) AllReadyH.nil
          go_simp
          have hq7 := below_set2 (o := 0) (p := 1) (u := (.int .i64 RS)) (v := (.slice b1 L1.length e1)) hq6 gl1
          have ba1 := (bo1.set0 (.int .i64 RS)).set1 (.slice b1 L1.length e1)
          have bo0 := (ba0.other (c := g1) (o := 0) (.int .i64 RS) (by omega)).other (c := g1) (o := 1) (.slice b1 L1.length e1) (by omega)
          have ra0 := row_put (u := (.int .i64 RS)) (v := (.slice b1 L1.length e1)) ra0' (N := g1) (by omega)
          have ra1 := row_put (u := (.int .i64 RS)) (v := (.slice b1 L1.length e1)) ra1' (N := g1) (by omega)
          refine hKK.out _ _ (HK.out _ hq7) (fun hSS7 => ?_)
          clear hKK hSS6
          try simp only [Act.put, List.setIfInBounds_toArray, List.set_cons_zero, List.set_cons_succ]
          obtain ⟨y7, hy⟩ : ∃ y, y = (y6.setCell ⟨g1, 0, none⟩ (.int .i64 RS)).setCell ⟨g1, 1, none⟩ (.slice b1 L1.length e1) := ⟨_, rfl⟩
          rw [← hy] at hq7 ba1 bo0 ra0 ra1 hSS7 ⊢
          have hz7 : y7.heap.size = y6.heap.size := by rw [hy]; simp
          clear hy q0 q1 q2 q3 r0 r1 r2 r3
          refine wpAnyH_take (i := 14) (oi := ⟨some 10, _, _, _, _, _⟩) (v := .bool RB) rfl (by kernel_rfl) (by kernel_rfl) (by kernel_rfl) (fun _ _ _ h => h) (Or.inl ⟨by rfl, fun W hSw => by go_simp⟩) (by assumption) ?_
          try simp only [Act.put, List.setIfInBounds_toArray, List.set_cons_zero, List.set_cons_succ]
          refine wpAnyH_done (by kernel_rfl) ?_ _
          exact HKK.out _ _ _ _ _ _ _ _ _ _ _ _ _ _ _ _ _ bo0.two ba1.two ((ra0.hi).lo (by have := hq2.size; omega)) ((ra1.hi).lo (by have := hq2.size; omega)) hq7
      · go_simp
        have hc := bel1 y2 (.cells #[.int .i64 0, .slice none 0 0] 26)
        have bxn := box_new y2 (.int .i64 0) (.slice none 0 0) 26
        obtain ⟨y3, hy⟩ : ∃ y, y = y2.alloc (.cells #[.int .i64 0, .slice none 0 0] 26) := ⟨_, rfl⟩
        rw [← hy] at hc bxn ⊢
        clear hy
        have hz3 := hc.size
        have hq3 := hq2.trans (hc.mono hq2.size)
        have in0_3 := in0_2.below hc
        have in1_3 := in1_2.below hc
        obtain ⟨g0, hg0⟩ : ∃ g, y2.heap.size = g := ⟨_, rfl⟩
        have bx0_3 : Box y3 g0 (.int .i64 0) (.slice none 0 0) 26 := by rw [← hg0]; exact bxn
        have gl0 : W.heap.size ≤ g0 := by rw [← hg0]; exact hq2.size
        have bl0_3 := bx0_3.lt
        refine hKK.out _ _ (HK.out _ hq3) (fun hSS3 => ?_)
        clear hKK hSS2 hc bxn
        try simp only [Act.put, List.setIfInBounds_toArray, List.set_cons_zero, List.set_cons_succ]
        rw [hg0]
        refine wpAnyH_ready (rs := [5, 11]) (by kernel_rfl) (by simp) ?_
        refine AllReadyH.cons rfl (fun K hKK => ?_) (AllReadyH.cons rfl (fun K hKK => ?_) AllReadyH.nil)
        · go_simp
          go_at_call 52
          refine (HCL.out p0 c0 p1 c1 _ in0_3 in1_3).mono ?_
          rintro e y4 ⟨b0, e0, b1, e1, m, rfl, rowA, rowB, hm, hc⟩
          have hz4 := hc.size
          have hq4 := hq3.trans (hc.mono hq3.size)
          have bx0_4 := bx0_3.keep hc bx0_3.lt
          have bl0_4 := bx0_4.lt
          have row0_4 := rowA
          have row1_4 := rowB
          have hmz := rowA.2.2
          clear rowA rowB hc
          refine hKK.out _ _ (HK.out _ hq4) (fun hSS4 => ?_)
          clear hKK hSS3
          try simp only [Act.put, List.setIfInBounds_toArray, List.set_cons_zero, List.set_cons_succ]
          refine wpAnyH_take (i := 6) (oi := ⟨some 32, _, _, _, _, _⟩) (v := .tuple #[rhy RS b0 L0.length e0, rhy RS b1 L1.length e1, .bool RB]) rfl (by kernel_rfl) (by kernel_rfl) (by kernel_rfl) (fun _ _ _ h => h) (Or.inl ⟨by rfl, fun W hSw => by go_simp⟩) (by assumption) ?_
          try simp only [Act.put, List.setIfInBounds_toArray, List.set_cons_zero, List.set_cons_succ]
          refine wpAnyH_take (i := 7) (oi := ⟨some 39, _, _, _, _, _⟩) (v := rhy RS b0 L0.length e0) rfl (by kernel_rfl) (by kernel_rfl) (by kernel_rfl) (fun _ _ _ h => h) (Or.inl ⟨by rfl, fun W hSw => by go_simp⟩) (by assumption) ?_
          try simp only [Act.put, List.setIfInBounds_toArray, List.set_cons_zero, List.set_cons_succ]
          refine wpAnyH_take (i := 8) (oi := ⟨some 40, _, _, _, _, _⟩) (v := rhy RS b1 L1.length e1) rfl (by kernel_rfl) (by kernel_rfl) (by kernel_rfl) (fun _ _ _ h => h) (Or.inl ⟨by rfl, fun W hSw => by go_simp⟩) (by assumption) ?_
          try simp only [Act.put, List.setIfInBounds_toArray, List.set_cons_zero, List.set_cons_succ]
          refine wpAnyH_take (i := 9) (oi := ⟨some 41, _, _, _, _, _⟩) (v := .bool RB) rfl (by kernel_rfl) (by kernel_rfl) (by kernel_rfl) (fun _ _ _ h => h) (Or.inl ⟨by rfl, fun W hSw => by go_simp⟩) (by assumption) ?_
          try simp only [Act.put, List.setIfInBounds_toArray, List.set_cons_zero, List.set_cons_succ]
          refine wpAnyH_ready (rs := [11]) (by kernel_rfl) (by simp) ?_
          refine AllReadyH.cons rfl (fun K hKK => ?_) AllReadyH.nil
          go_simp
          have hc := bel1 y4 (.cells #[.int .i64 0, .slice none 0 0] 26)
          have bxn := box_new y4 (.int .i64 0) (.slice none 0 0) 26
          obtain ⟨y5, hy⟩ : ∃ y, y = y4.alloc (.cells #[.int .i64 0, .slice none 0 0] 26) := ⟨_, rfl⟩
          rw [← hy] at hc bxn ⊢
          clear hy
          have hz5 := hc.size
          have hq5 := hq4.trans (hc.mono hq4.size)
          have bx0_5 := bx0_4.keep hc bx0_4.lt
          have bl0_5 := bx0_5.lt
          have row0_5 := row0_4.keep hc
          have row1_5 := row1_4.keep hc
          obtain ⟨g1, hg1⟩ : ∃ g, y4.heap.size = g := ⟨_, rfl⟩
          have bx1_5 : Box y5 g1 (.int .i64 0) (.slice none 0 0) 26 := by rw [← hg1]; exact bxn
          have gl1 : W.heap.size ≤ g1 := by rw [← hg1]; exact hq4.size
          have bl1_5 := bx1_5.lt
          refine hKK.out _ _ (HK.out _ hq5) (fun hSS5 => ?_)
          clear hKK hSS4 hc bxn
          try simp only [Act.put, List.setIfInBounds_toArray, List.set_cons_zero, List.set_cons_succ]
          rw [hg1]
          have hne : g0 ≠ g1 := by omega
          have hd0 : g0 < y3.heap.size ∨ y4.heap.size ≤ g0 := by omega
          have hd1 : g1 < y3.heap.size ∨ y4.heap.size ≤ g1 := by omega
          obtain ⟨q0, q1, q2, q3⟩ := bx0_5.facts
          obtain ⟨r0, r1, r2, r3⟩ := bx1_5.facts
          refine wpAnyH_ready (rs := [12]) (by kernel_rfl) (by simp) ?_
          refine AllReadyH.cons rfl (fun K hKK => ?_) AllReadyH.nil
          go_simp
          have hq6 := below_set2 (o := 0) (p := 1) (u := (.int .i64 RS)) (v := (.slice b0 L0.length e0)) hq5 gl0
          have ba0 := (bx0_5.set0 (.int .i64 RS)).set1 (.slice b0 L0.length e0)
          have bo1 := (bx1_5.other (c := g0) (o := 0) (.int .i64 RS) (by omega)).other (c := g0) (o := 1) (.slice b0 L0.length e0) (by omega)
          have ra0 := row_put (u := (.int .i64 RS)) (v := (.slice b0 L0.length e0)) row0_5 (N := g0) (by omega)
          have ra1 := row_put (u := (.int .i64 RS)) (v := (.slice b0 L0.length e0)) row1_5 (N := g0) (by omega)
          refine hKK.out _ _ (HK.out _ hq6) (fun hSS6 => ?_)
          clear hKK hSS5
          try simp only [Act.put, List.setIfInBounds_toArray, List.set_cons_zero, List.set_cons_succ]
          obtain ⟨y6, hy⟩ : ∃ y, y = (y5.setCell ⟨g0, 0, none⟩ (.int .i64 RS)).setCell ⟨g0, 1, none⟩ (.slice b0 L0.length e0) := ⟨_, rfl⟩
          rw [← hy] at hq6 ba0 bo1 ra0 ra1 hSS6 ⊢
          have hz6 : y6.heap.size = y5.heap.size := by rw [hy]; simp
          clear hy q0 q1 q2 q3 r0 r1 r2 r3
          obtain ⟨q0, q1, q2, q3⟩ := ba0.facts
          obtain ⟨r0, r1, r2, r3⟩ := bo1.facts
          have lt1 := bo1.lt
          have ra0' := ra0
          have ra1' := ra1
          clear ra0 ra1
          refine wpAnyH_ready (rs := [13]) (by kernel_rfl) (by simp) ?_
          refine AllReadyH.cons rfl (fun K hKK => ?_) AllReadyH.nil
          go_simp
          have hq7 := below_set2 (o := 0) (p := 1) (u := (.int .i64 RS)) (v := (.slice b1 L1.length e1)) hq6 gl1
          have ba1 := (bo1.set0 (.int .i64 RS)).set1 (.slice b1 L1.length e1)
          have bo0 := (ba0.other (c := g1) (o := 0) (.int .i64 RS) (by omega)).other (c := g1) (o := 1) (.slice b1 L1.length e1) (by omega)
          have ra0 := row_put (u := (.int .i64 RS)) (v := (.slice b1 L1.length e1)) ra0' (N := g1) (by omega)
          have ra1 := row_put (u := (.int .i64 RS)) (v := (.slice b1 L1.length e1)) ra1' (N := g1) (by omega)
          refine hKK.out _ _ (HK.out _ hq7) (fun hSS7 => ?_)
          clear hKK hSS6
          try simp only [Act.put, List.setIfInBounds_toArray, List.set_cons_zero, List.set_cons_succ]
          obtain ⟨y7, hy⟩ : ∃ y, y = (y6.setCell ⟨g1, 0, none⟩ (.int .i64 RS)).setCell ⟨g1, 1, none⟩ (.slice b1 L1.length e1) := ⟨_, rfl⟩
          rw [← hy] at hq7 ba1 bo0 ra0 ra1 hSS7 ⊢
          have hz7 : y7.heap.size = y6.heap.size := by rw [hy]; simp
          clear hy q0 q1 q2 q3 r0 r1 r2 r3
          refine wpAnyH_take (i := 14) (oi := ⟨some 10, _, _, _, _, _⟩) (v := .bool RB) rfl (by kernel_rfl) (by kernel_rfl) (by kernel_rfl) (fun _ _ _ h => h) (Or.inl ⟨by rfl, fun W hSw => by go_simp⟩) (by assumption) ?_
          try simp only [Act.put, List.setIfInBounds_toArray, List.set_cons_zero, List.set_cons_succ]
          refine wpAnyH_done (by kernel_rfl) ?_ _
          exact HKK.out _ _ _ _ _ _ _ _ _ _ _ _ _ _ _ _ _ bo0.two ba1.two ((ra0.hi).lo (by have := hq3.size; omega)) ((ra1.hi).lo (by have := hq3.size; omega)) hq7
        · go_simp
          have hc := bel1 y3 (.cells #[.int .i64 0, .slice none 0 0] 26)
          have bxn := box_new y3 (.int .i64 0) (.slice none 0 0) 26
          obtain ⟨y4, hy⟩ : ∃ y, y = y3.alloc (.cells #[.int .i64 0, .slice none 0 0] 26) := ⟨_, rfl⟩
          rw [← hy] at hc bxn ⊢
          clear hy
          have hz4 := hc.size
          have hq4 := hq3.trans (hc.mono hq3.size)
          have bx0_4 := bx0_3.keep hc bx0_3.lt
          have bl0_4 := bx0_4.lt
          have in0_4 := in0_3.below hc
          have in1_4 := in1_3.below hc
          obtain ⟨g1, hg1⟩ : ∃ g, y3.heap.size = g := ⟨_, rfl⟩
          have bx1_4 : Box y4 g1 (.int .i64 0) (.slice none 0 0) 26 := by rw [← hg1]; exact bxn
          have gl1 : W.heap.size ≤ g1 := by rw [← hg1]; exact hq3.size
          have bl1_4 := bx1_4.lt
          refine hKK.out _ _ (HK.out _ hq4) (fun hSS4 => ?_)
          clear hKK hSS3 hc bxn
          try simp only [Act.put, List.setIfInBounds_toArray, List.set_cons_zero, List.set_cons_succ]
          rw [hg1]
          refine wpAnyH_ready (rs := [5]) (by kernel_rfl) (by simp) ?_
          refine AllReadyH.cons rfl (fun K hKK => ?_) AllReadyH.nil
          go_simp
          go_at_call 52
          refine (HCL.out p0 c0 p1 c1 _ in0_4 in1_4).mono ?_
          rintro e y5 ⟨b0, e0, b1, e1, m, rfl, rowA, rowB, hm, hc⟩
          have hz5 := hc.size
          have hq5 := hq4.trans (hc.mono hq4.size)
          have bx0_5 := bx0_4.keep hc bx0_4.lt
          have bl0_5 := bx0_5.lt
          have bx1_5 := bx1_4.keep hc bx1_4.lt
          have bl1_5 := bx1_5.lt
          have row0_5 := rowA
          have row1_5 := rowB
          have hmz := rowA.2.2
          clear rowA rowB hc
          refine hKK.out _ _ (HK.out _ hq5) (fun hSS5 => ?_)
          clear hKK hSS4
          try simp only [Act.put, List.setIfInBounds_toArray, List.set_cons_zero, List.set_cons_succ]
          refine wpAnyH_take (i := 6) (oi := ⟨some 32, _, _, _, _, _⟩) (v := .tuple #[rhy RS b0 L0.length e0, rhy RS b1 L1.length e1, .bool RB]) rfl (by kernel_rfl) (by kernel_rfl) (by kernel_rfl) (fun _ _ _ h => h) (Or.inl ⟨by rfl, fun W hSw => by go_simp⟩) (by assumption) ?_
          try simp only [Act.put, List.setIfInBounds_toArray, List.set_cons_zero, List.set_cons_succ]
          refine wpAnyH_take (i := 7) (oi := ⟨some 39, _, _, _, _, _⟩) (v := rhy RS b0 L0.length e0) rfl (by kernel_rfl) (by kernel_rfl) (by kernel_rfl) (fun _ _ _ h => h) (Or.inl ⟨by rfl, fun W hSw => by go_simp⟩) (by assumption) ?_
          try simp only [Act.put, List.setIfInBounds_toArray, List.set_cons_zero, List.set_cons_succ]
          refine wpAnyH_take (i := 8) (oi := ⟨some 40, _, _, _, _, _⟩) (v := rhy RS b1 L1.length e1) rfl (by kernel_rfl) (by kernel_rfl) (by kernel_rfl) (fun _ _ _ h => h) (Or.inl ⟨by rfl, fun W hSw => by go_simp⟩) (by assumption) ?_
          try simp only [Act.put, List.setIfInBounds_toArray, List.set_cons_zero, List.set_cons_succ]
          refine wpAnyH_take (i := 9) (oi := ⟨some 41, _, _, _, _, _⟩) (v := .bool RB) rfl (by kernel_rfl) (by kernel_rfl) (by kernel_rfl) (fun _ _ _ h => h) (Or.inl ⟨by rfl, fun W hSw => by go_simp⟩) (by assumption) ?_
          try simp only [Act.put, List.setIfInBounds_toArray, List.set_cons_zero, List.set_cons_succ]
          have hne : g0 ≠ g1 := by omega
          have hd0 : g0 < y4.heap.size ∨ y5.heap.size ≤ g0 := by omega
          have hd1 : g1 < y4.heap.size ∨ y5.heap.size ≤ g1 := by omega
          obtain ⟨q0, q1, q2, q3⟩ := bx0_5.facts
          obtain ⟨r0, r1, r2, r3⟩ := bx1_5.facts
          refine wpAnyH_ready (rs := [12]) (by kernel_rfl) (by simp) ?_
          refine AllReadyH.cons rfl (fun K hKK => ?_) AllReadyH.nil
          go_simp
          have hq6 := below_set2 (o := 0) (p := 1) (u := (.int .i64 RS)) (v := (.slice b0 L0.length e0)) hq5 gl0
          have ba0 := (bx0_5.set0 (.int .i64 RS)).set1 (.slice b0 L0.length e0)
          have bo1 := (bx1_5.other (c := g0) (o := 0) (.int .i64 RS) (by omega)).other (c := g0) (o := 1) (.slice b0 L0.length e0) (by omega)
          have ra0 := row_put (u := (.int .i64 RS)) (v := (.slice b0 L0.length e0)) row0_5 (N := g0) (by omega)
          have ra1 := row_put (u := (.int .i64 RS)) (v := (.slice b0 L0.length e0)) row1_5 (N := g0) (by omega)
          refine hKK.out _ _ (HK.out _ hq6) (fun hSS6 => ?_)
          clear hKK hSS5
          try simp only [Act.put, List.setIfInBounds_toArray, List.set_cons_zero, List.set_cons_succ]
          obtain ⟨y6, hy⟩ : ∃ y, y = (y5.setCell ⟨g0, 0, none⟩ (.int .i64 RS)).setCell ⟨g0, 1, none⟩ (.slice b0 L0.length e0) := ⟨_, rfl⟩
          rw [← hy] at hq6 ba0 bo1 ra0 ra1 hSS6 ⊢
          have hz6 : y6.heap.size = y5.heap.size := by rw [hy]; simp
          clear hy q0 q1 q2 q3 r0 r1 r2 r3
          obtain ⟨q0, q1, q2, q3⟩ := ba0.facts
          obtain ⟨r0, r1, r2, r3⟩ := bo1.facts
          have lt1 := bo1.lt
          have ra0' := ra0
          have ra1' := ra1
          clear ra0 ra1
          refine wpAnyH_ready (rs := [13]) (by kernel_rfl) (by simp) ?_
          refine AllReadyH.cons rfl (fun K hKK => ?_) AllReadyH.nil
          go_simp
          have hq7 := below_set2 (o := 0) (p := 1) (u := (.int .i64 RS)) (v := (.slice b1 L1.length e1)) hq6 gl1
          have ba1 := (bo1.set0 (.int .i64 RS)).set1 (.slice b1 L1.length e1)
          have bo0 := (ba0.other (c := g1) (o := 0) (.int .i64 RS) (by omega)).other (c := g1) (o := 1) (.slice b1 L1.length e1) (by omega)
          have ra0 := row_put (u := (.int .i64 RS)) (v := (.slice b1 L1.length e1)) ra0' (N := g1) (by omega)
          have ra1 := row_put (u := (.int .i64 RS)) (v := (.slice b1 L1.length e1)) ra1' (N := g1) (by omega)
          refine hKK.out _ _ (HK.out _ hq7) (fun hSS7 => ?_)
          clear hKK hSS6
          try simp only [Act.put, List.setIfInBounds_toArray, List.set_cons_zero, List.set_cons_succ]
          obtain ⟨y7, hy⟩ : ∃ y, y = (y6.setCell ⟨g1, 0, none⟩ (.int .i64 RS)).setCell ⟨g1, 1, none⟩ (.slice b1 L1.length e1) := ⟨_, rfl⟩
          rw [← hy] at hq7 ba1 bo0 ra0 ra1 hSS7 ⊢
          have hz7 : y7.heap.size = y6.heap.size := by rw [hy]; simp
          clear hy q0 q1 q2 q3 r0 r1 r2 r3
          refine wpAnyH_take (i := 14) (oi := ⟨some 10, _, _, _, _, _⟩) (v := .bool RB) rfl (by kernel_rfl) (by kernel_rfl) (by kernel_rfl) (fun _ _ _ h => h) (Or.inl ⟨by rfl, fun W hSw => by go_simp⟩) (by assumption) ?_
          try simp only [Act.put, List.setIfInBounds_toArray, List.set_cons_zero, List.set_cons_succ]
          refine wpAnyH_done (by kernel_rfl) ?_ _
          exact HKK.out _ _ _ _ _ _ _ _ _ _ _ _ _ _ _ _ _ bo0.two ba1.two ((ra0.hi).lo (by have := hq4.size; omega)) ((ra1.hi).lo (by have := hq4.size; omega)) hq7
      · go_simp
        have hc := bel1 y2 (.cells #[.int .i64 0, .slice none 0 0] 26)
        have bxn := box_new y2 (.int .i64 0) (.slice none 0 0) 26
        obtain ⟨y3, hy⟩ : ∃ y, y = y2.alloc (.cells #[.int .i64 0, .slice none 0 0] 26) := ⟨_, rfl⟩
        rw [← hy] at hc bxn ⊢
        clear hy
        have hz3 := hc.size
        have hq3 := hq2.trans (hc.mono hq2.size)
        have in0_3 := in0_2.below hc
        have in1_3 := in1_2.below hc
        obtain ⟨g1, hg1⟩ : ∃ g, y2.heap.size = g := ⟨_, rfl⟩
        have bx1_3 : Box y3 g1 (.int .i64 0) (.slice none 0 0) 26 := by rw [← hg1]; exact bxn
        have gl1 : W.heap.size ≤ g1 := by rw [← hg1]; exact hq2.size
        have bl1_3 := bx1_3.lt
        refine hKK.out _ _ (HK.out _ hq3) (fun hSS3 => ?_)
        clear hKK hSS2 hc bxn
        try simp only [Act.put, List.setIfInBounds_toArray, List.set_cons_zero, List.set_cons_succ]
        rw [hg1]
        refine wpAnyH_ready (rs := [5, 10]) (by kernel_rfl) (by simp) ?_
        refine AllReadyH.cons rfl (fun K hKK => ?_) (AllReadyH.cons rfl (fun K hKK => ?_) AllReadyH.nil)
        · go_simp
          go_at_call 52
          refine (HCL.out p0 c0 p1 c1 _ in0_3 in1_3).mono ?_
          rintro e y4 ⟨b0, e0, b1, e1, m, rfl, rowA, rowB, hm, hc⟩
          have hz4 := hc.size
          have hq4 := hq3.trans (hc.mono hq3.size)
          have bx1_4 := bx1_3.keep hc bx1_3.lt
          have bl1_4 := bx1_4.lt
          have row0_4 := rowA
          have row1_4 := rowB
          have hmz := rowA.2.2
          clear rowA rowB hc
          refine hKK.out _ _ (HK.out _ hq4) (fun hSS4 => ?_)
          clear hKK hSS3
          try simp only [Act.put, List.setIfInBounds_toArray, List.set_cons_zero, List.set_cons_succ]
          refine wpAnyH_take (i := 6) (oi := ⟨some 32, _, _, _, _, _⟩) (v := .tuple #[rhy RS b0 L0.length e0, rhy RS b1 L1.length e1, .bool RB]) rfl (by kernel_rfl) (by kernel_rfl) (by kernel_rfl) (fun _ _ _ h => h) (Or.inl ⟨by rfl, fun W hSw => by go_simp⟩) (by assumption) ?_
          try simp only [Act.put, List.setIfInBounds_toArray, List.set_cons_zero, List.set_cons_succ]
          refine wpAnyH_take (i := 7) (oi := ⟨some 39, _, _, _, _, _⟩) (v := rhy RS b0 L0.length e0) rfl (by kernel_rfl) (by kernel_rfl) (by kernel_rfl) (fun _ _ _ h => h) (Or.inl ⟨by rfl, fun W hSw => by go_simp⟩) (by assumption) ?_
          try simp only [Act.put, List.setIfInBounds_toArray, List.set_cons_zero, List.set_cons_succ]
          refine wpAnyH_take (i := 8) (oi := ⟨some 40, _, _, _, _, _⟩) (v := rhy RS b1 L1.length e1) rfl (by kernel_rfl) (by kernel_rfl) (by kernel_rfl) (fun _ _ _ h => h) (Or.inl ⟨by rfl, fun W hSw => by go_simp⟩) (by assumption) ?_
          try simp only [Act.put, List.setIfInBounds_toArray, List.set_cons_zero, List.set_cons_succ]
          refine wpAnyH_take (i := 9) (oi := ⟨some 41, _, _, _, _, _⟩) (v := .bool RB) rfl (by kernel_rfl) (by kernel_rfl) (by kernel_rfl) (fun _ _ _ h => h) (Or.inl ⟨by rfl, fun W hSw => by go_simp⟩) (by assumption) ?_
          try simp only [Act.put, List.setIfInBounds_toArray, List.set_cons_zero, List.set_cons_succ]
          refine wpAnyH_ready (rs := [10]) (by kernel_rfl) (by simp) ?_
          refine AllReadyH.cons rfl (fun K hKK => ?_) AllReadyH.nil
          go_simp
          have hc := bel1 y4 (.cells #[.int .i64 0, .slice none 0 0] 26)
          have bxn := box_new y4 (.int .i64 0) (.slice none 0 0) 26
          obtain ⟨y5, hy⟩ : ∃ y, y = y4.alloc (.cells #[.int .i64 0, .slice none 0 0] 26) := ⟨_, rfl⟩
          rw [← hy] at hc bxn ⊢
          clear hy
          have hz5 := hc.size
          have hq5 := hq4.trans (hc.mono hq4.size)
          have row0_5 := row0_4.keep hc
          have bx1_5 := bx1_4.keep hc bx1_4.lt
          have bl1_5 := bx1_5.lt
          have row1_5 := row1_4.keep hc
          obtain ⟨g0, hg0⟩ : ∃ g, y4.heap.size = g := ⟨_, rfl⟩
          have bx0_5 : Box y5 g0 (.int .i64 0) (.slice none 0 0) 26 := by rw [← hg0]; exact bxn
          have gl0 : W.heap.size ≤ g0 := by rw [← hg0]; exact hq4.size
          have bl0_5 := bx0_5.lt
          refine hKK.out _ _ (HK.out _ hq5) (fun hSS5 => ?_)
          clear hKK hSS4 hc bxn
          try simp only [Act.put, List.setIfInBounds_toArray, List.set_cons_zero, List.set_cons_succ]
          rw [hg0]
          have hne : g0 ≠ g1 := by omega
          have hd0 : g0 < y3.heap.size ∨ y4.heap.size ≤ g0 := by omega
          have hd1 : g1 < y3.heap.size ∨ y4.heap.size ≤ g1 := by omega
          obtain ⟨q0, q1, q2, q3⟩ := bx0_5.facts
          obtain ⟨r0, r1, r2, r3⟩ := bx1_5.facts
          refine wpAnyH_ready (rs := [12]) (by kernel_rfl) (by simp) ?_
          refine AllReadyH.cons rfl (fun K hKK => ?_) AllReadyH.nil
          go_simp
          have hq6 := below_set2 (o := 0) (p := 1) (u := (.int .i64 RS)) (v := (.slice b0 L0.length e0)) hq5 gl0
          have ba0 := (bx0_5.set0 (.int .i64 RS)).set1 (.slice b0 L0.length e0)
          have bo1 := (bx1_5.other (c := g0) (o := 0) (.int .i64 RS) (by omega)).other (c := g0) (o := 1) (.slice b0 L0.length e0) (by omega)
          have ra0 := row_put (u := (.int .i64 RS)) (v := (.slice b0 L0.length e0)) row0_5 (N := g0) (by omega)
          have ra1 := row_put (u := (.int .i64 RS)) (v := (.slice b0 L0.length e0)) row1_5 (N := g0) (by omega)
          refine hKK.out _ _ (HK.out _ hq6) (fun hSS6 => ?_)
          clear hKK hSS5
          try simp only [Act.put, List.setIfInBounds_toArray, List.set_cons_zero, List.set_cons_succ]
          obtain ⟨y6, hy⟩ : ∃ y, y = (y5.setCell ⟨g0, 0, none⟩ (.int .i64 RS)).setCell ⟨g0, 1, none⟩ (.slice b0 L0.length e0) := ⟨_, rfl⟩
          rw [← hy] at hq6 ba0 bo1 ra0 ra1 hSS6 ⊢
          have hz6 : y6.heap.size = y5.heap.size := by rw [hy]; simp
          clear hy q0 q1 q2 q3 r0 r1 r2 r3
          obtain ⟨q0, q1, q2, q3⟩ := ba0.facts
          obtain ⟨r0, r1, r2, r3⟩ := bo1.facts
          have lt1 := bo1.lt
          have ra0' := ra0
          have ra1' := ra1
          clear ra0 ra1
          refine wpAnyH_ready (rs := [13]) (by kernel_rfl) (by simp) ?_
          refine AllReadyH.cons rfl (fun K hKK => ?_) AllReadyH.nil
          go_simp
          have hq7 := below_set2 (o := 0) (p := 1) (u := (.int .i64 RS)) (v := (.slice b1 L1.length e1)) hq6 gl1
          have ba1 := (bo1.set0 (.int .i64 RS)).set1 (.slice b1 L1.length e1)
          have bo0 := (ba0.other (c := g1) (o := 0) (.int .i64 RS) (by omega)).other (c := g1) (o := 1) (.slice b1 L1.length e1) (by omega)
          have ra0 := row_put (u := (.int .i64 RS)) (v := (.slice b1 L1.length e1)) ra0' (N := g1) (by omega)
          have ra1 := row_put (u := (.int .i64 RS)) (v := (.slice b1 L1.length e1)) ra1' (N := g1) (by omega)
          refine hKK.out _ _ (HK.out _ hq7) (fun hSS7 => ?_)
          clear hKK hSS6
          try simp only [Act.put, List.setIfInBounds_toArray, List.set_cons_zero, List.set_cons_succ]
          obtain ⟨y7, hy⟩ : ∃ y, y = (y6.setCell ⟨g1, 0, none⟩ (.int .i64 RS)).setCell ⟨g1, 1, none⟩ (.slice b1 L1.length e1) := ⟨_, rfl⟩
          rw [← hy] at hq7 ba1 bo0 ra0 ra1 hSS7 ⊢
          have hz7 : y7.heap.size = y6.heap.size := by rw [hy]; simp
          clear hy q0 q1 q2 q3 r0 r1 r2 r3
          refine wpAnyH_take (i := 14) (oi := ⟨some 10, _, _, _, _, _⟩) (v := .bool RB) rfl (by kernel_rfl) (by kernel_rfl) (by kernel_rfl) (fun _ _ _ h => h) (Or.inl ⟨by rfl, fun W hSw => by go_simp⟩) (by assumption) ?_
          try simp only [Act.put, List.setIfInBounds_toArray, List.set_cons_zero, List.set_cons_succ]
          refine wpAnyH_done (by kernel_rfl) ?_ _
          exact HKK.out _ _ _ _ _ _ _ _ _ _ _ _ _ _ _ _ _ bo0.two ba1.two ((ra0.hi).lo (by have := hq3.size; omega)) ((ra1.hi).lo (by have := hq3.size; omega)) hq7
        · go_simp
          have hc := bel1 y3 (.cells #[.int .i64 0, .slice none 0 0] 26)
          have bxn := box_new y3 (.int .i64 0) (.slice none 0 0) 26
          obtain ⟨y4, hy⟩ : ∃ y, y = y3.alloc (.cells #[.int .i64 0, .slice none 0 0] 26) := ⟨_, rfl⟩
          rw [← hy] at hc bxn ⊢
          clear hy
          have hz4 := hc.size
          have hq4 := hq3.trans (hc.mono hq3.size)
          have in0_4 := in0_3.below hc
          have bx1_4 := bx1_3.keep hc bx1_3.lt
          have bl1_4 := bx1_4.lt
          have in1_4 := in1_3.below hc
          obtain ⟨g0, hg0⟩ : ∃ g, y3.heap.size = g := ⟨_, rfl⟩
          have bx0_4 : Box y4 g0 (.int .i64 0) (.slice none 0 0) 26 := by rw [← hg0]; exact bxn
          have gl0 : W.heap.size ≤ g0 := by rw [← hg0]; exact hq3.size
          have bl0_4 := bx0_4.lt
          refine hKK.out _ _ (HK.out _ hq4) (fun hSS4 => ?_)
          clear hKK hSS3 hc bxn
          try simp only [Act.put, List.setIfInBounds_toArray, List.set_cons_zero, List.set_cons_succ]
          rw [hg0]
          refine wpAnyH_ready (rs := [5]) (by kernel_rfl) (by simp) ?_
          refine AllReadyH.cons rfl (fun K hKK => ?_) AllReadyH.nil
          go_simp
          go_at_call 52
          refine (HCL.out p0 c0 p1 c1 _ in0_4 in1_4).mono ?_
          rintro e y5 ⟨b0, e0, b1, e1, m, rfl, rowA, rowB, hm, hc⟩
          have hz5 := hc.size
          have hq5 := hq4.trans (hc.mono hq4.size)
          have bx0_5 := bx0_4.keep hc bx0_4.lt
          have bl0_5 := bx0_5.lt
          have bx1_5 := bx1_4.keep hc bx1_4.lt
          have bl1_5 := bx1_5.lt
          have row0_5 := rowA
          have row1_5 := rowB
          have hmz := rowA.2.2
          clear rowA rowB hc
          refine hKK.out _ _ (HK.out _ hq5) (fun hSS5 => ?_)
          clear hKK hSS4
          try simp only [Act.put, List.setIfInBounds_toArray, List.set_cons_zero, List.set_cons_succ]
          refine wpAnyH_take (i := 6) (oi := ⟨some 32, _, _, _, _, _⟩) (v := .tuple #[rhy RS b0 L0.length e0, rhy RS b1 L1.length e1, .bool RB]) rfl (by kernel_rfl) (by kernel_rfl) (by kernel_rfl) (fun _ _ _ h => h) (Or.inl ⟨by rfl, fun W hSw => by go_simp⟩) (by assumption) ?_
          try simp only [Act.put, List.setIfInBounds_toArray, List.set_cons_zero, List.set_cons_succ]
          refine wpAnyH_take (i := 7) (oi := ⟨some 39, _, _, _, _, _⟩) (v := rhy RS b0 L0.length e0) rfl (by kernel_rfl) (by kernel_rfl) (by kernel_rfl) (fun _ _ _ h => h) (Or.inl ⟨by rfl, fun W hSw => by go_simp⟩) (by assumption) ?_
          try simp only [Act.put, List.setIfInBounds_toArray, List.set_cons_zero, List.set_cons_succ]
          refine wpAnyH_take (i := 8) (oi := ⟨some 40, _, _, _, _, _⟩) (v := rhy RS b1 L1.length e1) rfl (by kernel_rfl) (by kernel_rfl) (by kernel_rfl) (fun _ _ _ h => h) (Or.inl ⟨by rfl, fun W hSw => by go_simp⟩) (by assumption) ?_
          try simp only [Act.put, List.setIfInBounds_toArray, List.set_cons_zero, List.set_cons_succ]
          refine wpAnyH_take (i := 9) (oi := ⟨some 41, _, _, _, _, _⟩) (v := .bool RB) rfl (by kernel_rfl) (by kernel_rfl) (by kernel_rfl) (fun _ _ _ h => h) (Or.inl ⟨by rfl, fun W hSw => by go_simp⟩) (by assumption) ?_
          try simp only [Act.put, List.setIfInBounds_toArray, List.set_cons_zero, List.set_cons_succ]
          have hne : g0 ≠ g1 := by omega
          have hd0 : g0 < y4.heap.size ∨ y5.heap.size ≤ g0 := by omega
          have hd1 : g1 < y4.heap.size ∨ y5.heap.size ≤ g1 := by omega
          obtain ⟨q0, q1, q2, q3⟩ := bx0_5.facts
          obtain ⟨r0, r1, r2, r3⟩ := bx1_5.facts
          refine wpAnyH_ready (rs := [12]) (by kernel_rfl) (by simp) ?_
          refine AllReadyH.cons rfl (fun K hKK => ?_) AllReadyH.nil
          go_simp
          have hq6 := below_set2 (o := 0) (p := 1) (u := (.int .i64 RS)) (v := (.slice b0 L0.length e0)) hq5 gl0
          have ba0 := (bx0_5.set0 (.int .i64 RS)).set1 (.slice b0 L0.length e0)
          have bo1 := (bx1_5.other (c := g0) (o := 0) (.int .i64 RS) (by omega)).other (c := g0) (o := 1) (.slice b0 L0.length e0) (by omega)
          have ra0 := row_put (u := (.int .i64 RS)) (v := (.slice b0 L0.length e0)) row0_5 (N := g0) (by omega)
          have ra1 := row_put (u := (.int .i64 RS)) (v := (.slice b0 L0.length e0)) row1_5 (N := g0) (by omega)
          refine hKK.out _ _ (HK.out _ hq6) (fun hSS6 => ?_)
          clear hKK hSS5
          try simp only [Act.put, List.setIfInBounds_toArray, List.set_cons_zero, List.set_cons_succ]
          obtain ⟨y6, hy⟩ : ∃ y, y = (y5.setCell ⟨g0, 0, none⟩ (.int .i64 RS)).setCell ⟨g0, 1, none⟩ (.slice b0 L0.length e0) := ⟨_, rfl⟩
          rw [← hy] at hq6 ba0 bo1 ra0 ra1 hSS6 ⊢
          have hz6 : y6.heap.size = y5.heap.size := by rw [hy]; simp
          clear hy q0 q1 q2 q3 r0 r1 r2 r3
          obtain ⟨q0, q1, q2, q3⟩ := ba0.facts
          obtain ⟨r0, r1, r2, r3⟩ := bo1.facts
          have lt1 := bo1.lt
          have ra0' := ra0
          have ra1' := ra1
          clear ra0 ra1
          refine wpAnyH_ready (rs := [13]) (by kernel_rfl) (by simp) ?_
          refine AllReadyH.cons rfl (fun K hKK => ?_) AllReadyH.nil
          go_simp
          have hq7 := below_set2 (o := 0) (p := 1) (u := (.int .i64 RS)) (v := (.slice b1 L1.length e1)) hq6 gl1
          have ba1 := (bo1.set0 (.int .i64 RS)).set1 (.slice b1 L1.length e1)
          have bo0 := (ba0.other (c := g1) (o := 0) (.int .i64 RS) (by omega)).other (c := g1) (o := 1) (.slice b1 L1.length e1) (by omega)
          have ra0 := row_put (u := (.int .i64 RS)) (v := (.slice b1 L1.length e1)) ra0' (N := g1) (by omega)
          have ra1 := row_put (u := (.int .i64 RS)) (v := (.slice b1 L1.length e1)) ra1' (N := g1) (by omega)
          refine hKK.out _ _ (HK.out _ hq7) (fun hSS7 => ?_)
          clear hKK hSS6
          try simp only [Act.put, List.setIfInBounds_toArray, List.set_cons_zero, List.set_cons_succ]
          obtain ⟨y7, hy⟩ : ∃ y, y = (y6.setCell ⟨g1, 0, none⟩ (.int .i64 RS)).setCell ⟨g1, 1, none⟩ (.slice b1 L1.length e1) := ⟨_, rfl⟩
          rw [← hy] at hq7 ba1 bo0 ra0 ra1 hSS7 ⊢
          have hz7 : y7.heap.size = y6.heap.size := by rw [hy]; simp
          clear hy q0 q1 q2 q3 r0 r1 r2 r3
          refine wpAnyH_take (i := 14) (oi := ⟨some 10, _, _, _, _, _⟩) (v := .bool RB) rfl (by kernel_rfl) (by kernel_rfl) (by kernel_rfl) (fun _ _ _ h => h) (Or.inl ⟨by rfl, fun W hSw => by go_simp⟩) (by assumption) ?_
          try simp only [Act.put, List.setIfInBounds_toArray, List.set_cons_zero, List.set_cons_succ]
          refine wpAnyH_done (by kernel_rfl) ?_ _
          exact HKK.out _ _ _ _ _ _ _ _ _ _ _ _ _ _ _ _ _ bo0.two ba1.two ((ra0.hi).lo (by have := hq4.size; omega)) ((ra1.hi).lo (by have := hq4.size; omega)) hq7
    · go_simp
      have hc := bel1 y1 (.cells #[.int .i64 0, .slice none 0 0] 26)
      have bxn := box_new y1 (.int .i64 0) (.slice none 0 0) 26
      obtain ⟨y2, hy⟩ : ∃ y, y = y1.alloc (.cells #[.int .i64 0, .slice none 0 0] 26) := ⟨_, rfl⟩
      rw [← hy] at hc bxn ⊢
      clear hy
      have hz2 := hc.size
      have hq2 := hq1.trans (hc.mono hq1.size)
      have in0_2 := in0_1.below hc
      obtain ⟨g0, hg0⟩ : ∃ g, y1.heap.size = g := ⟨_, rfl⟩
      have bx0_2 : Box y2 g0 (.int .i64 0) (.slice none 0 0) 26 := by rw [← hg0]; exact bxn
      have gl0 : W.heap.size ≤ g0 := by rw [← hg0]; exact hq1.size
      have bl0_2 := bx0_2.lt
      refine hKK.out _ _ (HK.out _ hq2) (fun hSS2 => ?_)
      clear hKK hSS1 hc bxn
      try simp only [Act.put, List.setIfInBounds_toArray, List.set_cons_zero, List.set_cons_succ]
      rw [hg0]
      refine wpAnyH_ready (rs := [3, 11]) (by kernel_rfl) (by simp) ?_
      refine AllReadyH.cons rfl (fun K hKK => ?_) (AllReadyH.cons rfl (fun K hKK => ?_) AllReadyH.nil)
      · go_simp
        go_at_call 30
        refine (to_rhythm s1 a1 len1 cap1 z1 _ (HIX1.out _ hq2) hl1).mono ?_
        rintro e y3 ⟨p1, c1, rfl, hown, hc⟩
        have hz3 := hc.size
        have hq3 := hq2.trans (hc.mono hq2.size)
        have bx0_3 := bx0_2.keep hc bx0_2.lt
        have bl0_3 := bx0_3.lt
        have in0_3 := in0_2.below hc
        have in1_3 := intsAt_own hown HZ1.out
        clear hown hc
        refine hKK.out _ _ (HK.out _ hq3) (fun hSS3 => ?_)
        clear hKK hSS2
        try simp only [Act.put, List.setIfInBounds_toArray, List.set_cons_zero, List.set_cons_succ]
        refine wpAnyH_ready (rs := [5, 11]) (by kernel_rfl) (by simp) ?_
        refine AllReadyH.cons rfl (fun K hKK => ?_) (AllReadyH.cons rfl (fun K hKK => ?_) AllReadyH.nil)
        · go_simp
          go_at_call 52
          refine (HCL.out p0 c0 p1 c1 _ in0_3 in1_3).mono ?_
          rintro e y4 ⟨b0, e0, b1, e1, m, rfl, rowA, rowB, hm, hc⟩
          have hz4 := hc.size
          have hq4 := hq3.trans (hc.mono hq3.size)
          have bx0_4 := bx0_3.keep hc bx0_3.lt
          have bl0_4 := bx0_4.lt
          have row0_4 := rowA
          have row1_4 := rowB
          have hmz := rowA.2.2
          clear rowA rowB hc
          refine hKK.out _ _ (HK.out _ hq4) (fun hSS4 => ?_)
          clear hKK hSS3
          try simp only [Act.put, List.setIfInBounds_toArray, List.set_cons_zero, List.set_cons_succ]
          refine wpAnyH_take (i := 6) (oi := ⟨some 32, _, _, _, _, _⟩) (v := .tuple #[rhy RS b0 L0.length e0, rhy RS b1 L1.length e1, .bool RB]) rfl (by kernel_rfl) (by kernel_rfl) (by kernel_rfl) (fun _ _ _ h => h) (Or.inl ⟨by rfl, fun W hSw => by go_simp⟩) (by assumption) ?_
          try simp only [Act.put, List.setIfInBounds_toArray, List.set_cons_zero, List.set_cons_succ]
          refine wpAnyH_take (i := 7) (oi := ⟨some 39, _, _, _, _, _⟩) (v := rhy RS b0 L0.length e0) rfl (by kernel_rfl) (by kernel_rfl) (by kernel_rfl) (fun _ _ _ h => h) (Or.inl ⟨by rfl, fun W hSw => by go_simp⟩) (by assumption) ?_
          try simp only [Act.put, List.setIfInBounds_toArray, List.set_cons_zero, List.set_cons_succ]
          refine wpAnyH_take (i := 8) (oi := ⟨some 40, _, _, _, _, _⟩) (v := rhy RS b1 L1.length e1) rfl (by kernel_rfl) (by kernel_rfl) (by kernel_rfl) (fun _ _ _ h => h) (Or.inl ⟨by rfl, fun W hSw => by go_simp⟩) (by assumption) ?_
          try simp only [Act.put, List.setIfInBounds_toArray, List.set_cons_zero, List.set_cons_succ]
          refine wpAnyH_take (i := 9) (oi := ⟨some 41, _, _, _, _, _⟩) (v := .bool RB) rfl (by kernel_rfl) (by kernel_rfl) (by kernel_rfl) (fun _ _ _ h => h) (Or.inl ⟨by rfl, fun W hSw => by go_simp⟩) (by assumption) ?_
          try simp only [Act.put, List.setIfInBounds_toArray, List.set_cons_zero, List.set_cons_succ]
          refine wpAnyH_ready (rs := [11]) (by kernel_rfl) (by simp) ?_
          refine AllReadyH.cons rfl (fun K hKK => ?_) AllReadyH.nil
          go_simp
          have hc := bel1 y4 (.cells #[.int .i64 0, .slice none 0 0] 26)
          have bxn := box_new y4 (.int .i64 0) (.slice none 0 0) 26
          obtain ⟨y5, hy⟩ : ∃ y, y = y4.alloc (.cells #[.int .i64 0, .slice none 0 0] 26) := ⟨_, rfl⟩
          rw [← hy] at hc bxn ⊢
          clear hy
          have hz5 := hc.size
          have hq5 := hq4.trans (hc.mono hq4.size)
          have bx0_5 := bx0_4.keep hc bx0_4.lt
          have bl0_5 := bx0_5.lt
          have row0_5 := row0_4.keep hc
          have row1_5 := row1_4.keep hc
          obtain ⟨g1, hg1⟩ : ∃ g, y4.heap.size = g := ⟨_, rfl⟩
          have bx1_5 : Box y5 g1 (.int .i64 0) (.slice none 0 0) 26 := by rw [← hg1]; exact bxn
          have gl1 : W.heap.size ≤ g1 := by rw [← hg1]; exact hq4.size
          have bl1_5 := bx1_5.lt
          refine hKK.out _ _ (HK.out _ hq5) (fun hSS5 => ?_)
          clear hKK hSS4 hc bxn
          try simp only [Act.put, List.setIfInBounds_toArray, List.set_cons_zero, List.set_cons_succ]
          rw [hg1]
          have hne : g0 ≠ g1 := by omega
          have hd0 : g0 < y3.heap.size ∨ y4.heap.size ≤ g0 := by omega
          have hd1 : g1 < y3.heap.size ∨ y4.heap.size ≤ g1 := by omega
          obtain ⟨q0, q1, q2, q3⟩ := bx0_5.facts
          obtain ⟨r0, r1, r2, r3⟩ := bx1_5.facts
          refine wpAnyH_ready (rs := [12]) (by kernel_rfl) (by simp) ?_
          refine AllReadyH.cons rfl (fun K hKK => ?_) AllReadyH.nil
          go_simp
          have hq6 := below_set2 (o := 0) (p := 1) (u := (.int .i64 RS)) (v := (.slice b0 L0.length e0)) hq5 gl0
          have ba0 := (bx0_5.set0 (.int .i64 RS)).set1 (.slice b0 L0.length e0)
          have bo1 := (bx1_5.other (c := g0) (o := 0) (.int .i64 RS) (by omega)).other (c := g0) (o := 1) (.slice b0 L0.length e0) (by omega)
          have ra0 := row_put (u := (.int .i64 RS)) (v := (.slice b0 L0.length e0)) row0_5 (N := g0) (by omega)
          have ra1 := row_put (u := (.int .i64 RS)) (v := (.slice b0 L0.length e0)) row1_5 (N := g0) (by omega)
          refine hKK.out _ _ (HK.out _ hq6) (fun hSS6 => ?_)
          clear hKK hSS5
          try simp only [Act.put, List.setIfInBounds_toArray, List.set_cons_zero, List.set_cons_succ]
          obtain ⟨y6, hy⟩ : ∃ y, y = (y5.setCell ⟨g0, 0, none⟩ (.int .i64 RS)).setCell ⟨g0, 1, none⟩ (.slice b0 L0.length e0) := ⟨_, rfl⟩
          rw [← hy] at hq6 ba0 bo1 ra0 ra1 hSS6 ⊢
          have hz6 : y6.heap.size = y5.heap.size := by rw [hy]; simp
          clear hy q0 q1 q2 q3 r0 r1 r2 r3
          obtain ⟨q0, q1, q2, q3⟩ := ba0.facts
          obtain ⟨r0, r1, r2, r3⟩ := bo1.facts
          have lt1 := bo1.lt
          have ra0' := ra0
          have ra1' := ra1
          clear ra0 ra1
          refine wpAnyH_ready (rs := [13]) (by kernel_rfl) (by simp) ?_
          refine AllReadyH.cons rfl (fun K hKK => ?_) AllReadyH.nil
          go_simp
          have hq7 := below_set2 (o := 0) (p := 1) (u := (.int .i64 RS)) (v := (.slice b1 L1.length e1)) hq6 gl1
          have ba1 := (bo1.set0 (.int .i64 RS)).set1 (.slice b1 L1.length e1)
          have bo0 := (ba0.other (c := g1) (o := 0) (.int .i64 RS) (by omega)).other (c := g1) (o := 1) (.slice b1 L1.length e1) (by omega)
          have ra0 := row_put (u := (.int .i64 RS)) (v := (.slice b1 L1.length e1)) ra0' (N := g1) (by omega)
          have ra1 := row_put (u := (.int .i64 RS)) (v := (.slice b1 L1.length e1)) ra1' (N := g1) (by omega)
          refine hKK.out _ _ (HK.out _ hq7) (fun hSS7 => ?_)
          clear hKK hSS6
          try simp only [Act.put, List.setIfInBounds_toArray, List.set_cons_zero, List.set_cons_succ]
          obtain ⟨y7, hy⟩ : ∃ y, y = (y6.setCell ⟨g1, 0, none⟩ (.int .i64 RS)).setCell ⟨g1, 1, none⟩ (.slice b1 L1.length e1) := ⟨_, rfl⟩
          rw [← hy] at hq7 ba1 bo0 ra0 ra1 hSS7 ⊢
          have hz7 : y7.heap.size = y6.heap.size := by rw [hy]; simp
          clear hy q0 q1 q2 q3 r0 r1 r2 r3
          refine wpAnyH_take (i := 14) (oi := ⟨some 10, _, _, _, _, _⟩) (v := .bool RB) rfl (by kernel_rfl) (by kernel_rfl) (by kernel_rfl) (fun _ _ _ h => h) (Or.inl ⟨by rfl, fun W hSw => by go_simp⟩) (by assumption) ?_
          try simp only [Act.put, List.setIfInBounds_toArray, List.set_cons_zero, List.set_cons_succ]
          refine wpAnyH_done (by kernel_rfl) ?_ _
          exact HKK.out _ _ _ _ _ _ _ _ _ _ _ _ _ _ _ _ _ bo0.two ba1.two ((ra0.hi).lo (by have := hq3.size; omega)) ((ra1.hi).lo (by have := hq3.size; omega)) hq7
        · go_simp
          have hc := bel1 y3 (.cells #[.int .i64 0, .slice none 0 0] 26)
          have bxn := box_new y3 (.int .i64 0) (.slice none 0 0) 26
          obtain ⟨y4, hy⟩ : ∃ y, y = y3.alloc (.cells #[.int .i64 0, .slice none 0 0] 26) := ⟨_, rfl⟩
          rw [← hy] at hc bxn ⊢
          clear hy
          have hz4 := hc.size
          have hq4 := hq3.trans (hc.mono hq3.size)
          have bx0_4 := bx0_3.keep hc bx0_3.lt
          have bl0_4 := bx0_4.lt
          have in0_4 := in0_3.below hc
          have in1_4 := in1_3.below hc
          obtain ⟨g1, hg1⟩ : ∃ g, y3.heap.size = g := ⟨_, rfl⟩
          have bx1_4 : Box y4 g1 (.int .i64 0) (.slice none 0 0) 26 := by rw [← hg1]; exact bxn
          have gl1 : W.heap.size ≤ g1 := by rw [← hg1]; exact hq3.size
          have bl1_4 := bx1_4.lt
          refine hKK.out _ _ (HK.out _ hq4) (fun hSS4 => ?_)
          clear hKK hSS3 hc bxn
          try simp only [Act.put, List.setIfInBounds_toArray, List.set_cons_zero, List.set_cons_succ]
          rw [hg1]
          refine wpAnyH_ready (rs := [5]) (by kernel_rfl) (by simp) ?_
          refine AllReadyH.cons rfl (fun K hKK => ?_) AllReadyH.nil
          go_simp
          go_at_call 52
          refine (HCL.out p0 c0 p1 c1 _ in0_4 in1_4).mono ?_
          rintro e y5 ⟨b0, e0, b1, e1, m, rfl, rowA, rowB, hm, hc⟩
          have hz5 := hc.size
          have hq5 := hq4.trans (hc.mono hq4.size)
          have bx0_5 := bx0_4.keep hc bx0_4.lt
          have bl0_5 := bx0_5.lt
          have bx1_5 := bx1_4.keep hc bx1_4.lt
          have bl1_5 := bx1_5.lt
          have row0_5 := rowA
          have row1_5 := rowB
          have hmz := rowA.2.2
          clear rowA rowB hc
          refine hKK.out _ _ (HK.out _ hq5) (fun hSS5 => ?_)
          clear hKK hSS4
          try simp only [Act.put, List.setIfInBounds_toArray, List.set_cons_zero, List.set_cons_succ]
          refine wpAnyH_take (i := 6) (oi := ⟨some 32, _, _, _, _, _⟩) (v := .tuple #[rhy RS b0 L0.length e0, rhy RS b1 L1.length e1, .bool RB]) rfl (by kernel_rfl) (by kernel_rfl) (by kernel_rfl) (fun _ _ _ h => h) (Or.inl ⟨by rfl, fun W hSw => by go_simp⟩) (by assumption) ?_
          try simp only [Act.put, List.setIfInBounds_toArray, List.set_cons_zero, List.set_cons_succ]
          refine wpAnyH_take (i := 7) (oi := ⟨some 39, _, _, _, _, _⟩) (v := rhy RS b0 L0.length e0) rfl (by kernel_rfl) (by kernel_rfl) (by kernel_rfl) (fun _ _ _ h => h) (Or.inl ⟨by rfl, fun W hSw => by go_simp⟩) (by assumption) ?_
          try simp only [Act.put, List.setIfInBounds_toArray, List.set_cons_zero, List.set_cons_succ]
          refine wpAnyH_take (i := 8) (oi := ⟨some 40, _, _, _, _, _⟩) (v := rhy RS b1 L1.length e1) rfl (by kernel_rfl) (by kernel_rfl) (by kernel_rfl) (fun _ _ _ h => h) (Or.inl ⟨by rfl, fun W hSw => by go_simp⟩) (by assumption) ?_
          try simp only [Act.put, List.setIfInBounds_toArray, List.set_cons_zero, List.set_cons_succ]
          refine wpAnyH_take (i := 9) (oi := ⟨some 41, _, _, _, _, _⟩) (v := .bool RB) rfl (by kernel_rfl) (by kernel_rfl) (by kernel_rfl) (fun _ _ _ h => h) (Or.inl ⟨by rfl, fun W hSw => by go_simp⟩) (by assumption) ?_
          try simp only [Act.put, List.setIfInBounds_toArray, List.set_cons_zero, List.set_cons_succ]
          have hne : g0 ≠ g1 := by omega
          have hd0 : g0 < y4.heap.size ∨ y5.heap.size ≤ g0 := by omega
          have hd1 : g1 < y4.heap.size ∨ y5.heap.size ≤ g1 := by omega
          obtain ⟨q0, q1, q2, q3⟩ := bx0_5.facts
          obtain ⟨r0, r1, r2, r3⟩ := bx1_5.facts
          refine wpAnyH_ready (rs := [12]) (by kernel_rfl) (by simp) ?_
          refine AllReadyH.cons rfl (fun K hKK => ?_) AllReadyH.nil
          go_simp
          have hq6 := below_set2 (o := 0) (p := 1) (u := (.int .i64 RS)) (v := (.slice b0 L0.length e0)) hq5 gl0
          have ba0 := (bx0_5.set0 (.int .i64 RS)).set1 (.slice b0 L0.length e0)
          have bo1 := (bx1_5.other (c := g0) (o := 0) (.int .i64 RS) (by omega)).other (c := g0) (o := 1) (.slice b0 L0.length e0) (by omega)
          have ra0 := row_put (u := (.int .i64 RS)) (v := (.slice b0 L0.length e0)) row0_5 (N := g0) (by omega)
          have ra1 := row_put (u := (.int .i64 RS)) (v := (.slice b0 L0.length e0)) row1_5 (N := g0) (by omega)
          refine hKK.out _ _ (HK.out _ hq6) (fun hSS6 => ?_)
          clear hKK hSS5
          try simp only [Act.put, List.setIfInBounds_toArray, List.set_cons_zero, List.set_cons_succ]
          obtain ⟨y6, hy⟩ : ∃ y, y = (y5.setCell ⟨g0, 0, none⟩ (.int .i64 RS)).setCell ⟨g0, 1, none⟩ (.slice b0 L0.length e0) := ⟨_, rfl⟩
          rw [← hy] at hq6 ba0 bo1 ra0 ra1 hSS6 ⊢
          have hz6 : y6.heap.size = y5.heap.size := by rw [hy]; simp
          clear hy q0 q1 q2 q3 r0 r1 r2 r3
          obtain ⟨q0, q1, q2, q3⟩ := ba0.facts
          obtain ⟨r0, r1, r2, r3⟩ := bo1.facts
          have lt1 := bo1.lt
          have ra0' := ra0
          have ra1' := ra1
          clear ra0 ra1
          refine wpAnyH_ready (rs := [13]) (by kernel_rfl) (by simp) ?_
          refine AllReadyH.cons rfl (fun K hKK => ?_) AllReadyH.nil
          go_simp
          have hq7 := below_set2 (o := 0) (p := 1) (u := (.int .i64 RS)) (v := (.slice b1 L1.length e1)) hq6 gl1
          have ba1 := (bo1.set0 (.int .i64 RS)).set1 (.slice b1 L1.length e1)
          have bo0 := (ba0.other (c := g1) (o := 0) (.int .i64 RS) (by omega)).other (c := g1) (o := 1) (.slice b1 L1.length e1) (by omega)
          have ra0 := row_put (u := (.int .i64 RS)) (v := (.slice b1 L1.length e1)) ra0' (N := g1) (by omega)
          have ra1 := row_put (u := (.int .i64 RS)) (v := (.slice b1 L1.length e1)) ra1' (N := g1) (by omega)
          refine hKK.out _ _ (HK.out _ hq7) (fun hSS7 => ?_)
          clear hKK hSS6
          try simp only [Act.put, List.setIfInBounds_toArray, List.set_cons_zero, List.set_cons_succ]
          obtain ⟨y7, hy⟩ : ∃ y, y = (y6.setCell ⟨g1, 0, none⟩ (.int .i64 RS)).setCell ⟨g1, 1, none⟩ (.slice b1 L1.length e1) := ⟨_, rfl⟩
          rw [← hy] at hq7 ba1 bo0 ra0 ra1 hSS7 ⊢
          have hz7 : y7.heap.size = y6.heap.size := by rw [hy]; simp
          clear hy q0 q1 q2 q3 r0 r1 r2 r3
          refine wpAnyH_take (i := 14) (oi := ⟨some 10, _, _, _, _, _⟩) (v := .bool RB) rfl (by kernel_rfl) (by kernel_rfl) (by kernel_rfl) (fun _ _ _ h => h) (Or.inl ⟨by rfl, fun W hSw => by go_simp⟩) (by assumption) ?_
          try simp only [Act.put, List.setIfInBounds_toArray, List.set_cons_zero, List.set_cons_succ]
          refine wpAnyH_done (by kernel_rfl) ?_ _
          exact HKK.out _ _ _ _ _ _ _ _ _ _ _ _ _ _ _ _ _ bo0.two ba1.two ((ra0.hi).lo (by have := hq4.size; omega)) ((ra1.hi).lo (by have := hq4.size; omega)) hq7
      · go_simp
        have hc := bel1 y2 (.cells #[.int .i64 0, .slice none 0 0] 26)
        have bxn := box_new y2 (.int .i64 0) (.slice none 0 0) 26
        obtain ⟨y3, hy⟩ : ∃ y, y = y2.alloc (.cells #[.int .i64 0, .slice none 0 0] 26) := ⟨_, rfl⟩
        rw [← hy] at hc bxn ⊢
        clear hy
        have hz3 := hc.size
        have hq3 := hq2.trans (hc.mono hq2.size)
        have bx0_3 := bx0_2.keep hc bx0_2.lt
        have bl0_3 := bx0_3.lt
        have in0_3 := in0_2.below hc
        obtain ⟨g1, hg1⟩ : ∃ g, y2.heap.size = g := ⟨_, rfl⟩
        have bx1_3 : Box y3 g1 (.int .i64 0) (.slice none 0 0) 26 := by rw [← hg1]; exact bxn
        have gl1 : W.heap.size ≤ g1 := by rw [← hg1]; exact hq2.size
        have bl1_3 := bx1_3.lt
        refine hKK.out _ _ (HK.out _ hq3) (fun hSS3 => ?_)
        clear hKK hSS2 hc bxn
        try simp only [Act.put, List.setIfInBounds_toArray, List.set_cons_zero, List.set_cons_succ]
        rw [hg1]
        refine wpAnyH_ready (rs := [3]) (by kernel_rfl) (by simp) ?_
        refine AllReadyH.cons rfl (fun K hKK => ?_) AllReadyH.nil
        go_simp
        go_at_call 30
        refine (to_rhythm s1 a1 len1 cap1 z1 _ (HIX1.out _ hq3) hl1).mono ?_
        rintro e y4 ⟨p1, c1, rfl, hown, hc⟩
        have hz4 := hc.size
        have hq4 := hq3.trans (hc.mono hq3.size)
        have bx0_4 := bx0_3.keep hc bx0_3.lt
        have bl0_4 := bx0_4.lt
        have in0_4 := in0_3.below hc
        have bx1_4 := bx1_3.keep hc bx1_3.lt
        have bl1_4 := bx1_4.lt
        have in1_4 := intsAt_own hown HZ1.out
        clear hown hc
        refine hKK.out _ _ (HK.out _ hq4) (fun hSS4 => ?_)
        clear hKK hSS3
        try simp only [Act.put, List.setIfInBounds_toArray, List.set_cons_zero, List.set_cons_succ]
        refine wpAnyH_ready (rs := [5]) (by kernel_rfl) (by simp) ?_
        refine AllReadyH.cons rfl (fun K hKK => ?_) AllReadyH.nil
        go_simp
        go_at_call 52
        refine (HCL.out p0 c0 p1 c1 _ in0_4 in1_4).mono ?_
        rintro e y5 ⟨b0, e0, b1, e1, m, rfl, rowA, rowB, hm, hc⟩
        have hz5 := hc.size
        have hq5 := hq4.trans (hc.mono hq4.size)
        have bx0_5 := bx0_4.keep hc bx0_4.lt
        have bl0_5 := bx0_5.lt
        have bx1_5 := bx1_4.keep hc bx1_4.lt
        have bl1_5 := bx1_5.lt
        have row0_5 := rowA
        have row1_5 := rowB
        have hmz := rowA.2.2
        clear rowA rowB hc
        refine hKK.out _ _ (HK.out _ hq5) (fun hSS5 => ?_)
        clear hKK hSS4
        try simp only [Act.put, List.setIfInBounds_toArray, List.set_cons_zero, List.set_cons_succ]
        refine wpAnyH_take (i := 6) (oi := ⟨some 32, _, _, _, _, _⟩) (v := .tuple #[rhy RS b0 L0.length e0, rhy RS b1 L1.length e1, .bool RB]) rfl (by kernel_rfl) (by kernel_rfl) (by kernel_rfl) (fun _ _ _ h => h) (Or.inl ⟨by rfl, fun W hSw => by go_simp⟩) (by assumption) ?_
        try simp only [Act.put, List.setIfInBounds_toArray, List.set_cons_zero, List.set_cons_succ]
        refine wpAnyH_take (i := 7) (oi := ⟨some 39, _, _, _, _, _⟩) (v := rhy RS b0 L0.length e0) rfl (by kernel_rfl) (by kernel_rfl) (by kernel_rfl) (fun _ _ _ h => h) (Or.inl ⟨by rfl, fun W hSw => by go_simp⟩) (by assumption) ?_
        try simp only [Act.put, List.setIfInBounds_toArray, List.set_cons_zero, List.set_cons_succ]
        refine wpAnyH_take (i := 8) (oi := ⟨some 40, _, _, _, _, _⟩) (v := rhy RS b1 L1.length e1) rfl (by kernel_rfl) (by kernel_rfl) (by kernel_rfl) (fun _ _ _ h => h) (Or.inl ⟨by rfl, fun W hSw => by go_simp⟩) (by assumption) ?_
        try simp only [Act.put, List.setIfInBounds_toArray, List.set_cons_zero, List.set_cons_succ]
        refine wpAnyH_take (i := 9) (oi := ⟨some 41, _, _, _, _, _⟩) (v := .bool RB) rfl (by kernel_rfl) (by kernel_rfl) (by kernel_rfl) (fun _ _ _ h => h) (Or.inl ⟨by rfl, fun W hSw => by go_simp⟩) (by assumption) ?_
        try simp only [Act.put, List.setIfInBounds_toArray, List.set_cons_zero, List.set_cons_succ]
        have hne : g0 ≠ g1 := by omega
        have hd0 : g0 < y4.heap.size ∨ y5.heap.size ≤ g0 := by omega
        have hd1 : g1 < y4.heap.size ∨ y5.heap.size ≤ g1 := by omega
        obtain ⟨q0, q1, q2, q3⟩ := bx0_5.facts
        obtain ⟨r0, r1, r2, r3⟩ := bx1_5.facts
        refine wpAnyH_ready (rs := [12]) (by kernel_rfl) (by simp) ?_
        refine AllReadyH.cons rfl (fun K hKK => ?_) AllReadyH.nil
        go_simp
        have hq6 := below_set2 (o := 0) (p := 1) (u := (.int .i64 RS)) (v := (.slice b0 L0.length e0)) hq5 gl0
        have ba0 := (bx0_5.set0 (.int .i64 RS)).set1 (.slice b0 L0.length e0)
        have bo1 := (bx1_5.other (c := g0) (o := 0) (.int .i64 RS) (by omega)).other (c := g0) (o := 1) (.slice b0 L0.length e0) (by omega)
        have ra0 := row_put (u := (.int .i64 RS)) (v := (.slice b0 L0.length e0)) row0_5 (N := g0) (by omega)
        have ra1 := row_put (u := (.int .i64 RS)) (v := (.slice b0 L0.length e0)) row1_5 (N := g0) (by omega)
        refine hKK.out _ _ (HK.out _ hq6) (fun hSS6 => ?_)
        clear hKK hSS5
        try simp only [Act.put, List.setIfInBounds_toArray, List.set_cons_zero, List.set_cons_succ]
        obtain ⟨y6, hy⟩ : ∃ y, y = (y5.setCell ⟨g0, 0, none⟩ (.int .i64 RS)).setCell ⟨g0, 1, none⟩ (.slice b0 L0.length e0) := ⟨_, rfl⟩
        rw [← hy] at hq6 ba0 bo1 ra0 ra1 hSS6 ⊢
        have hz6 : y6.heap.size = y5.heap.size := by rw [hy]; simp
        clear hy q0 q1 q2 q3 r0 r1 r2 r3
        obtain ⟨q0, q1, q2, q3⟩ := ba0.facts
        obtain ⟨r0, r1, r2, r3⟩ := bo1.facts
        have lt1 := bo1.lt
        have ra0' := ra0
        have ra1' := ra1
        clear ra0 ra1
        refine wpAnyH_ready (rs := [13]) (by kernel_rfl) (by simp) ?_
        refine AllReadyH.cons rfl (fun K hKK => ?_) AllReadyH.nil
        go_simp
        have hq7 := below_set2 (o := 0) (p := 1) (u := (.int .i64 RS)) (v := (.slice b1 L1.length e1)) hq6 gl1
        have ba1 := (bo1.set0 (.int .i64 RS)).set1 (.slice b1 L1.length e1)
        have bo0 := (ba0.other (c := g1) (o := 0) (.int .i64 RS) (by omega)).other (c := g1) (o := 1) (.slice b1 L1.length e1) (by omega)
        have ra0 := row_put (u := (.int .i64 RS)) (v := (.slice b1 L1.length e1)) ra0' (N := g1) (by omega)
        have ra1 := row_put (u := (.int .i64 RS)) (v := (.slice b1 L1.length e1)) ra1' (N := g1) (by omega)
        refine hKK.out _ _ (HK.out _ hq7) (fun hSS7 => ?_)
        clear hKK hSS6
        try simp only [Act.put, List.setIfInBounds_toArray, List.set_cons_zero, List.set_cons_succ]
        obtain ⟨y7, hy⟩ : ∃ y, y = (y6.setCell ⟨g1, 0, none⟩ (.int .i64 RS)).setCell ⟨g1, 1, none⟩ (.slice b1 L1.length e1) := ⟨_, rfl⟩
        rw [← hy] at hq7 ba1 bo0 ra0 ra1 hSS7 ⊢
        have hz7 : y7.heap.size = y6.heap.size := by rw [hy]; simp
        clear hy q0 q1 q2 q3 r0 r1 r2 r3
        refine wpAnyH_take (i := 14) (oi := ⟨some 10, _, _, _, _, _⟩) (v := .bool RB) rfl (by kernel_rfl) (by kernel_rfl) (by kernel_rfl) (fun _ _ _ h => h) (Or.inl ⟨by rfl, fun W hSw => by go_simp⟩) (by assumption) ?_
        try simp only [Act.put, List.setIfInBounds_toArray, List.set_cons_zero, List.set_cons_succ]
        refine wpAnyH_done (by kernel_rfl) ?_ _
        exact HKK.out _ _ _ _ _ _ _ _ _ _ _ _ _ _ _ _ _ bo0.two ba1.two ((ra0.hi).lo (by have := hq4.size; omega)) ((ra1.hi).lo (by have := hq4.size; omega)) hq7
    · go_simp
      have hc := bel1 y1 (.cells #[.int .i64 0, .slice none 0 0] 26)
      have bxn := box_new y1 (.int .i64 0) (.slice none 0 0) 26
      obtain ⟨y2, hy⟩ : ∃ y, y = y1.alloc (.cells #[.int .i64 0, .slice none 0 0] 26) := ⟨_, rfl⟩
      rw [← hy] at hc bxn ⊢
      clear hy
      have hz2 := hc.size
      have hq2 := hq1.trans (hc.mono hq1.size)
      have in0_2 := in0_1.below hc
      obtain ⟨g1, hg1⟩ : ∃ g, y1.heap.size = g := ⟨_, rfl⟩
      have bx1_2 : Box y2 g1 (.int .i64 0) (.slice none 0 0) 26 := by rw [← hg1]; exact bxn
      have gl1 : W.heap.size ≤ g1 := by rw [← hg1]; exact hq1.size
      have bl1_2 := bx1_2.lt
      refine hKK.out _ _ (HK.out _ hq2) (fun hSS2 => ?_)
      clear hKK hSS1 hc bxn
      try simp only [Act.put, List.setIfInBounds_toArray, List.set_cons_zero, List.set_cons_succ]
      rw [hg1]
      refine wpAnyH_ready (rs := [3, 10]) (by kernel_rfl) (by simp) ?_
      refine AllReadyH.cons rfl (fun K hKK => ?_) (AllReadyH.cons rfl (fun K hKK => ?_) AllReadyH.nil)
      · go_simp
        go_at_call 30
        refine (to_rhythm s1 a1 len1 cap1 z1 _ (HIX1.out _ hq2) hl1).mono ?_
        rintro e y3 ⟨p1, c1, rfl, hown, hc⟩
        have hz3 := hc.size
        have hq3 := hq2.trans (hc.mono hq2.size)
        have in0_3 := in0_2.below hc
        have bx1_3 := bx1_2.keep hc bx1_2.lt
        have bl1_3 := bx1_3.lt
        have in1_3 := intsAt_own hown HZ1.out
        clear hown hc
        refine hKK.out _ _ (HK.out _ hq3) (fun hSS3 => ?_)
        clear hKK hSS2
        try simp only [Act.put, List.setIfInBounds_toArray, List.set_cons_zero, List.set_cons_succ]
        refine wpAnyH_ready (rs := [5, 10]) (by kernel_rfl) (by simp) ?_
        refine AllReadyH.cons rfl (fun K hKK => ?_) (AllReadyH.cons rfl (fun K hKK => ?_) AllReadyH.nil)
        · go_simp
          go_at_call 52
          refine (HCL.out p0 c0 p1 c1 _ in0_3 in1_3).mono ?_
          rintro e y4 ⟨b0, e0, b1, e1, m, rfl, rowA, rowB, hm, hc⟩
          have hz4 := hc.size
          have hq4 := hq3.trans (hc.mono hq3.size)
          have bx1_4 := bx1_3.keep hc bx1_3.lt
          have bl1_4 := bx1_4.lt
          have row0_4 := rowA
          have row1_4 := rowB
          have hmz := rowA.2.2
          clear rowA rowB hc
          refine hKK.out _ _ (HK.out _ hq4) (fun hSS4 => ?_)
          clear hKK hSS3
          try simp only [Act.put, List.setIfInBounds_toArray, List.set_cons_zero, List.set_cons_succ]
          refine wpAnyH_take (i := 6) (oi := ⟨some 32, _, _, _, _, _⟩) (v := .tuple #[rhy RS b0 L0.length e0, rhy RS b1 L1.length e1, .bool RB]) rfl (by kernel_rfl) (by kernel_rfl) (by kernel_rfl) (fun _ _ _ h => h) (Or.inl ⟨by rfl, fun W hSw => by go_simp⟩) (by assumption) ?_
          try simp only [Act.put, List.setIfInBounds_toArray, List.set_cons_zero, List.set_cons_succ]
          refine wpAnyH_take (i := 7) (oi := ⟨some 39, _, _, _, _, _⟩) (v := rhy RS b0 L0.length e0) rfl (by kernel_rfl) (by kernel_rfl) (by kernel_rfl) (fun _ _ _ h => h) (Or.inl ⟨by rfl, fun W hSw => by go_simp⟩) (by assumption) ?_
          try simp only [Act.put, List.setIfInBounds_toArray, List.set_cons_zero, List.set_cons_succ]
          refine wpAnyH_take (i := 8) (oi := ⟨some 40, _, _, _, _, _⟩) (v := rhy RS b1 L1.length e1) rfl (by kernel_rfl) (by kernel_rfl) (by kernel_rfl) (fun _ _ _ h => h) (Or.inl ⟨by rfl, fun W hSw => by go_simp⟩) (by assumption) ?_
          try simp only [Act.put, List.setIfInBounds_toArray, List.set_cons_zero, List.set_cons_succ]
          refine wpAnyH_take (i := 9) (oi := ⟨some 41, _, _, _, _, _⟩) (v := .bool RB) rfl (by kernel_rfl) (by kernel_rfl) (by kernel_rfl) (fun _ _ _ h => h) (Or.inl ⟨by rfl, fun W hSw => by go_simp⟩) (by assumption) ?_
          try simp only [Act.put, List.setIfInBounds_toArray, List.set_cons_zero, List.set_cons_succ]
          refine wpAnyH_ready (rs := [10]) (by kernel_rfl) (by simp) ?_
          refine AllReadyH.cons rfl (fun K hKK => ?_) AllReadyH.nil
          go_simp
          have hc := bel1 y4 (.cells #[.int .i64 0, .slice none 0 0] 26)
          have bxn := box_new y4 (.int .i64 0) (.slice none 0 0) 26
          obtain ⟨y5, hy⟩ : ∃ y, y = y4.alloc (.cells #[.int .i64 0, .slice none 0 0] 26) := ⟨_, rfl⟩
          rw [← hy] at hc bxn ⊢
          clear hy
          have hz5 := hc.size
          have hq5 := hq4.trans (hc.mono hq4.size)
          have row0_5 := row0_4.keep hc
          have bx1_5 := bx1_4.keep hc bx1_4.lt
          have bl1_5 := bx1_5.lt
          have row1_5 := row1_4.keep hc
          obtain ⟨g0, hg0⟩ : ∃ g, y4.heap.size = g := ⟨_, rfl⟩
          have bx0_5 : Box y5 g0 (.int .i64 0) (.slice none 0 0) 26 := by rw [← hg0]; exact bxn
          have gl0 : W.heap.size ≤ g0 := by rw [← hg0]; exact hq4.size
          have bl0_5 := bx0_5.lt
          refine hKK.out _ _ (HK.out _ hq5) (fun hSS5 => ?_)
          clear hKK hSS4 hc bxn
          try simp only [Act.put, List.setIfInBounds_toArray, List.set_cons_zero, List.set_cons_succ]
          rw [hg0]
          have hne : g0 ≠ g1 := by omega
          have hd0 : g0 < y3.heap.size ∨ y4.heap.size ≤ g0 := by omega
          have hd1 : g1 < y3.heap.size ∨ y4.heap.size ≤ g1 := by omega
          obtain ⟨q0, q1, q2, q3⟩ := bx0_5.facts
          obtain ⟨r0, r1, r2, r3⟩ := bx1_5.facts
          refine wpAnyH_ready (rs := [12]) (by kernel_rfl) (by simp) ?_
          refine AllReadyH.cons rfl (fun K hKK => ?_) AllReadyH.nil
          go_simp
          have hq6 := below_set2 (o := 0) (p := 1) (u := (.int .i64 RS)) (v := (.slice b0 L0.length e0)) hq5 gl0
          have ba0 := (bx0_5.set0 (.int .i64 RS)).set1 (.slice b0 L0.length e0)
          have bo1 := (bx1_5.other (c := g0) (o := 0) (.int .i64 RS) (by omega)).other (c := g0) (o := 1) (.slice b0 L0.length e0) (by omega)
          have ra0 := row_put (u := (.int .i64 RS)) (v := (.slice b0 L0.length e0)) row0_5 (N := g0) (by omega)
          have ra1 := row_put (u := (.int .i64 RS)) (v := (.slice b0 L0.length e0)) row1_5 (N := g0) (by omega)
          refine hKK.out _ _ (HK.out _ hq6) (fun hSS6 => ?_)
          clear hKK hSS5
          try simp only [Act.put, List.setIfInBounds_toArray, List.set_cons_zero, List.set_cons_succ]
          obtain ⟨y6, hy⟩ : ∃ y, y = (y5.setCell ⟨g0, 0, none⟩ (.int .i64 RS)).setCell ⟨g0, 1, none⟩ (.slice b0 L0.length e0) := ⟨_, rfl⟩
          rw [← hy] at hq6 ba0 bo1 ra0 ra1 hSS6 ⊢
          have hz6 : y6.heap.size = y5.heap.size := by rw [hy]; simp
          clear hy q0 q1 q2 q3 r0 r1 r2 r3
          obtain ⟨q0, q1, q2, q3⟩ := ba0.facts
          obtain ⟨r0, r1, r2, r3⟩ := bo1.facts
          have lt1 := bo1.lt
          have ra0' := ra0
          have ra1' := ra1
          clear ra0 ra1
          refine wpAnyH_ready (rs := [13]) (by kernel_rfl) (by simp) ?_
          refine AllReadyH.cons rfl (fun K hKK => ?_) AllReadyH.nil
          go_simp
          have hq7 := below_set2 (o := 0) (p := 1) (u := (.int .i64 RS)) (v := (.slice b1 L1.length e1)) hq6 gl1
          have ba1 := (bo1.set0 (.int .i64 RS)).set1 (.slice b1 L1.length e1)
          have bo0 := (ba0.other (c := g1) (o := 0) (.int .i64 RS) (by omega)).other (c := g1) (o := 1) (.slice b1 L1.length e1) (by omega)
          have ra0 := row_put (u := (.int .i64 RS)) (v := (.slice b1 L1.length e1)) ra0' (N := g1) (by omega)
          have ra1 := row_put (u := (.int .i64 RS)) (v := (.slice b1 L1.length e1)) ra1' (N := g1) (by omega)
          refine hKK.out _ _ (HK.out _ hq7) (fun hSS7 => ?_)
          clear hKK hSS6
          try simp only [Act.put, List.setIfInBounds_toArray, List.set_cons_zero, List.set_cons_succ]
          obtain ⟨y7, hy⟩ : ∃ y, y = (y6.setCell ⟨g1, 0, none⟩ (.int .i64 RS)).setCell ⟨g1, 1, none⟩ (.slice b1 L1.length e1) := ⟨_, rfl⟩
          rw [← hy] at hq7 ba1 bo0 ra0 ra1 hSS7 ⊢
          have hz7 : y7.heap.size = y6.heap.size := by rw [hy]; simp
          clear hy q0 q1 q2 q3 r0 r1 r2 r3
          refine wpAnyH_take (i := 14) (oi := ⟨some 10, _, _, _, _, _⟩) (v := .bool RB) rfl (by kernel_rfl) (by kernel_rfl) (by kernel_rfl) (fun _ _ _ h => h) (Or.inl ⟨by rfl, fun W hSw => by go_simp⟩) (by assumption) ?_
          try simp only [Act.put, List.setIfInBounds_toArray, List.set_cons_zero, List.set_cons_succ]
          refine wpAnyH_done (by kernel_rfl) ?_ _
          exact HKK.out _ _ _ _ _ _ _ _ _ _ _ _ _ _ _ _ _ bo0.two ba1.two ((ra0.hi).lo (by have := hq3.size; omega)) ((ra1.hi).lo (by have := hq3.size; omega)) hq7
        · go_simp
          have hc := bel1 y3 (.cells #[.int .i64 0, .slice none 0 0] 26)
          have bxn := box_new y3 (.int .i64 0) (.slice none 0 0) 26
          obtain ⟨y4, hy⟩ : ∃ y, y = y3.alloc (.cells #[.int .i64 0, .slice none 0 0] 26) := ⟨_, rfl⟩
          rw [← hy] at hc bxn ⊢
          clear hy
          have hz4 := hc.size
          have hq4 := hq3.trans (hc.mono hq3.size)
          have in0_4 := in0_3.below hc
          have bx1_4 := bx1_3.keep hc bx1_3.lt
          have bl1_4 := bx1_4.lt
          have in1_4 := in1_3.below hc
          obtain ⟨g0, hg0⟩ : ∃ g, y3.heap.size = g := ⟨_, rfl⟩
          have bx0_4 : Box y4 g0 (.int .i64 0) (.slice none 0 0) 26 := by rw [← hg0]; exact bxn
          have gl0 : W.heap.size ≤ g0 := by rw [← hg0]; exact hq3.size
          have bl0_4 := bx0_4.lt
          refine hKK.out _ _ (HK.out _ hq4) (fun hSS4 => ?_)
          clear hKK hSS3 hc bxn
          try simp only [Act.put, List.setIfInBounds_toArray, List.set_cons_zero, List.set_cons_succ]
          rw [hg0]
          refine wpAnyH_ready (rs := [5]) (by kernel_rfl) (by simp) ?_
          refine AllReadyH.cons rfl (fun K hKK => ?_) AllReadyH.nil
          go_simp
          go_at_call 52
          refine (HCL.out p0 c0 p1 c1 _ in0_4 in1_4).mono ?_
          rintro e y5 ⟨b0, e0, b1, e1, m, rfl, rowA, rowB, hm, hc⟩
          have hz5 := hc.size
          have hq5 := hq4.trans (hc.mono hq4.size)
          have bx0_5 := bx0_4.keep hc bx0_4.lt
          have bl0_5 := bx0_5.lt
          have bx1_5 := bx1_4.keep hc bx1_4.lt
          have bl1_5 := bx1_5.lt
          have row0_5 := rowA
          have row1_5 := rowB
          have hmz := rowA.2.2
          clear rowA rowB hc
          refine hKK.out _ _ (HK.out _ hq5) (fun hSS5 => ?_)
          clear hKK hSS4
          try simp only [Act.put, List.setIfInBounds_toArray, List.set_cons_zero, List.set_cons_succ]
          refine wpAnyH_take (i := 6) (oi := ⟨some 32, _, _, _, _, _⟩) (v := .tuple #[rhy RS b0 L0.length e0, rhy RS b1 L1.length e1, .bool RB]) rfl (by kernel_rfl) (by kernel_rfl) (by kernel_rfl) (fun _ _ _ h => h) (Or.inl ⟨by rfl, fun W hSw => by go_simp⟩) (by assumption) ?_
          try simp only [Act.put, List.setIfInBounds_toArray, List.set_cons_zero, List.set_cons_succ]
          refine wpAnyH_take (i := 7) (oi := ⟨some 39, _, _, _, _, _⟩) (v := rhy RS b0 L0.length e0) rfl (by kernel_rfl) (by kernel_rfl) (by kernel_rfl) (fun _ _ _ h => h) (Or.inl ⟨by rfl, fun W hSw => by go_simp⟩) (by assumption) ?_
          try simp only [Act.put, List.setIfInBounds_toArray, List.set_cons_zero, List.set_cons_succ]
          refine wpAnyH_take (i := 8) (oi := ⟨some 40, _, _, _, _, _⟩) (v := rhy RS b1 L1.length e1) rfl (by kernel_rfl) (by kernel_rfl) (by kernel_rfl) (fun _ _ _ h => h) (Or.inl ⟨by rfl, fun W hSw => by go_simp⟩) (by assumption) ?_
          try simp only [Act.put, List.setIfInBounds_toArray, List.set_cons_zero, List.set_cons_succ]
          refine wpAnyH_take (i := 9) (oi := ⟨some 41, _, _, _, _, _⟩) (v := .bool RB) rfl (by kernel_rfl) (by kernel_rfl) (by kernel_rfl) (fun _ _ _ h => h) (Or.inl ⟨by rfl, fun W hSw => by go_simp⟩) (by assumption) ?_
          try simp only [Act.put, List.setIfInBounds_toArray, List.set_cons_zero, List.set_cons_succ]
          have hne : g0 ≠ g1 := by omega
          have hd0 : g0 < y4.heap.size ∨ y5.heap.size ≤ g0 := by omega
          have hd1 : g1 < y4.heap.size ∨ y5.heap.size ≤ g1 := by omega
          obtain ⟨q0, q1, q2, q3⟩ := bx0_5.facts
          obtain ⟨r0, r1, r2, r3⟩ := bx1_5.facts
          refine wpAnyH_ready (rs := [12]) (by kernel_rfl) (by simp) ?_
          refine AllReadyH.cons rfl (fun K hKK => ?_) AllReadyH.nil
          go_simp
          have hq6 := below_set2 (o := 0) (p := 1) (u := (.int .i64 RS)) (v := (.slice b0 L0.length e0)) hq5 gl0
          have ba0 := (bx0_5.set0 (.int .i64 RS)).set1 (.slice b0 L0.length e0)
          have bo1 := (bx1_5.other (c := g0) (o := 0) (.int .i64 RS) (by omega)).other (c := g0) (o := 1) (.slice b0 L0.length e0) (by omega)
          have ra0 := row_put (u := (.int .i64 RS)) (v := (.slice b0 L0.length e0)) row0_5 (N := g0) (by omega)
          have ra1 := row_put (u := (.int .i64 RS)) (v := (.slice b0 L0.length e0)) row1_5 (N := g0) (by omega)
          refine hKK.out _ _ (HK.out _ hq6) (fun hSS6 => ?_)
          clear hKK hSS5
          try simp only [Act.put, List.setIfInBounds_toArray, List.set_cons_zero, List.set_cons_succ]
          obtain ⟨y6, hy⟩ : ∃ y, y = (y5.setCell ⟨g0, 0, none⟩ (.int .i64 RS)).setCell ⟨g0, 1, none⟩ (.slice b0 L0.length e0) := ⟨_, rfl⟩
          rw [← hy] at hq6 ba0 bo1 ra0 ra1 hSS6 ⊢
          have hz6 : y6.heap.size = y5.heap.size := by rw [hy]; simp
          clear hy q0 q1 q2 q3 r0 r1 r2 r3
          obtain ⟨q0, q1, q2, q3⟩ := ba0.facts
          obtain ⟨r0, r1, r2, r3⟩ := bo1.facts
          have lt1 := bo1.lt
          have ra0' := ra0
          have ra1' := ra1
          clear ra0 ra1
          refine wpAnyH_ready (rs := [13]) (by kernel_rfl) (by simp) ?_
          refine AllReadyH.cons rfl (fun K hKK => ?_) AllReadyH.nil
          go_simp
          have hq7 := below_set2 (o := 0) (p := 1) (u := (.int .i64 RS)) (v := (.slice b1 L1.length e1)) hq6 gl1
          have ba1 := (bo1.set0 (.int .i64 RS)).set1 (.slice b1 L1.length e1)
          have bo0 := (ba0.other (c := g1) (o := 0) (.int .i64 RS) (by omega)).other (c := g1) (o := 1) (.slice b1 L1.length e1) (by omega)
          have ra0 := row_put (u := (.int .i64 RS)) (v := (.slice b1 L1.length e1)) ra0' (N := g1) (by omega)
          have ra1 := row_put (u := (.int .i64 RS)) (v := (.slice b1 L1.length e1)) ra1' (N := g1) (by omega)
          refine hKK.out _ _ (HK.out _ hq7) (fun hSS7 => ?_)
          clear hKK hSS6
          try simp only [Act.put, List.setIfInBounds_toArray, List.set_cons_zero, List.set_cons_succ]
          obtain ⟨y7, hy⟩ : ∃ y, y = (y6.setCell ⟨g1, 0, none⟩ (.int .i64 RS)).setCell ⟨g1, 1, none⟩ (.slice b1 L1.length e1) := ⟨_, rfl⟩
          rw [← hy] at hq7 ba1 bo0 ra0 ra1 hSS7 ⊢
          have hz7 : y7.heap.size = y6.heap.size := by rw [hy]; simp
          clear hy q0 q1 q2 q3 r0 r1 r2 r3
          refine wpAnyH_take (i := 14) (oi := ⟨some 10, _, _, _, _, _⟩) (v := .bool RB) rfl (by kernel_rfl) (by kernel_rfl) (by kernel_rfl) (fun _ _ _ h => h) (Or.inl ⟨by rfl, fun W hSw => by go_simp⟩) (by assumption) ?_
          try simp only [Act.put, List.setIfInBounds_toArray, List.set_cons_zero, List.set_cons_succ]
          refine wpAnyH_done (by kernel_rfl) ?_ _
          exact HKK.out _ _ _ _ _ _ _ _ _ _ _ _ _ _ _ _ _ bo0.two ba1.two ((ra0.hi).lo (by have := hq4.size; omega)) ((ra1.hi).lo (by have := hq4.size; omega)) hq7
      · go_simp
        have hc := bel1 y2 (.cells #[.int .i64 0, .slice none 0 0] 26)
        have bxn := box_new y2 (.int .i64 0) (.slice none 0 0) 26
        obtain ⟨y3, hy⟩ : ∃ y, y = y2.alloc (.cells #[.int .i64 0, .slice none 0 0] 26) := ⟨_, rfl⟩
        rw [← hy] at hc bxn ⊢
        clear hy
        have hz3 := hc.size
        have hq3 := hq2.trans (hc.mono hq2.size)
        have in0_3 := in0_2.below hc
        have bx1_3 := bx1_2.keep hc bx1_2.lt
        have bl1_3 := bx1_3.lt
        obtain ⟨g0, hg0⟩ : ∃ g, y2.heap.size = g := ⟨_, rfl⟩
        have bx0_3 : Box y3 g0 (.int .i64 0) (.slice none 0 0) 26 := by rw [← hg0]; exact bxn
        have gl0 : W.heap.size ≤ g0 := by rw [← hg0]; exact hq2.size
        have bl0_3 := bx0_3.lt
        refine hKK.out _ _ (HK.out _ hq3) (fun hSS3 => ?_)
        clear hKK hSS2 hc bxn
        try simp only [Act.put, List.setIfInBounds_toArray, List.set_cons_zero, List.set_cons_succ]
        rw [hg0]
        refine wpAnyH_ready (rs := [3]) (by kernel_rfl) (by simp) ?_
        refine AllReadyH.cons rfl (fun K hKK => ?_) AllReadyH.nil
        go_simp
        go_at_call 30
        refine (to_rhythm s1 a1 len1 cap1 z1 _ (HIX1.out _ hq3) hl1).mono ?_
        rintro e y4 ⟨p1, c1, rfl, hown, hc⟩
        have hz4 := hc.size
        have hq4 := hq3.trans (hc.mono hq3.size)
        have bx0_4 := bx0_3.keep hc bx0_3.lt
        have bl0_4 := bx0_4.lt
        have in0_4 := in0_3.below hc
        have bx1_4 := bx1_3.keep hc bx1_3.lt
        have bl1_4 := bx1_4.lt
        have in1_4 := intsAt_own hown HZ1.out
        clear hown hc
        refine hKK.out _ _ (HK.out _ hq4) (fun hSS4 => ?_)
        clear hKK hSS3
        try simp only [Act.put, List.setIfInBounds_toArray, List.set_cons_zero, List.set_cons_succ]
        refine wpAnyH_ready (rs := [5]) (by kernel_rfl) (by simp) ?_
        refine AllReadyH.cons rfl (fun K hKK => ?_) AllReadyH.nil
        go_simp
        go_at_call 52
        refine (HCL.out p0 c0 p1 c1 _ in0_4 in1_4).mono ?_
        rintro e y5 ⟨b0, e0, b1, e1, m, rfl, rowA, rowB, hm, hc⟩
        have hz5 := hc.size
        have hq5 := hq4.trans (hc.mono hq4.size)
        have bx0_5 := bx0_4.keep hc bx0_4.lt
        have bl0_5 := bx0_5.lt
        have bx1_5 := bx1_4.keep hc bx1_4.lt
        have bl1_5 := bx1_5.lt
        have row0_5 := rowA
        have row1_5 := rowB
        have hmz := rowA.2.2
        clear rowA rowB hc
        refine hKK.out _ _ (HK.out _ hq5) (fun hSS5 => ?_)
        clear hKK hSS4
        try simp only [Act.put, List.setIfInBounds_toArray, List.set_cons_zero, List.set_cons_succ]
        refine wpAnyH_take (i := 6) (oi := ⟨some 32, _, _, _, _, _⟩) (v := .tuple #[rhy RS b0 L0.length e0, rhy RS b1 L1.length e1, .bool RB]) rfl (by kernel_rfl) (by kernel_rfl) (by kernel_rfl) (fun _ _ _ h => h) (Or.inl ⟨by rfl, fun W hSw => by go_simp⟩) (by assumption) ?_
        try simp only [Act.put, List.setIfInBounds_toArray, List.set_cons_zero, List.set_cons_succ]
        refine wpAnyH_take (i := 7) (oi := ⟨some 39, _, _, _, _, _⟩) (v := rhy RS b0 L0.length e0) rfl (by kernel_rfl) (by kernel_rfl) (by kernel_rfl) (fun _ _ _ h => h) (Or.inl ⟨by rfl, fun W hSw => by go_simp⟩) (by assumption) ?_
        try simp only [Act.put, List.setIfInBounds_toArray, List.set_cons_zero, List.set_cons_succ]
        refine wpAnyH_take (i := 8) (oi := ⟨some 40, _, _, _, _, _⟩) (v := rhy RS b1 L1.length e1) rfl (by kernel_rfl) (by kernel_rfl) (by kernel_rfl) (fun _ _ _ h => h) (Or.inl ⟨by rfl, fun W hSw => by go_simp⟩) (by assumption) ?_
        try simp only [Act.put, List.setIfInBounds_toArray, List.set_cons_zero, List.set_cons_succ]
        refine wpAnyH_take (i := 9) (oi := ⟨some 41, _, _, _, _, _⟩) (v := .bool RB) rfl (by kernel_rfl) (by kernel_rfl) (by kernel_rfl) (fun _ _ _ h => h) (Or.inl ⟨by rfl, fun W hSw => by go_simp⟩) (by assumption) ?_
        try simp only [Act.put, List.setIfInBounds_toArray, List.set_cons_zero, List.set_cons_succ]
        have hne : g0 ≠ g1 := by omega
        have hd0 : g0 < y4.heap.size ∨ y5.heap.size ≤ g0 := by omega
        have hd1 : g1 < y4.heap.size ∨ y5.heap.size ≤ g1 := by omega
        obtain ⟨q0, q1, q2, q3⟩ := bx0_5.facts
        obtain ⟨r0, r1, r2, r3⟩ := bx1_5.facts
        refine wpAnyH_ready (rs := [12]) (by kernel_rfl) (by simp) ?_
        refine AllReadyH.cons rfl (fun K hKK => ?_) AllReadyH.nil
        go_simp
        have hq6 := below_set2 (o := 0) (p := 1) (u := (.int .i64 RS)) (v := (.slice b0 L0.length e0)) hq5 gl0
        have ba0 := (bx0_5.set0 (.int .i64 RS)).set1 (.slice b0 L0.length e0)
        have bo1 := (bx1_5.other (c := g0) (o := 0) (.int .i64 RS) (by omega)).other (c := g0) (o := 1) (.slice b0 L0.length e0) (by omega)
        have ra0 := row_put (u := (.int .i64 RS)) (v := (.slice b0 L0.length e0)) row0_5 (N := g0) (by omega)
        have ra1 := row_put (u := (.int .i64 RS)) (v := (.slice b0 L0.length e0)) row1_5 (N := g0) (by omega)
        refine hKK.out _ _ (HK.out _ hq6) (fun hSS6 => ?_)
        clear hKK hSS5
        try simp only [Act.put, List.setIfInBounds_toArray, List.set_cons_zero, List.set_cons_succ]
        obtain ⟨y6, hy⟩ : ∃ y, y = (y5.setCell ⟨g0, 0, none⟩ (.int .i64 RS)).setCell ⟨g0, 1, none⟩ (.slice b0 L0.length e0) := ⟨_, rfl⟩
        rw [← hy] at hq6 ba0 bo1 ra0 ra1 hSS6 ⊢
        have hz6 : y6.heap.size = y5.heap.size := by rw [hy]; simp
        clear hy q0 q1 q2 q3 r0 r1 r2 r3
        obtain ⟨q0, q1, q2, q3⟩ := ba0.facts
        obtain ⟨r0, r1, r2, r3⟩ := bo1.facts
        have lt1 := bo1.lt
        have ra0' := ra0
        have ra1' := ra1
        clear ra0 ra1
        refine wpAnyH_ready (rs := [13]) (by kernel_rfl) (by simp) ?_
        refine AllReadyH.cons rfl (fun K hKK => ?_) AllReadyH.nil
        go_simp
        have hq7 := below_set2 (o := 0) (p := 1) (u := (.int .i64 RS)) (v := (.slice b1 L1.length e1)) hq6 gl1
        have ba1 := (bo1.set0 (.int .i64 RS)).set1 (.slice b1 L1.length e1)
        have bo0 := (ba0.other (c := g1) (o := 0) (.int .i64 RS) (by omega)).other (c := g1) (o := 1) (.slice b1 L1.length e1) (by omega)
        have ra0 := row_put (u := (.int .i64 RS)) (v := (.slice b1 L1.length e1)) ra0' (N := g1) (by omega)
        have ra1 := row_put (u := (.int .i64 RS)) (v := (.slice b1 L1.length e1)) ra1' (N := g1) (by omega)
        refine hKK.out _ _ (HK.out _ hq7) (fun hSS7 => ?_)
        clear hKK hSS6
        try simp only [Act.put, List.setIfInBounds_toArray, List.set_cons_zero, List.set_cons_succ]
        obtain ⟨y7, hy⟩ : ∃ y, y = (y6.setCell ⟨g1, 0, none⟩ (.int .i64 RS)).setCell ⟨g1, 1, none⟩ (.slice b1 L1.length e1) := ⟨_, rfl⟩
        rw [← hy] at hq7 ba1 bo0 ra0 ra1 hSS7 ⊢
        have hz7 : y7.heap.size = y6.heap.size := by rw [hy]; simp
        clear hy q0 q1 q2 q3 r0 r1 r2 r3
        refine wpAnyH_take (i := 14) (oi := ⟨some 10, _, _, _, _, _⟩) (v := .bool RB) rfl (by kernel_rfl) (by kernel_rfl) (by kernel_rfl) (fun _ _ _ h => h) (Or.inl ⟨by rfl, fun W hSw => by go_simp⟩) (by assumption) ?_
        try simp only [Act.put, List.setIfInBounds_toArray, List.set_cons_zero, List.set_cons_succ]
        refine wpAnyH_done (by kernel_rfl) ?_ _
        exact HKK.out _ _ _ _ _ _ _ _ _ _ _ _ _ _ _ _ _ bo0.two ba1.two ((ra0.hi).lo (by have := hq4.size; omega)) ((ra1.hi).lo (by have := hq4.size; omega)) hq7
  · go_simp
    have hc := bel1 y0 (.cells #[.int .i64 0, .slice none 0 0] 26)
    have bxn := box_new y0 (.int .i64 0) (.slice none 0 0) 26
    obtain ⟨y1, hy⟩ : ∃ y, y = y0.alloc (.cells #[.int .i64 0, .slice none 0 0] 26) := ⟨_, rfl⟩
    rw [← hy] at hc bxn ⊢
    clear hy
    have hz1 := hc.size
    have hq1 := hq0.trans (hc.mono hq0.size)
    obtain ⟨g0, hg0⟩ : ∃ g, y0.heap.size = g := ⟨_, rfl⟩
    have bx0_1 : Box y1 g0 (.int .i64 0) (.slice none 0 0) 26 := by rw [← hg0]; exact bxn
    have gl0 : W.heap.size ≤ g0 := by rw [← hg0]; exact hq0.size
    have bl0_1 := bx0_1.lt
    refine hKK.out _ _ (HK.out _ hq1) (fun hSS1 => ?_)
    clear hKK hSS0 hc bxn
    try simp only [Act.put, List.setIfInBounds_toArray, List.set_cons_zero, List.set_cons_succ]
    rw [hg0]
    refine wpAnyH_ready (rs := [1, 11]) (by kernel_rfl) (by simp) ?_
    refine AllReadyH.cons rfl (fun K hKK => ?_) (AllReadyH.cons rfl (fun K hKK => ?_) AllReadyH.nil)
    · go_simp
      go_at_call 30
      refine (to_rhythm s0 a0 len0 cap0 z0 _ (HIX0.out _ hq1) hl0).mono ?_
      rintro e y2 ⟨p0, c0, rfl, hown, hc⟩
      have hz2 := hc.size
      have hq2 := hq1.trans (hc.mono hq1.size)
      have bx0_2 := bx0_1.keep hc bx0_1.lt
      have bl0_2 := bx0_2.lt
      have in0_2 := intsAt_own hown HZ0.out
      clear hown hc
      refine hKK.out _ _ (HK.out _ hq2) (fun hSS2 => ?_)
      clear hKK hSS1
      try simp only [Act.put, List.setIfInBounds_toArray, List.set_cons_zero, List.set_cons_succ]
      refine wpAnyH_ready (rs := [3, 11]) (by kernel_rfl) (by simp) ?_
      refine AllReadyH.cons rfl (fun K hKK => ?_) (AllReadyH.cons rfl (fun K hKK => ?_) AllReadyH.nil)
      · go_simp
        go_at_call 30
        refine (to_rhythm s1 a1 len1 cap1 z1 _ (HIX1.out _ hq2) hl1).mono ?_
        rintro e y3 ⟨p1, c1, rfl, hown, hc⟩
        have hz3 := hc.size
        have hq3 := hq2.trans (hc.mono hq2.size)
        have bx0_3 := bx0_2.keep hc bx0_2.lt
        have bl0_3 := bx0_3.lt
        have in0_3 := in0_2.below hc
        have in1_3 := intsAt_own hown HZ1.out
        clear hown hc
        refine hKK.out _ _ (HK.out _ hq3) (fun hSS3 => ?_)
        clear hKK hSS2
        try simp only [Act.put, List.setIfInBounds_toArray, List.set_cons_zero, List.set_cons_succ]
        refine wpAnyH_ready (rs := [5, 11]) (by kernel_rfl) (by simp) ?_
        refine AllReadyH.cons rfl (fun K hKK => ?_) (AllReadyH.cons rfl (fun K hKK => ?_) AllReadyH.nil)
        · go_simp
          go_at_call 52
          refine (HCL.out p0 c0 p1 c1 _ in0_3 in1_3).mono ?_
          rintro e y4 ⟨b0, e0, b1, e1, m, rfl, rowA, rowB, hm, hc⟩
          have hz4 := hc.size
          have hq4 := hq3.trans (hc.mono hq3.size)
          have bx0_4 := bx0_3.keep hc bx0_3.lt
          have bl0_4 := bx0_4.lt
          have row0_4 := rowA
          have row1_4 := rowB
          have hmz := rowA.2.2
          clear rowA rowB hc
          refine hKK.out _ _ (HK.out _ hq4) (fun hSS4 => ?_)
          clear hKK hSS3
          try simp only [Act.put, List.setIfInBounds_toArray, List.set_cons_zero, List.set_cons_succ]
          refine wpAnyH_take (i := 6) (oi := ⟨some 32, _, _, _, _, _⟩) (v := .tuple #[rhy RS b0 L0.length e0, rhy RS b1 L1.length e1, .bool RB]) rfl (by kernel_rfl) (by kernel_rfl) (by kernel_rfl) (fun _ _ _ h => h) (Or.inl ⟨by rfl, fun W hSw => by go_simp⟩) (by assumption) ?_
          try simp only [Act.put, List.setIfInBounds_toArray, List.set_cons_zero, List.set_cons_succ]
          refine wpAnyH_take (i := 7) (oi := ⟨some 39, _, _, _, _, _⟩) (v := rhy RS b0 L0.length e0) rfl (by kernel_rfl) (by kernel_rfl) (by kernel_rfl) (fun _ _ _ h => h) (Or.inl ⟨by rfl, fun W hSw => by go_simp⟩) (by assumption) ?_
          try simp only [Act.put, List.setIfInBounds_toArray, List.set_cons_zero, List.set_cons_succ]
          refine wpAnyH_take (i := 8) (oi := ⟨some 40, _, _, _, _, _⟩) (v := rhy RS b1 L1.length e1) rfl (by kernel_rfl) (by kernel_rfl) (by kernel_rfl) (fun _ _ _ h => h) (Or.inl ⟨by rfl, fun W hSw => by go_simp⟩) (by assumption) ?_
          try simp only [Act.put, List.setIfInBounds_toArray, List.set_cons_zero, List.set_cons_succ]
          refine wpAnyH_take (i := 9) (oi := ⟨some 41, _, _, _, _, _⟩) (v := .bool RB) rfl (by kernel_rfl) (by kernel_rfl) (by kernel_rfl) (fun _ _ _ h => h) (Or.inl ⟨by rfl, fun W hSw => by go_simp⟩) (by assumption) ?_
          try simp only [Act.put, List.setIfInBounds_toArray, List.set_cons_zero, List.set_cons_succ]
          refine wpAnyH_ready (rs := [11]) (by kernel_rfl) (by simp) ?_
          refine AllReadyH.cons rfl (fun K hKK => ?_) AllReadyH.nil
          go_simp
          have hc := bel1 y4 (.cells #[.int .i64 0, .slice none 0 0] 26)
          have bxn := box_new y4 (.int .i64 0) (.slice none 0 0) 26
          obtain ⟨y5, hy⟩ : ∃ y, y = y4.alloc (.cells #[.int .i64 0, .slice none 0 0] 26) := ⟨_, rfl⟩
          rw [← hy] at hc bxn ⊢
          clear hy
          have hz5 := hc.size
          have hq5 := hq4.trans (hc.mono hq4.size)
          have bx0_5 := bx0_4.keep hc bx0_4.lt
          have bl0_5 := bx0_5.lt
          have row0_5 := row0_4.keep hc
          have row1_5 := row1_4.keep hc
          obtain ⟨g1, hg1⟩ : ∃ g, y4.heap.size = g := ⟨_, rfl⟩
          have bx1_5 : Box y5 g1 (.int .i64 0) (.slice none 0 0) 26 := by rw [← hg1]; exact bxn
          have gl1 : W.heap.size ≤ g1 := by rw [← hg1]; exact hq4.size
          have bl1_5 := bx1_5.lt
          refine hKK.out _ _ (HK.out _ hq5) (fun hSS5 => ?_)
          clear hKK hSS4 hc bxn
          try simp only [Act.put, List.setIfInBounds_toArray, List.set_cons_zero, List.set_cons_succ]
          rw [hg1]
          have hne : g0 ≠ g1 := by omega
          have hd0 : g0 < y3.heap.size ∨ y4.heap.size ≤ g0 := by omega
          have hd1 : g1 < y3.heap.size ∨ y4.heap.size ≤ g1 := by omega
          obtain ⟨q0, q1, q2, q3⟩ := bx0_5.facts
          obtain ⟨r0, r1, r2, r3⟩ := bx1_5.facts
          refine wpAnyH_ready (rs := [12]) (by kernel_rfl) (by simp) ?_
          refine AllReadyH.cons rfl (fun K hKK => ?_) AllReadyH.nil
          go_simp
          have hq6 := below_set2 (o := 0) (p := 1) (u := (.int .i64 RS)) (v := (.slice b0 L0.length e0)) hq5 gl0
          have ba0 := (bx0_5.set0 (.int .i64 RS)).set1 (.slice b0 L0.length e0)
          have bo1 := (bx1_5.other (c := g0) (o := 0) (.int .i64 RS) (by omega)).other (c := g0) (o := 1) (.slice b0 L0.length e0) (by omega)
          have ra0 := row_put (u := (.int .i64 RS)) (v := (.slice b0 L0.length e0)) row0_5 (N := g0) (by omega)
          have ra1 := row_put (u := (.int .i64 RS)) (v := (.slice b0 L0.length e0)) row1_5 (N := g0) (by omega)
          refine hKK.out _ _ (HK.out _ hq6) (fun hSS6 => ?_)
          clear hKK hSS5
          try simp only [Act.put, List.setIfInBounds_toArray, List.set_cons_zero, List.set_cons_succ]
          obtain ⟨y6, hy⟩ : ∃ y, y = (y5.setCell ⟨g0, 0, none⟩ (.int .i64 RS)).setCell ⟨g0, 1, none⟩ (.slice b0 L0.length e0) := ⟨_, rfl⟩
          rw [← hy] at hq6 ba0 bo1 ra0 ra1 hSS6 ⊢
          have hz6 : y6.heap.size = y5.heap.size := by rw [hy]; simp
          clear hy q0 q1 q2 q3 r0 r1 r2 r3
          obtain ⟨q0, q1, q2, q3⟩ := ba0.facts
          obtain ⟨r0, r1, r2, r3⟩ := bo1.facts
          have lt1 := bo1.lt
          have ra0' := ra0
          have ra1' := ra1
          clear ra0 ra1
          refine wpAnyH_ready (rs := [13]) (by kernel_rfl) (by simp) ?_
          refine AllReadyH.cons rfl (fun K hKK => ?_) AllReadyH.nil
          go_simp
          have hq7 := below_set2 (o := 0) (p := 1) (u := (.int .i64 RS)) (v := (.slice b1 L1.length e1)) hq6 gl1
          have ba1 := (bo1.set0 (.int .i64 RS)).set1 (.slice b1 L1.length e1)
          have bo0 := (ba0.other (c := g1) (o := 0) (.int .i64 RS) (by omega)).other (c := g1) (o := 1) (.slice b1 L1.length e1) (by omega)
          have ra0 := row_put (u := (.int .i64 RS)) (v := (.slice b1 L1.length e1)) ra0' (N := g1) (by omega)
          have ra1 := row_put (u := (.int .i64 RS)) (v := (.slice b1 L1.length e1)) ra1' (N := g1) (by omega)
          refine hKK.out _ _ (HK.out _ hq7) (fun hSS7 => ?_)
          clear hKK hSS6
          try simp only [Act.put, List.setIfInBounds_toArray, List.set_cons_zero, List.set_cons_succ]
          obtain ⟨y7, hy⟩ : ∃ y, y = (y6.setCell ⟨g1, 0, none⟩ (.int .i64 RS)).setCell ⟨g1, 1, none⟩ (.slice b1 L1.length e1) := ⟨_, rfl⟩
          rw [← hy] at hq7 ba1 bo0 ra0 ra1 hSS7 ⊢
          have hz7 : y7.heap.size = y6.heap.size := by rw [hy]; simp
          clear hy q0 q1 q2 q3 r0 r1 r2 r3
          refine wpAnyH_take (i := 14) (oi := ⟨some 10, _, _, _, _, _⟩) (v := .bool RB) rfl (by kernel_rfl) (by kernel_rfl) (by kernel_rfl) (fun _ _ _ h => h) (Or.inl ⟨by rfl, fun W hSw => by go_simp⟩) (by assumption) ?_
          try simp only [Act.put, List.setIfInBounds_toArray, List.set_cons_zero, List.set_cons_succ]
          refine wpAnyH_done (by kernel_rfl) ?_ _
          exact HKK.out _ _ _ _ _ _ _ _ _ _ _ _ _ _ _ _ _ bo0.two ba1.two ((ra0.hi).lo (by have := hq3.size; omega)) ((ra1.hi).lo (by have := hq3.size; omega)) hq7
        · go_simp
          have hc := bel1 y3 (.cells #[.int .i64 0, .slice none 0 0] 26)
          have bxn := box_new y3 (.int .i64 0) (.slice none 0 0) 26
          obtain ⟨y4, hy⟩ : ∃ y, y = y3.alloc (.cells #[.int .i64 0, .slice none 0 0] 26) := ⟨_, rfl⟩
          rw [← hy] at hc bxn ⊢
          clear hy
          have hz4 := hc.size
          have hq4 := hq3.trans (hc.mono hq3.size)
          have bx0_4 := bx0_3.keep hc bx0_3.lt
          have bl0_4 := bx0_4.lt
          have in0_4 := in0_3.below hc
          have in1_4 := in1_3.below hc
          obtain ⟨g1, hg1⟩ : ∃ g, y3.heap.size = g := ⟨_, rfl⟩
          have bx1_4 : Box y4 g1 (.int .i64 0) (.slice none 0 0) 26 := by rw [← hg1]; exact bxn
          have gl1 : W.heap.size ≤ g1 := by rw [← hg1]; exact hq3.size
          have bl1_4 := bx1_4.lt
          refine hKK.out _ _ (HK.out _ hq4) (fun hSS4 => ?_)
          clear hKK hSS3 hc bxn
          try simp only [Act.put, List.setIfInBounds_toArray, List.set_cons_zero, List.set_cons_succ]
          rw [hg1]
          refine wpAnyH_ready (rs := [5]) (by kernel_rfl) (by simp) ?_
          refine AllReadyH.cons rfl (fun K hKK => ?_) AllReadyH.nil
          go_simp
          go_at_call 52
          refine (HCL.out p0 c0 p1 c1 _ in0_4 in1_4).mono ?_
          rintro e y5 ⟨b0, e0, b1, e1, m, rfl, rowA, rowB, hm, hc⟩
          have hz5 := hc.size
          have hq5 := hq4.trans (hc.mono hq4.size)
          have bx0_5 := bx0_4.keep hc bx0_4.lt
          have bl0_5 := bx0_5.lt
          have bx1_5 := bx1_4.keep hc bx1_4.lt
          have bl1_5 := bx1_5.lt
          have row0_5 := rowA
          have row1_5 := rowB
          have hmz := rowA.2.2
          clear rowA rowB hc
          refine hKK.out _ _ (HK.out _ hq5) (fun hSS5 => ?_)
          clear hKK hSS4
          try simp only [Act.put, List.setIfInBounds_toArray, List.set_cons_zero, List.set_cons_succ]
          refine wpAnyH_take (i := 6) (oi := ⟨some 32, _, _, _, _, _⟩) (v := .tuple #[rhy RS b0 L0.length e0, rhy RS b1 L1.length e1, .bool RB]) rfl (by kernel_rfl) (by kernel_rfl) (by kernel_rfl) (fun _ _ _ h => h) (Or.inl ⟨by rfl, fun W hSw => by go_simp⟩) (by assumption) ?_
          try simp only [Act.put, List.setIfInBounds_toArray, List.set_cons_zero, List.set_cons_succ]
          refine wpAnyH_take (i := 7) (oi := ⟨some 39, _, _, _, _, _⟩) (v := rhy RS b0 L0.length e0) rfl (by kernel_rfl) (by kernel_rfl) (by kernel_rfl) (fun _ _ _ h => h) (Or.inl ⟨by rfl, fun W hSw => by go_simp⟩) (by assumption) ?_
          try simp only [Act.put, List.setIfInBounds_toArray, List.set_cons_zero, List.set_cons_succ]
          refine wpAnyH_take (i := 8) (oi := ⟨some 40, _, _, _, _, _⟩) (v := rhy RS b1 L1.length e1) rfl (by kernel_rfl) (by kernel_rfl) (by kernel_rfl) (fun _ _ _ h => h) (Or.inl ⟨by rfl, fun W hSw => by go_simp⟩) (by assumption) ?_
          try simp only [Act.put, List.setIfInBounds_toArray, List.set_cons_zero, List.set_cons_succ]
          refine wpAnyH_take (i := 9) (oi := ⟨some 41, _, _, _, _, _⟩) (v := .bool RB) rfl (by kernel_rfl) (by kernel_rfl) (by kernel_rfl) (fun _ _ _ h => h) (Or.inl ⟨by rfl, fun W hSw => by go_simp⟩) (by assumption) ?_
          try simp only [Act.put, List.setIfInBounds_toArray, List.set_cons_zero, List.set_cons_succ]
          have hne : g0 ≠ g1 := by omega
          have hd0 : g0 < y4.heap.size ∨ y5.heap.size ≤ g0 := by omega
          have hd1 : g1 < y4.heap.size ∨ y5.heap.size ≤ g1 := by omega
          obtain ⟨q0, q1, q2, q3⟩ := bx0_5.facts
          obtain ⟨r0, r1, r2, r3⟩ := bx1_5.facts
          refine wpAnyH_ready (rs := [12]) (by kernel_rfl) (by simp) ?_
          refine AllReadyH.cons rfl (fun K hKK => ?_) AllReadyH.nil
          go_simp
          have hq6 := below_set2 (o := 0) (p := 1) (u := (.int .i64 RS)) (v := (.slice b0 L0.length e0)) hq5 gl0
          have ba0 := (bx0_5.set0 (.int .i64 RS)).set1 (.slice b0 L0.length e0)
          have bo1 := (bx1_5.other (c := g0) (o := 0) (.int .i64 RS) (by omega)).other (c := g0) (o := 1) (.slice b0 L0.length e0) (by omega)
          have ra0 := row_put (u := (.int .i64 RS)) (v := (.slice b0 L0.length e0)) row0_5 (N := g0) (by omega)
          have ra1 := row_put (u := (.int .i64 RS)) (v := (.slice b0 L0.length e0)) row1_5 (N := g0) (by omega)
          refine hKK.out _ _ (HK.out _ hq6) (fun hSS6 => ?_)
          clear hKK hSS5
          try simp only [Act.put, List.setIfInBounds_toArray, List.set_cons_zero, List.set_cons_succ]
          obtain ⟨y6, hy⟩ : ∃ y, y = (y5.setCell ⟨g0, 0, none⟩ (.int .i64 RS)).setCell ⟨g0, 1, none⟩ (.slice b0 L0.length e0) := ⟨_, rfl⟩
          rw [← hy] at hq6 ba0 bo1 ra0 ra1 hSS6 ⊢
          have hz6 : y6.heap.size = y5.heap.size := by rw [hy]; simp
          clear hy q0 q1 q2 q3 r0 r1 r2 r3
          obtain ⟨q0, q1, q2, q3⟩ := ba0.facts
          obtain ⟨r0, r1, r2, r3⟩ := bo1.facts
          have lt1 := bo1.lt
          have ra0' := ra0
          have ra1' := ra1
          clear ra0 ra1
          refine wpAnyH_ready (rs := [13]) (by kernel_rfl) (by simp) ?_
          refine AllReadyH.cons rfl (fun K hKK => ?_) AllReadyH.nil
          go_simp
          have hq7 := below_set2 (o := 0) (p := 1) (u := (.int .i64 RS)) (v := (.slice b1 L1.length e1)) hq6 gl1
          have ba1 := (bo1.set0 (.int .i64 RS)).set1 (.slice b1 L1.length e1)
          have bo0 := (ba0.other (c := g1) (o := 0) (.int .i64 RS) (by omega)).other (c := g1) (o := 1) (.slice b1 L1.length e1) (by omega)
          have ra0 := row_put (u := (.int .i64 RS)) (v := (.slice b1 L1.length e1)) ra0' (N := g1) (by omega)
          have ra1 := row_put (u := (.int .i64 RS)) (v := (.slice b1 L1.length e1)) ra1' (N := g1) (by omega)
          refine hKK.out _ _ (HK.out _ hq7) (fun hSS7 => ?_)
          clear hKK hSS6
          try simp only [Act.put, List.setIfInBounds_toArray, List.set_cons_zero, List.set_cons_succ]
          obtain ⟨y7, hy⟩ : ∃ y, y = (y6.setCell ⟨g1, 0, none⟩ (.int .i64 RS)).setCell ⟨g1, 1, none⟩ (.slice b1 L1.length e1) := ⟨_, rfl⟩
          rw [← hy] at hq7 ba1 bo0 ra0 ra1 hSS7 ⊢
          have hz7 : y7.heap.size = y6.heap.size := by rw [hy]; simp
          clear hy q0 q1 q2 q3 r0 r1 r2 r3
          refine wpAnyH_take (i := 14) (oi := ⟨some 10, _, _, _, _, _⟩) (v := .bool RB) rfl (by kernel_rfl) (by kernel_rfl) (by kernel_rfl) (fun _ _ _ h => h) (Or.inl ⟨by rfl, fun W hSw => by go_simp⟩) (by assumption) ?_
          try simp only [Act.put, List.setIfInBounds_toArray, List.set_cons_zero, List.set_cons_succ]
          refine wpAnyH_done (by kernel_rfl) ?_ _
          exact HKK.out _ _ _ _ _ _ _ _ _ _ _ _ _ _ _ _ _ bo0.two ba1.two ((ra0.hi).lo (by have := hq4.size; omega)) ((ra1.hi).lo (by have := hq4.size; omega)) hq7
      · go_simp
        have hc := bel1 y2 (.cells #[.int .i64 0, .slice none 0 0] 26)
        have bxn := box_new y2 (.int .i64 0) (.slice none 0 0) 26
        obtain ⟨y3, hy⟩ : ∃ y, y = y2.alloc (.cells #[.int .i64 0, .slice none 0 0] 26) := ⟨_, rfl⟩
        rw [← hy] at hc bxn ⊢
        clear hy
        have hz3 := hc.size
        have hq3 := hq2.trans (hc.mono hq2.size)
        have bx0_3 := bx0_2.keep hc bx0_2.lt
        have bl0_3 := bx0_3.lt
        have in0_3 := in0_2.below hc
        obtain ⟨g1, hg1⟩ : ∃ g, y2.heap.size = g := ⟨_, rfl⟩
        have bx1_3 : Box y3 g1 (.int .i64 0) (.slice none 0 0) 26 := by rw [← hg1]; exact bxn
        have gl1 : W.heap.size ≤ g1 := by rw [← hg1]; exact hq2.size
        have bl1_3 := bx1_3.lt
        refine hKK.out _ _ (HK.out _ hq3) (fun hSS3 => ?_)
        clear hKK hSS2 hc bxn
        try simp only [Act.put, List.setIfInBounds_toArray, List.set_cons_zero, List.set_cons_succ]
        rw [hg1]
        refine wpAnyH_ready (rs := [3]) (by kernel_rfl) (by simp) ?_
        refine AllReadyH.cons rfl (fun K hKK => ?_) AllReadyH.nil
        go_simp
        go_at_call 30
        refine (to_rhythm s1 a1 len1 cap1 z1 _ (HIX1.out _ hq3) hl1).mono ?_
        rintro e y4 ⟨p1, c1, rfl, hown, hc⟩
        have hz4 := hc.size
        have hq4 := hq3.trans (hc.mono hq3.size)
        have bx0_4 := bx0_3.keep hc bx0_3.lt
        have bl0_4 := bx0_4.lt
        have in0_4 := in0_3.below hc
        have bx1_4 := bx1_3.keep hc bx1_3.lt
        have bl1_4 := bx1_4.lt
        have in1_4 := intsAt_own hown HZ1.out
        clear hown hc
        refine hKK.out _ _ (HK.out _ hq4) (fun hSS4 => ?_)
        clear hKK hSS3
        try simp only [Act.put, List.setIfInBounds_toArray, List.set_cons_zero, List.set_cons_succ]
        refine wpAnyH_ready (rs := [5]) (by kernel_rfl) (by simp) ?_
        refine AllReadyH.cons rfl (fun K hKK => ?_) AllReadyH.nil
        go_simp
        go_at_call 52
        refine (HCL.out p0 c0 p1 c1 _ in0_4 in1_4).mono ?_
        rintro e y5 ⟨b0, e0, b1, e1, m, rfl, rowA, rowB, hm, hc⟩
        have hz5 := hc.size
        have hq5 := hq4.trans (hc.mono hq4.size)
        have bx0_5 := bx0_4.keep hc bx0_4.lt
        have bl0_5 := bx0_5.lt
        have bx1_5 := bx1_4.keep hc bx1_4.lt
        have bl1_5 := bx1_5.lt
        have row0_5 := rowA
        have row1_5 := rowB
        have hmz := rowA.2.2
        clear rowA rowB hc
        refine hKK.out _ _ (HK.out _ hq5) (fun hSS5 => ?_)
        clear hKK hSS4
        try simp only [Act.put, List.setIfInBounds_toArray, List.set_cons_zero, List.set_cons_succ]
        refine wpAnyH_take (i := 6) (oi := ⟨some 32, _, _, _, _, _⟩) (v := .tuple #[rhy RS b0 L0.length e0, rhy RS b1 L1.length e1, .bool RB]) rfl (by kernel_rfl) (by kernel_rfl) (by kernel_rfl) (fun _ _ _ h => h) (Or.inl ⟨by rfl, fun W hSw => by go_simp⟩) (by assumption) ?_
        try simp only [Act.put, List.setIfInBounds_toArray, List.set_cons_zero, List.set_cons_succ]
        refine wpAnyH_take (i := 7) (oi := ⟨some 39, _, _, _, _, _⟩) (v := rhy RS b0 L0.length e0) rfl (by kernel_rfl) (by kernel_rfl) (by kernel_rfl) (fun _ _ _ h => h) (Or.inl ⟨by rfl, fun W hSw => by go_simp⟩) (by assumption) ?_
        try simp only [Act.put, List.setIfInBounds_toArray, List.set_cons_zero, List.set_cons_succ]
        refine wpAnyH_take (i := 8) (oi := ⟨some 40, _, _, _, _, _⟩) (v := rhy RS b1 L1.length e1) rfl (by kernel_rfl) (by kernel_rfl) (by kernel_rfl) (fun _ _ _ h => h) (Or.inl ⟨by rfl, fun W hSw => by go_simp⟩) (by assumption) ?_
        try simp only [Act.put, List.setIfInBounds_toArray, List.set_cons_zero, List.set_cons_succ]
        refine wpAnyH_take (i := 9) (oi := ⟨some 41, _, _, _, _, _⟩) (v := .bool RB) rfl (by kernel_rfl) (by kernel_rfl) (by kernel_rfl) (fun _ _ _ h => h) (Or.inl ⟨by rfl, fun W hSw => by go_simp⟩) (by assumption) ?_
        try simp only [Act.put, List.setIfInBounds_toArray, List.set_cons_zero, List.set_cons_succ]
        have hne : g0 ≠ g1 := by omega
        have hd0 : g0 < y4.heap.size ∨ y5.heap.size ≤ g0 := by omega
        have hd1 : g1 < y4.heap.size ∨ y5.heap.size ≤ g1 := by omega
        obtain ⟨q0, q1, q2, q3⟩ := bx0_5.facts
        obtain ⟨r0, r1, r2, r3⟩ := bx1_5.facts
        refine wpAnyH_ready (rs := [12]) (by kernel_rfl) (by simp) ?_
        refine AllReadyH.cons rfl (fun K hKK => ?_) AllReadyH.nil
        go_simp
        have hq6 := below_set2 (o := 0) (p := 1) (u := (.int .i64 RS)) (v := (.slice b0 L0.length e0)) hq5 gl0
        have ba0 := (bx0_5.set0 (.int .i64 RS)).set1 (.slice b0 L0.length e0)
        have bo1 := (bx1_5.other (c := g0) (o := 0) (.int .i64 RS) (by omega)).other (c := g0) (o := 1) (.slice b0 L0.length e0) (by omega)
        have ra0 := row_put (u := (.int .i64 RS)) (v := (.slice b0 L0.length e0)) row0_5 (N := g0) (by omega)
        have ra1 := row_put (u := (.int .i64 RS)) (v := (.slice b0 L0.length e0)) row1_5 (N := g0) (by omega)
        refine hKK.out _ _ (HK.out _ hq6) (fun hSS6 => ?_)
        clear hKK hSS5
        try simp only [Act.put, List.setIfInBounds_toArray, List.set_cons_zero, List.set_cons_succ]
        obtain ⟨y6, hy⟩ : ∃ y, y = (y5.setCell ⟨g0, 0, none⟩ (.int .i64 RS)).setCell ⟨g0, 1, none⟩ (.slice b0 L0.length e0) := ⟨_, rfl⟩
        rw [← hy] at hq6 ba0 bo1 ra0 ra1 hSS6 ⊢
        have hz6 : y6.heap.size = y5.heap.size := by rw [hy]; simp
        clear hy q0 q1 q2 q3 r0 r1 r2 r3
        obtain ⟨q0, q1, q2, q3⟩ := ba0.facts
        obtain ⟨r0, r1, r2, r3⟩ := bo1.facts
        have lt1 := bo1.lt
        have ra0' := ra0
        have ra1' := ra1
        clear ra0 ra1
        refine wpAnyH_ready (rs := [13]) (by kernel_rfl) (by simp) ?_
        refine AllReadyH.cons rfl (fun K hKK => ?_) AllReadyH.nil
        go_simp
        have hq7 := below_set2 (o := 0) (p := 1) (u := (.int .i64 RS)) (v := (.slice b1 L1.length e1)) hq6 gl1
        have ba1 := (bo1.set0 (.int .i64 RS)).set1 (.slice b1 L1.length e1)
        have bo0 := (ba0.other (c := g1) (o := 0) (.int .i64 RS) (by omega)).other (c := g1) (o := 1) (.slice b1 L1.length e1) (by omega)
        have ra0 := row_put (u := (.int .i64 RS)) (v := (.slice b1 L1.length e1)) ra0' (N := g1) (by omega)
        have ra1 := row_put (u := (.int .i64 RS)) (v := (.slice b1 L1.length e1)) ra1' (N := g1) (by omega)
        refine hKK.out _ _ (HK.out _ hq7) (fun hSS7 => ?_)
        clear hKK hSS6
        try simp only [Act.put, List.setIfInBounds_toArray, List.set_cons_zero, List.set_cons_succ]
        obtain ⟨y7, hy⟩ : ∃ y, y = (y6.setCell ⟨g1, 0, none⟩ (.int .i64 RS)).setCell ⟨g1, 1, none⟩ (.slice b1 L1.length e1) := ⟨_, rfl⟩
        rw [← hy] at hq7 ba1 bo0 ra0 ra1 hSS7 ⊢
        have hz7 : y7.heap.size = y6.heap.size := by rw [hy]; simp
        clear hy q0 q1 q2 q3 r0 r1 r2 r3
        refine wpAnyH_take (i := 14) (oi := ⟨some 10, _, _, _, _, _⟩) (v := .bool RB) rfl (by kernel_rfl) (by kernel_rfl) (by kernel_rfl) (fun _ _ _ h => h) (Or.inl ⟨by rfl, fun W hSw => by go_simp⟩) (by assumption) ?_
        try simp only [Act.put, List.setIfInBounds_toArray, List.set_cons_zero, List.set_cons_succ]
        refine wpAnyH_done (by kernel_rfl) ?_ _
        exact HKK.out _ _ _ _ _ _ _ _ _ _ _ _ _ _ _ _ _ bo0.two ba1.two ((ra0.hi).lo (by have := hq4.size; omega)) ((ra1.hi).lo (by have := hq4.size; omega)) hq7
    · go_simp
      have hc := bel1 y1 (.cells #[.int .i64 0, .slice none 0 0] 26)
      have bxn := box_new y1 (.int .i64 0) (.slice none 0 0) 26
      obtain ⟨y2, hy⟩ : ∃ y, y = y1.alloc (.cells #[.int .i64 0, .slice none 0 0] 26) := ⟨_, rfl⟩
      rw [← hy] at hc bxn ⊢
      clear hy
      have hz2 := hc.size
      have hq2 := hq1.trans (hc.mono hq1.size)
      have bx0_2 := bx0_1.keep hc bx0_1.lt
      have bl0_2 := bx0_2.lt
      obtain ⟨g1, hg1⟩ : ∃ g, y1.heap.size = g := ⟨_, rfl⟩
      have bx1_2 : Box y2 g1 (.int .i64 0) (.slice none 0 0) 26 := by rw [← hg1]; exact bxn
      have gl1 : W.heap.size ≤ g1 := by rw [← hg1]; exact hq1.size
      have bl1_2 := bx1_2.lt
      refine hKK.out _ _ (HK.out _ hq2) (fun hSS2 => ?_)
      clear hKK hSS1 hc bxn
      try simp only [Act.put, List.setIfInBounds_toArray, List.set_cons_zero, List.set_cons_succ]
      rw [hg1]
      refine wpAnyH_ready (rs := [1]) (by kernel_rfl) (by simp) ?_
      refine AllReadyH.cons rfl (fun K hKK => ?_) AllReadyH.nil
      go_simp
      go_at_call 30
      refine (to_rhythm s0 a0 len0 cap0 z0 _ (HIX0.out _ hq2) hl0).mono ?_
      rintro e y3 ⟨p0, c0, rfl, hown, hc⟩
      have hz3 := hc.size
      have hq3 := hq2.trans (hc.mono hq2.size)
      have bx0_3 := bx0_2.keep hc bx0_2.lt
      have bl0_3 := bx0_3.lt
      have bx1_3 := bx1_2.keep hc bx1_2.lt
      have bl1_3 := bx1_3.lt
      have in0_3 := intsAt_own hown HZ0.out
      clear hown hc
      refine hKK.out _ _ (HK.out _ hq3) (fun hSS3 => ?_)
      clear hKK hSS2
      try simp only [Act.put, List.setIfInBounds_toArray, List.set_cons_zero, List.set_cons_succ]
      refine wpAnyH_ready (rs := [3]) (by kernel_rfl) (by simp) ?_
      refine AllReadyH.cons rfl (fun K hKK => ?_) AllReadyH.nil
      go_simp
      go_at_call 30
      refine (to_rhythm s1 a1 len1 cap1 z1 _ (HIX1.out _ hq3) hl1).mono ?_
      rintro e y4 ⟨p1, c1, rfl, hown, hc⟩
      have hz4 := hc.size
      have hq4 := hq3.trans (hc.mono hq3.size)
      have bx0_4 := bx0_3.keep hc bx0_3.lt
      have bl0_4 := bx0_4.lt
      have in0_4 := in0_3.below hc
      have bx1_4 := bx1_3.keep hc bx1_3.lt
      have bl1_4 := bx1_4.lt
      have in1_4 := intsAt_own hown HZ1.out
      clear hown hc
      refine hKK.out _ _ (HK.out _ hq4) (fun hSS4 => ?_)
      clear hKK hSS3
      try simp only [Act.put, List.setIfInBounds_toArray, List.set_cons_zero, List.set_cons_succ]
      refine wpAnyH_ready (rs := [5]) (by kernel_rfl) (by simp) ?_
      refine AllReadyH.cons rfl (fun K hKK => ?_) AllReadyH.nil
      go_simp
      go_at_call 52
      refine (HCL.out p0 c0 p1 c1 _ in0_4 in1_4).mono ?_
      rintro e y5 ⟨b0, e0, b1, e1, m, rfl, rowA, rowB, hm, hc⟩
      have hz5 := hc.size
      have hq5 := hq4.trans (hc.mono hq4.size)
      have bx0_5 := bx0_4.keep hc bx0_4.lt
      have bl0_5 := bx0_5.lt
      have bx1_5 := bx1_4.keep hc bx1_4.lt
      have bl1_5 := bx1_5.lt
      have row0_5 := rowA
      have row1_5 := rowB
      have hmz := rowA.2.2
      clear rowA rowB hc
      refine hKK.out _ _ (HK.out _ hq5) (fun hSS5 => ?_)
      clear hKK hSS4
      try simp only [Act.put, List.setIfInBounds_toArray, List.set_cons_zero, List.set_cons_succ]
      refine wpAnyH_take (i := 6) (oi := ⟨some 32, _, _, _, _, _⟩) (v := .tuple #[rhy RS b0 L0.length e0, rhy RS b1 L1.length e1, .bool RB]) rfl (by kernel_rfl) (by kernel_rfl) (by kernel_rfl) (fun _ _ _ h => h) (Or.inl ⟨by rfl, fun W hSw => by go_simp⟩) (by assumption) ?_
      try simp only [Act.put, List.setIfInBounds_toArray, List.set_cons_zero, List.set_cons_succ]
      refine wpAnyH_take (i := 7) (oi := ⟨some 39, _, _, _, _, _⟩) (v := rhy RS b0 L0.length e0) rfl (by kernel_rfl) (by kernel_rfl) (by kernel_rfl) (fun _ _ _ h => h) (Or.inl ⟨by rfl, fun W hSw => by go_simp⟩) (by assumption) ?_
      try simp only [Act.put, List.setIfInBounds_toArray, List.set_cons_zero, List.set_cons_succ]
      refine wpAnyH_take (i := 8) (oi := ⟨some 40, _, _, _, _, _⟩) (v := rhy RS b1 L1.length e1) rfl (by kernel_rfl) (by kernel_rfl) (by kernel_rfl) (fun _ _ _ h => h) (Or.inl ⟨by rfl, fun W hSw => by go_simp⟩) (by assumption) ?_
      try simp only [Act.put, List.setIfInBounds_toArray, List.set_cons_zero, List.set_cons_succ]
      refine wpAnyH_take (i := 9) (oi := ⟨some 41, _, _, _, _, _⟩) (v := .bool RB) rfl (by kernel_rfl) (by kernel_rfl) (by kernel_rfl) (fun _ _ _ h => h) (Or.inl ⟨by rfl, fun W hSw => by go_simp⟩) (by assumption) ?_
      try simp only [Act.put, List.setIfInBounds_toArray, List.set_cons_zero, List.set_cons_succ]
      have hne : g0 ≠ g1 := by omega
      have hd0 : g0 < y4.heap.size ∨ y5.heap.size ≤ g0 := by omega
      have hd1 : g1 < y4.heap.size ∨ y5.heap.size ≤ g1 := by omega
      obtain ⟨q0, q1, q2, q3⟩ := bx0_5.facts
      obtain ⟨r0, r1, r2, r3⟩ := bx1_5.facts
      refine wpAnyH_ready (rs := [12]) (by kernel_rfl) (by simp) ?_
      refine AllReadyH.cons rfl (fun K hKK => ?_) AllReadyH.nil
      go_simp
      have hq6 := below_set2 (o := 0) (p := 1) (u := (.int .i64 RS)) (v := (.slice b0 L0.length e0)) hq5 gl0
      have ba0 := (bx0_5.set0 (.int .i64 RS)).set1 (.slice b0 L0.length e0)
      have bo1 := (bx1_5.other (c := g0) (o := 0) (.int .i64 RS) (by omega)).other (c := g0) (o := 1) (.slice b0 L0.length e0) (by omega)
      have ra0 := row_put (u := (.int .i64 RS)) (v := (.slice b0 L0.length e0)) row0_5 (N := g0) (by omega)
      have ra1 := row_put (u := (.int .i64 RS)) (v := (.slice b0 L0.length e0)) row1_5 (N := g0) (by omega)
      refine hKK.out _ _ (HK.out _ hq6) (fun hSS6 => ?_)
      clear hKK hSS5
      try simp only [Act.put, List.setIfInBounds_toArray, List.set_cons_zero, List.set_cons_succ]
      obtain ⟨y6, hy⟩ : ∃ y, y = (y5.setCell ⟨g0, 0, none⟩ (.int .i64 RS)).setCell ⟨g0, 1, none⟩ (.slice b0 L0.length e0) := ⟨_, rfl⟩
      rw [← hy] at hq6 ba0 bo1 ra0 ra1 hSS6 ⊢
      have hz6 : y6.heap.size = y5.heap.size := by rw [hy]; simp
      clear hy q0 q1 q2 q3 r0 r1 r2 r3
      obtain ⟨q0, q1, q2, q3⟩ := ba0.facts
      obtain ⟨r0, r1, r2, r3⟩ := bo1.facts
      have lt1 := bo1.lt
      have ra0' := ra0
      have ra1' := ra1
      clear ra0 ra1
      refine wpAnyH_ready (rs := [13]) (by kernel_rfl) (by simp) ?_
      refine AllReadyH.cons rfl (fun K hKK => ?_) AllReadyH.nil
      go_simp
      have hq7 := below_set2 (o := 0) (p := 1) (u := (.int .i64 RS)) (v := (.slice b1 L1.length e1)) hq6 gl1
      have ba1 := (bo1.set0 (.int .i64 RS)).set1 (.slice b1 L1.length e1)
      have bo0 := (ba0.other (c := g1) (o := 0) (.int .i64 RS) (by omega)).other (c := g1) (o := 1) (.slice b1 L1.length e1) (by omega)
      have ra0 := row_put (u := (.int .i64 RS)) (v := (.slice b1 L1.length e1)) ra0' (N := g1) (by omega)
      have ra1 := row_put (u := (.int .i64 RS)) (v := (.slice b1 L1.length e1)) ra1' (N := g1) (by omega)
      refine hKK.out _ _ (HK.out _ hq7) (fun hSS7 => ?_)
      clear hKK hSS6
      try simp only [Act.put, List.setIfInBounds_toArray, List.set_cons_zero, List.set_cons_succ]
      obtain ⟨y7, hy⟩ : ∃ y, y = (y6.setCell ⟨g1, 0, none⟩ (.int .i64 RS)).setCell ⟨g1, 1, none⟩ (.slice b1 L1.length e1) := ⟨_, rfl⟩
      rw [← hy] at hq7 ba1 bo0 ra0 ra1 hSS7 ⊢
      have hz7 : y7.heap.size = y6.heap.size := by rw [hy]; simp
      clear hy q0 q1 q2 q3 r0 r1 r2 r3
      refine wpAnyH_take (i := 14) (oi := ⟨some 10, _, _, _, _, _⟩) (v := .bool RB) rfl (by kernel_rfl) (by kernel_rfl) (by kernel_rfl) (fun _ _ _ h => h) (Or.inl ⟨by rfl, fun W hSw => by go_simp⟩) (by assumption) ?_
      try simp only [Act.put, List.setIfInBounds_toArray, List.set_cons_zero, List.set_cons_succ]
      refine wpAnyH_done (by kernel_rfl) ?_ _
      exact HKK.out _ _ _ _ _ _ _ _ _ _ _ _ _ _ _ _ _ bo0.two ba1.two ((ra0.hi).lo (by have := hq4.size; omega)) ((ra1.hi).lo (by have := hq4.size; omega)) hq7
  · go_simp
    have hc := bel1 y0 (.cells #[.int .i64 0, .slice none 0 0] 26)
    have bxn := box_new y0 (.int .i64 0) (.slice none 0 0) 26
    obtain ⟨y1, hy⟩ : ∃ y, y = y0.alloc (.cells #[.int .i64 0, .slice none 0 0] 26) := ⟨_, rfl⟩
    rw [← hy] at hc bxn ⊢
    clear hy
    have hz1 := hc.size
    have hq1 := hq0.trans (hc.mono hq0.size)
    obtain ⟨g1, hg1⟩ : ∃ g, y0.heap.size = g := ⟨_, rfl⟩
    have bx1_1 : Box y1 g1 (.int .i64 0) (.slice none 0 0) 26 := by rw [← hg1]; exact bxn
    have gl1 : W.heap.size ≤ g1 := by rw [← hg1]; exact hq0.size
    have bl1_1 := bx1_1.lt
    refine hKK.out _ _ (HK.out _ hq1) (fun hSS1 => ?_)
    clear hKK hSS0 hc bxn
    try simp only [Act.put, List.setIfInBounds_toArray, List.set_cons_zero, List.set_cons_succ]
    rw [hg1]
    refine wpAnyH_ready (rs := [1, 10]) (by kernel_rfl) (by simp) ?_
    refine AllReadyH.cons rfl (fun K hKK => ?_) (AllReadyH.cons rfl (fun K hKK => ?_) AllReadyH.nil)
    · go_simp
      go_at_call 30
      refine (to_rhythm s0 a0 len0 cap0 z0 _ (HIX0.out _ hq1) hl0).mono ?_
      rintro e y2 ⟨p0, c0, rfl, hown, hc⟩
      have hz2 := hc.size
      have hq2 := hq1.trans (hc.mono hq1.size)
      have bx1_2 := bx1_1.keep hc bx1_1.lt
      have bl1_2 := bx1_2.lt
      have in0_2 := intsAt_own hown HZ0.out
      clear hown hc
      refine hKK.out _ _ (HK.out _ hq2) (fun hSS2 => ?_)
      clear hKK hSS1
      try simp only [Act.put, List.setIfInBounds_toArray, List.set_cons_zero, List.set_cons_succ]
      refine wpAnyH_ready (rs := [3, 10]) (by kernel_rfl) (by simp) ?_
      refine AllReadyH.cons rfl (fun K hKK => ?_) (AllReadyH.cons rfl (fun K hKK => ?_) AllReadyH.nil)
      · go_simp
        go_at_call 30
        refine (to_rhythm s1 a1 len1 cap1 z1 _ (HIX1.out _ hq2) hl1).mono ?_
        rintro e y3 ⟨p1, c1, rfl, hown, hc⟩
        have hz3 := hc.size
        have hq3 := hq2.trans (hc.mono hq2.size)
        have in0_3 := in0_2.below hc
        have bx1_3 := bx1_2.keep hc bx1_2.lt
        have bl1_3 := bx1_3.lt
        have in1_3 := intsAt_own hown HZ1.out
        clear hown hc
        refine hKK.out _ _ (HK.out _ hq3) (fun hSS3 => ?_)
        clear hKK hSS2
        try simp only [Act.put, List.setIfInBounds_toArray, List.set_cons_zero, List.set_cons_succ]
        refine wpAnyH_ready (rs := [5, 10]) (by kernel_rfl) (by simp) ?_
        refine AllReadyH.cons rfl (fun K hKK => ?_) (AllReadyH.cons rfl (fun K hKK => ?_) AllReadyH.nil)
        · go_simp
          go_at_call 52
          refine (HCL.out p0 c0 p1 c1 _ in0_3 in1_3).mono ?_
          rintro e y4 ⟨b0, e0, b1, e1, m, rfl, rowA, rowB, hm, hc⟩
          have hz4 := hc.size
          have hq4 := hq3.trans (hc.mono hq3.size)
          have bx1_4 := bx1_3.keep hc bx1_3.lt
          have bl1_4 := bx1_4.lt
          have row0_4 := rowA
          have row1_4 := rowB
          have hmz := rowA.2.2
          clear rowA rowB hc
          refine hKK.out _ _ (HK.out _ hq4) (fun hSS4 => ?_)
          clear hKK hSS3
          try simp only [Act.put, List.setIfInBounds_toArray, List.set_cons_zero, List.set_cons_succ]
          refine wpAnyH_take (i := 6) (oi := ⟨some 32, _, _, _, _, _⟩) (v := .tuple #[rhy RS b0 L0.length e0, rhy RS b1 L1.length e1, .bool RB]) rfl (by kernel_rfl) (by kernel_rfl) (by kernel_rfl) (fun _ _ _ h => h) (Or.inl ⟨by rfl, fun W hSw => by go_simp⟩) (by assumption) ?_
          try simp only [Act.put, List.setIfInBounds_toArray, List.set_cons_zero, List.set_cons_succ]
          refine wpAnyH_take (i := 7) (oi := ⟨some 39, _, _, _, _, _⟩) (v := rhy RS b0 L0.length e0) rfl (by kernel_rfl) (by kernel_rfl) (by kernel_rfl) (fun _ _ _ h => h) (Or.inl ⟨by rfl, fun W hSw => by go_simp⟩) (by assumption) ?_
          try simp only [Act.put, List.setIfInBounds_toArray, List.set_cons_zero, List.set_cons_succ]
          refine wpAnyH_take (i := 8) (oi := ⟨some 40, _, _, _, _, _⟩) (v := rhy RS b1 L1.length e1) rfl (by kernel_rfl) (by kernel_rfl) (by kernel_rfl) (fun _ _ _ h => h) (Or.inl ⟨by rfl, fun W hSw => by go_simp⟩) (by assumption) ?_
          try simp only [Act.put, List.setIfInBounds_toArray, List.set_cons_zero, List.set_cons_succ]
          refine wpAnyH_take (i := 9) (oi := ⟨some 41, _, _, _, _, _⟩) (v := .bool RB) rfl (by kernel_rfl) (by kernel_rfl) (by kernel_rfl) (fun _ _ _ h => h) (Or.inl ⟨by rfl, fun W hSw => by go_simp⟩) (by assumption) ?_
          try simp only [Act.put, List.setIfInBounds_toArray, List.set_cons_zero, List.set_cons_succ]
          refine wpAnyH_ready (rs := [10]) (by kernel_rfl) (by simp) ?_
          refine AllReadyH.cons rfl (fun K hKK => ?_) AllReadyH.nil
          go_simp
          have hc := bel1 y4 (.cells #[.int .i64 0, .slice none 0 0] 26)
          have bxn := box_new y4 (.int .i64 0) (.slice none 0 0) 26
          obtain ⟨y5, hy⟩ : ∃ y, y = y4.alloc (.cells #[.int .i64 0, .slice none 0 0] 26) := ⟨_, rfl⟩
          rw [← hy] at hc bxn ⊢
          clear hy
          have hz5 := hc.size
          have hq5 := hq4.trans (hc.mono hq4.size)
          have row0_5 := row0_4.keep hc
          have bx1_5 := bx1_4.keep hc bx1_4.lt
          have bl1_5 := bx1_5.lt
          have row1_5 := row1_4.keep hc
          obtain ⟨g0, hg0⟩ : ∃ g, y4.heap.size = g := ⟨_, rfl⟩
          have bx0_5 : Box y5 g0 (.int .i64 0) (.slice none 0 0) 26 := by rw [← hg0]; exact bxn
          have gl0 : W.heap.size ≤ g0 := by rw [← hg0]; exact hq4.size
          have bl0_5 := bx0_5.lt
          refine hKK.out _ _ (HK.out _ hq5) (fun hSS5 => ?_)
          clear hKK hSS4 hc bxn
          try simp only [Act.put, List.setIfInBounds_toArray, List.set_cons_zero, List.set_cons_succ]
          rw [hg0]
          have hne : g0 ≠ g1 := by omega
          have hd0 : g0 < y3.heap.size ∨ y4.heap.size ≤ g0 := by omega
          have hd1 : g1 < y3.heap.size ∨ y4.heap.size ≤ g1 := by omega
          obtain ⟨q0, q1, q2, q3⟩ := bx0_5.facts
          obtain ⟨r0, r1, r2, r3⟩ := bx1_5.facts
          refine wpAnyH_ready (rs := [12]) (by kernel_rfl) (by simp) ?_
          refine AllReadyH.cons rfl (fun K hKK => ?_) AllReadyH.nil
          go_simp
          have hq6 := below_set2 (o := 0) (p := 1) (u := (.int .i64 RS)) (v := (.slice b0 L0.length e0)) hq5 gl0
          have ba0 := (bx0_5.set0 (.int .i64 RS)).set1 (.slice b0 L0.length e0)
          have bo1 := (bx1_5.other (c := g0) (o := 0) (.int .i64 RS) (by omega)).other (c := g0) (o := 1) (.slice b0 L0.length e0) (by omega)
          have ra0 := row_put (u := (.int .i64 RS)) (v := (.slice b0 L0.length e0)) row0_5 (N := g0) (by omega)
          have ra1 := row_put (u := (.int .i64 RS)) (v := (.slice b0 L0.length e0)) row1_5 (N := g0) (by omega)
          refine hKK.out _ _ (HK.out _ hq6) (fun hSS6 => ?_)
          clear hKK hSS5
          try simp only [Act.put, List.setIfInBounds_toArray, List.set_cons_zero, List.set_cons_succ]
          obtain ⟨y6, hy⟩ : ∃ y, y = (y5.setCell ⟨g0, 0, none⟩ (.int .i64 RS)).setCell ⟨g0, 1, none⟩ (.slice b0 L0.length e0) := ⟨_, rfl⟩
          rw [← hy] at hq6 ba0 bo1 ra0 ra1 hSS6 ⊢
          have hz6 : y6.heap.size = y5.heap.size := by rw [hy]; simp
          clear hy q0 q1 q2 q3 r0 r1 r2 r3
          obtain ⟨q0, q1, q2, q3⟩ := ba0.facts
          obtain ⟨r0, r1, r2, r3⟩ := bo1.facts
          have lt1 := bo1.lt
          have ra0' := ra0
          have ra1' := ra1
          clear ra0 ra1
          refine wpAnyH_ready (rs := [13]) (by kernel_rfl) (by simp) ?_
          refine AllReadyH.cons rfl (fun K hKK => ?_) AllReadyH.nil
          go_simp
          have hq7 := below_set2 (o := 0) (p := 1) (u := (.int .i64 RS)) (v := (.slice b1 L1.length e1)) hq6 gl1
          have ba1 := (bo1.set0 (.int .i64 RS)).set1 (.slice b1 L1.length e1)
          have bo0 := (ba0.other (c := g1) (o := 0) (.int .i64 RS) (by omega)).other (c := g1) (o := 1) (.slice b1 L1.length e1) (by omega)
          have ra0 := row_put (u := (.int .i64 RS)) (v := (.slice b1 L1.length e1)) ra0' (N := g1) (by omega)
          have ra1 := row_put (u := (.int .i64 RS)) (v := (.slice b1 L1.length e1)) ra1' (N := g1) (by omega)
          refine hKK.out _ _ (HK.out _ hq7) (fun hSS7 => ?_)
          clear hKK hSS6
          try simp only [Act.put, List.setIfInBounds_toArray, List.set_cons_zero, List.set_cons_succ]
          obtain ⟨y7, hy⟩ : ∃ y, y = (y6.setCell ⟨g1, 0, none⟩ (.int .i64 RS)).setCell ⟨g1, 1, none⟩ (.slice b1 L1.length e1) := ⟨_, rfl⟩
          rw [← hy] at hq7 ba1 bo0 ra0 ra1 hSS7 ⊢
          have hz7 : y7.heap.size = y6.heap.size := by rw [hy]; simp
          clear hy q0 q1 q2 q3 r0 r1 r2 r3
          refine wpAnyH_take (i := 14) (oi := ⟨some 10, _, _, _, _, _⟩) (v := .bool RB) rfl (by kernel_rfl) (by kernel_rfl) (by kernel_rfl) (fun _ _ _ h => h) (Or.inl ⟨by rfl, fun W hSw => by go_simp⟩) (by assumption) ?_
          try simp only [Act.put, List.setIfInBounds_toArray, List.set_cons_zero, List.set_cons_succ]
          refine wpAnyH_done (by kernel_rfl) ?_ _
          exact HKK.out _ _ _ _ _ _ _ _ _ _ _ _ _ _ _ _ _ bo0.two ba1.two ((ra0.hi).lo (by have := hq3.size; omega)) ((ra1.hi).lo (by have := hq3.size; omega)) hq7
        · go_simp
          have hc := bel1 y3 (.cells #[.int .i64 0, .slice none 0 0] 26)
          have bxn := box_new y3 (.int .i64 0) (.slice none 0 0) 26
          obtain ⟨y4, hy⟩ : ∃ y, y = y3.alloc (.cells #[.int .i64 0, .slice none 0 0] 26) := ⟨_, rfl⟩
          rw [← hy] at hc bxn ⊢
          clear hy
          have hz4 := hc.size
          have hq4 := hq3.trans (hc.mono hq3.size)
          have in0_4 := in0_3.below hc
          have bx1_4 := bx1_3.keep hc bx1_3.lt
          have bl1_4 := bx1_4.lt
          have in1_4 := in1_3.below hc
          obtain ⟨g0, hg0⟩ : ∃ g, y3.heap.size = g := ⟨_, rfl⟩
          have bx0_4 : Box y4 g0 (.int .i64 0) (.slice none 0 0) 26 := by rw [← hg0]; exact bxn
          have gl0 : W.heap.size ≤ g0 := by rw [← hg0]; exact hq3.size
          have bl0_4 := bx0_4.lt
          refine hKK.out _ _ (HK.out _ hq4) (fun hSS4 => ?_)
          clear hKK hSS3 hc bxn
          try simp only [Act.put, List.setIfInBounds_toArray, List.set_cons_zero, List.set_cons_succ]
          rw [hg0]
          refine wpAnyH_ready (rs := [5]) (by kernel_rfl) (by simp) ?_
          refine AllReadyH.cons rfl (fun K hKK => ?_) AllReadyH.nil
          go_simp
          go_at_call 52
          refine (HCL.out p0 c0 p1 c1 _ in0_4 in1_4).mono ?_
          rintro e y5 ⟨b0, e0, b1, e1, m, rfl, rowA, rowB, hm, hc⟩
          have hz5 := hc.size
          have hq5 := hq4.trans (hc.mono hq4.size)
          have bx0_5 := bx0_4.keep hc bx0_4.lt
          have bl0_5 := bx0_5.lt
          have bx1_5 := bx1_4.keep hc bx1_4.lt
          have bl1_5 := bx1_5.lt
          have row0_5 := rowA
          have row1_5 := rowB
          have hmz := rowA.2.2
          clear rowA rowB hc
          refine hKK.out _ _ (HK.out _ hq5) (fun hSS5 => ?_)
          clear hKK hSS4
          try simp only [Act.put, List.setIfInBounds_toArray, List.set_cons_zero, List.set_cons_succ]
          refine wpAnyH_take (i := 6) (oi := ⟨some 32, _, _, _, _, _⟩) (v := .tuple #[rhy RS b0 L0.length e0, rhy RS b1 L1.length e1, .bool RB]) rfl (by kernel_rfl) (by kernel_rfl) (by kernel_rfl) (fun _ _ _ h => h) (Or.inl ⟨by rfl, fun W hSw => by go_simp⟩) (by assumption) ?_
          try simp only [Act.put, List.setIfInBounds_toArray, List.set_cons_zero, List.set_cons_succ]
          refine wpAnyH_take (i := 7) (oi := ⟨some 39, _, _, _, _, _⟩) (v := rhy RS b0 L0.length e0) rfl (by kernel_rfl) (by kernel_rfl) (by kernel_rfl) (fun _ _ _ h => h) (Or.inl ⟨by rfl, fun W hSw => by go_simp⟩) (by assumption) ?_
          try simp only [Act.put, List.setIfInBounds_toArray, List.set_cons_zero, List.set_cons_succ]
          refine wpAnyH_take (i := 8) (oi := ⟨some 40, _, _, _, _, _⟩) (v := rhy RS b1 L1.length e1) rfl (by kernel_rfl) (by kernel_rfl) (by kernel_rfl) (fun _ _ _ h => h) (Or.inl ⟨by rfl, fun W hSw => by go_simp⟩) (by assumption) ?_
          try simp only [Act.put, List.setIfInBounds_toArray, List.set_cons_zero, List.set_cons_succ]
          refine wpAnyH_take (i := 9) (oi := ⟨some 41, _, _, _, _, _⟩) (v := .bool RB) rfl (by kernel_rfl) (by kernel_rfl) (by kernel_rfl) (fun _ _ _ h => h) (Or.inl ⟨by rfl, fun W hSw => by go_simp⟩) (by assumption) ?_
          try simp only [Act.put, List.setIfInBounds_toArray, List.set_cons_zero, List.set_cons_succ]
          have hne : g0 ≠ g1 := by omega
          have hd0 : g0 < y4.heap.size ∨ y5.heap.size ≤ g0 := by omega
          have hd1 : g1 < y4.heap.size ∨ y5.heap.size ≤ g1 := by omega
          obtain ⟨q0, q1, q2, q3⟩ := bx0_5.facts
          obtain ⟨r0, r1, r2, r3⟩ := bx1_5.facts
          refine wpAnyH_ready (rs := [12]) (by kernel_rfl) (by simp) ?_
          refine AllReadyH.cons rfl (fun K hKK => ?_) AllReadyH.nil
          go_simp
          have hq6 := below_set2 (o := 0) (p := 1) (u := (.int .i64 RS)) (v := (.slice b0 L0.length e0)) hq5 gl0
          have ba0 := (bx0_5.set0 (.int .i64 RS)).set1 (.slice b0 L0.length e0)
          have bo1 := (bx1_5.other (c := g0) (o := 0) (.int .i64 RS) (by omega)).other (c := g0) (o := 1) (.slice b0 L0.length e0) (by omega)
          have ra0 := row_put (u := (.int .i64 RS)) (v := (.slice b0 L0.length e0)) row0_5 (N := g0) (by omega)
          have ra1 := row_put (u := (.int .i64 RS)) (v := (.slice b0 L0.length e0)) row1_5 (N := g0) (by omega)
          refine hKK.out _ _ (HK.out _ hq6) (fun hSS6 => ?_)
          clear hKK hSS5
          try simp only [Act.put, List.setIfInBounds_toArray, List.set_cons_zero, List.set_cons_succ]
          obtain ⟨y6, hy⟩ : ∃ y, y = (y5.setCell ⟨g0, 0, none⟩ (.int .i64 RS)).setCell ⟨g0, 1, none⟩ (.slice b0 L0.length e0) := ⟨_, rfl⟩
          rw [← hy] at hq6 ba0 bo1 ra0 ra1 hSS6 ⊢
          have hz6 : y6.heap.size = y5.heap.size := by rw [hy]; simp
          clear hy q0 q1 q2 q3 r0 r1 r2 r3
          obtain ⟨q0, q1, q2, q3⟩ := ba0.facts
          obtain ⟨r0, r1, r2, r3⟩ := bo1.facts
          have lt1 := bo1.lt
          have ra0' := ra0
          have ra1' := ra1
          clear ra0 ra1
          refine wpAnyH_ready (rs := [13]) (by kernel_rfl) (by simp) ?_
          refine AllReadyH.cons rfl (fun K hKK => ?_) AllReadyH.nil
          go_simp
          have hq7 := below_set2 (o := 0) (p := 1) (u := (.int .i64 RS)) (v := (.slice b1 L1.length e1)) hq6 gl1
          have ba1 := (bo1.set0 (.int .i64 RS)).set1 (.slice b1 L1.length e1)
          have bo0 := (ba0.other (c := g1) (o := 0) (.int .i64 RS) (by omega)).other (c := g1) (o := 1) (.slice b1 L1.length e1) (by omega)
          have ra0 := row_put (u := (.int .i64 RS)) (v := (.slice b1 L1.length e1)) ra0' (N := g1) (by omega)
          have ra1 := row_put (u := (.int .i64 RS)) (v := (.slice b1 L1.length e1)) ra1' (N := g1) (by omega)
          refine hKK.out _ _ (HK.out _ hq7) (fun hSS7 => ?_)
          clear hKK hSS6
          try simp only [Act.put, List.setIfInBounds_toArray, List.set_cons_zero, List.set_cons_succ]
          obtain ⟨y7, hy⟩ : ∃ y, y = (y6.setCell ⟨g1, 0, none⟩ (.int .i64 RS)).setCell ⟨g1, 1, none⟩ (.slice b1 L1.length e1) := ⟨_, rfl⟩
          rw [← hy] at hq7 ba1 bo0 ra0 ra1 hSS7 ⊢
          have hz7 : y7.heap.size = y6.heap.size := by rw [hy]; simp
          clear hy q0 q1 q2 q3 r0 r1 r2 r3
          refine wpAnyH_take (i := 14) (oi := ⟨some 10, _, _, _, _, _⟩) (v := .bool RB) rfl (by kernel_rfl) (by kernel_rfl) (by kernel_rfl) (fun _ _ _ h => h) (Or.inl ⟨by rfl, fun W hSw => by go_simp⟩) (by assumption) ?_
          try simp only [Act.put, List.setIfInBounds_toArray, List.set_cons_zero, List.set_cons_succ]
          refine wpAnyH_done (by kernel_rfl) ?_ _
          exact HKK.out _ _ _ _ _ _ _ _ _ _ _ _ _ _ _ _ _ bo0.two ba1.two ((ra0.hi).lo (by have := hq4.size; omega)) ((ra1.hi).lo (by have := hq4.size; omega)) hq7
      · go_simp
        have hc := bel1 y2 (.cells #[.int .i64 0, .slice none 0 0] 26)
        have bxn := box_new y2 (.int .i64 0) (.slice none 0 0) 26
        obtain ⟨y3, hy⟩ : ∃ y, y = y2.alloc (.cells #[.int .i64 0, .slice none 0 0] 26) := ⟨_, rfl⟩
        rw [← hy] at hc bxn ⊢
        clear hy
        have hz3 := hc.size
        have hq3 := hq2.trans (hc.mono hq2.size)
        have in0_3 := in0_2.below hc
        have bx1_3 := bx1_2.keep hc bx1_2.lt
        have bl1_3 := bx1_3.lt
        obtain ⟨g0, hg0⟩ : ∃ g, y2.heap.size = g := ⟨_, rfl⟩
        have bx0_3 : Box y3 g0 (.int .i64 0) (.slice none 0 0) 26 := by rw [← hg0]; exact bxn
        have gl0 : W.heap.size ≤ g0 := by rw [← hg0]; exact hq2.size
        have bl0_3 := bx0_3.lt
        refine hKK.out _ _ (HK.out _ hq3) (fun hSS3 => ?_)
        clear hKK hSS2 hc bxn
        try simp only [Act.put, List.setIfInBounds_toArray, List.set_cons_zero, List.set_cons_succ]
        rw [hg0]
        refine wpAnyH_ready (rs := [3]) (by kernel_rfl) (by simp) ?_
        refine AllReadyH.cons rfl (fun K hKK => ?_) AllReadyH.nil
        go_simp
        go_at_call 30
        refine (to_rhythm s1 a1 len1 cap1 z1 _ (HIX1.out _ hq3) hl1).mono ?_
        rintro e y4 ⟨p1, c1, rfl, hown, hc⟩
        have hz4 := hc.size
        have hq4 := hq3.trans (hc.mono hq3.size)
        have bx0_4 := bx0_3.keep hc bx0_3.lt
        have bl0_4 := bx0_4.lt
        have in0_4 := in0_3.below hc
        have bx1_4 := bx1_3.keep hc bx1_3.lt
        have bl1_4 := bx1_4.lt
        have in1_4 := intsAt_own hown HZ1.out
        clear hown hc
        refine hKK.out _ _ (HK.out _ hq4) (fun hSS4 => ?_)
        clear hKK hSS3
        try simp only [Act.put, List.setIfInBounds_toArray, List.set_cons_zero, List.set_cons_succ]
        refine wpAnyH_ready (rs := [5]) (by kernel_rfl) (by simp) ?_
        refine AllReadyH.cons rfl (fun K hKK => ?_) AllReadyH.nil
        go_simp
        go_at_call 52
        refine (HCL.out p0 c0 p1 c1 _ in0_4 in1_4).mono ?_
        rintro e y5 ⟨b0, e0, b1, e1, m, rfl, rowA, rowB, hm, hc⟩
        have hz5 := hc.size
        have hq5 := hq4.trans (hc.mono hq4.size)
        have bx0_5 := bx0_4.keep hc bx0_4.lt
        have bl0_5 := bx0_5.lt
        have bx1_5 := bx1_4.keep hc bx1_4.lt
        have bl1_5 := bx1_5.lt
        have row0_5 := rowA
        have row1_5 := rowB
        have hmz := rowA.2.2
        clear rowA rowB hc
        refine hKK.out _ _ (HK.out _ hq5) (fun hSS5 => ?_)
        clear hKK hSS4
        try simp only [Act.put, List.setIfInBounds_toArray, List.set_cons_zero, List.set_cons_succ]
        refine wpAnyH_take (i := 6) (oi := ⟨some 32, _, _, _, _, _⟩) (v := .tuple #[rhy RS b0 L0.length e0, rhy RS b1 L1.length e1, .bool RB]) rfl (by kernel_rfl) (by kernel_rfl) (by kernel_rfl) (fun _ _ _ h => h) (Or.inl ⟨by rfl, fun W hSw => by go_simp⟩) (by assumption) ?_
        try simp only [Act.put, List.setIfInBounds_toArray, List.set_cons_zero, List.set_cons_succ]
        refine wpAnyH_take (i := 7) (oi := ⟨some 39, _, _, _, _, _⟩) (v := rhy RS b0 L0.length e0) rfl (by kernel_rfl) (by kernel_rfl) (by kernel_rfl) (fun _ _ _ h => h) (Or.inl ⟨by rfl, fun W hSw => by go_simp⟩) (by assumption) ?_
        try simp only [Act.put, List.setIfInBounds_toArray, List.set_cons_zero, List.set_cons_succ]
        refine wpAnyH_take (i := 8) (oi := ⟨some 40, _, _, _, _, _⟩) (v := rhy RS b1 L1.length e1) rfl (by kernel_rfl) (by kernel_rfl) (by kernel_rfl) (fun _ _ _ h => h) (Or.inl ⟨by rfl, fun W hSw => by go_simp⟩) (by assumption) ?_
        try simp only [Act.put, List.setIfInBounds_toArray, List.set_cons_zero, List.set_cons_succ]
        refine wpAnyH_take (i := 9) (oi := ⟨some 41, _, _, _, _, _⟩) (v := .bool RB) rfl (by kernel_rfl) (by kernel_rfl) (by kernel_rfl) (fun _ _ _ h => h) (Or.inl ⟨by rfl, fun W hSw => by go_simp⟩) (by assumption) ?_
        try simp only [Act.put, List.setIfInBounds_toArray, List.set_cons_zero, List.set_cons_succ]
        have hne : g0 ≠ g1 := by omega
        have hd0 : g0 < y4.heap.size ∨ y5.heap.size ≤ g0 := by omega
        have hd1 : g1 < y4.heap.size ∨ y5.heap.size ≤ g1 := by omega
        obtain ⟨q0, q1, q2, q3⟩ := bx0_5.facts
        obtain ⟨r0, r1, r2, r3⟩ := bx1_5.facts
        refine wpAnyH_ready (rs := [12]) (by kernel_rfl) (by simp) ?_
        refine AllReadyH.cons rfl (fun K hKK => ?_) AllReadyH.nil
        go_simp
        have hq6 := below_set2 (o := 0) (p := 1) (u := (.int .i64 RS)) (v := (.slice b0 L0.length e0)) hq5 gl0
        have ba0 := (bx0_5.set0 (.int .i64 RS)).set1 (.slice b0 L0.length e0)
        have bo1 := (bx1_5.other (c := g0) (o := 0) (.int .i64 RS) (by omega)).other (c := g0) (o := 1) (.slice b0 L0.length e0) (by omega)
        have ra0 := row_put (u := (.int .i64 RS)) (v := (.slice b0 L0.length e0)) row0_5 (N := g0) (by omega)
        have ra1 := row_put (u := (.int .i64 RS)) (v := (.slice b0 L0.length e0)) row1_5 (N := g0) (by omega)
        refine hKK.out _ _ (HK.out _ hq6) (fun hSS6 => ?_)
        clear hKK hSS5
        try simp only [Act.put, List.setIfInBounds_toArray, List.set_cons_zero, List.set_cons_succ]
        obtain ⟨y6, hy⟩ : ∃ y, y = (y5.setCell ⟨g0, 0, none⟩ (.int .i64 RS)).setCell ⟨g0, 1, none⟩ (.slice b0 L0.length e0) := ⟨_, rfl⟩
        rw [← hy] at hq6 ba0 bo1 ra0 ra1 hSS6 ⊢
        have hz6 : y6.heap.size = y5.heap.size := by rw [hy]; simp
        clear hy q0 q1 q2 q3 r0 r1 r2 r3
        obtain ⟨q0, q1, q2, q3⟩ := ba0.facts
        obtain ⟨r0, r1, r2, r3⟩ := bo1.facts
        have lt1 := bo1.lt
        have ra0' := ra0
        have ra1' := ra1
        clear ra0 ra1
        refine wpAnyH_ready (rs := [13]) (by kernel_rfl) (by simp) ?_
        refine AllReadyH.cons rfl (fun K hKK => ?_) AllReadyH.nil
        go_simp
        have hq7 := below_set2 (o := 0) (p := 1) (u := (.int .i64 RS)) (v := (.slice b1 L1.length e1)) hq6 gl1
        have ba1 := (bo1.set0 (.int .i64 RS)).set1 (.slice b1 L1.length e1)
        have bo0 := (ba0.other (c := g1) (o := 0) (.int .i64 RS) (by omega)).other (c := g1) (o := 1) (.slice b1 L1.length e1) (by omega)
        have ra0 := row_put (u := (.int .i64 RS)) (v := (.slice b1 L1.length e1)) ra0' (N := g1) (by omega)
        have ra1 := row_put (u := (.int .i64 RS)) (v := (.slice b1 L1.length e1)) ra1' (N := g1) (by omega)
        refine hKK.out _ _ (HK.out _ hq7) (fun hSS7 => ?_)
        clear hKK hSS6
        try simp only [Act.put, List.setIfInBounds_toArray, List.set_cons_zero, List.set_cons_succ]
        obtain ⟨y7, hy⟩ : ∃ y, y = (y6.setCell ⟨g1, 0, none⟩ (.int .i64 RS)).setCell ⟨g1, 1, none⟩ (.slice b1 L1.length e1) := ⟨_, rfl⟩
        rw [← hy] at hq7 ba1 bo0 ra0 ra1 hSS7 ⊢
        have hz7 : y7.heap.size = y6.heap.size := by rw [hy]; simp
        clear hy q0 q1 q2 q3 r0 r1 r2 r3
        refine wpAnyH_take (i := 14) (oi := ⟨some 10, _, _, _, _, _⟩) (v := .bool RB) rfl (by kernel_rfl) (by kernel_rfl) (by kernel_rfl) (fun _ _ _ h => h) (Or.inl ⟨by rfl, fun W hSw => by go_simp⟩) (by assumption) ?_
        try simp only [Act.put, List.setIfInBounds_toArray, List.set_cons_zero, List.set_cons_succ]
        refine wpAnyH_done (by kernel_rfl) ?_ _
        exact HKK.out _ _ _ _ _ _ _ _ _ _ _ _ _ _ _ _ _ bo0.two ba1.two ((ra0.hi).lo (by have := hq4.size; omega)) ((ra1.hi).lo (by have := hq4.size; omega)) hq7
    · go_simp
      have hc := bel1 y1 (.cells #[.int .i64 0, .slice none 0 0] 26)
      have bxn := box_new y1 (.int .i64 0) (.slice none 0 0) 26
      obtain ⟨y2, hy⟩ : ∃ y, y = y1.alloc (.cells #[.int .i64 0, .slice none 0 0] 26) := ⟨_, rfl⟩
      rw [← hy] at hc bxn ⊢
      clear hy
      have hz2 := hc.size
      have hq2 := hq1.trans (hc.mono hq1.size)
      have bx1_2 := bx1_1.keep hc bx1_1.lt
      have bl1_2 := bx1_2.lt
      obtain ⟨g0, hg0⟩ : ∃ g, y1.heap.size = g := ⟨_, rfl⟩
      have bx0_2 : Box y2 g0 (.int .i64 0) (.slice none 0 0) 26 := by rw [← hg0]; exact bxn
      have gl0 : W.heap.size ≤ g0 := by rw [← hg0]; exact hq1.size
      have bl0_2 := bx0_2.lt
      refine hKK.out _ _ (HK.out _ hq2) (fun hSS2 => ?_)
      clear hKK hSS1 hc bxn
      try simp only [Act.put, List.setIfInBounds_toArray, List.set_cons_zero, List.set_cons_succ]
      rw [hg0]
      refine wpAnyH_ready (rs := [1]) (by kernel_rfl) (by simp) ?_
      refine AllReadyH.cons rfl (fun K hKK => ?_) AllReadyH.nil
      go_simp
      go_at_call 30
      refine (to_rhythm s0 a0 len0 cap0 z0 _ (HIX0.out _ hq2) hl0).mono ?_
      rintro e y3 ⟨p0, c0, rfl, hown, hc⟩
      have hz3 := hc.size
      have hq3 := hq2.trans (hc.mono hq2.size)
      have bx0_3 := bx0_2.keep hc bx0_2.lt
      have bl0_3 := bx0_3.lt
      have bx1_3 := bx1_2.keep hc bx1_2.lt
      have bl1_3 := bx1_3.lt
      have in0_3 := intsAt_own hown HZ0.out
      clear hown hc
      refine hKK.out _ _ (HK.out _ hq3) (fun hSS3 => ?_)
      clear hKK hSS2
      try simp only [Act.put, List.setIfInBounds_toArray, List.set_cons_zero, List.set_cons_succ]
      refine wpAnyH_ready (rs := [3]) (by kernel_rfl) (by simp) ?_
      refine AllReadyH.cons rfl (fun K hKK => ?_) AllReadyH.nil
      go_simp
      go_at_call 30
      refine (to_rhythm s1 a1 len1 cap1 z1 _ (HIX1.out _ hq3) hl1).mono ?_
      rintro e y4 ⟨p1, c1, rfl, hown, hc⟩
      have hz4 := hc.size
      have hq4 := hq3.trans (hc.mono hq3.size)
      have bx0_4 := bx0_3.keep hc bx0_3.lt
      have bl0_4 := bx0_4.lt
      have in0_4 := in0_3.below hc
      have bx1_4 := bx1_3.keep hc bx1_3.lt
      have bl1_4 := bx1_4.lt
      have in1_4 := intsAt_own hown HZ1.out
      clear hown hc
      refine hKK.out _ _ (HK.out _ hq4) (fun hSS4 => ?_)
      clear hKK hSS3
      try simp only [Act.put, List.setIfInBounds_toArray, List.set_cons_zero, List.set_cons_succ]
      refine wpAnyH_ready (rs := [5]) (by kernel_rfl) (by simp) ?_
      refine AllReadyH.cons rfl (fun K hKK => ?_) AllReadyH.nil
      go_simp
      go_at_call 52
      refine (HCL.out p0 c0 p1 c1 _ in0_4 in1_4).mono ?_
      rintro e y5 ⟨b0, e0, b1, e1, m, rfl, rowA, rowB, hm, hc⟩
      have hz5 := hc.size
      have hq5 := hq4.trans (hc.mono hq4.size)
      have bx0_5 := bx0_4.keep hc bx0_4.lt
      have bl0_5 := bx0_5.lt
      have bx1_5 := bx1_4.keep hc bx1_4.lt
      have bl1_5 := bx1_5.lt
      have row0_5 := rowA
      have row1_5 := rowB
      have hmz := rowA.2.2
      clear rowA rowB hc
      refine hKK.out _ _ (HK.out _ hq5) (fun hSS5 => ?_)
      clear hKK hSS4
      try simp only [Act.put, List.setIfInBounds_toArray, List.set_cons_zero, List.set_cons_succ]
      refine wpAnyH_take (i := 6) (oi := ⟨some 32, _, _, _, _, _⟩) (v := .tuple #[rhy RS b0 L0.length e0, rhy RS b1 L1.length e1, .bool RB]) rfl (by kernel_rfl) (by kernel_rfl) (by kernel_rfl) (fun _ _ _ h => h) (Or.inl ⟨by rfl, fun W hSw => by go_simp⟩) (by assumption) ?_
      try simp only [Act.put, List.setIfInBounds_toArray, List.set_cons_zero, List.set_cons_succ]
      refine wpAnyH_take (i := 7) (oi := ⟨some 39, _, _, _, _, _⟩) (v := rhy RS b0 L0.length e0) rfl (by kernel_rfl) (by kernel_rfl) (by kernel_rfl) (fun _ _ _ h => h) (Or.inl ⟨by rfl, fun W hSw => by go_simp⟩) (by assumption) ?_
      try simp only [Act.put, List.setIfInBounds_toArray, List.set_cons_zero, List.set_cons_succ]
      refine wpAnyH_take (i := 8) (oi := ⟨some 40, _, _, _, _, _⟩) (v := rhy RS b1 L1.length e1) rfl (by kernel_rfl) (by kernel_rfl) (by kernel_rfl) (fun _ _ _ h => h) (Or.inl ⟨by rfl, fun W hSw => by go_simp⟩) (by assumption) ?_
      try simp only [Act.put, List.setIfInBounds_toArray, List.set_cons_zero, List.set_cons_succ]
      refine wpAnyH_take (i := 9) (oi := ⟨some 41, _, _, _, _, _⟩) (v := .bool RB) rfl (by kernel_rfl) (by kernel_rfl) (by kernel_rfl) (fun _ _ _ h => h) (Or.inl ⟨by rfl, fun W hSw => by go_simp⟩) (by assumption) ?_
      try simp only [Act.put, List.setIfInBounds_toArray, List.set_cons_zero, List.set_cons_succ]
      have hne : g0 ≠ g1 := by omega
      have hd0 : g0 < y4.heap.size ∨ y5.heap.size ≤ g0 := by omega
      have hd1 : g1 < y4.heap.size ∨ y5.heap.size ≤ g1 := by omega
      obtain ⟨q0, q1, q2, q3⟩ := bx0_5.facts
      obtain ⟨r0, r1, r2, r3⟩ := bx1_5.facts
      refine wpAnyH_ready (rs := [12]) (by kernel_rfl) (by simp) ?_
      refine AllReadyH.cons rfl (fun K hKK => ?_) AllReadyH.nil
      go_simp
      have hq6 := below_set2 (o := 0) (p := 1) (u := (.int .i64 RS)) (v := (.slice b0 L0.length e0)) hq5 gl0
      have ba0 := (bx0_5.set0 (.int .i64 RS)).set1 (.slice b0 L0.length e0)
      have bo1 := (bx1_5.other (c := g0) (o := 0) (.int .i64 RS) (by omega)).other (c := g0) (o := 1) (.slice b0 L0.length e0) (by omega)
      have ra0 := row_put (u := (.int .i64 RS)) (v := (.slice b0 L0.length e0)) row0_5 (N := g0) (by omega)
      have ra1 := row_put (u := (.int .i64 RS)) (v := (.slice b0 L0.length e0)) row1_5 (N := g0) (by omega)
      refine hKK.out _ _ (HK.out _ hq6) (fun hSS6 => ?_)
      clear hKK hSS5
      try simp only [Act.put, List.setIfInBounds_toArray, List.set_cons_zero, List.set_cons_succ]
      obtain ⟨y6, hy⟩ : ∃ y, y = (y5.setCell ⟨g0, 0, none⟩ (.int .i64 RS)).setCell ⟨g0, 1, none⟩ (.slice b0 L0.length e0) := ⟨_, rfl⟩
      rw [← hy] at hq6 ba0 bo1 ra0 ra1 hSS6 ⊢
      have hz6 : y6.heap.size = y5.heap.size := by rw [hy]; simp
      clear hy q0 q1 q2 q3 r0 r1 r2 r3
      obtain ⟨q0, q1, q2, q3⟩ := ba0.facts
      obtain ⟨r0, r1, r2, r3⟩ := bo1.facts
      have lt1 := bo1.lt
      have ra0' := ra0
      have ra1' := ra1
      clear ra0 ra1
      refine wpAnyH_ready (rs := [13]) (by kernel_rfl) (by simp) ?_
      refine AllReadyH.cons rfl (fun K hKK => ?_) AllReadyH.nil
      go_simp
      have hq7 := below_set2 (o := 0) (p := 1) (u := (.int .i64 RS)) (v := (.slice b1 L1.length e1)) hq6 gl1
      have ba1 := (bo1.set0 (.int .i64 RS)).set1 (.slice b1 L1.length e1)
      have bo0 := (ba0.other (c := g1) (o := 0) (.int .i64 RS) (by omega)).other (c := g1) (o := 1) (.slice b1 L1.length e1) (by omega)
      have ra0 := row_put (u := (.int .i64 RS)) (v := (.slice b1 L1.length e1)) ra0' (N := g1) (by omega)
      have ra1 := row_put (u := (.int .i64 RS)) (v := (.slice b1 L1.length e1)) ra1' (N := g1) (by omega)
      refine hKK.out _ _ (HK.out _ hq7) (fun hSS7 => ?_)
      clear hKK hSS6
      try simp only [Act.put, List.setIfInBounds_toArray, List.set_cons_zero, List.set_cons_succ]
      obtain ⟨y7, hy⟩ : ∃ y, y = (y6.setCell ⟨g1, 0, none⟩ (.int .i64 RS)).setCell ⟨g1, 1, none⟩ (.slice b1 L1.length e1) := ⟨_, rfl⟩
      rw [← hy] at hq7 ba1 bo0 ra0 ra1 hSS7 ⊢
      have hz7 : y7.heap.size = y6.heap.size := by rw [hy]; simp
      clear hy q0 q1 q2 q3 r0 r1 r2 r3
      refine wpAnyH_take (i := 14) (oi := ⟨some 10, _, _, _, _, _⟩) (v := .bool RB) rfl (by kernel_rfl) (by kernel_rfl) (by kernel_rfl) (fun _ _ _ h => h) (Or.inl ⟨by rfl, fun W hSw => by go_simp⟩) (by assumption) ?_
      try simp only [Act.put, List.setIfInBounds_toArray, List.set_cons_zero, List.set_cons_succ]
      refine wpAnyH_done (by kernel_rfl) ?_ _
      exact HKK.out _ _ _ _ _ _ _ _ _ _ _ _ _ _ _ _ _ bo0.two ba1.two ((ra0.hi).lo (by have := hq4.size; omega)) ((ra1.hi).lo (by have := hq4.size; omega)) hq7
end Go.Proofs.Ytpgolnkhbnancaa.Rhy
