/-
  Helpers of the claims beside this text: the law on sums: contracts in its words; its regions that draw.
-/
import Derived.Test.YtpgolnkhbnancaaLwy
import Derived.Test.YtpgolnkhbnancaaSuh
namespace Go.Proofs.Ytpgolnkhbnancaa.Rhy
open Go.RowKit
open Go.Proofs.Ytpgolnkhbnancaa.Cur
set_option linter.unusedVariables false
set_option linter.unusedSimpArgs false

theorem sum_at (a : Option Addr) (n cap : Nat) (l : List Int) (p : Nat) (w : World) (h : IntsAt w a n l) (hb : ∀ x ∈ l, 0 ≤ x ∧ x ≤ 1000) (hn : n ≤ 1000) (hs : l.sum = (p : Int)) :
    Calls Try.prog 20 #[.slice a n cap] w fun e w' => e = .returned (.int .i64 p) ∧ Below w.heap.size w w' := by
  have := sum_law a n cap l w h hb hn
  rwa [hs] at this
theorem v_sumc (n : Nat) (a : Option Addr) (ca : Nat) (xs : List Int) (b : Option Addr) (cb : Nat) (ys C : List Int) (w : World) (ha : IntsAt w a xs.length xs) (hb : IntsAt w b ys.length ys) (hx : Ok n xs) (hy : Ok n ys) (hl : cntZ n (sumL n xs ys) = C) :
    Calls Try.prog 16 #[rhy n a xs.length ca, rhy n b ys.length cb] w fun e w' => ∃ c cc, e = .returned (.slice c n cc) ∧ IntsAt w' c n C ∧ Below w.heap.size w w' := by
  refine (sumc_impl n a xs.length ca xs n b ys.length cb ys w ha (by have := ok_len hx; omega) hb (by have := ok_len hy; omega)).mono ?_
  rintro e w' ⟨c, cc, rfl, ho, hbl⟩
  have hi := intsAt_own ho (sumcB_int n xs n ys)
  have e1 : sumcB n xs n ys = C := by unfold sumcB; rw [cZ_yes ⟨hx, hy, rfl⟩, ← hl]; rfl
  have e2 : C.length = n := by rw [← hl, cnt_len]
  rw [e1, e2] at hi
  rw [e1, e2]
  exact ⟨c, cc, rfl, hi, hbl⟩
theorem v_sumr (n : Nat) (a : Option Addr) (ca : Nat) (xs : List Int) (b : Option Addr) (cb : Nat) (ys l : List Int) (w : World) (ha : IntsAt w a xs.length xs) (hb : IntsAt w b ys.length ys) (hx : Ok n xs) (hy : Ok n ys) (hl : suZ n xs ys = l) :
    Calls Try.prog 17 #[rhy n a xs.length ca, rhy n b ys.length cb] w (RetPost n l true w) := by
  refine (sumr_impl n a xs.length ca xs n b ys.length cb ys w ha (by have := ok_len hx; omega) hb (by have := ok_len hy; omega)).mono fun e w' h => ?_
  rw [← hl]
  exact cpost_open ⟨hx, hy, rfl⟩ h
theorem v_gap (n : Nat) (a : Option Addr) (ca : Nat) (xs : List Int) (b : Option Addr) (cb : Nat) (ys l : List Int) (w : World) (ha : IntsAt w a xs.length xs) (hb : IntsAt w b ys.length ys) (hx : Ok n xs) (hy : Ok n ys) (hl : gapZ n xs ys = l) :
    Calls Try.prog 18 #[rhy n a xs.length ca, rhy n b ys.length cb] w fun e w' => ∃ c cc, e = .returned (.slice c l.length cc) ∧ IntsAt w' c l.length l ∧ Below w.heap.size w w' := by
  refine (gap_impl n a xs.length ca xs n b ys.length cb ys w ha (by have := ok_len hx; omega) hb (by have := ok_len hy; omega)).mono ?_
  rintro e w' ⟨c, cc, rfl, ho, hbl⟩
  have hi := intsAt_own ho (gapB_int n xs n ys)
  have e1 : gapB n xs n ys = l := by unfold gapB; rw [cZ_yes ⟨hx, hy, rfl⟩, ← hl]
  rw [e1] at hi
  rw [e1]
  exact ⟨c, cc, rfl, hi, hbl⟩
theorem v_dir (n : Nat) (a : Option Addr) (ca : Nat) (xs : List Int) (b : Option Addr) (cb : Nat) (ys : List Int) (q : Bool) (w : World) (ha : IntsAt w a xs.length xs) (hb : IntsAt w b ys.length ys) (hx : Ok n xs) (hy : Ok n ys) (hq : dirB n xs n ys = q) :
    Calls Try.prog 24 #[rhy n a xs.length ca, rhy n b ys.length cb] w fun e w' => e = .returned (.bool q) ∧ Below w.heap.size w w' := by
  have := dir_impl n a xs.length ca xs n b ys.length cb ys w ha (by have := ok_len hx; omega) hb (by have := ok_len hy; omega)
  rwa [hq] at this
theorem v_til (n : Nat) (a : Option Addr) (ca : Nat) (xs : List Int) (b : Option Addr) (cb : Nat) (ys : List Int) (q : Bool) (w : World) (ha : IntsAt w a xs.length xs) (hb : IntsAt w b ys.length ys) (hx : Ok n xs) (hy : Ok n ys) (hq : tilB n xs n ys = q) :
    Calls Try.prog 27 #[rhy n a xs.length ca, rhy n b ys.length cb] w fun e w' => e = .returned (.bool q) ∧ Below w.heap.size w w' := by
  have := til_impl n a xs.length ca xs n b ys.length cb ys w ha (by have := ok_len hx; omega) hb (by have := ok_len hy; omega)
  rwa [hq] at this

set_option maxHeartbeats 8000000 in
set_option maxRecDepth 100000 in
theorem sums10 (n p : Nat) (xs ys Z G C : List Int) (ab bb sb tb : Nat) (a b sa ta va ga : Option Addr) (ca cb sc tc vc gc : Nat) (w0 W : World) {K : Act → World → Prop} {u0 u1 u2 u12 u13 u14 u15 u16 u17 u18 u19 u20 u21 u22 u23 u24 u25 u26 u27 u28 u29 u30 u31 u32 u33 u34 u35 u36 u37 u38 u39 u40 u41 u42 u43 u44 u45 u46 u47 u48 u49 u50 u51 u52 u53 u54 u55 u56 u57 u58 u59 u60 u61 u62 u63 u64 u65 u66 u67 u68 u69 u70 u71 u72 u73 u74 u75 u76 u77 u78 u79 u80 u81 u82 u83 u84 u85 u86 u87 u88 u89 u90 u91 u92 u93 u94 u95 u96 u97 u98 u99 u100 u101 u102 u103 u104 u105 u106 u107 u108 u109 u110 u111 u112 u113 u114 u115 u116 u117 u118 u119 u120 u121 u122 u123 u124 u125 u126 u127 u128 u129 u130 u131 u132 u133 u134 u135 u136 u137 u138 u139 u140 u141 u142 u143 u144 u145 u146 u147 u148 u149 u150 u151 u152 u153 u154 u155 u156 u157 u158 u159 u160 u161 u162 u163 u164 u165 u166 u167 u168 u169 u170 u171 u172 u173 u174 u175 u176 u177 u178 u179 u180 u181 u182 u183 u184 u185 u186 u187 u188 u189 u190 u191 u192 u193 u194 u195 u196 u197 u198 u199 u200 u201 u202 u203 u204 u205 u206 u207 u208 u209 u210 u211 u212 u213 u214 u215 u216 u217 u218 u219 u220 u221 u222 u223 u224 u225 u226 u227 u228 u229 u230 u231 : Value}
    (hn1 : 1 ≤ n) (hn : n ≤ 24) (hx : Ok n xs) (hy : Ok n ys) (hz : Ok n Z) (hra : RhAt W ab n a ca xs) (hrb : RhAt W bb n b cb ys) (hrs : RhAt W sb n sa sc Z) (hrt : RhAt W tb n ta tc Z) (hmul : (xs.length : Int) * (ys.length : Int) = (p : Int)) (hp : p ≤ 576) (hc : IntsAt W va n C ∧ ∀ x ∈ C, 0 ≤ x ∧ x ≤ 1000) (hs : C.sum = (p : Int)) (hgz : G.length + Z.length = n)
    {Q : Exit → Act → World → Prop} (hQp : ∀ (c : List PanicEntry) (a a' : Act) (w : World), a.defers = a'.defers → Q (.panic c) a w → Q (.panic c) a' w)
    (hK : ∀ (x56 x57 x58 x59 x60 x61 x62 x63 x64 x65 x66 x67 x68 x69 x70 x71 x72 x73 x74 x75 x76 x77 x78 x79 x80 x81 x82 x83 x84 x85 x86 x87 x88 x89 x90 x91 x92 x93 : Value) (w' : World), Below W.heap.size W w' → K ({ tmps := #[u0, u1, u2, .int .i64 n, .pointer (some ⟨ab, 0, none⟩), .pointer (some ⟨bb, 0, none⟩), .slice va n vc, .pointer (some ⟨sb, 0, none⟩), .bool true, .pointer (some ⟨tb, 0, none⟩), .bool true, .slice ga G.length gc, u12, u13, u14, u15, u16, u17, u18, u19, u20, u21, u22, u23, u24, u25, u26, u27, u28, u29, u30, u31, u32, u33, u34, u35, u36, u37, u38, u39, u40, u41, u42, u43, u44, u45, u46, u47, u48, u49, u50, u51, u52, u53, u54, u55, x56, x57, x58, x59, x60, x61, x62, x63, x64, x65, x66, x67, x68, x69, x70, x71, x72, x73, x74, x75, x76, x77, x78, x79, x80, x81, x82, x83, x84, x85, x86, x87, x88, x89, x90, x91, x92, x93, .bool false, u95, u96, u97, u98, u99, u100, u101, u102, u103, u104, u105, u106, u107, u108, u109, u110, u111, u112, u113, u114, u115, u116, u117, u118, u119, u120, u121, u122, u123, u124, u125, u126, u127, u128, u129, u130, u131, u132, u133, u134, u135, u136, u137, u138, u139, u140, u141, u142, u143, u144, u145, u146, u147, u148, u149, u150, u151, u152, u153, u154, u155, u156, u157, u158, u159, u160, u161, u162, u163, u164, u165, u166, u167, u168, u169, u170, u171, u172, u173, u174, u175, u176, u177, u178, u179, u180, u181, u182, u183, u184, u185, u186, u187, u188, u189, u190, u191, u192, u193, u194, u195, u196, u197, u198, u199, u200, u201, u202, u203, u204, u205, u206, u207, u208, u209, u210, u211, u212, u213, u214, u215, u216, u217, u218, u219, u220, u221, u222, u223, u224, u225, u226, u227, u228, u229, u230, u231], defers := [] } : Act) w') :
    Code.wp Try.prog (rgOf Try.f3 10) (Exit.then K Q) ({ tmps := #[u0, u1, u2, .int .i64 n, .pointer (some ⟨ab, 0, none⟩), .pointer (some ⟨bb, 0, none⟩), .slice va n vc, .pointer (some ⟨sb, 0, none⟩), .bool true, .pointer (some ⟨tb, 0, none⟩), .bool true, .slice ga G.length gc, u12, u13, u14, u15, u16, u17, u18, u19, u20, u21, u22, u23, u24, u25, u26, u27, u28, u29, u30, u31, u32, u33, u34, u35, u36, u37, u38, u39, u40, u41, u42, u43, u44, u45, u46, u47, u48, u49, u50, u51, u52, u53, u54, u55, u56, u57, u58, u59, u60, u61, u62, u63, u64, u65, u66, u67, u68, u69, u70, u71, u72, u73, u74, u75, u76, u77, u78, u79, u80, u81, u82, u83, u84, u85, u86, u87, u88, u89, u90, u91, u92, u93, u94, u95, u96, u97, u98, u99, u100, u101, u102, u103, u104, u105, u106, u107, u108, u109, u110, u111, u112, u113, u114, u115, u116, u117, u118, u119, u120, u121, u122, u123, u124, u125, u126, u127, u128, u129, u130, u131, u132, u133, u134, u135, u136, u137, u138, u139, u140, u141, u142, u143, u144, u145, u146, u147, u148, u149, u150, u151, u152, u153, u154, u155, u156, u157, u158, u159, u160, u161, u162, u163, u164, u165, u166, u167, u168, u169, u170, u171, u172, u173, u174, u175, u176, u177, u178, u179, u180, u181, u182, u183, u184, u185, u186, u187, u188, u189, u190, u191, u192, u193, u194, u195, u196, u197, u198, u199, u200, u201, u202, u203, u204, u205, u206, u207, u208, u209, u210, u211, u212, u213, u214, u215, u216, u217, u218, u219, u220, u221, u222, u223, u224, u225, u226, u227, u228, u229, u230, u231], defers := [] } : Act) W := by
  have HX := Lib.hid hx
  have HY := Lib.hid hy
  have HZ := Lib.hid hz
  have HRA := Lib.hid hra
  have HRB := Lib.hid hrb
  have HRS := Lib.hid hrs
  have HRT := Lib.hid hrt
  have HKK := Lib.hid hK
  have HC := Lib.hid hc
  have HS := Lib.hid hs
  clear hx hy hz hra hrb hrs hrt hK hc hs
  have HK : Hid (∀ W' : World, Below W.heap.size W W' → W'.cell? ⟨ab, 0, none⟩ = some (.int .i64 n) ∧ W'.cell? ⟨ab, 1, none⟩ = some (.slice a xs.length ca) ∧ W'.cell? ⟨bb, 0, none⟩ = some (.int .i64 n) ∧ W'.cell? ⟨bb, 1, none⟩ = some (.slice b ys.length cb) ∧ W'.cell? ⟨sb, 0, none⟩ = some (.int .i64 n) ∧ W'.cell? ⟨sb, 1, none⟩ = some (.slice sa Z.length sc) ∧ W'.cell? ⟨tb, 0, none⟩ = some (.int .i64 n) ∧ W'.cell? ⟨tb, 1, none⟩ = some (.slice ta Z.length tc)) := Lib.hid (fun W' hW => ⟨(HRA.out.keep hW).1.facts.1, (HRA.out.keep hW).1.facts.2.1, (HRB.out.keep hW).1.facts.1, (HRB.out.keep hW).1.facts.2.1, (HRS.out.keep hW).1.facts.1, (HRS.out.keep hW).1.facts.2.1, (HRT.out.keep hW).1.facts.1, (HRT.out.keep hW).1.facts.2.1⟩)
  have HIA : Hid (∀ W' : World, Below W.heap.size W W' → IntsAt W' a xs.length xs) := Lib.hid (fun W' hW => (HRA.out.keep hW).2)
  have HIB : Hid (∀ W' : World, Below W.heap.size W W' → IntsAt W' b ys.length ys) := Lib.hid (fun W' hW => (HRB.out.keep hW).2)
  have HIS : Hid (∀ W' : World, Below W.heap.size W W' → IntsAt W' sa Z.length Z) := Lib.hid (fun W' hW => (HRS.out.keep hW).2)
  have HIT : Hid (∀ W' : World, Below W.heap.size W W' → IntsAt W' ta Z.length Z) := Lib.hid (fun W' hW => (HRT.out.keep hW).2)
  have HIC : Hid (∀ W' : World, Below W.heap.size W W' → IntsAt W' va n C) := Lib.hid (fun W' hW => HC.out.1.below hW)
  conv => enter [2]; whnf
  have hq0 : Below W.heap.size W W.drew := (Below.refl _ _).drew
  refine wp_region_held_drew (S := fun W' => W'.cell? ⟨ab, 0, none⟩ = some (.int .i64 n) ∧ W'.cell? ⟨ab, 1, none⟩ = some (.slice a xs.length ca) ∧ W'.cell? ⟨bb, 0, none⟩ = some (.int .i64 n) ∧ W'.cell? ⟨bb, 1, none⟩ = some (.slice b ys.length cb) ∧ W'.cell? ⟨sb, 0, none⟩ = some (.int .i64 n) ∧ W'.cell? ⟨sb, 1, none⟩ = some (.slice sa Z.length sc) ∧ W'.cell? ⟨tb, 0, none⟩ = some (.int .i64 n) ∧ W'.cell? ⟨tb, 1, none⟩ = some (.slice ta Z.length tc)) (by kernel_rfl) (HK.out _ hq0) (fun hSS0 => ?_)
  refine wpAnyH_take (i := 0) (oi := ⟨some 56, _, _, _, _, _⟩) (v := .bool true) rfl (by kernel_rfl) (by kernel_rfl) (by kernel_rfl) (fun c a w h => hQp c (a.put _ _) a w rfl h) (Or.inl ⟨by rfl, fun W hSw => by go_simp⟩) (by assumption) ?_
  try simp only [Act.put, List.setIfInBounds_toArray, List.set_cons_zero, List.set_cons_succ]
  refine wpAnyH_take (i := 1) (oi := ⟨some 57, _, _, _, _, _⟩) (v := .bool false) rfl (by kernel_rfl) (by kernel_rfl) (by kernel_rfl) (fun c a w h => hQp c (a.put _ _) a w rfl h) (Or.inl ⟨by rfl, fun W hSw => by go_simp⟩) (by assumption) ?_
  try simp only [Act.put, List.setIfInBounds_toArray, List.set_cons_zero, List.set_cons_succ]
  refine wpAnyH_take (i := 2) (oi := ⟨some 58, _, _, _, _, _⟩) (v := .bool false) rfl (by kernel_rfl) (by kernel_rfl) (by kernel_rfl) (fun c a w h => hQp c (a.put _ _) a w rfl h) (Or.inl ⟨by rfl, fun W hSw => by go_simp⟩) (by assumption) ?_
  try simp only [Act.put, List.setIfInBounds_toArray, List.set_cons_zero, List.set_cons_succ]
  refine wpAnyH_take (i := 3) (oi := ⟨some 59, _, _, _, _, _⟩) (v := .bool true) rfl (by kernel_rfl) (by kernel_rfl) (by kernel_rfl) (fun c a w h => hQp c (a.put _ _) a w rfl h) (Or.inl ⟨by rfl, fun W hSw => by go_simp⟩) (by assumption) ?_
  try simp only [Act.put, List.setIfInBounds_toArray, List.set_cons_zero, List.set_cons_succ]
  refine wpAnyH_take (i := 4) (oi := ⟨some 60, _, _, _, _, _⟩) (v := .bool false) rfl (by kernel_rfl) (by kernel_rfl) (by kernel_rfl) (fun c a w h => hQp c (a.put _ _) a w rfl h) (Or.inl ⟨by rfl, fun W hSw => by go_simp⟩) (by assumption) ?_
  try simp only [Act.put, List.setIfInBounds_toArray, List.set_cons_zero, List.set_cons_succ]
  refine wpAnyH_take (i := 5) (oi := ⟨some 61, _, _, _, _, _⟩) (v := .bool false) rfl (by kernel_rfl) (by kernel_rfl) (by kernel_rfl) (fun c a w h => hQp c (a.put _ _) a w rfl h) (Or.inl ⟨by rfl, fun W hSw => by go_simp⟩) (by assumption) ?_
  try simp only [Act.put, List.setIfInBounds_toArray, List.set_cons_zero, List.set_cons_succ]
  refine wpAnyH_take (i := 6) (oi := ⟨some 62, _, _, _, _, _⟩) (v := .bool false) rfl (by kernel_rfl) (by kernel_rfl) (by kernel_rfl) (fun c a w h => hQp c (a.put _ _) a w rfl h) (Or.inl ⟨by rfl, fun W hSw => by go_simp⟩) (by assumption) ?_
  try simp only [Act.put, List.setIfInBounds_toArray, List.set_cons_zero, List.set_cons_succ]
  refine wpAnyH_take (i := 7) (oi := ⟨some 63, _, _, _, _, _⟩) (v := .agg #[.int .i64 n, .slice sa Z.length sc]) rfl (by kernel_rfl) (by kernel_rfl) (by kernel_rfl) (fun c a w h => hQp c (a.put _ _) a w rfl h) (Or.inl ⟨by rfl, fun W hSw => by obtain ⟨s1, s2, s3, s4, s5, s6, s7, s8⟩ := hSw; go_simp⟩) (by assumption) ?_
  try simp only [Act.put, List.setIfInBounds_toArray, List.set_cons_zero, List.set_cons_succ]
  refine wpAnyH_take (i := 8) (oi := ⟨some 64, _, _, _, _, _⟩) (v := .agg #[.int .i64 n, .slice ta Z.length tc]) rfl (by kernel_rfl) (by kernel_rfl) (by kernel_rfl) (fun c a w h => hQp c (a.put _ _) a w rfl h) (Or.inl ⟨by rfl, fun W hSw => by obtain ⟨s1, s2, s3, s4, s5, s6, s7, s8⟩ := hSw; go_simp⟩) (by assumption) ?_
  try simp only [Act.put, List.setIfInBounds_toArray, List.set_cons_zero, List.set_cons_succ]
  refine wpAnyH_ready (rs := [9]) (by kernel_rfl) (by simp) ?_
  refine AllReadyH.cons rfl (fun K hKK => ?_) AllReadyH.nil
  go_simp
  go_at_call 19
  refine (rhythms_law n sa ta sc tc Z _ (HIS.out _ hq0) (HIT.out _ hq0) (by have := ok_len HZ.out; omega)).mono ?_
  rintro e y1 ⟨rfl, hc⟩
  have hq1 := hq0.trans (hc.mono hq0.size)
  clear hc
  refine hKK.out _ _ (HK.out _ hq1) (fun hSS1 => ?_)
  clear hKK K hSS0
  try simp only [Act.put, List.setIfInBounds_toArray, List.set_cons_zero, List.set_cons_succ]
  refine wpAnyH_take (i := 10) (oi := ⟨some 66, _, _, _, _, _⟩) (v := .bool false) rfl (by kernel_rfl) (by kernel_rfl) (by kernel_rfl) (fun c a w h => hQp c (a.put _ _) a w rfl h) (Or.inl ⟨by rfl, fun W hSw => by go_simp⟩) (by assumption) ?_
  try simp only [Act.put, List.setIfInBounds_toArray, List.set_cons_zero, List.set_cons_succ]
  refine wpAnyH_take (i := 11) (oi := ⟨some 67, _, _, _, _, _⟩) (v := .bool false) rfl (by kernel_rfl) (by kernel_rfl) (by kernel_rfl) (fun c a w h => hQp c (a.put _ _) a w rfl h) (Or.inl ⟨by rfl, fun W hSw => by go_simp⟩) (by assumption) ?_
  try simp only [Act.put, List.setIfInBounds_toArray, List.set_cons_zero, List.set_cons_succ]
  refine wpAnyH_take (i := 12) (oi := ⟨some 68, _, _, _, _, _⟩) (v := .bool false) rfl (by kernel_rfl) (by kernel_rfl) (by kernel_rfl) (fun c a w h => hQp c (a.put _ _) a w rfl h) (Or.inl ⟨by rfl, fun W hSw => by go_simp⟩) (by assumption) ?_
  try simp only [Act.put, List.setIfInBounds_toArray, List.set_cons_zero, List.set_cons_succ]
  refine wpAnyH_take (i := 13) (oi := ⟨some 69, _, _, _, _, _⟩) (v := .slice va n vc) rfl (by kernel_rfl) (by kernel_rfl) (by kernel_rfl) (fun c a w h => hQp c (a.put _ _) a w rfl h) (Or.inl ⟨by rfl, fun W hSw => by go_simp⟩) (by assumption) ?_
  try simp only [Act.put, List.setIfInBounds_toArray, List.set_cons_zero, List.set_cons_succ]
  refine wpAnyH_take (i := 14) (oi := ⟨some 70, _, _, _, _, _⟩) (v := .int .i64 n) rfl (by kernel_rfl) (by kernel_rfl) (by kernel_rfl) (fun c a w h => hQp c (a.put _ _) a w rfl h) (Or.inl ⟨by rfl, fun W hSw => by go_simp⟩) (by assumption) ?_
  try simp only [Act.put, List.setIfInBounds_toArray, List.set_cons_zero, List.set_cons_succ]
  refine wpAnyH_take (i := 15) (oi := ⟨some 71, _, _, _, _, _⟩) (v := .int .i64 n) rfl (by kernel_rfl) (by kernel_rfl) (by kernel_rfl) (fun c a w h => hQp c (a.put _ _) a w rfl h) (Or.inl ⟨by rfl, fun W hSw => by go_simp⟩) (by assumption) ?_
  try simp only [Act.put, List.setIfInBounds_toArray, List.set_cons_zero, List.set_cons_succ]
  refine wpAnyH_take (i := 16) (oi := ⟨some 72, _, _, _, _, _⟩) (v := .bool false) rfl (by kernel_rfl) (by kernel_rfl) (by kernel_rfl) (fun c a w h => hQp c (a.put _ _) a w rfl h) (Or.inl ⟨by rfl, fun W hSw => by go_simp⟩) (by assumption) ?_
  try simp only [Act.put, List.setIfInBounds_toArray, List.set_cons_zero, List.set_cons_succ]
  refine wpAnyH_take (i := 17) (oi := ⟨some 73, _, _, _, _, _⟩) (v := .bool false) rfl (by kernel_rfl) (by kernel_rfl) (by kernel_rfl) (fun c a w h => hQp c (a.put _ _) a w rfl h) (Or.inl ⟨by rfl, fun W hSw => by go_simp⟩) (by assumption) ?_
  try simp only [Act.put, List.setIfInBounds_toArray, List.set_cons_zero, List.set_cons_succ]
  refine wpAnyH_take (i := 18) (oi := ⟨some 74, _, _, _, _, _⟩) (v := .bool false) rfl (by kernel_rfl) (by kernel_rfl) (by kernel_rfl) (fun c a w h => hQp c (a.put _ _) a w rfl h) (Or.inl ⟨by rfl, fun W hSw => by go_simp⟩) (by assumption) ?_
  try simp only [Act.put, List.setIfInBounds_toArray, List.set_cons_zero, List.set_cons_succ]
  refine wpAnyH_take (i := 19) (oi := ⟨some 75, _, _, _, _, _⟩) (v := .slice va n vc) rfl (by kernel_rfl) (by kernel_rfl) (by kernel_rfl) (fun c a w h => hQp c (a.put _ _) a w rfl h) (Or.inl ⟨by rfl, fun W hSw => by go_simp⟩) (by assumption) ?_
  try simp only [Act.put, List.setIfInBounds_toArray, List.set_cons_zero, List.set_cons_succ]
  refine wpAnyH_take (i := 21) (oi := ⟨some 77, _, _, _, _, _⟩) (v := .pointer (some ⟨ab, 1, none⟩)) rfl (by kernel_rfl) (by kernel_rfl) (by kernel_rfl) (fun c a w h => hQp c (a.put _ _) a w rfl h) (Or.inl ⟨by rfl, fun W hSw => by go_simp⟩) (by assumption) ?_
  try simp only [Act.put, List.setIfInBounds_toArray, List.set_cons_zero, List.set_cons_succ]
  refine wpAnyH_take (i := 22) (oi := ⟨some 78, _, _, _, _, _⟩) (v := .slice a xs.length ca) rfl (by kernel_rfl) (by kernel_rfl) (by kernel_rfl) (fun c a w h => hQp c (a.put _ _) a w rfl h) (Or.inl ⟨by rfl, fun W hSw => by obtain ⟨s1, s2, s3, s4, s5, s6, s7, s8⟩ := hSw; go_simp⟩) (by assumption) ?_
  try simp only [Act.put, List.setIfInBounds_toArray, List.set_cons_zero, List.set_cons_succ]
  refine wpAnyH_take (i := 23) (oi := ⟨some 79, _, _, _, _, _⟩) (v := .int .i64 xs.length) rfl (by kernel_rfl) (by kernel_rfl) (by kernel_rfl) (fun c a w h => hQp c (a.put _ _) a w rfl h) (Or.inl ⟨by rfl, fun W hSw => by go_simp⟩) (by assumption) ?_
  try simp only [Act.put, List.setIfInBounds_toArray, List.set_cons_zero, List.set_cons_succ]
  refine wpAnyH_take (i := 24) (oi := ⟨some 80, _, _, _, _, _⟩) (v := .pointer (some ⟨bb, 1, none⟩)) rfl (by kernel_rfl) (by kernel_rfl) (by kernel_rfl) (fun c a w h => hQp c (a.put _ _) a w rfl h) (Or.inl ⟨by rfl, fun W hSw => by go_simp⟩) (by assumption) ?_
  try simp only [Act.put, List.setIfInBounds_toArray, List.set_cons_zero, List.set_cons_succ]
  refine wpAnyH_take (i := 25) (oi := ⟨some 81, _, _, _, _, _⟩) (v := .slice b ys.length cb) rfl (by kernel_rfl) (by kernel_rfl) (by kernel_rfl) (fun c a w h => hQp c (a.put _ _) a w rfl h) (Or.inl ⟨by rfl, fun W hSw => by obtain ⟨s1, s2, s3, s4, s5, s6, s7, s8⟩ := hSw; go_simp⟩) (by assumption) ?_
  try simp only [Act.put, List.setIfInBounds_toArray, List.set_cons_zero, List.set_cons_succ]
  refine wpAnyH_take (i := 26) (oi := ⟨some 82, _, _, _, _, _⟩) (v := .int .i64 ys.length) rfl (by kernel_rfl) (by kernel_rfl) (by kernel_rfl) (fun c a w h => hQp c (a.put _ _) a w rfl h) (Or.inl ⟨by rfl, fun W hSw => by go_simp⟩) (by assumption) ?_
  try simp only [Act.put, List.setIfInBounds_toArray, List.set_cons_zero, List.set_cons_succ]
  refine wpAnyH_take (i := 27) (oi := ⟨some 83, _, _, _, _, _⟩) (v := .int .i64 p) rfl (by kernel_rfl) (by kernel_rfl) (by kernel_rfl) (fun c a w h => hQp c (a.put _ _) a w rfl h) (Or.inl ⟨by rfl, fun W hSw => by go_simp; exact IntWalk.i64_in _ ⟨by omega, by omega⟩⟩) (by assumption) ?_
  try simp only [Act.put, List.setIfInBounds_toArray, List.set_cons_zero, List.set_cons_succ]
  refine wpAnyH_ready (rs := [20]) (by kernel_rfl) (by simp) ?_
  refine AllReadyH.cons rfl (fun K hKK => ?_) AllReadyH.nil
  go_simp
  go_at_call 20
  refine (sum_at va n vc C p _ (HIC.out _ hq1) HC.out.2 (by omega) HS.out).mono ?_
  rintro e y2 ⟨rfl, hc⟩
  have hq2 := hq1.trans (hc.mono hq1.size)
  clear hc
  refine hKK.out _ _ (HK.out _ hq2) (fun hSS2 => ?_)
  clear hKK K hSS1
  try simp only [Act.put, List.setIfInBounds_toArray, List.set_cons_zero, List.set_cons_succ]
  refine wpAnyH_take (i := 28) (oi := ⟨some 84, _, _, _, _, _⟩) (v := .bool false) rfl (by kernel_rfl) (by kernel_rfl) (by kernel_rfl) (fun c a w h => hQp c (a.put _ _) a w rfl h) (Or.inl ⟨by rfl, fun W hSw => by go_simp⟩) (by assumption) ?_
  try simp only [Act.put, List.setIfInBounds_toArray, List.set_cons_zero, List.set_cons_succ]
  refine wpAnyH_take (i := 29) (oi := ⟨some 85, _, _, _, _, _⟩) (v := .bool false) rfl (by kernel_rfl) (by kernel_rfl) (by kernel_rfl) (fun c a w h => hQp c (a.put _ _) a w rfl h) (Or.inl ⟨by rfl, fun W hSw => by go_simp⟩) (by assumption) ?_
  try simp only [Act.put, List.setIfInBounds_toArray, List.set_cons_zero, List.set_cons_succ]
  refine wpAnyH_take (i := 30) (oi := ⟨some 86, _, _, _, _, _⟩) (v := .bool false) rfl (by kernel_rfl) (by kernel_rfl) (by kernel_rfl) (fun c a w h => hQp c (a.put _ _) a w rfl h) (Or.inl ⟨by rfl, fun W hSw => by go_simp⟩) (by assumption) ?_
  try simp only [Act.put, List.setIfInBounds_toArray, List.set_cons_zero, List.set_cons_succ]
  refine wpAnyH_take (i := 31) (oi := ⟨some 87, _, _, _, _, _⟩) (v := .slice ga G.length gc) rfl (by kernel_rfl) (by kernel_rfl) (by kernel_rfl) (fun c a w h => hQp c (a.put _ _) a w rfl h) (Or.inl ⟨by rfl, fun W hSw => by go_simp⟩) (by assumption) ?_
  try simp only [Act.put, List.setIfInBounds_toArray, List.set_cons_zero, List.set_cons_succ]
  refine wpAnyH_take (i := 32) (oi := ⟨some 88, _, _, _, _, _⟩) (v := .int .i64 G.length) rfl (by kernel_rfl) (by kernel_rfl) (by kernel_rfl) (fun c a w h => hQp c (a.put _ _) a w rfl h) (Or.inl ⟨by rfl, fun W hSw => by go_simp⟩) (by assumption) ?_
  try simp only [Act.put, List.setIfInBounds_toArray, List.set_cons_zero, List.set_cons_succ]
  refine wpAnyH_take (i := 33) (oi := ⟨some 89, _, _, _, _, _⟩) (v := .agg #[.int .i64 n, .slice sa Z.length sc]) rfl (by kernel_rfl) (by kernel_rfl) (by kernel_rfl) (fun c a w h => hQp c (a.put _ _) a w rfl h) (Or.inl ⟨by rfl, fun W hSw => by obtain ⟨s1, s2, s3, s4, s5, s6, s7, s8⟩ := hSw; go_simp⟩) (by assumption) ?_
  try simp only [Act.put, List.setIfInBounds_toArray, List.set_cons_zero, List.set_cons_succ]
  refine wpAnyH_take (i := 36) (oi := ⟨some 92, _, _, _, _, _⟩) (v := .int .i64 n) rfl (by kernel_rfl) (by kernel_rfl) (by kernel_rfl) (fun c a w h => hQp c (a.put _ _) a w rfl h) (Or.inl ⟨by rfl, fun W hSw => by go_simp⟩) (by assumption) ?_
  try simp only [Act.put, List.setIfInBounds_toArray, List.set_cons_zero, List.set_cons_succ]
  refine wpAnyH_ready (rs := [34]) (by kernel_rfl) (by simp) ?_
  refine AllReadyH.cons rfl (fun K hKK => ?_) AllReadyH.nil
  go_simp
  go_at_call 21
  refine (r_cnt n sa sc Z (Z.length : Int) _ (HIS.out _ hq2) HZ.out rfl).mono ?_
  rintro e y3 ⟨rfl, hc⟩
  have hq3 := hq2.trans (hc.mono hq2.size)
  clear hc
  refine hKK.out _ _ (HK.out _ hq3) (fun hSS3 => ?_)
  clear hKK K hSS2
  try simp only [Act.put, List.setIfInBounds_toArray, List.set_cons_zero, List.set_cons_succ]
  refine wpAnyH_take (i := 35) (oi := ⟨some 91, _, _, _, _, _⟩) (v := .int .i64 n) rfl (by kernel_rfl) (by kernel_rfl) (by kernel_rfl) (fun c a w h => hQp c (a.put _ _) a w rfl h) (Or.inl ⟨by rfl, fun W hSw => by go_simp; exact (IntWalk.i64_in _ ⟨by omega, by omega⟩).trans (by omega)⟩) (by assumption) ?_
  try simp only [Act.put, List.setIfInBounds_toArray, List.set_cons_zero, List.set_cons_succ]
  refine wpAnyH_take (i := 37) (oi := ⟨some 93, _, _, _, _, _⟩) (v := .bool false) rfl (by kernel_rfl) (by kernel_rfl) (by kernel_rfl) (fun c a w h => hQp c (a.put _ _) a w rfl h) (Or.inl ⟨by rfl, fun W hSw => by go_simp⟩) (by assumption) ?_
  try simp only [Act.put, List.setIfInBounds_toArray, List.set_cons_zero, List.set_cons_succ]
  refine wpAnyH_take (i := 38) (oi := ⟨some 94, _, _, _, _, _⟩) (v := .bool false) rfl (by kernel_rfl) (by kernel_rfl) (by kernel_rfl) (fun c a w h => hQp c (a.put _ _) a w rfl h) (Or.inl ⟨by rfl, fun W hSw => by go_simp⟩) (by assumption) ?_
  try simp only [Act.put, List.setIfInBounds_toArray, List.set_cons_zero, List.set_cons_succ]
  refine wpAnyH_done (by kernel_rfl) ?_ _
  exact HKK.out _ _ _ _ _ _ _ _ _ _ _ _ _ _ _ _ _ _ _ _ _ _ _ _ _ _ _ _ _ _ _ _ _ _ _ _ _ _ _ hq3

set_option maxHeartbeats 8000000 in
set_option maxRecDepth 100000 in
theorem sums33_d (n p : Nat) (xs ys Z G C : List Int) (ab bb sb tb : Nat) (a b sa ta va ga : Option Addr) (ca cb sc tc vc gc : Nat) (w0 W : World) {K : Act → World → Prop} {u0 u1 u2 u3 u6 u8 u9 u10 u12 u13 u14 u15 u16 u17 u18 u19 u20 u21 u22 u23 u24 u25 u26 u27 u28 u29 u30 u31 u32 u33 u34 u35 u36 u37 u38 u39 u40 u41 u42 u43 u44 u45 u46 u47 u48 u49 u50 u51 u52 u53 u54 u55 u56 u57 u58 u59 u60 u61 u62 u63 u64 u65 u66 u67 u68 u69 u70 u71 u72 u73 u74 u75 u76 u77 u78 u79 u80 u81 u82 u83 u84 u85 u86 u87 u88 u89 u90 u91 u92 u93 u94 u95 u96 u97 u98 u99 u100 u101 u102 u103 u104 u105 u106 u107 u108 u109 u110 u111 u112 u113 u114 u115 u116 u117 u118 u119 u120 u121 u122 u123 u124 u125 u126 u127 u128 u129 u130 u131 u132 u133 u134 u135 u136 u137 u138 u139 u140 u141 u142 u143 u144 u145 u146 u147 u148 u149 u150 u151 u152 u153 u154 u155 u156 u157 u158 u159 u160 u161 u162 u163 u164 u165 u166 u167 u168 u169 u170 u171 u172 u173 u174 u175 u176 u177 u178 u179 u180 u181 u182 u183 u184 u185 u186 u187 u188 u189 u190 u191 u192 u193 u194 u195 u196 u197 u198 u199 u200 u201 u202 u203 u204 u205 u206 u207 u208 u209 u210 u211 u212 u213 u214 u215 u216 u217 u218 u219 u220 u221 u222 u223 u224 u225 u226 u227 u228 u229 u230 u231 : Value}
    (hn1 : 1 ≤ n) (hn : n ≤ 24) (hx : Ok n xs) (hy : Ok n ys) (hz : Ok n Z) (hra : RhAt W ab n a ca xs) (hrb : RhAt W bb n b cb ys) (hrs : RhAt W sb n sa sc Z) (hrt : RhAt W tb n ta tc Z) (hmul : (xs.length : Int) * (ys.length : Int) = (p : Int)) (hp : p ≤ 576) (hd : dirB n xs n ys = true) (ht : tilB n xs n ys = true) (hzp : Z.length = p) (hg : G.length = 0)
    (hK : ∀ (x204 x205 x206 x207 x208 x209 x210 x211 x212 x213 x214 x215 x216 x217 x218 x219 x220 x221 x222 x223 x224 x225 x226 x227 x228 x229 x230 x231 : Value) (w' : World), Below W.heap.size W w' → K ({ tmps := #[u0, u1, .bool true, u3, .pointer (some ⟨ab, 0, none⟩), .pointer (some ⟨bb, 0, none⟩), u6, .pointer (some ⟨sb, 0, none⟩), u8, u9, u10, .slice ga G.length gc, u12, u13, u14, u15, u16, u17, u18, u19, u20, u21, u22, u23, u24, u25, u26, u27, u28, u29, u30, u31, u32, u33, u34, u35, u36, u37, u38, u39, u40, u41, u42, u43, u44, u45, u46, u47, u48, u49, u50, u51, u52, u53, u54, u55, u56, u57, u58, u59, u60, u61, u62, u63, u64, u65, u66, u67, u68, u69, u70, u71, u72, u73, u74, u75, u76, u77, u78, u79, u80, u81, u82, u83, u84, u85, u86, u87, u88, u89, u90, u91, u92, u93, u94, u95, u96, u97, u98, u99, u100, u101, u102, u103, u104, u105, u106, u107, u108, u109, u110, u111, u112, u113, u114, u115, u116, u117, u118, u119, u120, u121, u122, u123, u124, u125, u126, u127, u128, u129, u130, u131, u132, u133, u134, u135, u136, u137, u138, u139, u140, u141, u142, u143, u144, u145, u146, u147, u148, u149, u150, u151, u152, u153, u154, u155, u156, u157, u158, u159, u160, u161, u162, u163, u164, u165, u166, u167, u168, u169, u170, u171, u172, u173, u174, u175, u176, u177, u178, u179, u180, u181, u182, u183, u184, u185, u186, u187, u188, u189, u190, u191, u192, u193, u194, u195, u196, u197, u198, u199, u200, u201, u202, u203, x204, x205, x206, x207, x208, x209, x210, x211, x212, x213, x214, x215, x216, x217, x218, x219, x220, x221, x222, x223, x224, x225, x226, x227, x228, x229, x230, x231], defers := [] } : Act) w') :
    Code.wp Try.prog (rgOf Try.f3 33) (Exit.then K (bodyPost Try.prog Try.f3 fun e w' => e = .returned (.bool true) ∧ Below w0.heap.size w0 w')) ({ tmps := #[u0, u1, u2, u3, .pointer (some ⟨ab, 0, none⟩), .pointer (some ⟨bb, 0, none⟩), u6, .pointer (some ⟨sb, 0, none⟩), u8, u9, u10, .slice ga G.length gc, u12, u13, u14, u15, u16, u17, u18, u19, u20, u21, u22, u23, u24, u25, u26, u27, u28, u29, u30, u31, u32, u33, u34, u35, u36, u37, u38, u39, u40, u41, u42, u43, u44, u45, u46, u47, u48, u49, u50, u51, u52, u53, u54, u55, u56, u57, u58, u59, u60, u61, u62, u63, u64, u65, u66, u67, u68, u69, u70, u71, u72, u73, u74, u75, u76, u77, u78, u79, u80, u81, u82, u83, u84, u85, u86, u87, u88, u89, u90, u91, u92, u93, u94, u95, u96, u97, u98, u99, u100, u101, u102, u103, u104, u105, u106, u107, u108, u109, u110, u111, u112, u113, u114, u115, u116, u117, u118, u119, u120, u121, u122, u123, u124, u125, u126, u127, u128, u129, u130, u131, u132, u133, u134, u135, u136, u137, u138, u139, u140, u141, u142, u143, u144, u145, u146, u147, u148, u149, u150, u151, u152, u153, u154, u155, u156, u157, u158, u159, u160, u161, u162, u163, u164, u165, u166, u167, u168, u169, u170, u171, u172, u173, u174, u175, u176, u177, u178, u179, u180, u181, u182, u183, u184, u185, u186, u187, u188, u189, u190, u191, u192, u193, u194, u195, u196, u197, u198, u199, u200, u201, u202, u203, u204, u205, u206, u207, u208, u209, u210, u211, u212, u213, u214, u215, u216, u217, u218, u219, u220, u221, u222, u223, u224, u225, u226, u227, u228, u229, u230, u231], defers := [] } : Act) W := by
  have HX := Lib.hid hx
  have HY := Lib.hid hy
  have HZ := Lib.hid hz
  have HRA := Lib.hid hra
  have HRB := Lib.hid hrb
  have HRS := Lib.hid hrs
  have HRT := Lib.hid hrt
  have HKK := Lib.hid hK
  have HD := Lib.hid hd
  have HT := Lib.hid ht
  have f4 : ((Z.length : Int) == (p : Int)) = true := by rw [hzp]; exact beq_self_eq_true _
  have f5 : (Z.length == p) = true := by rw [hzp]; exact beq_self_eq_true _
  have f6 : ((G.length : Int) == 0) = true := by rw [hg]; rfl
  have f7 : (G.length == 0) = true := by rw [hg]; rfl
  clear hx hy hz hra hrb hrs hrt hK hd ht hzp hg
  have HK : Hid (∀ W' : World, Below W.heap.size W W' → W'.cell? ⟨ab, 0, none⟩ = some (.int .i64 n) ∧ W'.cell? ⟨ab, 1, none⟩ = some (.slice a xs.length ca) ∧ W'.cell? ⟨bb, 0, none⟩ = some (.int .i64 n) ∧ W'.cell? ⟨bb, 1, none⟩ = some (.slice b ys.length cb) ∧ W'.cell? ⟨sb, 0, none⟩ = some (.int .i64 n) ∧ W'.cell? ⟨sb, 1, none⟩ = some (.slice sa Z.length sc) ∧ W'.cell? ⟨tb, 0, none⟩ = some (.int .i64 n) ∧ W'.cell? ⟨tb, 1, none⟩ = some (.slice ta Z.length tc)) := Lib.hid (fun W' hW => ⟨(HRA.out.keep hW).1.facts.1, (HRA.out.keep hW).1.facts.2.1, (HRB.out.keep hW).1.facts.1, (HRB.out.keep hW).1.facts.2.1, (HRS.out.keep hW).1.facts.1, (HRS.out.keep hW).1.facts.2.1, (HRT.out.keep hW).1.facts.1, (HRT.out.keep hW).1.facts.2.1⟩)
  have HIA : Hid (∀ W' : World, Below W.heap.size W W' → IntsAt W' a xs.length xs) := Lib.hid (fun W' hW => (HRA.out.keep hW).2)
  have HIB : Hid (∀ W' : World, Below W.heap.size W W' → IntsAt W' b ys.length ys) := Lib.hid (fun W' hW => (HRB.out.keep hW).2)
  have HIS : Hid (∀ W' : World, Below W.heap.size W W' → IntsAt W' sa Z.length Z) := Lib.hid (fun W' hW => (HRS.out.keep hW).2)
  have HIT : Hid (∀ W' : World, Below W.heap.size W W' → IntsAt W' ta Z.length Z) := Lib.hid (fun W' hW => (HRT.out.keep hW).2)
  conv => enter [2]; whnf
  have hq0 : Below W.heap.size W W.drew := (Below.refl _ _).drew
  refine wp_region_held_drew (S := fun W' => W'.cell? ⟨ab, 0, none⟩ = some (.int .i64 n) ∧ W'.cell? ⟨ab, 1, none⟩ = some (.slice a xs.length ca) ∧ W'.cell? ⟨bb, 0, none⟩ = some (.int .i64 n) ∧ W'.cell? ⟨bb, 1, none⟩ = some (.slice b ys.length cb) ∧ W'.cell? ⟨sb, 0, none⟩ = some (.int .i64 n) ∧ W'.cell? ⟨sb, 1, none⟩ = some (.slice sa Z.length sc) ∧ W'.cell? ⟨tb, 0, none⟩ = some (.int .i64 n) ∧ W'.cell? ⟨tb, 1, none⟩ = some (.slice ta Z.length tc)) (by kernel_rfl) (HK.out _ hq0) (fun hSS0 => ?_)
  refine wpAnyH_take (i := 0) (oi := ⟨some 204, _, _, _, _, _⟩) (v := .agg #[.int .i64 n, .slice a xs.length ca]) rfl (by kernel_rfl) (by kernel_rfl) (by kernel_rfl) (fun _ _ _ h => h) (Or.inl ⟨by rfl, fun W hSw => by obtain ⟨s1, s2, s3, s4, s5, s6, s7, s8⟩ := hSw; go_simp⟩) (by assumption) ?_
  try simp only [Act.put, List.setIfInBounds_toArray, List.set_cons_zero, List.set_cons_succ]
  refine wpAnyH_take (i := 1) (oi := ⟨some 205, _, _, _, _, _⟩) (v := .agg #[.int .i64 n, .slice b ys.length cb]) rfl (by kernel_rfl) (by kernel_rfl) (by kernel_rfl) (fun _ _ _ h => h) (Or.inl ⟨by rfl, fun W hSw => by obtain ⟨s1, s2, s3, s4, s5, s6, s7, s8⟩ := hSw; go_simp⟩) (by assumption) ?_
  try simp only [Act.put, List.setIfInBounds_toArray, List.set_cons_zero, List.set_cons_succ]
  refine wpAnyH_take (i := 3) (oi := ⟨some 207, _, _, _, _, _⟩) (v := .agg #[.int .i64 n, .slice a xs.length ca]) rfl (by kernel_rfl) (by kernel_rfl) (by kernel_rfl) (fun _ _ _ h => h) (Or.inl ⟨by rfl, fun W hSw => by obtain ⟨s1, s2, s3, s4, s5, s6, s7, s8⟩ := hSw; go_simp⟩) (by assumption) ?_
  try simp only [Act.put, List.setIfInBounds_toArray, List.set_cons_zero, List.set_cons_succ]
  refine wpAnyH_take (i := 4) (oi := ⟨some 208, _, _, _, _, _⟩) (v := .agg #[.int .i64 n, .slice b ys.length cb]) rfl (by kernel_rfl) (by kernel_rfl) (by kernel_rfl) (fun _ _ _ h => h) (Or.inl ⟨by rfl, fun W hSw => by obtain ⟨s1, s2, s3, s4, s5, s6, s7, s8⟩ := hSw; go_simp⟩) (by assumption) ?_
  try simp only [Act.put, List.setIfInBounds_toArray, List.set_cons_zero, List.set_cons_succ]
  refine wpAnyH_ready (rs := [2]) (by kernel_rfl) (by simp) ?_
  refine AllReadyH.cons rfl (fun K hKK => ?_) AllReadyH.nil
  go_simp
  go_at_call 27
  refine (v_til n a ca xs b cb ys true _ (HIA.out _ hq0) (HIB.out _ hq0) HX.out HY.out HT.out).mono ?_
  rintro e y1 ⟨rfl, hc⟩
  have hq1 := hq0.trans (hc.mono hq0.size)
  clear hc
  refine hKK.out _ _ (HK.out _ hq1) (fun hSS1 => ?_)
  clear hKK K hSS0
  try simp only [Act.put, List.setIfInBounds_toArray, List.set_cons_zero, List.set_cons_succ]
  refine wpAnyH_ready (rs := [5]) (by kernel_rfl) (by simp) ?_
  refine AllReadyH.cons rfl (fun K hKK => ?_) AllReadyH.nil
  go_simp
  go_at_call 24
  refine (v_dir n a ca xs b cb ys true _ (HIA.out _ hq1) (HIB.out _ hq1) HX.out HY.out HD.out).mono ?_
  rintro e y2 ⟨rfl, hc⟩
  have hq2 := hq1.trans (hc.mono hq1.size)
  clear hc
  refine hKK.out _ _ (HK.out _ hq2) (fun hSS2 => ?_)
  clear hKK K hSS1
  try simp only [Act.put, List.setIfInBounds_toArray, List.set_cons_zero, List.set_cons_succ]
  refine wpAnyH_take (i := 6) (oi := ⟨some 210, _, _, _, _, _⟩) (v := .bool true) rfl (by kernel_rfl) (by kernel_rfl) (by kernel_rfl) (fun _ _ _ h => h) (Or.inl ⟨by rfl, fun W hSw => by go_simp⟩) (by assumption) ?_
  try simp only [Act.put, List.setIfInBounds_toArray, List.set_cons_zero, List.set_cons_succ]
  refine wpAnyH_take (i := 7) (oi := ⟨some 211, _, _, _, _, _⟩) (v := .slice ga G.length gc) rfl (by kernel_rfl) (by kernel_rfl) (by kernel_rfl) (fun _ _ _ h => h) (Or.inl ⟨by rfl, fun W hSw => by go_simp⟩) (by assumption) ?_
  try simp only [Act.put, List.setIfInBounds_toArray, List.set_cons_zero, List.set_cons_succ]
  refine wpAnyH_take (i := 8) (oi := ⟨some 212, _, _, _, _, _⟩) (v := .int .i64 G.length) rfl (by kernel_rfl) (by kernel_rfl) (by kernel_rfl) (fun _ _ _ h => h) (Or.inl ⟨by rfl, fun W hSw => by go_simp⟩) (by assumption) ?_
  try simp only [Act.put, List.setIfInBounds_toArray, List.set_cons_zero, List.set_cons_succ]
  refine wpAnyH_take (i := 9) (oi := ⟨some 213, _, _, _, _, _⟩) (v := .bool true) rfl (by kernel_rfl) (by kernel_rfl) (by kernel_rfl) (fun _ _ _ h => h) (Or.inl ⟨by rfl, fun W hSw => by go_simp⟩) (by assumption) ?_
  try simp only [Act.put, List.setIfInBounds_toArray, List.set_cons_zero, List.set_cons_succ]
  refine wpAnyH_take (i := 10) (oi := ⟨some 214, _, _, _, _, _⟩) (v := .bool true) rfl (by kernel_rfl) (by kernel_rfl) (by kernel_rfl) (fun _ _ _ h => h) (Or.inl ⟨by rfl, fun W hSw => by go_simp⟩) (by assumption) ?_
  try simp only [Act.put, List.setIfInBounds_toArray, List.set_cons_zero, List.set_cons_succ]
  refine wpAnyH_take (i := 11) (oi := ⟨some 215, _, _, _, _, _⟩) (v := .bool true) rfl (by kernel_rfl) (by kernel_rfl) (by kernel_rfl) (fun _ _ _ h => h) (Or.inl ⟨by rfl, fun W hSw => by go_simp⟩) (by assumption) ?_
  try simp only [Act.put, List.setIfInBounds_toArray, List.set_cons_zero, List.set_cons_succ]
  refine wpAnyH_take (i := 12) (oi := ⟨some 216, _, _, _, _, _⟩) (v := .bool true) rfl (by kernel_rfl) (by kernel_rfl) (by kernel_rfl) (fun _ _ _ h => h) (Or.inl ⟨by rfl, fun W hSw => by go_simp⟩) (by assumption) ?_
  try simp only [Act.put, List.setIfInBounds_toArray, List.set_cons_zero, List.set_cons_succ]
  refine wpAnyH_take (i := 13) (oi := ⟨some 217, _, _, _, _, _⟩) (v := .agg #[.int .i64 n, .slice a xs.length ca]) rfl (by kernel_rfl) (by kernel_rfl) (by kernel_rfl) (fun _ _ _ h => h) (Or.inl ⟨by rfl, fun W hSw => by obtain ⟨s1, s2, s3, s4, s5, s6, s7, s8⟩ := hSw; go_simp⟩) (by assumption) ?_
  try simp only [Act.put, List.setIfInBounds_toArray, List.set_cons_zero, List.set_cons_succ]
  refine wpAnyH_take (i := 14) (oi := ⟨some 218, _, _, _, _, _⟩) (v := .agg #[.int .i64 n, .slice b ys.length cb]) rfl (by kernel_rfl) (by kernel_rfl) (by kernel_rfl) (fun _ _ _ h => h) (Or.inl ⟨by rfl, fun W hSw => by obtain ⟨s1, s2, s3, s4, s5, s6, s7, s8⟩ := hSw; go_simp⟩) (by assumption) ?_
  try simp only [Act.put, List.setIfInBounds_toArray, List.set_cons_zero, List.set_cons_succ]
  refine wpAnyH_take (i := 16) (oi := ⟨some 220, _, _, _, _, _⟩) (v := .agg #[.int .i64 n, .slice sa Z.length sc]) rfl (by kernel_rfl) (by kernel_rfl) (by kernel_rfl) (fun _ _ _ h => h) (Or.inl ⟨by rfl, fun W hSw => by obtain ⟨s1, s2, s3, s4, s5, s6, s7, s8⟩ := hSw; go_simp⟩) (by assumption) ?_
  try simp only [Act.put, List.setIfInBounds_toArray, List.set_cons_zero, List.set_cons_succ]
  refine wpAnyH_take (i := 18) (oi := ⟨some 222, _, _, _, _, _⟩) (v := .pointer (some ⟨ab, 1, none⟩)) rfl (by kernel_rfl) (by kernel_rfl) (by kernel_rfl) (fun _ _ _ h => h) (Or.inl ⟨by rfl, fun W hSw => by go_simp⟩) (by assumption) ?_
  try simp only [Act.put, List.setIfInBounds_toArray, List.set_cons_zero, List.set_cons_succ]
  refine wpAnyH_take (i := 19) (oi := ⟨some 223, _, _, _, _, _⟩) (v := .slice a xs.length ca) rfl (by kernel_rfl) (by kernel_rfl) (by kernel_rfl) (fun _ _ _ h => h) (Or.inl ⟨by rfl, fun W hSw => by obtain ⟨s1, s2, s3, s4, s5, s6, s7, s8⟩ := hSw; go_simp⟩) (by assumption) ?_
  try simp only [Act.put, List.setIfInBounds_toArray, List.set_cons_zero, List.set_cons_succ]
  refine wpAnyH_take (i := 20) (oi := ⟨some 224, _, _, _, _, _⟩) (v := .int .i64 xs.length) rfl (by kernel_rfl) (by kernel_rfl) (by kernel_rfl) (fun _ _ _ h => h) (Or.inl ⟨by rfl, fun W hSw => by go_simp⟩) (by assumption) ?_
  try simp only [Act.put, List.setIfInBounds_toArray, List.set_cons_zero, List.set_cons_succ]
  refine wpAnyH_take (i := 21) (oi := ⟨some 225, _, _, _, _, _⟩) (v := .pointer (some ⟨bb, 1, none⟩)) rfl (by kernel_rfl) (by kernel_rfl) (by kernel_rfl) (fun _ _ _ h => h) (Or.inl ⟨by rfl, fun W hSw => by go_simp⟩) (by assumption) ?_
  try simp only [Act.put, List.setIfInBounds_toArray, List.set_cons_zero, List.set_cons_succ]
  refine wpAnyH_take (i := 22) (oi := ⟨some 226, _, _, _, _, _⟩) (v := .slice b ys.length cb) rfl (by kernel_rfl) (by kernel_rfl) (by kernel_rfl) (fun _ _ _ h => h) (Or.inl ⟨by rfl, fun W hSw => by obtain ⟨s1, s2, s3, s4, s5, s6, s7, s8⟩ := hSw; go_simp⟩) (by assumption) ?_
  try simp only [Act.put, List.setIfInBounds_toArray, List.set_cons_zero, List.set_cons_succ]
  refine wpAnyH_take (i := 23) (oi := ⟨some 227, _, _, _, _, _⟩) (v := .int .i64 ys.length) rfl (by kernel_rfl) (by kernel_rfl) (by kernel_rfl) (fun _ _ _ h => h) (Or.inl ⟨by rfl, fun W hSw => by go_simp⟩) (by assumption) ?_
  try simp only [Act.put, List.setIfInBounds_toArray, List.set_cons_zero, List.set_cons_succ]
  refine wpAnyH_take (i := 24) (oi := ⟨some 228, _, _, _, _, _⟩) (v := .int .i64 p) rfl (by kernel_rfl) (by kernel_rfl) (by kernel_rfl) (fun _ _ _ h => h) (Or.inl ⟨by rfl, fun W hSw => by go_simp; exact IntWalk.i64_in _ ⟨by omega, by omega⟩⟩) (by assumption) ?_
  try simp only [Act.put, List.setIfInBounds_toArray, List.set_cons_zero, List.set_cons_succ]
  refine wpAnyH_ready (rs := [15]) (by kernel_rfl) (by simp) ?_
  refine AllReadyH.cons rfl (fun K hKK => ?_) AllReadyH.nil
  go_simp
  go_at_call 24
  refine (v_dir n a ca xs b cb ys true _ (HIA.out _ hq2) (HIB.out _ hq2) HX.out HY.out HD.out).mono ?_
  rintro e y3 ⟨rfl, hc⟩
  have hq3 := hq2.trans (hc.mono hq2.size)
  clear hc
  refine hKK.out _ _ (HK.out _ hq3) (fun hSS3 => ?_)
  clear hKK K hSS2
  try simp only [Act.put, List.setIfInBounds_toArray, List.set_cons_zero, List.set_cons_succ]
  refine wpAnyH_ready (rs := [17]) (by kernel_rfl) (by simp) ?_
  refine AllReadyH.cons rfl (fun K hKK => ?_) AllReadyH.nil
  go_simp
  go_at_call 21
  refine (r_cnt n sa sc Z (Z.length : Int) _ (HIS.out _ hq3) HZ.out rfl).mono ?_
  rintro e y4 ⟨rfl, hc⟩
  have hq4 := hq3.trans (hc.mono hq3.size)
  clear hc
  refine hKK.out _ _ (HK.out _ hq4) (fun hSS4 => ?_)
  clear hKK K hSS3
  try simp only [Act.put, List.setIfInBounds_toArray, List.set_cons_zero, List.set_cons_succ]
  refine wpAnyH_take (i := 25) (oi := ⟨some 229, _, _, _, _, _⟩) (v := .bool true) rfl (by kernel_rfl) (by kernel_rfl) (by kernel_rfl) (fun _ _ _ h => h) (Or.inl ⟨by rfl, fun W hSw => by go_simp⟩) (by assumption) ?_
  try simp only [Act.put, List.setIfInBounds_toArray, List.set_cons_zero, List.set_cons_succ]
  refine wpAnyH_take (i := 26) (oi := ⟨some 230, _, _, _, _, _⟩) (v := .bool true) rfl (by kernel_rfl) (by kernel_rfl) (by kernel_rfl) (fun _ _ _ h => h) (Or.inl ⟨by rfl, fun W hSw => by go_simp⟩) (by assumption) ?_
  try simp only [Act.put, List.setIfInBounds_toArray, List.set_cons_zero, List.set_cons_succ]
  refine wpAnyH_take (i := 27) (oi := ⟨some 231, _, _, _, _, _⟩) (v := .bool true) rfl (by kernel_rfl) (by kernel_rfl) (by kernel_rfl) (fun _ _ _ h => h) (Or.inl ⟨by rfl, fun W hSw => by go_simp⟩) (by assumption) ?_
  try simp only [Act.put, List.setIfInBounds_toArray, List.set_cons_zero, List.set_cons_succ]
  refine wpAnyH_take (i := 28) (oi := ⟨some 2, _, _, _, _, _⟩) (v := .bool true) rfl (by kernel_rfl) (by kernel_rfl) (by kernel_rfl) (fun _ _ _ h => h) (Or.inl ⟨by rfl, fun W hSw => by go_simp⟩) (by assumption) ?_
  try simp only [Act.put, List.setIfInBounds_toArray, List.set_cons_zero, List.set_cons_succ]
  refine wpAnyH_done (by kernel_rfl) ?_ _
  exact HKK.out _ _ _ _ _ _ _ _ _ _ _ _ _ _ _ _ _ _ _ _ _ _ _ _ _ _ _ _ _ hq4

set_option maxHeartbeats 8000000 in
set_option maxRecDepth 100000 in
theorem sums33_e (n p : Nat) (xs ys Z G C : List Int) (ab bb sb tb : Nat) (a b sa ta va ga : Option Addr) (ca cb sc tc vc gc : Nat) (w0 W : World) {K : Act → World → Prop} {u0 u1 u2 u3 u6 u8 u9 u10 u12 u13 u14 u15 u16 u17 u18 u19 u20 u21 u22 u23 u24 u25 u26 u27 u28 u29 u30 u31 u32 u33 u34 u35 u36 u37 u38 u39 u40 u41 u42 u43 u44 u45 u46 u47 u48 u49 u50 u51 u52 u53 u54 u55 u56 u57 u58 u59 u60 u61 u62 u63 u64 u65 u66 u67 u68 u69 u70 u71 u72 u73 u74 u75 u76 u77 u78 u79 u80 u81 u82 u83 u84 u85 u86 u87 u88 u89 u90 u91 u92 u93 u94 u95 u96 u97 u98 u99 u100 u101 u102 u103 u104 u105 u106 u107 u108 u109 u110 u111 u112 u113 u114 u115 u116 u117 u118 u119 u120 u121 u122 u123 u124 u125 u126 u127 u128 u129 u130 u131 u132 u133 u134 u135 u136 u137 u138 u139 u140 u141 u142 u143 u144 u145 u146 u147 u148 u149 u150 u151 u152 u153 u154 u155 u156 u157 u158 u159 u160 u161 u162 u163 u164 u165 u166 u167 u168 u169 u170 u171 u172 u173 u174 u175 u176 u177 u178 u179 u180 u181 u182 u183 u184 u185 u186 u187 u188 u189 u190 u191 u192 u193 u194 u195 u196 u197 u198 u199 u200 u201 u202 u203 u204 u205 u206 u207 u208 u209 u210 u211 u212 u213 u214 u215 u216 u217 u218 u219 u220 u221 u222 u223 u224 u225 u226 u227 u228 u229 u230 u231 : Value}
    (hn1 : 1 ≤ n) (hn : n ≤ 24) (hx : Ok n xs) (hy : Ok n ys) (hz : Ok n Z) (hra : RhAt W ab n a ca xs) (hrb : RhAt W bb n b cb ys) (hrs : RhAt W sb n sa sc Z) (hrt : RhAt W tb n ta tc Z) (hmul : (xs.length : Int) * (ys.length : Int) = (p : Int)) (hp : p ≤ 576) (hd : dirB n xs n ys = true) (ht : tilB n xs n ys = false) (hzp : Z.length = p) (hg : G.length ≠ 0)
    (hK : ∀ (x204 x205 x206 x207 x208 x209 x210 x211 x212 x213 x214 x215 x216 x217 x218 x219 x220 x221 x222 x223 x224 x225 x226 x227 x228 x229 x230 x231 : Value) (w' : World), Below W.heap.size W w' → K ({ tmps := #[u0, u1, .bool true, u3, .pointer (some ⟨ab, 0, none⟩), .pointer (some ⟨bb, 0, none⟩), u6, .pointer (some ⟨sb, 0, none⟩), u8, u9, u10, .slice ga G.length gc, u12, u13, u14, u15, u16, u17, u18, u19, u20, u21, u22, u23, u24, u25, u26, u27, u28, u29, u30, u31, u32, u33, u34, u35, u36, u37, u38, u39, u40, u41, u42, u43, u44, u45, u46, u47, u48, u49, u50, u51, u52, u53, u54, u55, u56, u57, u58, u59, u60, u61, u62, u63, u64, u65, u66, u67, u68, u69, u70, u71, u72, u73, u74, u75, u76, u77, u78, u79, u80, u81, u82, u83, u84, u85, u86, u87, u88, u89, u90, u91, u92, u93, u94, u95, u96, u97, u98, u99, u100, u101, u102, u103, u104, u105, u106, u107, u108, u109, u110, u111, u112, u113, u114, u115, u116, u117, u118, u119, u120, u121, u122, u123, u124, u125, u126, u127, u128, u129, u130, u131, u132, u133, u134, u135, u136, u137, u138, u139, u140, u141, u142, u143, u144, u145, u146, u147, u148, u149, u150, u151, u152, u153, u154, u155, u156, u157, u158, u159, u160, u161, u162, u163, u164, u165, u166, u167, u168, u169, u170, u171, u172, u173, u174, u175, u176, u177, u178, u179, u180, u181, u182, u183, u184, u185, u186, u187, u188, u189, u190, u191, u192, u193, u194, u195, u196, u197, u198, u199, u200, u201, u202, u203, x204, x205, x206, x207, x208, x209, x210, x211, x212, x213, x214, x215, x216, x217, x218, x219, x220, x221, x222, x223, x224, x225, x226, x227, x228, x229, x230, x231], defers := [] } : Act) w') :
    Code.wp Try.prog (rgOf Try.f3 33) (Exit.then K (bodyPost Try.prog Try.f3 fun e w' => e = .returned (.bool true) ∧ Below w0.heap.size w0 w')) ({ tmps := #[u0, u1, u2, u3, .pointer (some ⟨ab, 0, none⟩), .pointer (some ⟨bb, 0, none⟩), u6, .pointer (some ⟨sb, 0, none⟩), u8, u9, u10, .slice ga G.length gc, u12, u13, u14, u15, u16, u17, u18, u19, u20, u21, u22, u23, u24, u25, u26, u27, u28, u29, u30, u31, u32, u33, u34, u35, u36, u37, u38, u39, u40, u41, u42, u43, u44, u45, u46, u47, u48, u49, u50, u51, u52, u53, u54, u55, u56, u57, u58, u59, u60, u61, u62, u63, u64, u65, u66, u67, u68, u69, u70, u71, u72, u73, u74, u75, u76, u77, u78, u79, u80, u81, u82, u83, u84, u85, u86, u87, u88, u89, u90, u91, u92, u93, u94, u95, u96, u97, u98, u99, u100, u101, u102, u103, u104, u105, u106, u107, u108, u109, u110, u111, u112, u113, u114, u115, u116, u117, u118, u119, u120, u121, u122, u123, u124, u125, u126, u127, u128, u129, u130, u131, u132, u133, u134, u135, u136, u137, u138, u139, u140, u141, u142, u143, u144, u145, u146, u147, u148, u149, u150, u151, u152, u153, u154, u155, u156, u157, u158, u159, u160, u161, u162, u163, u164, u165, u166, u167, u168, u169, u170, u171, u172, u173, u174, u175, u176, u177, u178, u179, u180, u181, u182, u183, u184, u185, u186, u187, u188, u189, u190, u191, u192, u193, u194, u195, u196, u197, u198, u199, u200, u201, u202, u203, u204, u205, u206, u207, u208, u209, u210, u211, u212, u213, u214, u215, u216, u217, u218, u219, u220, u221, u222, u223, u224, u225, u226, u227, u228, u229, u230, u231], defers := [] } : Act) W := by
  have HX := Lib.hid hx
  have HY := Lib.hid hy
  have HZ := Lib.hid hz
  have HRA := Lib.hid hra
  have HRB := Lib.hid hrb
  have HRS := Lib.hid hrs
  have HRT := Lib.hid hrt
  have HKK := Lib.hid hK
  have HD := Lib.hid hd
  have HT := Lib.hid ht
  have f4 : ((Z.length : Int) == (p : Int)) = true := by rw [hzp]; exact beq_self_eq_true _
  have f5 : (Z.length == p) = true := by rw [hzp]; exact beq_self_eq_true _
  have f6 : ((G.length : Int) == 0) = false := by rw [beq_eq_false_iff_ne]; omega
  have f7 : (G.length == 0) = false := by rw [beq_eq_false_iff_ne]; omega
  clear hx hy hz hra hrb hrs hrt hK hd ht hzp hg
  have HK : Hid (∀ W' : World, Below W.heap.size W W' → W'.cell? ⟨ab, 0, none⟩ = some (.int .i64 n) ∧ W'.cell? ⟨ab, 1, none⟩ = some (.slice a xs.length ca) ∧ W'.cell? ⟨bb, 0, none⟩ = some (.int .i64 n) ∧ W'.cell? ⟨bb, 1, none⟩ = some (.slice b ys.length cb) ∧ W'.cell? ⟨sb, 0, none⟩ = some (.int .i64 n) ∧ W'.cell? ⟨sb, 1, none⟩ = some (.slice sa Z.length sc) ∧ W'.cell? ⟨tb, 0, none⟩ = some (.int .i64 n) ∧ W'.cell? ⟨tb, 1, none⟩ = some (.slice ta Z.length tc)) := Lib.hid (fun W' hW => ⟨(HRA.out.keep hW).1.facts.1, (HRA.out.keep hW).1.facts.2.1, (HRB.out.keep hW).1.facts.1, (HRB.out.keep hW).1.facts.2.1, (HRS.out.keep hW).1.facts.1, (HRS.out.keep hW).1.facts.2.1, (HRT.out.keep hW).1.facts.1, (HRT.out.keep hW).1.facts.2.1⟩)
  have HIA : Hid (∀ W' : World, Below W.heap.size W W' → IntsAt W' a xs.length xs) := Lib.hid (fun W' hW => (HRA.out.keep hW).2)
  have HIB : Hid (∀ W' : World, Below W.heap.size W W' → IntsAt W' b ys.length ys) := Lib.hid (fun W' hW => (HRB.out.keep hW).2)
  have HIS : Hid (∀ W' : World, Below W.heap.size W W' → IntsAt W' sa Z.length Z) := Lib.hid (fun W' hW => (HRS.out.keep hW).2)
  have HIT : Hid (∀ W' : World, Below W.heap.size W W' → IntsAt W' ta Z.length Z) := Lib.hid (fun W' hW => (HRT.out.keep hW).2)
  conv => enter [2]; whnf
  have hq0 : Below W.heap.size W W.drew := (Below.refl _ _).drew
  refine wp_region_held_drew (S := fun W' => W'.cell? ⟨ab, 0, none⟩ = some (.int .i64 n) ∧ W'.cell? ⟨ab, 1, none⟩ = some (.slice a xs.length ca) ∧ W'.cell? ⟨bb, 0, none⟩ = some (.int .i64 n) ∧ W'.cell? ⟨bb, 1, none⟩ = some (.slice b ys.length cb) ∧ W'.cell? ⟨sb, 0, none⟩ = some (.int .i64 n) ∧ W'.cell? ⟨sb, 1, none⟩ = some (.slice sa Z.length sc) ∧ W'.cell? ⟨tb, 0, none⟩ = some (.int .i64 n) ∧ W'.cell? ⟨tb, 1, none⟩ = some (.slice ta Z.length tc)) (by kernel_rfl) (HK.out _ hq0) (fun hSS0 => ?_)
  refine wpAnyH_take (i := 0) (oi := ⟨some 204, _, _, _, _, _⟩) (v := .agg #[.int .i64 n, .slice a xs.length ca]) rfl (by kernel_rfl) (by kernel_rfl) (by kernel_rfl) (fun _ _ _ h => h) (Or.inl ⟨by rfl, fun W hSw => by obtain ⟨s1, s2, s3, s4, s5, s6, s7, s8⟩ := hSw; go_simp⟩) (by assumption) ?_
  try simp only [Act.put, List.setIfInBounds_toArray, List.set_cons_zero, List.set_cons_succ]
  refine wpAnyH_take (i := 1) (oi := ⟨some 205, _, _, _, _, _⟩) (v := .agg #[.int .i64 n, .slice b ys.length cb]) rfl (by kernel_rfl) (by kernel_rfl) (by kernel_rfl) (fun _ _ _ h => h) (Or.inl ⟨by rfl, fun W hSw => by obtain ⟨s1, s2, s3, s4, s5, s6, s7, s8⟩ := hSw; go_simp⟩) (by assumption) ?_
  try simp only [Act.put, List.setIfInBounds_toArray, List.set_cons_zero, List.set_cons_succ]
  refine wpAnyH_take (i := 3) (oi := ⟨some 207, _, _, _, _, _⟩) (v := .agg #[.int .i64 n, .slice a xs.length ca]) rfl (by kernel_rfl) (by kernel_rfl) (by kernel_rfl) (fun _ _ _ h => h) (Or.inl ⟨by rfl, fun W hSw => by obtain ⟨s1, s2, s3, s4, s5, s6, s7, s8⟩ := hSw; go_simp⟩) (by assumption) ?_
  try simp only [Act.put, List.setIfInBounds_toArray, List.set_cons_zero, List.set_cons_succ]
  refine wpAnyH_take (i := 4) (oi := ⟨some 208, _, _, _, _, _⟩) (v := .agg #[.int .i64 n, .slice b ys.length cb]) rfl (by kernel_rfl) (by kernel_rfl) (by kernel_rfl) (fun _ _ _ h => h) (Or.inl ⟨by rfl, fun W hSw => by obtain ⟨s1, s2, s3, s4, s5, s6, s7, s8⟩ := hSw; go_simp⟩) (by assumption) ?_
  try simp only [Act.put, List.setIfInBounds_toArray, List.set_cons_zero, List.set_cons_succ]
  refine wpAnyH_ready (rs := [2]) (by kernel_rfl) (by simp) ?_
  refine AllReadyH.cons rfl (fun K hKK => ?_) AllReadyH.nil
  go_simp
  go_at_call 27
  refine (v_til n a ca xs b cb ys false _ (HIA.out _ hq0) (HIB.out _ hq0) HX.out HY.out HT.out).mono ?_
  rintro e y1 ⟨rfl, hc⟩
  have hq1 := hq0.trans (hc.mono hq0.size)
  clear hc
  refine hKK.out _ _ (HK.out _ hq1) (fun hSS1 => ?_)
  clear hKK K hSS0
  try simp only [Act.put, List.setIfInBounds_toArray, List.set_cons_zero, List.set_cons_succ]
  refine wpAnyH_ready (rs := [5]) (by kernel_rfl) (by simp) ?_
  refine AllReadyH.cons rfl (fun K hKK => ?_) AllReadyH.nil
  go_simp
  go_at_call 24
  refine (v_dir n a ca xs b cb ys true _ (HIA.out _ hq1) (HIB.out _ hq1) HX.out HY.out HD.out).mono ?_
  rintro e y2 ⟨rfl, hc⟩
  have hq2 := hq1.trans (hc.mono hq1.size)
  clear hc
  refine hKK.out _ _ (HK.out _ hq2) (fun hSS2 => ?_)
  clear hKK K hSS1
  try simp only [Act.put, List.setIfInBounds_toArray, List.set_cons_zero, List.set_cons_succ]
  refine wpAnyH_take (i := 6) (oi := ⟨some 210, _, _, _, _, _⟩) (v := .bool true) rfl (by kernel_rfl) (by kernel_rfl) (by kernel_rfl) (fun _ _ _ h => h) (Or.inl ⟨by rfl, fun W hSw => by go_simp⟩) (by assumption) ?_
  try simp only [Act.put, List.setIfInBounds_toArray, List.set_cons_zero, List.set_cons_succ]
  refine wpAnyH_take (i := 7) (oi := ⟨some 211, _, _, _, _, _⟩) (v := .slice ga G.length gc) rfl (by kernel_rfl) (by kernel_rfl) (by kernel_rfl) (fun _ _ _ h => h) (Or.inl ⟨by rfl, fun W hSw => by go_simp⟩) (by assumption) ?_
  try simp only [Act.put, List.setIfInBounds_toArray, List.set_cons_zero, List.set_cons_succ]
  refine wpAnyH_take (i := 8) (oi := ⟨some 212, _, _, _, _, _⟩) (v := .int .i64 G.length) rfl (by kernel_rfl) (by kernel_rfl) (by kernel_rfl) (fun _ _ _ h => h) (Or.inl ⟨by rfl, fun W hSw => by go_simp⟩) (by assumption) ?_
  try simp only [Act.put, List.setIfInBounds_toArray, List.set_cons_zero, List.set_cons_succ]
  refine wpAnyH_take (i := 9) (oi := ⟨some 213, _, _, _, _, _⟩) (v := .bool false) rfl (by kernel_rfl) (by kernel_rfl) (by kernel_rfl) (fun _ _ _ h => h) (Or.inl ⟨by rfl, fun W hSw => by go_simp⟩) (by assumption) ?_
  try simp only [Act.put, List.setIfInBounds_toArray, List.set_cons_zero, List.set_cons_succ]
  refine wpAnyH_take (i := 10) (oi := ⟨some 214, _, _, _, _, _⟩) (v := .bool false) rfl (by kernel_rfl) (by kernel_rfl) (by kernel_rfl) (fun _ _ _ h => h) (Or.inl ⟨by rfl, fun W hSw => by go_simp⟩) (by assumption) ?_
  try simp only [Act.put, List.setIfInBounds_toArray, List.set_cons_zero, List.set_cons_succ]
  refine wpAnyH_take (i := 11) (oi := ⟨some 215, _, _, _, _, _⟩) (v := .bool true) rfl (by kernel_rfl) (by kernel_rfl) (by kernel_rfl) (fun _ _ _ h => h) (Or.inl ⟨by rfl, fun W hSw => by go_simp⟩) (by assumption) ?_
  try simp only [Act.put, List.setIfInBounds_toArray, List.set_cons_zero, List.set_cons_succ]
  refine wpAnyH_take (i := 12) (oi := ⟨some 216, _, _, _, _, _⟩) (v := .bool true) rfl (by kernel_rfl) (by kernel_rfl) (by kernel_rfl) (fun _ _ _ h => h) (Or.inl ⟨by rfl, fun W hSw => by go_simp⟩) (by assumption) ?_
  try simp only [Act.put, List.setIfInBounds_toArray, List.set_cons_zero, List.set_cons_succ]
  refine wpAnyH_take (i := 13) (oi := ⟨some 217, _, _, _, _, _⟩) (v := .agg #[.int .i64 n, .slice a xs.length ca]) rfl (by kernel_rfl) (by kernel_rfl) (by kernel_rfl) (fun _ _ _ h => h) (Or.inl ⟨by rfl, fun W hSw => by obtain ⟨s1, s2, s3, s4, s5, s6, s7, s8⟩ := hSw; go_simp⟩) (by assumption) ?_
  try simp only [Act.put, List.setIfInBounds_toArray, List.set_cons_zero, List.set_cons_succ]
  refine wpAnyH_take (i := 14) (oi := ⟨some 218, _, _, _, _, _⟩) (v := .agg #[.int .i64 n, .slice b ys.length cb]) rfl (by kernel_rfl) (by kernel_rfl) (by kernel_rfl) (fun _ _ _ h => h) (Or.inl ⟨by rfl, fun W hSw => by obtain ⟨s1, s2, s3, s4, s5, s6, s7, s8⟩ := hSw; go_simp⟩) (by assumption) ?_
  try simp only [Act.put, List.setIfInBounds_toArray, List.set_cons_zero, List.set_cons_succ]
  refine wpAnyH_take (i := 16) (oi := ⟨some 220, _, _, _, _, _⟩) (v := .agg #[.int .i64 n, .slice sa Z.length sc]) rfl (by kernel_rfl) (by kernel_rfl) (by kernel_rfl) (fun _ _ _ h => h) (Or.inl ⟨by rfl, fun W hSw => by obtain ⟨s1, s2, s3, s4, s5, s6, s7, s8⟩ := hSw; go_simp⟩) (by assumption) ?_
  try simp only [Act.put, List.setIfInBounds_toArray, List.set_cons_zero, List.set_cons_succ]
  refine wpAnyH_take (i := 18) (oi := ⟨some 222, _, _, _, _, _⟩) (v := .pointer (some ⟨ab, 1, none⟩)) rfl (by kernel_rfl) (by kernel_rfl) (by kernel_rfl) (fun _ _ _ h => h) (Or.inl ⟨by rfl, fun W hSw => by go_simp⟩) (by assumption) ?_
  try simp only [Act.put, List.setIfInBounds_toArray, List.set_cons_zero, List.set_cons_succ]
  refine wpAnyH_take (i := 19) (oi := ⟨some 223, _, _, _, _, _⟩) (v := .slice a xs.length ca) rfl (by kernel_rfl) (by kernel_rfl) (by kernel_rfl) (fun _ _ _ h => h) (Or.inl ⟨by rfl, fun W hSw => by obtain ⟨s1, s2, s3, s4, s5, s6, s7, s8⟩ := hSw; go_simp⟩) (by assumption) ?_
  try simp only [Act.put, List.setIfInBounds_toArray, List.set_cons_zero, List.set_cons_succ]
  refine wpAnyH_take (i := 20) (oi := ⟨some 224, _, _, _, _, _⟩) (v := .int .i64 xs.length) rfl (by kernel_rfl) (by kernel_rfl) (by kernel_rfl) (fun _ _ _ h => h) (Or.inl ⟨by rfl, fun W hSw => by go_simp⟩) (by assumption) ?_
  try simp only [Act.put, List.setIfInBounds_toArray, List.set_cons_zero, List.set_cons_succ]
  refine wpAnyH_take (i := 21) (oi := ⟨some 225, _, _, _, _, _⟩) (v := .pointer (some ⟨bb, 1, none⟩)) rfl (by kernel_rfl) (by kernel_rfl) (by kernel_rfl) (fun _ _ _ h => h) (Or.inl ⟨by rfl, fun W hSw => by go_simp⟩) (by assumption) ?_
  try simp only [Act.put, List.setIfInBounds_toArray, List.set_cons_zero, List.set_cons_succ]
  refine wpAnyH_take (i := 22) (oi := ⟨some 226, _, _, _, _, _⟩) (v := .slice b ys.length cb) rfl (by kernel_rfl) (by kernel_rfl) (by kernel_rfl) (fun _ _ _ h => h) (Or.inl ⟨by rfl, fun W hSw => by obtain ⟨s1, s2, s3, s4, s5, s6, s7, s8⟩ := hSw; go_simp⟩) (by assumption) ?_
  try simp only [Act.put, List.setIfInBounds_toArray, List.set_cons_zero, List.set_cons_succ]
  refine wpAnyH_take (i := 23) (oi := ⟨some 227, _, _, _, _, _⟩) (v := .int .i64 ys.length) rfl (by kernel_rfl) (by kernel_rfl) (by kernel_rfl) (fun _ _ _ h => h) (Or.inl ⟨by rfl, fun W hSw => by go_simp⟩) (by assumption) ?_
  try simp only [Act.put, List.setIfInBounds_toArray, List.set_cons_zero, List.set_cons_succ]
  refine wpAnyH_take (i := 24) (oi := ⟨some 228, _, _, _, _, _⟩) (v := .int .i64 p) rfl (by kernel_rfl) (by kernel_rfl) (by kernel_rfl) (fun _ _ _ h => h) (Or.inl ⟨by rfl, fun W hSw => by go_simp; exact IntWalk.i64_in _ ⟨by omega, by omega⟩⟩) (by assumption) ?_
  try simp only [Act.put, List.setIfInBounds_toArray, List.set_cons_zero, List.set_cons_succ]
  refine wpAnyH_ready (rs := [15]) (by kernel_rfl) (by simp) ?_
  refine AllReadyH.cons rfl (fun K hKK => ?_) AllReadyH.nil
  go_simp
  go_at_call 24
  refine (v_dir n a ca xs b cb ys true _ (HIA.out _ hq2) (HIB.out _ hq2) HX.out HY.out HD.out).mono ?_
  rintro e y3 ⟨rfl, hc⟩
  have hq3 := hq2.trans (hc.mono hq2.size)
  clear hc
  refine hKK.out _ _ (HK.out _ hq3) (fun hSS3 => ?_)
  clear hKK K hSS2
  try simp only [Act.put, List.setIfInBounds_toArray, List.set_cons_zero, List.set_cons_succ]
  refine wpAnyH_ready (rs := [17]) (by kernel_rfl) (by simp) ?_
  refine AllReadyH.cons rfl (fun K hKK => ?_) AllReadyH.nil
  go_simp
  go_at_call 21
  refine (r_cnt n sa sc Z (Z.length : Int) _ (HIS.out _ hq3) HZ.out rfl).mono ?_
  rintro e y4 ⟨rfl, hc⟩
  have hq4 := hq3.trans (hc.mono hq3.size)
  clear hc
  refine hKK.out _ _ (HK.out _ hq4) (fun hSS4 => ?_)
  clear hKK K hSS3
  try simp only [Act.put, List.setIfInBounds_toArray, List.set_cons_zero, List.set_cons_succ]
  refine wpAnyH_take (i := 25) (oi := ⟨some 229, _, _, _, _, _⟩) (v := .bool true) rfl (by kernel_rfl) (by kernel_rfl) (by kernel_rfl) (fun _ _ _ h => h) (Or.inl ⟨by rfl, fun W hSw => by go_simp⟩) (by assumption) ?_
  try simp only [Act.put, List.setIfInBounds_toArray, List.set_cons_zero, List.set_cons_succ]
  refine wpAnyH_take (i := 26) (oi := ⟨some 230, _, _, _, _, _⟩) (v := .bool true) rfl (by kernel_rfl) (by kernel_rfl) (by kernel_rfl) (fun _ _ _ h => h) (Or.inl ⟨by rfl, fun W hSw => by go_simp⟩) (by assumption) ?_
  try simp only [Act.put, List.setIfInBounds_toArray, List.set_cons_zero, List.set_cons_succ]
  refine wpAnyH_take (i := 27) (oi := ⟨some 231, _, _, _, _, _⟩) (v := .bool true) rfl (by kernel_rfl) (by kernel_rfl) (by kernel_rfl) (fun _ _ _ h => h) (Or.inl ⟨by rfl, fun W hSw => by go_simp⟩) (by assumption) ?_
  try simp only [Act.put, List.setIfInBounds_toArray, List.set_cons_zero, List.set_cons_succ]
  refine wpAnyH_take (i := 28) (oi := ⟨some 2, _, _, _, _, _⟩) (v := .bool true) rfl (by kernel_rfl) (by kernel_rfl) (by kernel_rfl) (fun _ _ _ h => h) (Or.inl ⟨by rfl, fun W hSw => by go_simp⟩) (by assumption) ?_
  try simp only [Act.put, List.setIfInBounds_toArray, List.set_cons_zero, List.set_cons_succ]
  refine wpAnyH_done (by kernel_rfl) ?_ _
  exact HKK.out _ _ _ _ _ _ _ _ _ _ _ _ _ _ _ _ _ _ _ _ _ _ _ _ _ _ _ _ _ hq4

set_option maxHeartbeats 8000000 in
set_option maxRecDepth 100000 in
theorem sums33_f (n p : Nat) (xs ys Z G C : List Int) (ab bb sb tb : Nat) (a b sa ta va ga : Option Addr) (ca cb sc tc vc gc : Nat) (w0 W : World) {K : Act → World → Prop} {u0 u1 u2 u3 u6 u8 u9 u10 u12 u13 u14 u15 u16 u17 u18 u19 u20 u21 u22 u23 u24 u25 u26 u27 u28 u29 u30 u31 u32 u33 u34 u35 u36 u37 u38 u39 u40 u41 u42 u43 u44 u45 u46 u47 u48 u49 u50 u51 u52 u53 u54 u55 u56 u57 u58 u59 u60 u61 u62 u63 u64 u65 u66 u67 u68 u69 u70 u71 u72 u73 u74 u75 u76 u77 u78 u79 u80 u81 u82 u83 u84 u85 u86 u87 u88 u89 u90 u91 u92 u93 u94 u95 u96 u97 u98 u99 u100 u101 u102 u103 u104 u105 u106 u107 u108 u109 u110 u111 u112 u113 u114 u115 u116 u117 u118 u119 u120 u121 u122 u123 u124 u125 u126 u127 u128 u129 u130 u131 u132 u133 u134 u135 u136 u137 u138 u139 u140 u141 u142 u143 u144 u145 u146 u147 u148 u149 u150 u151 u152 u153 u154 u155 u156 u157 u158 u159 u160 u161 u162 u163 u164 u165 u166 u167 u168 u169 u170 u171 u172 u173 u174 u175 u176 u177 u178 u179 u180 u181 u182 u183 u184 u185 u186 u187 u188 u189 u190 u191 u192 u193 u194 u195 u196 u197 u198 u199 u200 u201 u202 u203 u204 u205 u206 u207 u208 u209 u210 u211 u212 u213 u214 u215 u216 u217 u218 u219 u220 u221 u222 u223 u224 u225 u226 u227 u228 u229 u230 u231 : Value}
    (hn1 : 1 ≤ n) (hn : n ≤ 24) (hx : Ok n xs) (hy : Ok n ys) (hz : Ok n Z) (hra : RhAt W ab n a ca xs) (hrb : RhAt W bb n b cb ys) (hrs : RhAt W sb n sa sc Z) (hrt : RhAt W tb n ta tc Z) (hmul : (xs.length : Int) * (ys.length : Int) = (p : Int)) (hp : p ≤ 576) (hd : dirB n xs n ys = false) (ht : tilB n xs n ys = false) (hzp : Z.length ≠ p)
    (hK : ∀ (x204 x205 x206 x207 x208 x209 x210 x211 x212 x213 x214 x215 x216 x217 x218 x219 x220 x221 x222 x223 x224 x225 x226 x227 x228 x229 x230 x231 : Value) (w' : World), Below W.heap.size W w' → K ({ tmps := #[u0, u1, .bool true, u3, .pointer (some ⟨ab, 0, none⟩), .pointer (some ⟨bb, 0, none⟩), u6, .pointer (some ⟨sb, 0, none⟩), u8, u9, u10, .slice ga G.length gc, u12, u13, u14, u15, u16, u17, u18, u19, u20, u21, u22, u23, u24, u25, u26, u27, u28, u29, u30, u31, u32, u33, u34, u35, u36, u37, u38, u39, u40, u41, u42, u43, u44, u45, u46, u47, u48, u49, u50, u51, u52, u53, u54, u55, u56, u57, u58, u59, u60, u61, u62, u63, u64, u65, u66, u67, u68, u69, u70, u71, u72, u73, u74, u75, u76, u77, u78, u79, u80, u81, u82, u83, u84, u85, u86, u87, u88, u89, u90, u91, u92, u93, u94, u95, u96, u97, u98, u99, u100, u101, u102, u103, u104, u105, u106, u107, u108, u109, u110, u111, u112, u113, u114, u115, u116, u117, u118, u119, u120, u121, u122, u123, u124, u125, u126, u127, u128, u129, u130, u131, u132, u133, u134, u135, u136, u137, u138, u139, u140, u141, u142, u143, u144, u145, u146, u147, u148, u149, u150, u151, u152, u153, u154, u155, u156, u157, u158, u159, u160, u161, u162, u163, u164, u165, u166, u167, u168, u169, u170, u171, u172, u173, u174, u175, u176, u177, u178, u179, u180, u181, u182, u183, u184, u185, u186, u187, u188, u189, u190, u191, u192, u193, u194, u195, u196, u197, u198, u199, u200, u201, u202, u203, x204, x205, x206, x207, x208, x209, x210, x211, x212, x213, x214, x215, x216, x217, x218, x219, x220, x221, x222, x223, x224, x225, x226, x227, x228, x229, x230, x231], defers := [] } : Act) w') :
    Code.wp Try.prog (rgOf Try.f3 33) (Exit.then K (bodyPost Try.prog Try.f3 fun e w' => e = .returned (.bool true) ∧ Below w0.heap.size w0 w')) ({ tmps := #[u0, u1, u2, u3, .pointer (some ⟨ab, 0, none⟩), .pointer (some ⟨bb, 0, none⟩), u6, .pointer (some ⟨sb, 0, none⟩), u8, u9, u10, .slice ga G.length gc, u12, u13, u14, u15, u16, u17, u18, u19, u20, u21, u22, u23, u24, u25, u26, u27, u28, u29, u30, u31, u32, u33, u34, u35, u36, u37, u38, u39, u40, u41, u42, u43, u44, u45, u46, u47, u48, u49, u50, u51, u52, u53, u54, u55, u56, u57, u58, u59, u60, u61, u62, u63, u64, u65, u66, u67, u68, u69, u70, u71, u72, u73, u74, u75, u76, u77, u78, u79, u80, u81, u82, u83, u84, u85, u86, u87, u88, u89, u90, u91, u92, u93, u94, u95, u96, u97, u98, u99, u100, u101, u102, u103, u104, u105, u106, u107, u108, u109, u110, u111, u112, u113, u114, u115, u116, u117, u118, u119, u120, u121, u122, u123, u124, u125, u126, u127, u128, u129, u130, u131, u132, u133, u134, u135, u136, u137, u138, u139, u140, u141, u142, u143, u144, u145, u146, u147, u148, u149, u150, u151, u152, u153, u154, u155, u156, u157, u158, u159, u160, u161, u162, u163, u164, u165, u166, u167, u168, u169, u170, u171, u172, u173, u174, u175, u176, u177, u178, u179, u180, u181, u182, u183, u184, u185, u186, u187, u188, u189, u190, u191, u192, u193, u194, u195, u196, u197, u198, u199, u200, u201, u202, u203, u204, u205, u206, u207, u208, u209, u210, u211, u212, u213, u214, u215, u216, u217, u218, u219, u220, u221, u222, u223, u224, u225, u226, u227, u228, u229, u230, u231], defers := [] } : Act) W := by
  have HX := Lib.hid hx
  have HY := Lib.hid hy
  have HZ := Lib.hid hz
  have HRA := Lib.hid hra
  have HRB := Lib.hid hrb
  have HRS := Lib.hid hrs
  have HRT := Lib.hid hrt
  have HKK := Lib.hid hK
  have HD := Lib.hid hd
  have HT := Lib.hid ht
  have f4 : ((Z.length : Int) == (p : Int)) = false := by rw [beq_eq_false_iff_ne]; omega
  have f5 : (Z.length == p) = false := by rw [beq_eq_false_iff_ne]; omega
  clear hx hy hz hra hrb hrs hrt hK hd ht hzp
  have HK : Hid (∀ W' : World, Below W.heap.size W W' → W'.cell? ⟨ab, 0, none⟩ = some (.int .i64 n) ∧ W'.cell? ⟨ab, 1, none⟩ = some (.slice a xs.length ca) ∧ W'.cell? ⟨bb, 0, none⟩ = some (.int .i64 n) ∧ W'.cell? ⟨bb, 1, none⟩ = some (.slice b ys.length cb) ∧ W'.cell? ⟨sb, 0, none⟩ = some (.int .i64 n) ∧ W'.cell? ⟨sb, 1, none⟩ = some (.slice sa Z.length sc) ∧ W'.cell? ⟨tb, 0, none⟩ = some (.int .i64 n) ∧ W'.cell? ⟨tb, 1, none⟩ = some (.slice ta Z.length tc)) := Lib.hid (fun W' hW => ⟨(HRA.out.keep hW).1.facts.1, (HRA.out.keep hW).1.facts.2.1, (HRB.out.keep hW).1.facts.1, (HRB.out.keep hW).1.facts.2.1, (HRS.out.keep hW).1.facts.1, (HRS.out.keep hW).1.facts.2.1, (HRT.out.keep hW).1.facts.1, (HRT.out.keep hW).1.facts.2.1⟩)
  have HIA : Hid (∀ W' : World, Below W.heap.size W W' → IntsAt W' a xs.length xs) := Lib.hid (fun W' hW => (HRA.out.keep hW).2)
  have HIB : Hid (∀ W' : World, Below W.heap.size W W' → IntsAt W' b ys.length ys) := Lib.hid (fun W' hW => (HRB.out.keep hW).2)
  have HIS : Hid (∀ W' : World, Below W.heap.size W W' → IntsAt W' sa Z.length Z) := Lib.hid (fun W' hW => (HRS.out.keep hW).2)
  have HIT : Hid (∀ W' : World, Below W.heap.size W W' → IntsAt W' ta Z.length Z) := Lib.hid (fun W' hW => (HRT.out.keep hW).2)
  conv => enter [2]; whnf
  have hq0 : Below W.heap.size W W.drew := (Below.refl _ _).drew
  refine wp_region_held_drew (S := fun W' => W'.cell? ⟨ab, 0, none⟩ = some (.int .i64 n) ∧ W'.cell? ⟨ab, 1, none⟩ = some (.slice a xs.length ca) ∧ W'.cell? ⟨bb, 0, none⟩ = some (.int .i64 n) ∧ W'.cell? ⟨bb, 1, none⟩ = some (.slice b ys.length cb) ∧ W'.cell? ⟨sb, 0, none⟩ = some (.int .i64 n) ∧ W'.cell? ⟨sb, 1, none⟩ = some (.slice sa Z.length sc) ∧ W'.cell? ⟨tb, 0, none⟩ = some (.int .i64 n) ∧ W'.cell? ⟨tb, 1, none⟩ = some (.slice ta Z.length tc)) (by kernel_rfl) (HK.out _ hq0) (fun hSS0 => ?_)
  refine wpAnyH_take (i := 0) (oi := ⟨some 204, _, _, _, _, _⟩) (v := .agg #[.int .i64 n, .slice a xs.length ca]) rfl (by kernel_rfl) (by kernel_rfl) (by kernel_rfl) (fun _ _ _ h => h) (Or.inl ⟨by rfl, fun W hSw => by obtain ⟨s1, s2, s3, s4, s5, s6, s7, s8⟩ := hSw; go_simp⟩) (by assumption) ?_
  try simp only [Act.put, List.setIfInBounds_toArray, List.set_cons_zero, List.set_cons_succ]
  refine wpAnyH_take (i := 1) (oi := ⟨some 205, _, _, _, _, _⟩) (v := .agg #[.int .i64 n, .slice b ys.length cb]) rfl (by kernel_rfl) (by kernel_rfl) (by kernel_rfl) (fun _ _ _ h => h) (Or.inl ⟨by rfl, fun W hSw => by obtain ⟨s1, s2, s3, s4, s5, s6, s7, s8⟩ := hSw; go_simp⟩) (by assumption) ?_
  try simp only [Act.put, List.setIfInBounds_toArray, List.set_cons_zero, List.set_cons_succ]
  refine wpAnyH_take (i := 3) (oi := ⟨some 207, _, _, _, _, _⟩) (v := .agg #[.int .i64 n, .slice a xs.length ca]) rfl (by kernel_rfl) (by kernel_rfl) (by kernel_rfl) (fun _ _ _ h => h) (Or.inl ⟨by rfl, fun W hSw => by obtain ⟨s1, s2, s3, s4, s5, s6, s7, s8⟩ := hSw; go_simp⟩) (by assumption) ?_
  try simp only [Act.put, List.setIfInBounds_toArray, List.set_cons_zero, List.set_cons_succ]
  refine wpAnyH_take (i := 4) (oi := ⟨some 208, _, _, _, _, _⟩) (v := .agg #[.int .i64 n, .slice b ys.length cb]) rfl (by kernel_rfl) (by kernel_rfl) (by kernel_rfl) (fun _ _ _ h => h) (Or.inl ⟨by rfl, fun W hSw => by obtain ⟨s1, s2, s3, s4, s5, s6, s7, s8⟩ := hSw; go_simp⟩) (by assumption) ?_
  try simp only [Act.put, List.setIfInBounds_toArray, List.set_cons_zero, List.set_cons_succ]
  refine wpAnyH_ready (rs := [2]) (by kernel_rfl) (by simp) ?_
  refine AllReadyH.cons rfl (fun K hKK => ?_) AllReadyH.nil
  go_simp
  go_at_call 27
  refine (v_til n a ca xs b cb ys false _ (HIA.out _ hq0) (HIB.out _ hq0) HX.out HY.out HT.out).mono ?_
  rintro e y1 ⟨rfl, hc⟩
  have hq1 := hq0.trans (hc.mono hq0.size)
  clear hc
  refine hKK.out _ _ (HK.out _ hq1) (fun hSS1 => ?_)
  clear hKK K hSS0
  try simp only [Act.put, List.setIfInBounds_toArray, List.set_cons_zero, List.set_cons_succ]
  refine wpAnyH_ready (rs := [5]) (by kernel_rfl) (by simp) ?_
  refine AllReadyH.cons rfl (fun K hKK => ?_) AllReadyH.nil
  go_simp
  go_at_call 24
  refine (v_dir n a ca xs b cb ys false _ (HIA.out _ hq1) (HIB.out _ hq1) HX.out HY.out HD.out).mono ?_
  rintro e y2 ⟨rfl, hc⟩
  have hq2 := hq1.trans (hc.mono hq1.size)
  clear hc
  refine hKK.out _ _ (HK.out _ hq2) (fun hSS2 => ?_)
  clear hKK K hSS1
  try simp only [Act.put, List.setIfInBounds_toArray, List.set_cons_zero, List.set_cons_succ]
  refine wpAnyH_take (i := 6) (oi := ⟨some 210, _, _, _, _, _⟩) (v := .bool false) rfl (by kernel_rfl) (by kernel_rfl) (by kernel_rfl) (fun _ _ _ h => h) (Or.inl ⟨by rfl, fun W hSw => by go_simp⟩) (by assumption) ?_
  try simp only [Act.put, List.setIfInBounds_toArray, List.set_cons_zero, List.set_cons_succ]
  refine wpAnyH_take (i := 7) (oi := ⟨some 211, _, _, _, _, _⟩) (v := undef) rfl (by kernel_rfl) (by kernel_rfl) (by kernel_rfl) (fun _ _ _ h => h) (Or.inr ⟨by rfl, rfl⟩) (by assumption) ?_
  try simp only [Act.put, List.setIfInBounds_toArray, List.set_cons_zero, List.set_cons_succ]
  refine wpAnyH_take (i := 8) (oi := ⟨some 212, _, _, _, _, _⟩) (v := undef) rfl (by kernel_rfl) (by kernel_rfl) (by kernel_rfl) (fun _ _ _ h => h) (Or.inr ⟨by rfl, rfl⟩) (by assumption) ?_
  try simp only [Act.put, List.setIfInBounds_toArray, List.set_cons_zero, List.set_cons_succ]
  refine wpAnyH_take (i := 9) (oi := ⟨some 213, _, _, _, _, _⟩) (v := undef) rfl (by kernel_rfl) (by kernel_rfl) (by kernel_rfl) (fun _ _ _ h => h) (Or.inr ⟨by rfl, rfl⟩) (by assumption) ?_
  try simp only [Act.put, List.setIfInBounds_toArray, List.set_cons_zero, List.set_cons_succ]
  refine wpAnyH_take (i := 10) (oi := ⟨some 214, _, _, _, _, _⟩) (v := .bool false) rfl (by kernel_rfl) (by kernel_rfl) (by kernel_rfl) (fun _ _ _ h => h) (Or.inl ⟨by rfl, fun W hSw => by go_simp⟩) (by assumption) ?_
  try simp only [Act.put, List.setIfInBounds_toArray, List.set_cons_zero, List.set_cons_succ]
  refine wpAnyH_take (i := 11) (oi := ⟨some 215, _, _, _, _, _⟩) (v := .bool true) rfl (by kernel_rfl) (by kernel_rfl) (by kernel_rfl) (fun _ _ _ h => h) (Or.inl ⟨by rfl, fun W hSw => by go_simp⟩) (by assumption) ?_
  try simp only [Act.put, List.setIfInBounds_toArray, List.set_cons_zero, List.set_cons_succ]
  refine wpAnyH_take (i := 12) (oi := ⟨some 216, _, _, _, _, _⟩) (v := .bool true) rfl (by kernel_rfl) (by kernel_rfl) (by kernel_rfl) (fun _ _ _ h => h) (Or.inl ⟨by rfl, fun W hSw => by go_simp⟩) (by assumption) ?_
  try simp only [Act.put, List.setIfInBounds_toArray, List.set_cons_zero, List.set_cons_succ]
  refine wpAnyH_take (i := 13) (oi := ⟨some 217, _, _, _, _, _⟩) (v := .agg #[.int .i64 n, .slice a xs.length ca]) rfl (by kernel_rfl) (by kernel_rfl) (by kernel_rfl) (fun _ _ _ h => h) (Or.inl ⟨by rfl, fun W hSw => by obtain ⟨s1, s2, s3, s4, s5, s6, s7, s8⟩ := hSw; go_simp⟩) (by assumption) ?_
  try simp only [Act.put, List.setIfInBounds_toArray, List.set_cons_zero, List.set_cons_succ]
  refine wpAnyH_take (i := 14) (oi := ⟨some 218, _, _, _, _, _⟩) (v := .agg #[.int .i64 n, .slice b ys.length cb]) rfl (by kernel_rfl) (by kernel_rfl) (by kernel_rfl) (fun _ _ _ h => h) (Or.inl ⟨by rfl, fun W hSw => by obtain ⟨s1, s2, s3, s4, s5, s6, s7, s8⟩ := hSw; go_simp⟩) (by assumption) ?_
  try simp only [Act.put, List.setIfInBounds_toArray, List.set_cons_zero, List.set_cons_succ]
  refine wpAnyH_take (i := 16) (oi := ⟨some 220, _, _, _, _, _⟩) (v := .agg #[.int .i64 n, .slice sa Z.length sc]) rfl (by kernel_rfl) (by kernel_rfl) (by kernel_rfl) (fun _ _ _ h => h) (Or.inl ⟨by rfl, fun W hSw => by obtain ⟨s1, s2, s3, s4, s5, s6, s7, s8⟩ := hSw; go_simp⟩) (by assumption) ?_
  try simp only [Act.put, List.setIfInBounds_toArray, List.set_cons_zero, List.set_cons_succ]
  refine wpAnyH_take (i := 18) (oi := ⟨some 222, _, _, _, _, _⟩) (v := .pointer (some ⟨ab, 1, none⟩)) rfl (by kernel_rfl) (by kernel_rfl) (by kernel_rfl) (fun _ _ _ h => h) (Or.inl ⟨by rfl, fun W hSw => by go_simp⟩) (by assumption) ?_
  try simp only [Act.put, List.setIfInBounds_toArray, List.set_cons_zero, List.set_cons_succ]
  refine wpAnyH_take (i := 19) (oi := ⟨some 223, _, _, _, _, _⟩) (v := .slice a xs.length ca) rfl (by kernel_rfl) (by kernel_rfl) (by kernel_rfl) (fun _ _ _ h => h) (Or.inl ⟨by rfl, fun W hSw => by obtain ⟨s1, s2, s3, s4, s5, s6, s7, s8⟩ := hSw; go_simp⟩) (by assumption) ?_
  try simp only [Act.put, List.setIfInBounds_toArray, List.set_cons_zero, List.set_cons_succ]
  refine wpAnyH_take (i := 20) (oi := ⟨some 224, _, _, _, _, _⟩) (v := .int .i64 xs.length) rfl (by kernel_rfl) (by kernel_rfl) (by kernel_rfl) (fun _ _ _ h => h) (Or.inl ⟨by rfl, fun W hSw => by go_simp⟩) (by assumption) ?_
  try simp only [Act.put, List.setIfInBounds_toArray, List.set_cons_zero, List.set_cons_succ]
  refine wpAnyH_take (i := 21) (oi := ⟨some 225, _, _, _, _, _⟩) (v := .pointer (some ⟨bb, 1, none⟩)) rfl (by kernel_rfl) (by kernel_rfl) (by kernel_rfl) (fun _ _ _ h => h) (Or.inl ⟨by rfl, fun W hSw => by go_simp⟩) (by assumption) ?_
  try simp only [Act.put, List.setIfInBounds_toArray, List.set_cons_zero, List.set_cons_succ]
  refine wpAnyH_take (i := 22) (oi := ⟨some 226, _, _, _, _, _⟩) (v := .slice b ys.length cb) rfl (by kernel_rfl) (by kernel_rfl) (by kernel_rfl) (fun _ _ _ h => h) (Or.inl ⟨by rfl, fun W hSw => by obtain ⟨s1, s2, s3, s4, s5, s6, s7, s8⟩ := hSw; go_simp⟩) (by assumption) ?_
  try simp only [Act.put, List.setIfInBounds_toArray, List.set_cons_zero, List.set_cons_succ]
  refine wpAnyH_take (i := 23) (oi := ⟨some 227, _, _, _, _, _⟩) (v := .int .i64 ys.length) rfl (by kernel_rfl) (by kernel_rfl) (by kernel_rfl) (fun _ _ _ h => h) (Or.inl ⟨by rfl, fun W hSw => by go_simp⟩) (by assumption) ?_
  try simp only [Act.put, List.setIfInBounds_toArray, List.set_cons_zero, List.set_cons_succ]
  refine wpAnyH_take (i := 24) (oi := ⟨some 228, _, _, _, _, _⟩) (v := .int .i64 p) rfl (by kernel_rfl) (by kernel_rfl) (by kernel_rfl) (fun _ _ _ h => h) (Or.inl ⟨by rfl, fun W hSw => by go_simp; exact IntWalk.i64_in _ ⟨by omega, by omega⟩⟩) (by assumption) ?_
  try simp only [Act.put, List.setIfInBounds_toArray, List.set_cons_zero, List.set_cons_succ]
  refine wpAnyH_ready (rs := [15]) (by kernel_rfl) (by simp) ?_
  refine AllReadyH.cons rfl (fun K hKK => ?_) AllReadyH.nil
  go_simp
  go_at_call 24
  refine (v_dir n a ca xs b cb ys false _ (HIA.out _ hq2) (HIB.out _ hq2) HX.out HY.out HD.out).mono ?_
  rintro e y3 ⟨rfl, hc⟩
  have hq3 := hq2.trans (hc.mono hq2.size)
  clear hc
  refine hKK.out _ _ (HK.out _ hq3) (fun hSS3 => ?_)
  clear hKK K hSS2
  try simp only [Act.put, List.setIfInBounds_toArray, List.set_cons_zero, List.set_cons_succ]
  refine wpAnyH_ready (rs := [17]) (by kernel_rfl) (by simp) ?_
  refine AllReadyH.cons rfl (fun K hKK => ?_) AllReadyH.nil
  go_simp
  go_at_call 21
  refine (r_cnt n sa sc Z (Z.length : Int) _ (HIS.out _ hq3) HZ.out rfl).mono ?_
  rintro e y4 ⟨rfl, hc⟩
  have hq4 := hq3.trans (hc.mono hq3.size)
  clear hc
  refine hKK.out _ _ (HK.out _ hq4) (fun hSS4 => ?_)
  clear hKK K hSS3
  try simp only [Act.put, List.setIfInBounds_toArray, List.set_cons_zero, List.set_cons_succ]
  refine wpAnyH_take (i := 25) (oi := ⟨some 229, _, _, _, _, _⟩) (v := .bool false) rfl (by kernel_rfl) (by kernel_rfl) (by kernel_rfl) (fun _ _ _ h => h) (Or.inl ⟨by rfl, fun W hSw => by go_simp⟩) (by assumption) ?_
  try simp only [Act.put, List.setIfInBounds_toArray, List.set_cons_zero, List.set_cons_succ]
  refine wpAnyH_take (i := 26) (oi := ⟨some 230, _, _, _, _, _⟩) (v := .bool true) rfl (by kernel_rfl) (by kernel_rfl) (by kernel_rfl) (fun _ _ _ h => h) (Or.inl ⟨by rfl, fun W hSw => by go_simp⟩) (by assumption) ?_
  try simp only [Act.put, List.setIfInBounds_toArray, List.set_cons_zero, List.set_cons_succ]
  refine wpAnyH_take (i := 27) (oi := ⟨some 231, _, _, _, _, _⟩) (v := .bool true) rfl (by kernel_rfl) (by kernel_rfl) (by kernel_rfl) (fun _ _ _ h => h) (Or.inl ⟨by rfl, fun W hSw => by go_simp⟩) (by assumption) ?_
  try simp only [Act.put, List.setIfInBounds_toArray, List.set_cons_zero, List.set_cons_succ]
  refine wpAnyH_take (i := 28) (oi := ⟨some 2, _, _, _, _, _⟩) (v := .bool true) rfl (by kernel_rfl) (by kernel_rfl) (by kernel_rfl) (fun _ _ _ h => h) (Or.inl ⟨by rfl, fun W hSw => by go_simp⟩) (by assumption) ?_
  try simp only [Act.put, List.setIfInBounds_toArray, List.set_cons_zero, List.set_cons_succ]
  refine wpAnyH_done (by kernel_rfl) ?_ _
  exact HKK.out _ _ _ _ _ _ _ _ _ _ _ _ _ _ _ _ _ _ _ _ _ _ _ _ _ _ _ _ _ hq4
end Go.Proofs.Ytpgolnkhbnancaa.Rhy
