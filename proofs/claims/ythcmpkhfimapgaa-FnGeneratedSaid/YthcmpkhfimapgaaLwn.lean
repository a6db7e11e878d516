/-
  Helpers of the claims beside this text: the law on generated rhythms: pieces of its code by their numbers.
-/
import Derived.Test.YthcmpkhfimapgaaGnv
import Derived.Test.YthcmpkhfimapgaaGng
import Derived.Deep.DeepCutAuto
import Derived.BigFrame
namespace Go.Proofs.Ythcmpkhfimapgaa.Rhy
open Go.RowKit
open Go.Proofs.Ythcmpkhfimapgaa.Cur
set_option linter.unusedVariables false
set_option linter.unusedSimpArgs false

/-- The piece of a code that bears a number. -/
def rgAt (n : Nat) : Code → Option Code
  | .region i ops d => if i = n then some (.region i ops d) else none
  | .seq a b => match rgAt n a with
    | some c => some c
    | none => rgAt n b
  | .cond _ a b => match rgAt n a with
    | some c => some c
    | none => rgAt n b
  | .block _ b => rgAt n b
  | .loop b => rgAt n b
  | _ => none
def rgOf (f : Func) (n : Nat) : Code := ((f.body.bind (rgAt n)).getD .skip)
theorem wp_code {P : Program} {c c' : Code} {Q : Exit → Act → World → Prop} {a : Act} {w : World} (h : c' = c) (hw : Code.wp P c' Q a w) : Code.wp P c Q a w := h ▸ hw
theorem maj_ints (w : World) : IntsAt (w.alloc (.cells #[.int .i64 0, .int .i64 2, .int .i64 4, .int .i64 5, .int .i64 7, .int .i64 9, .int .i64 11] 3)) (some ⟨w.heap.size, 0, none⟩) 7 majZ := by
  have h2 : (w.alloc (.cells #[.int .i64 0, .int .i64 2, .int .i64 4, .int .i64 5, .int .i64 7, .int .i64 9, .int .i64 11] 3)).ownsRow w.heap.size 3 1 (.slice (some ⟨w.heap.size, 0, none⟩) 7 7) 7 (ints majZ) :=
    ⟨rfl, .inr ⟨w.heap.size, 7, _, rfl, Nat.le_refl _, heap_alloc_new w _, Nat.le_refl _, by unfold maxLen; omega, rfl, rfl⟩⟩
  refine intsAt_own h2 (fun z hz => ?_)
  have := ok_range maj_ok z hz
  omega
theorem v_maj (a : Option Addr) (c : Nat) (w : World) (h : IntsAt w a 7 majZ) :
    Calls Try.prog 30 #[.agg #[.int .i64 12, .slice a 7 c]] w fun e w' => e = .returned (.bool true) ∧ Below w.heap.size w w' := by
  have h1 := hts_impl 12 a 7 c majZ w h (by decide)
  rw [show htB 12 majZ = true from maj_two] at h1
  exact h1
set_option maxRecDepth 100000 in
/-- The major scale's list, made as a step of a region that draws. -/
theorem step_maj {ops : Array Oper} {o : Oper} {a : Act} {w : World} {K : Act → World → Prop} {Q : Exit → Act → World → Prop} {E : Prop}
    (hg : Region.wanted o (yielded ops a.tmps) = true)
    (ho : o.op = .buildSlice 24 7 #[(0, .const (.int .i64 0)), (1, .const (.int .i64 2)), (2, .const (.int .i64 4)), (3, .const (.int .i64 5)), (4, .const (.int .i64 7)), (5, .const (.int .i64 9)), (6, .const (.int .i64 11))])
    (h : K (a.put o.dst (.slice (some ⟨w.heap.size, 0, none⟩) 7 7)) (w.alloc (.cells #[.int .i64 0, .int .i64 2, .int .i64 4, .int .i64 5, .int .i64 7, .int .i64 9, .int .i64 11] 3))) :
    if Region.wanted o (yielded ops a.tmps) = true then Oper.wp Try.prog o a w K Q else E := by
  rw [if_pos hg]
  unfold Oper.wp
  simp only [execOp, ho]
  go_simp
  exact h
end Go.Proofs.Ythcmpkhfimapgaa.Rhy

/-
  Helpers of the claims beside this text: the law on generated rhythms: whether a chain can be extended, and how many steps there are.
-/
namespace Go.Proofs.Ythcmpkhfimapgaa.Rhy
open Go.RowKit
open Go.Proofs.Ythcmpkhfimapgaa.Cur
set_option linter.unusedVariables false
set_option linter.unusedSimpArgs false

set_option maxHeartbeats 8000000 in
set_option maxRecDepth 100000 in
theorem reg24y (n k g d q m1 : Nat) (t : Int) (RR Y : List Int) (rb yb : Nat) (b bw : Option Addr) (c cy : Nat) (W : World) {K : Act → World → Prop} {Q : Exit → Act → World → Prop} {u0 u1 u2 u7 u8 u9 u10 u11 u12 u13 u14 u17 u18 u19 u20 u21 u22 u23 u24 u25 u26 u27 u28 u29 u30 u31 u32 u33 u34 u35 u36 u37 u38 u39 u40 u41 u42 u43 u44 u45 u46 u47 u48 u49 u50 u51 u52 u53 u54 u55 u56 u57 u58 u59 u60 u61 u62 u63 u64 u65 u66 u67 u68 u69 u70 u71 u72 u73 u74 u75 u76 u77 u78 u79 u80 u81 u82 u83 u84 u85 u86 u87 u88 u89 u90 u91 u92 u93 u94 u95 u96 u97 u98 u99 u100 u101 u102 u103 u104 u105 u106 u107 u108 u109 u110 u111 u112 u113 u114 u115 u116 u117 u118 u119 u120 u121 u122 u123 u124 u125 u126 u127 u128 u129 u130 u131 u132 u133 u134 u135 u136 u137 u138 u139 u140 u141 u142 u143 u144 u145 u146 u147 u148 u149 u150 u151 u152 u153 u154 u155 u156 u157 u158 u159 u160 u161 u162 u163 u164 u165 u166 u167 u168 u169 u170 u171 u172 u173 u174 u175 u176 u177 u178 u179 u180 u181 u182 u183 u184 u185 u186 u187 u188 u189 u190 u191 u192 u193 u194 u195 u196 u197 u198 u199 u200 u201 u202 u203 u204 u205 u206 u207 u208 u209 u210 u211 u212 u213 u214 u215 u216 u217 u218 u219 u220 u221 u222 u223 u224 u225 u226 u227 u228 u229 u230 u231 u232 u233 u234 u235 u236 u237 u238 u239 u240 u241 u242 u243 u244 u245 u246 u247 u248 u249 : Value}
    (hn2 : 2 ≤ n) (hn17 : n ≤ 17) (hkn : k ≤ n) (hg1 : 1 ≤ g) (hgn : g < n) (hC : GenC n k g) (hRR : rrZ n k g t = RR) (hSQ : (sizeB n RR).length = q) (hD : Nat.gcd g n = d) (hm1 : (k + 1) * d = m1)
    (hxr : RhAt W rb n b c RR) (hx1 : 0 < k) (hx2 : m1 ≤ n) (hxy : RhAt W yb n bw cy Y) (hOY : Ok n Y) (hYL : Y.length = k + 1) (hYR : rrZ n (k + 1) g t = Y) (hYC : GenC n (k + 1 : Nat) g)
    (hK : ∀ (x159 x160 x161 x162 x163 x164 x165 x166 x167 x168 x169 x170 x171 x172 x173 x174 x175 x176 x177 x178 x179 x180 x181 x182 x183 x184 x185 x186 x187 x188 x189 x190 x191 x192 x193 x194 x195 x196 x197 x198 x199 x200 x201 x202 x203 x204 x205 x206 x207 x208 : Value) (w' : World), Below W.heap.size W w' → K ({ tmps := #[u0, u1, u2, .int .i64 n, .int .i64 k, .int .i64 g, .pointer (some ⟨rb, 0, none⟩), u7, u8, u9, u10, u11, u12, u13, u14, .pointer (some ⟨yb, 0, none⟩), .bool true, u17, u18, u19, u20, u21, u22, u23, u24, u25, u26, u27, u28, u29, u30, u31, u32, u33, u34, u35, u36, u37, u38, u39, u40, u41, u42, u43, u44, u45, u46, u47, u48, u49, u50, u51, u52, u53, u54, u55, u56, u57, u58, u59, u60, u61, u62, u63, u64, u65, u66, u67, u68, u69, u70, u71, u72, u73, u74, u75, u76, u77, u78, u79, u80, u81, u82, u83, u84, u85, u86, u87, u88, u89, u90, u91, u92, u93, u94, u95, u96, u97, u98, u99, u100, u101, u102, u103, u104, u105, u106, u107, u108, u109, u110, u111, u112, u113, u114, u115, u116, u117, u118, u119, u120, u121, u122, u123, u124, u125, u126, u127, u128, u129, u130, u131, u132, u133, u134, u135, u136, u137, u138, u139, u140, u141, u142, u143, u144, u145, u146, u147, u148, u149, u150, u151, u152, u153, u154, u155, u156, u157, u158, x159, x160, x161, x162, x163, x164, x165, x166, x167, x168, x169, x170, x171, x172, x173, x174, x175, x176, x177, x178, x179, x180, x181, x182, x183, x184, x185, x186, x187, x188, x189, x190, x191, x192, x193, x194, x195, x196, x197, x198, x199, x200, x201, x202, x203, x204, x205, x206, x207, x208, .bool false, u210, u211, u212, u213, u214, u215, u216, u217, u218, u219, u220, u221, u222, u223, u224, u225, u226, u227, u228, u229, u230, u231, u232, u233, u234, u235, u236, u237, u238, u239, u240, u241, u242, u243, u244, u245, u246, u247, u248, u249], defers := [] } : Act) w') :
    Code.wp Try.prog (rgOf Try.f3 24) (Exit.then K Q) ({ tmps := #[u0, u1, u2, .int .i64 n, .int .i64 k, .int .i64 g, .pointer (some ⟨rb, 0, none⟩), u7, u8, u9, u10, u11, u12, u13, u14, .pointer (some ⟨yb, 0, none⟩), .bool true, u17, u18, u19, u20, u21, u22, u23, u24, u25, u26, u27, u28, u29, u30, u31, u32, u33, u34, u35, u36, u37, u38, u39, u40, u41, u42, u43, u44, u45, u46, u47, u48, u49, u50, u51, u52, u53, u54, u55, u56, u57, u58, u59, u60, u61, u62, u63, u64, u65, u66, u67, u68, u69, u70, u71, u72, u73, u74, u75, u76, u77, u78, u79, u80, u81, u82, u83, u84, u85, u86, u87, u88, u89, u90, u91, u92, u93, u94, u95, u96, u97, u98, u99, u100, u101, u102, u103, u104, u105, u106, u107, u108, u109, u110, u111, u112, u113, u114, u115, u116, u117, u118, u119, u120, u121, u122, u123, u124, u125, u126, u127, u128, u129, u130, u131, u132, u133, u134, u135, u136, u137, u138, u139, u140, u141, u142, u143, u144, u145, u146, u147, u148, u149, u150, u151, u152, u153, u154, u155, u156, u157, u158, u159, u160, u161, u162, u163, u164, u165, u166, u167, u168, u169, u170, u171, u172, u173, u174, u175, u176, u177, u178, u179, u180, u181, u182, u183, u184, u185, u186, u187, u188, u189, u190, u191, u192, u193, u194, u195, u196, u197, u198, u199, u200, u201, u202, u203, u204, u205, u206, u207, u208, u209, u210, u211, u212, u213, u214, u215, u216, u217, u218, u219, u220, u221, u222, u223, u224, u225, u226, u227, u228, u229, u230, u231, u232, u233, u234, u235, u236, u237, u238, u239, u240, u241, u242, u243, u244, u245, u246, u247, u248, u249], defers := [] } : Act) W := by
  have HC := Lib.hid hC
  have HRR := Lib.hid hRR
  have HSQ := Lib.hid hSQ
  have HD := Lib.hid hD
  have HXrw := Lib.hid hxr
  have HKK := Lib.hid hK
  have HM1 := Lib.hid hm1
  have HXyw := Lib.hid hxy
  have HOY := Lib.hid hOY
  have HYL := Lib.hid hYL
  have HYR := Lib.hid hYR
  have HYC := Lib.hid hYC
  have hdn : d ≤ 17 := by rw [← hD]; exact Nat.le_trans (Nat.gcd_le_left _ hg1) (by omega)
  have hm1b : m1 ≤ 306 := by rw [← hm1]; exact Nat.mul_le_mul (show k + 1 ≤ 18 by omega) hdn
  have HWM : Hid (wrap64 (((k : Int) + 1) * (d : Int)) = (m1 : Int)) := Lib.hid (by rw [show ((k : Int) + 1) * (d : Int) = (m1 : Int) by rw [← hm1]; push_cast; rfl]; unfold wrap64; omega)
  clear hC hRR hSQ hD hxr hK hm1 hxy hOY hYL hYR hYC
  have hn2' : 2 ≤ n ∧ n ≤ 17 := ⟨hn2, hn17⟩
  have HN2 := Lib.hid hn2'
  clear hn2'
  have HG1 : Hid (1 ≤ g ∧ g < n) := Lib.hid ⟨hg1, hgn⟩
  have HOR : Hid (Ok n RR) := Lib.hid (f_ok HN2.out HRR.out)
  have hq3 : q ≤ 3 := by rw [← HSQ.out]; exact (f_few HN2.out hkn HG1.out HC.out HRR.out).1
  obtain ⟨T, hT⟩ : ∃ l, tsB n g = l := ⟨_, rfl⟩
  have HET := Lib.hid hT
  have hT24 : T.length ≤ 24 := by rw [← hT]; exact tsB_len _ _
  clear hT
  have HTQ := Lib.hid (f_two HN2.out hkn HG1.out HC.out HRR.out HSQ.out)
  have HBS := Lib.hid (Below.refl W.heap.size W)
  obtain ⟨Ly, hLy⟩ : ∃ l, gnB n Y = l := ⟨_, rfl⟩
  have HELy := Lib.hid hLy
  have hLy24 : Ly.length ≤ 24 := by rw [← hLy]; exact gnB_len _ _
  have HYH : Hid (hasB Ly g = true) := Lib.hid (by rw [← hLy]; exact f_has HYC.out hgn HYR.out)
  clear hLy
  have hk0 : decide (0 < k) = true := by simp; omega
  conv => enter [2]; whnf
  go_wp2_with fail
  refine (v_gcd g n d W (by omega) (by omega) HD.out).mono ?_
  rintro e v1 ⟨rfl, hb⟩
  have HXr1 := Lib.hid (HXrw.out.keep hb)
  clear HXrw
  have HXy1 := Lib.hid (HXyw.out.keep hb)
  clear HXyw
  have HB1x := Lib.hid (show Below W.heap.size W v1 from HBS.out.trans (hb.mono HBS.out.size))
  clear HBS hb
  have hwm := HWM.out
  have hmb : decide ((m1 : Int) ≤ (n : Int)) = true := by simp; omega
  obtain ⟨py0, py1, py2, py3⟩ := HXy1.out.1.facts
  have lty := HXy1.out.1.lt
  go_wp2_with fail
  refine (r_cnt n bw cy Y ((k : Int) + 1) v1 HXy1.out.2 HOY.out (by rw [HYL.out]; push_cast; rfl)).mono ?_
  rintro e v2 ⟨rfl, hb⟩
  clear py0 py1 py2 py3 lty
  have HXr2 := Lib.hid (HXr1.out.keep hb)
  clear HXr1
  have HXy2 := Lib.hid (HXy1.out.keep hb)
  clear HXy1
  have HB2x := Lib.hid (show Below W.heap.size W v2 from HB1x.out.trans (hb.mono HB1x.out.size))
  clear HB1x hb
  obtain ⟨py0, py1, py2, py3⟩ := HXy2.out.1.facts
  have lty := HXy2.out.1.lt
  go_wp2_with fail
  refine (v_gens n bw cy Y Ly v2 HXy2.out.2 HOY.out HELy.out).mono ?_
  rintro e v3 ⟨bY, cY, rfl, hil, hb⟩
  clear py0 py1 py2 py3 lty
  have HXr3 := Lib.hid (HXr2.out.keep hb)
  clear HXr2
  have HXy3 := Lib.hid (HXy2.out.keep hb)
  clear HXy2
  have HB3x := Lib.hid (show Below W.heap.size W v3 from HB2x.out.trans (hb.mono HB2x.out.size))
  clear HB2x hb
  have HLY0 := Lib.hid hil
  clear hil
  go_wp2_with fail
  refine (v_lhas bY Ly.length cY Ly g true v3 HLY0.out (by omega) HYH.out).mono ?_
  rintro e v4 ⟨rfl, hb⟩
  have HXr4 := Lib.hid (HXr3.out.keep hb)
  clear HXr3
  have HXy4 := Lib.hid (HXy3.out.keep hb)
  clear HXy3
  have HLY4 := Lib.hid (HLY0.out.below hb)
  clear HLY0
  have HB4x := Lib.hid (show Below W.heap.size W v4 from HB3x.out.trans (hb.mono HB3x.out.size))
  clear HB3x hb
  go_wp2_with fail
  refine (v_tsc n g T v4 (by omega) (by omega) HET.out).mono ?_
  rintro e v5 ⟨bT, cT, rfl, hil, hb⟩
  have HXr5 := Lib.hid (HXr4.out.keep hb)
  clear HXr4
  have HXy5 := Lib.hid (HXy4.out.keep hb)
  clear HXy4
  have HLY5 := Lib.hid (HLY4.out.below hb)
  clear HLY4
  have HB5x := Lib.hid (show Below W.heap.size W v5 from HB4x.out.trans (hb.mono HB4x.out.size))
  clear HB4x hb
  have HLT0 := Lib.hid hil
  clear hil
  go_wp2_with fail
  refine (v_lhas bT T.length cT T (k : Int) (decide (2 ≤ k) && decide (k < n) && decide (q ≤ 2)) v5 HLT0.out (by omega) (by rw [← HET.out]; exact HTQ.out)).mono ?_
  rintro e v6 ⟨rfl, hb⟩
  have HXr6 := Lib.hid (HXr5.out.keep hb)
  clear HXr5
  have HXy6 := Lib.hid (HXy5.out.keep hb)
  clear HXy5
  have HLY6 := Lib.hid (HLY5.out.below hb)
  clear HLY5
  have HLT6 := Lib.hid (HLT0.out.below hb)
  clear HLT0
  have HB6x := Lib.hid (show Below W.heap.size W v6 from HB5x.out.trans (hb.mono HB5x.out.size))
  clear HB5x hb
  by_cases h2 : 2 ≤ k
  · by_cases h3 : k < n
    · have h2b : decide (2 ≤ k) = true := by simp; omega
      have h3b : decide (k < n) = true := by simp; omega
      obtain ⟨pr0, pr1, pr2, pr3⟩ := HXr6.out.1.facts
      have ltr := HXr6.out.1.lt
      go_wp2_with fail
      refine (v_csz n b c RR q v6 HXr6.out.2 HOR.out HSQ.out).mono ?_
      rintro e v7 ⟨rfl, hb⟩
      clear pr0 pr1 pr2 pr3 ltr
      have HXr7 := Lib.hid (HXr6.out.keep hb)
      clear HXr6
      have HXy7 := Lib.hid (HXy6.out.keep hb)
      clear HXy6
      have HLY7 := Lib.hid (HLY6.out.below hb)
      clear HLY6
      have HLT7 := Lib.hid (HLT6.out.below hb)
      clear HLT6
      have HB7x := Lib.hid (show Below W.heap.size W v7 from HB6x.out.trans (hb.mono HB6x.out.size))
      clear HB6x hb
      obtain ⟨qb, hqb⟩ : ∃ x, decide (q ≤ 2) = x := ⟨_, rfl⟩
      have hqi : decide ((q : Int) ≤ 2) = qb := by rw [← hqb]; congr 1; simp; omega
      go_wp2_with fail
      cases qb <;> exact HKK.out _ _ _ _ _ _ _ _ _ _ _ _ _ _ _ _ _ _ _ _ _ _ _ _ _ _ _ _ _ _ _ _ _ _ _ _ _ _ _ _ _ _ _ _ _ _ _ _ _ _ _ HB7x.out
    · have h2b : decide (2 ≤ k) = true := by simp; omega
      have h3b : decide (k < n) = false := by simp; omega
      go_wp2_with fail
      exact HKK.out _ _ _ _ _ _ _ _ _ _ _ _ _ _ _ _ _ _ _ _ _ _ _ _ _ _ _ _ _ _ _ _ _ _ _ _ _ _ _ _ _ _ _ _ _ _ _ _ _ _ _ HB6x.out
  · have h2b : decide (2 ≤ k) = false := by simp; omega
    go_wp2_with fail
    exact HKK.out _ _ _ _ _ _ _ _ _ _ _ _ _ _ _ _ _ _ _ _ _ _ _ _ _ _ _ _ _ _ _ _ _ _ _ _ _ _ _ _ _ _ _ _ _ _ _ _ _ _ _ HB6x.out

set_option maxHeartbeats 8000000 in
set_option maxRecDepth 100000 in
theorem reg24n (n k g d q m1 : Nat) (t : Int) (RR : List Int) (rb : Nat) (b : Option Addr) (c : Nat) (W : World) {K : Act → World → Prop} {Q : Exit → Act → World → Prop} {u0 u1 u2 u7 u8 u9 u10 u11 u12 u13 u14 u15 u17 u18 u19 u20 u21 u22 u23 u24 u25 u26 u27 u28 u29 u30 u31 u32 u33 u34 u35 u36 u37 u38 u39 u40 u41 u42 u43 u44 u45 u46 u47 u48 u49 u50 u51 u52 u53 u54 u55 u56 u57 u58 u59 u60 u61 u62 u63 u64 u65 u66 u67 u68 u69 u70 u71 u72 u73 u74 u75 u76 u77 u78 u79 u80 u81 u82 u83 u84 u85 u86 u87 u88 u89 u90 u91 u92 u93 u94 u95 u96 u97 u98 u99 u100 u101 u102 u103 u104 u105 u106 u107 u108 u109 u110 u111 u112 u113 u114 u115 u116 u117 u118 u119 u120 u121 u122 u123 u124 u125 u126 u127 u128 u129 u130 u131 u132 u133 u134 u135 u136 u137 u138 u139 u140 u141 u142 u143 u144 u145 u146 u147 u148 u149 u150 u151 u152 u153 u154 u155 u156 u157 u158 u159 u160 u161 u162 u163 u164 u165 u166 u167 u168 u169 u170 u171 u172 u173 u174 u175 u176 u177 u178 u179 u180 u181 u182 u183 u184 u185 u186 u187 u188 u189 u190 u191 u192 u193 u194 u195 u196 u197 u198 u199 u200 u201 u202 u203 u204 u205 u206 u207 u208 u209 u210 u211 u212 u213 u214 u215 u216 u217 u218 u219 u220 u221 u222 u223 u224 u225 u226 u227 u228 u229 u230 u231 u232 u233 u234 u235 u236 u237 u238 u239 u240 u241 u242 u243 u244 u245 u246 u247 u248 u249 : Value}
    (hn2 : 2 ≤ n) (hn17 : n ≤ 17) (hkn : k ≤ n) (hg1 : 1 ≤ g) (hgn : g < n) (hC : GenC n k g) (hRR : rrZ n k g t = RR) (hSQ : (sizeB n RR).length = q) (hD : Nat.gcd g n = d) (hm1 : (k + 1) * d = m1)
    (hxr : RhAt W rb n b c RR) (hx : ¬ (0 < k ∧ m1 ≤ n))
    (hK : ∀ (x159 x160 x161 x162 x163 x164 x165 x166 x167 x168 x169 x170 x171 x172 x173 x174 x175 x176 x177 x178 x179 x180 x181 x182 x183 x184 x185 x186 x187 x188 x189 x190 x191 x192 x193 x194 x195 x196 x197 x198 x199 x200 x201 x202 x203 x204 x205 x206 x207 x208 : Value) (w' : World), Below W.heap.size W w' → K ({ tmps := #[u0, u1, u2, .int .i64 n, .int .i64 k, .int .i64 g, .pointer (some ⟨rb, 0, none⟩), u7, u8, u9, u10, u11, u12, u13, u14, u15, .bool false, u17, u18, u19, u20, u21, u22, u23, u24, u25, u26, u27, u28, u29, u30, u31, u32, u33, u34, u35, u36, u37, u38, u39, u40, u41, u42, u43, u44, u45, u46, u47, u48, u49, u50, u51, u52, u53, u54, u55, u56, u57, u58, u59, u60, u61, u62, u63, u64, u65, u66, u67, u68, u69, u70, u71, u72, u73, u74, u75, u76, u77, u78, u79, u80, u81, u82, u83, u84, u85, u86, u87, u88, u89, u90, u91, u92, u93, u94, u95, u96, u97, u98, u99, u100, u101, u102, u103, u104, u105, u106, u107, u108, u109, u110, u111, u112, u113, u114, u115, u116, u117, u118, u119, u120, u121, u122, u123, u124, u125, u126, u127, u128, u129, u130, u131, u132, u133, u134, u135, u136, u137, u138, u139, u140, u141, u142, u143, u144, u145, u146, u147, u148, u149, u150, u151, u152, u153, u154, u155, u156, u157, u158, x159, x160, x161, x162, x163, x164, x165, x166, x167, x168, x169, x170, x171, x172, x173, x174, x175, x176, x177, x178, x179, x180, x181, x182, x183, x184, x185, x186, x187, x188, x189, x190, x191, x192, x193, x194, x195, x196, x197, x198, x199, x200, x201, x202, x203, x204, x205, x206, x207, x208, .bool false, u210, u211, u212, u213, u214, u215, u216, u217, u218, u219, u220, u221, u222, u223, u224, u225, u226, u227, u228, u229, u230, u231, u232, u233, u234, u235, u236, u237, u238, u239, u240, u241, u242, u243, u244, u245, u246, u247, u248, u249], defers := [] } : Act) w') :
    Code.wp Try.prog (rgOf Try.f3 24) (Exit.then K Q) ({ tmps := #[u0, u1, u2, .int .i64 n, .int .i64 k, .int .i64 g, .pointer (some ⟨rb, 0, none⟩), u7, u8, u9, u10, u11, u12, u13, u14, u15, .bool false, u17, u18, u19, u20, u21, u22, u23, u24, u25, u26, u27, u28, u29, u30, u31, u32, u33, u34, u35, u36, u37, u38, u39, u40, u41, u42, u43, u44, u45, u46, u47, u48, u49, u50, u51, u52, u53, u54, u55, u56, u57, u58, u59, u60, u61, u62, u63, u64, u65, u66, u67, u68, u69, u70, u71, u72, u73, u74, u75, u76, u77, u78, u79, u80, u81, u82, u83, u84, u85, u86, u87, u88, u89, u90, u91, u92, u93, u94, u95, u96, u97, u98, u99, u100, u101, u102, u103, u104, u105, u106, u107, u108, u109, u110, u111, u112, u113, u114, u115, u116, u117, u118, u119, u120, u121, u122, u123, u124, u125, u126, u127, u128, u129, u130, u131, u132, u133, u134, u135, u136, u137, u138, u139, u140, u141, u142, u143, u144, u145, u146, u147, u148, u149, u150, u151, u152, u153, u154, u155, u156, u157, u158, u159, u160, u161, u162, u163, u164, u165, u166, u167, u168, u169, u170, u171, u172, u173, u174, u175, u176, u177, u178, u179, u180, u181, u182, u183, u184, u185, u186, u187, u188, u189, u190, u191, u192, u193, u194, u195, u196, u197, u198, u199, u200, u201, u202, u203, u204, u205, u206, u207, u208, u209, u210, u211, u212, u213, u214, u215, u216, u217, u218, u219, u220, u221, u222, u223, u224, u225, u226, u227, u228, u229, u230, u231, u232, u233, u234, u235, u236, u237, u238, u239, u240, u241, u242, u243, u244, u245, u246, u247, u248, u249], defers := [] } : Act) W := by
  have HC := Lib.hid hC
  have HRR := Lib.hid hRR
  have HSQ := Lib.hid hSQ
  have HD := Lib.hid hD
  have HXrw := Lib.hid hxr
  have HKK := Lib.hid hK
  have HM1 := Lib.hid hm1
  have hdn : d ≤ 17 := by rw [← hD]; exact Nat.le_trans (Nat.gcd_le_left _ hg1) (by omega)
  have hm1b : m1 ≤ 306 := by rw [← hm1]; exact Nat.mul_le_mul (show k + 1 ≤ 18 by omega) hdn
  have HWM : Hid (wrap64 (((k : Int) + 1) * (d : Int)) = (m1 : Int)) := Lib.hid (by rw [show ((k : Int) + 1) * (d : Int) = (m1 : Int) by rw [← hm1]; push_cast; rfl]; unfold wrap64; omega)
  clear hC hRR hSQ hD hxr hK hm1
  have hn2' : 2 ≤ n ∧ n ≤ 17 := ⟨hn2, hn17⟩
  have HN2 := Lib.hid hn2'
  clear hn2'
  have HG1 : Hid (1 ≤ g ∧ g < n) := Lib.hid ⟨hg1, hgn⟩
  have HOR : Hid (Ok n RR) := Lib.hid (f_ok HN2.out HRR.out)
  have hq3 : q ≤ 3 := by rw [← HSQ.out]; exact (f_few HN2.out hkn HG1.out HC.out HRR.out).1
  obtain ⟨T, hT⟩ : ∃ l, tsB n g = l := ⟨_, rfl⟩
  have HET := Lib.hid hT
  have hT24 : T.length ≤ 24 := by rw [← hT]; exact tsB_len _ _
  clear hT
  have HTQ := Lib.hid (f_two HN2.out hkn HG1.out HC.out HRR.out HSQ.out)
  have HBS := Lib.hid (Below.refl W.heap.size W)
  by_cases hk0' : 0 < k
  · have hk0 : decide (0 < k) = true := by simp; omega
    have hmn : ¬ m1 ≤ n := fun q => hx ⟨hk0', q⟩
    conv => enter [2]; whnf
    go_wp2_with fail
    refine (v_gcd g n d W (by omega) (by omega) HD.out).mono ?_
    rintro e v1 ⟨rfl, hb⟩
    have HXr1 := Lib.hid (HXrw.out.keep hb)
    clear HXrw
    have HB1x := Lib.hid (show Below W.heap.size W v1 from HBS.out.trans (hb.mono HBS.out.size))
    clear HBS hb
    have hwm := HWM.out
    have hmb : decide ((m1 : Int) ≤ (n : Int)) = false := decide_eq_false (fun q => hmn (Int.ofNat_le.1 q))
    go_wp2_with fail
    refine (v_tsc n g T v1 (by omega) (by omega) HET.out).mono ?_
    rintro e v2 ⟨bT, cT, rfl, hil, hb⟩
    have HXr2 := Lib.hid (HXr1.out.keep hb)
    clear HXr1
    have HB2x := Lib.hid (show Below W.heap.size W v2 from HB1x.out.trans (hb.mono HB1x.out.size))
    clear HB1x hb
    have HLT0 := Lib.hid hil
    clear hil
    go_wp2_with fail
    refine (v_lhas bT T.length cT T (k : Int) (decide (2 ≤ k) && decide (k < n) && decide (q ≤ 2)) v2 HLT0.out (by omega) (by rw [← HET.out]; exact HTQ.out)).mono ?_
    rintro e v3 ⟨rfl, hb⟩
    have HXr3 := Lib.hid (HXr2.out.keep hb)
    clear HXr2
    have HLT3 := Lib.hid (HLT0.out.below hb)
    clear HLT0
    have HB3x := Lib.hid (show Below W.heap.size W v3 from HB2x.out.trans (hb.mono HB2x.out.size))
    clear HB2x hb
    by_cases h2 : 2 ≤ k
    · by_cases h3 : k < n
      · have h2b : decide (2 ≤ k) = true := by simp; omega
        have h3b : decide (k < n) = true := by simp; omega
        obtain ⟨pr0, pr1, pr2, pr3⟩ := HXr3.out.1.facts
        have ltr := HXr3.out.1.lt
        go_wp2_with fail
        refine (v_csz n b c RR q v3 HXr3.out.2 HOR.out HSQ.out).mono ?_
        rintro e v4 ⟨rfl, hb⟩
        clear pr0 pr1 pr2 pr3 ltr
        have HXr4 := Lib.hid (HXr3.out.keep hb)
        clear HXr3
        have HLT4 := Lib.hid (HLT3.out.below hb)
        clear HLT3
        have HB4x := Lib.hid (show Below W.heap.size W v4 from HB3x.out.trans (hb.mono HB3x.out.size))
        clear HB3x hb
        obtain ⟨qb, hqb⟩ : ∃ x, decide (q ≤ 2) = x := ⟨_, rfl⟩
        have hqi : decide ((q : Int) ≤ 2) = qb := by rw [← hqb]; congr 1; simp; omega
        go_wp2_with fail
        cases qb <;> exact HKK.out _ _ _ _ _ _ _ _ _ _ _ _ _ _ _ _ _ _ _ _ _ _ _ _ _ _ _ _ _ _ _ _ _ _ _ _ _ _ _ _ _ _ _ _ _ _ _ _ _ _ _ HB4x.out
      · have h2b : decide (2 ≤ k) = true := by simp; omega
        have h3b : decide (k < n) = false := by simp; omega
        go_wp2_with fail
        exact HKK.out _ _ _ _ _ _ _ _ _ _ _ _ _ _ _ _ _ _ _ _ _ _ _ _ _ _ _ _ _ _ _ _ _ _ _ _ _ _ _ _ _ _ _ _ _ _ _ _ _ _ _ HB3x.out
    · have h2b : decide (2 ≤ k) = false := by simp; omega
      go_wp2_with fail
      exact HKK.out _ _ _ _ _ _ _ _ _ _ _ _ _ _ _ _ _ _ _ _ _ _ _ _ _ _ _ _ _ _ _ _ _ _ _ _ _ _ _ _ _ _ _ _ _ _ _ _ _ _ _ HB3x.out
  · have hk0 : decide (0 < k) = false := by simp; omega
    conv => enter [2]; whnf
    go_wp2_with fail
    refine (v_tsc n g T W (by omega) (by omega) HET.out).mono ?_
    rintro e v41 ⟨bT, cT, rfl, hil, hb⟩
    have HXr41 := Lib.hid (HXrw.out.keep hb)
    clear HXrw
    have HB41x := Lib.hid (show Below W.heap.size W v41 from HBS.out.trans (hb.mono HBS.out.size))
    clear HBS hb
    have HLT0 := Lib.hid hil
    clear hil
    go_wp2_with fail
    refine (v_lhas bT T.length cT T (k : Int) (decide (2 ≤ k) && decide (k < n) && decide (q ≤ 2)) v41 HLT0.out (by omega) (by rw [← HET.out]; exact HTQ.out)).mono ?_
    rintro e v42 ⟨rfl, hb⟩
    have HXr42 := Lib.hid (HXr41.out.keep hb)
    clear HXr41
    have HLT42 := Lib.hid (HLT0.out.below hb)
    clear HLT0
    have HB42x := Lib.hid (show Below W.heap.size W v42 from HB41x.out.trans (hb.mono HB41x.out.size))
    clear HB41x hb
    have h2b : decide (2 ≤ k) = false := by simp; omega
    go_wp2_with fail
    exact HKK.out _ _ _ _ _ _ _ _ _ _ _ _ _ _ _ _ _ _ _ _ _ _ _ _ _ _ _ _ _ _ _ _ _ _ _ _ _ _ _ _ _ _ _ _ _ _ _ _ _ _ _ HB42x.out
end Go.Proofs.Ythcmpkhfimapgaa.Rhy

/-
  Helpers of the claims beside this text: the law on generated rhythms: what it asks first of a generated rhythm.
-/
namespace Go.Proofs.Ythcmpkhfimapgaa.Rhy
open Go.RowKit
open Go.Proofs.Ythcmpkhfimapgaa.Cur
set_option linter.unusedVariables false
set_option linter.unusedSimpArgs false

set_option maxHeartbeats 8000000 in
set_option maxRecDepth 100000 in
theorem reg15 (n k g d q : Nat) (t : Int) (RR L lo : List Int) (rb ob : Nat) (b bL bC bo : Option Addr) (c cL cC co : Nat) (W : World) {K : Act → World → Prop} {Q : Exit → Act → World → Prop} {u0 u1 u2 u7 u8 u12 u13 u14 u15 u16 u17 u18 u19 u20 u21 u22 u23 u24 u25 u26 u27 u28 u29 u30 u31 u32 u33 u34 u35 u36 u37 u38 u39 u40 u41 u42 u43 u44 u45 u46 u47 u48 u49 u50 u51 u52 u53 u54 u55 u56 u57 u58 u59 u60 u61 u62 u63 u64 u65 u66 u67 u68 u69 u70 u71 u72 u73 u74 u75 u76 u77 u78 u79 u80 u81 u82 u83 u84 u85 u86 u87 u88 u89 u90 u91 u92 u93 u94 u95 u96 u97 u98 u99 u100 u101 u102 u103 u104 u105 u106 u107 u108 u109 u110 u111 u112 u113 u114 u115 u116 u117 u118 u119 u120 u121 u122 u123 u124 u125 u126 u127 u128 u129 u130 u131 u132 u133 u134 u135 u136 u137 u138 u139 u140 u141 u142 u143 u144 u145 u146 u147 u148 u149 u150 u151 u152 u153 u154 u155 u156 u157 u158 u159 u160 u161 u162 u163 u164 u165 u166 u167 u168 u169 u170 u171 u172 u173 u174 u175 u176 u177 u178 u179 u180 u181 u182 u183 u184 u185 u186 u187 u188 u189 u190 u191 u192 u193 u194 u195 u196 u197 u198 u199 u200 u201 u202 u203 u204 u205 u206 u207 u208 u209 u210 u211 u212 u213 u214 u215 u216 u217 u218 u219 u220 u221 u222 u223 u224 u225 u226 u227 u228 u229 u230 u231 u232 u233 u234 u235 u236 u237 u238 u239 u240 u241 u242 u243 u244 u245 u246 u247 u248 u249 : Value}
    (hn2 : 2 ≤ n) (hn17 : n ≤ 17) (hkn : k ≤ n) (hg1 : 1 ≤ g) (hgn : g < n) (hC : GenC n k g) (hRR : rrZ n k g t = RR) (hEL : gnB n RR = L) (hElo : notZ n RR = lo) (hSQ : (sizeB n RR).length = q) (hD : Nat.gcd g n = d)
    (hxr : RhAt W rb n b c RR) (hxo : RhAt W ob n bo co lo) (hlL : IntsAt W bL L.length L)
    (hK : ∀ (x76 x77 x78 x79 x80 x81 x82 x83 x84 x85 x86 x87 x88 x89 x90 x91 x92 x93 x94 x95 x96 x97 x98 x99 x100 x101 x102 x103 x104 x105 x106 x107 x108 x109 x110 x111 x112 x113 x114 x115 x116 x117 x118 x119 x120 : Value) (w' : World), Below W.heap.size W w' → K ({ tmps := #[u0, u1, u2, .int .i64 n, .int .i64 k, .int .i64 g, .pointer (some ⟨rb, 0, none⟩), u7, u8, .slice bL L.length cL, .slice bC k cC, .pointer (some ⟨ob, 0, none⟩), u12, u13, u14, u15, u16, u17, u18, u19, u20, u21, u22, u23, u24, u25, u26, u27, u28, u29, u30, u31, u32, u33, u34, u35, u36, u37, u38, u39, u40, u41, u42, u43, u44, u45, u46, u47, u48, u49, u50, u51, u52, u53, u54, u55, u56, u57, u58, u59, u60, u61, u62, u63, u64, u65, u66, u67, u68, u69, u70, u71, u72, u73, u74, u75, x76, x77, x78, x79, x80, x81, x82, x83, x84, x85, x86, x87, x88, x89, x90, x91, x92, x93, x94, x95, x96, x97, x98, x99, x100, x101, x102, x103, x104, x105, x106, x107, x108, x109, x110, x111, x112, x113, x114, x115, x116, x117, x118, x119, x120, .bool false, u122, u123, u124, u125, u126, u127, u128, u129, u130, u131, u132, u133, u134, u135, u136, u137, u138, u139, u140, u141, u142, u143, u144, u145, u146, u147, u148, u149, u150, u151, u152, u153, u154, u155, u156, u157, u158, u159, u160, u161, u162, u163, u164, u165, u166, u167, u168, u169, u170, u171, u172, u173, u174, u175, u176, u177, u178, u179, u180, u181, u182, u183, u184, u185, u186, u187, u188, u189, u190, u191, u192, u193, u194, u195, u196, u197, u198, u199, u200, u201, u202, u203, u204, u205, u206, u207, u208, u209, u210, u211, u212, u213, u214, u215, u216, u217, u218, u219, u220, u221, u222, u223, u224, u225, u226, u227, u228, u229, u230, u231, u232, u233, u234, u235, u236, u237, u238, u239, u240, u241, u242, u243, u244, u245, u246, u247, u248, u249], defers := [] } : Act) w') :
    Code.wp Try.prog (rgOf Try.f3 15) (Exit.then K Q) ({ tmps := #[u0, u1, u2, .int .i64 n, .int .i64 k, .int .i64 g, .pointer (some ⟨rb, 0, none⟩), u7, u8, .slice bL L.length cL, .slice bC k cC, .pointer (some ⟨ob, 0, none⟩), u12, u13, u14, u15, u16, u17, u18, u19, u20, u21, u22, u23, u24, u25, u26, u27, u28, u29, u30, u31, u32, u33, u34, u35, u36, u37, u38, u39, u40, u41, u42, u43, u44, u45, u46, u47, u48, u49, u50, u51, u52, u53, u54, u55, u56, u57, u58, u59, u60, u61, u62, u63, u64, u65, u66, u67, u68, u69, u70, u71, u72, u73, u74, u75, u76, u77, u78, u79, u80, u81, u82, u83, u84, u85, u86, u87, u88, u89, u90, u91, u92, u93, u94, u95, u96, u97, u98, u99, u100, u101, u102, u103, u104, u105, u106, u107, u108, u109, u110, u111, u112, u113, u114, u115, u116, u117, u118, u119, u120, u121, u122, u123, u124, u125, u126, u127, u128, u129, u130, u131, u132, u133, u134, u135, u136, u137, u138, u139, u140, u141, u142, u143, u144, u145, u146, u147, u148, u149, u150, u151, u152, u153, u154, u155, u156, u157, u158, u159, u160, u161, u162, u163, u164, u165, u166, u167, u168, u169, u170, u171, u172, u173, u174, u175, u176, u177, u178, u179, u180, u181, u182, u183, u184, u185, u186, u187, u188, u189, u190, u191, u192, u193, u194, u195, u196, u197, u198, u199, u200, u201, u202, u203, u204, u205, u206, u207, u208, u209, u210, u211, u212, u213, u214, u215, u216, u217, u218, u219, u220, u221, u222, u223, u224, u225, u226, u227, u228, u229, u230, u231, u232, u233, u234, u235, u236, u237, u238, u239, u240, u241, u242, u243, u244, u245, u246, u247, u248, u249], defers := [] } : Act) W := by
  have HC := Lib.hid hC
  have HRR := Lib.hid hRR
  have HEL := Lib.hid hEL
  have HElo := Lib.hid hElo
  have HSQ := Lib.hid hSQ
  have HD := Lib.hid hD
  have HXrw := Lib.hid hxr
  have HXow := Lib.hid hxo
  have HLLw := Lib.hid hlL
  have HKK := Lib.hid hK
  clear hC hRR hEL hElo hSQ hD hxr hxo hlL hK
  have hn2' : 2 ≤ n ∧ n ≤ 17 := ⟨hn2, hn17⟩
  have HN2 := Lib.hid hn2'
  clear hn2'
  have HG1 : Hid (1 ≤ g ∧ g < n) := Lib.hid ⟨hg1, hgn⟩
  have HOR : Hid (Ok n RR) := Lib.hid (f_ok HN2.out HRR.out)
  have hq3 : q ≤ 3 := by rw [← HSQ.out]; exact (f_few HN2.out hkn HG1.out HC.out HRR.out).1
  have HOo : Hid (Ok n lo) := Lib.hid (by rw [← HElo.out]; exact not_ok' HOR.out)
  have hL24 : L.length ≤ 24 := by rw [← HEL.out]; exact gnB_len _ _
  have hd0 : 1 ≤ d := by rw [← HD.out]; exact Nat.gcd_pos_of_pos_left _ hg1
  have hdn : d ≤ 17 := by rw [← HD.out]; exact Nat.le_trans (Nat.gcd_le_left _ hg1) (by omega)
  have HBR := Lib.hid (Below.refl W.heap.size W)
  have hq3b : decide ((3 : Int) < (q : Int)) = false := by simp; omega
  conv => enter [2]; whnf
  go_wp2_with fail
  refine (v_lhas bL L.length cL L g true W HLLw.out (by omega) (by rw [← HEL.out]; exact f_has HC.out hgn HRR.out)).mono ?_
  rintro e v1 ⟨rfl, hb⟩
  have HXr1 := Lib.hid (HXrw.out.keep hb)
  clear HXrw
  have HXo1 := Lib.hid (HXow.out.keep hb)
  clear HXow
  have HLL1 := Lib.hid (HLLw.out.below hb)
  clear HLLw
  have HB1x := Lib.hid (show Below W.heap.size W v1 from HBR.out.trans (hb.mono HBR.out.size))
  clear HBR hb
  go_wp2_with fail
  refine (v_lhas bL L.length cL L ((n : Int) - g) true v1 HLL1.out (by omega) (by rw [← HEL.out]; exact f_opp HN2.out hkn HG1.out HC.out HRR.out)).mono ?_
  rintro e v2 ⟨rfl, hb⟩
  have HXr2 := Lib.hid (HXr1.out.keep hb)
  clear HXr1
  have HXo2 := Lib.hid (HXo1.out.keep hb)
  clear HXo1
  have HLL2 := Lib.hid (HLL1.out.below hb)
  clear HLL1
  have HB2x := Lib.hid (show Below W.heap.size W v2 from HB1x.out.trans (hb.mono HB1x.out.size))
  clear HB1x hb
  obtain ⟨pr0, pr1, pr2, pr3⟩ := HXr2.out.1.facts
  have ltr := HXr2.out.1.lt
  go_wp2_with fail
  refine (v_isgen n b c RR true v2 HXr2.out.2 HOR.out (f_isg HC.out hgn HRR.out)).mono ?_
  rintro e v3 ⟨rfl, hb⟩
  clear pr0 pr1 pr2 pr3 ltr
  have HXr3 := Lib.hid (HXr2.out.keep hb)
  clear HXr2
  have HXo3 := Lib.hid (HXo2.out.keep hb)
  clear HXo2
  have HLL3 := Lib.hid (HLL2.out.below hb)
  clear HLL2
  have HB3x := Lib.hid (show Below W.heap.size W v3 from HB2x.out.trans (hb.mono HB2x.out.size))
  clear HB2x hb
  obtain ⟨pr0, pr1, pr2, pr3⟩ := HXr3.out.1.facts
  have ltr := HXr3.out.1.lt
  go_wp2_with fail
  refine (v_csz n b c RR q v3 HXr3.out.2 HOR.out HSQ.out).mono ?_
  rintro e v4 ⟨rfl, hb⟩
  clear pr0 pr1 pr2 pr3 ltr
  have HXr4 := Lib.hid (HXr3.out.keep hb)
  clear HXr3
  have HXo4 := Lib.hid (HXo3.out.keep hb)
  clear HXo3
  have HLL4 := Lib.hid (HLL3.out.below hb)
  clear HLL3
  have HB4x := Lib.hid (show Below W.heap.size W v4 from HB3x.out.trans (hb.mono HB3x.out.size))
  clear HB3x hb
  obtain ⟨pr0, pr1, pr2, pr3⟩ := HXr4.out.1.facts
  have ltr := HXr4.out.1.lt
  go_wp2_with fail
  refine (v_ssz n b c RR true v4 HXr4.out.2 HOR.out (f_few HN2.out hkn HG1.out HC.out HRR.out).2).mono ?_
  rintro e v5 ⟨rfl, hb⟩
  clear pr0 pr1 pr2 pr3 ltr
  have HXr5 := Lib.hid (HXr4.out.keep hb)
  clear HXr4
  have HXo5 := Lib.hid (HXo4.out.keep hb)
  clear HXo4
  have HLL5 := Lib.hid (HLL4.out.below hb)
  clear HLL4
  have HB5x := Lib.hid (show Below W.heap.size W v5 from HB4x.out.trans (hb.mono HB4x.out.size))
  clear HB4x hb
  go_wp2_with fail
  refine (v_gcd g n d v5 (by omega) (by omega) HD.out).mono ?_
  rintro e v6 ⟨rfl, hb⟩
  have HXr6 := Lib.hid (HXr5.out.keep hb)
  clear HXr5
  have HXo6 := Lib.hid (HXo5.out.keep hb)
  clear HXo5
  have HLL6 := Lib.hid (HLL5.out.below hb)
  clear HLL5
  have HB6x := Lib.hid (show Below W.heap.size W v6 from HB5x.out.trans (hb.mono HB5x.out.size))
  clear HB5x hb
  by_cases hd1 : d = 1
  · have hdb : ((d : Int) == 1) = true := by simp; omega
    have HD1 : Hid (Nat.gcd g n = 1) := Lib.hid (by rw [HD.out]; exact hd1)
    obtain ⟨M, hM⟩ : ∃ l, gnB n lo = l := ⟨_, rfl⟩
    have HEM := Lib.hid hM
    clear hM
    have hM24 : M.length ≤ 24 := by rw [← HEM.out]; exact gnB_len _ _
    clear hd1
    obtain ⟨po0, po1, po2, po3⟩ := HXo6.out.1.facts
    have lto := HXo6.out.1.lt
    go_wp2_with fail
    refine (v_gens n bo co lo M v6 HXo6.out.2 HOo.out HEM.out).mono ?_
    rintro e v7 ⟨bM, cM, rfl, hil, hb⟩
    clear po0 po1 po2 po3 lto
    have HXr7 := Lib.hid (HXr6.out.keep hb)
    clear HXr6
    have HXo7 := Lib.hid (HXo6.out.keep hb)
    clear HXo6
    have HLL7 := Lib.hid (HLL6.out.below hb)
    clear HLL6
    have HB7x := Lib.hid (show Below W.heap.size W v7 from HB6x.out.trans (hb.mono HB6x.out.size))
    clear HB6x hb
    have HLM0 := Lib.hid hil
    clear hil
    go_wp2_with fail
    refine (v_lhas bM M.length cM M g true v7 HLM0.out (by omega) (by rw [← HEM.out, ← HElo.out]; exact f_not HN2.out hkn HG1.out HD1.out HRR.out)).mono ?_
    rintro e v8 ⟨rfl, hb⟩
    have HXr8 := Lib.hid (HXr7.out.keep hb)
    clear HXr7
    have HXo8 := Lib.hid (HXo7.out.keep hb)
    clear HXo7
    have HLL8 := Lib.hid (HLL7.out.below hb)
    clear HLL7
    have HLM8 := Lib.hid (HLM0.out.below hb)
    clear HLM0
    have HB8x := Lib.hid (show Below W.heap.size W v8 from HB7x.out.trans (hb.mono HB7x.out.size))
    clear HB7x hb
    go_wp2_with fail
    exact HKK.out _ _ _ _ _ _ _ _ _ _ _ _ _ _ _ _ _ _ _ _ _ _ _ _ _ _ _ _ _ _ _ _ _ _ _ _ _ _ _ _ _ _ _ _ _ _ HB8x.out
  · have hdb : ((d : Int) == 1) = false := by simp; omega
    go_wp2_with fail
    exact HKK.out _ _ _ _ _ _ _ _ _ _ _ _ _ _ _ _ _ _ _ _ _ _ _ _ _ _ _ _ _ _ _ _ _ _ _ _ _ _ _ _ _ _ _ _ _ _ HB6x.out
end Go.Proofs.Ythcmpkhfimapgaa.Rhy
