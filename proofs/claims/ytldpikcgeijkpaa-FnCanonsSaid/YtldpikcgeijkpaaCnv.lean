/-
  Helpers of the claims beside this text: the law on canons: its second part.
-/
import Derived.Test.YtldpikcgeijkpaaCnu
import Derived.Test.YtldpikcgeijkpaaCnw
namespace Go.Proofs.Ytldpikcgeijkpaa.Rhy
open Go.RowKit Cur
set_option linter.unusedVariables false
set_option linter.unusedSimpArgs false
set_option maxRecDepth 100000

set_option maxHeartbeats 4000000 in
set_option maxRecDepth 100000 in
theorem part8 (w0 W : World) (a : Option Addr) (len cap : Nat) (bb cb xb yb n : Nat) (pa : Option Addr) (ca : Nat) (xs : List Int) (pb : Option Addr) (cp : Nat) (ys : List Int) (px : Option Addr) (cx : Nat) (qx : Option Addr) (dx : Nat) (py : Option Addr) (cy : Nat) (XT : List Int) (qy : Option Addr) (dy : Nat) (YT : List Int) {K : Act → World → Prop} {u1 u2 u3 u11 u12 u13 u14 u15 u16 u17 u18 u19 u20 u21 u22 u23 u24 u25 u26 u27 u28 u29 u30 u31 u32 u33 u34 u35 u36 u37 u38 u39 u40 u41 u42 u43 u44 u45 u46 u47 u48 u49 u50 u51 u52 u53 u54 u55 u56 u57 u58 u59 u60 u61 u62 u63 u64 u65 u66 u67 u68 u69 u70 u71 u72 u73 u74 u75 u76 u77 u78 u79 u80 u81 u82 u83 u84 u85 u86 u87 u88 u89 u90 u91 u92 u93 u94 u95 u96 u97 u98 u99 u100 u101 u102 u103 u104 u105 u106 u107 u108 u109 u110 u111 u112 u113 u114 u115 u116 u117 u118 u119 u120 u121 u122 u123 u124 u125 u126 u127 u128 u129 u130 u131 u132 u133 u134 u135 u136 u137 u138 u139 u140 u141 u142 u143 u144 u145 u146 u147 u148 u149 u150 u151 u152 u153 u154 u155 u156 u157 u158 u159 u160 u161 u162 u163 u164 u165 u166 u167 u168 u169 u170 u171 u172 u173 u174 u175 u176 u177 u178 u179 u180 u181 u182 u183 u184 u185 u186 u187 u188 u189 u190 u191 u192 u193 u194 u195 u196 u197 u198 u199 u200 u201 u202 u203 u204 u205 u206 u207 u208 u209 u210 u211 u212 u213 u214 u215 u216 u217 u218 u219 u220 u221 u222 u223 u224 u225 u226 u227 u228 u229 u230 u231 u232 u233 u234 u235 u236 u237 u238 u239 u240 u241 u242 u243 u244 u245 u246 u247 u248 u249 u250 u251 u252 u253 u254 u255 u256 u257 u258 u259 : Value}
    (hK : ∀ a w, Code.wp Try.prog (tlOf Try.f3 8) (bodyPost Try.prog Try.f3 fun e w' => e = .returned (.bool true) ∧ Below w0.heap.size w0 w') a w → K a w)
    (hby : BytesAt W.heap.size W a len) (hlen : len ≤ 1048576) (hbl : Below w0.heap.size w0 W)
    (htb : Two W bb (.int .i64 (n : Nat)) (.slice pb ys.length cp)) (htc : Four W cb (.int .i64 (n : Nat)) (.slice pa xs.length ca) (.int .i64 (n : Nat)) (.slice pb ys.length cp)) (hix : IntsAt W pa xs.length xs) (hiy : IntsAt W pb ys.length ys) (hcc : CC n xs n ys) (htt : tilC n xs ys)
    (htx : Four W xb (.int .i64 (n : Nat)) (.slice px ys.length cx) (.int .i64 (n : Nat)) (.slice qx xs.length dx)) (hjx : IntsAt W px ys.length ys) (hjy : IntsAt W qx xs.length xs)
    (hty : Four W yb (.int .i64 (n : Nat)) (.slice py XT.length cy) (.int .i64 (n : Nat)) (.slice qy YT.length dy)) (hkx : IntsAt W py XT.length XT) (hky : IntsAt W qy YT.length YT) (hct : CC n XT n YT) (htu : tilC n XT YT) :
    Code.wp Try.prog (rgOf Try.f3 8) (Exit.then K (bodyPost Try.prog Try.f3 fun e w' => e = .returned (.bool true) ∧ Below w0.heap.size w0 w')) ({ tmps := #[.slice a len cap, u1, u2, u3, .pointer (some ⟨bb, 0, none⟩), .int .i64 (n : Nat), .pointer (some ⟨cb, 0, none⟩), .pointer (some ⟨xb, 0, none⟩), .bool true, .pointer (some ⟨yb, 0, none⟩), .bool true, u11, u12, u13, u14, u15, u16, u17, u18, u19, u20, u21, u22, u23, u24, u25, u26, u27, u28, u29, u30, u31, u32, u33, u34, u35, u36, u37, u38, u39, u40, u41, u42, u43, u44, u45, u46, u47, u48, u49, u50, u51, u52, u53, u54, u55, u56, u57, u58, u59, u60, u61, u62, u63, u64, u65, u66, u67, u68, u69, u70, u71, u72, u73, u74, u75, u76, u77, u78, u79, u80, u81, u82, u83, u84, u85, u86, u87, u88, u89, u90, u91, u92, u93, u94, u95, u96, u97, u98, u99, u100, u101, u102, u103, u104, u105, u106, u107, u108, u109, u110, u111, u112, u113, u114, u115, u116, u117, u118, u119, u120, u121, u122, u123, u124, u125, u126, u127, u128, u129, u130, u131, u132, u133, u134, u135, u136, u137, u138, u139, u140, u141, u142, u143, u144, u145, u146, u147, u148, u149, u150, u151, u152, u153, u154, u155, u156, u157, u158, u159, u160, u161, u162, u163, u164, u165, u166, u167, u168, u169, u170, u171, u172, u173, u174, u175, u176, u177, u178, u179, u180, u181, u182, u183, u184, u185, u186, u187, u188, u189, u190, u191, u192, u193, u194, u195, u196, u197, u198, u199, u200, u201, u202, u203, u204, u205, u206, u207, u208, u209, u210, u211, u212, u213, u214, u215, u216, u217, u218, u219, u220, u221, u222, u223, u224, u225, u226, u227, u228, u229, u230, u231, u232, u233, u234, u235, u236, u237, u238, u239, u240, u241, u242, u243, u244, u245, u246, u247, u248, u249, u250, u251, u252, u253, u254, u255, u256, u257, u258, u259], defers := [] } : Act) W := by
  have HBY := Lib.hid (fun (W' : World) (h : Below W.heap.size W W') => (show BytesAt W'.heap.size W' a len from bytes_up hby h h.size))
  have HBL := Lib.hid (fun (W' : World) (h : Below W.heap.size W W') => (show Below w0.heap.size w0 W' from hbl.trans (h.mono hbl.size)))
  have KB := Lib.hid (fun (W' : World) (h : Below W.heap.size W W') => htb.keep h)
  have KC := Lib.hid (fun (W' : World) (h : Below W.heap.size W W') => htc.keep h)
  have KX := Lib.hid (fun (W' : World) (h : Below W.heap.size W W') => htx.keep h)
  have KY := Lib.hid (fun (W' : World) (h : Below W.heap.size W W') => hty.keep h)
  have IX := Lib.hid (fun (W' : World) (h : Below W.heap.size W W') => hix.below h)
  have IY := Lib.hid (fun (W' : World) (h : Below W.heap.size W W') => hiy.below h)
  have hn24 : n ≤ 24 := by have := hcc.1.1.1; omega
  have hn1 : 1 ≤ n := by have := hcc.1.1.1; omega
  have HCC := Lib.hid hcc
  have HTT := Lib.hid htt
  have HLT := Lib.hid ((line_tight (ys := ys) hcc.1.1).1 htt)
  have hccx : CC n ys n xs := ⟨⟨hcc.1.2.1, hcc.1.1, rfl⟩, hcc.2.2, hcc.2.1⟩
  have TC1 := Lib.hid (fun (W' : World) (h : Below W.heap.size W W') => v_cok n pa ca xs pb cp ys W' (hix.below h) (hiy.below h) hcc)
  have TC2 := Lib.hid (fun (W' : World) (h : Below W.heap.size W W') => v_tgt n pa ca xs pb cp ys W' (hix.below h) (hiy.below h) hcc htt)
  have TC3 := Lib.hid (fun (W' : World) (h : Below W.heap.size W W') => v_tgt n px cx ys qx dx xs W' (hjx.below h) (hjy.below h) hccx (til_swap hn1 htt))
  have TC4 := Lib.hid (fun (W' : World) (h : Below W.heap.size W W') => v_tgt n py cy XT qy dy YT W' (hkx.below h) (hky.below h) hct htu)
  have TC5 := Lib.hid (fun (W' : World) (h : Below W.heap.size W W') => v_cla n pa ca xs pb cp ys W' (hix.below h) (hiy.below h) hcc 0 HLT.out.1)
  have TC6 := Lib.hid (v_lin n pa ca xs pb cp ys W hix hiy hcc)
  have hyl : ys.length ≤ 24 := (cc_len hcc).2
  clear hby hbl htb htc hix hiy hcc htt htx hjx hjy hty hkx hky hct htu hccx
  obtain ⟨c0, c1, c2, c3, c4⟩ := KC.out _ (Below.refl _ _)
  conv => enter [2]; whnf
  go_wp2_with fail
  refine TC6.out.mono ?_
  rintro e w1 ⟨p1, d1, rfl, hl1, hb1⟩
  have HL1 := Lib.hid hl1
  have HB1 := Lib.hid hb1
  clear hl1 hb1 c0 c1 c2 c3 c4 TC6
  go_wp2_with fail
  conv => enter [2]; whnf
  obtain ⟨c0, c1, c2, c3, c4⟩ := KC.out _ HB1.out
  obtain ⟨x0, x1, x2, x3, x4⟩ := KX.out _ HB1.out
  obtain ⟨y0, y1, y2, y3, y4⟩ := KY.out _ HB1.out
  go_wp2_with fail
  refine (TC1.out _ HB1.out).mono ?_
  rintro e w2 ⟨rfl, hb⟩
  have HB2 := Lib.hid (bel_up hb HB1.out HB1.out.size)
  have HL2 := Lib.hid (HL1.out.below hb)
  clear hb c0 c1 c2 c3 c4 x0 x1 x2 x3 x4 y0 y1 y2 y3 y4
  obtain ⟨c0, c1, c2, c3, c4⟩ := KC.out _ HB2.out
  go_wp2_with fail
  refine (TC2.out _ HB2.out).mono ?_
  rintro e w3 ⟨rfl, hb⟩
  have HB3 := Lib.hid (bel_up hb HB2.out HB2.out.size)
  have HL3 := Lib.hid (HL2.out.below hb)
  clear hb c0 c1 c2 c3 c4
  obtain ⟨x0, x1, x2, x3, x4⟩ := KX.out _ HB3.out
  go_wp2_with fail
  refine (TC3.out _ HB3.out).mono ?_
  rintro e w4 ⟨rfl, hb⟩
  have HB4 := Lib.hid (bel_up hb HB3.out HB3.out.size)
  have HL4 := Lib.hid (HL3.out.below hb)
  clear hb x0 x1 x2 x3 x4
  obtain ⟨y0, y1, y2, y3, y4⟩ := KY.out _ HB4.out
  go_wp2_with fail
  refine (TC4.out _ HB4.out).mono ?_
  rintro e w5 ⟨rfl, hb⟩
  have HB5 := Lib.hid (bel_up hb HB4.out HB4.out.size)
  have HL5 := Lib.hid (HL4.out.below hb)
  clear hb y0 y1 y2 y3 y4
  obtain ⟨c0, c1, c2, c3, c4⟩ := KC.out _ HB5.out
  go_wp2_with fail
  refine (TC5.out _ HB5.out).mono ?_
  rintro e w6 ⟨rfl, hb⟩
  have HB6 := Lib.hid (bel_up hb HB5.out HB5.out.size)
  have HL6 := Lib.hid (HL5.out.below hb)
  clear hb c0 c1 c2 c3 c4 TC1 TC2 TC3 TC4 TC5
  go_wp2
  go_loopw [12] (fun ti wr => ∃ k : Nat, k ≤ n ∧ ti = .int .i64 (k : Nat) ∧ Below W.heap.size W wr ∧ IntsAt wr p1 n (linL n xs ys n)) (fun i _ => n - (intOf i).toNat)
  case atStart => exact ⟨0, by omega, rfl, HB6.out, HL6.out⟩
  case round =>
    obtain ⟨k, hk, rfl, hbr, hlr⟩ := hrel
    have HBR := Lib.hid hbr
    have HLR := Lib.hid hlr
    clear hbr hlr
    by_cases hlt : k < n
    · obtain ⟨z, hat, hz, hlk⟩ := at_one HCC.out.1.1 HTT.out hlt
      have HAT := Lib.hid hat
      have HLK := Lib.hid hlk
      obtain ⟨VL, hVL⟩ : ∃ VL, voiZ n xs ys z = VL := ⟨_, rfl⟩
      have HVL := Lib.hid hVL
      have HHB : Hid (hasB VL (remB (k : Int) n) = true) := Lib.hid (by
        rw [hasB_def, List.contains_iff_mem, ← hVL]
        exact voice_has HCC.out.1.1 hz (by rw [hat]; simp))
      have HVO : Hid (Ok (n : Int) VL) := Lib.hid (by rw [← hVL]; exact voiZ_ok HCC.out.1.1.1)
      have HVA := Lib.hid (v_vat1 n pa ca xs pb cp ys (k : Int) wr (IX.out _ HBR.out) (IY.out _ HBR.out) HCC.out (by omega) (by omega) (z : Int) hat)
      clear hat hlk hVL
      obtain ⟨c0, c1, c2, c3, c4⟩ := KC.out _ HBR.out
      go_wp2_with fail
      refine HVA.out.mono ?_
      rintro e v1 ⟨pv, ev, rfl, hiv, hbv⟩
      have HIV := Lib.hid hiv
      have HBV := Lib.hid (bel_up hbv HBR.out HBR.out.size)
      have HLV := Lib.hid (HLR.out.below hbv)
      clear hiv hbv c0 c1 c2 c3 c4
      go_upto_region 15 with fail
      refine wp_code (c' := rgOf Try.f3 15) (by kernel_rfl) ?_
      refine wp_sure ?_
      refine reg15 _ bb cb n pa ca xs pb cp ys p1 d1 pv ev k z ?_ (KB.out _ HBV.out) (KC.out _ HBV.out) (IX.out _ HBV.out) (IY.out _ HBV.out) HCC.out HLV.out HLK.out HIV.out HAT.out hlt hz
      intro x104 x105 x106 x107 x108 x109 x110 x111 x112 x113 x114 x115 x116 x117 x118 x119 x120 x121 x122 x123 x124 x125 x126 x127 x128 x129 x130 x131 x132 x133 x134 x135 x136 x137 x138 x139 x140 v2 hb2
      have HIV2 := Lib.hid (HIV.out.below hb2)
      have HLV2 := Lib.hid (HLV.out.below hb2)
      have HBV2 := Lib.hid (bel_up hb2 HBV.out HBV.out.size)
      clear hb2
      go_upto_region 17 with fail
      refine wp_code (c' := rgOf Try.f3 17) (by kernel_rfl) ?_
      refine wp_sure ?_
      refine reg17 _ cb n pa ca xs pb cp ys pv ev z VL ?_ (KC.out _ HBV2.out) (IX.out _ HBV2.out) (IY.out _ HBV2.out) HCC.out HIV2.out hz HVL.out
      intro y142 y143 y144 y145 y146 y147 y148 y149 rb b4 c4' v3 htw hiw hb3
      have HIW := Lib.hid hiw
      have HLV3 := Lib.hid (HLV2.out.below hb3)
      have HBV3 := Lib.hid (bel_up hb3 HBV2.out HBV2.out.size)
      obtain ⟨r0, r1, r2⟩ := htw
      clear hiw hb3
      go_wp2_with fail
      refine (r_has n b4 c4' VL (k : Int) true _ HIW.out HVO.out (by omega) (by omega) HHB.out).mono ?_
      rintro e v4 ⟨rfl, hb4⟩
      have HLV4 := Lib.hid (HLV3.out.below hb4)
      have HBV4 := Lib.hid (bel_up hb4 HBV3.out HBV3.out.size)
      clear hb4
      go_wp2
      go_roundw
      case rel => exact ⟨k + 1, by omega, by go_num, HBV4.out, HLV4.out⟩
      case measure => simp [intOf]; omega
    · go_upto_region 20 with fail
      refine wp_code (c' := rgOf Try.f3 20) (by kernel_rfl) ?_
      refine part20 w0 _ a len cap bb cb n pa ca xs pb cp ys ?hk (HBY.out _ HBR.out) hlen (HBL.out _ HBR.out) (KB.out _ HBR.out) (KC.out _ HBR.out) (IX.out _ HBR.out) (IY.out _ HBR.out) HCC.out
      case hk => assumption
end Go.Proofs.Ytldpikcgeijkpaa.Rhy
