/-
  Helpers of the claims beside this text: the law on canons: its third part.
-/
import Derived.Test.YtldpikcgeijkpaaCns
namespace Go.Proofs.Ytldpikcgeijkpaa.Rhy
open Go.RowKit Cur
set_option linter.unusedVariables false
set_option linter.unusedSimpArgs false
set_option maxRecDepth 100000

theorem v_rd2 (n : Nat) (c : Option Addr) (d m : Nat) (xs ys Z : List Int) (L : List ByteArray) (w : World) (hm : L.length = m) (hx : TxtsAt w c m L) (h : CC n xs n ys) (hL : fcaL n xs ys ys.length = L) (hZ : rdZ L = Z) :
    Calls Try.prog 25 #[.slice c m d] w (Kan n (voiZ n xs ys 0) Z w) := by
  subst hm
  exact v_rd n c d xs ys Z L w hx h hL hZ
set_option maxHeartbeats 4000000 in
set_option maxRecDepth 100000 in
theorem part20 (w0 W : World) (a : Option Addr) (len cap : Nat) (bb cb n : Nat) (pa : Option Addr) (ca : Nat) (xs : List Int) (pb : Option Addr) (cp : Nat) (ys : List Int) {K : Act → World → Prop} {u1 u2 u3 u7 u8 u9 u10 u11 u12 u13 u14 u15 u16 u17 u18 u19 u20 u21 u22 u23 u24 u25 u26 u27 u28 u29 u30 u31 u32 u33 u34 u35 u36 u37 u38 u39 u40 u41 u42 u43 u44 u45 u46 u47 u48 u49 u50 u51 u52 u53 u54 u55 u56 u57 u58 u59 u60 u61 u62 u63 u64 u65 u66 u67 u68 u69 u70 u71 u72 u73 u74 u75 u76 u77 u78 u79 u80 u81 u82 u83 u84 u85 u86 u87 u88 u89 u90 u91 u92 u93 u94 u95 u96 u97 u98 u99 u100 u101 u102 u103 u104 u105 u106 u107 u108 u109 u110 u111 u112 u113 u114 u115 u116 u117 u118 u119 u120 u121 u122 u123 u124 u125 u126 u127 u128 u129 u130 u131 u132 u133 u134 u135 u136 u137 u138 u139 u140 u141 u142 u143 u144 u145 u146 u147 u148 u149 u150 u151 u152 u153 u154 u155 u156 u157 u158 u159 u160 u161 u162 u163 u164 u165 u166 u167 u168 u169 u170 u171 u172 u173 u174 u175 u176 u177 u178 u179 u180 u181 u182 u183 u184 u185 u186 u187 u188 u189 u190 u191 u192 u193 u194 u195 u196 u197 u198 u199 u200 u201 u202 u203 u204 u205 u206 u207 u208 u209 u210 u211 u212 u213 u214 u215 u216 u217 u218 u219 u220 u221 u222 u223 u224 u225 u226 u227 u228 u229 u230 u231 u232 u233 u234 u235 u236 u237 u238 u239 u240 u241 u242 u243 u244 u245 u246 u247 u248 u249 u250 u251 u252 u253 u254 u255 u256 u257 u258 u259 : Value}
    (hK : ∀ a w, Code.wp Try.prog (tlOf Try.f3 20) (bodyPost Try.prog Try.f3 fun e w' => e = .returned (.bool true) ∧ Below w0.heap.size w0 w') a w → K a w)
    (hby : BytesAt W.heap.size W a len) (hlen : len ≤ 1048576) (hbl : Below w0.heap.size w0 W)
    (htb : Two W bb (.int .i64 (n : Nat)) (.slice pb ys.length cp)) (htc : Four W cb (.int .i64 (n : Nat)) (.slice pa xs.length ca) (.int .i64 (n : Nat)) (.slice pb ys.length cp)) (hix : IntsAt W pa xs.length xs) (hiy : IntsAt W pb ys.length ys) (hcc : CC n xs n ys) :
    Code.wp Try.prog (rgOf Try.f3 20) (Exit.then K (bodyPost Try.prog Try.f3 fun e w' => e = .returned (.bool true) ∧ Below w0.heap.size w0 w')) ({ tmps := #[.slice a len cap, u1, u2, u3, .pointer (some ⟨bb, 0, none⟩), .int .i64 (n : Nat), .pointer (some ⟨cb, 0, none⟩), u7, u8, u9, u10, u11, u12, u13, u14, u15, u16, u17, u18, u19, u20, u21, u22, u23, u24, u25, u26, u27, u28, u29, u30, u31, u32, u33, u34, u35, u36, u37, u38, u39, u40, u41, u42, u43, u44, u45, u46, u47, u48, u49, u50, u51, u52, u53, u54, u55, u56, u57, u58, u59, u60, u61, u62, u63, u64, u65, u66, u67, u68, u69, u70, u71, u72, u73, u74, u75, u76, u77, u78, u79, u80, u81, u82, u83, u84, u85, u86, u87, u88, u89, u90, u91, u92, u93, u94, u95, u96, u97, u98, u99, u100, u101, u102, u103, u104, u105, u106, u107, u108, u109, u110, u111, u112, u113, u114, u115, u116, u117, u118, u119, u120, u121, u122, u123, u124, u125, u126, u127, u128, u129, u130, u131, u132, u133, u134, u135, u136, u137, u138, u139, u140, u141, u142, u143, u144, u145, u146, u147, u148, u149, u150, u151, u152, u153, u154, u155, u156, u157, u158, u159, u160, u161, u162, u163, u164, u165, u166, u167, u168, u169, u170, u171, u172, u173, u174, u175, u176, u177, u178, u179, u180, u181, u182, u183, u184, u185, u186, u187, u188, u189, u190, u191, u192, u193, u194, u195, u196, u197, u198, u199, u200, u201, u202, u203, u204, u205, u206, u207, u208, u209, u210, u211, u212, u213, u214, u215, u216, u217, u218, u219, u220, u221, u222, u223, u224, u225, u226, u227, u228, u229, u230, u231, u232, u233, u234, u235, u236, u237, u238, u239, u240, u241, u242, u243, u244, u245, u246, u247, u248, u249, u250, u251, u252, u253, u254, u255, u256, u257, u258, u259], defers := [] } : Act) W := by
  have HBY := Lib.hid hby
  have HBL := Lib.hid hbl
  have HTB := Lib.hid htb
  have HTC := Lib.hid htc
  have HCC := Lib.hid hcc
  obtain ⟨L, hL⟩ : ∃ L, fcaL n xs ys ys.length = L := ⟨_, rfl⟩
  obtain ⟨Z, hZ⟩ : ∃ Z, rdZ L = Z := ⟨_, rfl⟩
  have HL := Lib.hid hL
  have HZ := Lib.hid hZ
  have hLl : L.length = ys.length := by rw [← hL, fcaL_len]
  have HLL := Lib.hid hLl
  have hy1 : 1 ≤ ys.length := hcc.2.2
  have hyl : ys.length ≤ 24 := (cc_len hcc).2
  have hLb : L.length ≤ 24 := by omega
  have hL1 : 1 ≤ L.length := by omega
  have HRC := Lib.hid (read_cc hcc hL hZ)
  have HFC := Lib.hid (v_fca n pa ca xs pb cp ys L W hix hiy hcc hL)
  clear hby hbl htb htc hcc hix hiy hL hZ hLl
  obtain ⟨c0, c1, c2, c3, c4⟩ := HTC.out
  conv => enter [2]; whnf
  go_wp2_with fail
  refine HFC.out.mono ?_
  rintro e w1 ⟨p1, d1, rfl, ht1, hb1⟩
  have HT1 := Lib.hid ht1
  have HB1 := Lib.hid hb1
  rw [HLL.out] at HT1 ⊢
  clear ht1 hb1 c0 c1 c2 c3 c4
  go_wp2_with fail
  conv => enter [2]; whnf
  go_wp2_with fail
  refine (v_rd2 n p1 d1 ys.length xs ys Z L _ HLL.out HT1.out HCC.out HL.out HZ.out).mono ?_
  rintro e w2 ⟨p2, d2, q2, e2, rfl, hx2, hy2, -, hb2⟩
  have HX2 := Lib.hid hx2
  have HY2 := Lib.hid hy2
  have HB2 := Lib.hid (bel_up hb2 HB1.out HB1.out.size)
  have HT2 := Lib.hid (HT1.out.below hb2)
  have HZL := Lib.hid HRC.out.2.1
  rw [HZL.out] at HY2 ⊢
  clear hx2 hy2 hb2
  go_upto_region 22 with fail
  obtain ⟨W3, hW3⟩ : ∃ W3, W3 = w2.alloc (.cells #[.int .i64 n, .slice p2 (voiZ n xs ys 0).length d2, .int .i64 n, .slice q2 ys.length e2] 29) := ⟨_, rfl⟩
  rw [← hW3]
  have HTZ := Lib.hid (show Four W3 w2.heap.size (.int .i64 (n : Nat)) (.slice p2 (voiZ n xs ys 0).length d2) (.int .i64 (n : Nat)) (.slice q2 ys.length e2) by rw [hW3]; exact four_new _ _ _ _ _ _)
  have HB3 := Lib.hid (show Below W.heap.size W W3 by rw [hW3]; exact HB2.out.trans ((bel1 _ _).mono HB2.out.size))
  have HT3 := Lib.hid (show TxtsAt W3 p1 ys.length L by rw [hW3]; exact HT2.out.below (bel1 _ _))
  have HX3 := Lib.hid (show IntsAt W3 p2 (voiZ n xs ys 0).length (voiZ n xs ys 0) by rw [hW3]; exact HX2.out.below (bel1 _ _))
  have HY3 := Lib.hid (show IntsAt W3 q2 ys.length Z by rw [hW3]; exact HY2.out.below (bel1 _ _))
  have HTB3 := Lib.hid (HTB.out.keep HB3.out)
  clear hW3
  obtain ⟨lb, lo, s0, rfl, hlb, hs0, hcs⟩ := HT3.out.at (k := 0) (by omega)
  rw [Nat.add_zero] at hcs
  have HS0 : Hid (fmtT n (voiZ n xs ys 0) = s0) := Lib.hid (by
    have := HRC.out.2.2.2
    rw [hs0] at this
    injection this with this
    exact this.symm)
  obtain ⟨VL, hVL⟩ : ∃ VL, voiZ n xs ys 0 = VL := ⟨_, rfl⟩
  rw [hVL] at HX3 HTZ HS0 HRC ⊢
  clear hs0 HX2 hVL
  generalize hym : ys.length = m at *
  have hm0 : 0 < m := by omega
  have hm1 : (0 : Int) < (m : Int) := by omega
  obtain ⟨b0, b1, b2⟩ := HTB3.out
  obtain ⟨z0, z1, z2, z3, z4⟩ := HTZ.out
  have HFM : Hid (∀ W : World, Below W3.heap.size W3 W → Calls Try.prog 26 #[rhy n p2 VL.length d2] W fun e w' => e = .returned (.string s0) ∧ Below W.heap.size W w') := Lib.hid (fun W h => by
    have ho : Ok (n : Int) VL := HRC.out.1.1.1
    have h1 := fmt_impl n p2 VL.length d2 VL W (HX3.out.below h) (by have := ok_len' ho; omega)
    rw [fmtB_yes ho, Int.toNat_natCast, HS0.out] at h1
    exact h1)
  have HK : Hid (∀ W : World, Below W3.heap.size W3 W → W.cell? ⟨bb, 1, none⟩ = some (.slice pb m cp) ∧ W.cell? ⟨w2.heap.size, 0, none⟩ = some (.int .i64 n) ∧ W.cell? ⟨w2.heap.size, 1, none⟩ = some (.slice p2 VL.length d2) ∧ W.cell? ⟨w2.heap.size, 3, none⟩ = some (.slice q2 m e2) ∧ W.cell? ⟨lb, lo, none⟩ = some (.string s0) ∧ Below W3.heap.size W3 W) := Lib.hid (fun W h => by
    have h1 := HTB3.out.keep h
    have h2 := HTZ.out.keep h
    exact ⟨h1.2.2, h2.2.1, h2.2.2.1, h2.2.2.2.2, by rw [h.cell (p := ⟨lb, lo, none⟩) hlb]; exact hcs, h⟩)
  go_cut [193] (fun v wx => v = .bool false ∧ Below W3.heap.size W3 wx)
  case first =>
    go_region_held3 (fun W => W.cell? ⟨bb, 1, none⟩ = some (.slice pb m cp) ∧ W.cell? ⟨w2.heap.size, 0, none⟩ = some (.int .i64 n) ∧ W.cell? ⟨w2.heap.size, 1, none⟩ = some (.slice p2 VL.length d2) ∧ W.cell? ⟨w2.heap.size, 3, none⟩ = some (.slice q2 m e2) ∧ W.cell? ⟨lb, lo, none⟩ = some (.string s0) ∧ Below W3.heap.size W3 W)
      (first | exact HK.out _ (Below.refl _ _).drew | exact HK.out _ hb4)
      ((first
        | (go_at_call 26; refine (HFM.out _ (Below.refl _ _).drew).mono ?_; rintro e w4 ⟨rfl, hc4⟩; have hb4 := (Below.refl W3.heap.size W3).drew.trans hc4; clear hc4)))
    all_goals
      go_wp2_with fail
      go_meet
      exact ⟨rfl, hb4⟩
  case rest =>
    obtain ⟨rfl, hb5⟩ := hcut
    clear b0 b1 b2 z0 z1 z2 z3 z4 hcs HK HFM
    have HB5 := Lib.hid (show Below w0.heap.size w0 wc from HBL.out.trans ((HB3.out.trans (hb5.mono HB3.out.size)).mono HBL.out.size))
    have HTZ5 := Lib.hid (HTZ.out.keep hb5)
    have HX5 := Lib.hid (HX3.out.below hb5)
    have HY5 := Lib.hid (HY3.out.below hb5)
    have HT5 := Lib.hid (HT3.out.below hb5)
    have HBY5 := Lib.hid (show BytesAt wc.heap.size wc a len from bytes_up HBY.out (HB3.out.trans (hb5.mono HB3.out.size)) (HB3.out.trans (hb5.mono HB3.out.size)).size)
    clear hb5 hlb HTB3 HTZ HX3 HY3 HT3 HT2 HT1 HB3 HB2 HB1
    obtain ⟨z0, z1, z2, z3, z4⟩ := HTZ5.out
    have HFZ := Lib.hid (v_fca n p2 d2 VL q2 e2 Z L wc HX5.out (by rw [HZL.out]; exact HY5.out) HRC.out.1 HRC.out.2.2.1)
    rw [HZL.out] at HFZ
    go_wp2_with fail
    refine HFZ.out.mono ?_
    rintro e w6 ⟨p6, d6, rfl, ht6, hb6⟩
    rw [HLL.out] at ht6 ⊢
    have HT6 := Lib.hid ht6
    have HT56 := Lib.hid (HT5.out.below hb6)
    have HB6 := Lib.hid (bel_up hb6 HB5.out HB5.out.size)
    have HBY6 := Lib.hid (bytes_up HBY5.out hb6 hb6.size)
    clear ht6 hb6 z0 z1 z2 z3 z4
    go_wp2
    go_loopw [198] (fun i wr => ∃ (k : Nat), k ≤ m ∧ i = .int .i64 (k : Nat) ∧ wr = w6) (fun i _ => m - (intOf i).toNat)
    case atStart => exact ⟨0, by omega, rfl, rfl⟩
    case round =>
      obtain ⟨k, hk, rfl, rfl⟩ := hrel
      by_cases hlt : k < m
      · obtain ⟨gb, go, s1, he1, hgb, hs1, hc1⟩ := HT56.out.at hlt
        obtain ⟨rfl, rfl⟩ : lb = gb ∧ lo = go := by simpa using he1
        obtain ⟨hb', ho', s2, rfl, hhb, hs2, hc2⟩ := HT6.out.at hlt
        obtain rfl : s1 = s2 := by rw [hs1] at hs2; injection hs2
        clear hs1 hs2 he1
        go_wp2
        go_roundw
        case rel => exact ⟨k + 1, by omega, by go_num, .intro⟩
        case measure => simp [intOf]; omega
      · go_upto_region 31 with fail
        refine wp_code (c' := rgOf Try.f3 31) (by kernel_rfl) ?_
        refine part31 w0 _ a len cap ?hk HBY6.out hlen HB6.out
        case hk => assumption
end Go.Proofs.Ytldpikcgeijkpaa.Rhy
