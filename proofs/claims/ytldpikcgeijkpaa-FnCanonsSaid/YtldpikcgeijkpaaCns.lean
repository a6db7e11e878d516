/-
  Helpers of the claims beside this text: the law on canons: the pieces of its code.
-/
import Derived.Test.YtldpikcgeijkpaaCnq
import Derived.Test.YtldpikcgeijkpaaTil
import Derived.Test.YtldpikcgeijkpaaLwy
namespace Go.Proofs.Ytldpikcgeijkpaa.Rhy
open Go.RowKit Cur
set_option linter.unusedVariables false
set_option linter.unusedSimpArgs false
set_option maxRecDepth 100000

/-- The code behind a region of a function's own row of statements. -/
def tlAt (n : Nat) : Code → Option Code
  | .seq (.region m ops d) b => if m = n then some b else tlAt n b
  | .seq _ b => tlAt n b
  | _ => none
def tlOf (f : Func) (n : Nat) : Code := ((f.body.bind (tlAt n)).getD .skip)
theorem bel_up {B : Nat} {W w w' : World} (hc : Below w.heap.size w w') (h : Below B W w) (hB : B ≤ w.heap.size) : Below B W w' := h.trans (hc.mono hB)
theorem count_takeN {l : List Int} {k : Nat} {x : Int} (h : l[k]? = some x) (y : Int) : (l.take (k + 1)).count y = (l.take k).count y + (if x = y then 1 else 0) := by
  rw [List.take_add_one, h, List.count_append]
  by_cases e : x = y
  · rw [if_pos e, e]; simp
  · rw [if_neg e]; simp [e]
theorem mof6_any (a : Option Addr) (len cap m : Nat) (w : World) (hb : BytesAt w.heap.size w a len) (hm : m ≤ 1000) :
    Calls Try.prog 27 #[.slice a len cap, .int .i64 m, .int .i64 6] w (fun e w' => ∃ (b : Option Addr) (c : Nat) (zs : List Int), e = .returned (rhy 6 b zs.length c) ∧ zs.length ≤ 24 ∧ Ok 6 zs ∧ IntsAt w' b zs.length zs ∧ Below w.heap.size w w') := by
  refine (mof_any a len cap m 6 w hb (by omega) (by omega) (by omega)).mono ?_
  rintro e w' ⟨b, c, zs, rfl, h1, h2, h3⟩
  exact ⟨b, c, zs, rfl, ok_len' h1, h1, intsAt_own h2 (ok_intC h1), h3⟩
/-- What the last line asks of a canon. -/
theorem last_yes {n : Nat} {xs ys : List Int} (h : CC n xs n ys) : tgtB n xs n ys = (((linL n xs ys n).count (-2) == 0) && !hasB (linL n xs ys n) (-1)) := by
  have h1 := line_tight (ys := ys) h.1.1
  unfold tgtB tilB
  rw [cB_yes h, Bool.true_and]
  by_cases ht : tilC n xs ys
  · rw [cB_yes ⟨h.1, ht⟩]
    obtain ⟨h2, h3⟩ := h1.1 ht
    rw [h2, hasB_def]
    simp [h3]
  · rw [cB_no (fun q => ht q.2)]
    have h4 : ¬ ((linL n xs ys n).count (-2) = 0 ∧ (-1 : Int) ∉ linL n xs ys n) := fun q => ht (h1.2 q)
    rw [hasB_def]
    by_cases h5 : (linL n xs ys n).count (-2) = 0
    · have h6 : (-1 : Int) ∈ linL n xs ys n := by
        rcases Classical.em ((-1 : Int) ∈ linL n xs ys n) with q | q
        · exact q
        · exact absurd ⟨h5, q⟩ h4
      simp [h6]
    · simp [h5]
end Go.Proofs.Ytldpikcgeijkpaa.Rhy

/-
  Helpers of the claims beside this text: the law on canons: its last part.
-/
namespace Go.Proofs.Ytldpikcgeijkpaa.Rhy
open Go.RowKit Cur
set_option linter.unusedVariables false
set_option linter.unusedSimpArgs false
set_option maxRecDepth 100000

set_option maxHeartbeats 4000000 in
set_option maxRecDepth 100000 in
theorem part31 (w0 W : World) (a : Option Addr) (len cap : Nat) {K : Act → World → Prop} {u1 u2 u3 u4 u5 u6 u7 u8 u9 u10 u11 u12 u13 u14 u15 u16 u17 u18 u19 u20 u21 u22 u23 u24 u25 u26 u27 u28 u29 u30 u31 u32 u33 u34 u35 u36 u37 u38 u39 u40 u41 u42 u43 u44 u45 u46 u47 u48 u49 u50 u51 u52 u53 u54 u55 u56 u57 u58 u59 u60 u61 u62 u63 u64 u65 u66 u67 u68 u69 u70 u71 u72 u73 u74 u75 u76 u77 u78 u79 u80 u81 u82 u83 u84 u85 u86 u87 u88 u89 u90 u91 u92 u93 u94 u95 u96 u97 u98 u99 u100 u101 u102 u103 u104 u105 u106 u107 u108 u109 u110 u111 u112 u113 u114 u115 u116 u117 u118 u119 u120 u121 u122 u123 u124 u125 u126 u127 u128 u129 u130 u131 u132 u133 u134 u135 u136 u137 u138 u139 u140 u141 u142 u143 u144 u145 u146 u147 u148 u149 u150 u151 u152 u153 u154 u155 u156 u157 u158 u159 u160 u161 u162 u163 u164 u165 u166 u167 u168 u169 u170 u171 u172 u173 u174 u175 u176 u177 u178 u179 u180 u181 u182 u183 u184 u185 u186 u187 u188 u189 u190 u191 u192 u193 u194 u195 u196 u197 u198 u199 u200 u201 u202 u203 u204 u205 u206 u207 u208 u209 u210 u211 u212 u213 u214 u215 u216 u217 u218 u219 u220 u221 u222 u223 u224 u225 u226 u227 u228 u229 u230 u231 u232 u233 u234 u235 u236 u237 u238 u239 u240 u241 u242 u243 u244 u245 u246 u247 u248 u249 u250 u251 u252 u253 u254 u255 u256 u257 u258 u259 : Value}
    (hK : ∀ a w, Code.wp Try.prog (tlOf Try.f3 31) (bodyPost Try.prog Try.f3 fun e w' => e = .returned (.bool true) ∧ Below w0.heap.size w0 w') a w → K a w)
    (hby : BytesAt W.heap.size W a len) (hlen : len ≤ 1048576) (hbl : Below w0.heap.size w0 W) :
    Code.wp Try.prog (rgOf Try.f3 31) (Exit.then K (bodyPost Try.prog Try.f3 fun e w' => e = .returned (.bool true) ∧ Below w0.heap.size w0 w')) ({ tmps := #[.slice a len cap, u1, u2, u3, u4, u5, u6, u7, u8, u9, u10, u11, u12, u13, u14, u15, u16, u17, u18, u19, u20, u21, u22, u23, u24, u25, u26, u27, u28, u29, u30, u31, u32, u33, u34, u35, u36, u37, u38, u39, u40, u41, u42, u43, u44, u45, u46, u47, u48, u49, u50, u51, u52, u53, u54, u55, u56, u57, u58, u59, u60, u61, u62, u63, u64, u65, u66, u67, u68, u69, u70, u71, u72, u73, u74, u75, u76, u77, u78, u79, u80, u81, u82, u83, u84, u85, u86, u87, u88, u89, u90, u91, u92, u93, u94, u95, u96, u97, u98, u99, u100, u101, u102, u103, u104, u105, u106, u107, u108, u109, u110, u111, u112, u113, u114, u115, u116, u117, u118, u119, u120, u121, u122, u123, u124, u125, u126, u127, u128, u129, u130, u131, u132, u133, u134, u135, u136, u137, u138, u139, u140, u141, u142, u143, u144, u145, u146, u147, u148, u149, u150, u151, u152, u153, u154, u155, u156, u157, u158, u159, u160, u161, u162, u163, u164, u165, u166, u167, u168, u169, u170, u171, u172, u173, u174, u175, u176, u177, u178, u179, u180, u181, u182, u183, u184, u185, u186, u187, u188, u189, u190, u191, u192, u193, u194, u195, u196, u197, u198, u199, u200, u201, u202, u203, u204, u205, u206, u207, u208, u209, u210, u211, u212, u213, u214, u215, u216, u217, u218, u219, u220, u221, u222, u223, u224, u225, u226, u227, u228, u229, u230, u231, u232, u233, u234, u235, u236, u237, u238, u239, u240, u241, u242, u243, u244, u245, u246, u247, u248, u249, u250, u251, u252, u253, u254, u255, u256, u257, u258, u259], defers := [] } : Act) W := by
  have HBY := Lib.hid hby
  have HBL := Lib.hid hbl
  clear hby hbl
  conv => enter [2]; whnf
  go_wp2_with fail
  refine (mof6_any a len cap 60 _ HBY.out (by omega)).mono ?_
  rintro e w1 ⟨b1, c1, xs, rfl, hl1, ho1, hi1, hb1⟩
  have HO1 := Lib.hid ho1
  have HI1 := Lib.hid hi1
  have HB1 := Lib.hid hb1
  have HBY1 := Lib.hid (bytes_up HBY.out hb1 hb1.size)
  clear ho1 hi1 hb1
  go_wp2_with fail
  refine (mof6_any a len cap 70 _ HBY1.out (by omega)).mono ?_
  rintro e w2 ⟨b2, c2, ys, rfl, hl2, ho2, hi2, hb2⟩
  have HO2 := Lib.hid ho2
  have HI2 := Lib.hid hi2
  have HB2 := Lib.hid (bel_up hb2 HB1.out HB1.out.size)
  have HI12 := Lib.hid (HI1.out.below hb2)
  clear ho2 hi2 hb2
  go_wp2_with fail
  conv => enter [2]; whnf
  obtain ⟨W3, hW3⟩ : ∃ W3, W3 = w2.alloc (.cells #[.int .i64 6, .slice b1 xs.length c1, .int .i64 6, .slice b2 ys.length c2] 29) := ⟨_, rfl⟩
  rw [← hW3]
  have HT := Lib.hid (show Four W3 w2.heap.size (.int .i64 6) (.slice b1 xs.length c1) (.int .i64 6) (.slice b2 ys.length c2) by rw [hW3]; exact four_new _ _ _ _ _ _)
  have HB3 := Lib.hid (show Below W.heap.size W W3 by rw [hW3]; exact HB2.out.trans ((bel1 _ _).mono HB2.out.size))
  have HX := Lib.hid (show IntsAt W3 b1 xs.length xs by rw [hW3]; exact HI12.out.below (bel1 _ _))
  have HY := Lib.hid (show IntsAt W3 b2 ys.length ys by rw [hW3]; exact HI2.out.below (bel1 _ _))
  clear hW3
  have HBW := Lib.hid (show Below w0.heap.size w0 W3 from HBL.out.trans (HB3.out.mono HBL.out.size))
  clear HO1 HI1 HB1 HBY1 HI2 HB2 HI12 HBY HBL HB3
  have hx20 : xs.length ≤ 1048576 := by omega
  have hy20 : ys.length ≤ 1048576 := by omega
  obtain ⟨t0, t1, t2, t3, t4⟩ := HT.out
  obtain ⟨M, hM⟩ : ∃ M, linZ 6 xs 6 ys = M := ⟨_, rfl⟩
  have HM := Lib.hid hM
  have HMI := Lib.hid (show AllInt M by rw [← hM]; exact linZ_int _ _ _ _)
  have hml : M.length ≤ 24 := by rw [← hM]; exact linZ_len _ _ _ _
  clear hM
  go_wp2_with fail
  refine (lin_impl 6 b1 xs.length c1 xs 6 b2 ys.length c2 ys W3 HX.out hx20 HY.out hy20).mono ?_
  rw [HM.out]
  rintro e w4 ⟨b4, c4, rfl, hown4, hb4⟩
  have HI4 := Lib.hid (intsAt_own hown4 HMI.out)
  have HT4 := Lib.hid (HT.out.keep hb4)
  have HB4 := Lib.hid (bel_up hb4 HBW.out HBW.out.size)
  have HX4 := Lib.hid (HX.out.below hb4)
  have HY4 := Lib.hid (HY.out.below hb4)
  clear hown4 hb4 t0 t1 t2 t3 t4
  go_wp2
  go_loopw [24, 225] (fun v i wr => ∃ (k c : Nat), k ≤ M.length ∧ c ≤ k ∧ v = .int .i64 (c : Nat) ∧ i = .int .i64 (k : Nat) ∧ Hid ((M.take k).count (-2) = c) ∧ wr = w4) (fun _ i _ => M.length - (intOf i).toNat)
  case atStart => exact ⟨0, 0, by omega, by omega, rfl, rfl, Lib.hid rfl, rfl⟩
  case round =>
    obtain ⟨k, c, hk, hc, rfl, rfl, HC, rfl⟩ := hrel
    by_cases hlt : k < M.length
    · obtain ⟨gb, off, z, rfl, hb, hs, hcc, hz1, hz2⟩ := HI4.out.at hlt
      have HN := Lib.hid (count_takeN hs (-2))
      by_cases hz : z = -2
      · have hq : (z == -2) = true := by simpa using hz
        have HD : Hid ((M.take (k + 1)).count (-2) = c + 1) := Lib.hid (by rw [HN.out, HC.out, if_pos hz])
        clear hs hz
        go_wp2
        go_roundw
        case rel => exact ⟨k + 1, c + 1, by omega, by omega, by go_num, by go_num, HD, .intro⟩
        case measure => simp [intOf]; omega
      · have hq : (z == -2) = false := by simpa using hz
        have HD : Hid ((M.take (k + 1)).count (-2) = c) := Lib.hid (by rw [HN.out, HC.out, if_neg hz]; rfl)
        clear hs hz
        go_wp2
        go_roundw
        case rel => exact ⟨k + 1, c, by omega, by omega, rfl, by go_num, HD, .intro⟩
        case measure => simp [intOf]; omega
    · have HCC : Hid (M.count (-2) = c) := Lib.hid (by rw [← HC.out, List.take_of_length_le (by omega)])
      obtain ⟨t0, t1, t2, t3, t4⟩ := HT4.out
      have KT := Lib.hid (fun (W : World) (h : Below wr.heap.size wr W) => HT4.out.keep h)
      have KX := Lib.hid (fun (W : World) (h : Below wr.heap.size wr W) => HX4.out.below h)
      have KY := Lib.hid (fun (W : World) (h : Below wr.heap.size wr W) => HY4.out.below h)
      have KM := Lib.hid (fun (W : World) (h : Below wr.heap.size wr W) => HI4.out.below h)
      have HOK := Lib.hid (cok_impl 6 b1 xs.length c1 xs 6 b2 ys.length c2 ys wr HX4.out hx20 HY4.out hy20)
      have hml' : M.length ≤ 1048576 := by omega
      by_cases hcc : CC 6 xs 6 ys
      · have HLL : Hid (linL 6 xs ys 6 = M) := Lib.hid (by rw [← HM.out]; unfold linZ; rw [cZ_yes hcc]; rfl)
        have HCL : Hid (claN 6 xs 6 ys = (c : Int)) := Lib.hid (by rw [claN_yes hcc]; show ((List.count (-2) (linL 6 xs ys 6) : Nat) : Int) = _; rw [HLL.out, HCC.out])
        have HTG : Hid (tgtB 6 xs 6 ys = ((c == 0) && !hasB M (-1))) := Lib.hid (by
          have := last_yes (n := 6) (show CC ((6 : Nat) : Int) xs ((6 : Nat) : Int) ys from hcc)
          change tgtB 6 xs 6 ys = ((List.count (-2) (linL 6 xs ys 6) == 0) && !hasB (linL 6 xs ys 6) (-1)) at this
          rw [this, HLL.out, HCC.out])
        rw [cB_yes hcc] at HOK
        have HLA := Lib.hid (fun (W : World) (h : Below wr.heap.size wr W) => cla_impl 6 b1 xs.length c1 xs 6 b2 ys.length c2 ys W (KX.out _ h) hx20 (KY.out _ h) hy20)
        rw [HCL.out] at HLA
        have HTI := Lib.hid (fun (W : World) (h : Below wr.heap.size wr W) => tgt_impl 6 b1 xs.length c1 xs 6 b2 ys.length c2 ys W (KX.out _ h) hx20 (KY.out _ h) hy20)
        rw [HTG.out] at HTI
        clear hcc
        by_cases h0 : c = 0
        · subst h0
          rw [show ((0 : Nat) == 0) = true from rfl, Bool.true_and] at HTI
          cases hh : hasB M (-1) with
          | true =>
            rw [hh, Bool.not_true] at HTI
            have HH := Lib.hid hh
            clear hh
            go_wp2_with (first
              | (go_at_call 17; refine HOK.out.mono ?_; rintro e y1 ⟨rfl, hh1⟩; have h1 := Lib.hid hh1; obtain ⟨t0, t1, t2, t3, t4⟩ := KT.out _ hh1; clear hh1)
              | (go_at_call 19; refine (HLA.out _ h1.out).mono ?_; rintro e y2 ⟨rfl, hh2⟩; have h2 := Lib.hid (bel_up hh2 h1.out h1.out.size); clear hh2; obtain ⟨t0, t1, t2, t3, t4⟩ := KT.out _ h2.out)
              | (go_at_call 18; refine (HTI.out _ h2.out).mono ?_; rintro e y3 ⟨rfl, hh3⟩; have h3 := Lib.hid (bel_up hh3 h2.out h2.out.size); clear hh3; obtain ⟨t0, t1, t2, t3, t4⟩ := KT.out _ h3.out)
              | (go_at_call 28; refine (v_lhas b4 M.length c4 M (-1) _ _ (KM.out _ h3.out) hml' HH.out).mono ?_; rintro e y4 ⟨rfl, hh4⟩; have h4 := Lib.hid (bel_up hh4 h3.out h3.out.size); clear hh4))
            go_ret
            exact ⟨rfl, bel_up h4.out HB4.out HB4.out.size⟩
          | false =>
            rw [hh, Bool.not_false] at HTI
            have HH := Lib.hid hh
            clear hh
            go_wp2_with (first
              | (go_at_call 17; refine HOK.out.mono ?_; rintro e y1 ⟨rfl, hh1⟩; have h1 := Lib.hid hh1; obtain ⟨t0, t1, t2, t3, t4⟩ := KT.out _ hh1; clear hh1)
              | (go_at_call 19; refine (HLA.out _ h1.out).mono ?_; rintro e y2 ⟨rfl, hh2⟩; have h2 := Lib.hid (bel_up hh2 h1.out h1.out.size); clear hh2; obtain ⟨t0, t1, t2, t3, t4⟩ := KT.out _ h2.out)
              | (go_at_call 18; refine (HTI.out _ h2.out).mono ?_; rintro e y3 ⟨rfl, hh3⟩; have h3 := Lib.hid (bel_up hh3 h2.out h2.out.size); clear hh3; obtain ⟨t0, t1, t2, t3, t4⟩ := KT.out _ h3.out)
              | (go_at_call 28; refine (v_lhas b4 M.length c4 M (-1) _ _ (KM.out _ h3.out) hml' HH.out).mono ?_; rintro e y4 ⟨rfl, hh4⟩; have h4 := Lib.hid (bel_up hh4 h3.out h3.out.size); clear hh4))
            go_ret
            exact ⟨rfl, bel_up h4.out HB4.out HB4.out.size⟩
        · have hc0 : ((c : Int) == 0) = false := by simp; omega
          rw [show (c == 0) = false by simpa using h0, Bool.false_and] at HTI
          clear h0
          go_wp2_with (first
            | (go_at_call 17; refine HOK.out.mono ?_; rintro e y1 ⟨rfl, hh1⟩; have h1 := Lib.hid hh1; obtain ⟨t0, t1, t2, t3, t4⟩ := KT.out _ hh1; clear hh1)
            | (go_at_call 19; refine (HLA.out _ h1.out).mono ?_; rintro e y2 ⟨rfl, hh2⟩; have h2 := Lib.hid (bel_up hh2 h1.out h1.out.size); clear hh2; obtain ⟨t0, t1, t2, t3, t4⟩ := KT.out _ h2.out)
            | (go_at_call 18; refine (HTI.out _ h2.out).mono ?_; rintro e y3 ⟨rfl, hh3⟩; have h3 := Lib.hid (bel_up hh3 h2.out h2.out.size); clear hh3; obtain ⟨t0, t1, t2, t3, t4⟩ := KT.out _ h3.out))
          go_ret
          exact ⟨rfl, bel_up h3.out HB4.out HB4.out.size⟩
      · have HM0 : Hid (M = []) := Lib.hid (by rw [← HM.out]; unfold linZ; rw [cZ_no hcc])
        have hm0 : ((M.length : Int) == 0) = true := by rw [HM0.out]; rfl
        rw [cB_no hcc] at HOK
        clear hcc
        go_wp2_with (go_at_call 17; refine HOK.out.mono ?_; rintro e y1 ⟨rfl, hh1⟩; have h1 := Lib.hid hh1; clear hh1)
        go_ret
        exact ⟨rfl, bel_up h1.out HB4.out HB4.out.size⟩
end Go.Proofs.Ytldpikcgeijkpaa.Rhy
