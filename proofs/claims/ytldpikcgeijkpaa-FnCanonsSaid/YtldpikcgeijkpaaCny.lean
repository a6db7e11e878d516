/-
  Helpers of the claims beside this text: the law on canons: its walk.
-/
import Derived.Test.YtldpikcgeijkpaaCnv
import Derived.Test.YtldpikcgeijkpaaCnx
namespace Go.Proofs.Ytldpikcgeijkpaa.Rhy
open Go.RowKit Cur
set_option linter.unusedVariables false
set_option linter.unusedSimpArgs false
set_option maxRecDepth 100000

set_option maxHeartbeats 4000000 in
theorem canons_walk (a : Option Addr) (len cap : Nat) (w : World) (hb : len ≤ 1048576 → BytesAt w.heap.size w a len) :
    Calls Try.prog 3 #[.slice a len cap] w fun e w' => e = .returned (.bool true) ∧ Below w.heap.size w w' := by
  by_cases hlen : len ≤ 1048576
  · have HBY := Lib.hid (hb hlen)
    clear hb
    go_enter Try.func3, Try.ntmps3
    go_wp2_with fail
    refine (mtile_any a len cap 0 w HBY.out (by omega)).mono ?_
    rintro e w1 ⟨n, pa, ca, xs, pb, cb, ys, rfl, hn1, hn2, hx, hy, hxl, hyl, ht, ha, hbb, hb1⟩
    have HX := Lib.hid hx
    have HY := Lib.hid hy
    have HT := Lib.hid ht
    have HA := Lib.hid ha
    have HB := Lib.hid hbb
    have B1 := Lib.hid hb1
    have HCC := Lib.hid (cc_of hx hy hxl hyl)
    clear hx hy ht ha hbb hb1
    obtain ⟨W2, hW2⟩ : ∃ W2, W2 = ((w1.alloc (.cells #[.int .i64 n, .slice pa xs.length ca] 25)).alloc (.cells #[.int .i64 n, .slice pb ys.length cb] 25)).alloc (.cells #[.int .i64 n, .slice pa xs.length ca, .int .i64 n, .slice pb ys.length cb] 29) := ⟨_, rfl⟩
    have HW2 := Lib.hid hW2
    have D2 := Lib.hid (show Below w1.heap.size w1 W2 by rw [hW2]; exact ((bel2 w1 _ _).trans ((bel1 _ _).mono (by simp; omega))))
    have B2 := Lib.hid (B1.out.trans (D2.out.mono B1.out.size))
    have TA := Lib.hid (show Two W2 w1.heap.size (.int .i64 n) (.slice pa xs.length ca) by rw [hW2]; exact ((two_new w1 _ _ _).keep (bel1 _ _)).keep (bel1 _ _))
    have TB := Lib.hid (show Two W2 (w1.heap.size + 1) (.int .i64 n) (.slice pb ys.length cb) by
      rw [hW2]
      have := (two_new (w1.alloc (.cells #[.int .i64 n, .slice pa xs.length ca] 25)) (.int .i64 n) (.slice pb ys.length cb) 25).keep (bel1 _ (.cells #[.int .i64 n, .slice pa xs.length ca, .int .i64 n, .slice pb ys.length cb] 29))
      simpa using this)
    have TF := Lib.hid (show Four W2 (w1.heap.size + 2) (.int .i64 n) (.slice pa xs.length ca) (.int .i64 n) (.slice pb ys.length cb) by
      rw [hW2]
      have := four_new ((w1.alloc (.cells #[.int .i64 n, .slice pa xs.length ca] 25)).alloc (.cells #[.int .i64 n, .slice pb ys.length cb] 25)) (.int .i64 n) (.slice pa xs.length ca) (.int .i64 n) (.slice pb ys.length cb) 29
      simpa using this)
    have hz2 : W2.heap.size = w1.heap.size + 3 := by rw [hW2]; simp
    clear hW2
    go_wp2_with fail
    rw [← HW2.out]
    have IA := Lib.hid (fun (W : World) (h : Below W2.heap.size W2 W) => (HA.out.below D2.out).below h)
    have IB := Lib.hid (fun (W : World) (h : Below W2.heap.size W2 W) => (HB.out.below D2.out).below h)
    have KC := Lib.hid (fun (W : World) (h : Below W2.heap.size W2 W) => TF.out.keep h)
    have KA := Lib.hid (fun (W : World) (h : Below W2.heap.size W2 W) => TA.out.keep h)
    have KB := Lib.hid (fun (W : World) (h : Below W2.heap.size W2 W) => TB.out.keep h)
    have KY := Lib.hid (fun (W : World) (h : Below W2.heap.size W2 W) => bytes_up HBY.out (B2.out.trans (h.mono B2.out.size)) (Nat.le_trans B2.out.size h.size))
    refine (v_exc n pa ca xs pb cb ys W2 (IA.out _ (Below.refl _ _)) (IB.out _ (Below.refl _ _)) HCC.out).mono ?_
    rintro e w3 ⟨p3, c3, q3, d3, rfl, h31, h32, -, h33⟩
    have X3 := Lib.hid h31
    have Y3 := Lib.hid h32
    have E3 := Lib.hid h33
    clear h31 h32 h33
    obtain ⟨W4, hW4⟩ : ∃ W4, W4 = w3.alloc (.cells #[.int .i64 n, .slice p3 ys.length c3, .int .i64 n, .slice q3 xs.length d3] 29) := ⟨_, rfl⟩
    have HW4 := Lib.hid hW4
    have E4 := Lib.hid (show Below W2.heap.size W2 W4 by rw [hW4]; exact E3.out.trans ((bel1 _ _).mono E3.out.size))
    have TX := Lib.hid (show Four W4 w3.heap.size (.int .i64 n) (.slice p3 ys.length c3) (.int .i64 n) (.slice q3 xs.length d3) by rw [hW4]; exact four_new _ _ _ _ _ _)
    have JX := Lib.hid (show IntsAt W4 p3 ys.length ys by rw [hW4]; exact X3.out.below (bel1 _ _))
    have JY := Lib.hid (show IntsAt W4 q3 xs.length xs by rw [hW4]; exact Y3.out.below (bel1 _ _))
    clear hW4
    obtain ⟨c40, c41, c42, c43, c44⟩ := KC.out _ E4.out
    go_upto_region 7 with fail
    rw [← HW4.out]
    have HBW4 := Lib.hid (show Below w.heap.size w W4 from B2.out.trans (E4.out.mono B2.out.size))
    have HAX := Lib.hid (IA.out _ E4.out)
    have HBX := Lib.hid (IB.out _ E4.out)
    have HF4 := Lib.hid (KC.out _ E4.out)
    have HB4 := Lib.hid (KB.out _ E4.out)
    have HY4 := Lib.hid (KY.out _ E4.out)
    clear c40 c41 c42 c43 c44
    refine wp_code (c' := rgOf Try.f3 7) (by kernel_rfl) ?_
    refine wp_sure ?_
    refine reg7 _ a len cap (w1.heap.size + 2) n pa ca xs pb cb ys ?_ HY4.out HF4.out HAX.out HBX.out HCC.out HT.out
    intro x45 x46 x47 x48 x49 x50 x51 x52 x53 x54 x55 x56 yb p5 c5 q5 d5 XT YT w5 hy4 hy5 hy6 hy7 hy8 hy9
    have HA5 := Lib.hid (HAX.out.below hy9)
    have HB5 := Lib.hid (HBX.out.below hy9)
    have HF5 := Lib.hid (HF4.out.keep hy9)
    have HBB5 := Lib.hid (HB4.out.keep hy9)
    have HTX5 := Lib.hid (TX.out.keep hy9)
    have HJX5 := Lib.hid (JX.out.below hy9)
    have HJY5 := Lib.hid (JY.out.below hy9)
    have HY5 := Lib.hid (bytes_up HY4.out hy9 hy9.size)
    have HBW5 := Lib.hid (show Below w.heap.size w w5 from HBW4.out.trans (hy9.mono HBW4.out.size))
    have TY := Lib.hid hy4
    have KX := Lib.hid hy5
    have KZ := Lib.hid hy6
    have HTT := Lib.hid hy7
    have HCT := Lib.hid hy8
    clear hy4 hy5 hy6 hy7 hy8 hy9
    go_upto_region 8 with fail
    refine wp_code (c' := rgOf Try.f3 8) (by kernel_rfl) ?_
    refine part8 w _ a len cap (w1.heap.size + 1) (w1.heap.size + 2) w3.heap.size yb n pa ca xs pb cb ys p3 c3 q3 d3 p5 c5 XT q5 d5 YT ?hk HY5.out hlen HBW5.out HBB5.out HF5.out HA5.out HB5.out HCC.out HT.out HTX5.out HJX5.out HJY5.out TY.out KX.out KZ.out HCT.out HTT.out
    case hk => assumption
  · clear hb
    go_enter Try.func3, Try.ntmps3
    go_wp2
    go_ret
    exact ⟨rfl, Below.refl _ _⟩
end Go.Proofs.Ytldpikcgeijkpaa.Rhy
