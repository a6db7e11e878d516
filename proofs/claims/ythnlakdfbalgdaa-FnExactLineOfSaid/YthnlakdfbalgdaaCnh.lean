/-
  Helpers of the claims beside this text: canons: what the voices make on a pulse (an interface): the program's soundAt and VoicesAt.
-/
import Derived.Test.YthnlakdfbalgdaaCng
import Derived.Handy
namespace Go.Proofs.Ythnlakdfbalgdaa.Rhy
open Go.RowKit
set_option linter.unusedVariables false
set_option linter.unusedSimpArgs false

/-- 'append(c, x)' at a clash of the call's own. -/
theorem append_cla {ops : Array Oper} {rest : List Oper} {o : Oper} {a : Act} {Q : Exit → Act → World → Prop} (hgd : o.guard = none) (x y : Operand)
    (ho : o.op = .call { callee := .builtin .append, args := #[x, y], argTypes := #[79, 79] })
    (B : Nat) (v : Value) (l : List Int) (t : Int) (w0 : World) (hown : w0.ownsRow B 3 1 v l.length (ints l)) (hl : l.length ≤ 1048577) (hB : B ≤ w0.heap.size) (N : Nat) (hN : N = w0.heap.size)
    (hs : a.eval x = v) (hx : a.eval y = .slice (some ⟨N, 0, none⟩) 1 1)
    (h : ∀ a' c' w', w'.ownsRow B 3 1 (.slice a' (l ++ [t]).length c') (l ++ [t]).length (ints (l ++ [t])) → Below B w0 w' → wpList Try.prog ops Q rest (a.put o.dst (.slice a' (l ++ [t]).length c')) w') :
    wpList Try.prog ops Q (o :: rest) a (w0.alloc (.cells #[.int .i64 t] 3)) := by
  obtain ⟨i0, hi, hz0, hz1, hz2⟩ := info_parts infoInt
  subst hN
  refine wpList_append_own _ hgd x y 79 ho B 3 i0 (.int .i64 0) 1 8 Try.underlying79 hi hz0 hz1 hz2 rfl (by decide) v l.length (ints l) hs (hown.alloc _) ⟨w0.heap.size, 0, none⟩ 1 1 [.int .i64 t] hx rfl (cell_one_new _ _ _) ?_ ?_ ?_ ?_ ?_
  · intro u hu
    simp at hu
    subst hu
    rfl
  · unfold maxLen; omega
  · omega
  · exact Nat.le_trans hB (by show w0.heap.size ≤ (w0.heap.push _).size; simp)
  · intro v' w' ho' hg _
    have ho2 : w'.ownsRow B 3 1 v' (l ++ [t]).length (ints (l ++ [t])) := by simpa [ints] using ho'
    obtain ⟨_, a', c', rfl, _⟩ := own_shape ho2
    refine h a' c' w' ho2 ?_
    refine (((Below.refl B w0).alloc hB _).grown hg (Nat.le_trans hB (by show w0.heap.size ≤ (w0.heap.push _).size; simp)) fun k hk => (hown.lt k hk).1)

theorem silence_with (y : Int) (w : World) : Calls Try.prog 165 #[.agg #[], .int .i64 y] w fun e w' => e = .returned (.iface 106 (.int .i64 y)) ∧ Below w.heap.size w w' := by
  go_enter Try.func165, Try.ntmps165
  go_wp2
  go_ret
  exact ⟨rfl, (Below.refl _ _).alloc (Nat.le_refl _) _⟩
theorem voice_with (x y : Int) (w : World) : Calls Try.prog 163 #[.int .i64 x, .int .i64 y] w fun e w' => ∃ a cap, e = .returned (.iface 79 (.slice a 2 cap)) ∧ w'.ownsRow w.heap.size 3 1 (.slice a 2 cap) 2 (ints [x, y]) ∧ Below w.heap.size w w' := by
  go_enter Try.func163, Try.ntmps163
  go_wp2
  go_ret
  exact ⟨_, _, rfl, ⟨rfl, .inr ⟨w.heap.size, 2, #[.int .i64 x, .int .i64 y], rfl, Nat.le_refl _, heap_alloc_new w _, by omega, by unfold maxLen; omega, rfl, rfl⟩⟩, (Below.refl _ _).alloc (Nat.le_refl _) _⟩
theorem clash_with (B : Nat) (a : Option Addr) (cap : Nat) (l : List Int) (y : Int) (w : World) (h : w.ownsRow B 3 1 (.slice a l.length cap) l.length (ints l)) (hl : l.length ≤ 1048576) (hB : B ≤ w.heap.size) :
    Calls Try.prog 161 #[.slice a l.length cap, .int .i64 y] w fun e w' => ∃ a' cap', e = .returned (.iface 79 (.slice a' (l ++ [y]).length cap')) ∧ w'.ownsRow B 3 1 (.slice a' (l ++ [y]).length cap') (l ++ [y]).length (ints (l ++ [y])) ∧ Below B w w' := by
  have HO := Lib.hid h
  clear h
  go_enter Try.func161, Try.ntmps161
  go_wp2_with (at_builtin; refine append_cla rfl _ _ rfl B _ l _ _ HO.out (by omega) hB _ rfl rfl rfl ?_; intro a' c' w' hown' hb'; have HO2 := Lib.hid hown'; have HX2 := Lib.hid hb'; clear hown' hb')
  go_ret
  exact ⟨a', c', by simp, HO2.out, HX2.out⟩

/-- The sound of some voices: silence, one voice, or a clash. -/
def SndV (v : Value) (l : List Int) : Prop :=
  (l = [] ∧ v = .iface 109 (.agg #[])) ∨ (∃ x, l = [x] ∧ v = .iface 106 (.int .i64 x)) ∨ (2 ≤ l.length ∧ ∃ a cap, v = .iface 79 (.slice a l.length cap))
/-- The same, with a clash's row in the call's own memory. -/
def SndAt (B : Nat) (w : World) (v : Value) (l : List Int) : Prop :=
  (l = [] ∧ v = .iface 109 (.agg #[])) ∨ (∃ x, l = [x] ∧ v = .iface 106 (.int .i64 x)) ∨ (2 ≤ l.length ∧ ∃ a cap, v = .iface 79 (.slice a l.length cap) ∧ w.ownsRow B 3 1 (.slice a l.length cap) l.length (ints l))
theorem SndAt.val {B : Nat} {w : World} {v : Value} {l : List Int} (h : SndAt B w v l) : SndV v l := by
  rcases h with h | h | ⟨h, a, cap, h1, _⟩
  · exact .inl h
  · exact .inr (.inl h)
  · exact .inr (.inr ⟨h, a, cap, h1⟩)
theorem SndAt.keep {B : Nat} {w w' : World} {v : Value} {l : List Int} (h : SndAt B w v l) (hb : Below w.heap.size w w') : SndAt B w' v l := by
  rcases h with h | h | ⟨h, a, cap, h1, h2⟩
  · exact .inl h
  · exact .inr (.inl h)
  · exact .inr (.inr ⟨h, a, cap, h1, own_below h2 hb⟩)
theorem SndAt.base {B B' : Nat} {w : World} {v : Value} {l : List Int} (h : SndAt B w v l) (hb : B' ≤ B) : SndAt B' w v l := by
  rcases h with h | h | ⟨h, a, cap, h1, h2⟩
  · exact .inl h
  · exact .inr (.inl h)
  · exact .inr (.inr ⟨h, a, cap, h1, own_base h2 hb⟩)

set_option maxHeartbeats 2000000 in
set_option maxRecDepth 100000 in
theorem snd_impl (s : Int) (a : Option Addr) (n ca : Nat) (xs : List Int) (r : Int) (b : Option Addr) (m cb : Nat) (ys : List Int) (t : Int) (w : World) (ha : IntsAt w a n xs) (hn : n ≤ 1048576) (hb : IntsAt w b m ys) (hm : m ≤ 1048576) (h0 : 1 ≤ s) (h1 : s ≤ 24) (hy : ∀ z ∈ ys, -1000 ≤ z ∧ z ≤ 1000) (ht1 : -1000000 ≤ t) (ht2 : t ≤ 1000000) :
    Calls Try.prog 69 #[can s a n ca r b m cb, .int .i64 t] w fun e w' => ∃ v, e = .returned v ∧ SndAt w.heap.size w' v (atL s xs ys t) ∧ Below w.heap.size w w' := by
  have FA := Lib.hid ha
  have FB := Lib.hid hb
  have HY := Lib.hid hy
  have hml : ys.length = m := hb.1
  clear ha hb hy
  obtain ⟨W0, hW⟩ : ∃ W0, W0 = w.alloc (canCells s a n ca r b m cb 29) := ⟨_, rfl⟩
  have HW := Lib.hid hW
  have HB := Lib.hid (show Below w.heap.size w W0 by rw [hW]; exact bel1 w _)
  have HT := Lib.hid (show Four W0 w.heap.size (.int .i64 s) (.slice a n ca) (.int .i64 r) (.slice b m cb) by rw [hW]; exact four_new w _ _ _ _ _)
  have hz0 : W0.heap.size = w.heap.size + 1 := by rw [hW]; simp
  clear hW
  obtain ⟨t0, t1, t2, t3, t4⟩ := HT.out
  go_enter Try.func69, Try.ntmps69
  go_wp2_with fail
  rw [← HW.out]
  go_wp2
  go_loopw [5, 14] (fun v i wr => ∃ k : Nat, k ≤ m ∧ i = .int .i64 k ∧ SndAt W0.heap.size wr v (atK s xs ys t k) ∧ Below W0.heap.size W0 wr) (fun _ i _ => m - (intOf i).toNat)
  case atStart => exact ⟨0, by omega, rfl, .inl ⟨rfl, rfl⟩, Below.refl _ _⟩
  case round =>
    obtain ⟨k, hk, rfl, hs0, hnx⟩ := hrel
    have HS := Lib.hid hs0
    have HX := Lib.hid hnx
    have HR := Lib.hid (HB.out.trans (hnx.mono HB.out.size))
    have T1 := Lib.hid (HT.out.keep hnx)
    have hsz := hnx.size
    have HAL := atK_len s xs ys t k
    clear t0 t1 t2 t3 t4 hs0 hnx
    obtain ⟨x0, x1, x2, x3, x4⟩ := T1.out
    by_cases hlt : k < m
    · obtain ⟨b1, off, z, rfl, hb, hs, hc, hz1, hz2⟩ := (FB.out.below HR.out).at hlt
      obtain ⟨hzr1, hzr2⟩ := HY.out z (List.mem_of_getElem? hs)
      have HA : Hid (IntsAt wr a n xs) := Lib.hid (FA.out.below HR.out)
      have HG : Hid (plays s xs ys t k = hasB xs (remB (t - z) s)) := Lib.hid (by unfold plays; rw [List.getD_eq_getElem?_getD, hs]; rfl)
      clear hs
      go_wp2_with fail
      refine (hasBeat_any s a n ca xs (t - z) _ HA.out (by omega) h0 h1 (by omega) (by omega)).mono ?_
      rintro e w1 ⟨rfl, hb1⟩
      have S1 := Lib.hid (HS.out.keep hb1)
      have X1 := Lib.hid (HX.out.trans (hb1.mono hsz))
      have hz3 : wr.heap.size ≤ w1.heap.size := hb1.size
      clear hb1
      cases hp : hasB xs (remB (t - z) s)
      · have HN := Lib.hid (atK_no (HG.out.trans hp))
        clear hp
        go_wp2
        go_roundw
        case rel => exact ⟨k + 1, by omega, by go_num, by rw [HN.out]; exact S1.out, X1.out⟩
        case measure => simp [intOf]; omega
      · have HN := Lib.hid (atK_yes (HG.out.trans hp))
        clear hp
        rcases S1.out with ⟨hl, hv⟩ | ⟨x, hl, hv⟩ | ⟨hl, p, cap, hv, hown⟩
        · subst hv
          have HL := Lib.hid hl
          clear hl S1
          go_wp2_with fail
          refine (silence_with k _).mono ?_
          rintro e w2 ⟨rfl, hb2⟩
          have X2 := Lib.hid (X1.out.trans (hb2.mono X1.out.size))
          clear hb2
          go_wp2
          go_roundw
          case rel => exact ⟨k + 1, by omega, by go_num, by rw [HN.out, HL.out]; exact .inr (.inl ⟨_, rfl, rfl⟩), X2.out⟩
          case measure => simp [intOf]; omega
        · subst hv
          have HL := Lib.hid hl
          clear hl S1
          go_wp2_with fail
          refine (voice_with x k _).mono ?_
          rintro e w2 ⟨a2, c2, rfl, hown2, hb2⟩
          have O2 := Lib.hid (own_base hown2 (Nat.le_trans hsz hz3))
          have X2 := Lib.hid (X1.out.trans (hb2.mono X1.out.size))
          clear hb2 hown2
          go_wp2
          go_roundw
          case rel => exact ⟨k + 1, by omega, by go_num, by rw [HN.out, HL.out]; exact .inr (.inr ⟨by simp, a2, c2, rfl, O2.out⟩), X2.out⟩
          case measure => simp [intOf]; omega
        · subst hv
          have HO := Lib.hid hown
          clear S1 hown
          go_wp2_with fail
          refine (clash_with W0.heap.size p cap _ k _ HO.out (by omega) (Nat.le_trans hsz hz3)).mono ?_
          rintro e w2 ⟨a2, c2, rfl, hown2, hb2⟩
          have O2 := Lib.hid hown2
          have X2 := Lib.hid (X1.out.trans hb2)
          clear hb2 hown2
          go_wp2
          go_roundw
          case rel => exact ⟨k + 1, by omega, by go_num, by rw [HN.out]; exact .inr (.inr ⟨by simp; omega, a2, c2, by simp, O2.out⟩), X2.out⟩
          case measure => simp [intOf]; omega
    · have e : k = m := by omega
      have HE : Hid (atL s xs ys t = atK s xs ys t k) := Lib.hid (by rw [e, ← hml]; rfl)
      clear e
      go_wp2
      go_ret
      exact ⟨_, rfl, by rw [HE.out]; exact HS.out.base HB.out.size, HR.out⟩

theorem silence_voices (w : World) : Calls Try.prog 164 #[.agg #[]] w fun e w' => e = .returned (.slice none 0 0) ∧ Below w.heap.size w w' := by
  go_enter Try.func164, Try.ntmps164
  go_wp2
  go_ret
  exact ⟨rfl, (Below.refl _ _).alloc (Nat.le_refl _) _⟩
theorem voice_voices (x : Int) (w : World) : Calls Try.prog 162 #[.int .i64 x] w fun e w' => ∃ a cap, e = .returned (.slice a 1 cap) ∧ w'.ownsRow w.heap.size 3 1 (.slice a 1 cap) 1 (ints [x]) ∧ Below w.heap.size w w' := by
  go_enter Try.func162, Try.ntmps162
  go_wp2
  go_ret
  exact ⟨_, _, rfl, ⟨rfl, .inr ⟨w.heap.size, 1, #[.int .i64 x], rfl, Nat.le_refl _, heap_alloc_new w _, by omega, by unfold maxLen; omega, rfl, rfl⟩⟩, (Below.refl _ _).alloc (Nat.le_refl _) _⟩
theorem clash_voices (v : Value) (w : World) : Calls Try.prog 160 #[v] w fun e w' => e = .returned v ∧ w = w' := by
  go_enter Try.func160, Try.ntmps160
  go_wp2
  go_ret
  exact ⟨rfl, rfl⟩

set_option maxHeartbeats 1000000 in
set_option maxRecDepth 100000 in
theorem vat_impl (s : Int) (a : Option Addr) (n ca : Nat) (xs : List Int) (t : Int) (b : Option Addr) (m cb : Nat) (ys : List Int) (p : Int) (w : World) (ha : IntsAt w a n xs) (hn : xs.length ≤ 1048576) (hb : IntsAt w b m ys) (hm : ys.length ≤ 1048576) (h3 : -9223372036854775808 ≤ p) (h4 : p ≤ 9223372036854775807) :
    Calls Try.prog 23 #[can s a n ca t b m cb, .int .i64 p] w (IPost (vatZ s xs t ys p) w) := by
  obtain ⟨W0, hW⟩ : ∃ W0, W0 = w.alloc (canCells s a n ca t b m cb 29) := ⟨_, rfl⟩
  have HW := Lib.hid hW
  have HB := Lib.hid (show Below w.heap.size w W0 by rw [hW]; exact bel1 w _)
  have HT := Lib.hid (show Four W0 w.heap.size (.int .i64 s) (.slice a n ca) (.int .i64 t) (.slice b m cb) by rw [hW]; exact four_new w _ _ _ _ _)
  clear hW
  have hl : n ≤ 1048576 := by have := ha.1; omega
  have hlm : m ≤ 1048576 := by have := hb.1; omega
  have FA := Lib.hid ha
  have FB := Lib.hid hb
  clear ha hb
  have HC := Lib.hid (fun W hA hB => cval_impl s a n ca xs t b m cb ys W hA hn hB hm)
  by_cases hc : CC s xs t ys
  · rw [cB_yes hc] at HC
    by_cases hp1 : -1000 ≤ p
    · by_cases hp2 : p ≤ 1000
      · have HE : Hid (vatZ s xs t ys p = atL s xs ys p) := Lib.hid (cZ_yes ⟨hc, hp1, hp2⟩)
        have HA := Lib.hid (fun W hA hB => snd_impl s a n ca xs t b m cb ys p W hA hl hB hlm (by have := hc.1.1.1; omega) (by have := hc.1.1.1; omega) (ok_mem' hc.1.2.1) (by omega) (by omega))
        have d1 : decide (p < -1000) = false := by simp; omega
        have d2 : decide (1000 < p) = false := by simp; omega
        clear hc
        go_enter Try.func23, Try.ntmps23
        go_wp2_with fail
        rw [← HW.out]
        refine (HC.out _ (FA.out.below HB.out) (FB.out.below HB.out)).mono ?_
        rintro e w1 ⟨rfl, hb1⟩
        have B1 := Lib.hid (HB.out.trans (hb1.mono HB.out.size))
        have T1 := Lib.hid (HT.out.keep hb1)
        obtain ⟨t0, t1, t2, t3, t4⟩ := T1.out
        clear hb1
        go_wp2_with fail
        refine (HA.out _ (FA.out.below B1.out) (FB.out.below B1.out)).mono ?_
        rintro e w2 ⟨v2, rfl, hs2, hb2⟩
        have B2 := Lib.hid (B1.out.trans (hb2.mono B1.out.size))
        clear hb2
        obtain ⟨L, hL⟩ : ∃ L, atL s xs ys p = L := ⟨_, rfl⟩
        rw [hL] at hs2 HE
        clear hL
        rcases hs2 with ⟨rfl, rfl⟩ | ⟨x, rfl, rfl⟩ | ⟨hl2, q, cap, rfl, hown⟩
        · go_wp2_with fail
          refine (silence_voices _).mono ?_
          rintro e w3 ⟨rfl, hb3⟩
          have B3 := Lib.hid (B2.out.trans (hb3.mono B2.out.size))
          clear hb3
          go_wp2
          go_ret
          rw [HE.out]
          exact ⟨none, 0, rfl, World.ownsRow_nil _ _ _ _, B3.out⟩
        · go_wp2_with fail
          refine (voice_voices x _).mono ?_
          rintro e w3 ⟨a3, c3, rfl, hown3, hb3⟩
          have O3 := Lib.hid (own_base hown3 B2.out.size)
          have B3 := Lib.hid (B2.out.trans (hb3.mono B2.out.size))
          clear hb3 hown3
          go_wp2
          go_ret
          rw [HE.out]
          exact ⟨a3, c3, rfl, O3.out, B3.out⟩
        · have O3 := Lib.hid (own_base hown B1.out.size)
          clear hown
          go_wp2_with fail
          refine (clash_voices _ _).mono ?_
          rintro e w3 ⟨rfl, rfl⟩
          go_wp2
          go_ret
          rw [HE.out]
          exact ⟨q, cap, rfl, O3.out, B2.out⟩
      · have HE : Hid (vatZ s xs t ys p = []) := Lib.hid (cZ_no (fun h => hp2 h.2.2))
        have d1 : decide (p < -1000) = false := by simp; omega
        have d2 : decide (1000 < p) = true := by simp; omega
        clear hc
        go_enter Try.func23, Try.ntmps23
        go_wp2_with fail
        rw [← HW.out]
        refine (HC.out _ (FA.out.below HB.out) (FB.out.below HB.out)).mono ?_
        rintro e w1 ⟨rfl, hb1⟩
        have B1 := Lib.hid (HB.out.trans (hb1.mono HB.out.size))
        clear hb1
        go_wp2
        go_ret
        rw [HE.out]
        exact ⟨none, 0, rfl, World.ownsRow_nil _ _ _ _, B1.out⟩
    · have HE : Hid (vatZ s xs t ys p = []) := Lib.hid (cZ_no (fun h => hp1 h.2.1))
      have d1 : decide (p < -1000) = true := by simp; omega
      clear hc
      go_enter Try.func23, Try.ntmps23
      go_wp2_with fail
      rw [← HW.out]
      refine (HC.out _ (FA.out.below HB.out) (FB.out.below HB.out)).mono ?_
      rintro e w1 ⟨rfl, hb1⟩
      have B1 := Lib.hid (HB.out.trans (hb1.mono HB.out.size))
      clear hb1
      go_wp2
      go_ret
      rw [HE.out]
      exact ⟨none, 0, rfl, World.ownsRow_nil _ _ _ _, B1.out⟩
  · rw [cB_no hc] at HC
    have HE : Hid (vatZ s xs t ys p = []) := Lib.hid (cZ_no (fun h => hc h.1))
    clear hc
    go_enter Try.func23, Try.ntmps23
    go_wp2_with fail
    rw [← HW.out]
    refine (HC.out _ (FA.out.below HB.out) (FB.out.below HB.out)).mono ?_
    rintro e w1 ⟨rfl, hb1⟩
    have B1 := Lib.hid (HB.out.trans (hb1.mono HB.out.size))
    clear hb1
    go_wp2
    go_ret
    rw [HE.out]
    exact ⟨none, 0, rfl, World.ownsRow_nil _ _ _ _, B1.out⟩

theorem as_sv (w : World) : (Instr.typeAssert (.iface 109 (.agg #[])) 77 106 true).run Try.prog w = .ok (.tuple #[.int .i64 0, .bool false]) w := by kernel_rfl
theorem as_sk (w : World) : (Instr.typeAssert (.iface 109 (.agg #[])) 77 79 true).run Try.prog w = .ok (.tuple #[.slice none 0 0, .bool false]) w := by kernel_rfl
theorem as_vv (x : Value) (w : World) : (Instr.typeAssert (.iface 106 x) 77 106 true).run Try.prog w = .ok (.tuple #[x, .bool true]) w := by kernel_rfl
theorem as_vk (x : Value) (w : World) : (Instr.typeAssert (.iface 106 x) 77 79 true).run Try.prog w = .ok (.tuple #[.slice none 0 0, .bool false]) w := by kernel_rfl
theorem as_kv (x : Value) (w : World) : (Instr.typeAssert (.iface 79 x) 77 106 true).run Try.prog w = .ok (.tuple #[.int .i64 0, .bool false]) w := by kernel_rfl
theorem as_kk (x : Value) (w : World) : (Instr.typeAssert (.iface 79 x) 77 79 true).run Try.prog w = .ok (.tuple #[x, .bool true]) w := by kernel_rfl
attribute [local go_sem] as_sv as_sk as_vv as_vk as_kv as_kk
theorem lin_sil (w : World) : Calls Try.prog 67 #[.iface 109 (.agg #[])] w fun e w' => e = .returned (.int .i64 (-1)) ∧ Below w.heap.size w w' := by
  go_enter Try.func67, Try.ntmps67
  go_wp2
  go_ret
  exact ⟨rfl, Below.refl _ _⟩
theorem lin_voi (x : Int) (w : World) : Calls Try.prog 67 #[.iface 106 (.int .i64 x)] w fun e w' => e = .returned (.int .i64 x) ∧ Below w.heap.size w w' := by
  go_enter Try.func67, Try.ntmps67
  go_wp2
  go_ret
  exact ⟨rfl, Below.refl _ _⟩
theorem lin_cla (v : Value) (w : World) : Calls Try.prog 67 #[.iface 79 v] w fun e w' => e = .returned (.int .i64 (-2)) ∧ Below w.heap.size w w' := by
  go_enter Try.func67, Try.ntmps67
  go_wp2
  go_ret
  exact ⟨rfl, Below.refl _ _⟩
theorem lin_num {v : Value} {l : List Int} (h : SndV v l) (w : World) : Calls Try.prog 67 #[v] w fun e w' => e = .returned (.int .i64 (lineN l)) ∧ Below w.heap.size w w' := by
  rcases h with ⟨rfl, rfl⟩ | ⟨x, rfl, rfl⟩ | ⟨hl, a, cap, rfl⟩
  · exact lin_sil w
  · exact lin_voi x w
  · rw [lineN_two hl]; exact lin_cla _ w
end Go.Proofs.Ythnlakdfbalgdaa.Rhy
