/-
  Helpers of the claims beside this text: canons: what the voices make on a pulse (an interface): the program's soundAt and VoicesAt.
-/
import Derived.Test.YtldpikcgeijkpaaCnc
import Derived.Handy
namespace Go.Proofs.Ytldpikcgeijkpaa.Rhy
open Go.RowKit
set_option linter.unusedVariables false
set_option linter.unusedSimpArgs false

/-- 'append(c, x)' at a clash of the call's own. -/
theorem append_cla {ops : Array Oper} {rest : List Oper} {o : Oper} {a : Act} {Q : Exit → Act → World → Prop} (hgd : o.guard = none) (x y : Operand)
    (ho : o.op = .call { callee := .builtin .append, args := #[x, y], argTypes := #[71, 71] })
    (B : Nat) (v : Value) (l : List Int) (t : Int) (w0 : World) (hown : w0.ownsRow B 3 1 v l.length (ints l)) (hl : l.length ≤ 1048577) (hB : B ≤ w0.heap.size) (N : Nat) (hN : N = w0.heap.size)
    (hs : a.eval x = v) (hx : a.eval y = .slice (some ⟨N, 0, none⟩) 1 1)
    (h : ∀ a' c' w', w'.ownsRow B 3 1 (.slice a' (l ++ [t]).length c') (l ++ [t]).length (ints (l ++ [t])) → Below B w0 w' → wpList Try.prog ops Q rest (a.put o.dst (.slice a' (l ++ [t]).length c')) w') :
    wpList Try.prog ops Q (o :: rest) a (w0.alloc (.cells #[.int .i64 t] 3)) := by
  obtain ⟨i0, hi, hz0, hz1, hz2⟩ := info_parts infoInt
  subst hN
  refine wpList_append_own _ hgd x y 71 ho B 3 i0 (.int .i64 0) 1 8 Try.underlying71 hi hz0 hz1 hz2 rfl (by decide) v l.length (ints l) hs (hown.alloc _) ⟨w0.heap.size, 0, none⟩ 1 1 [.int .i64 t] hx rfl (cell_one_new _ _ _) ?_ ?_ ?_ ?_ ?_
  · intro u hu
    simp at hu
    subst hu
    rfl
  · unfold maxLen; omega
  · omega
  · exact Nat.le_trans hB (by show w0.heap.size ≤ (w0.heap.push _).size; simp)
  · intro v' w' ho' hg _
    have ho2 : w'.ownsRow B 3 1 v' (l ++ [t]).length (ints (l ++ [t])) := by simpa [ints] using ho'
    obtain ⟨_, a', c', rfl, _⟩ := own_shape ho2
    refine h a' c' w' ho2 ?_
    refine (((Below.refl B w0).alloc hB _).grown hg (Nat.le_trans hB (by show w0.heap.size ≤ (w0.heap.push _).size; simp)) fun k hk => (hown.lt k hk).1)

theorem silence_with (y : Int) (w : World) : Calls Try.prog 146 #[.agg #[], .int .i64 y] w fun e w' => e = .returned (.iface 103 (.int .i64 y)) ∧ Below w.heap.size w w' := by
  go_enter Try.func146, Try.ntmps146
  go_wp2
  go_ret
  exact ⟨rfl, (Below.refl _ _).alloc (Nat.le_refl _) _⟩
theorem voice_with (x y : Int) (w : World) : Calls Try.prog 144 #[.int .i64 x, .int .i64 y] w fun e w' => ∃ a cap, e = .returned (.iface 71 (.slice a 2 cap)) ∧ w'.ownsRow w.heap.size 3 1 (.slice a 2 cap) 2 (ints [x, y]) ∧ Below w.heap.size w w' := by
  go_enter Try.func144, Try.ntmps144
  go_wp2
  go_ret
  exact ⟨_, _, rfl, ⟨rfl, .inr ⟨w.heap.size, 2, #[.int .i64 x, .int .i64 y], rfl, Nat.le_refl _, heap_alloc_new w _, by omega, by unfold maxLen; omega, rfl, rfl⟩⟩, (Below.refl _ _).alloc (Nat.le_refl _) _⟩
theorem clash_with (B : Nat) (a : Option Addr) (cap : Nat) (l : List Int) (y : Int) (w : World) (h : w.ownsRow B 3 1 (.slice a l.length cap) l.length (ints l)) (hl : l.length ≤ 1048576) (hB : B ≤ w.heap.size) :
    Calls Try.prog 142 #[.slice a l.length cap, .int .i64 y] w fun e w' => ∃ a' cap', e = .returned (.iface 71 (.slice a' (l ++ [y]).length cap')) ∧ w'.ownsRow B 3 1 (.slice a' (l ++ [y]).length cap') (l ++ [y]).length (ints (l ++ [y])) ∧ Below B w w' := by
  have HO := Lib.hid h
  clear h
  go_enter Try.func142, Try.ntmps142
  go_wp2_with (at_builtin; refine append_cla rfl _ _ rfl B _ l _ _ HO.out (by omega) hB _ rfl rfl rfl ?_; intro a' c' w' hown' hb'; have HO2 := Lib.hid hown'; have HX2 := Lib.hid hb'; clear hown' hb')
  go_ret
  exact ⟨a', c', by simp, HO2.out, HX2.out⟩

/-- The sound of some voices: silence, one voice, or a clash. -/
def SndV (v : Value) (l : List Int) : Prop :=
  (l = [] ∧ v = .iface 106 (.agg #[])) ∨ (∃ x, l = [x] ∧ v = .iface 103 (.int .i64 x)) ∨ (2 ≤ l.length ∧ ∃ a cap, v = .iface 71 (.slice a l.length cap))
/-- The same, with a clash's row in the call's own memory. -/
def SndAt (B : Nat) (w : World) (v : Value) (l : List Int) : Prop :=
  (l = [] ∧ v = .iface 106 (.agg #[])) ∨ (∃ x, l = [x] ∧ v = .iface 103 (.int .i64 x)) ∨ (2 ≤ l.length ∧ ∃ a cap, v = .iface 71 (.slice a l.length cap) ∧ w.ownsRow B 3 1 (.slice a l.length cap) l.length (ints l))
theorem SndAt.val {B : Nat} {w : World} {v : Value} {l : List Int} (h : SndAt B w v l) : SndV v l := by
  rcases h with h | h | ⟨h, a, cap, h1, _⟩
  · exact .inl h
  · exact .inr (.inl h)
  · exact .inr (.inr ⟨h, a, cap, h1⟩)
theorem SndAt.keep {B : Nat} {w w' : World} {v : Value} {l : List Int} (h : SndAt B w v l) (hb : Below w.heap.size w w') : SndAt B w' v l := by
  rcases h with h | h | ⟨h, a, cap, h1, h2⟩
  · exact .inl h
  · exact .inr (.inl h)
  · exact .inr (.inr ⟨h, a, cap, h1, own_below h2 hb⟩)
theorem SndAt.base {B B' : Nat} {w : World} {v : Value} {l : List Int} (h : SndAt B w v l) (hb : B' ≤ B) : SndAt B' w v l := by
  rcases h with h | h | ⟨h, a, cap, h1, h2⟩
  · exact .inl h
  · exact .inr (.inl h)
  · exact .inr (.inr ⟨h, a, cap, h1, own_base h2 hb⟩)

set_option maxHeartbeats 2000000 in
set_option maxRecDepth 100000 in
theorem snd_impl (s : Int) (a : Option Addr) (n ca : Nat) (xs : List Int) (r : Int) (b : Option Addr) (m cb : Nat) (ys : List Int) (t : Int) (w : World) (ha : IntsAt w a n xs) (hn : n ≤ 1048576) (hb : IntsAt w b m ys) (hm : m ≤ 1048576) (h0 : 1 ≤ s) (h1 : s ≤ 24) (hy : ∀ z ∈ ys, -1000 ≤ z ∧ z ≤ 1000) (ht1 : -1000000 ≤ t) (ht2 : t ≤ 1000000) :
    Calls Try.prog 61 #[can s a n ca r b m cb, .int .i64 t] w fun e w' => ∃ v, e = .returned v ∧ SndAt w.heap.size w' v (atL s xs ys t) ∧ Below w.heap.size w w' := by
  have FA := Lib.hid ha
  have FB := Lib.hid hb
  have HY := Lib.hid hy
  have hml : ys.length = m := hb.1
  clear ha hb hy
  obtain ⟨W0, hW⟩ : ∃ W0, W0 = w.alloc (canCells s a n ca r b m cb 29) := ⟨_, rfl⟩
  have HW := Lib.hid hW
  have HB := Lib.hid (show Below w.heap.size w W0 by rw [hW]; exact bel1 w _)
  have HT := Lib.hid (show Four W0 w.heap.size (.int .i64 s) (.slice a n ca) (.int .i64 r) (.slice b m cb) by rw [hW]; exact four_new w _ _ _ _ _)
  have hz0 : W0.heap.size = w.heap.size + 1 := by rw [hW]; simp
  clear hW
  obtain ⟨t0, t1, t2, t3, t4⟩ := HT.out
  go_enter Try.func61, Try.ntmps61
  go_wp2_with fail
  rw [← HW.out]
  go_wp2
  go_loopw [5, 14] (fun v i wr => ∃ k : Nat, k ≤ m ∧ i = .int .i64 k ∧ SndAt W0.heap.size wr v (atK s xs ys t k) ∧ Below W0.heap.size W0 wr) (fun _ i _ => m - (intOf i).toNat)
  case atStart => exact ⟨0, by omega, rfl, .inl ⟨rfl, rfl⟩, Below.refl _ _⟩
  case round =>
    obtain ⟨k, hk, rfl, hs0, hnx⟩ := hrel
    have HS := Lib.hid hs0
    have HX := Lib.hid hnx
    have HR := Lib.hid (HB.out.trans (hnx.mono HB.out.size))
    have T1 := Lib.hid (HT.out.keep hnx)
    have hsz := hnx.size
    have HAL := atK_len s xs ys t k
    clear t0 t1 t2 t3 t4 hs0 hnx
    obtain ⟨x0, x1, x2, x3, x4⟩ := T1.out
    by_cases hlt : k < m
    · obtain ⟨b1, off, z, rfl, hb, hs, hc, hz1, hz2⟩ := (FB.out.below HR.out).at hlt
      obtain ⟨hzr1, hzr2⟩ := HY.out z (List.mem_of_getElem? hs)
      have HA : Hid (IntsAt wr a n xs) := Lib.hid (FA.out.below HR.out)
      have HG : Hid (plays s xs ys t k = hasB xs (remB (t - z) s)) := Lib.hid (by unfold plays; rw [List.getD_eq_getElem?_getD, hs]; rfl)
      clear hs
      go_wp2_with fail
      refine (hasBeat_any s a n ca xs (t - z) _ HA.out (by omega) h0 h1 (by omega) (by omega)).mono ?_
      rintro e w1 ⟨rfl, hb1⟩
      have S1 := Lib.hid (HS.out.keep hb1)
      have X1 := Lib.hid (HX.out.trans (hb1.mono hsz))
      have hz3 : wr.heap.size ≤ w1.heap.size := hb1.size
      clear hb1
      cases hp : hasB xs (remB (t - z) s)
      · have HN := Lib.hid (atK_no (HG.out.trans hp))
        clear hp
        go_wp2
        go_roundw
        case rel => exact ⟨k + 1, by omega, by go_num, by rw [HN.out]; exact S1.out, X1.out⟩
        case measure => simp [intOf]; omega
      · have HN := Lib.hid (atK_yes (HG.out.trans hp))
        clear hp
        rcases S1.out with ⟨hl, hv⟩ | ⟨x, hl, hv⟩ | ⟨hl, p, cap, hv, hown⟩
        · subst hv
          have HL := Lib.hid hl
          clear hl S1
          go_wp2_with fail
          refine (silence_with k _).mono ?_
          rintro e w2 ⟨rfl, hb2⟩
          have X2 := Lib.hid (X1.out.trans (hb2.mono X1.out.size))
          clear hb2
          go_wp2
          go_roundw
          case rel => exact ⟨k + 1, by omega, by go_num, by rw [HN.out, HL.out]; exact .inr (.inl ⟨_, rfl, rfl⟩), X2.out⟩
          case measure => simp [intOf]; omega
        · subst hv
          have HL := Lib.hid hl
          clear hl S1
          go_wp2_with fail
          refine (voice_with x k _).mono ?_
          rintro e w2 ⟨a2, c2, rfl, hown2, hb2⟩
          have O2 := Lib.hid (own_base hown2 (Nat.le_trans hsz hz3))
          have X2 := Lib.hid (X1.out.trans (hb2.mono X1.out.size))
          clear hb2 hown2
          go_wp2
          go_roundw
          case rel => exact ⟨k + 1, by omega, by go_num, by rw [HN.out, HL.out]; exact .inr (.inr ⟨by simp, a2, c2, rfl, O2.out⟩), X2.out⟩
          case measure => simp [intOf]; omega
        · subst hv
          have HO := Lib.hid hown
          clear S1 hown
          go_wp2_with fail
          refine (clash_with W0.heap.size p cap _ k _ HO.out (by omega) (Nat.le_trans hsz hz3)).mono ?_
          rintro e w2 ⟨a2, c2, rfl, hown2, hb2⟩
          have O2 := Lib.hid hown2
          have X2 := Lib.hid (X1.out.trans hb2)
          clear hb2 hown2
          go_wp2
          go_roundw
          case rel => exact ⟨k + 1, by omega, by go_num, by rw [HN.out]; exact .inr (.inr ⟨by simp; omega, a2, c2, by simp, O2.out⟩), X2.out⟩
          case measure => simp [intOf]; omega
    · have e : k = m := by omega
      have HE : Hid (atL s xs ys t = atK s xs ys t k) := Lib.hid (by rw [e, ← hml]; rfl)
      clear e
      go_wp2
      go_ret
      exact ⟨_, rfl, by rw [HE.out]; exact HS.out.base HB.out.size, HR.out⟩

theorem silence_voices (w : World) : Calls Try.prog 145 #[.agg #[]] w fun e w' => e = .returned (.slice none 0 0) ∧ Below w.heap.size w w' := by
  go_enter Try.func145, Try.ntmps145
  go_wp2
  go_ret
  exact ⟨rfl, (Below.refl _ _).alloc (Nat.le_refl _) _⟩
theorem voice_voices (x : Int) (w : World) : Calls Try.prog 143 #[.int .i64 x] w fun e w' => ∃ a cap, e = .returned (.slice a 1 cap) ∧ w'.ownsRow w.heap.size 3 1 (.slice a 1 cap) 1 (ints [x]) ∧ Below w.heap.size w w' := by
  go_enter Try.func143, Try.ntmps143
  go_wp2
  go_ret
  exact ⟨_, _, rfl, ⟨rfl, .inr ⟨w.heap.size, 1, #[.int .i64 x], rfl, Nat.le_refl _, heap_alloc_new w _, by omega, by unfold maxLen; omega, rfl, rfl⟩⟩, (Below.refl _ _).alloc (Nat.le_refl _) _⟩
theorem clash_voices (v : Value) (w : World) : Calls Try.prog 141 #[v] w fun e w' => e = .returned v ∧ w = w' := by
  go_enter Try.func141, Try.ntmps141
  go_wp2
  go_ret
  exact ⟨rfl, rfl⟩

set_option maxHeartbeats 1000000 in
set_option maxRecDepth 100000 in
theorem vat_impl (s : Int) (a : Option Addr) (n ca : Nat) (xs : List Int) (t : Int) (b : Option Addr) (m cb : Nat) (ys : List Int) (p : Int) (w : World) (ha : IntsAt w a n xs) (hn : xs.length ≤ 1048576) (hb : IntsAt w b m ys) (hm : ys.length ≤ 1048576) (h3 : -9223372036854775808 ≤ p) (h4 : p ≤ 9223372036854775807) :
    Calls Try.prog 20 #[can s a n ca t b m cb, .int .i64 p] w (IPost (vatZ s xs t ys p) w) := by
  obtain ⟨W0, hW⟩ : ∃ W0, W0 = w.alloc (canCells s a n ca t b m cb 29) := ⟨_, rfl⟩
  have HW := Lib.hid hW
  have HB := Lib.hid (show Below w.heap.size w W0 by rw [hW]; exact bel1 w _)
  have HT := Lib.hid (show Four W0 w.heap.size (.int .i64 s) (.slice a n ca) (.int .i64 t) (.slice b m cb) by rw [hW]; exact four_new w _ _ _ _ _)
  clear hW
  have hl : n ≤ 1048576 := by have := ha.1; omega
  have hlm : m ≤ 1048576 := by have := hb.1; omega
  have FA := Lib.hid ha
  have FB := Lib.hid hb
  clear ha hb
  have HC := Lib.hid (fun W hA hB => cval_impl s a n ca xs t b m cb ys W hA hn hB hm)
  by_cases hc : CC s xs t ys
  · rw [cB_yes hc] at HC
    by_cases hp1 : -1000 ≤ p
    · by_cases hp2 : p ≤ 1000
      · have HE : Hid (vatZ s xs t ys p = atL s xs ys p) := Lib.hid (cZ_yes ⟨hc, hp1, hp2⟩)
        have HA := Lib.hid (fun W hA hB => snd_impl s a n ca xs t b m cb ys p W hA hl hB hlm (by have := hc.1.1.1; omega) (by have := hc.1.1.1; omega) (ok_mem' hc.1.2.1) (by omega) (by omega))
        have d1 : decide (p < -1000) = false := by simp; omega
        have d2 : decide (1000 < p) = false := by simp; omega
        clear hc
        go_enter Try.func20, Try.ntmps20
        go_wp2_with fail
        rw [← HW.out]
        refine (HC.out _ (FA.out.below HB.out) (FB.out.below HB.out)).mono ?_
        rintro e w1 ⟨rfl, hb1⟩
        have B1 := Lib.hid (HB.out.trans (hb1.mono HB.out.size))
        have T1 := Lib.hid (HT.out.keep hb1)
        obtain ⟨t0, t1, t2, t3, t4⟩ := T1.out
        clear hb1
        go_wp2_with fail
        refine (HA.out _ (FA.out.below B1.out) (FB.out.below B1.out)).mono ?_
        rintro e w2 ⟨v2, rfl, hs2, hb2⟩
        have B2 := Lib.hid (B1.out.trans (hb2.mono B1.out.size))
        clear hb2
        obtain ⟨L, hL⟩ : ∃ L, atL s xs ys p = L := ⟨_, rfl⟩
        rw [hL] at hs2 HE
        clear hL
        rcases hs2 with ⟨rfl, rfl⟩ | ⟨x, rfl, rfl⟩ | ⟨hl2, q, cap, rfl, hown⟩
        · go_wp2_with fail
          refine (silence_voices _).mono ?_
          rintro e w3 ⟨rfl, hb3⟩
          have B3 := Lib.hid (B2.out.trans (hb3.mono B2.out.size))
          clear hb3
          go_wp2
          go_ret
          rw [HE.out]
          exact ⟨none, 0, rfl, World.ownsRow_nil _ _ _ _, B3.out⟩
        · go_wp2_with fail
          refine (voice_voices x _).mono ?_
          rintro e w3 ⟨a3, c3, rfl, hown3, hb3⟩
          have O3 := Lib.hid (own_base hown3 B2.out.size)
          have B3 := Lib.hid (B2.out.trans (hb3.mono B2.out.size))
          clear hb3 hown3
          go_wp2
          go_ret
          rw [HE.out]
          exact ⟨a3, c3, rfl, O3.out, B3.out⟩
        · have O3 := Lib.hid (own_base hown B1.out.size)
          clear hown
          go_wp2_with fail
          refine (clash_voices _ _).mono ?_
          rintro e w3 ⟨rfl, rfl⟩
          go_wp2
          go_ret
          rw [HE.out]
          exact ⟨q, cap, rfl, O3.out, B2.out⟩
      · have HE : Hid (vatZ s xs t ys p = []) := Lib.hid (cZ_no (fun h => hp2 h.2.2))
        have d1 : decide (p < -1000) = false := by simp; omega
        have d2 : decide (1000 < p) = true := by simp; omega
        clear hc
        go_enter Try.func20, Try.ntmps20
        go_wp2_with fail
        rw [← HW.out]
        refine (HC.out _ (FA.out.below HB.out) (FB.out.below HB.out)).mono ?_
        rintro e w1 ⟨rfl, hb1⟩
        have B1 := Lib.hid (HB.out.trans (hb1.mono HB.out.size))
        clear hb1
        go_wp2
        go_ret
        rw [HE.out]
        exact ⟨none, 0, rfl, World.ownsRow_nil _ _ _ _, B1.out⟩
    · have HE : Hid (vatZ s xs t ys p = []) := Lib.hid (cZ_no (fun h => hp1 h.2.1))
      have d1 : decide (p < -1000) = true := by simp; omega
      clear hc
      go_enter Try.func20, Try.ntmps20
      go_wp2_with fail
      rw [← HW.out]
      refine (HC.out _ (FA.out.below HB.out) (FB.out.below HB.out)).mono ?_
      rintro e w1 ⟨rfl, hb1⟩
      have B1 := Lib.hid (HB.out.trans (hb1.mono HB.out.size))
      clear hb1
      go_wp2
      go_ret
      rw [HE.out]
      exact ⟨none, 0, rfl, World.ownsRow_nil _ _ _ _, B1.out⟩
  · rw [cB_no hc] at HC
    have HE : Hid (vatZ s xs t ys p = []) := Lib.hid (cZ_no (fun h => hc h.1))
    clear hc
    go_enter Try.func20, Try.ntmps20
    go_wp2_with fail
    rw [← HW.out]
    refine (HC.out _ (FA.out.below HB.out) (FB.out.below HB.out)).mono ?_
    rintro e w1 ⟨rfl, hb1⟩
    have B1 := Lib.hid (HB.out.trans (hb1.mono HB.out.size))
    clear hb1
    go_wp2
    go_ret
    rw [HE.out]
    exact ⟨none, 0, rfl, World.ownsRow_nil _ _ _ _, B1.out⟩

theorem as_sv (w : World) : (Instr.typeAssert (.iface 106 (.agg #[])) 69 103 true).run Try.prog w = .ok (.tuple #[.int .i64 0, .bool false]) w := by kernel_rfl
theorem as_sk (w : World) : (Instr.typeAssert (.iface 106 (.agg #[])) 69 71 true).run Try.prog w = .ok (.tuple #[.slice none 0 0, .bool false]) w := by kernel_rfl
theorem as_vv (x : Value) (w : World) : (Instr.typeAssert (.iface 103 x) 69 103 true).run Try.prog w = .ok (.tuple #[x, .bool true]) w := by kernel_rfl
theorem as_vk (x : Value) (w : World) : (Instr.typeAssert (.iface 103 x) 69 71 true).run Try.prog w = .ok (.tuple #[.slice none 0 0, .bool false]) w := by kernel_rfl
theorem as_kv (x : Value) (w : World) : (Instr.typeAssert (.iface 71 x) 69 103 true).run Try.prog w = .ok (.tuple #[.int .i64 0, .bool false]) w := by kernel_rfl
theorem as_kk (x : Value) (w : World) : (Instr.typeAssert (.iface 71 x) 69 71 true).run Try.prog w = .ok (.tuple #[x, .bool true]) w := by kernel_rfl
attribute [local go_sem] as_sv as_sk as_vv as_vk as_kv as_kk
theorem lin_sil (w : World) : Calls Try.prog 59 #[.iface 106 (.agg #[])] w fun e w' => e = .returned (.int .i64 (-1)) ∧ Below w.heap.size w w' := by
  go_enter Try.func59, Try.ntmps59
  go_wp2
  go_ret
  exact ⟨rfl, Below.refl _ _⟩
theorem lin_voi (x : Int) (w : World) : Calls Try.prog 59 #[.iface 103 (.int .i64 x)] w fun e w' => e = .returned (.int .i64 x) ∧ Below w.heap.size w w' := by
  go_enter Try.func59, Try.ntmps59
  go_wp2
  go_ret
  exact ⟨rfl, Below.refl _ _⟩
theorem lin_cla (v : Value) (w : World) : Calls Try.prog 59 #[.iface 71 v] w fun e w' => e = .returned (.int .i64 (-2)) ∧ Below w.heap.size w w' := by
  go_enter Try.func59, Try.ntmps59
  go_wp2
  go_ret
  exact ⟨rfl, Below.refl _ _⟩
theorem lin_num {v : Value} {l : List Int} (h : SndV v l) (w : World) : Calls Try.prog 59 #[v] w fun e w' => e = .returned (.int .i64 (lineN l)) ∧ Below w.heap.size w w' := by
  rcases h with ⟨rfl, rfl⟩ | ⟨x, rfl, rfl⟩ | ⟨hl, a, cap, rfl⟩
  · exact lin_sil w
  · exact lin_voi x w
  · rw [lineN_two hl]; exact lin_cla _ w
end Go.Proofs.Ytldpikcgeijkpaa.Rhy

/-
  Helpers of the claims beside this text: canons: the program's sounds, LineOf and CountClashes.
-/
namespace Go.Proofs.Ytldpikcgeijkpaa.Rhy
open Go.RowKit
set_option linter.unusedVariables false
set_option linter.unusedSimpArgs false

theorem infoSnd : (Try.prog.info? 69).map (fun i => (i.zero, i.size, i.bytes)) = some (some .nilIface, 1, 16) := by kernel_rfl
/-- 'sounds = append(sounds, s)' at a slice of sounds of the call's own. -/
theorem append_snd {ops : Array Oper} {rest : List Oper} {o : Oper} {a : Act} {Q : Exit → Act → World → Prop} (hgd : o.guard = none) (x y : Operand)
    (ho : o.op = .call { callee := .builtin .append, args := #[x, y], argTypes := #[66, 66] })
    (B : Nat) (v : Value) (l : List Value) (t : Value) (ht : t.oneCell' = true) (w0 : World) (hown : w0.ownsRow B 69 1 v l.length l) (hl : l.length ≤ 1048577) (hB : B ≤ w0.heap.size) (N : Nat) (hN : N = w0.heap.size)
    (hs : a.eval x = v) (hx : a.eval y = .slice (some ⟨N, 0, none⟩) 1 1)
    (h : ∀ v' w', w'.ownsRow B 69 1 v' (l ++ [t]).length (l ++ [t]) → Below B w0 w' → wpList Try.prog ops Q rest (a.put o.dst v') w') :
    wpList Try.prog ops Q (o :: rest) a (w0.alloc (.cells #[t] 69)) := by
  obtain ⟨i0, hi, hz0, hz1, hz2⟩ := info_parts infoSnd
  subst hN
  refine wpList_append_own _ hgd x y 66 ho B 69 i0 .nilIface 1 16 Try.underlying66 hi hz0 hz1 hz2 rfl (by decide) v l.length l hs (hown.alloc _) ⟨w0.heap.size, 0, none⟩ 1 1 [t] hx rfl (cell_one_new _ _ _) ?_ ?_ ?_ ?_ ?_
  · intro u hu
    simp at hu
    subst hu
    exact ht
  · unfold maxLen; omega
  · omega
  · exact Nat.le_trans hB (by show w0.heap.size ≤ (w0.heap.push _).size; simp)
  · intro v' w' ho' hg _
    refine h v' w' (by simpa using ho') ?_
    refine (((Below.refl B w0).alloc hB _).grown hg (Nat.le_trans hB (by show w0.heap.size ≤ (w0.heap.push _).size; simp)) fun k hk => (hown.lt k hk).1)
theorem SndV.one {v : Value} {l : List Int} (h : SndV v l) : v.oneCell' = true := by
  rcases h with ⟨_, rfl⟩ | ⟨x, _, rfl⟩ | ⟨_, a, cap, rfl⟩ <;> rfl
theorem own_slice {w : World} {B : Nat} {e : TypeId} {v : Value} {n : Nat} {l : List Value} (h : w.ownsRow B e 1 v n l) : ∃ a cap, v = .slice a n cap := by
  obtain ⟨_, ⟨rfl, h0⟩ | ⟨g, cap, cur, rfl, _⟩⟩ := h
  · exact ⟨none, 0, by rw [h0]⟩
  · exact ⟨_, cap, rfl⟩
theorem own_at {w : World} {B : Nat} {e : TypeId} {a : Option Addr} {cap n : Nat} {l : List Value} (h : w.ownsRow B e 1 (.slice a n cap) n l) {k : Nat} {u : Value} (hu : l[k]? = some u) : ∃ g, a = some ⟨g, 0, none⟩ ∧ g < w.heap.size ∧ w.cell? ⟨g, k, none⟩ = some u := by
  have hc := @World.ownsRow.cells w B e 1 _ n l h
  have hlt := h.lt
  obtain ⟨h1, ⟨h2, h0⟩ | ⟨g, cap', cur, hv, hB, hg, hn, hm, hs, ht⟩⟩ := h
  · have : l = [] := List.eq_nil_of_length_eq_zero (by omega)
    subst this
    simp at hu
  · simp at hv
    obtain ⟨rfl, rfl⟩ := hv
    refine ⟨g, rfl, (hlt g rfl).2, ?_⟩
    have := hc (g := g) rfl k u hu
    rcases k with _ | k <;> simpa [Addr.add] using this

/-- The sounds of the first k pulses. -/
def Snds (s : Int) (xs ys : List Int) (k : Nat) (vs : List Value) : Prop := vs.length = k ∧ ∀ (i : Nat) (v : Value), vs[i]? = some v → SndV v (atL s xs ys i)
theorem Snds.snoc {s : Int} {xs ys : List Int} {k : Nat} {vs : List Value} {v : Value} (h : Snds s xs ys k vs) (hv : SndV v (atL s xs ys k)) : Snds s xs ys (k + 1) (vs ++ [v]) := by
  refine ⟨by simp [h.1], fun i u hu => ?_⟩
  by_cases hi : i < k
  · rw [List.getElem?_append_left (by rw [h.1]; exact hi)] at hu
    exact h.2 i u hu
  · rw [List.getElem?_append_right (by rw [h.1]; omega), h.1] at hu
    by_cases he : i = k
    · subst he
      simp at hu
      subst hu
      exact hv
    · rw [List.getElem?_eq_none (by simp; omega)] at hu
      cases hu

set_option maxHeartbeats 2000000 in
set_option maxRecDepth 100000 in
theorem snds_impl (q : Nat) (a : Option Addr) (n ca : Nat) (xs : List Int) (t : Int) (b : Option Addr) (m cb : Nat) (ys : List Int) (w : World) (ha : IntsAt w a n xs) (hn : n ≤ 1048576) (hb : IntsAt w b m ys) (hm : m ≤ 1048576) (h0 : 1 ≤ q) (h1 : q ≤ 24) (hy : ∀ z ∈ ys, -1000 ≤ z ∧ z ≤ 1000) :
    Calls Try.prog 58 #[can q a n ca t b m cb] w fun e w' => ∃ p cap vs, e = .returned (.slice p q cap) ∧ Snds q xs ys q vs ∧ w'.ownsRow w.heap.size 69 1 (.slice p q cap) q vs ∧ Below w.heap.size w w' := by
  have FA := Lib.hid ha
  have FB := Lib.hid hb
  have HA := Lib.hid (fun (k : Nat) (hk : k ≤ 1000) W hA hB => snd_impl q a n ca xs t b m cb ys k W hA hn hB hm (by omega) (by omega) hy (by omega) (by omega))
  clear ha hb hy
  obtain ⟨W0, hW⟩ : ∃ W0, W0 = w.alloc (canCells q a n ca t b m cb 29) := ⟨_, rfl⟩
  have HW := Lib.hid hW
  have HB := Lib.hid (show Below w.heap.size w W0 by rw [hW]; exact bel1 w _)
  have HT := Lib.hid (show Four W0 w.heap.size (.int .i64 q) (.slice a n ca) (.int .i64 t) (.slice b m cb) by rw [hW]; exact four_new w _ _ _ _ _)
  clear hW
  obtain ⟨t0, t1, t2, t3, t4⟩ := HT.out
  go_enter Try.func58, Try.ntmps58
  go_wp2_with fail
  rw [← HW.out]
  go_wp2
  go_loopw [3, 8] (fun v i wr => ∃ (k : Nat) (vs : List Value), k ≤ q ∧ i = .int .i64 k ∧ Snds q xs ys k vs ∧ wr.ownsRow W0.heap.size 69 1 v k vs ∧ Below W0.heap.size W0 wr) (fun _ i _ => q - (intOf i).toNat)
  case atStart => exact ⟨0, [], by omega, rfl, ⟨rfl, fun i v h => by simp at h⟩, World.ownsRow_nil _ _ _ _, Below.refl _ _⟩
  case round =>
    obtain ⟨k, vs, hk, rfl, hsn, hown, hnx⟩ := hrel
    have HSN := Lib.hid hsn
    have HX := Lib.hid hnx
    have HR := Lib.hid (HB.out.trans (hnx.mono HB.out.size))
    have T1 := Lib.hid (HT.out.keep hnx)
    have hsz := hnx.size
    obtain ⟨av, cv, rfl⟩ := own_slice hown
    have hvl : vs.length = k := hsn.1
    have HO := Lib.hid hown
    clear t0 t1 t2 t3 t4 hsn hnx hown
    obtain ⟨x0, x1, x2, x3, x4⟩ := T1.out
    by_cases hlt : k < q
    · go_wp2_with fail
      refine (HA.out k (by omega) _ (FA.out.below HR.out) (FB.out.below HR.out)).mono ?_
      rintro e w2 ⟨v2, rfl, hs2, hb2⟩
      have O2 := Lib.hid (own_below HO.out hb2)
      have X2 := Lib.hid (HX.out.trans (hb2.mono hsz))
      have hz2 : W0.heap.size ≤ w2.heap.size := Nat.le_trans hsz hb2.size
      have HV := Lib.hid hs2.val
      subst hvl
      have hcase := hs2.val
      clear hs2 hb2
      obtain ⟨l9, hl9⟩ : ∃ l9, atL (q : Int) xs ys (vs.length : Nat) = l9 := ⟨_, rfl⟩
      have HL9 := Lib.hid hl9
      rw [hl9] at hcase HV
      clear hl9
      rcases hcase with ⟨_, rfl⟩ | ⟨x9, _, rfl⟩ | ⟨_, a9, cap9, rfl⟩
      all_goals
        go_wp2_with (at_builtin; refine append_snd rfl _ _ rfl W0.heap.size _ vs _ rfl _ O2.out (by omega) hz2 _ rfl rfl rfl ?_; intro v' w' hown' hb'; have HO2 := Lib.hid hown'; have HX3 := Lib.hid hb'; clear hown' hb')
        go_roundw
        case rel => exact ⟨vs.length + 1, vs ++ [_], by omega, by go_num, HSN.out.snoc (by rw [HL9.out]; exact HV.out), by simpa using HO2.out, X2.out.trans HX3.out⟩
        case measure => simp [intOf]; omega
    · have e : k = q := by omega
      subst e
      go_wp2
      go_ret
      exact ⟨av, cv, vs, rfl, HSN.out, own_base HO.out HB.out.size, HR.out⟩

set_option maxHeartbeats 2000000 in
set_option maxRecDepth 100000 in
theorem lin_impl (s : Int) (a : Option Addr) (n ca : Nat) (xs : List Int) (t : Int) (b : Option Addr) (m cb : Nat) (ys : List Int) (w : World) (ha : IntsAt w a n xs) (hn : xs.length ≤ 1048576) (hb : IntsAt w b m ys) (hm : ys.length ≤ 1048576) :
    Calls Try.prog 16 #[can s a n ca t b m cb] w (IPost (linZ s xs t ys) w) := by
  obtain ⟨W0, hW⟩ : ∃ W0, W0 = w.alloc (canCells s a n ca t b m cb 29) := ⟨_, rfl⟩
  have HW := Lib.hid hW
  have HB := Lib.hid (show Below w.heap.size w W0 by rw [hW]; exact bel1 w _)
  have HT := Lib.hid (show Four W0 w.heap.size (.int .i64 s) (.slice a n ca) (.int .i64 t) (.slice b m cb) by rw [hW]; exact four_new w _ _ _ _ _)
  clear hW
  have hl : n ≤ 1048576 := by have := ha.1; omega
  have hlm : m ≤ 1048576 := by have := hb.1; omega
  have FA := Lib.hid ha
  have FB := Lib.hid hb
  clear ha hb
  have HC := Lib.hid (fun W hA hB => cval_impl s a n ca xs t b m cb ys W hA hn hB hm)
  by_cases hc : CC s xs t ys
  · rw [cB_yes hc] at HC
    have HE : Hid (linZ s xs t ys = linL s xs ys s.toNat) := Lib.hid (cZ_yes hc)
    have hyl := (cc_len hc).2
    obtain ⟨q, rfl⟩ : ∃ q : Nat, s = q := ⟨s.toNat, by have := hc.1.1.1; omega⟩
    have hq1 : 1 ≤ q ∧ q ≤ 24 := by have := hc.1.1.1; omega
    have HA := Lib.hid (fun W hA hB => snds_impl q a n ca xs t b m cb ys W hA hl hB hlm hq1.1 hq1.2 (ok_mem' hc.1.2.1))
    clear hc
    go_enter Try.func16, Try.ntmps16
    go_wp2_with fail
    rw [← HW.out]
    refine (HC.out _ (FA.out.below HB.out) (FB.out.below HB.out)).mono ?_
    rintro e w1 ⟨rfl, hb1⟩
    have B1 := Lib.hid (HB.out.trans (hb1.mono HB.out.size))
    have T1 := Lib.hid (HT.out.keep hb1)
    obtain ⟨t0, t1, t2, t3, t4⟩ := T1.out
    clear hb1
    go_wp2_with fail
    refine (HA.out _ (FA.out.below B1.out) (FB.out.below B1.out)).mono ?_
    rintro e w2 ⟨p2, c2, vs, rfl, hsn, hown2, hb2⟩
    have B2 := Lib.hid (B1.out.trans (hb2.mono B1.out.size))
    have O2 := Lib.hid hown2
    have HSN := Lib.hid hsn
    have hvl : vs.length = q := hsn.1
    clear hown2 hb2 hsn
    go_wp2
    go_loopw [3, 12] (fun v i wr => ∃ k : Nat, k ≤ q ∧ i = .int .i64 k ∧ VecAt (linL q xs ys k) w2 wr v) (fun _ i _ => q - (intOf i).toNat)
    case atStart => exact ⟨0, by omega, rfl, vec_nil w2⟩
    case round =>
      obtain ⟨k, hk, rfl, av, cv, rfl, hown, hnx, hsz⟩ := hrel
      obtain ⟨P, hP⟩ : ∃ P, linL q xs ys k = P := ⟨_, rfl⟩
      rw [hP] at hown ⊢
      have HPP := Lib.hid hP
      have HPL : P.length ≤ 1048577 := by rw [← hP, linL_len]; omega
      have HOW := Lib.hid hown
      have HX := Lib.hid hnx
      have HZ := Lib.hid hsz
      by_cases hlt : k < q
      · obtain ⟨v, hv⟩ : ∃ v, vs[k]? = some v := ⟨_, List.getElem?_eq_getElem (by omega)⟩
        obtain ⟨g, rfl, hgl, hgc⟩ := own_at O2.out hv
        have HV := Lib.hid (HSN.out.2 k v hv)
        have hc5 : wr.cell? ⟨g, k, none⟩ = some v := by rw [hnx.cell (p := ⟨g, k, none⟩) hgl]; exact hgc
        clear hown hnx hsz hP hv hgc
        go_wp2_with fail
        refine (lin_num HV.out _).mono ?_
        rintro e w3 ⟨rfl, hb3⟩
        have O3 := Lib.hid (own_below HOW.out hb3)
        have X3 := Lib.hid (HX.out.trans (hb3.mono HZ.out))
        have Z3 := Lib.hid (Nat.le_trans HZ.out hb3.size)
        have HN := Lib.hid (linL_snoc q xs ys k)
        clear hb3
        go_wp2_with (at_builtin; refine append_int rfl _ _ rfl w2.heap.size _ P _ _ O3.out HPL Z3.out _ rfl rfl rfl ?_; intro a' c' w' hown' hb'; have HO2 := Lib.hid hown'; have HX2 := Lib.hid hb'; clear hown' hb')
        go_roundw
        case rel =>
          refine ⟨k + 1, by omega, by go_num, ?_⟩
          rw [HN.out, HPP.out]
          have := vec_snoc X3.out Z3.out HO2.out HX2.out
          simpa using this
        case measure => simp [intOf]; omega
      · have e : k = q := by omega
        have HF : Hid (linZ q xs t ys = P) := Lib.hid (by rw [HE.out, ← HPP.out, e, Int.toNat_natCast])
        clear e hown hnx hsz hP
        go_wp2
        go_ret
        rw [HF.out]
        exact ⟨av, cv, rfl, own_base HOW.out B2.out.size, B2.out.trans (HX.out.mono B2.out.size)⟩
  · rw [cB_no hc] at HC
    have HE : Hid (linZ s xs t ys = []) := Lib.hid (cZ_no hc)
    clear hc
    go_enter Try.func16, Try.ntmps16
    go_wp2_with fail
    rw [← HW.out]
    refine (HC.out _ (FA.out.below HB.out) (FB.out.below HB.out)).mono ?_
    rintro e w1 ⟨rfl, hb1⟩
    have B1 := Lib.hid (HB.out.trans (hb1.mono HB.out.size))
    clear hb1
    go_wp2
    go_ret
    rw [HE.out]
    exact ⟨none, 0, rfl, World.ownsRow_nil _ _ _ _, B1.out⟩

theorem cnt_lin (s : Int) (xs ys : List Int) (k : Nat) : (linL s xs ys (k + 1)).count (-2) = (linL s xs ys k).count (-2) + (if 2 ≤ (atL s xs ys k).length then 1 else 0) := by
  rw [linL_snoc, count_snoc2]
  congr 1
  rcases h : atL s xs ys k with _ | ⟨z0, _ | ⟨z1, M⟩⟩
  · simp [lineN]
  · have := atK_mem (show z0 ∈ atL s xs ys k by rw [h]; simp)
    have e : ¬ lineN [z0] = -2 := by show ¬ z0 = -2; omega
    simp [e]
  · simp [lineN]

attribute [local go_sem] as_sv as_sk as_vv as_vk as_kv as_kk
set_option maxHeartbeats 2000000 in
set_option maxRecDepth 100000 in
theorem cla_impl (s : Int) (a : Option Addr) (n ca : Nat) (xs : List Int) (t : Int) (b : Option Addr) (m cb : Nat) (ys : List Int) (w : World) (ha : IntsAt w a n xs) (hn : xs.length ≤ 1048576) (hb : IntsAt w b m ys) (hm : ys.length ≤ 1048576) :
    Calls Try.prog 19 #[can s a n ca t b m cb] w fun e w' => e = .returned (.int .i64 (claN s xs t ys)) ∧ Below w.heap.size w w' := by
  obtain ⟨W0, hW⟩ : ∃ W0, W0 = w.alloc (canCells s a n ca t b m cb 29) := ⟨_, rfl⟩
  have HW := Lib.hid hW
  have HB := Lib.hid (show Below w.heap.size w W0 by rw [hW]; exact bel1 w _)
  have HT := Lib.hid (show Four W0 w.heap.size (.int .i64 s) (.slice a n ca) (.int .i64 t) (.slice b m cb) by rw [hW]; exact four_new w _ _ _ _ _)
  clear hW
  have hl : n ≤ 1048576 := by have := ha.1; omega
  have hlm : m ≤ 1048576 := by have := hb.1; omega
  have FA := Lib.hid ha
  have FB := Lib.hid hb
  clear ha hb
  have HC := Lib.hid (fun W hA hB => cval_impl s a n ca xs t b m cb ys W hA hn hB hm)
  by_cases hc : CC s xs t ys
  · rw [cB_yes hc] at HC
    have HE := Lib.hid (claN_yes hc)
    obtain ⟨q, rfl⟩ : ∃ q : Nat, s = q := ⟨s.toNat, by have := hc.1.1.1; omega⟩
    have hq1 : 1 ≤ q ∧ q ≤ 24 := by have := hc.1.1.1; omega
    have HA := Lib.hid (fun W hA hB => snds_impl q a n ca xs t b m cb ys W hA hl hB hlm hq1.1 hq1.2 (ok_mem' hc.1.2.1))
    clear hc
    go_enter Try.func19, Try.ntmps19
    go_wp2_with fail
    rw [← HW.out]
    refine (HC.out _ (FA.out.below HB.out) (FB.out.below HB.out)).mono ?_
    rintro e w1 ⟨rfl, hb1⟩
    have B1 := Lib.hid (HB.out.trans (hb1.mono HB.out.size))
    have T1 := Lib.hid (HT.out.keep hb1)
    obtain ⟨t0, t1, t2, t3, t4⟩ := T1.out
    clear hb1
    go_wp2_with fail
    refine (HA.out _ (FA.out.below B1.out) (FB.out.below B1.out)).mono ?_
    rintro e w2 ⟨p2, c2, vs, rfl, hsn, hown2, hb2⟩
    have B2 := Lib.hid (B1.out.trans (hb2.mono B1.out.size))
    have O2 := Lib.hid hown2
    have HSN := Lib.hid hsn
    have hvl : vs.length = q := hsn.1
    clear hown2 hb2 hsn
    go_wp2
    go_loop [3, 14] (fun v i => ∃ k : Nat, k ≤ q ∧ i = .int .i64 k ∧ v = .int .i64 ((linL q xs ys k).count (-2) : Nat)) (fun _ i => q - (intOf i).toNat)
    case atStart => exact ⟨0, by omega, rfl, rfl⟩
    case round =>
      obtain ⟨k, hk, rfl, rfl⟩ := hrel
      by_cases hlt : k < q
      · obtain ⟨v, hv⟩ : ∃ v, vs[k]? = some v := ⟨_, List.getElem?_eq_getElem (by omega)⟩
        obtain ⟨g, rfl, hgl, hc5⟩ := own_at O2.out hv
        have hcase := HSN.out.2 k v hv
        have HN := Lib.hid (cnt_lin q xs ys k)
        have hcl : (linL q xs ys k).count (-2) ≤ 24 := Nat.le_trans List.count_le_length (by rw [linL_len]; omega)
        generalize (linL q xs ys k).count (-2) = c at HN hcl ⊢
        generalize atL q xs ys k = L at HN hcase
        clear hv
        rcases hcase with ⟨rfl, rfl⟩ | ⟨x9, rfl, rfl⟩ | ⟨h9, a9, cap9, rfl⟩
        · go_wp2
          go_round
          case rel => exact ⟨k + 1, by omega, by go_num, by rw [HN.out]; rfl⟩
          case measure => simp [intOf]; omega
        · go_wp2
          go_round
          case rel => exact ⟨k + 1, by omega, by go_num, by rw [HN.out]; rfl⟩
          case measure => simp [intOf]; omega
        · rw [if_pos h9] at HN
          go_wp2
          go_round
          case rel => exact ⟨k + 1, by omega, by go_num, by rw [HN.out]; go_num⟩
          case measure => simp [intOf]; omega
      · have e : k = q := by omega
        have HF : Hid (claN q xs t ys = ((linL q xs ys k).count (-2) : Nat)) := Lib.hid (by rw [HE.out, e, Int.toNat_natCast])
        clear e
        go_wp2
        go_ret
        exact ⟨ret_int HF.out.symm, B2.out⟩
  · rw [cB_no hc] at HC
    have HE : Hid (claN s xs t ys = -1) := Lib.hid (claN_no hc)
    clear hc
    go_enter Try.func19, Try.ntmps19
    go_wp2_with fail
    rw [← HW.out]
    refine (HC.out _ (FA.out.below HB.out) (FB.out.below HB.out)).mono ?_
    rintro e w1 ⟨rfl, hb1⟩
    have B1 := Lib.hid (HB.out.trans (hb1.mono HB.out.size))
    clear hb1
    go_wp2
    go_ret
    exact ⟨ret_int HE.out.symm, B1.out⟩
end Go.Proofs.Ytldpikcgeijkpaa.Rhy
