/-
  Helpers of the claims beside this text: FirstAvoiding of the model.
-/
import Derived.Test.YtjgjcppkbfojpaaOdc
namespace Go.Proofs.Ytjgjcppkbfojpaa.Rhy
open Go.RowKit
set_option linter.unusedVariables false
set_option linter.unusedSimpArgs false
set_option maxRecDepth 100000

theorem step_app {ops : Array Oper} {o : Oper} {a : Act} {K : Act → World → Prop} {Q : Exit → Act → World → Prop} {E : Prop} (hgd : o.guard = none) (x y : Operand)
    (ho : o.op = .call { callee := .builtin .append, args := #[x, y], argTypes := #[23, 23] })
    (B : Nat) (av : Option Addr) (cv : Nat) (l : List Int) (A : Option Addr) (m c : Nat) (ys : List Int) (w : World) (hown : w.ownsRow B 3 1 (.slice av l.length cv) l.length (ints l)) (hr : IntsAt w A m ys)
    (hl : l.length ≤ 1048577) (hm : m ≤ 1048577) (hB : B ≤ w.heap.size)
    (hs : a.eval x = .slice av l.length cv) (hx : a.eval y = .slice A m c)
    (h : ∀ a' c' w', w'.ownsRow B 3 1 (.slice a' (l ++ ys).length c') (l ++ ys).length (ints (l ++ ys)) → w.grownBy w' (Value.slice av l.length cv).ownBlock → K (a.put o.dst (.slice a' (l ++ ys).length c')) w') :
    if Region.wanted o (yielded ops a.tmps) = true then Oper.wp Try.prog o a w K Q else E := by
  have hw : Region.wanted o (yielded ops a.tmps) = true := by unfold Region.wanted; rw [hgd]
  rw [if_pos hw]
  obtain ⟨i0, hi, hz0, hz1, hz2⟩ := info_parts infoInt
  have hyl := hr.1
  cases A with
  | none =>
    have hm0 : m = 0 := by
      rcases Nat.eq_zero_or_pos m with h0 | h0
      · exact h0
      · obtain ⟨b, off, h, _⟩ := hr.2.2 h0
        cases h
    subst hm0
    have hy : ys = [] := List.eq_nil_of_length_eq_zero hyl
    subst hy
    have hrun := run_app_nil o.type B _ _ _ w hown c
    unfold Oper.wp execOp
    simp only [ho, resolve, invoke, builtin, Sem.run_bind, Sem.run_pure, Result.andThen_ok, List.map_toArray, List.map_cons, List.map_nil, hs, hx, hrun]
    have h1 := h av cv w (by simpa using hown) (World.grownBy.refl _ _)
    have h2 : K (a.put o.dst (.slice av l.length cv)) w := by simpa using h1
    exact h2
  | some ad =>
    have hcells : ∀ j u, (ints ys)[j]? = some u → w.cell? (ad.add j) = some u := by
      intro j u hu
      rcases Nat.eq_zero_or_pos m with h0 | h0
      · subst h0
        have hy : ys = [] := List.eq_nil_of_length_eq_zero hyl
        subst hy
        simp [ints] at hu
      · obtain ⟨b, off, h, _, hc⟩ := hr.2.2 h0
        injection h with h
        subst h
        unfold ints at hu
        rw [List.getElem?_map, Option.map_eq_some_iff] at hu
        obtain ⟨z, hz, rfl⟩ := hu
        rw [Go.WideShapes.add_plain]
        exact hc j z hz
    refine wp_append_own w x y 23 ho B 3 i0 (.int .i64 0) 1 8 Try.underlying23 hi hz0 hz1 hz2 rfl (by decide) _ l.length (ints l) hs hown ad m c (ints ys) hx (by simp [ints, hyl]) hcells ?_ ?_ ?_ hB ?_
    · intro u hu
      unfold ints at hu
      rw [List.mem_map] at hu
      obtain ⟨z, _, rfl⟩ := hu
      rfl
    · unfold maxLen; omega
    · omega
    · intro v' w' ho' hg _
      have ho2 : w'.ownsRow B 3 1 v' (l ++ ys).length (ints (l ++ ys)) := by
        rw [List.length_append, hyl]
        simpa [ints] using ho'
      obtain ⟨_, a', c', rfl, _⟩ := own_shape ho2
      exact h a' c' w' ho2 hg
theorem box_apart {w : World} {b B n : Nat} {v0 v1 v : Value} {t e : TypeId} {size : Nat} {xs : List Value} (h : Box w b v0 v1 t) (ht : t ≠ e) (hr : w.ownsRow B e size v n xs) : some b ≠ v.ownBlock := by
  rcases hr.2 with ⟨rfl, _⟩ | ⟨g, cap, cur, rfl, _, hgb, _⟩
  · simp [Value.ownBlock]
  · intro e'
    obtain rfl : b = g := by simpa [Value.ownBlock] using e'
    have := (show w.heap[b]? = _ from h).symm.trans hgb
    simp at this
    exact ht this.2
theorem box_row {w w' : World} {b B n : Nat} {v0 v1 v : Value} {t e : TypeId} {size : Nat} {xs : List Value} (h : Box w b v0 v1 t) (ht : t ≠ e) (hr : w.ownsRow B e size v n xs) (hg : w.grownBy w' v.ownBlock) : Box w' b v0 v1 t :=
  (hg.block b h.lt (box_apart h ht hr)).trans h
theorem own_past {w : World} {b B n : Nat} {v0 v1 v : Value} {xs : List Value} (hr : w.ownsRow B 3 1 v n xs) (h : Box w b v0 v1 25) (u0 u1 : Value) : ((w.setCell ⟨b, 0, none⟩ u0).setCell ⟨b, 1, none⟩ u1).ownsRow B 3 1 v n xs := by
  have hne := box_apart h (by decide) hr
  refine ⟨hr.1, ?_⟩
  rcases hr.2 with hn | ⟨g, c, cur, rfl, hb, hg, rest⟩
  · exact .inl hn
  · have hgb : g ≠ b := fun e => hne (by rw [← e]; rfl)
    exact .inr ⟨g, c, cur, rfl, hb, by rw [heap_setCell_other _ _ _ _ hgb, heap_setCell_other _ _ _ _ hgb]; exact hg, rest⟩
theorem ints_box {w : World} {b : Nat} {y : Int} (h : Boxed w b 3 (.int .i64 y)) (hy : -9223372036854775808 ≤ y ∧ y ≤ 9223372036854775807) : IntsAt w (some ⟨b, 0, none⟩) 1 [y] :=
  ⟨rfl, fun z hz => by rw [List.mem_singleton] at hz; subst hz; exact hy, fun _ => ⟨b, 0, rfl, h.lt, fun j z hj => by
    rcases j with _ | j
    · rw [← Option.some.inj hj]; exact h.cell
    · cases hj⟩⟩

/-- What the model's search hands back: the rhythm whose bits firstN found. -/
def FsPost (B n : Nat) (r : Option Nat) (w : World) (e : Ending) (w' : World) : Prop :=
  Below w.heap.size w w' ∧ match r with
    | some z => ∃ a c, e = .returned (.tuple #[rhy n a (bitsL n z).length c, .bool true]) ∧ w'.ownsRow B 3 1 (.slice a (bitsL n z).length c) (bitsL n z).length (ints (bitsL n z))
    | none => e = .returned (.tuple #[rhy 0 none 0 0, .bool false])

set_option maxHeartbeats 400000 in
theorem fs_zero (n p B : Nat) (d : Int) (a : Option Addr) (cap : Nat) (Z : List Int) (w : World) (hB : B ≤ w.heap.size) (hown : w.ownsRow B 3 1 (.slice a Z.length cap) Z.length (ints Z)) :
    Calls Try.prog 107 #[rhy n a Z.length cap, .int .i64 d, .int .i64 0, .int .i64 p] w fun e w' => Below w.heap.size w w' ∧ e = .returned (.tuple #[rhy n a Z.length cap, .bool true]) ∧ w'.ownsRow B 3 1 (.slice a Z.length cap) Z.length (ints Z) := by
  have HOW := Lib.hid hown
  clear hown
  obtain ⟨W0, hW⟩ : ∃ W0, W0 = (w.alloc (.cells #[.int .i64 n, .slice a Z.length cap] 25)).alloc (.cells #[.int .i64 0, .slice none 0 0] 25) := ⟨_, rfl⟩
  have HW := Lib.hid hW
  have HB0 := Lib.hid (show Below w.heap.size w W0 by rw [hW]; exact bel2 w _ _)
  have HT := Lib.hid (show Box W0 w.heap.size (.int .i64 n) (.slice a Z.length cap) 25 by rw [hW]; exact (box_new w _ _ _).keep (bel1 _ _) (by simp))
  have HU := Lib.hid (show Box W0 (w.heap.size + 1) (.int .i64 0) (.slice none 0 0) 25 by
    rw [hW]
    have := box_new (w.alloc (.cells #[.int .i64 n, .slice a Z.length cap] 25)) (.int .i64 0) (.slice none 0 0) 25
    simpa using this)
  have hz0 : w.heap.size + 2 ≤ W0.heap.size := by rw [hW]; simp
  clear hW
  obtain ⟨t0, t1, _, _⟩ := HT.out.facts
  obtain ⟨u0, u1, u2, u3⟩ := HU.out.facts
  have ult := HU.out.lt
  go_enter Try.func107, Try.ntmps107
  go_wp2_with fail
  try rw [← HW.out]
  refine bodyPost_ret (v := .tuple #[rhy n a Z.length cap, .bool true]) (by simp [results, Try.results107, go_sem, *]) rfl ?_
  exact ⟨bel2 _ _ _, rfl, (HOW.out.alloc _).alloc _⟩
set_option maxHeartbeats 400000 in
theorem fs_few (n p k : Nat) (d : Int) (a : Option Addr) (cap : Nat) (Z : List Int) (w : World) (hk : 1 ≤ k) (hn : n ≤ 24) (hp : p ≤ 24) (hk2 : k ≤ 24) (h : n < p + k) :
    Calls Try.prog 107 #[rhy n a Z.length cap, .int .i64 d, .int .i64 k, .int .i64 p] w fun e w' => Below w.heap.size w w' ∧ e = .returned (.tuple #[rhy 0 none 0 0, .bool false]) := by
  have hgt : decide ((n : Int) < (p : Int) + (k : Int)) = true := by simp; omega
  have hgt3 : decide (n < p + k) = true := by simp; omega
  have hk0 : ((k : Int) == 0) = false := by simp; omega
  obtain ⟨W0, hW⟩ : ∃ W0, W0 = (w.alloc (.cells #[.int .i64 n, .slice a Z.length cap] 25)).alloc (.cells #[.int .i64 0, .slice none 0 0] 25) := ⟨_, rfl⟩
  have HW := Lib.hid hW
  have HB0 := Lib.hid (show Below w.heap.size w W0 by rw [hW]; exact bel2 w _ _)
  have HT := Lib.hid (show Box W0 w.heap.size (.int .i64 n) (.slice a Z.length cap) 25 by rw [hW]; exact (box_new w _ _ _).keep (bel1 _ _) (by simp))
  have HU := Lib.hid (show Box W0 (w.heap.size + 1) (.int .i64 0) (.slice none 0 0) 25 by
    rw [hW]
    have := box_new (w.alloc (.cells #[.int .i64 n, .slice a Z.length cap] 25)) (.int .i64 0) (.slice none 0 0) 25
    simpa using this)
  have hz0 : w.heap.size + 2 ≤ W0.heap.size := by rw [hW]; simp
  clear hW
  obtain ⟨t0, t1, _, _⟩ := HT.out.facts
  obtain ⟨u0, u1, u2, u3⟩ := HU.out.facts
  have ult := HU.out.lt
  go_enter Try.func107, Try.ntmps107
  go_wp2_with fail
  try rw [← HW.out]
  refine bodyPost_ret (v := .tuple #[rhy 0 none 0 0, .bool false]) (by simp [results, Try.results107, go_sem, *]) rfl ?_
  exact ⟨HB0.out, rfl⟩

set_option maxHeartbeats 4000000 in
theorem fs_any (n d : Nat) (hn : 2 ≤ n ∧ n ≤ 16) (hd : 1 ≤ d ∧ d < n) (B : Nat) : ∀ (m c k : Nat) (a : Option Addr) (cap : Nat) (w : World), m ≤ n → 2 ^ m * c < 2 ^ n → goodB n d (2 ^ m * c) = true → k ≤ 16 → B ≤ w.heap.size →
    w.ownsRow B 3 1 (.slice a (bitsL n (2 ^ m * c)).length cap) (bitsL n (2 ^ m * c)).length (ints (bitsL n (2 ^ m * c))) →
    Calls Try.prog 107 #[rhy n a (bitsL n (2 ^ m * c)).length cap, .int .i64 d, .int .i64 k, .int .i64 ((n - m : Nat) : Int)] w (FsPost B n (firstN n d m (2 ^ m * c) k) w) := by
  intro m
  induction m with
  | zero =>
    intro c k a cap w hm hx hg hk hB hown
    rcases k with _ | k
    · refine (fs_zero n (n - 0) B d a cap _ w hB hown).mono ?_
      rintro e w' ⟨h1, rfl, h3⟩
      exact ⟨h1, a, cap, rfl, h3⟩
    · refine (fs_few n (n - 0) (k + 1) d a cap _ w (by omega) (by omega) (by omega) (by omega) (by omega)).mono ?_
      rintro e w' ⟨h1, rfl⟩
      exact ⟨h1, rfl⟩
  | succ m ih =>
    intro c k a cap w hm hx hg hk hB hown
    rcases k with _ | k
    · refine (fs_zero n (n - (m + 1)) B d a cap _ w hB hown).mono ?_
      rintro e w' ⟨h1, rfl, h3⟩
      exact ⟨h1, a, cap, rfl, h3⟩
    by_cases hfew : m + 1 < k + 1
    · rw [first_few hg hfew]
      refine (fs_few n (n - (m + 1)) (k + 1) d a cap _ w (by omega) (by omega) (by omega) (by omega) (by omega)).mono ?_
      rintro e w' ⟨h1, rfl⟩
      exact ⟨h1, rfl⟩
    have hn1 := hn.1
    have hn2 := hn.2
    have hd1 := hd.1
    have hd2 := hd.2
    obtain ⟨p, hp⟩ : ∃ p, n - (m + 1) = p := ⟨_, rfl⟩
    have hpn : p + m + 1 = n := by omega
    have hx2 : 2 ^ (m + 1) * c + 2 ^ m < 2 ^ n := by
      have h1 : 2 ^ n = 2 ^ (m + 1) * 2 ^ p := by rw [← Nat.pow_add]; congr 1; omega
      rw [h1] at hx ⊢
      have h2 : c < 2 ^ p := Nat.lt_of_mul_lt_mul_left hx
      have h3 : 2 ^ (m + 1) * (c + 1) ≤ 2 ^ (m + 1) * 2 ^ p := Nat.mul_le_mul_left _ h2
      have h4 : 2 ^ m < 2 ^ (m + 1) := by rw [Nat.pow_succ]; have := Nat.two_pow_pos m; omega
      rw [Nat.mul_add, Nat.mul_one] at h3
      omega
    have e1 : 2 ^ (m + 1) * c = 2 ^ m * (2 * c) := by rw [Nat.pow_succ, Nat.mul_assoc]
    have e2 : 2 ^ (m + 1) * c + 2 ^ m = 2 ^ m * (2 * c + 1) := by rw [e1, Nat.mul_add, Nat.mul_one]
    have hadd : bitsL n (2 ^ m * (2 * c + 1)) = bitsL n (2 ^ (m + 1) * c) ++ [(p : Int)] := by
      rw [← e2, bits_add ⟨by omega, by omega⟩ (by omega), show n - 1 - m = p by omega]
    have hga := good_add (n := n) (d := d) (m := m) (c := c) ⟨hn1, by omega⟩ hd (by omega) hx2 hg
    rw [show n - 1 - m = p by omega] at hga
    have hpm : n - m = p + 1 := by omega
    obtain ⟨Z, hZ⟩ : ∃ Z, bitsL n (2 ^ (m + 1) * c) = Z := ⟨_, rfl⟩
    have HOK : Hid (Ok n Z) := Lib.hid (by rw [← hZ]; exact bits_ok (by omega) (by omega))
    have hzl := ok_len HOK.out
    rw [hZ] at hown hadd hga ⊢
    rw [hp]
    have HOW := Lib.hid hown
    have HIZ := Lib.hid (intsAt_own hown (ok_int HOK.out))
    have hfn : firstN n d (m + 1) (2 ^ (m + 1) * c) (k + 1) = if goodB n d (2 ^ (m + 1) * c + 2 ^ m) = true then
      (match firstN n d m (2 ^ (m + 1) * c + 2 ^ m) k with
        | some z => some z
        | none => firstN n d m (2 ^ (m + 1) * c) (k + 1))
      else firstN n d m (2 ^ (m + 1) * c) (k + 1) := rfl
    have HIH2 : Hid (∀ W : World, Below w.heap.size w W → Calls Try.prog 107 #[rhy n a Z.length cap, .int .i64 d, .int .i64 ((k : Int) + 1), .int .i64 ((p : Int) + 1)] W (FsPost B n (firstN n d m (2 ^ (m + 1) * c) (k + 1)) W)) := Lib.hid (fun W hW => by
      have h := ih (2 * c) (k + 1) a cap W (by omega) (by rw [← e1]; exact hx) (by rw [← e1]; exact hg) hk (Nat.le_trans hB hW.size) (by rw [← e1, hZ]; exact own_below HOW.out hW)
      rw [← e1, hZ, hpm] at h
      exact h)
    have HIH1 : Hid (∀ (W : World) (b : Option Addr) (e : Nat), goodB n d (2 ^ (m + 1) * c + 2 ^ m) = true → B ≤ W.heap.size → W.ownsRow B 3 1 (.slice b (Z.length + 1) e) (Z.length + 1) (ints (Z ++ [(p : Int)])) → Calls Try.prog 107 #[rhy n b (Z.length + 1) e, .int .i64 d, .int .i64 k, .int .i64 ((p : Int) + 1)] W (FsPost B n (firstN n d m (2 ^ (m + 1) * c + 2 ^ m) k) W)) := Lib.hid (fun W b e hgg hBW how => by
      have hl : (Z ++ [(p : Int)]).length = Z.length + 1 := by rw [List.length_append]; rfl
      have h := ih (2 * c + 1) k b e W (by omega) (by rw [← e2]; exact hx2) (by rw [← e2]; exact hgg) (by omega) hBW (by rw [hadd, hl]; exact how)
      rw [hadd, hl, ← e2, hpm] at h
      exact h)
    obtain ⟨A, hA⟩ : ∃ A, 2 ^ (m + 1) * c = A := ⟨_, rfl⟩
    obtain ⟨A2, hA2⟩ : ∃ A2, A + 2 ^ m = A2 := ⟨_, rfl⟩
    rw [hA] at hfn hga HIH1 HIH2 ⊢
    rw [hA2] at hfn hga HIH1
    have HFN0 := Lib.hid hfn
    have HGA := Lib.hid hga
    clear ih hp hown hx hx2 hg e1 e2 hadd hga hfn hA hA2 hZ hpm hm
    obtain ⟨W0, hW⟩ : ∃ W0, W0 = (w.alloc (.cells #[.int .i64 n, .slice a Z.length cap] 25)).alloc (.cells #[.int .i64 0, .slice none 0 0] 25) := ⟨_, rfl⟩
    have HW := Lib.hid hW
    have HB0 := Lib.hid (show Below w.heap.size w W0 by rw [hW]; exact bel2 w _ _)
    have HT := Lib.hid (show Box W0 w.heap.size (.int .i64 n) (.slice a Z.length cap) 25 by rw [hW]; exact (box_new w _ _ _).keep (bel1 _ _) (by simp))
    have HU := Lib.hid (show Box W0 (w.heap.size + 1) (.int .i64 0) (.slice none 0 0) 25 by
      rw [hW]
      have := box_new (w.alloc (.cells #[.int .i64 n, .slice a Z.length cap] 25)) (.int .i64 0) (.slice none 0 0) 25
      simpa using this)
    have hz0 : w.heap.size + 2 ≤ W0.heap.size := by rw [hW]; simp
    clear hW
    obtain ⟨t0, t1, _, _⟩ := HT.out.facts
    obtain ⟨u0, u1, u2, u3⟩ := HU.out.facts
    have ult := HU.out.lt
    have hgt : decide ((n : Int) < (p : Int) + ((k : Int) + 1)) = false := by simp; omega
    have hgt3 : decide (n < p + (k + 1)) = false := by simp; omega
    have hk0' : (((k : Int) + 1) == 0) = false := by simp; omega
    have HBT : Hid (∀ j : Int, beatB n Z j = hasB Z (j % n)) := Lib.hid (fun j => by rw [beatB_yes HOK.out]; rfl)
    go_enter Try.func107, Try.ntmps107
    go_wp2_with fail
    rw [← HW.out]
    refine (beat_spec n a Z.length cap Z ((p : Int) + d) W0 (HIZ.out.below HB0.out) (by omega) (by omega) (by omega)).mono ?_
    rintro e w2 ⟨rfl, hb2⟩
    have HB2 := Lib.hid hb2
    have HT2 := Lib.hid (HT.out.keep hb2 HT.out.lt)
    have HU2 := Lib.hid (HU.out.keep hb2 HU.out.lt)
    clear hb2 t0 t1 u0 u1 u2 u3 ult
    cases q1 : beatB n Z ((p : Int) + d)
    · have hq1 : hasB Z (((p : Int) + d) % n) = false := by rw [← HBT.out]; exact q1
      have HQ1 := Lib.hid hq1
      clear hq1 q1
      obtain ⟨t0, t1, _, _⟩ := HT2.out.facts
      go_wp2_with fail
      refine (beat_spec n a Z.length cap Z ((p : Int) - d) w2 (HIZ.out.below (HB0.out.trans (HB2.out.mono (by omega)))) (by omega) (by omega) (by omega)).mono ?_
      rintro e w3 ⟨rfl, hb3⟩
      have HB3 := Lib.hid (HB2.out.trans (hb3.mono HB2.out.size))
      have HT3 := Lib.hid (HT2.out.keep hb3 HT2.out.lt)
      have HU3 := Lib.hid (HU2.out.keep hb3 HU2.out.lt)
      clear hb3 t0 t1
      cases q2 : beatB n Z ((p : Int) - d)
      · have hq2 : hasB Z (((p : Int) - d) % n) = false := by rw [← HBT.out]; exact q2
        have hgood : goodB n d A2 = true := HGA.out.2 ⟨(fun hm => by have h := HQ1.out; unfold hasB at h; rw [List.contains_iff_mem.2 hm] at h; cases h), (fun hm => by have h := hq2; unfold hasB at h; rw [List.contains_iff_mem.2 hm] at h; cases h)⟩
        have HGD := Lib.hid hgood
        clear hq2 q2 hgood
        obtain ⟨t0, t1, _, _⟩ := HT3.out.facts
        go_upto_region 6 with fail
        go_cut [10] (fun s10 wx => ∃ g b e, s10 = .pointer (some ⟨g, 0, none⟩) ∧ Box wx g (.int .i64 n) (.slice b (Z.length + 1) e) 25 ∧ wx.ownsRow w3.heap.size 3 1 (.slice b (Z.length + 1) e) (Z.length + 1) (ints (Z ++ [(p : Int)])) ∧ Below w3.heap.size w3 wx ∧ w3.heap.size ≤ g)
        case first =>
          have hz3 := HB3.out.size
          have HIZW : Hid (∀ W : World, Below w3.heap.size w3 W → IntsAt W a Z.length Z) := Lib.hid (fun W hW => HIZ.out.below ((HB0.out.trans (HB3.out.mono (by omega))).trans (hW.mono (by omega))))
          have HK : Hid (∀ W : World, Below w3.heap.size w3 W → W.cell? ⟨w.heap.size, 0, none⟩ = some (.int .i64 n) ∧ W.cell? ⟨w.heap.size, 1, none⟩ = some (.slice a Z.length cap)) := Lib.hid (fun W hW => ⟨(HT3.out.keep hW HT3.out.lt).facts.1, (HT3.out.keep hW HT3.out.lt).facts.2.1⟩)
          refine wp_region_held_drew (S := fun W => W.cell? ⟨w.heap.size, 0, none⟩ = some (.int .i64 n) ∧ W.cell? ⟨w.heap.size, 1, none⟩ = some (.slice a Z.length cap)) (by kernel_rfl) (HK.out _ (Below.refl _ _).drew) (fun hSS => ?_)
          refine wpAnyH_take (i := 0) (oi := ⟨some 37, _, _, _, _, _⟩) (v := .pointer (some ⟨w.heap.size, 0, none⟩)) rfl (by kernel_rfl) (by kernel_rfl) (by kernel_rfl) (fun _ _ _ h => h) (Or.inl ⟨by rfl, fun W hSw => by go_simp⟩) (by assumption) ?_
          try simp only [Act.put, List.setIfInBounds_toArray, List.set_cons_zero, List.set_cons_succ]
          refine wpAnyH_take (i := 1) (oi := ⟨some 38, _, _, _, _, _⟩) (v := .int .i64 n) rfl (by kernel_rfl) (by kernel_rfl) (by kernel_rfl) (fun _ _ _ h => h) (Or.inl ⟨by rfl, fun W hSw => by obtain ⟨q1, q2⟩ := hSw; go_simp⟩) (by assumption) ?_
          try simp only [Act.put, List.setIfInBounds_toArray, List.set_cons_zero, List.set_cons_succ]
          refine wpAnyH_take (i := 3) (oi := ⟨some 40, _, _, _, _, _⟩) (v := .pointer (some ⟨w.heap.size, 1, none⟩)) rfl (by kernel_rfl) (by kernel_rfl) (by kernel_rfl) (fun _ _ _ h => h) (Or.inl ⟨by rfl, fun W hSw => by go_simp⟩) (by assumption) ?_
          try simp only [Act.put, List.setIfInBounds_toArray, List.set_cons_zero, List.set_cons_succ]
          refine wpAnyH_take (i := 4) (oi := ⟨some 41, _, _, _, _, _⟩) (v := .slice a Z.length cap) rfl (by kernel_rfl) (by kernel_rfl) (by kernel_rfl) (fun _ _ _ h => h) (Or.inl ⟨by rfl, fun W hSw => by obtain ⟨q1, q2⟩ := hSw; go_simp⟩) (by assumption) ?_
          try simp only [Act.put, List.setIfInBounds_toArray, List.set_cons_zero, List.set_cons_succ]
          refine wpAnyH_take (i := 6) (oi := ⟨some 43, _, _, _, _, _⟩) (v := .int .i64 p) rfl (by kernel_rfl) (by kernel_rfl) (by kernel_rfl) (fun _ _ _ h => h) (Or.inl ⟨by rfl, fun W hSw => by go_simp⟩) (by assumption) ?_
          try simp only [Act.put, List.setIfInBounds_toArray, List.set_cons_zero, List.set_cons_succ]
          obtain ⟨v0, hv0⟩ : ∃ V, V = w3.drew := ⟨_, rfl⟩
          rw [← hv0]
          have B0 : Hid (Below w3.heap.size w3 v0) := Lib.hid (by rw [hv0]; exact (Below.refl _ _).drew)
          have z0 : w3.heap.size ≤ v0.heap.size := by rw [hv0]; exact Nat.le_refl _
          clear hv0
          refine wpAnyH_ready (rs := [2, 7, 10]) (by kernel_rfl) (by simp) ?_
          refine AllReadyH.cons rfl (fun K hKK => ?_) (AllReadyH.cons rfl (fun K hKK => ?_) (AllReadyH.cons rfl (fun K hKK => ?_) AllReadyH.nil))
          · skip
            go_simp
            obtain ⟨v1, hv1⟩ : ∃ V, V = v0.alloc (.cells #[] 3) := ⟨_, rfl⟩
            rw [← hv1]
            have B1 : Hid (Below w3.heap.size w3 v1) := Lib.hid (by rw [hv1]; exact B0.out.alloc (by omega) _)
            have z1 : v0.heap.size < v1.heap.size := by rw [hv1]; simp
            have E1 : Hid (v1.ownsRow w3.heap.size 3 1 (.slice (some ⟨v0.heap.size, 0, none⟩) 0 0) 0 (ints [])) := Lib.hid (by rw [hv1]; exact World.ownsRow_made v0 #[] 0 (by omega) (by unfold maxLen; omega) rfl)
            clear hv1
            refine hKK.out _ _ (HK.out _ B1.out) (fun hSS => ?_)
            clear hKK K
            try simp only [Act.put, List.setIfInBounds_toArray, List.set_cons_zero, List.set_cons_succ]
            refine wpAnyH_ready (rs := [5, 7, 10]) (by kernel_rfl) (by simp) ?_
            refine AllReadyH.cons rfl (fun K hKK => ?_) (AllReadyH.cons rfl (fun K hKK => ?_) (AllReadyH.cons rfl (fun K hKK => ?_) AllReadyH.nil))
            · skip
              refine step_app rfl _ _ rfl w3.heap.size (some ⟨v0.heap.size, 0, none⟩) 0 [] a Z.length cap Z v1 E1.out (HIZW.out _ B1.out) (by simp) (by omega) (by omega) rfl rfl ?_
              intro a2 c2 v2 hown hgr
              rw [List.nil_append] at hown ⊢
              have z2 : v1.heap.size ≤ v2.heap.size := hgr.size
              have B2 : Hid (Below w3.heap.size w3 v2) := Lib.hid (B1.out.grown hgr (by omega) (fun x hx => (E1.out.lt x hx).1))
              have A2 := Lib.hid hown
              clear hown hgr
              refine hKK.out _ _ (HK.out _ B2.out) (fun hSS => ?_)
              clear hKK K
              try simp only [Act.put, List.setIfInBounds_toArray, List.set_cons_zero, List.set_cons_succ]
              refine wpAnyH_ready (rs := [7, 10]) (by kernel_rfl) (by simp) ?_
              refine AllReadyH.cons rfl (fun K hKK => ?_) (AllReadyH.cons rfl (fun K hKK => ?_) AllReadyH.nil)
              · skip
                go_simp
                obtain ⟨v3, hv3⟩ : ∃ V, V = v2.alloc (.cells #[.int .i64 p] 3) := ⟨_, rfl⟩
                rw [← hv3]
                have B3 : Hid (Below w3.heap.size w3 v3) := Lib.hid (by rw [hv3]; exact B2.out.alloc (by omega) _)
                have z3 : v2.heap.size < v3.heap.size := by rw [hv3]; simp
                have A3 : Hid (v3.ownsRow w3.heap.size 3 1 (.slice a2 Z.length c2) Z.length (ints Z)) := Lib.hid (by rw [hv3]; exact A2.out.alloc _)
                have P3 : Hid (Boxed v3 v2.heap.size 3 (.int .i64 p)) := Lib.hid (by rw [hv3]; exact Boxed.new _ _ _)
                clear hv3
                refine hKK.out _ _ (HK.out _ B3.out) (fun hSS => ?_)
                clear hKK K
                try simp only [Act.put, List.setIfInBounds_toArray, List.set_cons_zero, List.set_cons_succ]
                refine wpAnyH_ready (rs := [8, 10]) (by kernel_rfl) (by simp) ?_
                refine AllReadyH.cons rfl (fun K hKK => ?_) (AllReadyH.cons rfl (fun K hKK => ?_) AllReadyH.nil)
                · skip
                  refine step_app rfl _ _ rfl w3.heap.size a2 c2 Z (some ⟨v2.heap.size, 0, none⟩) 1 1 [(p : Int)] v3 A3.out (ints_box P3.out (by omega)) (by omega) (by omega) (by omega) rfl rfl ?_
                  intro a4 c4 v4 hown hgr
                  have z4 : v3.heap.size ≤ v4.heap.size := hgr.size
                  have B4 : Hid (Below w3.heap.size w3 v4) := Lib.hid (B3.out.grown hgr (by omega) (fun x hx => (A3.out.lt x hx).1))
                  have Q4 := Lib.hid hown
                  clear hown hgr
                  refine hKK.out _ _ (HK.out _ B4.out) (fun hSS => ?_)
                  clear hKK K
                  try simp only [Act.put, List.setIfInBounds_toArray, List.set_cons_zero, List.set_cons_succ]
                  refine wpAnyH_take (i := 9) (oi := ⟨some 46, _, _, _, _, _⟩) (v := .agg #[.int .i64 n, .slice a4 (Z ++ [(p : Int)]).length c4]) rfl (by kernel_rfl) (by kernel_rfl) (by kernel_rfl) (fun _ _ _ h => h) (Or.inl ⟨by rfl, fun W hSw => by go_simp⟩) (by assumption) ?_
                  try simp only [Act.put, List.setIfInBounds_toArray, List.set_cons_zero, List.set_cons_succ]
                  refine wpAnyH_ready (rs := [10]) (by kernel_rfl) (by simp) ?_
                  refine AllReadyH.cons rfl (fun K hKK => ?_) AllReadyH.nil
                  go_simp
                  obtain ⟨v5, hv5⟩ : ∃ V, V = v4.alloc (.cells #[.int .i64 0, .slice none 0 0] 25) := ⟨_, rfl⟩
                  rw [← hv5]
                  have B5 : Hid (Below w3.heap.size w3 v5) := Lib.hid (by rw [hv5]; exact B4.out.alloc (by omega) _)
                  have z5 : v4.heap.size < v5.heap.size := by rw [hv5]; simp
                  have Q5 : Hid (v5.ownsRow w3.heap.size 3 1 (.slice a4 (Z ++ [(p : Int)]).length c4) (Z ++ [(p : Int)]).length (ints (Z ++ [(p : Int)]))) := Lib.hid (by rw [hv5]; exact Q4.out.alloc _)
                  have X5 : Hid (Box v5 v4.heap.size (.int .i64 0) (.slice none 0 0) 25) := Lib.hid (by rw [hv5]; exact box_new _ _ _ _)
                  clear hv5
                  refine hKK.out _ _ (HK.out _ B5.out) (fun hSS => ?_)
                  clear hKK K
                  try simp only [Act.put, List.setIfInBounds_toArray, List.set_cons_zero, List.set_cons_succ]
                  obtain ⟨_, _, x2, x3⟩ := X5.out.facts
                  have xl := X5.out.lt
                  refine wpAnyH_ready (rs := [11]) (by kernel_rfl) (by simp) ?_
                  refine AllReadyH.cons rfl (fun K hKK => ?_) AllReadyH.nil
                  go_simp
                  refine hKK.out _ _ (HK.out _ ((B5.out.setCell (by show w3.heap.size ≤ v4.heap.size; omega) _).setCell (by show w3.heap.size ≤ v4.heap.size; omega) _)) (fun hSS => ?_)
                  clear hKK K x2 x3 xl
                  try simp only [Act.put, List.setIfInBounds_toArray, List.set_cons_zero, List.set_cons_succ]
                  refine wpAnyH_done (by kernel_rfl) ?_ _
                  go_wp2_with fail
                  go_meet
                  exact ⟨v4.heap.size, a4, c4, rfl, box_two X5.out _ _, (by have h9 := own_past Q5.out X5.out (.int .i64 n) (.slice a4 (Z.length + 1) c4); rw [List.length_append] at h9; exact h9), (B5.out.setCell (by show w3.heap.size ≤ v4.heap.size; omega) _).setCell (by show w3.heap.size ≤ v4.heap.size; omega) _, by omega⟩
                · skip
                  go_simp
                  obtain ⟨v6, hv6⟩ : ∃ V, V = v3.alloc (.cells #[.int .i64 0, .slice none 0 0] 25) := ⟨_, rfl⟩
                  rw [← hv6]
                  have B6 : Hid (Below w3.heap.size w3 v6) := Lib.hid (by rw [hv6]; exact B3.out.alloc (by omega) _)
                  have z6 : v3.heap.size < v6.heap.size := by rw [hv6]; simp
                  have A6 : Hid (v6.ownsRow w3.heap.size 3 1 (.slice a2 Z.length c2) Z.length (ints Z)) := Lib.hid (by rw [hv6]; exact A3.out.alloc _)
                  have P6 : Hid (Boxed v6 v2.heap.size 3 (.int .i64 p)) := Lib.hid (by rw [hv6]; exact P3.out.alloc _)
                  have X6 : Hid (Box v6 v3.heap.size (.int .i64 0) (.slice none 0 0) 25) := Lib.hid (by rw [hv6]; exact box_new _ _ _ _)
                  clear hv6
                  refine hKK.out _ _ (HK.out _ B6.out) (fun hSS => ?_)
                  clear hKK K
                  try simp only [Act.put, List.setIfInBounds_toArray, List.set_cons_zero, List.set_cons_succ]
                  refine wpAnyH_ready (rs := [8]) (by kernel_rfl) (by simp) ?_
                  refine AllReadyH.cons rfl (fun K hKK => ?_) AllReadyH.nil
                  refine step_app rfl _ _ rfl w3.heap.size a2 c2 Z (some ⟨v2.heap.size, 0, none⟩) 1 1 [(p : Int)] v6 A6.out (ints_box P6.out (by omega)) (by omega) (by omega) (by omega) rfl rfl ?_
                  intro a7 c7 v7 hown hgr
                  have z7 : v6.heap.size ≤ v7.heap.size := hgr.size
                  have B7 : Hid (Below w3.heap.size w3 v7) := Lib.hid (B6.out.grown hgr (by omega) (fun x hx => (A6.out.lt x hx).1))
                  have Q7 := Lib.hid hown
                  have X7 : Hid (Box v7 v3.heap.size (.int .i64 0) (.slice none 0 0) 25) := Lib.hid (box_row X6.out (by decide) A6.out hgr)
                  clear hown hgr
                  refine hKK.out _ _ (HK.out _ B7.out) (fun hSS => ?_)
                  clear hKK K
                  try simp only [Act.put, List.setIfInBounds_toArray, List.set_cons_zero, List.set_cons_succ]
                  refine wpAnyH_take (i := 9) (oi := ⟨some 46, _, _, _, _, _⟩) (v := .agg #[.int .i64 n, .slice a7 (Z ++ [(p : Int)]).length c7]) rfl (by kernel_rfl) (by kernel_rfl) (by kernel_rfl) (fun _ _ _ h => h) (Or.inl ⟨by rfl, fun W hSw => by go_simp⟩) (by assumption) ?_
                  try simp only [Act.put, List.setIfInBounds_toArray, List.set_cons_zero, List.set_cons_succ]
                  obtain ⟨_, _, x2, x3⟩ := X7.out.facts
                  have xl := X7.out.lt
                  refine wpAnyH_ready (rs := [11]) (by kernel_rfl) (by simp) ?_
                  refine AllReadyH.cons rfl (fun K hKK => ?_) AllReadyH.nil
                  go_simp
                  refine hKK.out _ _ (HK.out _ ((B7.out.setCell (by show w3.heap.size ≤ v3.heap.size; omega) _).setCell (by show w3.heap.size ≤ v3.heap.size; omega) _)) (fun hSS => ?_)
                  clear hKK K x2 x3 xl
                  try simp only [Act.put, List.setIfInBounds_toArray, List.set_cons_zero, List.set_cons_succ]
                  refine wpAnyH_done (by kernel_rfl) ?_ _
                  go_wp2_with fail
                  go_meet
                  exact ⟨v3.heap.size, a7, c7, rfl, box_two X7.out _ _, (by have h9 := own_past Q7.out X7.out (.int .i64 n) (.slice a7 (Z.length + 1) c7); rw [List.length_append] at h9; exact h9), (B7.out.setCell (by show w3.heap.size ≤ v3.heap.size; omega) _).setCell (by show w3.heap.size ≤ v3.heap.size; omega) _, by omega⟩
              · skip
                go_simp
                obtain ⟨v8, hv8⟩ : ∃ V, V = v2.alloc (.cells #[.int .i64 0, .slice none 0 0] 25) := ⟨_, rfl⟩
                rw [← hv8]
                have B8 : Hid (Below w3.heap.size w3 v8) := Lib.hid (by rw [hv8]; exact B2.out.alloc (by omega) _)
                have z8 : v2.heap.size < v8.heap.size := by rw [hv8]; simp
                have A8 : Hid (v8.ownsRow w3.heap.size 3 1 (.slice a2 Z.length c2) Z.length (ints Z)) := Lib.hid (by rw [hv8]; exact A2.out.alloc _)
                have X8 : Hid (Box v8 v2.heap.size (.int .i64 0) (.slice none 0 0) 25) := Lib.hid (by rw [hv8]; exact box_new _ _ _ _)
                clear hv8
                refine hKK.out _ _ (HK.out _ B8.out) (fun hSS => ?_)
                clear hKK K
                try simp only [Act.put, List.setIfInBounds_toArray, List.set_cons_zero, List.set_cons_succ]
                refine wpAnyH_ready (rs := [7]) (by kernel_rfl) (by simp) ?_
                refine AllReadyH.cons rfl (fun K hKK => ?_) AllReadyH.nil
                go_simp
                obtain ⟨v9, hv9⟩ : ∃ V, V = v8.alloc (.cells #[.int .i64 p] 3) := ⟨_, rfl⟩
                rw [← hv9]
                have B9 : Hid (Below w3.heap.size w3 v9) := Lib.hid (by rw [hv9]; exact B8.out.alloc (by omega) _)
                have z9 : v8.heap.size < v9.heap.size := by rw [hv9]; simp
                have A9 : Hid (v9.ownsRow w3.heap.size 3 1 (.slice a2 Z.length c2) Z.length (ints Z)) := Lib.hid (by rw [hv9]; exact A8.out.alloc _)
                have X9 : Hid (Box v9 v2.heap.size (.int .i64 0) (.slice none 0 0) 25) := Lib.hid (by rw [hv9]; exact X8.out.keep (bel1 _ _) X8.out.lt)
                have P9 : Hid (Boxed v9 v8.heap.size 3 (.int .i64 p)) := Lib.hid (by rw [hv9]; exact Boxed.new _ _ _)
                clear hv9
                refine hKK.out _ _ (HK.out _ B9.out) (fun hSS => ?_)
                clear hKK K
                try simp only [Act.put, List.setIfInBounds_toArray, List.set_cons_zero, List.set_cons_succ]
                refine wpAnyH_ready (rs := [8]) (by kernel_rfl) (by simp) ?_
                refine AllReadyH.cons rfl (fun K hKK => ?_) AllReadyH.nil
                refine step_app rfl _ _ rfl w3.heap.size a2 c2 Z (some ⟨v8.heap.size, 0, none⟩) 1 1 [(p : Int)] v9 A9.out (ints_box P9.out (by omega)) (by omega) (by omega) (by omega) rfl rfl ?_
                intro a10 c10 v10 hown hgr
                have z10 : v9.heap.size ≤ v10.heap.size := hgr.size
                have B10 : Hid (Below w3.heap.size w3 v10) := Lib.hid (B9.out.grown hgr (by omega) (fun x hx => (A9.out.lt x hx).1))
                have Q10 := Lib.hid hown
                have X10 : Hid (Box v10 v2.heap.size (.int .i64 0) (.slice none 0 0) 25) := Lib.hid (box_row X9.out (by decide) A9.out hgr)
                clear hown hgr
                refine hKK.out _ _ (HK.out _ B10.out) (fun hSS => ?_)
                clear hKK K
                try simp only [Act.put, List.setIfInBounds_toArray, List.set_cons_zero, List.set_cons_succ]
                refine wpAnyH_take (i := 9) (oi := ⟨some 46, _, _, _, _, _⟩) (v := .agg #[.int .i64 n, .slice a10 (Z ++ [(p : Int)]).length c10]) rfl (by kernel_rfl) (by kernel_rfl) (by kernel_rfl) (fun _ _ _ h => h) (Or.inl ⟨by rfl, fun W hSw => by go_simp⟩) (by assumption) ?_
                try simp only [Act.put, List.setIfInBounds_toArray, List.set_cons_zero, List.set_cons_succ]
                obtain ⟨_, _, x2, x3⟩ := X10.out.facts
                have xl := X10.out.lt
                refine wpAnyH_ready (rs := [11]) (by kernel_rfl) (by simp) ?_
                refine AllReadyH.cons rfl (fun K hKK => ?_) AllReadyH.nil
                go_simp
                refine hKK.out _ _ (HK.out _ ((B10.out.setCell (by show w3.heap.size ≤ v2.heap.size; omega) _).setCell (by show w3.heap.size ≤ v2.heap.size; omega) _)) (fun hSS => ?_)
                clear hKK K x2 x3 xl
                try simp only [Act.put, List.setIfInBounds_toArray, List.set_cons_zero, List.set_cons_succ]
                refine wpAnyH_done (by kernel_rfl) ?_ _
                go_wp2_with fail
                go_meet
                exact ⟨v2.heap.size, a10, c10, rfl, box_two X10.out _ _, (by have h9 := own_past Q10.out X10.out (.int .i64 n) (.slice a10 (Z.length + 1) c10); rw [List.length_append] at h9; exact h9), (B10.out.setCell (by show w3.heap.size ≤ v2.heap.size; omega) _).setCell (by show w3.heap.size ≤ v2.heap.size; omega) _, by omega⟩
            · skip
              go_simp
              obtain ⟨v11, hv11⟩ : ∃ V, V = v1.alloc (.cells #[.int .i64 p] 3) := ⟨_, rfl⟩
              rw [← hv11]
              have B11 : Hid (Below w3.heap.size w3 v11) := Lib.hid (by rw [hv11]; exact B1.out.alloc (by omega) _)
              have z11 : v1.heap.size < v11.heap.size := by rw [hv11]; simp
              have E11 : Hid (v11.ownsRow w3.heap.size 3 1 (.slice (some ⟨v0.heap.size, 0, none⟩) 0 0) 0 (ints [])) := Lib.hid (by rw [hv11]; exact E1.out.alloc _)
              have P11 : Hid (Boxed v11 v1.heap.size 3 (.int .i64 p)) := Lib.hid (by rw [hv11]; exact Boxed.new _ _ _)
              clear hv11
              refine hKK.out _ _ (HK.out _ B11.out) (fun hSS => ?_)
              clear hKK K
              try simp only [Act.put, List.setIfInBounds_toArray, List.set_cons_zero, List.set_cons_succ]
              refine wpAnyH_ready (rs := [5, 10]) (by kernel_rfl) (by simp) ?_
              refine AllReadyH.cons rfl (fun K hKK => ?_) (AllReadyH.cons rfl (fun K hKK => ?_) AllReadyH.nil)
              · skip
                refine step_app rfl _ _ rfl w3.heap.size (some ⟨v0.heap.size, 0, none⟩) 0 [] a Z.length cap Z v11 E11.out (HIZW.out _ B11.out) (by simp) (by omega) (by omega) rfl rfl ?_
                intro a12 c12 v12 hown hgr
                rw [List.nil_append] at hown ⊢
                have z12 : v11.heap.size ≤ v12.heap.size := hgr.size
                have B12 : Hid (Below w3.heap.size w3 v12) := Lib.hid (B11.out.grown hgr (by omega) (fun x hx => (E11.out.lt x hx).1))
                have A12 := Lib.hid hown
                have P12 : Hid (Boxed v12 v1.heap.size 3 (.int .i64 p)) := Lib.hid (P11.out.kept hgr (fun e => by have := Option.some.inj e; simp at this; omega))
                clear hown hgr
                refine hKK.out _ _ (HK.out _ B12.out) (fun hSS => ?_)
                clear hKK K
                try simp only [Act.put, List.setIfInBounds_toArray, List.set_cons_zero, List.set_cons_succ]
                refine wpAnyH_ready (rs := [8, 10]) (by kernel_rfl) (by simp) ?_
                refine AllReadyH.cons rfl (fun K hKK => ?_) (AllReadyH.cons rfl (fun K hKK => ?_) AllReadyH.nil)
                · skip
                  refine step_app rfl _ _ rfl w3.heap.size a12 c12 Z (some ⟨v1.heap.size, 0, none⟩) 1 1 [(p : Int)] v12 A12.out (ints_box P12.out (by omega)) (by omega) (by omega) (by omega) rfl rfl ?_
                  intro a13 c13 v13 hown hgr
                  have z13 : v12.heap.size ≤ v13.heap.size := hgr.size
                  have B13 : Hid (Below w3.heap.size w3 v13) := Lib.hid (B12.out.grown hgr (by omega) (fun x hx => (A12.out.lt x hx).1))
                  have Q13 := Lib.hid hown
                  clear hown hgr
                  refine hKK.out _ _ (HK.out _ B13.out) (fun hSS => ?_)
                  clear hKK K
                  try simp only [Act.put, List.setIfInBounds_toArray, List.set_cons_zero, List.set_cons_succ]
                  refine wpAnyH_take (i := 9) (oi := ⟨some 46, _, _, _, _, _⟩) (v := .agg #[.int .i64 n, .slice a13 (Z ++ [(p : Int)]).length c13]) rfl (by kernel_rfl) (by kernel_rfl) (by kernel_rfl) (fun _ _ _ h => h) (Or.inl ⟨by rfl, fun W hSw => by go_simp⟩) (by assumption) ?_
                  try simp only [Act.put, List.setIfInBounds_toArray, List.set_cons_zero, List.set_cons_succ]
                  refine wpAnyH_ready (rs := [10]) (by kernel_rfl) (by simp) ?_
                  refine AllReadyH.cons rfl (fun K hKK => ?_) AllReadyH.nil
                  go_simp
                  obtain ⟨v14, hv14⟩ : ∃ V, V = v13.alloc (.cells #[.int .i64 0, .slice none 0 0] 25) := ⟨_, rfl⟩
                  rw [← hv14]
                  have B14 : Hid (Below w3.heap.size w3 v14) := Lib.hid (by rw [hv14]; exact B13.out.alloc (by omega) _)
                  have z14 : v13.heap.size < v14.heap.size := by rw [hv14]; simp
                  have Q14 : Hid (v14.ownsRow w3.heap.size 3 1 (.slice a13 (Z ++ [(p : Int)]).length c13) (Z ++ [(p : Int)]).length (ints (Z ++ [(p : Int)]))) := Lib.hid (by rw [hv14]; exact Q13.out.alloc _)
                  have X14 : Hid (Box v14 v13.heap.size (.int .i64 0) (.slice none 0 0) 25) := Lib.hid (by rw [hv14]; exact box_new _ _ _ _)
                  clear hv14
                  refine hKK.out _ _ (HK.out _ B14.out) (fun hSS => ?_)
                  clear hKK K
                  try simp only [Act.put, List.setIfInBounds_toArray, List.set_cons_zero, List.set_cons_succ]
                  obtain ⟨_, _, x2, x3⟩ := X14.out.facts
                  have xl := X14.out.lt
                  refine wpAnyH_ready (rs := [11]) (by kernel_rfl) (by simp) ?_
                  refine AllReadyH.cons rfl (fun K hKK => ?_) AllReadyH.nil
                  go_simp
                  refine hKK.out _ _ (HK.out _ ((B14.out.setCell (by show w3.heap.size ≤ v13.heap.size; omega) _).setCell (by show w3.heap.size ≤ v13.heap.size; omega) _)) (fun hSS => ?_)
                  clear hKK K x2 x3 xl
                  try simp only [Act.put, List.setIfInBounds_toArray, List.set_cons_zero, List.set_cons_succ]
                  refine wpAnyH_done (by kernel_rfl) ?_ _
                  go_wp2_with fail
                  go_meet
                  exact ⟨v13.heap.size, a13, c13, rfl, box_two X14.out _ _, (by have h9 := own_past Q14.out X14.out (.int .i64 n) (.slice a13 (Z.length + 1) c13); rw [List.length_append] at h9; exact h9), (B14.out.setCell (by show w3.heap.size ≤ v13.heap.size; omega) _).setCell (by show w3.heap.size ≤ v13.heap.size; omega) _, by omega⟩
                · skip
                  go_simp
                  obtain ⟨v15, hv15⟩ : ∃ V, V = v12.alloc (.cells #[.int .i64 0, .slice none 0 0] 25) := ⟨_, rfl⟩
                  rw [← hv15]
                  have B15 : Hid (Below w3.heap.size w3 v15) := Lib.hid (by rw [hv15]; exact B12.out.alloc (by omega) _)
                  have z15 : v12.heap.size < v15.heap.size := by rw [hv15]; simp
                  have A15 : Hid (v15.ownsRow w3.heap.size 3 1 (.slice a12 Z.length c12) Z.length (ints Z)) := Lib.hid (by rw [hv15]; exact A12.out.alloc _)
                  have P15 : Hid (Boxed v15 v1.heap.size 3 (.int .i64 p)) := Lib.hid (by rw [hv15]; exact P12.out.alloc _)
                  have X15 : Hid (Box v15 v12.heap.size (.int .i64 0) (.slice none 0 0) 25) := Lib.hid (by rw [hv15]; exact box_new _ _ _ _)
                  clear hv15
                  refine hKK.out _ _ (HK.out _ B15.out) (fun hSS => ?_)
                  clear hKK K
                  try simp only [Act.put, List.setIfInBounds_toArray, List.set_cons_zero, List.set_cons_succ]
                  refine wpAnyH_ready (rs := [8]) (by kernel_rfl) (by simp) ?_
                  refine AllReadyH.cons rfl (fun K hKK => ?_) AllReadyH.nil
                  refine step_app rfl _ _ rfl w3.heap.size a12 c12 Z (some ⟨v1.heap.size, 0, none⟩) 1 1 [(p : Int)] v15 A15.out (ints_box P15.out (by omega)) (by omega) (by omega) (by omega) rfl rfl ?_
                  intro a16 c16 v16 hown hgr
                  have z16 : v15.heap.size ≤ v16.heap.size := hgr.size
                  have B16 : Hid (Below w3.heap.size w3 v16) := Lib.hid (B15.out.grown hgr (by omega) (fun x hx => (A15.out.lt x hx).1))
                  have Q16 := Lib.hid hown
                  have X16 : Hid (Box v16 v12.heap.size (.int .i64 0) (.slice none 0 0) 25) := Lib.hid (box_row X15.out (by decide) A15.out hgr)
                  clear hown hgr
                  refine hKK.out _ _ (HK.out _ B16.out) (fun hSS => ?_)
                  clear hKK K
                  try simp only [Act.put, List.setIfInBounds_toArray, List.set_cons_zero, List.set_cons_succ]
                  refine wpAnyH_take (i := 9) (oi := ⟨some 46, _, _, _, _, _⟩) (v := .agg #[.int .i64 n, .slice a16 (Z ++ [(p : Int)]).length c16]) rfl (by kernel_rfl) (by kernel_rfl) (by kernel_rfl) (fun _ _ _ h => h) (Or.inl ⟨by rfl, fun W hSw => by go_simp⟩) (by assumption) ?_
                  try simp only [Act.put, List.setIfInBounds_toArray, List.set_cons_zero, List.set_cons_succ]
                  obtain ⟨_, _, x2, x3⟩ := X16.out.facts
                  have xl := X16.out.lt
                  refine wpAnyH_ready (rs := [11]) (by kernel_rfl) (by simp) ?_
                  refine AllReadyH.cons rfl (fun K hKK => ?_) AllReadyH.nil
                  go_simp
                  refine hKK.out _ _ (HK.out _ ((B16.out.setCell (by show w3.heap.size ≤ v12.heap.size; omega) _).setCell (by show w3.heap.size ≤ v12.heap.size; omega) _)) (fun hSS => ?_)
                  clear hKK K x2 x3 xl
                  try simp only [Act.put, List.setIfInBounds_toArray, List.set_cons_zero, List.set_cons_succ]
                  refine wpAnyH_done (by kernel_rfl) ?_ _
                  go_wp2_with fail
                  go_meet
                  exact ⟨v12.heap.size, a16, c16, rfl, box_two X16.out _ _, (by have h9 := own_past Q16.out X16.out (.int .i64 n) (.slice a16 (Z.length + 1) c16); rw [List.length_append] at h9; exact h9), (B16.out.setCell (by show w3.heap.size ≤ v12.heap.size; omega) _).setCell (by show w3.heap.size ≤ v12.heap.size; omega) _, by omega⟩
              · skip
                go_simp
                obtain ⟨v17, hv17⟩ : ∃ V, V = v11.alloc (.cells #[.int .i64 0, .slice none 0 0] 25) := ⟨_, rfl⟩
                rw [← hv17]
                have B17 : Hid (Below w3.heap.size w3 v17) := Lib.hid (by rw [hv17]; exact B11.out.alloc (by omega) _)
                have z17 : v11.heap.size < v17.heap.size := by rw [hv17]; simp
                have E17 : Hid (v17.ownsRow w3.heap.size 3 1 (.slice (some ⟨v0.heap.size, 0, none⟩) 0 0) 0 (ints [])) := Lib.hid (by rw [hv17]; exact E11.out.alloc _)
                have P17 : Hid (Boxed v17 v1.heap.size 3 (.int .i64 p)) := Lib.hid (by rw [hv17]; exact P11.out.alloc _)
                have X17 : Hid (Box v17 v11.heap.size (.int .i64 0) (.slice none 0 0) 25) := Lib.hid (by rw [hv17]; exact box_new _ _ _ _)
                clear hv17
                refine hKK.out _ _ (HK.out _ B17.out) (fun hSS => ?_)
                clear hKK K
                try simp only [Act.put, List.setIfInBounds_toArray, List.set_cons_zero, List.set_cons_succ]
                refine wpAnyH_ready (rs := [5]) (by kernel_rfl) (by simp) ?_
                refine AllReadyH.cons rfl (fun K hKK => ?_) AllReadyH.nil
                refine step_app rfl _ _ rfl w3.heap.size (some ⟨v0.heap.size, 0, none⟩) 0 [] a Z.length cap Z v17 E17.out (HIZW.out _ B17.out) (by simp) (by omega) (by omega) rfl rfl ?_
                intro a18 c18 v18 hown hgr
                rw [List.nil_append] at hown ⊢
                have z18 : v17.heap.size ≤ v18.heap.size := hgr.size
                have B18 : Hid (Below w3.heap.size w3 v18) := Lib.hid (B17.out.grown hgr (by omega) (fun x hx => (E17.out.lt x hx).1))
                have A18 := Lib.hid hown
                have P18 : Hid (Boxed v18 v1.heap.size 3 (.int .i64 p)) := Lib.hid (P17.out.kept hgr (fun e => by have := Option.some.inj e; simp at this; omega))
                have X18 : Hid (Box v18 v11.heap.size (.int .i64 0) (.slice none 0 0) 25) := Lib.hid (box_row X17.out (by decide) E17.out hgr)
                clear hown hgr
                refine hKK.out _ _ (HK.out _ B18.out) (fun hSS => ?_)
                clear hKK K
                try simp only [Act.put, List.setIfInBounds_toArray, List.set_cons_zero, List.set_cons_succ]
                refine wpAnyH_ready (rs := [8]) (by kernel_rfl) (by simp) ?_
                refine AllReadyH.cons rfl (fun K hKK => ?_) AllReadyH.nil
                refine step_app rfl _ _ rfl w3.heap.size a18 c18 Z (some ⟨v1.heap.size, 0, none⟩) 1 1 [(p : Int)] v18 A18.out (ints_box P18.out (by omega)) (by omega) (by omega) (by omega) rfl rfl ?_
                intro a19 c19 v19 hown hgr
                have z19 : v18.heap.size ≤ v19.heap.size := hgr.size
                have B19 : Hid (Below w3.heap.size w3 v19) := Lib.hid (B18.out.grown hgr (by omega) (fun x hx => (A18.out.lt x hx).1))
                have Q19 := Lib.hid hown
                have X19 : Hid (Box v19 v11.heap.size (.int .i64 0) (.slice none 0 0) 25) := Lib.hid (box_row X18.out (by decide) A18.out hgr)
                clear hown hgr
                refine hKK.out _ _ (HK.out _ B19.out) (fun hSS => ?_)
                clear hKK K
                try simp only [Act.put, List.setIfInBounds_toArray, List.set_cons_zero, List.set_cons_succ]
                refine wpAnyH_take (i := 9) (oi := ⟨some 46, _, _, _, _, _⟩) (v := .agg #[.int .i64 n, .slice a19 (Z ++ [(p : Int)]).length c19]) rfl (by kernel_rfl) (by kernel_rfl) (by kernel_rfl) (fun _ _ _ h => h) (Or.inl ⟨by rfl, fun W hSw => by go_simp⟩) (by assumption) ?_
                try simp only [Act.put, List.setIfInBounds_toArray, List.set_cons_zero, List.set_cons_succ]
                obtain ⟨_, _, x2, x3⟩ := X19.out.facts
                have xl := X19.out.lt
                refine wpAnyH_ready (rs := [11]) (by kernel_rfl) (by simp) ?_
                refine AllReadyH.cons rfl (fun K hKK => ?_) AllReadyH.nil
                go_simp
                refine hKK.out _ _ (HK.out _ ((B19.out.setCell (by show w3.heap.size ≤ v11.heap.size; omega) _).setCell (by show w3.heap.size ≤ v11.heap.size; omega) _)) (fun hSS => ?_)
                clear hKK K x2 x3 xl
                try simp only [Act.put, List.setIfInBounds_toArray, List.set_cons_zero, List.set_cons_succ]
                refine wpAnyH_done (by kernel_rfl) ?_ _
                go_wp2_with fail
                go_meet
                exact ⟨v11.heap.size, a19, c19, rfl, box_two X19.out _ _, (by have h9 := own_past Q19.out X19.out (.int .i64 n) (.slice a19 (Z.length + 1) c19); rw [List.length_append] at h9; exact h9), (B19.out.setCell (by show w3.heap.size ≤ v11.heap.size; omega) _).setCell (by show w3.heap.size ≤ v11.heap.size; omega) _, by omega⟩
            · skip
              go_simp
              obtain ⟨v20, hv20⟩ : ∃ V, V = v1.alloc (.cells #[.int .i64 0, .slice none 0 0] 25) := ⟨_, rfl⟩
              rw [← hv20]
              have B20 : Hid (Below w3.heap.size w3 v20) := Lib.hid (by rw [hv20]; exact B1.out.alloc (by omega) _)
              have z20 : v1.heap.size < v20.heap.size := by rw [hv20]; simp
              have E20 : Hid (v20.ownsRow w3.heap.size 3 1 (.slice (some ⟨v0.heap.size, 0, none⟩) 0 0) 0 (ints [])) := Lib.hid (by rw [hv20]; exact E1.out.alloc _)
              have X20 : Hid (Box v20 v1.heap.size (.int .i64 0) (.slice none 0 0) 25) := Lib.hid (by rw [hv20]; exact box_new _ _ _ _)
              clear hv20
              refine hKK.out _ _ (HK.out _ B20.out) (fun hSS => ?_)
              clear hKK K
              try simp only [Act.put, List.setIfInBounds_toArray, List.set_cons_zero, List.set_cons_succ]
              refine wpAnyH_ready (rs := [5, 7]) (by kernel_rfl) (by simp) ?_
              refine AllReadyH.cons rfl (fun K hKK => ?_) (AllReadyH.cons rfl (fun K hKK => ?_) AllReadyH.nil)
              · skip
                refine step_app rfl _ _ rfl w3.heap.size (some ⟨v0.heap.size, 0, none⟩) 0 [] a Z.length cap Z v20 E20.out (HIZW.out _ B20.out) (by simp) (by omega) (by omega) rfl rfl ?_
                intro a21 c21 v21 hown hgr
                rw [List.nil_append] at hown ⊢
                have z21 : v20.heap.size ≤ v21.heap.size := hgr.size
                have B21 : Hid (Below w3.heap.size w3 v21) := Lib.hid (B20.out.grown hgr (by omega) (fun x hx => (E20.out.lt x hx).1))
                have A21 := Lib.hid hown
                have X21 : Hid (Box v21 v1.heap.size (.int .i64 0) (.slice none 0 0) 25) := Lib.hid (box_row X20.out (by decide) E20.out hgr)
                clear hown hgr
                refine hKK.out _ _ (HK.out _ B21.out) (fun hSS => ?_)
                clear hKK K
                try simp only [Act.put, List.setIfInBounds_toArray, List.set_cons_zero, List.set_cons_succ]
                refine wpAnyH_ready (rs := [7]) (by kernel_rfl) (by simp) ?_
                refine AllReadyH.cons rfl (fun K hKK => ?_) AllReadyH.nil
                go_simp
                obtain ⟨v22, hv22⟩ : ∃ V, V = v21.alloc (.cells #[.int .i64 p] 3) := ⟨_, rfl⟩
                rw [← hv22]
                have B22 : Hid (Below w3.heap.size w3 v22) := Lib.hid (by rw [hv22]; exact B21.out.alloc (by omega) _)
                have z22 : v21.heap.size < v22.heap.size := by rw [hv22]; simp
                have A22 : Hid (v22.ownsRow w3.heap.size 3 1 (.slice a21 Z.length c21) Z.length (ints Z)) := Lib.hid (by rw [hv22]; exact A21.out.alloc _)
                have X22 : Hid (Box v22 v1.heap.size (.int .i64 0) (.slice none 0 0) 25) := Lib.hid (by rw [hv22]; exact X21.out.keep (bel1 _ _) X21.out.lt)
                have P22 : Hid (Boxed v22 v21.heap.size 3 (.int .i64 p)) := Lib.hid (by rw [hv22]; exact Boxed.new _ _ _)
                clear hv22
                refine hKK.out _ _ (HK.out _ B22.out) (fun hSS => ?_)
                clear hKK K
                try simp only [Act.put, List.setIfInBounds_toArray, List.set_cons_zero, List.set_cons_succ]
                refine wpAnyH_ready (rs := [8]) (by kernel_rfl) (by simp) ?_
                refine AllReadyH.cons rfl (fun K hKK => ?_) AllReadyH.nil
                refine step_app rfl _ _ rfl w3.heap.size a21 c21 Z (some ⟨v21.heap.size, 0, none⟩) 1 1 [(p : Int)] v22 A22.out (ints_box P22.out (by omega)) (by omega) (by omega) (by omega) rfl rfl ?_
                intro a23 c23 v23 hown hgr
                have z23 : v22.heap.size ≤ v23.heap.size := hgr.size
                have B23 : Hid (Below w3.heap.size w3 v23) := Lib.hid (B22.out.grown hgr (by omega) (fun x hx => (A22.out.lt x hx).1))
                have Q23 := Lib.hid hown
                have X23 : Hid (Box v23 v1.heap.size (.int .i64 0) (.slice none 0 0) 25) := Lib.hid (box_row X22.out (by decide) A22.out hgr)
                clear hown hgr
                refine hKK.out _ _ (HK.out _ B23.out) (fun hSS => ?_)
                clear hKK K
                try simp only [Act.put, List.setIfInBounds_toArray, List.set_cons_zero, List.set_cons_succ]
                refine wpAnyH_take (i := 9) (oi := ⟨some 46, _, _, _, _, _⟩) (v := .agg #[.int .i64 n, .slice a23 (Z ++ [(p : Int)]).length c23]) rfl (by kernel_rfl) (by kernel_rfl) (by kernel_rfl) (fun _ _ _ h => h) (Or.inl ⟨by rfl, fun W hSw => by go_simp⟩) (by assumption) ?_
                try simp only [Act.put, List.setIfInBounds_toArray, List.set_cons_zero, List.set_cons_succ]
                obtain ⟨_, _, x2, x3⟩ := X23.out.facts
                have xl := X23.out.lt
                refine wpAnyH_ready (rs := [11]) (by kernel_rfl) (by simp) ?_
                refine AllReadyH.cons rfl (fun K hKK => ?_) AllReadyH.nil
                go_simp
                refine hKK.out _ _ (HK.out _ ((B23.out.setCell (by show w3.heap.size ≤ v1.heap.size; omega) _).setCell (by show w3.heap.size ≤ v1.heap.size; omega) _)) (fun hSS => ?_)
                clear hKK K x2 x3 xl
                try simp only [Act.put, List.setIfInBounds_toArray, List.set_cons_zero, List.set_cons_succ]
                refine wpAnyH_done (by kernel_rfl) ?_ _
                go_wp2_with fail
                go_meet
                exact ⟨v1.heap.size, a23, c23, rfl, box_two X23.out _ _, (by have h9 := own_past Q23.out X23.out (.int .i64 n) (.slice a23 (Z.length + 1) c23); rw [List.length_append] at h9; exact h9), (B23.out.setCell (by show w3.heap.size ≤ v1.heap.size; omega) _).setCell (by show w3.heap.size ≤ v1.heap.size; omega) _, by omega⟩
              · skip
                go_simp
                obtain ⟨v24, hv24⟩ : ∃ V, V = v20.alloc (.cells #[.int .i64 p] 3) := ⟨_, rfl⟩
                rw [← hv24]
                have B24 : Hid (Below w3.heap.size w3 v24) := Lib.hid (by rw [hv24]; exact B20.out.alloc (by omega) _)
                have z24 : v20.heap.size < v24.heap.size := by rw [hv24]; simp
                have E24 : Hid (v24.ownsRow w3.heap.size 3 1 (.slice (some ⟨v0.heap.size, 0, none⟩) 0 0) 0 (ints [])) := Lib.hid (by rw [hv24]; exact E20.out.alloc _)
                have X24 : Hid (Box v24 v1.heap.size (.int .i64 0) (.slice none 0 0) 25) := Lib.hid (by rw [hv24]; exact X20.out.keep (bel1 _ _) X20.out.lt)
                have P24 : Hid (Boxed v24 v20.heap.size 3 (.int .i64 p)) := Lib.hid (by rw [hv24]; exact Boxed.new _ _ _)
                clear hv24
                refine hKK.out _ _ (HK.out _ B24.out) (fun hSS => ?_)
                clear hKK K
                try simp only [Act.put, List.setIfInBounds_toArray, List.set_cons_zero, List.set_cons_succ]
                refine wpAnyH_ready (rs := [5]) (by kernel_rfl) (by simp) ?_
                refine AllReadyH.cons rfl (fun K hKK => ?_) AllReadyH.nil
                refine step_app rfl _ _ rfl w3.heap.size (some ⟨v0.heap.size, 0, none⟩) 0 [] a Z.length cap Z v24 E24.out (HIZW.out _ B24.out) (by simp) (by omega) (by omega) rfl rfl ?_
                intro a25 c25 v25 hown hgr
                rw [List.nil_append] at hown ⊢
                have z25 : v24.heap.size ≤ v25.heap.size := hgr.size
                have B25 : Hid (Below w3.heap.size w3 v25) := Lib.hid (B24.out.grown hgr (by omega) (fun x hx => (E24.out.lt x hx).1))
                have A25 := Lib.hid hown
                have P25 : Hid (Boxed v25 v20.heap.size 3 (.int .i64 p)) := Lib.hid (P24.out.kept hgr (fun e => by have := Option.some.inj e; simp at this; omega))
                have X25 : Hid (Box v25 v1.heap.size (.int .i64 0) (.slice none 0 0) 25) := Lib.hid (box_row X24.out (by decide) E24.out hgr)
                clear hown hgr
                refine hKK.out _ _ (HK.out _ B25.out) (fun hSS => ?_)
                clear hKK K
                try simp only [Act.put, List.setIfInBounds_toArray, List.set_cons_zero, List.set_cons_succ]
                refine wpAnyH_ready (rs := [8]) (by kernel_rfl) (by simp) ?_
                refine AllReadyH.cons rfl (fun K hKK => ?_) AllReadyH.nil
                refine step_app rfl _ _ rfl w3.heap.size a25 c25 Z (some ⟨v20.heap.size, 0, none⟩) 1 1 [(p : Int)] v25 A25.out (ints_box P25.out (by omega)) (by omega) (by omega) (by omega) rfl rfl ?_
                intro a26 c26 v26 hown hgr
                have z26 : v25.heap.size ≤ v26.heap.size := hgr.size
                have B26 : Hid (Below w3.heap.size w3 v26) := Lib.hid (B25.out.grown hgr (by omega) (fun x hx => (A25.out.lt x hx).1))
                have Q26 := Lib.hid hown
                have X26 : Hid (Box v26 v1.heap.size (.int .i64 0) (.slice none 0 0) 25) := Lib.hid (box_row X25.out (by decide) A25.out hgr)
                clear hown hgr
                refine hKK.out _ _ (HK.out _ B26.out) (fun hSS => ?_)
                clear hKK K
                try simp only [Act.put, List.setIfInBounds_toArray, List.set_cons_zero, List.set_cons_succ]
                refine wpAnyH_take (i := 9) (oi := ⟨some 46, _, _, _, _, _⟩) (v := .agg #[.int .i64 n, .slice a26 (Z ++ [(p : Int)]).length c26]) rfl (by kernel_rfl) (by kernel_rfl) (by kernel_rfl) (fun _ _ _ h => h) (Or.inl ⟨by rfl, fun W hSw => by go_simp⟩) (by assumption) ?_
                try simp only [Act.put, List.setIfInBounds_toArray, List.set_cons_zero, List.set_cons_succ]
                obtain ⟨_, _, x2, x3⟩ := X26.out.facts
                have xl := X26.out.lt
                refine wpAnyH_ready (rs := [11]) (by kernel_rfl) (by simp) ?_
                refine AllReadyH.cons rfl (fun K hKK => ?_) AllReadyH.nil
                go_simp
                refine hKK.out _ _ (HK.out _ ((B26.out.setCell (by show w3.heap.size ≤ v1.heap.size; omega) _).setCell (by show w3.heap.size ≤ v1.heap.size; omega) _)) (fun hSS => ?_)
                clear hKK K x2 x3 xl
                try simp only [Act.put, List.setIfInBounds_toArray, List.set_cons_zero, List.set_cons_succ]
                refine wpAnyH_done (by kernel_rfl) ?_ _
                go_wp2_with fail
                go_meet
                exact ⟨v1.heap.size, a26, c26, rfl, box_two X26.out _ _, (by have h9 := own_past Q26.out X26.out (.int .i64 n) (.slice a26 (Z.length + 1) c26); rw [List.length_append] at h9; exact h9), (B26.out.setCell (by show w3.heap.size ≤ v1.heap.size; omega) _).setCell (by show w3.heap.size ≤ v1.heap.size; omega) _, by omega⟩
          · skip
            go_simp
            obtain ⟨v27, hv27⟩ : ∃ V, V = v0.alloc (.cells #[.int .i64 p] 3) := ⟨_, rfl⟩
            rw [← hv27]
            have B27 : Hid (Below w3.heap.size w3 v27) := Lib.hid (by rw [hv27]; exact B0.out.alloc (by omega) _)
            have z27 : v0.heap.size < v27.heap.size := by rw [hv27]; simp
            have P27 : Hid (Boxed v27 v0.heap.size 3 (.int .i64 p)) := Lib.hid (by rw [hv27]; exact Boxed.new _ _ _)
            clear hv27
            refine hKK.out _ _ (HK.out _ B27.out) (fun hSS => ?_)
            clear hKK K
            try simp only [Act.put, List.setIfInBounds_toArray, List.set_cons_zero, List.set_cons_succ]
            refine wpAnyH_ready (rs := [2, 10]) (by kernel_rfl) (by simp) ?_
            refine AllReadyH.cons rfl (fun K hKK => ?_) (AllReadyH.cons rfl (fun K hKK => ?_) AllReadyH.nil)
            · skip
              go_simp
              obtain ⟨v28, hv28⟩ : ∃ V, V = v27.alloc (.cells #[] 3) := ⟨_, rfl⟩
              rw [← hv28]
              have B28 : Hid (Below w3.heap.size w3 v28) := Lib.hid (by rw [hv28]; exact B27.out.alloc (by omega) _)
              have z28 : v27.heap.size < v28.heap.size := by rw [hv28]; simp
              have P28 : Hid (Boxed v28 v0.heap.size 3 (.int .i64 p)) := Lib.hid (by rw [hv28]; exact P27.out.alloc _)
              have E28 : Hid (v28.ownsRow w3.heap.size 3 1 (.slice (some ⟨v27.heap.size, 0, none⟩) 0 0) 0 (ints [])) := Lib.hid (by rw [hv28]; exact World.ownsRow_made v27 #[] 0 (by omega) (by unfold maxLen; omega) rfl)
              clear hv28
              refine hKK.out _ _ (HK.out _ B28.out) (fun hSS => ?_)
              clear hKK K
              try simp only [Act.put, List.setIfInBounds_toArray, List.set_cons_zero, List.set_cons_succ]
              refine wpAnyH_ready (rs := [5, 10]) (by kernel_rfl) (by simp) ?_
              refine AllReadyH.cons rfl (fun K hKK => ?_) (AllReadyH.cons rfl (fun K hKK => ?_) AllReadyH.nil)
              · skip
                refine step_app rfl _ _ rfl w3.heap.size (some ⟨v27.heap.size, 0, none⟩) 0 [] a Z.length cap Z v28 E28.out (HIZW.out _ B28.out) (by simp) (by omega) (by omega) rfl rfl ?_
                intro a29 c29 v29 hown hgr
                rw [List.nil_append] at hown ⊢
                have z29 : v28.heap.size ≤ v29.heap.size := hgr.size
                have B29 : Hid (Below w3.heap.size w3 v29) := Lib.hid (B28.out.grown hgr (by omega) (fun x hx => (E28.out.lt x hx).1))
                have A29 := Lib.hid hown
                have P29 : Hid (Boxed v29 v0.heap.size 3 (.int .i64 p)) := Lib.hid (P28.out.kept hgr (fun e => by have := Option.some.inj e; simp at this; omega))
                clear hown hgr
                refine hKK.out _ _ (HK.out _ B29.out) (fun hSS => ?_)
                clear hKK K
                try simp only [Act.put, List.setIfInBounds_toArray, List.set_cons_zero, List.set_cons_succ]
                refine wpAnyH_ready (rs := [8, 10]) (by kernel_rfl) (by simp) ?_
                refine AllReadyH.cons rfl (fun K hKK => ?_) (AllReadyH.cons rfl (fun K hKK => ?_) AllReadyH.nil)
                · skip
                  refine step_app rfl _ _ rfl w3.heap.size a29 c29 Z (some ⟨v0.heap.size, 0, none⟩) 1 1 [(p : Int)] v29 A29.out (ints_box P29.out (by omega)) (by omega) (by omega) (by omega) rfl rfl ?_
                  intro a30 c30 v30 hown hgr
                  have z30 : v29.heap.size ≤ v30.heap.size := hgr.size
                  have B30 : Hid (Below w3.heap.size w3 v30) := Lib.hid (B29.out.grown hgr (by omega) (fun x hx => (A29.out.lt x hx).1))
                  have Q30 := Lib.hid hown
                  clear hown hgr
                  refine hKK.out _ _ (HK.out _ B30.out) (fun hSS => ?_)
                  clear hKK K
                  try simp only [Act.put, List.setIfInBounds_toArray, List.set_cons_zero, List.set_cons_succ]
                  refine wpAnyH_take (i := 9) (oi := ⟨some 46, _, _, _, _, _⟩) (v := .agg #[.int .i64 n, .slice a30 (Z ++ [(p : Int)]).length c30]) rfl (by kernel_rfl) (by kernel_rfl) (by kernel_rfl) (fun _ _ _ h => h) (Or.inl ⟨by rfl, fun W hSw => by go_simp⟩) (by assumption) ?_
                  try simp only [Act.put, List.setIfInBounds_toArray, List.set_cons_zero, List.set_cons_succ]
                  refine wpAnyH_ready (rs := [10]) (by kernel_rfl) (by simp) ?_
                  refine AllReadyH.cons rfl (fun K hKK => ?_) AllReadyH.nil
                  go_simp
                  obtain ⟨v31, hv31⟩ : ∃ V, V = v30.alloc (.cells #[.int .i64 0, .slice none 0 0] 25) := ⟨_, rfl⟩
                  rw [← hv31]
                  have B31 : Hid (Below w3.heap.size w3 v31) := Lib.hid (by rw [hv31]; exact B30.out.alloc (by omega) _)
                  have z31 : v30.heap.size < v31.heap.size := by rw [hv31]; simp
                  have Q31 : Hid (v31.ownsRow w3.heap.size 3 1 (.slice a30 (Z ++ [(p : Int)]).length c30) (Z ++ [(p : Int)]).length (ints (Z ++ [(p : Int)]))) := Lib.hid (by rw [hv31]; exact Q30.out.alloc _)
                  have X31 : Hid (Box v31 v30.heap.size (.int .i64 0) (.slice none 0 0) 25) := Lib.hid (by rw [hv31]; exact box_new _ _ _ _)
                  clear hv31
                  refine hKK.out _ _ (HK.out _ B31.out) (fun hSS => ?_)
                  clear hKK K
                  try simp only [Act.put, List.setIfInBounds_toArray, List.set_cons_zero, List.set_cons_succ]
                  obtain ⟨_, _, x2, x3⟩ := X31.out.facts
                  have xl := X31.out.lt
                  refine wpAnyH_ready (rs := [11]) (by kernel_rfl) (by simp) ?_
                  refine AllReadyH.cons rfl (fun K hKK => ?_) AllReadyH.nil
                  go_simp
                  refine hKK.out _ _ (HK.out _ ((B31.out.setCell (by show w3.heap.size ≤ v30.heap.size; omega) _).setCell (by show w3.heap.size ≤ v30.heap.size; omega) _)) (fun hSS => ?_)
                  clear hKK K x2 x3 xl
                  try simp only [Act.put, List.setIfInBounds_toArray, List.set_cons_zero, List.set_cons_succ]
                  refine wpAnyH_done (by kernel_rfl) ?_ _
                  go_wp2_with fail
                  go_meet
                  exact ⟨v30.heap.size, a30, c30, rfl, box_two X31.out _ _, (by have h9 := own_past Q31.out X31.out (.int .i64 n) (.slice a30 (Z.length + 1) c30); rw [List.length_append] at h9; exact h9), (B31.out.setCell (by show w3.heap.size ≤ v30.heap.size; omega) _).setCell (by show w3.heap.size ≤ v30.heap.size; omega) _, by omega⟩
                · skip
                  go_simp
                  obtain ⟨v32, hv32⟩ : ∃ V, V = v29.alloc (.cells #[.int .i64 0, .slice none 0 0] 25) := ⟨_, rfl⟩
                  rw [← hv32]
                  have B32 : Hid (Below w3.heap.size w3 v32) := Lib.hid (by rw [hv32]; exact B29.out.alloc (by omega) _)
                  have z32 : v29.heap.size < v32.heap.size := by rw [hv32]; simp
                  have A32 : Hid (v32.ownsRow w3.heap.size 3 1 (.slice a29 Z.length c29) Z.length (ints Z)) := Lib.hid (by rw [hv32]; exact A29.out.alloc _)
                  have P32 : Hid (Boxed v32 v0.heap.size 3 (.int .i64 p)) := Lib.hid (by rw [hv32]; exact P29.out.alloc _)
                  have X32 : Hid (Box v32 v29.heap.size (.int .i64 0) (.slice none 0 0) 25) := Lib.hid (by rw [hv32]; exact box_new _ _ _ _)
                  clear hv32
                  refine hKK.out _ _ (HK.out _ B32.out) (fun hSS => ?_)
                  clear hKK K
                  try simp only [Act.put, List.setIfInBounds_toArray, List.set_cons_zero, List.set_cons_succ]
                  refine wpAnyH_ready (rs := [8]) (by kernel_rfl) (by simp) ?_
                  refine AllReadyH.cons rfl (fun K hKK => ?_) AllReadyH.nil
                  refine step_app rfl _ _ rfl w3.heap.size a29 c29 Z (some ⟨v0.heap.size, 0, none⟩) 1 1 [(p : Int)] v32 A32.out (ints_box P32.out (by omega)) (by omega) (by omega) (by omega) rfl rfl ?_
                  intro a33 c33 v33 hown hgr
                  have z33 : v32.heap.size ≤ v33.heap.size := hgr.size
                  have B33 : Hid (Below w3.heap.size w3 v33) := Lib.hid (B32.out.grown hgr (by omega) (fun x hx => (A32.out.lt x hx).1))
                  have Q33 := Lib.hid hown
                  have X33 : Hid (Box v33 v29.heap.size (.int .i64 0) (.slice none 0 0) 25) := Lib.hid (box_row X32.out (by decide) A32.out hgr)
                  clear hown hgr
                  refine hKK.out _ _ (HK.out _ B33.out) (fun hSS => ?_)
                  clear hKK K
                  try simp only [Act.put, List.setIfInBounds_toArray, List.set_cons_zero, List.set_cons_succ]
                  refine wpAnyH_take (i := 9) (oi := ⟨some 46, _, _, _, _, _⟩) (v := .agg #[.int .i64 n, .slice a33 (Z ++ [(p : Int)]).length c33]) rfl (by kernel_rfl) (by kernel_rfl) (by kernel_rfl) (fun _ _ _ h => h) (Or.inl ⟨by rfl, fun W hSw => by go_simp⟩) (by assumption) ?_
                  try simp only [Act.put, List.setIfInBounds_toArray, List.set_cons_zero, List.set_cons_succ]
                  obtain ⟨_, _, x2, x3⟩ := X33.out.facts
                  have xl := X33.out.lt
                  refine wpAnyH_ready (rs := [11]) (by kernel_rfl) (by simp) ?_
                  refine AllReadyH.cons rfl (fun K hKK => ?_) AllReadyH.nil
                  go_simp
                  refine hKK.out _ _ (HK.out _ ((B33.out.setCell (by show w3.heap.size ≤ v29.heap.size; omega) _).setCell (by show w3.heap.size ≤ v29.heap.size; omega) _)) (fun hSS => ?_)
                  clear hKK K x2 x3 xl
                  try simp only [Act.put, List.setIfInBounds_toArray, List.set_cons_zero, List.set_cons_succ]
                  refine wpAnyH_done (by kernel_rfl) ?_ _
                  go_wp2_with fail
                  go_meet
                  exact ⟨v29.heap.size, a33, c33, rfl, box_two X33.out _ _, (by have h9 := own_past Q33.out X33.out (.int .i64 n) (.slice a33 (Z.length + 1) c33); rw [List.length_append] at h9; exact h9), (B33.out.setCell (by show w3.heap.size ≤ v29.heap.size; omega) _).setCell (by show w3.heap.size ≤ v29.heap.size; omega) _, by omega⟩
              · skip
                go_simp
                obtain ⟨v34, hv34⟩ : ∃ V, V = v28.alloc (.cells #[.int .i64 0, .slice none 0 0] 25) := ⟨_, rfl⟩
                rw [← hv34]
                have B34 : Hid (Below w3.heap.size w3 v34) := Lib.hid (by rw [hv34]; exact B28.out.alloc (by omega) _)
                have z34 : v28.heap.size < v34.heap.size := by rw [hv34]; simp
                have E34 : Hid (v34.ownsRow w3.heap.size 3 1 (.slice (some ⟨v27.heap.size, 0, none⟩) 0 0) 0 (ints [])) := Lib.hid (by rw [hv34]; exact E28.out.alloc _)
                have P34 : Hid (Boxed v34 v0.heap.size 3 (.int .i64 p)) := Lib.hid (by rw [hv34]; exact P28.out.alloc _)
                have X34 : Hid (Box v34 v28.heap.size (.int .i64 0) (.slice none 0 0) 25) := Lib.hid (by rw [hv34]; exact box_new _ _ _ _)
                clear hv34
                refine hKK.out _ _ (HK.out _ B34.out) (fun hSS => ?_)
                clear hKK K
                try simp only [Act.put, List.setIfInBounds_toArray, List.set_cons_zero, List.set_cons_succ]
                refine wpAnyH_ready (rs := [5]) (by kernel_rfl) (by simp) ?_
                refine AllReadyH.cons rfl (fun K hKK => ?_) AllReadyH.nil
                refine step_app rfl _ _ rfl w3.heap.size (some ⟨v27.heap.size, 0, none⟩) 0 [] a Z.length cap Z v34 E34.out (HIZW.out _ B34.out) (by simp) (by omega) (by omega) rfl rfl ?_
                intro a35 c35 v35 hown hgr
                rw [List.nil_append] at hown ⊢
                have z35 : v34.heap.size ≤ v35.heap.size := hgr.size
                have B35 : Hid (Below w3.heap.size w3 v35) := Lib.hid (B34.out.grown hgr (by omega) (fun x hx => (E34.out.lt x hx).1))
                have A35 := Lib.hid hown
                have P35 : Hid (Boxed v35 v0.heap.size 3 (.int .i64 p)) := Lib.hid (P34.out.kept hgr (fun e => by have := Option.some.inj e; simp at this; omega))
                have X35 : Hid (Box v35 v28.heap.size (.int .i64 0) (.slice none 0 0) 25) := Lib.hid (box_row X34.out (by decide) E34.out hgr)
                clear hown hgr
                refine hKK.out _ _ (HK.out _ B35.out) (fun hSS => ?_)
                clear hKK K
                try simp only [Act.put, List.setIfInBounds_toArray, List.set_cons_zero, List.set_cons_succ]
                refine wpAnyH_ready (rs := [8]) (by kernel_rfl) (by simp) ?_
                refine AllReadyH.cons rfl (fun K hKK => ?_) AllReadyH.nil
                refine step_app rfl _ _ rfl w3.heap.size a35 c35 Z (some ⟨v0.heap.size, 0, none⟩) 1 1 [(p : Int)] v35 A35.out (ints_box P35.out (by omega)) (by omega) (by omega) (by omega) rfl rfl ?_
                intro a36 c36 v36 hown hgr
                have z36 : v35.heap.size ≤ v36.heap.size := hgr.size
                have B36 : Hid (Below w3.heap.size w3 v36) := Lib.hid (B35.out.grown hgr (by omega) (fun x hx => (A35.out.lt x hx).1))
                have Q36 := Lib.hid hown
                have X36 : Hid (Box v36 v28.heap.size (.int .i64 0) (.slice none 0 0) 25) := Lib.hid (box_row X35.out (by decide) A35.out hgr)
                clear hown hgr
                refine hKK.out _ _ (HK.out _ B36.out) (fun hSS => ?_)
                clear hKK K
                try simp only [Act.put, List.setIfInBounds_toArray, List.set_cons_zero, List.set_cons_succ]
                refine wpAnyH_take (i := 9) (oi := ⟨some 46, _, _, _, _, _⟩) (v := .agg #[.int .i64 n, .slice a36 (Z ++ [(p : Int)]).length c36]) rfl (by kernel_rfl) (by kernel_rfl) (by kernel_rfl) (fun _ _ _ h => h) (Or.inl ⟨by rfl, fun W hSw => by go_simp⟩) (by assumption) ?_
                try simp only [Act.put, List.setIfInBounds_toArray, List.set_cons_zero, List.set_cons_succ]
                obtain ⟨_, _, x2, x3⟩ := X36.out.facts
                have xl := X36.out.lt
                refine wpAnyH_ready (rs := [11]) (by kernel_rfl) (by simp) ?_
                refine AllReadyH.cons rfl (fun K hKK => ?_) AllReadyH.nil
                go_simp
                refine hKK.out _ _ (HK.out _ ((B36.out.setCell (by show w3.heap.size ≤ v28.heap.size; omega) _).setCell (by show w3.heap.size ≤ v28.heap.size; omega) _)) (fun hSS => ?_)
                clear hKK K x2 x3 xl
                try simp only [Act.put, List.setIfInBounds_toArray, List.set_cons_zero, List.set_cons_succ]
                refine wpAnyH_done (by kernel_rfl) ?_ _
                go_wp2_with fail
                go_meet
                exact ⟨v28.heap.size, a36, c36, rfl, box_two X36.out _ _, (by have h9 := own_past Q36.out X36.out (.int .i64 n) (.slice a36 (Z.length + 1) c36); rw [List.length_append] at h9; exact h9), (B36.out.setCell (by show w3.heap.size ≤ v28.heap.size; omega) _).setCell (by show w3.heap.size ≤ v28.heap.size; omega) _, by omega⟩
            · skip
              go_simp
              obtain ⟨v37, hv37⟩ : ∃ V, V = v27.alloc (.cells #[.int .i64 0, .slice none 0 0] 25) := ⟨_, rfl⟩
              rw [← hv37]
              have B37 : Hid (Below w3.heap.size w3 v37) := Lib.hid (by rw [hv37]; exact B27.out.alloc (by omega) _)
              have z37 : v27.heap.size < v37.heap.size := by rw [hv37]; simp
              have P37 : Hid (Boxed v37 v0.heap.size 3 (.int .i64 p)) := Lib.hid (by rw [hv37]; exact P27.out.alloc _)
              have X37 : Hid (Box v37 v27.heap.size (.int .i64 0) (.slice none 0 0) 25) := Lib.hid (by rw [hv37]; exact box_new _ _ _ _)
              clear hv37
              refine hKK.out _ _ (HK.out _ B37.out) (fun hSS => ?_)
              clear hKK K
              try simp only [Act.put, List.setIfInBounds_toArray, List.set_cons_zero, List.set_cons_succ]
              refine wpAnyH_ready (rs := [2]) (by kernel_rfl) (by simp) ?_
              refine AllReadyH.cons rfl (fun K hKK => ?_) AllReadyH.nil
              go_simp
              obtain ⟨v38, hv38⟩ : ∃ V, V = v37.alloc (.cells #[] 3) := ⟨_, rfl⟩
              rw [← hv38]
              have B38 : Hid (Below w3.heap.size w3 v38) := Lib.hid (by rw [hv38]; exact B37.out.alloc (by omega) _)
              have z38 : v37.heap.size < v38.heap.size := by rw [hv38]; simp
              have P38 : Hid (Boxed v38 v0.heap.size 3 (.int .i64 p)) := Lib.hid (by rw [hv38]; exact P37.out.alloc _)
              have X38 : Hid (Box v38 v27.heap.size (.int .i64 0) (.slice none 0 0) 25) := Lib.hid (by rw [hv38]; exact X37.out.keep (bel1 _ _) X37.out.lt)
              have E38 : Hid (v38.ownsRow w3.heap.size 3 1 (.slice (some ⟨v37.heap.size, 0, none⟩) 0 0) 0 (ints [])) := Lib.hid (by rw [hv38]; exact World.ownsRow_made v37 #[] 0 (by omega) (by unfold maxLen; omega) rfl)
              clear hv38
              refine hKK.out _ _ (HK.out _ B38.out) (fun hSS => ?_)
              clear hKK K
              try simp only [Act.put, List.setIfInBounds_toArray, List.set_cons_zero, List.set_cons_succ]
              refine wpAnyH_ready (rs := [5]) (by kernel_rfl) (by simp) ?_
              refine AllReadyH.cons rfl (fun K hKK => ?_) AllReadyH.nil
              refine step_app rfl _ _ rfl w3.heap.size (some ⟨v37.heap.size, 0, none⟩) 0 [] a Z.length cap Z v38 E38.out (HIZW.out _ B38.out) (by simp) (by omega) (by omega) rfl rfl ?_
              intro a39 c39 v39 hown hgr
              rw [List.nil_append] at hown ⊢
              have z39 : v38.heap.size ≤ v39.heap.size := hgr.size
              have B39 : Hid (Below w3.heap.size w3 v39) := Lib.hid (B38.out.grown hgr (by omega) (fun x hx => (E38.out.lt x hx).1))
              have A39 := Lib.hid hown
              have P39 : Hid (Boxed v39 v0.heap.size 3 (.int .i64 p)) := Lib.hid (P38.out.kept hgr (fun e => by have := Option.some.inj e; simp at this; omega))
              have X39 : Hid (Box v39 v27.heap.size (.int .i64 0) (.slice none 0 0) 25) := Lib.hid (box_row X38.out (by decide) E38.out hgr)
              clear hown hgr
              refine hKK.out _ _ (HK.out _ B39.out) (fun hSS => ?_)
              clear hKK K
              try simp only [Act.put, List.setIfInBounds_toArray, List.set_cons_zero, List.set_cons_succ]
              refine wpAnyH_ready (rs := [8]) (by kernel_rfl) (by simp) ?_
              refine AllReadyH.cons rfl (fun K hKK => ?_) AllReadyH.nil
              refine step_app rfl _ _ rfl w3.heap.size a39 c39 Z (some ⟨v0.heap.size, 0, none⟩) 1 1 [(p : Int)] v39 A39.out (ints_box P39.out (by omega)) (by omega) (by omega) (by omega) rfl rfl ?_
              intro a40 c40 v40 hown hgr
              have z40 : v39.heap.size ≤ v40.heap.size := hgr.size
              have B40 : Hid (Below w3.heap.size w3 v40) := Lib.hid (B39.out.grown hgr (by omega) (fun x hx => (A39.out.lt x hx).1))
              have Q40 := Lib.hid hown
              have X40 : Hid (Box v40 v27.heap.size (.int .i64 0) (.slice none 0 0) 25) := Lib.hid (box_row X39.out (by decide) A39.out hgr)
              clear hown hgr
              refine hKK.out _ _ (HK.out _ B40.out) (fun hSS => ?_)
              clear hKK K
              try simp only [Act.put, List.setIfInBounds_toArray, List.set_cons_zero, List.set_cons_succ]
              refine wpAnyH_take (i := 9) (oi := ⟨some 46, _, _, _, _, _⟩) (v := .agg #[.int .i64 n, .slice a40 (Z ++ [(p : Int)]).length c40]) rfl (by kernel_rfl) (by kernel_rfl) (by kernel_rfl) (fun _ _ _ h => h) (Or.inl ⟨by rfl, fun W hSw => by go_simp⟩) (by assumption) ?_
              try simp only [Act.put, List.setIfInBounds_toArray, List.set_cons_zero, List.set_cons_succ]
              obtain ⟨_, _, x2, x3⟩ := X40.out.facts
              have xl := X40.out.lt
              refine wpAnyH_ready (rs := [11]) (by kernel_rfl) (by simp) ?_
              refine AllReadyH.cons rfl (fun K hKK => ?_) AllReadyH.nil
              go_simp
              refine hKK.out _ _ (HK.out _ ((B40.out.setCell (by show w3.heap.size ≤ v27.heap.size; omega) _).setCell (by show w3.heap.size ≤ v27.heap.size; omega) _)) (fun hSS => ?_)
              clear hKK K x2 x3 xl
              try simp only [Act.put, List.setIfInBounds_toArray, List.set_cons_zero, List.set_cons_succ]
              refine wpAnyH_done (by kernel_rfl) ?_ _
              go_wp2_with fail
              go_meet
              exact ⟨v27.heap.size, a40, c40, rfl, box_two X40.out _ _, (by have h9 := own_past Q40.out X40.out (.int .i64 n) (.slice a40 (Z.length + 1) c40); rw [List.length_append] at h9; exact h9), (B40.out.setCell (by show w3.heap.size ≤ v27.heap.size; omega) _).setCell (by show w3.heap.size ≤ v27.heap.size; omega) _, by omega⟩
          · skip
            go_simp
            obtain ⟨v41, hv41⟩ : ∃ V, V = v0.alloc (.cells #[.int .i64 0, .slice none 0 0] 25) := ⟨_, rfl⟩
            rw [← hv41]
            have B41 : Hid (Below w3.heap.size w3 v41) := Lib.hid (by rw [hv41]; exact B0.out.alloc (by omega) _)
            have z41 : v0.heap.size < v41.heap.size := by rw [hv41]; simp
            have X41 : Hid (Box v41 v0.heap.size (.int .i64 0) (.slice none 0 0) 25) := Lib.hid (by rw [hv41]; exact box_new _ _ _ _)
            clear hv41
            refine hKK.out _ _ (HK.out _ B41.out) (fun hSS => ?_)
            clear hKK K
            try simp only [Act.put, List.setIfInBounds_toArray, List.set_cons_zero, List.set_cons_succ]
            refine wpAnyH_ready (rs := [2, 7]) (by kernel_rfl) (by simp) ?_
            refine AllReadyH.cons rfl (fun K hKK => ?_) (AllReadyH.cons rfl (fun K hKK => ?_) AllReadyH.nil)
            · skip
              go_simp
              obtain ⟨v42, hv42⟩ : ∃ V, V = v41.alloc (.cells #[] 3) := ⟨_, rfl⟩
              rw [← hv42]
              have B42 : Hid (Below w3.heap.size w3 v42) := Lib.hid (by rw [hv42]; exact B41.out.alloc (by omega) _)
              have z42 : v41.heap.size < v42.heap.size := by rw [hv42]; simp
              have X42 : Hid (Box v42 v0.heap.size (.int .i64 0) (.slice none 0 0) 25) := Lib.hid (by rw [hv42]; exact X41.out.keep (bel1 _ _) X41.out.lt)
              have E42 : Hid (v42.ownsRow w3.heap.size 3 1 (.slice (some ⟨v41.heap.size, 0, none⟩) 0 0) 0 (ints [])) := Lib.hid (by rw [hv42]; exact World.ownsRow_made v41 #[] 0 (by omega) (by unfold maxLen; omega) rfl)
              clear hv42
              refine hKK.out _ _ (HK.out _ B42.out) (fun hSS => ?_)
              clear hKK K
              try simp only [Act.put, List.setIfInBounds_toArray, List.set_cons_zero, List.set_cons_succ]
              refine wpAnyH_ready (rs := [5, 7]) (by kernel_rfl) (by simp) ?_
              refine AllReadyH.cons rfl (fun K hKK => ?_) (AllReadyH.cons rfl (fun K hKK => ?_) AllReadyH.nil)
              · skip
                refine step_app rfl _ _ rfl w3.heap.size (some ⟨v41.heap.size, 0, none⟩) 0 [] a Z.length cap Z v42 E42.out (HIZW.out _ B42.out) (by simp) (by omega) (by omega) rfl rfl ?_
                intro a43 c43 v43 hown hgr
                rw [List.nil_append] at hown ⊢
                have z43 : v42.heap.size ≤ v43.heap.size := hgr.size
                have B43 : Hid (Below w3.heap.size w3 v43) := Lib.hid (B42.out.grown hgr (by omega) (fun x hx => (E42.out.lt x hx).1))
                have A43 := Lib.hid hown
                have X43 : Hid (Box v43 v0.heap.size (.int .i64 0) (.slice none 0 0) 25) := Lib.hid (box_row X42.out (by decide) E42.out hgr)
                clear hown hgr
                refine hKK.out _ _ (HK.out _ B43.out) (fun hSS => ?_)
                clear hKK K
                try simp only [Act.put, List.setIfInBounds_toArray, List.set_cons_zero, List.set_cons_succ]
                refine wpAnyH_ready (rs := [7]) (by kernel_rfl) (by simp) ?_
                refine AllReadyH.cons rfl (fun K hKK => ?_) AllReadyH.nil
                go_simp
                obtain ⟨v44, hv44⟩ : ∃ V, V = v43.alloc (.cells #[.int .i64 p] 3) := ⟨_, rfl⟩
                rw [← hv44]
                have B44 : Hid (Below w3.heap.size w3 v44) := Lib.hid (by rw [hv44]; exact B43.out.alloc (by omega) _)
                have z44 : v43.heap.size < v44.heap.size := by rw [hv44]; simp
                have A44 : Hid (v44.ownsRow w3.heap.size 3 1 (.slice a43 Z.length c43) Z.length (ints Z)) := Lib.hid (by rw [hv44]; exact A43.out.alloc _)
                have X44 : Hid (Box v44 v0.heap.size (.int .i64 0) (.slice none 0 0) 25) := Lib.hid (by rw [hv44]; exact X43.out.keep (bel1 _ _) X43.out.lt)
                have P44 : Hid (Boxed v44 v43.heap.size 3 (.int .i64 p)) := Lib.hid (by rw [hv44]; exact Boxed.new _ _ _)
                clear hv44
                refine hKK.out _ _ (HK.out _ B44.out) (fun hSS => ?_)
                clear hKK K
                try simp only [Act.put, List.setIfInBounds_toArray, List.set_cons_zero, List.set_cons_succ]
                refine wpAnyH_ready (rs := [8]) (by kernel_rfl) (by simp) ?_
                refine AllReadyH.cons rfl (fun K hKK => ?_) AllReadyH.nil
                refine step_app rfl _ _ rfl w3.heap.size a43 c43 Z (some ⟨v43.heap.size, 0, none⟩) 1 1 [(p : Int)] v44 A44.out (ints_box P44.out (by omega)) (by omega) (by omega) (by omega) rfl rfl ?_
                intro a45 c45 v45 hown hgr
                have z45 : v44.heap.size ≤ v45.heap.size := hgr.size
                have B45 : Hid (Below w3.heap.size w3 v45) := Lib.hid (B44.out.grown hgr (by omega) (fun x hx => (A44.out.lt x hx).1))
                have Q45 := Lib.hid hown
                have X45 : Hid (Box v45 v0.heap.size (.int .i64 0) (.slice none 0 0) 25) := Lib.hid (box_row X44.out (by decide) A44.out hgr)
                clear hown hgr
                refine hKK.out _ _ (HK.out _ B45.out) (fun hSS => ?_)
                clear hKK K
                try simp only [Act.put, List.setIfInBounds_toArray, List.set_cons_zero, List.set_cons_succ]
                refine wpAnyH_take (i := 9) (oi := ⟨some 46, _, _, _, _, _⟩) (v := .agg #[.int .i64 n, .slice a45 (Z ++ [(p : Int)]).length c45]) rfl (by kernel_rfl) (by kernel_rfl) (by kernel_rfl) (fun _ _ _ h => h) (Or.inl ⟨by rfl, fun W hSw => by go_simp⟩) (by assumption) ?_
                try simp only [Act.put, List.setIfInBounds_toArray, List.set_cons_zero, List.set_cons_succ]
                obtain ⟨_, _, x2, x3⟩ := X45.out.facts
                have xl := X45.out.lt
                refine wpAnyH_ready (rs := [11]) (by kernel_rfl) (by simp) ?_
                refine AllReadyH.cons rfl (fun K hKK => ?_) AllReadyH.nil
                go_simp
                refine hKK.out _ _ (HK.out _ ((B45.out.setCell (by show w3.heap.size ≤ v0.heap.size; omega) _).setCell (by show w3.heap.size ≤ v0.heap.size; omega) _)) (fun hSS => ?_)
                clear hKK K x2 x3 xl
                try simp only [Act.put, List.setIfInBounds_toArray, List.set_cons_zero, List.set_cons_succ]
                refine wpAnyH_done (by kernel_rfl) ?_ _
                go_wp2_with fail
                go_meet
                exact ⟨v0.heap.size, a45, c45, rfl, box_two X45.out _ _, (by have h9 := own_past Q45.out X45.out (.int .i64 n) (.slice a45 (Z.length + 1) c45); rw [List.length_append] at h9; exact h9), (B45.out.setCell (by show w3.heap.size ≤ v0.heap.size; omega) _).setCell (by show w3.heap.size ≤ v0.heap.size; omega) _, by omega⟩
              · skip
                go_simp
                obtain ⟨v46, hv46⟩ : ∃ V, V = v42.alloc (.cells #[.int .i64 p] 3) := ⟨_, rfl⟩
                rw [← hv46]
                have B46 : Hid (Below w3.heap.size w3 v46) := Lib.hid (by rw [hv46]; exact B42.out.alloc (by omega) _)
                have z46 : v42.heap.size < v46.heap.size := by rw [hv46]; simp
                have E46 : Hid (v46.ownsRow w3.heap.size 3 1 (.slice (some ⟨v41.heap.size, 0, none⟩) 0 0) 0 (ints [])) := Lib.hid (by rw [hv46]; exact E42.out.alloc _)
                have X46 : Hid (Box v46 v0.heap.size (.int .i64 0) (.slice none 0 0) 25) := Lib.hid (by rw [hv46]; exact X42.out.keep (bel1 _ _) X42.out.lt)
                have P46 : Hid (Boxed v46 v42.heap.size 3 (.int .i64 p)) := Lib.hid (by rw [hv46]; exact Boxed.new _ _ _)
                clear hv46
                refine hKK.out _ _ (HK.out _ B46.out) (fun hSS => ?_)
                clear hKK K
                try simp only [Act.put, List.setIfInBounds_toArray, List.set_cons_zero, List.set_cons_succ]
                refine wpAnyH_ready (rs := [5]) (by kernel_rfl) (by simp) ?_
                refine AllReadyH.cons rfl (fun K hKK => ?_) AllReadyH.nil
                refine step_app rfl _ _ rfl w3.heap.size (some ⟨v41.heap.size, 0, none⟩) 0 [] a Z.length cap Z v46 E46.out (HIZW.out _ B46.out) (by simp) (by omega) (by omega) rfl rfl ?_
                intro a47 c47 v47 hown hgr
                rw [List.nil_append] at hown ⊢
                have z47 : v46.heap.size ≤ v47.heap.size := hgr.size
                have B47 : Hid (Below w3.heap.size w3 v47) := Lib.hid (B46.out.grown hgr (by omega) (fun x hx => (E46.out.lt x hx).1))
                have A47 := Lib.hid hown
                have P47 : Hid (Boxed v47 v42.heap.size 3 (.int .i64 p)) := Lib.hid (P46.out.kept hgr (fun e => by have := Option.some.inj e; simp at this; omega))
                have X47 : Hid (Box v47 v0.heap.size (.int .i64 0) (.slice none 0 0) 25) := Lib.hid (box_row X46.out (by decide) E46.out hgr)
                clear hown hgr
                refine hKK.out _ _ (HK.out _ B47.out) (fun hSS => ?_)
                clear hKK K
                try simp only [Act.put, List.setIfInBounds_toArray, List.set_cons_zero, List.set_cons_succ]
                refine wpAnyH_ready (rs := [8]) (by kernel_rfl) (by simp) ?_
                refine AllReadyH.cons rfl (fun K hKK => ?_) AllReadyH.nil
                refine step_app rfl _ _ rfl w3.heap.size a47 c47 Z (some ⟨v42.heap.size, 0, none⟩) 1 1 [(p : Int)] v47 A47.out (ints_box P47.out (by omega)) (by omega) (by omega) (by omega) rfl rfl ?_
                intro a48 c48 v48 hown hgr
                have z48 : v47.heap.size ≤ v48.heap.size := hgr.size
                have B48 : Hid (Below w3.heap.size w3 v48) := Lib.hid (B47.out.grown hgr (by omega) (fun x hx => (A47.out.lt x hx).1))
                have Q48 := Lib.hid hown
                have X48 : Hid (Box v48 v0.heap.size (.int .i64 0) (.slice none 0 0) 25) := Lib.hid (box_row X47.out (by decide) A47.out hgr)
                clear hown hgr
                refine hKK.out _ _ (HK.out _ B48.out) (fun hSS => ?_)
                clear hKK K
                try simp only [Act.put, List.setIfInBounds_toArray, List.set_cons_zero, List.set_cons_succ]
                refine wpAnyH_take (i := 9) (oi := ⟨some 46, _, _, _, _, _⟩) (v := .agg #[.int .i64 n, .slice a48 (Z ++ [(p : Int)]).length c48]) rfl (by kernel_rfl) (by kernel_rfl) (by kernel_rfl) (fun _ _ _ h => h) (Or.inl ⟨by rfl, fun W hSw => by go_simp⟩) (by assumption) ?_
                try simp only [Act.put, List.setIfInBounds_toArray, List.set_cons_zero, List.set_cons_succ]
                obtain ⟨_, _, x2, x3⟩ := X48.out.facts
                have xl := X48.out.lt
                refine wpAnyH_ready (rs := [11]) (by kernel_rfl) (by simp) ?_
                refine AllReadyH.cons rfl (fun K hKK => ?_) AllReadyH.nil
                go_simp
                refine hKK.out _ _ (HK.out _ ((B48.out.setCell (by show w3.heap.size ≤ v0.heap.size; omega) _).setCell (by show w3.heap.size ≤ v0.heap.size; omega) _)) (fun hSS => ?_)
                clear hKK K x2 x3 xl
                try simp only [Act.put, List.setIfInBounds_toArray, List.set_cons_zero, List.set_cons_succ]
                refine wpAnyH_done (by kernel_rfl) ?_ _
                go_wp2_with fail
                go_meet
                exact ⟨v0.heap.size, a48, c48, rfl, box_two X48.out _ _, (by have h9 := own_past Q48.out X48.out (.int .i64 n) (.slice a48 (Z.length + 1) c48); rw [List.length_append] at h9; exact h9), (B48.out.setCell (by show w3.heap.size ≤ v0.heap.size; omega) _).setCell (by show w3.heap.size ≤ v0.heap.size; omega) _, by omega⟩
            · skip
              go_simp
              obtain ⟨v49, hv49⟩ : ∃ V, V = v41.alloc (.cells #[.int .i64 p] 3) := ⟨_, rfl⟩
              rw [← hv49]
              have B49 : Hid (Below w3.heap.size w3 v49) := Lib.hid (by rw [hv49]; exact B41.out.alloc (by omega) _)
              have z49 : v41.heap.size < v49.heap.size := by rw [hv49]; simp
              have X49 : Hid (Box v49 v0.heap.size (.int .i64 0) (.slice none 0 0) 25) := Lib.hid (by rw [hv49]; exact X41.out.keep (bel1 _ _) X41.out.lt)
              have P49 : Hid (Boxed v49 v41.heap.size 3 (.int .i64 p)) := Lib.hid (by rw [hv49]; exact Boxed.new _ _ _)
              clear hv49
              refine hKK.out _ _ (HK.out _ B49.out) (fun hSS => ?_)
              clear hKK K
              try simp only [Act.put, List.setIfInBounds_toArray, List.set_cons_zero, List.set_cons_succ]
              refine wpAnyH_ready (rs := [2]) (by kernel_rfl) (by simp) ?_
              refine AllReadyH.cons rfl (fun K hKK => ?_) AllReadyH.nil
              go_simp
              obtain ⟨v50, hv50⟩ : ∃ V, V = v49.alloc (.cells #[] 3) := ⟨_, rfl⟩
              rw [← hv50]
              have B50 : Hid (Below w3.heap.size w3 v50) := Lib.hid (by rw [hv50]; exact B49.out.alloc (by omega) _)
              have z50 : v49.heap.size < v50.heap.size := by rw [hv50]; simp
              have P50 : Hid (Boxed v50 v41.heap.size 3 (.int .i64 p)) := Lib.hid (by rw [hv50]; exact P49.out.alloc _)
              have X50 : Hid (Box v50 v0.heap.size (.int .i64 0) (.slice none 0 0) 25) := Lib.hid (by rw [hv50]; exact X49.out.keep (bel1 _ _) X49.out.lt)
              have E50 : Hid (v50.ownsRow w3.heap.size 3 1 (.slice (some ⟨v49.heap.size, 0, none⟩) 0 0) 0 (ints [])) := Lib.hid (by rw [hv50]; exact World.ownsRow_made v49 #[] 0 (by omega) (by unfold maxLen; omega) rfl)
              clear hv50
              refine hKK.out _ _ (HK.out _ B50.out) (fun hSS => ?_)
              clear hKK K
              try simp only [Act.put, List.setIfInBounds_toArray, List.set_cons_zero, List.set_cons_succ]
              refine wpAnyH_ready (rs := [5]) (by kernel_rfl) (by simp) ?_
              refine AllReadyH.cons rfl (fun K hKK => ?_) AllReadyH.nil
              refine step_app rfl _ _ rfl w3.heap.size (some ⟨v49.heap.size, 0, none⟩) 0 [] a Z.length cap Z v50 E50.out (HIZW.out _ B50.out) (by simp) (by omega) (by omega) rfl rfl ?_
              intro a51 c51 v51 hown hgr
              rw [List.nil_append] at hown ⊢
              have z51 : v50.heap.size ≤ v51.heap.size := hgr.size
              have B51 : Hid (Below w3.heap.size w3 v51) := Lib.hid (B50.out.grown hgr (by omega) (fun x hx => (E50.out.lt x hx).1))
              have A51 := Lib.hid hown
              have P51 : Hid (Boxed v51 v41.heap.size 3 (.int .i64 p)) := Lib.hid (P50.out.kept hgr (fun e => by have := Option.some.inj e; simp at this; omega))
              have X51 : Hid (Box v51 v0.heap.size (.int .i64 0) (.slice none 0 0) 25) := Lib.hid (box_row X50.out (by decide) E50.out hgr)
              clear hown hgr
              refine hKK.out _ _ (HK.out _ B51.out) (fun hSS => ?_)
              clear hKK K
              try simp only [Act.put, List.setIfInBounds_toArray, List.set_cons_zero, List.set_cons_succ]
              refine wpAnyH_ready (rs := [8]) (by kernel_rfl) (by simp) ?_
              refine AllReadyH.cons rfl (fun K hKK => ?_) AllReadyH.nil
              refine step_app rfl _ _ rfl w3.heap.size a51 c51 Z (some ⟨v41.heap.size, 0, none⟩) 1 1 [(p : Int)] v51 A51.out (ints_box P51.out (by omega)) (by omega) (by omega) (by omega) rfl rfl ?_
              intro a52 c52 v52 hown hgr
              have z52 : v51.heap.size ≤ v52.heap.size := hgr.size
              have B52 : Hid (Below w3.heap.size w3 v52) := Lib.hid (B51.out.grown hgr (by omega) (fun x hx => (A51.out.lt x hx).1))
              have Q52 := Lib.hid hown
              have X52 : Hid (Box v52 v0.heap.size (.int .i64 0) (.slice none 0 0) 25) := Lib.hid (box_row X51.out (by decide) A51.out hgr)
              clear hown hgr
              refine hKK.out _ _ (HK.out _ B52.out) (fun hSS => ?_)
              clear hKK K
              try simp only [Act.put, List.setIfInBounds_toArray, List.set_cons_zero, List.set_cons_succ]
              refine wpAnyH_take (i := 9) (oi := ⟨some 46, _, _, _, _, _⟩) (v := .agg #[.int .i64 n, .slice a52 (Z ++ [(p : Int)]).length c52]) rfl (by kernel_rfl) (by kernel_rfl) (by kernel_rfl) (fun _ _ _ h => h) (Or.inl ⟨by rfl, fun W hSw => by go_simp⟩) (by assumption) ?_
              try simp only [Act.put, List.setIfInBounds_toArray, List.set_cons_zero, List.set_cons_succ]
              obtain ⟨_, _, x2, x3⟩ := X52.out.facts
              have xl := X52.out.lt
              refine wpAnyH_ready (rs := [11]) (by kernel_rfl) (by simp) ?_
              refine AllReadyH.cons rfl (fun K hKK => ?_) AllReadyH.nil
              go_simp
              refine hKK.out _ _ (HK.out _ ((B52.out.setCell (by show w3.heap.size ≤ v0.heap.size; omega) _).setCell (by show w3.heap.size ≤ v0.heap.size; omega) _)) (fun hSS => ?_)
              clear hKK K x2 x3 xl
              try simp only [Act.put, List.setIfInBounds_toArray, List.set_cons_zero, List.set_cons_succ]
              refine wpAnyH_done (by kernel_rfl) ?_ _
              go_wp2_with fail
              go_meet
              exact ⟨v0.heap.size, a52, c52, rfl, box_two X52.out _ _, (by have h9 := own_past Q52.out X52.out (.int .i64 n) (.slice a52 (Z.length + 1) c52); rw [List.length_append] at h9; exact h9), (B52.out.setCell (by show w3.heap.size ≤ v0.heap.size; omega) _).setCell (by show w3.heap.size ≤ v0.heap.size; omega) _, by omega⟩
        case rest =>
          obtain ⟨g2, b2, e2, rfl, hbx, hown2, hb4, hg2⟩ := hcut
          obtain ⟨w4, rfl⟩ : ∃ w4, w4 = wc := ⟨_, rfl⟩
          have hz3 := HB3.out.size
          have HO4 := Lib.hid hown2
          have HX4 := Lib.hid hbx
          have HB4 := Lib.hid (HB3.out.trans (hb4.mono HB3.out.size))
          have HT4 := Lib.hid (HT3.out.keep hb4 HT3.out.lt)
          have HU4 := Lib.hid (HU3.out.keep hb4 HU3.out.lt)
          have hz4 := hb4.size
          clear hown2 hbx hb4 t0 t1
          obtain ⟨x0, x1, _, _⟩ := HX4.out.facts
          go_wp2_with fail
          refine (HIH1.out w4 b2 e2 HGD.out (by omega) (own_base HO4.out (by omega))).mono ?_
          rintro e w5 ⟨hb5, hmm⟩
          have HB5 := Lib.hid (HB4.out.trans (hb5.mono HB4.out.size))
          have HT5 := Lib.hid (HT4.out.keep hb5 HT4.out.lt)
          have HU5 := Lib.hid (HU4.out.keep hb5 HU4.out.lt)
          clear hb5 x0 x1
          cases hf1 : firstN n d m A2 k with
          | some z =>
            rw [hf1] at hmm
            obtain ⟨a5, c5, rfl, hown5⟩ := hmm
            have HFN : Hid (firstN n d (m + 1) A (k + 1) = some z) := Lib.hid (by rw [HFN0.out, if_pos HGD.out, hf1])
            have HO5 := Lib.hid hown5
            clear hf1 hown5
            obtain ⟨w6, hw6⟩ : ∃ w6, w6 = w5.alloc (.cells #[.int .i64 n, .slice a5 (bitsL n z).length c5] 25) := ⟨_, rfl⟩
            have HB6 : Hid (Below w.heap.size w w6) := Lib.hid (by rw [hw6]; exact (HB0.out.trans (HB5.out.mono (by omega))).alloc ((HB0.out.trans (HB5.out.mono (by omega))).size) _)
            have HU6 : Hid (Box w6 (w.heap.size + 1) (.int .i64 0) (.slice none 0 0) 25) := Lib.hid (by rw [hw6]; exact HU5.out.keep (bel1 _ _) HU5.out.lt)
            have HX6 : Hid (Box w6 w5.heap.size (.int .i64 n) (.slice a5 (bitsL n z).length c5) 25) := Lib.hid (by rw [hw6]; exact box_new _ _ _ _)
            have HO6 : Hid (w6.ownsRow B 3 1 (.slice a5 (bitsL n z).length c5) (bitsL n z).length (ints (bitsL n z))) := Lib.hid (by rw [hw6]; exact HO5.out.alloc _)
            have HW6 := Lib.hid hw6
            clear hw6
            go_upto_region 9 with fail
            rw [← HW6.out]
            obtain ⟨u0, u1, u2, u3⟩ := HU6.out.facts
            have ult := HU6.out.lt
            obtain ⟨x0, x1, _, _⟩ := HX6.out.facts
            go_wp2
            refine bodyPost_ret (v := .tuple #[rhy n a5 (bitsL n z).length c5, .bool true]) (by simp [results, Try.results107, go_sem, *]) rfl ?_
            rw [HFN.out]
            exact ⟨(HB6.out.setCell (by show w.heap.size ≤ w.heap.size + 1; omega) _).setCell (by show w.heap.size ≤ w.heap.size + 1; omega) _, a5, c5, rfl, own_past HO6.out HU6.out _ _⟩
          | none =>
            rw [hf1] at hmm
            obtain rfl := hmm
            have HFN : Hid (firstN n d (m + 1) A (k + 1) = firstN n d m A (k + 1)) := Lib.hid (by rw [HFN0.out, if_pos HGD.out, hf1])
            clear hf1
            obtain ⟨w6, hw6⟩ : ∃ w6, w6 = w5.alloc (.cells #[.int .i64 0, .slice none 0 0] 25) := ⟨_, rfl⟩
            have HB6 : Hid (Below W0.heap.size W0 w6) := Lib.hid (by rw [hw6]; exact HB5.out.alloc HB5.out.size _)
            have HT6 : Hid (Box w6 w.heap.size (.int .i64 n) (.slice a Z.length cap) 25) := Lib.hid (by rw [hw6]; exact HT5.out.keep (bel1 _ _) HT5.out.lt)
            have HU6 : Hid (Box w6 (w.heap.size + 1) (.int .i64 0) (.slice none 0 0) 25) := Lib.hid (by rw [hw6]; exact HU5.out.keep (bel1 _ _) HU5.out.lt)
            have HW6 := Lib.hid hw6
            clear hw6
            go_upto_region 10 with fail
            rw [← HW6.out]
            obtain ⟨t0, t1, _, _⟩ := HT6.out.facts
            go_wp2_with fail
            refine (HIH2.out w6 (HB0.out.trans (HB6.out.mono (by omega)))).mono ?_
            rintro e wy ⟨hby, hmm⟩
            have HBY := Lib.hid (HB0.out.trans ((HB6.out.trans (hby.mono HB6.out.size)).mono (by omega)))
            have HUY := Lib.hid (HU6.out.keep hby HU6.out.lt)
            clear hby t0 t1
            cases hf2 : firstN n d m A (k + 1) with
            | none =>
              rw [hf2] at hmm HFN
              obtain rfl := hmm
              clear hf2
              obtain ⟨u0, u1, u2, u3⟩ := HUY.out.facts
              have ult := HUY.out.lt
              go_wp2
              refine bodyPost_ret (v := .tuple #[rhy 0 none 0 0, .bool false]) (by simp [results, Try.results107, go_sem, *]) rfl ?_
              rw [HFN.out]
              exact ⟨(HBY.out.setCell (by show w.heap.size ≤ w.heap.size + 1; omega) _).setCell (by show w.heap.size ≤ w.heap.size + 1; omega) _, rfl⟩
            | some z =>
              rw [hf2] at hmm HFN
              obtain ⟨a5, c5, rfl, hown5⟩ := hmm
              have HO5 := Lib.hid hown5
              clear hf2 hown5
              obtain ⟨u0, u1, u2, u3⟩ := HUY.out.facts
              have ult := HUY.out.lt
              go_wp2
              refine bodyPost_ret (v := .tuple #[rhy n a5 (bitsL n z).length c5, .bool true]) (by simp [results, Try.results107, go_sem, *]) rfl ?_
              rw [HFN.out]
              exact ⟨(HBY.out.setCell (by show w.heap.size ≤ w.heap.size + 1; omega) _).setCell (by show w.heap.size ≤ w.heap.size + 1; omega) _, a5, c5, rfl, own_past HO5.out HUY.out _ _⟩
      · have hbad : ¬ goodB n d A2 = true := fun hgg => by
          have h := (HGA.out.1 hgg).2
          rw [HBT.out] at q2
          unfold hasB at q2
          exact h (List.contains_iff_mem.1 q2)
        have HFN : Hid (firstN n d (m + 1) A (k + 1) = firstN n d m A (k + 1)) := Lib.hid (by rw [HFN0.out, if_neg hbad])
        clear hbad q2
        obtain ⟨t0, t1, _, _⟩ := HT3.out.facts
        go_wp2_with fail
        refine (HIH2.out w3 (HB0.out.trans (HB3.out.mono (by omega)))).mono ?_
        rintro e wy ⟨hby, hmm⟩
        have HBY := Lib.hid (HB0.out.trans ((HB3.out.trans (hby.mono HB3.out.size)).mono (by omega)))
        have HUY := Lib.hid (HU3.out.keep hby HU3.out.lt)
        clear hby t0 t1
        cases hf2 : firstN n d m A (k + 1) with
        | none =>
          rw [hf2] at hmm HFN
          obtain rfl := hmm
          clear hf2
          obtain ⟨u0, u1, u2, u3⟩ := HUY.out.facts
          have ult := HUY.out.lt
          go_wp2
          refine bodyPost_ret (v := .tuple #[rhy 0 none 0 0, .bool false]) (by simp [results, Try.results107, go_sem, *]) rfl ?_
          rw [HFN.out]
          exact ⟨(HBY.out.setCell (by show w.heap.size ≤ w.heap.size + 1; omega) _).setCell (by show w.heap.size ≤ w.heap.size + 1; omega) _, rfl⟩
        | some z =>
          rw [hf2] at hmm HFN
          obtain ⟨a5, c5, rfl, hown5⟩ := hmm
          have HO5 := Lib.hid hown5
          clear hf2 hown5
          obtain ⟨u0, u1, u2, u3⟩ := HUY.out.facts
          have ult := HUY.out.lt
          go_wp2
          refine bodyPost_ret (v := .tuple #[rhy n a5 (bitsL n z).length c5, .bool true]) (by simp [results, Try.results107, go_sem, *]) rfl ?_
          rw [HFN.out]
          exact ⟨(HBY.out.setCell (by show w.heap.size ≤ w.heap.size + 1; omega) _).setCell (by show w.heap.size ≤ w.heap.size + 1; omega) _, a5, c5, rfl, own_past HO5.out HUY.out _ _⟩
    · have hbad : ¬ goodB n d A2 = true := fun hgg => by
        have h := (HGA.out.1 hgg).1
        rw [HBT.out] at q1
        unfold hasB at q1
        exact h (List.contains_iff_mem.1 q1)
      have HFN : Hid (firstN n d (m + 1) A (k + 1) = firstN n d m A (k + 1)) := Lib.hid (by rw [HFN0.out, if_neg hbad])
      clear hbad q1
      obtain ⟨t0, t1, _, _⟩ := HT2.out.facts
      go_wp2_with fail
      refine (HIH2.out w2 (HB0.out.trans (HB2.out.mono (by omega)))).mono ?_
      rintro e wy ⟨hby, hmm⟩
      have HBY := Lib.hid (HB0.out.trans ((HB2.out.trans (hby.mono HB2.out.size)).mono (by omega)))
      have HUY := Lib.hid (HU2.out.keep hby HU2.out.lt)
      clear hby t0 t1
      cases hf2 : firstN n d m A (k + 1) with
      | none =>
        rw [hf2] at hmm HFN
        obtain rfl := hmm
        clear hf2
        obtain ⟨u0, u1, u2, u3⟩ := HUY.out.facts
        have ult := HUY.out.lt
        go_wp2
        refine bodyPost_ret (v := .tuple #[rhy 0 none 0 0, .bool false]) (by simp [results, Try.results107, go_sem, *]) rfl ?_
        rw [HFN.out]
        exact ⟨(HBY.out.setCell (by show w.heap.size ≤ w.heap.size + 1; omega) _).setCell (by show w.heap.size ≤ w.heap.size + 1; omega) _, rfl⟩
      | some z =>
        rw [hf2] at hmm HFN
        obtain ⟨a5, c5, rfl, hown5⟩ := hmm
        have HO5 := Lib.hid hown5
        clear hf2 hown5
        obtain ⟨u0, u1, u2, u3⟩ := HUY.out.facts
        have ult := HUY.out.lt
        go_wp2
        refine bodyPost_ret (v := .tuple #[rhy n a5 (bitsL n z).length c5, .bool true]) (by simp [results, Try.results107, go_sem, *]) rfl ?_
        rw [HFN.out]
        exact ⟨(HBY.out.setCell (by show w.heap.size ≤ w.heap.size + 1; omega) _).setCell (by show w.heap.size ≤ w.heap.size + 1; omega) _, a5, c5, rfl, own_past HO5.out HUY.out _ _⟩
end Go.Proofs.Ytjgjcppkbfojpaa.Rhy
