/-
  Helpers of the claims beside this text: GroupedEven of the model.
-/
import Derived.Test.YthjkblekccpafaaEvn
import Derived.Test.YthjkblekccpafaaPrs
namespace Go.Proofs.Ythjkblekccpafaa.Rhy
open Go.RowKit
set_option linter.unusedVariables false
set_option linter.unusedSimpArgs false

/-- Texts are joined in pairs, as long as there is a first one and two last ones. -/
def grpF : Nat → Nat → Nat → ByteArray → ByteArray → Nat × Nat × ByteArray × ByteArray
  | 0, a, b, f, l => (a, b, f, l)
  | m + 1, a, b, f, l => if 0 < a ∧ 1 < b then (if a < b then grpF m a (b - a) (f ++ l) l else grpF m b (a - b) (f ++ l) f) else (a, b, f, l)
def repA (acc f : ByteArray) : Nat → ByteArray
  | 0 => acc
  | i + 1 => repA acc f i ++ f
def grpS (k n : Nat) : Nat × Nat × ByteArray × ByteArray := grpF 60 k (n - k) ⟨#[120]⟩ ⟨#[46]⟩
def grpT (k n : Nat) : ByteArray := repA (repA ⟨#[]⟩ (grpS k n).2.2.1 (grpS k n).1) (grpS k n).2.2.2 (grpS k n).2.1
def grpZ (k n : Int) : List Int := xZ (grpT k.toNat n.toNat) n.toNat
theorem grpF_less {m a b : Nat} {f l : ByteArray} (ha : 0 < a) (hb : 1 < b) (h : a < b) : grpF (m + 1) a b f l = grpF m a (b - a) (f ++ l) l := by
  simp only [grpF]
  rw [if_pos ⟨ha, hb⟩, if_pos h]
theorem grpF_more {m a b : Nat} {f l : ByteArray} (ha : 0 < a) (hb : 1 < b) (h : ¬ a < b) : grpF (m + 1) a b f l = grpF m b (a - b) (f ++ l) f := by
  simp only [grpF]
  rw [if_pos ⟨ha, hb⟩, if_neg h]
theorem grpF_end {m a b : Nat} {f l : ByteArray} (h : ¬ (0 < a ∧ 1 < b)) : grpF m a b f l = (a, b, f, l) := by
  cases m with
  | zero => rfl
  | succ m => simp only [grpF]; rw [if_neg h]
def XD (t : ByteArray) : Prop := ∀ c ∈ t.data.toList, c = 120 ∨ c = 46
theorem xd_app {f l : ByteArray} (hf : XD f) (hl : XD l) : XD (f ++ l) := by
  intro c hc
  have e : (f ++ l).data.toList = f.data.toList ++ l.data.toList := by simp [ByteArray.data_append]
  rw [e, List.mem_append] at hc
  exact hc.elim (hf c) (hl c)
theorem xd_rep {acc f : ByteArray} (ha : XD acc) (hf : XD f) : ∀ i, XD (repA acc f i)
  | 0 => ha
  | i + 1 => xd_app (xd_rep ha hf i) hf
theorem repA_size (acc f : ByteArray) : ∀ i, (repA acc f i).size = acc.size + i * f.size
  | 0 => by simp [repA]
  | i + 1 => by
    simp only [repA]
    rw [ByteArray.size_append, repA_size acc f i, Nat.add_mul]
    omega
theorem xd_all {t : ByteArray} (h : XD t) : AllXD t := by
  intro i hi
  have hl : t.data.toList.length = t.size := by rw [Array.length_toList]; rfl
  rw [List.getElem?_eq_getElem (by omega)]
  rcases h _ (List.getElem_mem (show i < t.data.toList.length by omega)) with e | e
  · left; rw [e]
  · right; rw [e]
/-- Between two rounds. -/
structure Grp (k n m a b : Nat) (f l : ByteArray) : Prop where
  eq : grpF m a b f l = grpS k n
  fuel : a + b ≤ m
  size : a * f.size + b * l.size = n
  f1 : 1 ≤ f.size
  l1 : 1 ≤ l.size
  fx : XD f
  lx : XD l
theorem grp_start {k n : Nat} (hk : k ≤ n) (hn : n ≤ 24) : Grp k n 60 k (n - k) ⟨#[120]⟩ ⟨#[46]⟩ :=
  ⟨rfl, by omega, by show k * 1 + (n - k) * 1 = n; omega, Nat.le_refl _, Nat.le_refl _, by intro c hc; simp at hc; exact .inl hc, by intro c hc; simp at hc; exact .inr hc⟩
theorem grp_less {k n m a b : Nat} {f l : ByteArray} (h : Grp k n m a b f l) (ha : 0 < a) (hb : 1 < b) (hlt : a < b) : Grp k n (m - 1) a (b - a) (f ++ l) l := by
  obtain ⟨p, rfl⟩ : ∃ p, m = p + 1 := ⟨m - 1, by have := h.fuel; omega⟩
  refine ⟨by rw [← h.eq, grpF_less ha hb hlt]; rfl, by have := h.fuel; omega, ?_, by rw [ByteArray.size_append]; have := h.f1; omega, h.l1, xd_app h.fx h.lx, h.lx⟩
  rw [ByteArray.size_append, Nat.mul_add]
  have e : b * l.size = a * l.size + (b - a) * l.size := by rw [← Nat.add_mul]; congr 1; omega
  have := h.size
  omega
theorem grp_more {k n m a b : Nat} {f l : ByteArray} (h : Grp k n m a b f l) (ha : 0 < a) (hb : 1 < b) (hlt : ¬ a < b) : Grp k n (m - 1) b (a - b) (f ++ l) f := by
  obtain ⟨p, rfl⟩ : ∃ p, m = p + 1 := ⟨m - 1, by have := h.fuel; omega⟩
  refine ⟨by rw [← h.eq, grpF_more ha hb hlt]; rfl, by have := h.fuel; omega, ?_, by rw [ByteArray.size_append]; have := h.f1; omega, h.f1, xd_app h.fx h.lx, h.fx⟩
  rw [ByteArray.size_append, Nat.mul_add]
  have e : a * f.size = b * f.size + (a - b) * f.size := by rw [← Nat.add_mul]; congr 1; omega
  have := h.size
  omega
theorem grp_sizes {k n m a b : Nat} {f l : ByteArray} (h : Grp k n m a b f l) (ha : 0 < a) (hb : 1 < b) : f.size + l.size ≤ n := by
  have h1 := Nat.le_mul_of_pos_left f.size ha
  have h2 := Nat.le_mul_of_pos_left l.size (show 0 < b by omega)
  have := h.size
  omega
theorem grp_end {k n m a b : Nat} {f l : ByteArray} (h : Grp k n m a b f l) (he : ¬ (0 < a ∧ 1 < b)) : repA (repA ⟨#[]⟩ f a) l b = grpT k n := by
  unfold grpT
  rw [← h.eq, grpF_end he]

set_option maxHeartbeats 1000000 in
theorem grp_spec (k n : Int) (w : World) (h1 : -9223372036854775808 ≤ k) (h2 : k ≤ 9223372036854775807) (h3 : -9223372036854775808 ≤ n) (h4 : n ≤ 9223372036854775807) :
    Calls Try.prog 18 #[.int .i64 k, .int .i64 n] w (CPost (EvC k n) n (grpZ k n) w) := by
  have HX := Lib.hid (box_new w (.int .i64 0) (.slice none 0 0) 24)
  by_cases ho : EvC k n
  · have HO := Lib.hid ho
    obtain ⟨hn1, hn2, hk1, hk2⟩ := ho
    obtain ⟨K, rfl⟩ : ∃ K : Nat, k = K := ⟨k.toNat, by omega⟩
    obtain ⟨N, rfl⟩ : ∃ N : Nat, n = N := ⟨n.toNat, by omega⟩
    have hKN : K ≤ N := by omega
    have hN : N ≤ 24 := by omega
    obtain ⟨W0, hW⟩ : ∃ W0, W0 = w.alloc (.cells #[.int .i64 0, .slice none 0 0] 24) := ⟨_, rfl⟩
    have HW := Lib.hid hW
    rw [← hW] at HX
    have HB0 := Lib.hid (show Below w.heap.size w W0 by rw [hW]; exact bel1 w _)
    have HSZ := Lib.hid (show W0.heap.size = w.heap.size + 1 by rw [hW]; simp)
    clear hW
    have hsub : wrap64 ((N : Int) - (K : Int)) = ((N - K : Nat) : Int) := by unfold wrap64; omega
    go_enter Try.func18, Try.ntmps18
    go_wp2_with fail
    rw [← HW.out]
    refine (six_yes K N _ HO.out).mono ?_
    rintro e w1 ⟨rfl, rfl⟩
    go_wp2
    go_loop [6, 7, 8, 9] (fun f l a b => ∃ (A B m : Nat) (F L : ByteArray), f = .string F ∧ l = .string L ∧ a = .int .i64 A ∧ b = .int .i64 B ∧ Hid (Grp K N m A B F L)) (fun _ _ a b => (intOf a).toNat + (intOf b).toNat)
    case atStart => exact ⟨K, N - K, 60, _, _, rfl, rfl, rfl, by rw [show ((N - K : Nat) : Int) = (N : Int) - (K : Int) by omega], Lib.hid (grp_start hKN hN)⟩
    case round =>
      obtain ⟨A, B, m, F, L, rfl, rfl, rfl, rfl, HG⟩ := hrel
      have hA24 : A ≤ 24 := by have := Nat.le_mul_of_pos_right A HG.out.f1; have := HG.out.size; omega
      have hB24 : B ≤ 24 := by have := Nat.le_mul_of_pos_right B HG.out.l1; have := HG.out.size; omega
      by_cases hAB : 0 < A ∧ 1 < B
      · obtain ⟨hA, hB⟩ := hAB
        have hS := grp_sizes HG.out hA hB
        have hA2 : decide ((0 : Int) < (A : Int)) = true := by simp; omega
        have hB2 : decide ((1 : Int) < (B : Int)) = true := by simp; omega
        have hF3 : F.size ≤ 3000 := by omega
        have hL3 : L.size ≤ 3000 := by omega
        have hbd := HG.out.fuel
        by_cases hlt : A < B
        · have HG2 := Lib.hid (grp_less HG.out hA hB hlt)
          have hlt2 : decide ((A : Int) < (B : Int)) = true := by simp; omega
          have hw : wrap64 ((B : Int) - (A : Int)) = (B : Int) - (A : Int) := by unfold wrap64; omega
          go_wp2
          go_round
          case rel => exact ⟨A, B - A, m - 1, _, _, rfl, rfl, rfl, by rw [show ((B - A : Nat) : Int) = (B : Int) - (A : Int) by omega], HG2⟩
          case measure => simp [intOf]; omega
        · have HG2 := Lib.hid (grp_more HG.out hA hB hlt)
          have hlt2 : decide ((A : Int) < (B : Int)) = false := by simp; omega
          have hw : wrap64 ((A : Int) - (B : Int)) = (A : Int) - (B : Int) := by unfold wrap64; omega
          go_wp2
          go_round
          case rel => exact ⟨B, A - B, m - 1, _, _, rfl, rfl, rfl, by rw [show ((A - B : Nat) : Int) = (A : Int) - (B : Int) by omega], HG2⟩
          case measure => simp [intOf]; omega
      · have HE := Lib.hid (grp_end HG.out hAB)
        have hAF : A * F.size ≤ 24 := by have := HG.out.size; omega
        have hBL : A * F.size + B * L.size = N := HG.out.size
        have HXT : Hid (XD (repA (repA ⟨#[]⟩ F A) L B)) := Lib.hid (xd_rep (xd_rep (by intro c hc; simp at hc) HG.out.fx _) HG.out.lx _)
        have HST : Hid ((repA (repA ⟨#[]⟩ F A) L B).size = N) := Lib.hid (by rw [repA_size, repA_size, ← hBL]; show 0 + _ + _ = _; omega)
        have hcond : ¬ 0 < A ∨ (0 < A ∧ ¬ 1 < B) := by omega
        rcases hcond with hA | ⟨hA, hB⟩
        · have hA2 : decide ((0 : Int) < (A : Int)) = false := by simp; omega
          clear hAB
          go_wp2
          go_loop [12, 13] (fun t i => ∃ j : Nat, j ≤ A ∧ i = .int .i64 j ∧ t = .string (repA ⟨#[]⟩ F j)) (fun _ i => A - (intOf i).toNat)
          case atStart => exact ⟨0, by omega, rfl, rfl⟩
          case round =>
            obtain ⟨j, hj, rfl, rfl⟩ := hrel
            by_cases hlt : j < A
            · exact absurd hlt (by omega)
            · have e : j = A := by omega
              have hlt2 : decide ((j : Int) < (A : Int)) = false := by simp; omega
              subst e
              obtain ⟨t1, ht1⟩ : ∃ t, repA ⟨#[]⟩ F j = t := ⟨_, rfl⟩
              have ht1s : t1.size ≤ 24 := by rw [← ht1, repA_size]; show 0 + _ ≤ _; omega
              have ht1e : t1.size + B * L.size = N := by rw [← ht1, repA_size, ← hBL]; show 0 + _ + _ = _; omega
              rw [ht1] at HE HXT HST ⊢
              clear ht1 hlt
              go_wp2
              go_loop [12, 14] (fun t i => ∃ q : Nat, q ≤ B ∧ i = .int .i64 q ∧ t = .string (repA t1 L q)) (fun _ i => B - (intOf i).toNat)
              case atStart => exact ⟨0, by omega, rfl, rfl⟩
              case round =>
                obtain ⟨q, hq, rfl, rfl⟩ := hrel
                by_cases hlq : q < B
                · have hsz : (repA t1 L q).size ≤ 3000 := by rw [repA_size]; have := Nat.mul_le_mul_right L.size hq; omega
                  have hL3 : L.size ≤ 3000 := by have := Nat.le_mul_of_pos_left L.size (show 0 < B by omega); omega
                  obtain ⟨t, ht⟩ : ∃ t, repA t1 L q = t := ⟨_, rfl⟩
                  rw [ht] at hsz ⊢
                  have HTT := Lib.hid ht
                  have hlq2 : decide ((q : Int) < (B : Int)) = true := by simp; omega
                  clear ht
                  go_wp2
                  go_round
                  case rel => exact ⟨q + 1, by omega, by go_num, by rw [← HTT.out]; rfl⟩
                  case measure => simp [intOf]; omega
                · have e : q = B := by omega
                  have hlq2 : decide ((q : Int) < (B : Int)) = false := by simp; omega
                  subst e
                  obtain ⟨T, hT⟩ : ∃ t, repA t1 L q = t := ⟨_, rfl⟩
                  rw [hT] at HE HXT HST ⊢
                  have hTs : T.size = N := HST.out
                  have HTS := Lib.hid hTs
                  have hT1 : T.size ≤ 1048576 := by omega
                  have HPC : Hid (PC T) := Lib.hid ⟨by omega, xd_all HXT.out⟩
                  have HGZ : Hid (grpZ K N = xZ T N) := Lib.hid (by unfold grpZ; rw [Int.toNat_natCast, Int.toNat_natCast, HE.out])
                  clear hT hTs hlq
                  go_wp2_with fail
                  refine (prs_spec T W0 hT1).mono ?_
                  rintro e w2 hp
                  unfold CPost at hp
                  rw [cS_yes HPC.out, cZ_yes HPC.out, cB_yes HPC.out, HTS.out] at hp
                  obtain ⟨a2, cap2, rfl, hown, hb⟩ := hp
                  obtain ⟨X, hX⟩ : ∃ l, xZ T N = l := ⟨_, rfl⟩
                  have HXX := Lib.hid hX
                  rw [hX] at hown ⊢
                  have HOW := Lib.hid hown
                  have HB2 := Lib.hid hb
                  have hx := HX.out.keep hb (by have := HSZ.out; omega)
                  have HX2 := Lib.hid (hx.keep (bel1 w2 (.cells #[.int .i64 N, .slice a2 X.length cap2] 24)) hx.lt)
                  obtain ⟨c0, c1, c2, c3⟩ := HX2.out.facts
                  have lt0 := HX2.out.lt
                  clear hX hown hb hx
                  go_wp2
                  refine bodyPost_ret (v := .tuple #[rhy N a2 X.length cap2, .bool true]) (by simp [results, Try.results18, go_sem, *]) rfl ?_
                  refine cpost_yes HO.out (by rw [HGZ.out, HXX.out]) ?_ ?_
                  · rw [HGZ.out, HXX.out]
                    exact own_base (ownsRow_setCell_below (ownsRow_setCell_below (HOW.out.alloc _) (by show w.heap.size < _; have := HSZ.out; omega) _) (by show w.heap.size < _; have := HSZ.out; omega) _) (by have := HSZ.out; omega)
                  · exact (((HB0.out.trans (HB2.out.mono HB0.out.size)).alloc (Nat.le_trans HB0.out.size HB2.out.size) _).setCell (by simp) _).setCell (by simp) _
        · have hA2 : decide ((0 : Int) < (A : Int)) = true := by simp; omega
          have hB2 : decide ((1 : Int) < (B : Int)) = false := by simp; omega
          clear hAB
          go_wp2
          go_loop [12, 13] (fun t i => ∃ j : Nat, j ≤ A ∧ i = .int .i64 j ∧ t = .string (repA ⟨#[]⟩ F j)) (fun _ i => A - (intOf i).toNat)
          case atStart => exact ⟨0, by omega, rfl, rfl⟩
          case round =>
            obtain ⟨j, hj, rfl, rfl⟩ := hrel
            by_cases hlt : j < A
            · have hsz : (repA ⟨#[]⟩ F j).size ≤ 3000 := by rw [repA_size]; have := Nat.mul_le_mul_right F.size hj; show 0 + _ ≤ _; omega
              have hF3 : F.size ≤ 3000 := by have := Nat.le_mul_of_pos_left F.size (show 0 < A by omega); omega
              obtain ⟨t, ht⟩ : ∃ t, repA ⟨#[]⟩ F j = t := ⟨_, rfl⟩
              rw [ht] at hsz ⊢
              have HTT := Lib.hid ht
              have hlt2 : decide ((j : Int) < (A : Int)) = true := by simp; omega
              clear ht
              go_wp2
              go_round
              case rel => exact ⟨j + 1, by omega, by go_num, by rw [← HTT.out]; rfl⟩
              case measure => simp [intOf]; omega
            · have e : j = A := by omega
              have hlt2 : decide ((j : Int) < (A : Int)) = false := by simp; omega
              subst e
              obtain ⟨t1, ht1⟩ : ∃ t, repA ⟨#[]⟩ F j = t := ⟨_, rfl⟩
              have ht1s : t1.size ≤ 24 := by rw [← ht1, repA_size]; show 0 + _ ≤ _; omega
              have ht1e : t1.size + B * L.size = N := by rw [← ht1, repA_size, ← hBL]; show 0 + _ + _ = _; omega
              rw [ht1] at HE HXT HST ⊢
              clear ht1 hlt
              go_wp2
              go_loop [12, 14] (fun t i => ∃ q : Nat, q ≤ B ∧ i = .int .i64 q ∧ t = .string (repA t1 L q)) (fun _ i => B - (intOf i).toNat)
              case atStart => exact ⟨0, by omega, rfl, rfl⟩
              case round =>
                obtain ⟨q, hq, rfl, rfl⟩ := hrel
                by_cases hlq : q < B
                · have hsz : (repA t1 L q).size ≤ 3000 := by rw [repA_size]; have := Nat.mul_le_mul_right L.size hq; omega
                  have hL3 : L.size ≤ 3000 := by have := Nat.le_mul_of_pos_left L.size (show 0 < B by omega); omega
                  obtain ⟨t, ht⟩ : ∃ t, repA t1 L q = t := ⟨_, rfl⟩
                  rw [ht] at hsz ⊢
                  have HTT := Lib.hid ht
                  have hlq2 : decide ((q : Int) < (B : Int)) = true := by simp; omega
                  clear ht
                  go_wp2
                  go_round
                  case rel => exact ⟨q + 1, by omega, by go_num, by rw [← HTT.out]; rfl⟩
                  case measure => simp [intOf]; omega
                · have e : q = B := by omega
                  have hlq2 : decide ((q : Int) < (B : Int)) = false := by simp; omega
                  subst e
                  obtain ⟨T, hT⟩ : ∃ t, repA t1 L q = t := ⟨_, rfl⟩
                  rw [hT] at HE HXT HST ⊢
                  have hTs : T.size = N := HST.out
                  have HTS := Lib.hid hTs
                  have hT1 : T.size ≤ 1048576 := by omega
                  have HPC : Hid (PC T) := Lib.hid ⟨by omega, xd_all HXT.out⟩
                  have HGZ : Hid (grpZ K N = xZ T N) := Lib.hid (by unfold grpZ; rw [Int.toNat_natCast, Int.toNat_natCast, HE.out])
                  clear hT hTs hlq
                  go_wp2_with fail
                  refine (prs_spec T W0 hT1).mono ?_
                  rintro e w2 hp
                  unfold CPost at hp
                  rw [cS_yes HPC.out, cZ_yes HPC.out, cB_yes HPC.out, HTS.out] at hp
                  obtain ⟨a2, cap2, rfl, hown, hb⟩ := hp
                  obtain ⟨X, hX⟩ : ∃ l, xZ T N = l := ⟨_, rfl⟩
                  have HXX := Lib.hid hX
                  rw [hX] at hown ⊢
                  have HOW := Lib.hid hown
                  have HB2 := Lib.hid hb
                  have hx := HX.out.keep hb (by have := HSZ.out; omega)
                  have HX2 := Lib.hid (hx.keep (bel1 w2 (.cells #[.int .i64 N, .slice a2 X.length cap2] 24)) hx.lt)
                  obtain ⟨c0, c1, c2, c3⟩ := HX2.out.facts
                  have lt0 := HX2.out.lt
                  clear hX hown hb hx
                  go_wp2
                  refine bodyPost_ret (v := .tuple #[rhy N a2 X.length cap2, .bool true]) (by simp [results, Try.results18, go_sem, *]) rfl ?_
                  refine cpost_yes HO.out (by rw [HGZ.out, HXX.out]) ?_ ?_
                  · rw [HGZ.out, HXX.out]
                    exact own_base (ownsRow_setCell_below (ownsRow_setCell_below (HOW.out.alloc _) (by show w.heap.size < _; have := HSZ.out; omega) _) (by show w.heap.size < _; have := HSZ.out; omega) _) (by have := HSZ.out; omega)
                  · exact (((HB0.out.trans (HB2.out.mono HB0.out.size)).alloc (Nat.le_trans HB0.out.size HB2.out.size) _).setCell (by simp) _).setCell (by simp) _
  · have HO := Lib.hid ho
    clear ho
    go_enter Try.func18, Try.ntmps18
    go_wp2_with fail
    refine (six_no k n _ HO.out).mono ?_
    rintro e w1 ⟨rfl, rfl⟩
    obtain ⟨c0, c1, c2, c3⟩ := HX.out.facts
    have lt0 := HX.out.lt
    go_wp2
    refine bodyPost_ret (v := .tuple #[rhy 0 none 0 0, .bool false]) (by simp [results, Try.results18, go_sem, *]) rfl ?_
    exact cpost_no HO.out (bel1 w _)
end Go.Proofs.Ythjkblekccpafaa.Rhy
