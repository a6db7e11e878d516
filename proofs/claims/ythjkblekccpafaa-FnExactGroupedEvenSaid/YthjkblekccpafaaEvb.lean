/-
  Helpers of the claims beside this text: GroupedEven of the program.
-/
import Derived.Test.YthjkblekccpafaaEva
import Derived.Test.YthjkblekccpafaaEvg
import Derived.Test.YthjkblekccpafaaShelr
import Derived.Deep.LoopGhost
namespace Go.Proofs.Ythjkblekccpafaa.Rhy
open Go.RowKit
set_option linter.unusedVariables false
set_option linter.unusedSimpArgs false

theorem repA_rep (f : ByteArray) : ∀ i, repA ⟨#[]⟩ f i = ⟨(Lib.repeatL f.data.toList i).toArray⟩
  | 0 => rfl
  | i + 1 => by
    simp only [repA]
    rw [repA_rep f i, Lib.repeatL_add, Lib.repeatL_one]
    apply ByteArray.ext
    simp [ByteArray.data_append]
theorem repA_acc (acc f : ByteArray) : ∀ i, repA acc f i = acc ++ repA ⟨#[]⟩ f i
  | 0 => by
    apply ByteArray.ext
    simp [repA, ByteArray.data_append]
  | i + 1 => by
    simp only [repA]
    rw [repA_acc acc f i]
    apply ByteArray.ext
    simp [ByteArray.data_append]

/-- A number of copies of a text. -/
theorem whole_any (c : Nat) (t : ByteArray) (w : World) (hc : c ≤ 24) (ht : t.size ≤ 3000) :
    Calls Try.prog 58 #[.agg #[.int .i64 c, .string t]] w fun e w' => e = .returned (.string (repA ⟨#[]⟩ t c)) ∧ Below w.heap.size w w' := by
  have HR := Lib.hid (repA_rep t c)
  have hsz : t.size * c ≤ 3000 * 24 := Nat.mul_le_mul ht hc
  go_enter Try.func58, Try.ntmps58
  go_wp2_with fail
  refine (Try.strings_Repeat t c _ (by omega) (by omega)).mono ?_
  rintro e w2 ⟨rfl, hb⟩
  have HB := Lib.hid ((bel1 w (.cells #[.int .i64 c, .string t] 56)).trans (hb.mono (by simp)))
  clear hb
  go_wp2
  go_ret
  exact ⟨by rw [HR.out]; rfl, HB.out⟩
/-- What is left of two groups. -/
def lftN (a b : Nat) : Nat := if b < a then a - b else b - a
def lftT (a b : Nat) (f l : ByteArray) : ByteArray := if b < a then f else l
set_option maxHeartbeats 2000000 in
theorem pair_any (a b : Nat) (f l : ByteArray) (w : World) (ha : a ≤ 24) (hb : b ≤ 24) (hf : f.size ≤ 3000) (hl : l.size ≤ 3000) :
    Calls Try.prog 57 #[.agg #[.int .i64 a, .string f], .agg #[.int .i64 b, .string l]] w
      fun e w' => e = .returned (.tuple #[.agg #[.int .i64 (min a b : Nat), .string (f ++ l)], .agg #[.int .i64 (lftN a b : Nat), .string (lftT a b f l)]]) ∧ Below w.heap.size w w' := by
  by_cases hab : b < a
  · have HN : Hid (((lftN a b : Nat) : Int) = (a : Int) - (b : Int)) := Lib.hid (by unfold lftN; rw [if_pos hab]; omega)
    have HT : Hid (lftT a b f l = f) := Lib.hid (if_pos hab)
    have HM : Hid (min a b = b) := Lib.hid (by omega)
    rw [HN.out, HT.out, HM.out]
    have hm1 : min (a : Int) (b : Int) = (b : Int) := by omega
    have hd : decide ((b : Int) < (a : Int)) = true := decide_eq_true (by omega)
    have hw : wrap64 ((a : Int) - (b : Int)) = (a : Int) - (b : Int) := by unfold wrap64; omega
    go_enter Try.func57, Try.ntmps57
    go_wp2_with fail
    go_region
    go_wp2
    refine bodyPost_ret (v := .tuple #[.agg #[.int .i64 (b : Nat), .string (f ++ l)], .agg #[.int .i64 ((a : Int) - (b : Int)), .string f]]) (by simp [results, Try.results57, go_sem, *]) rfl ⟨rfl, ?_⟩
    exact ((bel4 w _ _ _ _).alloc (by simp; omega) _).drew
  · have HN : Hid (((lftN a b : Nat) : Int) = (b : Int) - (a : Int)) := Lib.hid (by unfold lftN; rw [if_neg hab]; omega)
    have HT : Hid (lftT a b f l = l) := Lib.hid (if_neg hab)
    have HM : Hid (min a b = a) := Lib.hid (by omega)
    rw [HN.out, HT.out, HM.out]
    have hm1 : min (a : Int) (b : Int) = (a : Int) := by omega
    have hd : decide ((a : Int) < (a : Int)) = false := decide_eq_false (by omega)
    have hw : wrap64 ((b : Int) - (a : Int)) = (b : Int) - (a : Int) := by unfold wrap64; omega
    go_enter Try.func57, Try.ntmps57
    go_wp2_with fail
    go_region
    go_wp2
    refine bodyPost_ret (v := .tuple #[.agg #[.int .i64 (a : Nat), .string (f ++ l)], .agg #[.int .i64 ((b : Int) - (a : Int)), .string l]]) (by simp [results, Try.results57, go_sem, *]) rfl ⟨rfl, ?_⟩
    exact ((bel4 w _ _ _ _).alloc (by simp; omega) _).drew

/-- The two groups between two rounds: what the program's second text is matters only if there are copies of it. -/
structure Gst (k n A B : Nat) (F L : ByteArray) : Prop where
  st : ∃ m L', Grp k n m A B F L' ∧ (0 < B → L' = L)
  lsz : L.size ≤ 3000
  fsz : F.size ≤ 3000
theorem gst_bd {k n A B : Nat} {F L : ByteArray} (h : Gst k n A B F L) (hn : n ≤ 24) : A ≤ 24 ∧ B ≤ 24 ∧ (0 < A → F.size ≤ 24) ∧ (0 < B → L.size ≤ 24) := by
  obtain ⟨m, L', hG, hL⟩ := h.st
  have e := hG.size
  have h1 := Nat.le_mul_of_pos_right A hG.f1
  have h2 := Nat.le_mul_of_pos_right B hG.l1
  refine ⟨by omega, by omega, fun q => ?_, fun q => ?_⟩
  · have := Nat.le_mul_of_pos_left F.size q; omega
  · have := Nat.le_mul_of_pos_left L'.size q
    rw [hL q] at this e
    omega
theorem gst_start {k n : Nat} (hk : k ≤ n) (hn : n ≤ 24) : Gst k n k (n - k) ⟨#[120]⟩ ⟨#[46]⟩ := ⟨⟨60, _, grp_start hk hn, fun _ => rfl⟩, by show 1 ≤ 3000; omega, by show 1 ≤ 3000; omega⟩
theorem gst_step {k n A B : Nat} {F L : ByteArray} (h : Gst k n A B F L) (hn : n ≤ 24) (hA : 0 < A) (hB : 1 < B) : Gst k n (min A B) (lftN A B) (F ++ L) (lftT A B F L) ∧ min A B + lftN A B < A + B := by
  obtain ⟨m, L', hG, hL⟩ := h.st
  have hs := gst_bd h hn
  have hfs := hs.2.2.1 hA
  obtain rfl := hL (by omega)
  have hfl : (F ++ L').size ≤ 3000 := by rw [ByteArray.size_append]; have := grp_sizes hG hA hB; omega
  unfold lftN lftT
  by_cases hlt : A < B
  · rw [if_neg (by omega), if_neg (by omega), show min A B = A by omega]
    exact ⟨⟨⟨m - 1, _, grp_less hG hA hB hlt, fun _ => rfl⟩, h.lsz, hfl⟩, by omega⟩
  · have hg := grp_more hG hA hB hlt
    by_cases he : A = B
    · rw [if_neg (by omega), if_neg (by omega), show min A B = B by omega, show B - A = A - B by omega]
      exact ⟨⟨⟨m - 1, _, hg, fun q => absurd q (by omega)⟩, h.lsz, hfl⟩, by omega⟩
    · rw [if_pos (by omega), if_pos (by omega), show min A B = B by omega]
      exact ⟨⟨⟨m - 1, _, hg, fun _ => rfl⟩, by omega, hfl⟩, by omega⟩
theorem gst_end {k n A B : Nat} {F L : ByteArray} (h : Gst k n A B F L) (he : ¬ (0 < A ∧ 1 < B)) : repA ⟨#[]⟩ F A ++ repA ⟨#[]⟩ L B = grpT k n := by
  obtain ⟨m, L', hG, hL⟩ := h.st
  rw [← repA_acc, ← grp_end hG he]
  by_cases hB : 0 < B
  · rw [hL hB]
  · obtain rfl : B = 0 := by omega
    rfl
theorem gst_text {k n A B : Nat} {F L : ByteArray} (h : Gst k n A B F L) (he : ¬ (0 < A ∧ 1 < B)) : XD (grpT k n) ∧ (grpT k n).size = n := by
  obtain ⟨m, L', hG, hL⟩ := h.st
  rw [← grp_end hG he]
  refine ⟨xd_rep (xd_rep (by intro c hc; simp at hc) hG.fx _) hG.lx _, ?_⟩
  rw [repA_size, repA_size, ← hG.size]
  show 0 + _ + _ = _
  omega
/-- Where the two groups lie. -/
def GpAt (k n A B : Nat) (F L : ByteArray) (w wr : World) : Prop :=
  Box wr w.heap.size (.int .i64 A) (.string F) 56 ∧ Box wr (w.heap.size + 1) (.int .i64 B) (.string L) 56 ∧ Below w.heap.size w wr

set_option maxHeartbeats 2000000 in
theorem gtext_any (k n : Nat) (w : World) (hk : k ≤ n) (hn : n ≤ 24) (hn1 : 1 ≤ n) :
    Calls Try.prog 42 #[.int .i64 k, .int .i64 n] w fun e w' => (e = .returned (.string (grpT k n)) ∧ Below w.heap.size w w') ∧ XD (grpT k n) ∧ (grpT k n).size = n := by
  have hw0 : wrap64 ((n : Int) - (k : Int)) = ((n - k : Nat) : Int) := by unfold wrap64; omega
  have HG0 := Lib.hid (gst_start hk hn)
  go_enter Try.func42, Try.ntmps42
  go_wp2_with fail
  go_loopg [] n (fun g wx => ∃ (A B : Nat) (F L : ByteArray), A + B = g ∧ Gst k n A B F L ∧ GpAt k n A B F L w wx)
  case atStart =>
    refine ⟨k, n - k, _, _, by omega, HG0.out, ?_, ?_, bel2 w _ _⟩
    · exact (box_new w _ _ _).keep (bel1 _ _) (by simp)
    · rw [show ((n - k : Nat) : Int) = (n : Int) - (k : Int) by omega]
      have := box_new (w.alloc (.cells #[.int .i64 k, .string ⟨#[120]⟩] 56)) (.int .i64 ((n : Int) - (k : Int))) (.string ⟨#[46]⟩) 56
      simpa using this
  case round =>
    obtain ⟨A, B, F, L, hsum, hg, hx, hy, hbl⟩ := hrel
    have HG := Lib.hid hg
    have HX0 := Lib.hid hx
    have HY0 := Lib.hid hy
    have HBL := Lib.hid hbl
    obtain ⟨x0, x1, x2, x3⟩ := hx.facts
    have xl := hx.lt
    obtain ⟨y0, y1, y2, y3⟩ := hy.facts
    have yl := hy.lt
    obtain ⟨hA24, hB24, hF24, hL24⟩ := gst_bd hg hn
    have hL3 := hg.lsz
    have hF3 := hg.fsz
    clear hg hx hy hbl
    by_cases hAB : 0 < A ∧ 1 < B
    · have HST := Lib.hid (gst_step HG.out hn hAB.1 hAB.2)
      have e1 : decide ((1 : Int) ≤ (A : Int)) = true := decide_eq_true (by omega)
      have e2 : decide ((2 : Int) ≤ (B : Int)) = true := decide_eq_true (by omega)
      have HP := Lib.hid (pair_any A B F L wr hA24 hB24 hF3 hL3)
      obtain ⟨a2, ha2⟩ : ∃ a2, min A B = a2 := ⟨_, rfl⟩
      obtain ⟨b2, hb2⟩ : ∃ b2, lftN A B = b2 := ⟨_, rfl⟩
      obtain ⟨t1, ht1⟩ : ∃ t1, F ++ L = t1 := ⟨_, rfl⟩
      obtain ⟨t2, ht2⟩ : ∃ t2, lftT A B F L = t2 := ⟨_, rfl⟩
      rw [ha2, hb2, ht1, ht2] at HP
      rw [ha2, hb2, ht1, ht2] at HST
      have hlt2 := HST.out.2
      clear hAB ha2 hb2 ht1 ht2 hF24 hL24
      go_wp2_with fail
      refine HP.out.mono ?_
      rintro e w2 ⟨rfl, hb⟩
      have HX2 := Lib.hid (HX0.out.keep hb HX0.out.lt)
      have HY2 := Lib.hid (HY0.out.keep hb HY0.out.lt)
      have HB2 := Lib.hid (HBL.out.trans (hb.mono HBL.out.size))
      clear x0 x1 x2 x3 xl y0 y1 y2 y3 yl hb
      obtain ⟨x0, x1, x2, x3⟩ := HX2.out.facts
      have xl := HX2.out.lt
      obtain ⟨y0, y1, y2, y3⟩ := HY2.out.facts
      have yl := HY2.out.lt
      go_wp2
      go_roundg (a2 + b2)
      case measure => omega
      case rel =>
        refine ⟨a2, b2, t1, t2, rfl, HST.out.1, ?_, ?_, ?_⟩
        · exact (((HX2.out.set0 _).set1 _).other _ (by omega)).other _ (by omega)
        · exact (((HY2.out.other _ (by omega)).other _ (by omega)).set0 _).set1 _
        · exact (((HB2.out.setCell (by simp) _).setCell (by simp) _).setCell (by simp) _).setCell (by simp) _
    · obtain ⟨X, hX⟩ : ∃ X, repA ⟨#[]⟩ F A = X := ⟨_, rfl⟩
      obtain ⟨Y, hY⟩ : ∃ Y, repA ⟨#[]⟩ L B = Y := ⟨_, rfl⟩
      have HX := Lib.hid hX
      have HY := Lib.hid hY
      have hXY : X.size + Y.size = n := by rw [← hX, ← hY, ← ByteArray.size_append, gst_end HG.out hAB]; exact (gst_text HG.out hAB).2
      have hX3 : X.size ≤ 3000 := by omega
      have hY3 : Y.size ≤ 3000 := by omega
      have hXYb : X.size + Y.size ≤ 9223372036854775807 := by omega
      clear hX hY hXY hF24 hL24
      by_cases hA : 0 < A
      · have e1 : decide ((1 : Int) ≤ (A : Int)) = true := decide_eq_true (by omega)
        have e2 : decide ((2 : Int) ≤ (B : Int)) = false := decide_eq_false (by omega)

        have HE : Hid (X ++ Y = grpT k n) := Lib.hid (by rw [← HX.out, ← HY.out]; exact gst_end HG.out hAB)
        have HT := Lib.hid (gst_text HG.out hAB)
        have HK : Hid (∀ W' : World, Below wr.heap.size wr W' → W'.cell? ⟨w.heap.size, 0, none⟩ = some (.int .i64 A) ∧ W'.cell? ⟨w.heap.size, 1, none⟩ = some (.string F) ∧ W'.cell? ⟨w.heap.size + 1, 0, none⟩ = some (.int .i64 B) ∧ W'.cell? ⟨w.heap.size + 1, 1, none⟩ = some (.string L) ∧ Below wr.heap.size wr W') :=
          Lib.hid (fun W' hW => ⟨(HX0.out.keep hW HX0.out.lt).facts.1, (HX0.out.keep hW HX0.out.lt).facts.2.1, (HY0.out.keep hW HY0.out.lt).facts.1, (HY0.out.keep hW HY0.out.lt).facts.2.1, hW⟩)
        clear hAB
        go_wp2
        refine wp_region_held_drew (S := fun W' => W'.cell? ⟨w.heap.size, 0, none⟩ = some (.int .i64 A) ∧ W'.cell? ⟨w.heap.size, 1, none⟩ = some (.string F) ∧ W'.cell? ⟨w.heap.size + 1, 0, none⟩ = some (.int .i64 B) ∧ W'.cell? ⟨w.heap.size + 1, 1, none⟩ = some (.string L) ∧ Below wr.heap.size wr W') (by kernel_rfl) (HK.out _ (Below.refl _ _).drew) (fun hSS0 => ?_)
        refine wpAnyH_take (i := 0) (oi := ⟨some 27, _, _, _, _, _⟩) (v := .agg #[.int .i64 A, .string F]) rfl (by kernel_rfl) (by kernel_rfl) (by kernel_rfl) (fun _ _ _ h => h) (Or.inl ⟨by rfl, fun w' hSw => by obtain ⟨q1, q2, _⟩ := hSw; go_simp⟩) (by assumption) ?_
        try simp only [Act.put, List.setIfInBounds_toArray, List.set_cons_zero, List.set_cons_succ]
        refine wpAnyH_take (i := 2) (oi := ⟨some 29, _, _, _, _, _⟩) (v := .agg #[.int .i64 B, .string L]) rfl (by kernel_rfl) (by kernel_rfl) (by kernel_rfl) (fun _ _ _ h => h) (Or.inl ⟨by rfl, fun w' hSw => by obtain ⟨_, _, q1, q2, _⟩ := hSw; go_simp⟩) (by assumption) ?_
        try simp only [Act.put, List.setIfInBounds_toArray, List.set_cons_zero, List.set_cons_succ]
        refine wpAnyH_ready (rs := [1]) (by kernel_rfl) (by simp) ?_
        refine AllReadyH.cons rfl (fun K hKK => ?_) AllReadyH.nil
        go_simp
        go_at_call 58
        refine (whole_any A F _ hA24 hF3).mono ?_
        rintro e w2 ⟨rfl, hb2⟩
        rw [HX.out]
        have hbb2 : Below wr.heap.size wr w2 := (Below.refl wr.heap.size wr).drew.trans hb2
        clear hb2
        refine hKK.out _ _ (HK.out _ hbb2) (fun hSS1 => ?_)
        clear hKK K hSS0
        try simp only [Act.put, List.setIfInBounds_toArray, List.set_cons_zero, List.set_cons_succ]
        refine wpAnyH_ready (rs := [3]) (by kernel_rfl) (by simp) ?_
        refine AllReadyH.cons rfl (fun K hKK => ?_) AllReadyH.nil
        go_simp
        go_at_call 58
        refine (whole_any B L _ hB24 hL3).mono ?_
        rintro e w3 ⟨rfl, hb3⟩
        rw [HY.out]
        have hbb3 : Below wr.heap.size wr w3 := hbb2.trans (hb3.mono hbb2.size)
        clear hb3
        refine hKK.out _ _ (HK.out _ hbb3) (fun hSS2 => ?_)
        clear hKK K hSS1
        try simp only [Act.put, List.setIfInBounds_toArray, List.set_cons_zero, List.set_cons_succ]
        refine wpAnyH_take (i := 4) (oi := ⟨some 31, _, _, _, _, _⟩) (v := .string (X ++ Y)) rfl (by kernel_rfl) (by kernel_rfl) (by kernel_rfl) (fun _ _ _ h => h) (Or.inl ⟨by rfl, fun w' hSw => by go_simp⟩) (by assumption) ?_
        try simp only [Act.put, List.setIfInBounds_toArray, List.set_cons_zero, List.set_cons_succ]
        refine wpAnyH_take (i := 5) (oi := ⟨some 4, _, _, _, _, _⟩) (v := .string (X ++ Y)) rfl (by kernel_rfl) (by kernel_rfl) (by kernel_rfl) (fun _ _ _ h => h) (Or.inl ⟨by rfl, fun w' hSw => by go_simp⟩) (by assumption) ?_
        try simp only [Act.put, List.setIfInBounds_toArray, List.set_cons_zero, List.set_cons_succ]
        refine wpAnyH_done (by kernel_rfl) ?_ _
        clear HK
        go_wp2
        go_ret
        exact ⟨⟨by rw [HE.out]; rfl, HBL.out.trans (hbb3.mono HBL.out.size)⟩, HT.out⟩
      · have e1 : decide ((1 : Int) ≤ (A : Int)) = false := decide_eq_false (by omega)

        have HE : Hid (X ++ Y = grpT k n) := Lib.hid (by rw [← HX.out, ← HY.out]; exact gst_end HG.out hAB)
        have HT := Lib.hid (gst_text HG.out hAB)
        have HK : Hid (∀ W' : World, Below wr.heap.size wr W' → W'.cell? ⟨w.heap.size, 0, none⟩ = some (.int .i64 A) ∧ W'.cell? ⟨w.heap.size, 1, none⟩ = some (.string F) ∧ W'.cell? ⟨w.heap.size + 1, 0, none⟩ = some (.int .i64 B) ∧ W'.cell? ⟨w.heap.size + 1, 1, none⟩ = some (.string L) ∧ Below wr.heap.size wr W') :=
          Lib.hid (fun W' hW => ⟨(HX0.out.keep hW HX0.out.lt).facts.1, (HX0.out.keep hW HX0.out.lt).facts.2.1, (HY0.out.keep hW HY0.out.lt).facts.1, (HY0.out.keep hW HY0.out.lt).facts.2.1, hW⟩)
        clear hAB
        go_wp2
        refine wp_region_held_drew (S := fun W' => W'.cell? ⟨w.heap.size, 0, none⟩ = some (.int .i64 A) ∧ W'.cell? ⟨w.heap.size, 1, none⟩ = some (.string F) ∧ W'.cell? ⟨w.heap.size + 1, 0, none⟩ = some (.int .i64 B) ∧ W'.cell? ⟨w.heap.size + 1, 1, none⟩ = some (.string L) ∧ Below wr.heap.size wr W') (by kernel_rfl) (HK.out _ (Below.refl _ _).drew) (fun hSS0 => ?_)
        refine wpAnyH_take (i := 0) (oi := ⟨some 27, _, _, _, _, _⟩) (v := .agg #[.int .i64 A, .string F]) rfl (by kernel_rfl) (by kernel_rfl) (by kernel_rfl) (fun _ _ _ h => h) (Or.inl ⟨by rfl, fun w' hSw => by obtain ⟨q1, q2, _⟩ := hSw; go_simp⟩) (by assumption) ?_
        try simp only [Act.put, List.setIfInBounds_toArray, List.set_cons_zero, List.set_cons_succ]
        refine wpAnyH_take (i := 2) (oi := ⟨some 29, _, _, _, _, _⟩) (v := .agg #[.int .i64 B, .string L]) rfl (by kernel_rfl) (by kernel_rfl) (by kernel_rfl) (fun _ _ _ h => h) (Or.inl ⟨by rfl, fun w' hSw => by obtain ⟨_, _, q1, q2, _⟩ := hSw; go_simp⟩) (by assumption) ?_
        try simp only [Act.put, List.setIfInBounds_toArray, List.set_cons_zero, List.set_cons_succ]
        refine wpAnyH_ready (rs := [1]) (by kernel_rfl) (by simp) ?_
        refine AllReadyH.cons rfl (fun K hKK => ?_) AllReadyH.nil
        go_simp
        go_at_call 58
        refine (whole_any A F _ hA24 hF3).mono ?_
        rintro e w2 ⟨rfl, hb2⟩
        rw [HX.out]
        have hbb2 : Below wr.heap.size wr w2 := (Below.refl wr.heap.size wr).drew.trans hb2
        clear hb2
        refine hKK.out _ _ (HK.out _ hbb2) (fun hSS1 => ?_)
        clear hKK K hSS0
        try simp only [Act.put, List.setIfInBounds_toArray, List.set_cons_zero, List.set_cons_succ]
        refine wpAnyH_ready (rs := [3]) (by kernel_rfl) (by simp) ?_
        refine AllReadyH.cons rfl (fun K hKK => ?_) AllReadyH.nil
        go_simp
        go_at_call 58
        refine (whole_any B L _ hB24 hL3).mono ?_
        rintro e w3 ⟨rfl, hb3⟩
        rw [HY.out]
        have hbb3 : Below wr.heap.size wr w3 := hbb2.trans (hb3.mono hbb2.size)
        clear hb3
        refine hKK.out _ _ (HK.out _ hbb3) (fun hSS2 => ?_)
        clear hKK K hSS1
        try simp only [Act.put, List.setIfInBounds_toArray, List.set_cons_zero, List.set_cons_succ]
        refine wpAnyH_take (i := 4) (oi := ⟨some 31, _, _, _, _, _⟩) (v := .string (X ++ Y)) rfl (by kernel_rfl) (by kernel_rfl) (by kernel_rfl) (fun _ _ _ h => h) (Or.inl ⟨by rfl, fun w' hSw => by go_simp⟩) (by assumption) ?_
        try simp only [Act.put, List.setIfInBounds_toArray, List.set_cons_zero, List.set_cons_succ]
        refine wpAnyH_take (i := 5) (oi := ⟨some 4, _, _, _, _, _⟩) (v := .string (X ++ Y)) rfl (by kernel_rfl) (by kernel_rfl) (by kernel_rfl) (fun _ _ _ h => h) (Or.inl ⟨by rfl, fun w' hSw => by go_simp⟩) (by assumption) ?_
        try simp only [Act.put, List.setIfInBounds_toArray, List.set_cons_zero, List.set_cons_succ]
        refine wpAnyH_done (by kernel_rfl) ?_ _
        clear HK
        go_wp2
        go_ret
        exact ⟨⟨by rw [HE.out]; rfl, HBL.out.trans (hbb3.mono HBL.out.size)⟩, HT.out⟩
set_option maxHeartbeats 1000000 in
theorem grp_impl (k n : Int) (w : World) (h1 : -9223372036854775808 ≤ k) (h2 : k ≤ 9223372036854775807) (h3 : -9223372036854775808 ≤ n) (h4 : n ≤ 9223372036854775807) :
    Calls Try.prog 19 #[.int .i64 k, .int .i64 n] w (CPost (EvC k n) n (grpZ k n) w) := by
  have HX := Lib.hid (box_new w (.int .i64 0) (.slice none 0 0) 24)
  by_cases ho : EvC k n
  · have HO := Lib.hid ho
    obtain ⟨hn1, hn2, hk1, hk2⟩ := ho
    obtain ⟨K, rfl⟩ : ∃ K : Nat, k = K := ⟨k.toNat, by omega⟩
    obtain ⟨N, rfl⟩ : ∃ N : Nat, n = N := ⟨n.toNat, by omega⟩
    obtain ⟨W0, hW⟩ : ∃ W0, W0 = w.alloc (.cells #[.int .i64 0, .slice none 0 0] 24) := ⟨_, rfl⟩
    have HW := Lib.hid hW
    rw [← hW] at HX
    have HB0 := Lib.hid (show Below w.heap.size w W0 by rw [hW]; exact bel1 w _)
    have HSZ := Lib.hid (show W0.heap.size = w.heap.size + 1 by rw [hW]; simp)
    clear hW
    have hGZ : grpZ K N = xZ (grpT K N) N := by unfold grpZ; rw [Int.toNat_natCast, Int.toNat_natCast]
    go_enter Try.func19, Try.ntmps19
    go_wp2_with fail
    rw [← HW.out]
    refine (room_yes K N _ HO.out).mono ?_
    rintro e w1 ⟨rfl, rfl⟩
    go_wp2_with fail
    refine (gtext_any K N W0 (by omega) (by omega) (by omega)).mono ?_
    rintro e w2 ⟨⟨rfl, hb⟩, hXD, hSz⟩
    obtain ⟨T, hT⟩ : ∃ T, grpT K N = T := ⟨_, rfl⟩
    rw [hT] at hXD hSz hGZ ⊢
    have HT := Lib.hid hT
    have HGZ := Lib.hid hGZ
    have hT1 : T.size ≤ 1048576 := by omega
    have HTS := Lib.hid hSz
    have HPC : Hid (PC T) := Lib.hid ⟨by omega, xd_all hXD⟩
    have HB1 := Lib.hid (HB0.out.trans (hb.mono HB0.out.size))
    have HX1 := Lib.hid (HX.out.keep hb (by have := HSZ.out; omega))
    have hs2 := hb.size
    clear hb hXD hSz hT hGZ
    go_wp2_with fail
    refine (prs_impl T w2 hT1).mono ?_
    rintro e w3 hp
    unfold CPost at hp
    rw [cS_yes HPC.out, cZ_yes HPC.out, cB_yes HPC.out, HTS.out] at hp
    obtain ⟨a2, cap2, rfl, hown, hb⟩ := hp
    obtain ⟨X, hX⟩ : ∃ l, xZ T N = l := ⟨_, rfl⟩
    have HXX := Lib.hid hX
    rw [hX] at hown ⊢
    have HOW := Lib.hid hown
    have HB2 := Lib.hid (HB1.out.trans (hb.mono HB1.out.size))
    obtain ⟨c0, c1, c2, c3⟩ := (HX1.out.keep hb HX1.out.lt).facts
    have lt0 := (HX1.out.keep hb HX1.out.lt).lt
    have hsz := HSZ.out
    clear hX hown hb
    go_wp2
    refine bodyPost_ret (v := .tuple #[rhy N a2 X.length cap2, .bool true]) (by simp [results, Try.results19, go_sem, *]) rfl ?_
    refine cpost_yes HO.out (by rw [HGZ.out, HXX.out]) ?_ ?_
    · rw [HGZ.out, HXX.out]
      exact own_base (ownsRow_setCell_below (ownsRow_setCell_below HOW.out (by show w.heap.size < w2.heap.size; omega) _) (by show w.heap.size < w2.heap.size; omega) _) (by omega)
    · exact (HB2.out.setCell (by simp) _).setCell (by simp) _
  · have HO := Lib.hid ho
    clear ho
    go_enter Try.func19, Try.ntmps19
    go_wp2_with fail
    refine (room_no k n _ HO.out).mono ?_
    rintro e w1 ⟨rfl, rfl⟩
    obtain ⟨c0, c1, c2, c3⟩ := HX.out.facts
    have lt0 := HX.out.lt
    go_wp2
    refine bodyPost_ret (v := .tuple #[rhy 0 none 0 0, .bool false]) (by simp [results, Try.results19, go_sem, *]) rfl ?_
    exact cpost_no HO.out (bel1 w _)
end Go.Proofs.Ythjkblekccpafaa.Rhy
