/-
  Helpers of the claims beside this text: SpreadOf, MostSpread of the program: sums over arrays by functions that are handed over.
-/
import Derived.Test.YthjkblekccpafaaEve
import Derived.Deep.MidRow
namespace Go.Proofs.Ythjkblekccpafaa.Rhy
open Go.RowKit
set_option linter.unusedVariables false
set_option linter.unusedSimpArgs false

/-- A span times what is left of the bar. -/
theorem prod_any (x s : Int) (g : Nat) (w : World) (hs : s ≤ 24) (hx : 0 ≤ x ∧ x < s) (hc : w.cell? ⟨g, 0, none⟩ = some (.int .i64 s)) :
    Calls Try.prog 65 #[.int .i64 x, .pointer (some ⟨g, 0, none⟩)] w fun e w' => e = .returned (.int .i64 (x * (s - x))) ∧ w = w' := by
  have hb := prod_bd hs hx
  obtain ⟨p, hp⟩ : ∃ p, x * (s - x) = p := ⟨_, rfl⟩
  have hw1 : wrap64 (s - x) = s - x := by unfold wrap64; omega
  have hw2 : wrap64 (x * (s - x)) = p := by rw [hp] at hb ⊢; unfold wrap64; omega
  rw [hp]
  clear hp hb
  go_enter Try.func65, Try.ntmps65
  go_wp2
  go_ret
  exact ⟨congrArg (fun z => Ending.returned (.int .i64 z)) hw2, rfl⟩

/-- A row of spans. -/
def rwL (s : Int) (zs : List Int) (k : Nat) : List Value := (List.range 24).map fun j => .int .i64 (if j < zs.length then spnD s zs k j else 0)
def rwC (s : Int) (zs : List Int) (k : Nat) : Array Value := (rwL s zs k).toArray
theorem rwL_len (s : Int) (zs : List Int) (k : Nat) : (rwL s zs k).length = 24 := by simp [rwL]
theorem rwC_size (s : Int) (zs : List Int) (k : Nat) : (rwC s zs k).size = 24 := by simp [rwC, rwL]
theorem rwC_at {s : Int} {zs : List Int} {k j : Nat} (h : j < zs.length) (hl : zs.length ≤ 24) : (rwC s zs k)[j]? = some (.int .i64 (spnD s zs k j)) := by
  have : j < 24 := by omega
  simp [rwC, rwL, this, h]
theorem rwC_one (s : Int) (zs : List Int) (k : Nat) : (rwC s zs k).all (·.oneCell') = true := by
  rw [Array.all_eq_true_iff_forall_mem]
  intro v hv
  unfold rwC rwL at hv
  rw [List.mem_toArray, List.mem_map] at hv
  obtain ⟨p, _, rfl⟩ := hv
  rfl

set_option maxHeartbeats 1000000 in
set_option maxRecDepth 100000 in
theorem sumI_any (s : Int) (zs : List Int) (k g : Nat) (w : World) (ho : Ok s zs) (hg : g < w.heap.size) (hc : w.cell? ⟨g, 0, none⟩ = some (.int .i64 s)) :
    Calls Try.prog 67 #[.int .i64 (zs.length : Nat), .agg (rwC s zs k), .func (.func 65) #[] #[.pointer (some ⟨g, 0, none⟩)]] w fun e w' => e = .returned (.int .i64 (rowS s zs k)) ∧ Below w.heap.size w w' := by
  have HOK := Lib.hid ho
  have hl24 := ok_len ho
  have HC := Lib.hid hc
  clear ho hc
  go_enter Try.func67, Try.ntmps67
  go_wp2_with fail
  obtain ⟨W, hW⟩ : ∃ W, W = w.alloc (.cells (rwC s zs k) 62) := ⟨_, rfl⟩
  have HB := Lib.hid (show Below w.heap.size w W by rw [hW]; exact bel1 w _)
  have HR := Lib.hid (show W.heap[w.heap.size]? = some (.cells (rwC s zs k) 62 (0, 0)) by rw [hW]; exact heap_alloc_new w _)
  have HCW := Lib.hid (show W.cell? ⟨g, 0, none⟩ = some (.int .i64 s) by rw [hW, (bel1 w _).cell (p := ⟨g, 0, none⟩) hg]; exact HC.out)
  rw [← hW]
  clear hW
  go_loop [7, 10] (fun v i => ∃ j : Nat, j ≤ zs.length ∧ i = .int .i64 j ∧ v = .int .i64 (sumN (fun i => spnD s zs k i * (s - spnD s zs k i)) j)) (fun _ i => zs.length - (intOf i).toNat)
  case atStart => exact ⟨0, by omega, rfl, rfl⟩
  case round =>
    obtain ⟨j, hj, rfl, rfl⟩ := hrel
    obtain ⟨T, hT⟩ : ∃ T, sumN (fun i => spnD s zs k i * (s - spnD s zs k i)) j = T := ⟨_, rfl⟩
    have hTb := rowS_bd HOK.out k j (by omega)
    rw [hT] at hTb ⊢
    have HT := Lib.hid hT
    clear hT
    by_cases hlt : j < zs.length
    · have hcell : W.cell? ⟨w.heap.size, j, none⟩ = some (.int .i64 (spnD s zs k j)) := by rw [cell_of_row _ _ _ _ _ _ HR.out, rwC_at hlt hl24]
      have hx := spnD_bd HOK.out.1.1 zs k j
      have hb := prod_bd HOK.out.1.2 hx
      have HP := Lib.hid (prod_any (spnD s zs k j) s g W HOK.out.1.2 hx HCW.out)
      have HN : Hid (sumN (fun i => spnD s zs k i * (s - spnD s zs k i)) (j + 1) = T + spnD s zs k j * (s - spnD s zs k j)) := Lib.hid (by rw [← HT.out]; rfl)
      obtain ⟨p, hp⟩ : ∃ p, spnD s zs k j * (s - spnD s zs k j) = p := ⟨_, rfl⟩
      rw [hp] at hb HP HN
      have hw1 : wrap64 (T + p) = T + p := by unfold wrap64; omega
      have j0 : (0 : Int) ≤ (j : Int) := by omega
      have j1 : (j : Int) < 24 := by omega
      clear hp hx
      go_wp2_with fail
      refine HP.out.mono ?_
      rintro e w2 ⟨rfl, rfl⟩
      go_wp2
      go_round
      case rel => exact ⟨j + 1, by omega, by go_num, by rw [HN.out]⟩
      case measure => simp [intOf]; omega
    · have e : j = zs.length := by omega
      have HE : Hid (rowS s zs k = T) := Lib.hid (by rw [← HT.out, e]; rfl)
      clear e
      go_wp2
      go_ret
      exact ⟨by rw [HE.out]; rfl, HB.out⟩

theorem infoRow : (Try.prog.info? 63).map (·.size) = some 24 := by kernel_rfl
theorem underRow : Try.prog.underlying 63 = some (.array 24 3) := by kernel_rfl
/-- The variables of the two closures. -/
def Caps (w : World) (g p q : Nat) (s : Int) (n : Nat) : Prop :=
  g < w.heap.size ∧ p < w.heap.size ∧ q < w.heap.size ∧ w.cell? ⟨g, 0, none⟩ = some (.int .i64 s) ∧ w.cell? ⟨p, 0, none⟩ = some (.int .i64 n) ∧ w.cell? ⟨q, 0, none⟩ = some (.func (.func 65) #[] #[.pointer (some ⟨g, 0, none⟩)])
theorem Caps.keep {w w' : World} {g p q : Nat} {s : Int} {n : Nat} (h : Caps w g p q s n) (hb : Below w.heap.size w w') : Caps w' g p q s n :=
  ⟨Nat.lt_of_lt_of_le h.1 hb.size, Nat.lt_of_lt_of_le h.2.1 hb.size, Nat.lt_of_lt_of_le h.2.2.1 hb.size, by rw [hb.cell (p := ⟨g, 0, none⟩) h.1]; exact h.2.2.2.1, by rw [hb.cell (p := ⟨p, 0, none⟩) h.2.1]; exact h.2.2.2.2.1, by rw [hb.cell (p := ⟨q, 0, none⟩) h.2.2.1]; exact h.2.2.2.2.2⟩

set_option maxHeartbeats 1000000 in
set_option maxRecDepth 100000 in
theorem row_any (s : Int) (zs : List Int) (k g p q : Nat) (w : World) (ho : Ok s zs) (hc : Caps w g p q s zs.length) :
    Calls Try.prog 66 #[.agg (rwC s zs k), .pointer (some ⟨p, 0, none⟩), .pointer (some ⟨q, 0, none⟩)] w fun e w' => e = .returned (.int .i64 (rowS s zs k)) ∧ Below w.heap.size w w' := by
  have HOK := Lib.hid ho
  have HC := Lib.hid hc
  clear ho hc
  have HB := Lib.hid (bel1 w (.cells (rwC s zs k) 63))
  have HR := Lib.hid (heap_alloc_new w (.cells (rwC s zs k) 63))
  have HC2 := Lib.hid (HC.out.keep HB.out)
  obtain ⟨_, _, _, _, c1, c2⟩ := HC2.out
  go_enter Try.func66, Try.ntmps66
  go_wp2_with (refine wpList_load_row rfl 63 (.tmp 3) rfl w.heap.size rfl 63 (rwC s zs k) (0, 0) _ HR.out underRow rfl (by rw [infoRow, rwC_size]) ?_)
  refine (sumI_any s zs k g _ HOK.out HC2.out.1 HC2.out.2.2.2.1).mono ?_
  rintro e w2 ⟨rfl, hb2⟩
  have HB2 := Lib.hid (HB.out.trans (hb2.mono HB.out.size))
  clear hb2 c1 c2
  go_wp2
  go_ret
  exact ⟨rfl, HB2.out⟩

/-- The cells of one row among all. -/
theorem spC_range {s : Int} {zs : List Int} {k : Nat} (hk : k < zs.length) (hl : zs.length ≤ 24) {w : World} {b : Nat} {fr : Nat × Nat} (h : w.heap[b]? = some (.cells (spC s zs zs.length 0) 64 fr)) : w.rangeAt b (k * 24) (rwL s zs k) := by
  intro j v hv
  have hj : j < 24 := by
    have := (List.getElem?_eq_some_iff.1 hv).1
    rwa [rwL_len] at this
  rw [cell_of_row _ _ _ _ _ _ h, spC_at _ _ _ _ _ (by omega)]
  unfold rwL at hv
  rw [List.getElem?_map, List.getElem?_range hj, Option.map_some] at hv
  rw [← hv]
  congr 2
  unfold spN
  rw [show (k * 24 + j) / 24 = k by omega, show (k * 24 + j) % 24 = j by omega]
  by_cases hc : j < zs.length
  · rw [if_pos hc, if_pos (by omega)]
  · rw [if_neg hc, if_neg (by omega)]

set_option maxHeartbeats 1000000 in
set_option maxRecDepth 100000 in
theorem sumR_any (s : Int) (zs : List Int) (g p q : Nat) (w : World) (ho : Ok s zs) (hc : Caps w g p q s zs.length) :
    Calls Try.prog 68 #[.int .i64 (zs.length : Nat), rowsV s zs, .func (.func 66) #[] #[.pointer (some ⟨p, 0, none⟩), .pointer (some ⟨q, 0, none⟩)]] w fun e w' => e = .returned (.int .i64 (allS s zs)) ∧ Below w.heap.size w w' := by
  have HOK := Lib.hid ho
  have hl24 := ok_len ho
  have HC := Lib.hid hc
  clear ho hc
  unfold rowsV
  go_enter Try.func68, Try.ntmps68
  go_wp2_with fail
  obtain ⟨W, hW⟩ : ∃ W, W = w.alloc (.cells (spC s zs zs.length 0) 64) := ⟨_, rfl⟩
  have HB := Lib.hid (show Below w.heap.size w W by rw [hW]; exact bel1 w _)
  have HR := Lib.hid (show W.heap[w.heap.size]? = some (.cells (spC s zs zs.length 0) 64 (0, 0)) by rw [hW]; exact heap_alloc_new w _)
  have HCW := Lib.hid (show Caps W g p q s zs.length by rw [hW]; exact HC.out.keep (bel1 w _))
  rw [← hW]
  clear hW
  go_loopw [7, 10] (fun v i wr => ∃ j : Nat, j ≤ zs.length ∧ i = .int .i64 j ∧ v = .int .i64 (sumN (rowS s zs) j) ∧ Below W.heap.size W wr) (fun _ i _ => zs.length - (intOf i).toNat)
  case atStart => exact ⟨0, by omega, rfl, rfl, Below.refl _ _⟩
  case round =>
    obtain ⟨j, hj, rfl, rfl, hbl⟩ := hrel
    have HX := Lib.hid hbl
    have HRr := Lib.hid (row_keep HR.out hbl)
    have HCr := Lib.hid (HCW.out.keep hbl)
    clear hbl
    obtain ⟨T, hT⟩ : ∃ T, sumN (rowS s zs) j = T := ⟨_, rfl⟩
    have hTb := allS_bd HOK.out j (by omega)
    rw [hT] at hTb ⊢
    have HT := Lib.hid hT
    clear hT
    by_cases hlt : j < zs.length
    · have HRG := Lib.hid (spC_range hlt hl24 HRr.out)
      have hrb := rowS_bd HOK.out j zs.length hl24
      have HP := Lib.hid (row_any s zs j g p q wr HOK.out HCr.out)
      have HN : Hid (sumN (rowS s zs) (j + 1) = T + rowS s zs j) := Lib.hid (by rw [← HT.out]; rfl)
      obtain ⟨r, hr⟩ : ∃ r, rowS s zs j = r := ⟨_, rfl⟩
      have hrb2 : 0 ≤ r ∧ r ≤ 13824 := by rw [← hr]; exact hrb
      rw [hr] at HP HN
      have hw1 : wrap64 (T + r) = T + r := by unfold wrap64; omega
      have j0 : (0 : Int) ≤ (j : Int) := by omega
      have j1 : (j : Int) < 24 := by omega
      clear hr hrb
      go_wp2_with (refine wpList_load_mid rfl 63 (.tmp 16) rfl w.heap.size (j * 24) rfl (rwL s zs j) _ HRG.out underRow rfl (by rw [infoRow, rwL_len]) ?_)
      refine HP.out.mono ?_
      rintro e w2 ⟨rfl, hb2⟩
      have HX2 := Lib.hid (HX.out.trans (hb2.mono HX.out.size))
      clear hb2
      go_wp2
      go_roundw
      case rel => exact ⟨j + 1, by omega, by go_num, by rw [HN.out], HX2.out⟩
      case measure => simp [intOf]; omega
    · have e : j = zs.length := by omega
      have HE : Hid (allS s zs = T) := Lib.hid (by rw [← HT.out, e]; rfl)
      clear e
      go_wp2
      go_ret
      exact ⟨by rw [HE.out]; rfl, HB.out.trans (HX.out.mono HB.out.size)⟩
set_option maxHeartbeats 1000000 in
set_option maxRecDepth 100000 in
theorem spread_any (s : Int) (a : Option Addr) (len cap : Nat) (zs : List Int) (w : World) (h : IntsAt w a len zs) (hm : len ≤ 1048576) (ho : Ok s zs) :
    Calls Try.prog 49 #[rhy s a len cap] w fun e w' => e = .returned (.int .i64 (sprP s zs zs.length)) ∧ Below w.heap.size w w' := by
  have HS := Lib.hid h
  have HOK := Lib.hid ho
  obtain rfl : zs.length = len := h.len
  have hl24 := ok_len ho
  have HA := Lib.hid (allS_two ho)
  have hab := allS_bd ho zs.length hl24
  clear h ho
  obtain ⟨V, hV⟩ : ∃ V, sprP s zs zs.length = V := ⟨_, rfl⟩
  have HV := Lib.hid hV
  have ha : allS s zs = 2 * V := by rw [← hV]; exact HA.out
  have hq : Int.tdiv (2 * V) 2 = V := by rw [Int.mul_comm]; exact Int.mul_tdiv_cancel _ (by omega)
  have hVb : 0 ≤ 2 * V ∧ 2 * V ≤ 331776 := by rw [← ha]; exact hab
  have hw3 : IntKind.i64.wrap V = V := IntWalk.i64_in _ ⟨by omega, by omega⟩
  rw [hV]
  have HAA := Lib.hid ha
  clear hV ha hab
  have hmf : ∀ (fn : Fn) (first cap : Array Value) (w : World), (Instr.makeFunc fn first cap).run Try.prog w = .ok (.func fn first cap) w := fun _ _ _ _ => rfl
  have hsf := fun (a : Addr) (c : Array Value) (w : World) => run_store Try.prog w a (.func (.func 65) #[] c) .plain rfl
  go_enter Try.func49, Try.ntmps49
  go_wp2_with fail
  obtain ⟨W, hW⟩ : ∃ W, W = ((w.alloc (.cells #[.int .i64 s, .slice a zs.length cap] 24)).alloc (.cells #[.int .i64 (zs.length : Nat)] 3)).alloc (.cells #[.func (.func 65) #[] #[.pointer (some ⟨w.heap.size, 0, none⟩)]] 67) := ⟨_, rfl⟩
  have HB := Lib.hid (show Below w.heap.size w W by rw [hW]; exact bel3 w _ _ _)
  have HT := Lib.hid (show Two W w.heap.size (.int .i64 s) (.slice a zs.length cap) by rw [hW]; exact ((two_new w _ _ _).keep (bel1 _ _)).keep (bel1 _ _))
  have HCP : Hid (Caps W w.heap.size (w.heap.size + 1) (w.heap.size + 1 + 1) s zs.length) := Lib.hid (by
    have h1 : W.heap[w.heap.size + 1]? = some (.cells #[.int .i64 (zs.length : Nat)] 3 (0, 0)) := by
      rw [hW, heap_alloc_old _ _ (by simp)]
      have := heap_alloc_new (w.alloc (.cells #[.int .i64 s, .slice a zs.length cap] 24)) (.cells #[.int .i64 (zs.length : Nat)] 3)
      simpa using this
    have h2 : W.heap[w.heap.size + 1 + 1]? = some (.cells #[.func (.func 65) #[] #[.pointer (some ⟨w.heap.size, 0, none⟩)]] 67 (0, 0)) := by
      rw [hW]
      have := heap_alloc_new ((w.alloc (.cells #[.int .i64 s, .slice a zs.length cap] 24)).alloc (.cells #[.int .i64 (zs.length : Nat)] 3)) (.cells #[.func (.func 65) #[] #[.pointer (some ⟨w.heap.size, 0, none⟩)]] 67)
      simpa using this
    have hz : W.heap.size = w.heap.size + 1 + 1 + 1 := by rw [hW]; simp
    exact ⟨by omega, by omega, by omega, HT.out.2.1, by rw [cell_of_row _ _ _ _ _ _ h1]; rfl, by rw [cell_of_row _ _ _ _ _ _ h2]; rfl⟩)
  rw [← hW]
  clear hW hmf hsf
  have HK : Hid (∀ W' : World, Below W.heap.size W W' → W'.cell? ⟨w.heap.size, 0, none⟩ = some (.int .i64 s) ∧ W'.cell? ⟨w.heap.size, 1, none⟩ = some (.slice a zs.length cap) ∧ W'.cell? ⟨w.heap.size + 1, 0, none⟩ = some (.int .i64 (zs.length : Nat)) ∧ Below W.heap.size W W') :=
    Lib.hid (fun W' hW => ⟨(HT.out.keep hW).2.1, (HT.out.keep hW).2.2, (HCP.out.keep hW).2.2.2.2.1, hW⟩)
  refine wp_region_held_drew (S := fun W' => W'.cell? ⟨w.heap.size, 0, none⟩ = some (.int .i64 s) ∧ W'.cell? ⟨w.heap.size, 1, none⟩ = some (.slice a zs.length cap) ∧ W'.cell? ⟨w.heap.size + 1, 0, none⟩ = some (.int .i64 (zs.length : Nat)) ∧ Below W.heap.size W W') (by kernel_rfl) (HK.out _ (Below.refl _ _).drew) (fun hSS0 => ?_)
  refine wpAnyH_take (i := 0) (oi := ⟨some 11, _, _, _, _, _⟩) (v := .int .i64 (zs.length : Nat)) rfl (by kernel_rfl) (by kernel_rfl) (by kernel_rfl) (fun _ _ _ h => h) (Or.inl ⟨by rfl, fun w' hSw => by obtain ⟨_, _, q1, _⟩ := hSw; go_simp⟩) (by assumption) ?_
  try simp only [Act.put, List.setIfInBounds_toArray, List.set_cons_zero, List.set_cons_succ]
  refine wpAnyH_take (i := 1) (oi := ⟨some 12, _, _, _, _, _⟩) (v := .agg #[.int .i64 s, .slice a zs.length cap]) rfl (by kernel_rfl) (by kernel_rfl) (by kernel_rfl) (fun _ _ _ h => h) (Or.inl ⟨by rfl, fun w' hSw => by obtain ⟨q1, q2, _⟩ := hSw; go_simp⟩) (by assumption) ?_
  try simp only [Act.put, List.setIfInBounds_toArray, List.set_cons_zero, List.set_cons_succ]
  refine wpAnyH_take (i := 3) (oi := ⟨some 14, _, _, _, _, _⟩) (v := .func (.func 66) #[] #[.pointer (some ⟨w.heap.size + 1, 0, none⟩), .pointer (some ⟨w.heap.size + 1 + 1, 0, none⟩)]) rfl (by kernel_rfl) (by kernel_rfl) (by kernel_rfl) (fun _ _ _ h => h) (Or.inl ⟨by rfl, fun w' hSw => by go_simp⟩) (by assumption) ?_
  try simp only [Act.put, List.setIfInBounds_toArray, List.set_cons_zero, List.set_cons_succ]
  refine wpAnyH_ready (rs := [2]) (by kernel_rfl) (by simp) ?_
  refine AllReadyH.cons rfl (fun K hKK => ?_) AllReadyH.nil
  go_simp
  go_at_call 62
  refine (rows_any s a zs.length cap zs _ (HS.out.below (HB.out.trans ((Below.refl W.heap.size W).drew.mono HB.out.size))) hm HOK.out).mono ?_
  rintro e w2 ⟨rfl, hb2⟩
  have hbb2 : Below W.heap.size W w2 := (Below.refl W.heap.size W).drew.trans hb2
  clear hb2
  refine hKK.out _ _ (HK.out _ hbb2) (fun hSS1 => ?_)
  clear hKK K hSS0
  try simp only [Act.put, List.setIfInBounds_toArray, List.set_cons_zero, List.set_cons_succ]
  refine wpAnyH_ready (rs := [4]) (by kernel_rfl) (by simp) ?_
  refine AllReadyH.cons rfl (fun K hKK => ?_) AllReadyH.nil
  go_simp
  go_at_call 68
  refine (sumR_any s zs w.heap.size (w.heap.size + 1) (w.heap.size + 1 + 1) _ HOK.out (HCP.out.keep hbb2)).mono ?_
  rintro e w3 ⟨rfl, hb3⟩
  rw [HAA.out]
  have hbb3 : Below W.heap.size W w3 := hbb2.trans (hb3.mono hbb2.size)
  clear hb3
  refine hKK.out _ _ (HK.out _ hbb3) (fun hSS2 => ?_)
  clear hKK K hSS1
  try simp only [Act.put, List.setIfInBounds_toArray, List.set_cons_zero, List.set_cons_succ]
  refine wpAnyH_take (i := 5) (oi := ⟨some 16, _, _, _, _, _⟩) (v := .int .i64 V) rfl (by kernel_rfl) (by kernel_rfl) (by kernel_rfl) (fun _ _ _ h => h) (Or.inl ⟨by rfl, fun w' hSw => by go_simp⟩) (by assumption) ?_
  try simp only [Act.put, List.setIfInBounds_toArray, List.set_cons_zero, List.set_cons_succ]
  refine wpAnyH_take (i := 6) (oi := ⟨some 2, _, _, _, _, _⟩) (v := .int .i64 V) rfl (by kernel_rfl) (by kernel_rfl) (by kernel_rfl) (fun _ _ _ h => h) (Or.inl ⟨by rfl, fun w' hSw => by go_simp⟩) (by assumption) ?_
  try simp only [Act.put, List.setIfInBounds_toArray, List.set_cons_zero, List.set_cons_succ]
  refine wpAnyH_done (by kernel_rfl) ?_ _
  clear HK
  go_wp2
  go_ret
  exact ⟨rfl, HB.out.trans (hbb3.mono HB.out.size)⟩

open Classical in
set_option maxHeartbeats 400000 in
theorem spr_impl (s : Int) (a : Option Addr) (len cap : Nat) (zs : List Int) (w : World) (h : IntsAt w a len zs) (hm : zs.length ≤ 1048576) (hcap : zs.length ≤ cap) :
    Calls Try.prog 25 #[rhy s a len cap] w fun e w' => e = .returned (.int .i64 (sprB s zs)) ∧ Below w.heap.size w w' := by
  have HS := Lib.hid h
  have hl : len ≤ 1048576 := by have := h.1; omega
  clear h
  by_cases ho : Ok s zs
  · have HO := Lib.hid ho
    have HE := Lib.hid (sprB_yes ho)
    clear ho
    go_enter Try.func25, Try.ntmps25
    go_wp2_with fail
    refine (valid_yes s a len cap zs _ (HS.out.below (bel1 w _)) hl HO.out).mono ?_
    rintro e w1 ⟨rfl, hb1⟩
    have HB := Lib.hid ((bel1 w (.cells #[.int .i64 s, .slice a len cap] 24)).trans (hb1.mono (by simp)))
    have HT := Lib.hid ((two_new w (.int .i64 s) (.slice a len cap) 24).keep hb1)
    obtain ⟨t1, t1a, t1b⟩ := HT.out
    clear hb1
    go_wp2_with fail
    refine (spread_any s a len cap zs _ (HS.out.below HB.out) hl HO.out).mono ?_
    rintro e w2 ⟨rfl, hb2⟩
    have HB2 := Lib.hid (HB.out.trans (hb2.mono HB.out.size))
    clear hb2
    go_wp2
    go_ret
    exact ⟨by rw [HE.out]; rfl, HB2.out⟩
  · have HO := Lib.hid ho
    have HE := Lib.hid (sprB_no ho)
    clear ho
    rw [HE.out]
    go_enter Try.func25, Try.ntmps25
    go_wp2_with fail
    refine (valid_no s a len cap zs _ (HS.out.below (bel1 w _)) hl HO.out).mono ?_
    rintro e w1 ⟨rfl, hb1⟩
    have HB := Lib.hid ((bel1 w (.cells #[.int .i64 s, .slice a len cap] 24)).trans (hb1.mono (by simp)))
    clear hb1
    go_wp2
    go_ret
    exact ⟨rfl, HB.out⟩

set_option maxHeartbeats 400000 in
theorem most_impl (k n : Int) (w : World) (h1 : -9223372036854775808 ≤ k) (h2 : k ≤ 9223372036854775807) (h3 : -9223372036854775808 ≤ n) (h4 : n ≤ 9223372036854775807) :
    Calls Try.prog 27 #[.int .i64 k, .int .i64 n] w fun e w' => e = .returned (.int .i64 (mostB k n)) ∧ Below w.heap.size w w' := by
  by_cases ho : EvC k n
  · have HO := Lib.hid ho
    have HE : Hid (mostB k n = sprP n (evZ k n 0) (evZ k n 0).length) := Lib.hid (by unfold mostB; rw [if_pos ho, sprB_yes (evZ_ok ho)])
    have HK := Lib.hid (evZ_ok ho (m := 0))
    have hn0 : 0 < n := ho.1
    have hlen : (evZ k n 0).length ≤ 24 := Nat.le_trans (ofZ_len _ _) (by have := ho.2.1; omega)
    clear ho
    go_enter Try.func27, Try.ntmps27
    go_wp2_with fail
    refine (room_yes k n _ HO.out).mono ?_
    rintro e w1 ⟨rfl, rfl⟩
    go_wp2_with fail
    refine (evenR_any k n 0 _ HO.out ⟨Int.le_refl 0, hn0⟩).mono ?_
    rintro e w2 ⟨a2, cap2, rfl, hown, hb⟩
    have HI := Lib.hid (intsAt_own hown (evZ_int HO.out))
    have HB := Lib.hid hb
    clear hown hb
    go_wp2_with fail
    refine (spread_any n a2 (evZ k n 0).length cap2 (evZ k n 0) _ HI.out (by omega) HK.out).mono ?_
    rintro e w3 ⟨rfl, hb3⟩
    have HB3 := Lib.hid (HB.out.trans (hb3.mono HB.out.size))
    clear hb3
    go_wp2
    go_ret
    exact ⟨by rw [HE.out]; rfl, HB3.out⟩
  · have HO := Lib.hid ho
    have HE : Hid (mostB k n = -1) := Lib.hid (by unfold mostB; rw [if_neg ho])
    clear ho
    rw [HE.out]
    go_enter Try.func27, Try.ntmps27
    go_wp2_with fail
    refine (room_no k n _ HO.out).mono ?_
    rintro e w1 ⟨rfl, rfl⟩
    go_wp2
    go_ret
    exact ⟨rfl, Below.refl _ _⟩
end Go.Proofs.Ythjkblekccpafaa.Rhy
