/-
  Helpers of the claims beside this text: the spans of a rhythm, as the program lays them into an array of arrays.
-/
import Derived.Test.YthjkblekccpafaaEva
import Derived.Test.YthjkblekccpafaaDif
namespace Go.Proofs.Ythjkblekccpafaa.Rhy
open Go.RowKit
set_option linter.unusedVariables false
set_option linter.unusedSimpArgs false

/-- The cells of the array of arrays: the rows ahead of k, and j numbers of row k. -/
def spN (s : Int) (zs : List Int) (k j p : Nat) : Int := if (p / 24 < k ∨ (p / 24 = k ∧ p % 24 < j)) ∧ p % 24 < zs.length then spnD s zs (p / 24) (p % 24) else 0
def spL (s : Int) (zs : List Int) (k j : Nat) : List Value := (List.range 576).map fun p => .int .i64 (spN s zs k j p)
def spC (s : Int) (zs : List Int) (k j : Nat) : Array Value := (spL s zs k j).toArray
theorem spL_len (s : Int) (zs : List Int) (k j : Nat) : (spL s zs k j).length = 576 := by simp [spL]
theorem spC_size (s : Int) (zs : List Int) (k j : Nat) : (spC s zs k j).size = 576 := by simp [spC, spL]
theorem spC_at (s : Int) (zs : List Int) (k j p : Nat) (h : p < 576) : (spC s zs k j)[p]? = some (.int .i64 (spN s zs k j p)) := by simp [spC, spL, h]
theorem spC_ext {s : Int} {zs : List Int} {k j k' j' : Nat} (h : ∀ p, p < 576 → spN s zs k j p = spN s zs k' j' p) : spC s zs k j = spC s zs k' j' := by
  have e : (List.range 576).map (fun p => Value.int .i64 (spN s zs k j p)) = (List.range 576).map (fun p => Value.int .i64 (spN s zs k' j' p)) := List.map_congr_left fun p hp => by rw [h p (List.mem_range.1 hp)]
  unfold spC spL
  rw [e]
theorem spN_zero (s : Int) (zs : List Int) (p : Nat) : spN s zs 0 0 p = 0 := by unfold spN; rw [if_neg (by omega)]
theorem spC_zero (s : Int) (zs : List Int) : Try.zeroCells64 = spC s zs 0 0 := by
  have e : spL s zs 0 0 = List.replicate 576 (Value.int .i64 0) := by
    rw [List.eq_replicate_iff]
    refine ⟨spL_len s zs 0 0, fun v hv => ?_⟩
    unfold spL at hv
    rw [List.mem_map] at hv
    obtain ⟨p, _, rfl⟩ := hv
    rw [spN_zero]
  have e2 : Try.zeroCells64 = (List.replicate 576 (Value.int .i64 0)).toArray := by kernel_rfl
  unfold spC
  rw [e]
  exact e2
theorem spC_row {s : Int} {zs : List Int} {k : Nat} : spC s zs k zs.length = spC s zs (k + 1) 0 := by
  refine spC_ext fun p _ => ?_
  unfold spN
  by_cases h : (p / 24 < k ∨ p / 24 = k ∧ p % 24 < zs.length) ∧ p % 24 < zs.length
  · rw [if_pos h, if_pos (by omega)]
  · rw [if_neg h, if_neg (by omega)]
theorem spC_set {s : Int} {zs : List Int} {k j : Nat} (hk : k < 24) (hj : j < zs.length) (hl : zs.length ≤ 24) : (spC s zs k j).setIfInBounds (k * 24 + j) (.int .i64 (spnD s zs k j)) = spC s zs k (j + 1) := by
  apply Array.ext_getElem?
  intro p
  rw [Array.getElem?_setIfInBounds, spC_size]
  by_cases hp : p < 576
  · rw [spC_at _ _ _ _ _ hp, spC_at _ _ _ _ _ hp]
    by_cases he : k * 24 + j = p
    · rw [if_pos he, if_pos (by omega)]
      congr 2
      unfold spN
      rw [if_pos (by omega), show p / 24 = k by omega, show p % 24 = j by omega]
    · rw [if_neg he]
      congr 2
      unfold spN
      by_cases h : (p / 24 < k ∨ p / 24 = k ∧ p % 24 < j) ∧ p % 24 < zs.length
      · rw [if_pos h, if_pos (by omega)]
      · rw [if_neg h, if_neg (by omega)]
  · have h1 : ∀ q r, (spC s zs q r)[p]? = none := fun q r => Array.getElem?_eq_none (by rw [spC_size]; omega)
    rw [h1, h1]
    by_cases he : k * 24 + j = p
    · omega
    · rw [if_neg he]
theorem spC_one (s : Int) (zs : List Int) (k j : Nat) : (spC s zs k j).all (·.oneCell') = true := by
  rw [Array.all_eq_true_iff_forall_mem]
  intro v hv
  unfold spC spL at hv
  rw [List.mem_toArray, List.mem_map] at hv
  obtain ⟨p, _, rfl⟩ := hv
  rfl
theorem infoRows : (Try.prog.info? 64).map (·.size) = some 576 := by kernel_rfl
/-- Behind k rows and j numbers. -/
def RowsAt (s : Int) (a : Option Addr) (len cap : Nat) (zs : List Int) (k j : Nat) (w wr : World) : Prop :=
  Two wr w.heap.size (.int .i64 s) (.slice a len cap) ∧ wr.heap[w.heap.size + 1]? = some (.cells (spC s zs 0 0) 64 (0, 0)) ∧
    wr.heap[w.heap.size + 1 + 1]? = some (.cells (spC s zs k j) 64 (0, 0)) ∧ Below w.heap.size w wr
theorem rows_lt {s : Int} {a : Option Addr} {len cap : Nat} {zs : List Int} {k j : Nat} {w wr : World} (h : RowsAt s a len cap zs k j w wr) : w.heap.size + 1 + 1 < wr.heap.size := by
  rcases Nat.lt_or_ge (w.heap.size + 1 + 1) wr.heap.size with q | q
  · exact q
  · have := h.2.2.1
    rw [Array.getElem?_eq_none q] at this; cases this
theorem rows_start (s : Int) (a : Option Addr) (len cap : Nat) (zs : List Int) (w : World) :
    RowsAt s a len cap zs 0 0 w (((w.alloc (.cells #[.int .i64 s, .slice a len cap] 24)).alloc (.cells Try.zeroCells64 64)).alloc (.cells Try.zeroCells64 64)) := by
  rw [spC_zero s zs]
  refine ⟨?_, ?_, ?_, bel3 w _ _ _⟩
  · exact ((two_new w _ _ _).keep (bel1 _ _)).keep (bel1 _ _)
  · rw [heap_alloc_old _ _ (by simp)]
    have := heap_alloc_new (w.alloc (.cells #[.int .i64 s, .slice a len cap] 24)) (.cells (spC s zs 0 0) 64)
    simpa using this
  · have := heap_alloc_new ((w.alloc (.cells #[.int .i64 s, .slice a len cap] 24)).alloc (.cells (spC s zs 0 0) 64)) (.cells (spC s zs 0 0) 64)
    simpa using this
theorem rows_keep {s : Int} {a : Option Addr} {len cap : Nat} {zs : List Int} {k j : Nat} {w wr w' : World} (h : RowsAt s a len cap zs k j w wr) (hb : Below wr.heap.size wr w') : RowsAt s a len cap zs k j w w' :=
  ⟨h.1.keep hb, row_keep h.2.1 hb, row_keep h.2.2.1 hb, h.2.2.2.trans (hb.mono (by have := rows_lt h; omega))⟩
theorem rows_step {s : Int} {a : Option Addr} {len cap : Nat} {zs : List Int} {k j : Nat} {w wr : World} (h : RowsAt s a len cap zs k j w wr) (hk : k < 24) (hj : j < zs.length) (hl : zs.length ≤ 24) :
    RowsAt s a len cap zs k (j + 1) w (wr.setCell ⟨w.heap.size + 1 + 1, k * 24 + j, none⟩ (.int .i64 (spnD s zs k j))) := by
  refine ⟨?_, ?_, ?_, ?_⟩
  · have := two_setRow h.1 (show w.heap.size ≠ w.heap.size + 1 + 1 by omega) ((spC s zs k j).setIfInBounds (k * 24 + j) (.int .i64 (spnD s zs k j)))
    rwa [← setCell_eq_setRow wr _ _ _ _ _ _ h.2.2.1] at this
  · rw [heap_setCell_other _ _ _ _ (by show w.heap.size + 1 ≠ w.heap.size + 1 + 1; omega)]; exact h.2.1
  · rw [heap_setCell_same _ _ _ _ _ _ h.2.2.1, spC_set hk hj hl]
  · exact h.2.2.2.setCell (by show w.heap.size ≤ w.heap.size + 1 + 1; omega) _

theorem fieldsPd : (Try.prog.fieldsOf 79).toList.map (fun f => (f.type, f.offset)) = [(3, 0), (3, 1)] := by kernel_rfl
theorem underPd : Try.prog.underlying 79 = some (.struct (Try.prog.fieldsOf 79)) := by kernel_rfl
/-- The number of pulses of a difference that is a value. -/
theorem run_pulses (n : Int) (r : Nat) (w : World) : (Instr.field 79 (difV n r) 1).run Try.prog w = .ok (.int .i64 r) w := by
  have hf := fieldsPd
  have hu := underPd
  obtain ⟨F, hF⟩ : ∃ F, F = Try.prog.fieldsOf 79 := ⟨_, rfl⟩
  rw [← hF] at hf hu
  have h1 : ∃ g : Field, F[1]? = some g ∧ g.type = 3 ∧ g.offset = 1 := by
    have h2 : (F.toList.map (fun f => (f.type, f.offset)))[1]? = some (3, 1) := by rw [hf]; rfl
    rw [List.getElem?_map, Option.map_eq_some_iff] at h2
    obtain ⟨g, hg, he⟩ := h2
    simp only [Prod.mk.injEq] at he
    exact ⟨g, by simpa using hg, he.1, he.2⟩
  obtain ⟨g, hg, g1, g2⟩ := h1
  unfold Instr.field difV
  simp only [Sem.run_bind, run_underlying hu, Result.andThen_ok, hg, g1, g2]
  simp [asAgg, part]

/-- All rows. -/
def rowsV (s : Int) (zs : List Int) : Value := .agg (spC s zs zs.length 0)

set_option maxHeartbeats 1000000 in
set_option maxRecDepth 100000 in
theorem rows_any (s : Int) (a : Option Addr) (len cap : Nat) (zs : List Int) (w : World) (h : IntsAt w a len zs) (hm : len ≤ 1048576) (ho : Ok s zs) :
    Calls Try.prog 62 #[rhy s a len cap] w fun e w' => e = .returned (rowsV s zs) ∧ Below w.heap.size w w' := by
  have HS := Lib.hid h
  have HOK := Lib.hid ho
  have hlen : zs.length = len := h.len
  have hl24 : len ≤ 24 := by have := ok_len ho; omega
  have HLN := Lib.hid hlen
  clear h ho hlen
  obtain ⟨n, rfl⟩ : ∃ n : Nat, s = n := ⟨s.toNat, by have := HOK.out.1; omega⟩
  have hn1 : 1 ≤ n := by have := HOK.out.1.1; omega
  have hn24 : n ≤ 24 := by have := HOK.out.1.2; omega
  go_enter Try.func62, Try.ntmps62
  go_wp2_with fail
  have HR0 := Lib.hid (rows_start n a len cap zs w)
  obtain ⟨W0, hW⟩ : ∃ W0, W0 = (((w.alloc (.cells #[.int .i64 n, .slice a len cap] 24)).alloc (.cells Try.zeroCells64 64)).alloc (.cells Try.zeroCells64 64)) := ⟨_, rfl⟩
  rw [← hW] at HR0 ⊢
  clear hW
  go_loopw [12] (fun i wr => ∃ k : Nat, k ≤ len ∧ i = .int .i64 k ∧ RowsAt n a len cap zs k 0 w wr) (fun i _ => len - (intOf i).toNat)
  case atStart => exact ⟨0, by omega, rfl, HR0.out⟩
  case round =>
    clear HR0
    obtain ⟨k, hk, rfl, hr⟩ := hrel
    have HR := Lib.hid hr
    obtain ⟨x0, x1, x2⟩ := hr.1
    clear hr
    by_cases hlt : k < len
    · go_wp2
      go_loopw [18] (fun i wr => ∃ j : Nat, j ≤ len ∧ i = .int .i64 j ∧ RowsAt n a len cap zs k j w wr) (fun i _ => len - (intOf i).toNat)
      case atStart => exact ⟨0, by omega, rfl, HR.out⟩
      case round =>
        clear x0 x1 x2 HR
        obtain ⟨j, hj, rfl, hr⟩ := hrel
        have HR := Lib.hid hr
        obtain ⟨x0, x1, x2⟩ := hr.1
        clear hr
        by_cases hjl : j < len
        · obtain ⟨b, off, z, rfl, hb, hs, hc, hz1, hz2⟩ := (HS.out.below HR.out.2.2.2).at hjl
          have hz := ok_at HOK.out hs
          obtain ⟨y, hy⟩ : ∃ y, zs[(j + k) % len]? = some y := ⟨_, List.getElem?_eq_getElem (show (j + k) % len < zs.length by have := HLN.out; have := Nat.mod_lt (j + k) (show 0 < len by omega); omega)⟩
          have hyr := ok_at HOK.out hy
          have hyc : IntsAt wr (some ⟨b, off, none⟩) len zs := HS.out.below HR.out.2.2.2
          obtain ⟨b', off', y', he, hb', hs', hc', hy1, hy2⟩ := hyc.at (k := (j + k) % len) (Nat.mod_lt _ (by omega))
          cases he
          rw [hy] at hs'
          cases hs'
          obtain ⟨q, hq⟩ : ∃ q, (j + k) % len = q := ⟨_, rfl⟩
          have hql : q < len := by rw [← hq]; exact Nat.mod_lt _ (by omega)
          have HV : Hid (spnD n zs k j = remB (y - z) n) := Lib.hid (by unfold spnD remB; rw [HLN.out, hy, hs]; rfl)
          have hvb := remB_bd (y - z) n (by omega)
          obtain ⟨r, hr⟩ : ∃ r : Nat, remB (y - z) n = r := ⟨(remB (y - z) n).toNat, by omega⟩
          rw [hq] at hc' hy
          have HRB : Hid (remB ((j : Int) + (k : Int)) (len : Int) = (q : Int)) := Lib.hid (by unfold remB; rw [← hq, Int.natCast_emod, Int.natCast_add])
          have HRR := Lib.hid hr
          have hw0 : IntKind.i64.wrap ((j : Int) + (k : Int)) = (j : Int) + (k : Int) := IntWalk.i64_in _ ⟨by omega, by omega⟩
          have k0 : (0 : Int) ≤ (k : Int) := by omega
          have k1 : (k : Int) < 24 := by omega
          have j0 : (0 : Int) ≤ (j : Int) := by omega
          have j1 : (j : Int) < 24 := by omega
          have q0 : (0 : Int) ≤ (q : Int) := by omega
          have q1 : (q : Int) < (len : Int) := by omega
          have hbb : b < w.heap.size + 1 + 1 := by obtain ⟨b1, o1, z1, he1, hb1, _⟩ := HS.out.at hjl; cases he1; omega
          have HK : Hid (∀ W' : World, Below (w.heap.size + 1 + 1) wr W' → W'.cell? ⟨w.heap.size, 0, none⟩ = some (.int .i64 n) ∧ W'.cell? ⟨w.heap.size, 1, none⟩ = some (.slice (some ⟨b, off, none⟩) len cap) ∧ W'.cell? ⟨b, off + q, none⟩ = some (.int .i64 y) ∧ Below (w.heap.size + 1 + 1) wr W') :=
            Lib.hid (fun W' hW => ⟨by rw [hW.cell (p := ⟨w.heap.size, 0, none⟩) (by show w.heap.size < _; omega)]; exact x1, by rw [hW.cell (p := ⟨w.heap.size, 1, none⟩) (by show w.heap.size < _; omega)]; exact x2, by rw [hW.cell (p := ⟨b, off + q, none⟩) hbb]; exact hc', hW⟩)
          clear hr hq hs hy hyc hvb hz1 hz2 hy1 hy2
          go_wp2
          refine wp_region_held_drew (S := fun W' => W'.cell? ⟨w.heap.size, 0, none⟩ = some (.int .i64 n) ∧ W'.cell? ⟨w.heap.size, 1, none⟩ = some (.slice (some ⟨b, off, none⟩) len cap) ∧ W'.cell? ⟨b, off + q, none⟩ = some (.int .i64 y) ∧ Below (w.heap.size + 1 + 1) wr W') (by kernel_rfl) (HK.out _ (Below.refl _ _).drew) (fun hSS0 => ?_)
          refine wpAnyH_take (i := 0) (oi := ⟨some 23, _, _, _, _, _⟩) (v := .int .i64 k) rfl (by kernel_rfl) (by kernel_rfl) (by kernel_rfl) (fun _ _ _ h => h) (Or.inl ⟨by rfl, fun w' hSw => by go_simp⟩) (by assumption) ?_
          try simp only [Act.put, List.setIfInBounds_toArray, List.set_cons_zero, List.set_cons_succ]
          refine wpAnyH_take (i := 1) (oi := ⟨some 24, _, _, _, _, _⟩) (v := .int .i64 j) rfl (by kernel_rfl) (by kernel_rfl) (by kernel_rfl) (fun _ _ _ h => h) (Or.inl ⟨by rfl, fun w' hSw => by go_simp⟩) (by assumption) ?_
          try simp only [Act.put, List.setIfInBounds_toArray, List.set_cons_zero, List.set_cons_succ]
          refine wpAnyH_take (i := 2) (oi := ⟨some 25, _, _, _, _, _⟩) (v := .agg #[.int .i64 n, .slice (some ⟨b, off, none⟩) len cap]) rfl (by kernel_rfl) (by kernel_rfl) (by kernel_rfl) (fun _ _ _ h => h) (Or.inl ⟨by rfl, fun w' hSw => by obtain ⟨q1, q2, _⟩ := hSw; go_simp⟩) (by assumption) ?_
          try simp only [Act.put, List.setIfInBounds_toArray, List.set_cons_zero, List.set_cons_succ]
          refine wpAnyH_take (i := 3) (oi := ⟨some 26, _, _, _, _, _⟩) (v := .pointer (some ⟨w.heap.size, 1, none⟩)) rfl (by kernel_rfl) (by kernel_rfl) (by kernel_rfl) (fun _ _ _ h => h) (Or.inl ⟨by rfl, fun w' hSw => by go_simp⟩) (by assumption) ?_
          try simp only [Act.put, List.setIfInBounds_toArray, List.set_cons_zero, List.set_cons_succ]
          refine wpAnyH_take (i := 4) (oi := ⟨some 27, _, _, _, _, _⟩) (v := .slice (some ⟨b, off, none⟩) len cap) rfl (by kernel_rfl) (by kernel_rfl) (by kernel_rfl) (fun _ _ _ h => h) (Or.inl ⟨by rfl, fun w' hSw => by obtain ⟨q1, q2, _⟩ := hSw; go_simp⟩) (by assumption) ?_
          try simp only [Act.put, List.setIfInBounds_toArray, List.set_cons_zero, List.set_cons_succ]
          refine wpAnyH_take (i := 5) (oi := ⟨some 28, _, _, _, _, _⟩) (v := .int .i64 j) rfl (by kernel_rfl) (by kernel_rfl) (by kernel_rfl) (fun _ _ _ h => h) (Or.inl ⟨by rfl, fun w' hSw => by go_simp⟩) (by assumption) ?_
          try simp only [Act.put, List.setIfInBounds_toArray, List.set_cons_zero, List.set_cons_succ]
          refine wpAnyH_take (i := 6) (oi := ⟨some 29, _, _, _, _, _⟩) (v := .int .i64 k) rfl (by kernel_rfl) (by kernel_rfl) (by kernel_rfl) (fun _ _ _ h => h) (Or.inl ⟨by rfl, fun w' hSw => by go_simp⟩) (by assumption) ?_
          try simp only [Act.put, List.setIfInBounds_toArray, List.set_cons_zero, List.set_cons_succ]
          refine wpAnyH_take (i := 7) (oi := ⟨some 30, _, _, _, _, _⟩) (v := .int .i64 ((j : Int) + (k : Int))) rfl (by kernel_rfl) (by kernel_rfl) (by kernel_rfl) (fun _ _ _ h => h) (Or.inl ⟨by rfl, fun w' hSw => by go_simp⟩) (by assumption) ?_
          try simp only [Act.put, List.setIfInBounds_toArray, List.set_cons_zero, List.set_cons_succ]
          refine wpAnyH_take (i := 8) (oi := ⟨some 31, _, _, _, _, _⟩) (v := .int .i64 len) rfl (by kernel_rfl) (by kernel_rfl) (by kernel_rfl) (fun _ _ _ h => h) (Or.inl ⟨by rfl, fun w' hSw => by go_simp⟩) (by assumption) ?_
          try simp only [Act.put, List.setIfInBounds_toArray, List.set_cons_zero, List.set_cons_succ]
          refine wpAnyH_take (i := 12) (oi := ⟨some 35, _, _, _, _, _⟩) (v := .int .i64 z) rfl (by kernel_rfl) (by kernel_rfl) (by kernel_rfl) (fun _ _ _ h => h) (Or.inl ⟨by rfl, fun w' hSw => by go_simp⟩) (by assumption) ?_
          try simp only [Act.put, List.setIfInBounds_toArray, List.set_cons_zero, List.set_cons_succ]
          refine wpAnyH_take (i := 15) (oi := ⟨some 38, _, _, _, _, _⟩) (v := .pointer (some ⟨w.heap.size + 1 + 1, k * 24, none⟩)) rfl (by kernel_rfl) (by kernel_rfl) (by kernel_rfl) (fun _ _ _ h => h) (Or.inl ⟨by rfl, fun w' hSw => by go_simp⟩) (by assumption) ?_
          try simp only [Act.put, List.setIfInBounds_toArray, List.set_cons_zero, List.set_cons_succ]
          refine wpAnyH_ready (rs := [9]) (by kernel_rfl) (by simp) ?_
          refine AllReadyH.cons rfl (fun K hKK => ?_) AllReadyH.nil
          go_simp
          go_at_call 78
          refine (around_any ((j : Int) + (k : Int)) len _ (by omega) (by omega) (by omega) (by omega)).mono ?_
          rintro e w2 ⟨rfl, rfl⟩
          rw [HRB.out]
          refine hKK.out _ _ (HK.out _ (Below.refl _ _).drew) (fun hSS1 => ?_)
          clear hKK K hSS0
          try simp only [Act.put, List.setIfInBounds_toArray, List.set_cons_zero, List.set_cons_succ]
          refine wpAnyH_take (i := 10) (oi := ⟨some 33, _, _, _, _, _⟩) (v := .pointer (some ⟨b, off + q, none⟩)) rfl (by kernel_rfl) (by kernel_rfl) (by kernel_rfl) (fun _ _ _ h => h) (Or.inl ⟨by rfl, fun w' hSw => by go_simp⟩) (by assumption) ?_
          try simp only [Act.put, List.setIfInBounds_toArray, List.set_cons_zero, List.set_cons_succ]
          refine wpAnyH_take (i := 11) (oi := ⟨some 34, _, _, _, _, _⟩) (v := .int .i64 y) rfl (by kernel_rfl) (by kernel_rfl) (by kernel_rfl) (fun _ _ _ h => h) (Or.inl ⟨by rfl, fun w' hSw => by obtain ⟨_, _, q1, _⟩ := hSw; go_simp⟩) (by assumption) ?_
          try simp only [Act.put, List.setIfInBounds_toArray, List.set_cons_zero, List.set_cons_succ]
          refine wpAnyH_ready (rs := [13]) (by kernel_rfl) (by simp) ?_
          refine AllReadyH.cons rfl (fun K hKK => ?_) AllReadyH.nil
          go_simp
          go_at_call 77
          refine (difOf_any n r (some ⟨b, off, none⟩) len cap y z _ hn1 hn24 hyr hz HRR.out).mono ?_
          rintro e w3 ⟨rfl, hb3⟩
          have hb4 : Below wr.heap.size wr w3 := (Below.refl wr.heap.size wr).drew.trans hb3
          have HR3 := Lib.hid (rows_keep HR.out hb4)
          have hbr : Below (w.heap.size + 1 + 1) wr w3 := hb4.mono (by have := rows_lt HR.out; omega)
          refine hKK.out _ _ (HK.out _ hbr) (fun hSS2 => ?_)
          clear hKK K hSS1
          try simp only [Act.put, List.setIfInBounds_toArray, List.set_cons_zero, List.set_cons_succ]
          refine wpAnyH_take (i := 14) (oi := ⟨some 37, _, _, _, _, _⟩) (v := .int .i64 r) rfl (by kernel_rfl) (by kernel_rfl) (by kernel_rfl) (fun _ _ _ h => h) (Or.inl ⟨by rfl, fun w' hSw => by go_simp; rw [run_pulses]; rfl⟩) (by assumption) ?_
          try simp only [Act.put, List.setIfInBounds_toArray, List.set_cons_zero, List.set_cons_succ]
          refine wpAnyH_take (i := 16) (oi := ⟨some 39, _, _, _, _, _⟩) (v := .pointer (some ⟨w.heap.size + 1 + 1, k * 24 + j, none⟩)) rfl (by kernel_rfl) (by kernel_rfl) (by kernel_rfl) (fun _ _ _ h => h) (Or.inl ⟨by rfl, fun w' hSw => by go_simp⟩) (by assumption) ?_
          try simp only [Act.put, List.setIfInBounds_toArray, List.set_cons_zero, List.set_cons_succ]
          have hcell3 : w3.cell? ⟨w.heap.size + 1 + 1, k * 24 + j, none⟩ = some (.int .i64 (spN n zs k j (k * 24 + j))) := by rw [cell_of_row _ _ _ _ _ _ HR3.out.2.2.1, spC_at _ _ _ _ _ (by omega)]
          have hfz3 := frozen_of_row w3 (w.heap.size + 1 + 1) (k * 24 + j) _ _ HR3.out.2.2.1
          refine wpAnyH_ready (rs := [17]) (by kernel_rfl) (by simp) ?_
          refine AllReadyH.cons rfl (fun K hKK => ?_) AllReadyH.nil
          go_simp
          have HST := Lib.hid (rows_step HR3.out (show k < 24 by omega) (show j < zs.length by have := HLN.out; omega) (by have := HLN.out; omega))
          have hbs : Below (w.heap.size + 1 + 1) wr (w3.setCell ⟨w.heap.size + 1 + 1, k * 24 + j, none⟩ (.int .i64 r)) := hbr.setCell (by show w.heap.size + 1 + 1 ≤ w.heap.size + 1 + 1; omega) _
          rw [HV.out, HRR.out] at HST
          refine hKK.out _ _ (HK.out _ hbs) (fun hSS3 => ?_)
          clear hKK K hSS2
          try simp only [Act.put, List.setIfInBounds_toArray, List.set_cons_zero, List.set_cons_succ]
          refine wpAnyH_done (by kernel_rfl) ?_ _
          clear HK
          go_wp2
          go_roundw
          case rel => exact ⟨j + 1, by omega, by go_num, HST.out⟩
          case measure => simp [intOf]; omega
        · have e : j = len := by omega
          have HE : Hid (RowsAt n a len cap zs (k + 1) 0 w wr) := Lib.hid (by
            have := HR.out
            rw [e, ← HLN.out] at this
            unfold RowsAt at this
            rw [spC_row] at this
            rw [← HLN.out]
            exact this)
          clear e
          go_wp2
          go_roundw
          case rel => exact ⟨k + 1, by omega, by go_num, HE.out⟩
          case measure => simp [intOf]; omega
    · have e : k = len := by omega
      have HC2 : Hid (wr.heap[w.heap.size + 1 + 1]? = some (.cells (spC n zs zs.length 0) 64 (0, 0))) := Lib.hid (by have := HR.out.2.2.1; rwa [e, ← HLN.out] at this)
      clear e
      go_wp2_with (first
        | (refine wpList_load_row rfl 64 (.tmp 3) rfl (w.heap.size + 1 + 1) rfl 64 (spC n zs zs.length 0) (0, 0) _ HC2.out Try.underlying64 rfl (by rw [infoRows, spC_size]) ?_)
        | (refine wpList_store_row rfl 64 (.tmp 2) (.tmp 42) rfl (w.heap.size + 1) (spC n zs zs.length 0) rfl rfl 64 (spC n zs 0 0) HR.out.2.1 (by rw [infoRows, spC_size]) (by rw [spC_size, spC_size]) (spC_one n zs _ _) ?_))
      refine bodyPost_ret (v := rowsV n zs) (results_cell_row Try.results62 _ _ (w.heap.size + 1) 64 (spC n zs zs.length 0) (0, 0) _ rfl (setRow_heap _ _ _ _ _ _ HR.out.2.1) Try.underlying64 rfl (by rw [infoRows, spC_size])) rfl ⟨rfl, ?_⟩
      exact below_setRow HR.out.2.2.2 (by omega) _
end Go.Proofs.Ythjkblekccpafaa.Rhy
