/-
  Helpers of the claims beside this text: mayCover in company.
-/
import Derived.Test.YtgmhdmhnedljcaaGsz
import Derived.Test.YtgmhdmhnedljcaaProg
import Derived.Test.YtgmhdmhnedljcaaPrt
import Derived.Test.YtgmhdmhnedljcaaPop
import Derived.Test.YtgmhdmhnedljcaaGqa
import Derived.Conc.EventLaws
namespace Go.Proofs.Ytgmhdmhnedljcaa.Co
open Go Go.Conc Go.RowKit Rhy
set_option linter.unusedSimpArgs false
set_option linter.unusedVariables false

section
variable {main : Bool} {c : Nat} {Rep : List Int → Value → (Nat → Prop) → World → Prop} {s : Gh}
theorem or_i64 (a b : Nat) (ha : a < 16777216) (hb : b < 16777216) : Go.bits .or .i64 (a : Int) (b : Int) = ((a ||| b : Nat) : Int) := by
  have e : (BitVec.ofInt 64 (a : Int) ||| BitVec.ofInt 64 (b : Int)).toNat = a ||| b := by rw [BitVec.toNat_or, bv_of a (by omega), bv_of b (by omega)]
  show IntKind.i64.wrap ((BitVec.ofInt 64 (a : Int) ||| BitVec.ofInt 64 (b : Int)).toNat : Int) = _
  rw [e]
  have : a ||| b < 16777216 := Nat.or_lt_two_pow (n := 24) ha hb
  exact IntWalk.i64_in _ ⟨by omega, by omega⟩
/-- What the search reads: its size, and the beats turned. -/
structure SrcC (s : Gh) (b n g tc : Nat) (T : List Nat) (w : World) : Prop where
  mb : s.own b
  c0 : w.cell? ⟨b, 0, none⟩ = some (.int .i64 n)
  c1 : w.cell? ⟨b, 1, none⟩ = some (.slice (some ⟨g, 0, none⟩) T.length tc)
  mg : s.own g
  row : ∀ (j t : Nat), T[j]? = some t → w.cell? ⟨g, j, none⟩ = some (.int .i64 (t : Int)) ∧ t < 16777216
theorem SrcC.rely {w w₁ : World} {b n g tc : Nat} {T : List Nat} (h : SrcC s b n g tc T w) (r : Stays s.own w w₁) : SrcC s b n g tc T w₁ :=
  ⟨h.mb, Stays.cell r h.mb h.c0, Stays.cell r h.mb h.c1, h.mg, fun j t hj => ⟨Stays.cell r h.mg (h.row j t hj).1, (h.row j t hj).2⟩⟩
/-- .. since that world. -/
structure SrcW (s : Gh) (w₀ : World) (b n g tc : Nat) (T : List Nat) (w : World) : Prop where
  src : SrcC s b n g tc T w
  since : Stays s.own w₀ w
theorem SrcW.rely {w₀ w w₁ : World} {b n g tc : Nat} {T : List Nat} (h : SrcW s w₀ b n g tc T w) (r : Stays s.own w w₁) : SrcW s w₀ b n g tc T w₁ := ⟨h.src.rely r, h.since.trans r⟩

set_option maxRecDepth 100000 in
theorem may_c (n x d : Nat) (hn : 1 ≤ n ∧ n ≤ 24) (hx : x < 16777216) (b g tc : Nat) (T : List Nat) (hT : T.length = n) (hd : d ≤ n) (hcap : n ≤ tc) (hcm : tc ≤ 9223372036854775807) (w : World) (h : SrcC s b n g tc T w) :
    CallsI Try.prog main c (dealB Rep) 44 #[.pointer (some ⟨b, 0, none⟩), .int .i64 x, .int .i64 d] s w fun v s' w' => v = .bool (decide (reachN x (T.drop d) x = 2 ^ n - 1)) ∧ s' = s ∧ Stays s.own w w' := by
  refine callsI_of Try.func44 (by rfl) rfl ?_
  simp only [Try.ntmps44, List.size_toArray, List.length_cons, List.length_nil, Nat.reduceAdd, Nat.reduceSub, Array.replicate_succ, Array.replicate_zero, List.push_toArray, List.append_toArray, List.nil_append, List.cons_append]
  have hF : SrcW s w b n g tc T w := ⟨h, .refl _ _⟩
  clear h
  (repeat (first | (refine wpI_region ?_; simp only [List.size_toArray, List.length_cons, List.length_nil, Nat.reduceAdd, Nat.zero_add, List.range, List.range.loop]) | (refine opsI_cons_k rfl (by rfl) ?_
                                                                                                                                                                         intro _ hRq Kq hKq
                                                                                                                                                                         replace hF := (SrcW.rely) hF hRq
                                                                                                                                                                         clear hRq
                                                                                                                                                                         (have hc0 := hF.src.c0; have hc1 := hF.src.c1)
                                                                                                                                                                         go_simp
                                                                                                                                                                         refine hKq _ _ ⟨s, ?_, ?_⟩
                                                                                                                                                                         · (refine Does.still ?_; (intro e he; have hm := mem_listed he; (simp [go_sem, *] at hm) <;> (first | (rw [hm]; exact evO_cell rfl hF.src.mb) | (rcases hm with hm | hm <;> (rw [hm]; exact evO_cell rfl hF.src.mb)))))
                                                                                                                                                                         clear hKq Kq
                                                                                                                                                                         try walk_nrm
                                                                                                                                                                         repeat (rw [IntWalk.i64_in _ ⟨by omega, by omega⟩])) | ((first | refine wpI_seq ?_ | refine wpI_block ?_ | refine wpI_skip ?_ | refine wpI_label ?_ | refine wpI_ret ?_ | refine wpI_exit ?_ | refine opsI_nil ?_); try (simp only [thenI, inBlockI, if_true, if_false, reduceIte, Nat.reduceEqDiff])) | (refine wpI_cond (by exact rfl) ?_; simp only [if_true, if_false, reduceIte, Bool.false_eq_true])))
  have h1 : (d : Int) ≤ (n : Int) := by omega
  have h2 : (n : Int) ≤ (tc : Int) := by omega
  have h3 : (0 : Int) ≤ (d : Int) := by omega
  have h4 : ((d : Int)).toNat = d := by simp
  have hA : ∃ A : Option Addr, (if tc = d then (some ⟨g, 0, none⟩ : Option Addr) else some ⟨g, d, none⟩) = A ∧ (d < n → A = some ⟨g, d, none⟩) := ⟨_, rfl, fun hl => by rw [if_neg (by omega)]⟩
  obtain ⟨A, hA, hA2⟩ := hA
  (refine opsI_cons_k rfl (by rfl) ?_
   intro _ hRq Kq hKq
   replace hF := (SrcW.rely) hF hRq
   clear hRq
   (skip)
   go_simp
   refine hKq _ _ ⟨s, ?_, ?_⟩
   · (refine Does.still ?_; intro e he; have hm := mem_listed he; simp [Instr.sliceAt, Instr.slice, Instr.sliceBounds, Instr.sliceBound, go_sem, *] at hm)
   clear hKq Kq
   try walk_nrm
   repeat (rw [IntWalk.i64_in _ ⟨by omega, by omega⟩]))
  (repeat (first | (refine wpI_region ?_; simp only [List.size_toArray, List.length_cons, List.length_nil, Nat.reduceAdd, Nat.zero_add, List.range, List.range.loop]) | (refine opsI_cons_k rfl (by rfl) ?_
                                                                                                                                                                         intro _ hRq Kq hKq
                                                                                                                                                                         replace hF := (SrcW.rely) hF hRq
                                                                                                                                                                         clear hRq
                                                                                                                                                                         (skip)
                                                                                                                                                                         go_simp
                                                                                                                                                                         refine hKq _ _ ⟨s, ?_, ?_⟩
                                                                                                                                                                         · (refine Does.still ?_; co_evs (skip))
                                                                                                                                                                         clear hKq Kq
                                                                                                                                                                         try walk_nrm
                                                                                                                                                                         repeat (rw [IntWalk.i64_in _ ⟨by omega, by omega⟩])) | ((first | refine wpI_seq ?_ | refine wpI_block ?_ | refine wpI_skip ?_ | refine wpI_label ?_ | refine wpI_ret ?_ | refine wpI_exit ?_ | refine opsI_nil ?_); try (simp only [thenI, inBlockI, if_true, if_false, reduceIte, Nat.reduceEqDiff])) | (refine wpI_cond (by exact rfl) ?_; simp only [if_true, if_false, reduceIte, Bool.false_eq_true])))
  clear hA
  refine wpI_loop (fun s' a' w' => s' = s ∧ ∃ (k q : Nat) (u8 u9 u19 u20 u21 u22 u23 u24 u25 u26 u27 u28 u29 u30 u31 u32 : Value), k ≤ n - d ∧ q = reachN x ((T.drop d).take k) x ∧ q < 16777216 ∧ SrcW s w b n g tc T w' ∧
      a' = { tmps := #[.pointer (some ⟨b, 0, none⟩), .int .i64 x, .int .i64 d, undef, undef, undef, .bool false, .int .i64 q, u8, u9, .int .i64 x, .pointer (some ⟨b, 0, none⟩), .pointer (some ⟨b, 0, none⟩), .pointer (some ⟨b, 1, none⟩), .slice (some ⟨g, 0, none⟩) n tc, .int .i64 d, .slice A (n - d) (tc - d), .int .i64 ((n - d : Nat) : Int), .int .i64 k, u19, u20, u21, u22, u23, u24, u25, u26, u27, u28, u29, u30, u31, u32], defers := [] })
    (fun _ a' _ => n - (match a'.tmps.getD 18 undef with | .int _ j => j.toNat | _ => 0)) ?_ ?_
  · exact ⟨rfl, 0, x, _, _, _, _, _, _, _, _, _, _, _, _, _, _, _, _, by omega, by simp [reachN], hx, hF, rfl⟩
  · rintro s' a' w' ⟨rfl, k, q, u8, u9, u19, u20, u21, u22, u23, u24, u25, u26, u27, u28, u29, u30, u31, u32, hk, hq, hq2, hF, rfl⟩
    by_cases hlt : k < n - d
    · rw [hA2 (by omega)]
      obtain ⟨t, ht⟩ : ∃ t, T[d + k]? = some t := ⟨_, List.getElem?_eq_getElem (by omega)⟩
      have htl := (hF.src.row _ _ ht).2
      have hle : (T.drop d).take (k + 1) = (T.drop d).take k ++ [t] := by
        rw [List.take_add_one, List.getElem?_drop, ht]; rfl
      have hr : reachN x ((T.drop d).take (k + 1)) x = if x &&& t = 0 then q ||| t else q := by
        rw [hle, hq]; unfold reachN; rw [List.foldl_append]; rfl
      have HQ := Lib.hid hq
      have HR := Lib.hid hr
      clear hq hr hle
      have ha := and_i64 x t (by omega) (by omega)
      have ho := or_i64 q t hq2 htl
      have ho2 : q ||| t < 16777216 := Nat.or_lt_two_pow (n := 24) hq2 htl
      by_cases hz : x &&& t = 0
      · have hzb : (((x &&& t : Nat) : Int) == 0) = true := by simp; omega
        rw [if_pos hz] at HR
        clear hz
        (repeat (first | (refine wpI_region ?_; simp only [List.size_toArray, List.length_cons, List.length_nil, Nat.reduceAdd, Nat.zero_add, List.range, List.range.loop]) | (refine opsI_cons_k rfl (by rfl) ?_
                                                                                                                                                                               intro _ hRq Kq hKq
                                                                                                                                                                               replace hF := (SrcW.rely) hF hRq
                                                                                                                                                                               clear hRq
                                                                                                                                                                               (have hc := (hF.src.row _ _ ht).1)
                                                                                                                                                                               go_simp
                                                                                                                                                                               refine hKq _ _ ⟨s', ?_, ?_⟩
                                                                                                                                                                               · (refine Does.still ?_; (intro e he; have hm := mem_listed he; (simp [go_sem, *] at hm) <;> (first | (rw [hm]; exact evO_cell rfl hF.src.mg) | (rcases hm with hm | hm <;> (rw [hm]; exact evO_cell rfl hF.src.mg)))))
                                                                                                                                                                               clear hKq Kq
                                                                                                                                                                               try walk_nrm
                                                                                                                                                                               repeat (rw [IntWalk.i64_in _ ⟨by omega, by omega⟩])) | ((first | refine wpI_seq ?_ | refine wpI_block ?_ | refine wpI_skip ?_ | refine wpI_label ?_ | refine wpI_ret ?_ | refine wpI_exit ?_ | refine opsI_nil ?_); try (simp only [thenI, inBlockI, if_true, if_false, reduceIte, Nat.reduceEqDiff])) | (refine wpI_cond (by exact rfl) ?_; simp only [if_true, if_false, reduceIte, Bool.false_eq_true])))
        exact ⟨⟨by trivial, k + 1, q ||| t, _, _, _, _, _, _, _, _, _, _, _, _, _, _, _, _, by omega, HR.out.symm, ho2, hF, rfl⟩, by show n - ((k : Int) + 1).toNat < n - (k : Int).toNat; omega⟩
      · have hzb : (((x &&& t : Nat) : Int) == 0) = false := by simp; omega
        rw [if_neg hz] at HR
        clear hz
        (repeat (first | (refine wpI_region ?_; simp only [List.size_toArray, List.length_cons, List.length_nil, Nat.reduceAdd, Nat.zero_add, List.range, List.range.loop]) | (refine opsI_cons_k rfl (by rfl) ?_
                                                                                                                                                                               intro _ hRq Kq hKq
                                                                                                                                                                               replace hF := (SrcW.rely) hF hRq
                                                                                                                                                                               clear hRq
                                                                                                                                                                               (have hc := (hF.src.row _ _ ht).1)
                                                                                                                                                                               go_simp
                                                                                                                                                                               refine hKq _ _ ⟨s', ?_, ?_⟩
                                                                                                                                                                               · (refine Does.still ?_; (intro e he; have hm := mem_listed he; (simp [go_sem, *] at hm) <;> (first | (rw [hm]; exact evO_cell rfl hF.src.mg) | (rcases hm with hm | hm <;> (rw [hm]; exact evO_cell rfl hF.src.mg)))))
                                                                                                                                                                               clear hKq Kq
                                                                                                                                                                               try walk_nrm
                                                                                                                                                                               repeat (rw [IntWalk.i64_in _ ⟨by omega, by omega⟩])) | ((first | refine wpI_seq ?_ | refine wpI_block ?_ | refine wpI_skip ?_ | refine wpI_label ?_ | refine wpI_ret ?_ | refine wpI_exit ?_ | refine opsI_nil ?_); try (simp only [thenI, inBlockI, if_true, if_false, reduceIte, Nat.reduceEqDiff])) | (refine wpI_cond (by exact rfl) ?_; simp only [if_true, if_false, reduceIte, Bool.false_eq_true])))
        exact ⟨⟨by trivial, k + 1, q, _, _, _, _, _, _, _, _, _, _, _, _, _, _, _, _, by omega, HR.out.symm, hq2, hF, rfl⟩, by show n - ((k : Int) + 1).toNat < n - (k : Int).toNat; omega⟩
    · have hkn : ¬ ((k : Int) < ((n - d : Nat) : Int)) := by omega
      have hke : k = n - d := by omega
      have hqe : q = reachN x (T.drop d) x := by rw [hq, hke, List.take_of_length_le (by rw [List.length_drop]; omega)]
      have HQ := Lib.hid hqe
      clear hq hqe
      (repeat (first | (refine wpI_region ?_; simp only [List.size_toArray, List.length_cons, List.length_nil, Nat.reduceAdd, Nat.zero_add, List.range, List.range.loop]) | (refine opsI_cons_k rfl (by rfl) ?_
                                                                                                                                                                             intro _ hRq Kq hKq
                                                                                                                                                                             replace hF := (SrcW.rely) hF hRq
                                                                                                                                                                             clear hRq
                                                                                                                                                                             (skip)
                                                                                                                                                                             go_simp
                                                                                                                                                                             refine hKq _ _ ⟨s', ?_, ?_⟩
                                                                                                                                                                             · (refine Does.still ?_; (intro e he; have hm := mem_listed he; (simp [go_sem, *] at hm) <;> (first | (rw [hm]; exact evO_cell rfl hF.src.mg) | (rcases hm with hm | hm <;> (rw [hm]; exact evO_cell rfl hF.src.mg)))))
                                                                                                                                                                             clear hKq Kq
                                                                                                                                                                             try walk_nrm
                                                                                                                                                                             repeat (rw [IntWalk.i64_in _ ⟨by omega, by omega⟩])) | ((first | refine wpI_seq ?_ | refine wpI_block ?_ | refine wpI_skip ?_ | refine wpI_label ?_ | refine wpI_ret ?_ | refine wpI_exit ?_ | refine opsI_nil ?_); try (simp only [thenI, inBlockI, if_true, if_false, reduceIte, Nat.reduceEqDiff])) | (refine wpI_cond (by exact rfl) ?_; simp only [if_true, if_false, reduceIte, Bool.false_eq_true])))
      refine opsI_call (Post := fun v s₂ w₂ => v = .bool (decide (q = 2 ^ n - 1)) ∧ s₂ = s' ∧ Stays s'.own _ w₂) rfl (by rfl) rfl (by walk_nrm; exact isAll_c n q hn hq2 b _ hF.src.mb hF.src.c0) ?_
      rintro v s₂ w₂ ⟨rfl, rfl, hst⟩
      have hF := hF.rely hst
      clear hst
      walk_nrm
      (repeat (first | (refine wpI_region ?_; simp only [List.size_toArray, List.length_cons, List.length_nil, Nat.reduceAdd, Nat.zero_add, List.range, List.range.loop]) | (refine opsI_cons_k rfl (by rfl) ?_
                                                                                                                                                                             intro _ hRq Kq hKq
                                                                                                                                                                             replace hF := (SrcW.rely) hF hRq
                                                                                                                                                                             clear hRq
                                                                                                                                                                             (skip)
                                                                                                                                                                             go_simp
                                                                                                                                                                             refine hKq _ _ ⟨s₂, ?_, ?_⟩
                                                                                                                                                                             · (refine Does.still ?_; (intro e he; have hm := mem_listed he; (simp [go_sem, *] at hm) <;> (first | (rw [hm]; exact evO_cell rfl hF.src.mg) | (rcases hm with hm | hm <;> (rw [hm]; exact evO_cell rfl hF.src.mg)))))
                                                                                                                                                                             clear hKq Kq
                                                                                                                                                                             try walk_nrm
                                                                                                                                                                             repeat (rw [IntWalk.i64_in _ ⟨by omega, by omega⟩])) | ((first | refine wpI_seq ?_ | refine wpI_block ?_ | refine wpI_skip ?_ | refine wpI_label ?_ | refine wpI_ret ?_ | refine wpI_exit ?_ | refine opsI_nil ?_); try (simp only [thenI, inBlockI, if_true, if_false, reduceIte, Nat.reduceEqDiff])) | (refine wpI_cond (by exact rfl) ?_; simp only [if_true, if_false, reduceIte, Bool.false_eq_true])))
      exact ⟨rfl, _, ResI.of (resultsC_tmp (by rfl) _), by rw [← HQ.out]; rfl, rfl, hF.since⟩
end
end Go.Proofs.Ytgmhdmhnedljcaa.Co

/-
  Helpers of the claims beside this text: what a partner that is sent stands for; what the search holds.
-/
namespace Go.Proofs.Ytgmhdmhnedljcaa.Co
open Go Go.Conc Go.RowKit Rhy
set_option linter.unusedSimpArgs false
set_option linter.unusedVariables false

/-- A rhythm whose beats lie in a block of these. -/
def RepR (n : Nat) (l : List Int) (v : Value) (f : Nat → Prop) (w : World) : Prop :=
  ∃ av cv, v = rhy n av l.length cv ∧ w.ownsRow 0 3 1 (.slice av l.length cv) l.length (ints l) ∧ ∀ k, (Value.slice av l.length cv).ownBlock = some k → f k
def ValR (n : Nat) (l : List Int) (v : Value) : Prop := ∃ av cv, v = rhy n av l.length cv
theorem own_blocks {w w₁ : World} {B e size n : Nat} {v : Value} {xs : List Value} (h : w.ownsRow B e size v n xs) (hb : ∀ j, v.ownBlock = some j → w₁.heap[j]? = w.heap[j]?) : w₁.ownsRow B e size v n xs := by
  obtain ⟨h1, h2 | ⟨g, cap, cur, rfl, h3, hg, rest⟩⟩ := h
  · exact ⟨h1, .inl h2⟩
  · exact ⟨h1, .inr ⟨g, cap, cur, rfl, h3, by rw [hb g rfl]; exact hg, rest⟩⟩
theorem repsR (n : Nat) : Reps (RepR n) (ValR n) :=
  ⟨fun ⟨av, cv, h, _⟩ => ⟨av, cv, h⟩, fun ⟨av, cv, h1, h2, h3⟩ hf hb => ⟨av, cv, h1, own_blocks h2 fun j hj => hb j (h3 j hj), fun k hk => hf k (h3 k hk)⟩⟩
/-- What the search holds: its struct, with so many wanted still. -/
structure Hold (n : Nat) (T : List Nat) (b g tc ch wn : Nat) (s : Gh) (w : World) : Prop where
  len : T.length = n
  mb : s.own b
  fb : ¬ s.fix b
  blk : w.heap[b]? = some (.cells #[.int .i64 n, .slice (some ⟨g, 0, none⟩) n tc, .int .i64 wn, .chan (some ch)] 53 (0, 0))
  mg : s.own g
  gb : g ≠ b
  row : ∀ (j t : Nat), T[j]? = some t → w.cell? ⟨g, j, none⟩ = some (.int .i64 (t : Int)) ∧ t < 16777216
  own : ∀ k, s.own k → k < w.heap.size
  fix : ∀ k, s.fix k → s.own k
theorem Hold.rely {n : Nat} {T : List Nat} {b g tc ch wn : Nat} {s : Gh} {w w₁ : World} (h : Hold n T b g tc ch wn s w) (r : Stays s.own w w₁) : Hold n T b g tc ch wn s w₁ :=
  ⟨h.len, h.mb, h.fb, (r.block b h.mb).trans h.blk, h.mg, h.gb, fun j t hj => ⟨Stays.cell r h.mg (h.row j t hj).1, (h.row j t hj).2⟩, fun k hk => Nat.lt_of_lt_of_le (h.own k hk) r.size, h.fix⟩
theorem Hold.src {n : Nat} {T : List Nat} {b g tc ch wn : Nat} {s : Gh} {w : World} (h : Hold n T b g tc ch wn s w) : SrcC s b n g tc T w :=
  ⟨h.mb, by simp [World.cell?, h.blk], by simp [World.cell?, h.blk, h.len], h.mg, h.row⟩
theorem Hold.cells {n : Nat} {T : List Nat} {b g tc ch wn : Nat} {s : Gh} {w : World} (h : Hold n T b g tc ch wn s w) :
    w.cell? ⟨b, 0, none⟩ = some (.int .i64 n) ∧ w.cell? ⟨b, 1, none⟩ = some (.slice (some ⟨g, 0, none⟩) n tc) ∧ w.cell? ⟨b, 2, none⟩ = some (.int .i64 wn) ∧ w.cell? ⟨b, 3, none⟩ = some (.chan (some ch)) ∧ w.frozen? ⟨b, 2, none⟩ = false := by
  refine ⟨by simp [World.cell?, h.blk], by simp [World.cell?, h.blk], by simp [World.cell?, h.blk], by simp [World.cell?, h.blk], ?_⟩
  unfold World.frozen?
  rw [h.blk]
  simp
/-- Behind a call that has made memory and sent nothing. -/
theorem Hold.behind {n : Nat} {T : List Nat} {b g tc ch wn : Nat} {s s' : Gh} {w w' : World} (h : Hold n T b g tc ch wn s w) (k : Behind s w s' w') : Hold n T b g tc ch wn s' w' :=
  ⟨h.len, k.own _ h.mb, by rw [k.fix]; exact h.fb, (k.kept.block b (h.own b h.mb) h.mb).trans h.blk, k.own _ h.mg, h.gb, fun j t hj => ⟨by
    have := (h.row j t hj).1
    unfold World.cell? at this ⊢
    rw [k.kept.block g (h.own g h.mg) h.mg]
    exact this, (h.row j t hj).2⟩, k.low h.own, fun j hj => k.own _ (h.fix j (by rw [← k.fix]; exact hj))⟩
/-- A partner is sent. -/
def Side.sent (s : Gh) (l : List Int) (rest : List (List Int)) (v : Value) (f : Nat → Prop) : Gh := { s with rem := rest, got := s.got ++ [(l, v)], fix := fun k => s.fix k ∨ f k }
theorem Hold.sent {n : Nat} {T : List Nat} {b g tc ch wn : Nat} {s : Gh} {w : World} (h : Hold n T b g tc ch wn s w) (l : List Int) (rest : List (List Int)) (v : Value) {f : Nat → Prop} (hf : ∀ k, f k → s.own k ∧ k ≠ b) :
    Hold n T b g tc ch wn (s.sent l rest v f) w :=
  ⟨h.len, h.mb, fun hx => hx.elim h.fb fun e => (hf _ e).2 rfl, h.blk, h.mg, h.gb, h.row, h.own, fun k hk => hk.elim (h.fix k) fun e => (hf k e).1⟩
theorem Hold.less {n : Nat} {T : List Nat} {b g tc ch wn wm : Nat} {s : Gh} {w : World} (h : Hold n T b g tc ch wn s w) : Hold n T b g tc ch wm s (w.setCell ⟨b, 2, none⟩ (.int .i64 wm)) := by
  refine ⟨h.len, h.mb, h.fb, ?_, h.mg, h.gb, fun j t hj => ⟨?_, (h.row j t hj).2⟩, fun k hk => by simpa using h.own k hk, h.fix⟩
  · have := h.blk
    unfold World.setCell
    simp [Array.getElem?_modify, this]
  · have := (h.row j t hj).1
    unfold World.cell? at this ⊢
    rw [Below.heap_setCell _ _ _ _ (fun e => h.gb e)]
    exact this
end Go.Proofs.Ytgmhdmhnedljcaa.Co

/-
  Helpers of the claims beside this text: the search for partners in company.
-/
namespace Go.Proofs.Ytgmhdmhnedljcaa.Co
open Go Go.Conc Go.RowKit Rhy
set_option linter.unusedVariables false
set_option linter.unusedSimpArgs false

section
variable {main : Bool} {c : Nat} {n : Nat} {xs : List Int}
theorem bears_wpI {S : Type} {P : Program} {T : Deal S} {fn : FuncId} {x : Code} {Q Q' : Exit → S → Act → World → Prop} {St : S → World → Prop} (hS : ∀ s x y, St s x → T.R s x y → St s y) :
    Bears T (thenI (fun s' a' w' => wpI P main c T fn x Q s' a' w') Q') St := ⟨hS, fun s a x y h r => wpI_rely h r⟩
/-- What stands behind the search from here on. -/
def ExtP (n : Nat) (xs : List Int) (b g tc c m wn : Nat) (bs : List Int) (rest : List (List Int)) (v : Value) (s' : Gh) (w' : World) : Prop :=
  v = .tuple #[] ∧ Hold n (turnsN n xs) b g tc c (wn - (extL n xs m bs).length) s' w' ∧ s'.rem = rest

set_option maxHeartbeats 4000000 in
set_option maxRecDepth 100000 in
theorem ext_c (ho : Ok n xs) (b g tc : Nat) (hcap : n ≤ tc) (hcm : tc ≤ 9223372036854775807) :
    ∀ (m : Nat) (bs : List Int) (wn : Nat) (rest : List (List Int)) (s : Gh) (w : World), m < n → Ok n bs → (∀ x ∈ bs, x < (n : Int) - m) → dirC n xs bs → 1 ≤ wn → wn < 9223372036854775808 →
      Hold n (turnsN n xs) b g tc c wn s w → s.rem = (extL n xs m bs).take wn ++ rest →
      CallsI Try.prog main c (dealB (RepR n)) 38 #[.pointer (some ⟨b, 0, none⟩), .int .i64 (mkN n bs), .int .i64 (covN n xs bs), .int .i64 ((n - m : Nat) : Int)] s w (ExtP n xs b g tc c m wn bs rest) := by
  have hn : 1 ≤ n ∧ n ≤ 24 := by have := ho.1; omega
  intro m
  induction m using Nat.strongRecOn with
  | ind m ih =>
  intro bs wn rest s w hm hbs hlt hd hw1 hw2 hH hrem
  obtain ⟨B, hB⟩ : ∃ B, mkN n bs = B := ⟨_, rfl⟩
  obtain ⟨C, hC⟩ : ∃ C, covN n xs bs = C := ⟨_, rfl⟩
  obtain ⟨N, hN⟩ : ∃ N, n - m = N := ⟨_, rfl⟩
  have hB2 : B < 2 ^ n := by rw [← hB]; exact mkN_lt hn.1
  have hC2 : C < 2 ^ n := by rw [← hC]; exact mkN_lt hn.1
  have h24 : 2 ^ n ≤ 16777216 := Nat.pow_le_pow_right (n := 2) (by omega) hn.2
  rw [hB, hC, hN]
  refine callsI_of Try.func38 (by rfl) rfl ?_
  simp only [Try.ntmps38, List.size_toArray, List.length_cons, List.length_nil, Nat.reduceAdd, Nat.reduceSub, Array.replicate_succ, Array.replicate_zero, List.push_toArray, List.append_toArray, List.nil_append, List.cons_append]
  have HB := Lib.hid hB
  have HC := Lib.hid hC
  have HN := Lib.hid hN
  have HH := Lib.hid hrem
  have HO := Lib.hid ho
  have HD := Lib.hid hd
  have HS := Lib.hid hbs
  have HT := Lib.hid hlt
  have IH := Lib.hid ih
  clear hB hC hN hrem ho hd hbs hlt ih
  (repeat (first | (refine wpI_region ?_; simp only [List.size_toArray, List.length_cons, List.length_nil, Nat.reduceAdd, Nat.zero_add, List.range, List.range.loop]) | (refine opsI_cons_k rfl (by rfl) ?_
                                                                                                                                                                         intro _ hRq Kq hKq
                                                                                                                                                                         replace hH := (Hold.rely) hH hRq
                                                                                                                                                                         clear hRq
                                                                                                                                                                         (skip)
                                                                                                                                                                         go_simp
                                                                                                                                                                         refine hKq _ _ ⟨s, ?_, ?_⟩
                                                                                                                                                                         · (refine Does.still ?_; (intro e he; have hm := mem_listed he; (simp [go_sem, *] at hm) <;> (first | (rw [hm]; exact evO_cell rfl hH.mb) | (rcases hm with hm | hm <;> (rw [hm]; exact evO_cell rfl hH.mb)))))
                                                                                                                                                                         clear hKq Kq
                                                                                                                                                                         try walk_nrm
                                                                                                                                                                         repeat (rw [IntWalk.i64_in _ ⟨by omega, by omega⟩])) | ((first | refine wpI_seq ?_ | refine wpI_block ?_ | refine wpI_skip ?_ | refine wpI_label ?_ | refine wpI_ret ?_ | refine wpI_exit ?_ | refine opsI_nil ?_); try (simp only [thenI, inBlockI, if_true, if_false, reduceIte, Nat.reduceEqDiff])) | (refine wpI_cond (by exact rfl) ?_; simp only [if_true, if_false, reduceIte, Bool.false_eq_true])))
  refine opsI_call (Post := fun v s₂ w₂ => v = .bool (decide (C = 2 ^ n - 1)) ∧ s₂ = s ∧ Stays s.own _ w₂) rfl (by rfl) rfl (by walk_nrm; exact isAll_c n C hn (by omega) b _ hH.mb hH.cells.1) ?_
  rintro v s₂ w₂ ⟨rfl, rfl, hst⟩
  have hH := hH.rely hst
  clear hst
  walk_nrm
  by_cases hall : C = 2 ^ n - 1
  · have hdec : decide (C = 2 ^ n - 1) = true := by simpa using hall
    rw [hdec]
    have hxl : 1 ≤ xs.length := by
      rcases Nat.eq_zero_or_pos xs.length with h | h
      · have hx0 : xs = [] := List.eq_nil_of_length_eq_zero h
        have hc0 : covN n xs bs = 0 := by rw [hx0]; rfl
        rw [HC.out, hall] at hc0
        have := Nat.pow_le_pow_right (n := 2) (by omega) hn.1
        omega
      · exact h
    have hext : extL n xs m bs = [bs] := ext_all hn.1 hxl HD.out (by rw [HC.out]; exact hall)
    have HE := Lib.hid hext
    clear hall hdec hext hxl
    (repeat (first | (refine wpI_region ?_; simp only [List.size_toArray, List.length_cons, List.length_nil, Nat.reduceAdd, Nat.zero_add, List.range, List.range.loop]) | (refine opsI_cons_k rfl (by rfl) ?_
                                                                                                                                                                           intro _ hRq Kq hKq
                                                                                                                                                                           replace hH := (Hold.rely) hH hRq
                                                                                                                                                                           clear hRq
                                                                                                                                                                           (skip)
                                                                                                                                                                           go_simp
                                                                                                                                                                           refine hKq _ _ ⟨s₂, ?_, ?_⟩
                                                                                                                                                                           · (refine Does.still ?_; (intro e he; have hm := mem_listed he; (simp [go_sem, *] at hm) <;> (first | (rw [hm]; exact evO_cell rfl hH.mb) | (rcases hm with hm | hm <;> (rw [hm]; exact evO_cell rfl hH.mb)))))
                                                                                                                                                                           clear hKq Kq
                                                                                                                                                                           try walk_nrm
                                                                                                                                                                           repeat (rw [IntWalk.i64_in _ ⟨by omega, by omega⟩])) | ((first | refine wpI_seq ?_ | refine wpI_block ?_ | refine wpI_skip ?_ | refine wpI_label ?_ | refine wpI_ret ?_ | refine wpI_exit ?_ | refine opsI_nil ?_); try (simp only [thenI, inBlockI, if_true, if_false, reduceIte, Nat.reduceEqDiff])) | (refine wpI_cond (by exact rfl) ?_; simp only [if_true, if_false, reduceIte, Bool.false_eq_true])))
    refine wpI_region_held (St := fun s w => Hold n (turnsN n xs) b g tc c wn s w) (fun w => ⟨own_same s₂ w, rfl, rfl, rfl, rfl, rfl, rfl, Nat.le_refl _, fun _ _ _ => rfl, by simp⟩) (by rfl) (fun w₃ h₃ => ?_)
    have hH := (hH.rely h₃).rely (w₁ := { w₃ with drawn := w₃.drawn + 1 }) ⟨rfl, rfl, rfl, Nat.le_refl _, fun _ _ => rfl⟩
    generalize ({ w₃ with drawn := w₃.drawn + 1 } : World) = w₄ at hH ⊢
    clear h₃
    simp only [List.size_toArray, List.length_cons, List.length_nil, Nat.reduceAdd, Nat.zero_add, Array.replicate_succ, Array.replicate_zero, List.push_toArray, List.append_toArray, List.nil_append, List.cons_append]
    (refine anyI_take ?_ (i := 0) (v := (.pointer (some ⟨b, 0, none⟩))) rfl ?_ ?_ ?_ ?_ hH ?_
     · exact bears_wpI fun s x y h r => Hold.rely h r
     · kernel_rfl
     · kernel_rfl
     · kernel_rfl
     · refine .inl ⟨by rfl, fun s w hS => ⟨?_, ?_⟩⟩
       · obtain ⟨q0, q1, q2, q3, q4⟩ := hS.cells
         go_simp
       · refine Does.still ?_
         obtain ⟨q0, q1, q2, q3, q4⟩ := hS.cells
         (intro e he; have hm := mem_listed he; (simp [go_sem, *] at hm) <;> (first | (rw [hm]; exact evO_cell rfl hS.mb) | (rcases hm with hm | hm <;> (rw [hm]; exact evO_cell rfl hS.mb))))
     walk_nrm)
    (refine anyI_take ?_ (i := 1) (v := (.pointer (some ⟨b, 0, none⟩))) rfl ?_ ?_ ?_ ?_ hH ?_
     · exact bears_wpI fun s x y h r => Hold.rely h r
     · kernel_rfl
     · kernel_rfl
     · kernel_rfl
     · refine .inl ⟨by rfl, fun s w hS => ⟨?_, ?_⟩⟩
       · obtain ⟨q0, q1, q2, q3, q4⟩ := hS.cells
         go_simp
       · refine Does.still ?_
         obtain ⟨q0, q1, q2, q3, q4⟩ := hS.cells
         (intro e he; have hm := mem_listed he; (simp [go_sem, *] at hm) <;> (first | (rw [hm]; exact evO_cell rfl hS.mb) | (rcases hm with hm | hm <;> (rw [hm]; exact evO_cell rfl hS.mb))))
     walk_nrm)
    (refine anyI_take ?_ (i := 2) (v := (.pointer (some ⟨b, 3, none⟩))) rfl ?_ ?_ ?_ ?_ hH ?_
     · exact bears_wpI fun s x y h r => Hold.rely h r
     · kernel_rfl
     · kernel_rfl
     · kernel_rfl
     · refine .inl ⟨by rfl, fun s w hS => ⟨?_, ?_⟩⟩
       · obtain ⟨q0, q1, q2, q3, q4⟩ := hS.cells
         go_simp
       · refine Does.still ?_
         obtain ⟨q0, q1, q2, q3, q4⟩ := hS.cells
         (intro e he; have hm := mem_listed he; (simp [go_sem, *] at hm) <;> (first | (rw [hm]; exact evO_cell rfl hS.mb) | (rcases hm with hm | hm <;> (rw [hm]; exact evO_cell rfl hS.mb))))
     walk_nrm)
    (refine anyI_take ?_ (i := 3) (v := (.chan (some c))) rfl ?_ ?_ ?_ ?_ hH ?_
     · exact bears_wpI fun s x y h r => Hold.rely h r
     · kernel_rfl
     · kernel_rfl
     · kernel_rfl
     · refine .inl ⟨by rfl, fun s w hS => ⟨?_, ?_⟩⟩
       · obtain ⟨q0, q1, q2, q3, q4⟩ := hS.cells
         go_simp
       · refine Does.still ?_
         obtain ⟨q0, q1, q2, q3, q4⟩ := hS.cells
         (intro e he; have hm := mem_listed he; (simp [go_sem, *] at hm) <;> (first | (rw [hm]; exact evO_cell rfl hS.mb) | (rcases hm with hm | hm <;> (rw [hm]; exact evO_cell rfl hS.mb))))
     walk_nrm)
    (refine anyI_take ?_ (i := 4) (v := (.pointer (some ⟨b, 0, none⟩))) rfl ?_ ?_ ?_ ?_ hH ?_
     · exact bears_wpI fun s x y h r => Hold.rely h r
     · kernel_rfl
     · kernel_rfl
     · kernel_rfl
     · refine .inl ⟨by rfl, fun s w hS => ⟨?_, ?_⟩⟩
       · obtain ⟨q0, q1, q2, q3, q4⟩ := hS.cells
         go_simp
       · refine Does.still ?_
         obtain ⟨q0, q1, q2, q3, q4⟩ := hS.cells
         (intro e he; have hm := mem_listed he; (simp [go_sem, *] at hm) <;> (first | (rw [hm]; exact evO_cell rfl hS.mb) | (rcases hm with hm | hm <;> (rw [hm]; exact evO_cell rfl hS.mb))))
     walk_nrm)
    (refine anyI_take ?_ (i := 5) (v := (.pointer (some ⟨b, 0, none⟩))) rfl ?_ ?_ ?_ ?_ hH ?_
     · exact bears_wpI fun s x y h r => Hold.rely h r
     · kernel_rfl
     · kernel_rfl
     · kernel_rfl
     · refine .inl ⟨by rfl, fun s w hS => ⟨?_, ?_⟩⟩
       · obtain ⟨q0, q1, q2, q3, q4⟩ := hS.cells
         go_simp
       · refine Does.still ?_
         obtain ⟨q0, q1, q2, q3, q4⟩ := hS.cells
         (intro e he; have hm := mem_listed he; (simp [go_sem, *] at hm) <;> (first | (rw [hm]; exact evO_cell rfl hS.mb) | (rcases hm with hm | hm <;> (rw [hm]; exact evO_cell rfl hS.mb))))
     walk_nrm)
    (refine anyI_take ?_ (i := 6) (v := (.pointer (some ⟨b, 0, none⟩))) rfl ?_ ?_ ?_ ?_ hH ?_
     · exact bears_wpI fun s x y h r => Hold.rely h r
     · kernel_rfl
     · kernel_rfl
     · kernel_rfl
     · refine .inl ⟨by rfl, fun s w hS => ⟨?_, ?_⟩⟩
       · obtain ⟨q0, q1, q2, q3, q4⟩ := hS.cells
         go_simp
       · refine Does.still ?_
         obtain ⟨q0, q1, q2, q3, q4⟩ := hS.cells
         (intro e he; have hm := mem_listed he; (simp [go_sem, *] at hm) <;> (first | (rw [hm]; exact evO_cell rfl hS.mb) | (rcases hm with hm | hm <;> (rw [hm]; exact evO_cell rfl hS.mb))))
     walk_nrm)
    (refine anyI_take ?_ (i := 7) (v := (.int .i64 n)) rfl ?_ ?_ ?_ ?_ hH ?_
     · exact bears_wpI fun s x y h r => Hold.rely h r
     · kernel_rfl
     · kernel_rfl
     · kernel_rfl
     · refine .inl ⟨by rfl, fun s w hS => ⟨?_, ?_⟩⟩
       · obtain ⟨q0, q1, q2, q3, q4⟩ := hS.cells
         go_simp
       · refine Does.still ?_
         obtain ⟨q0, q1, q2, q3, q4⟩ := hS.cells
         (intro e he; have hm := mem_listed he; (simp [go_sem, *] at hm) <;> (first | (rw [hm]; exact evO_cell rfl hS.mb) | (rcases hm with hm | hm <;> (rw [hm]; exact evO_cell rfl hS.mb))))
     walk_nrm)
    (refine anyI_take ?_ (i := 8) (v := (.int .i64 B)) rfl ?_ ?_ ?_ ?_ hH ?_
     · exact bears_wpI fun s x y h r => Hold.rely h r
     · kernel_rfl
     · kernel_rfl
     · kernel_rfl
     · refine .inl ⟨by rfl, fun s w hS => ⟨?_, ?_⟩⟩
       · obtain ⟨q0, q1, q2, q3, q4⟩ := hS.cells
         go_simp
       · refine Does.still ?_
         obtain ⟨q0, q1, q2, q3, q4⟩ := hS.cells
         (intro e he; have hm := mem_listed he; (simp [go_sem, *] at hm) <;> (first | (rw [hm]; exact evO_cell rfl hS.mb) | (rcases hm with hm | hm <;> (rw [hm]; exact evO_cell rfl hS.mb))))
     walk_nrm)
    refine anyI_one (i := 9) rfl (by kernel_rfl) (.call (by rfl) _ _ _ _ rfl (by walk_nrm; exact rob_c n B hn.1 hn.2 hB2 s₂ _ (fun k hk => hH.own k (hH.fix k hk)) hH.own) fun v s₃ w₅ q => ?_)
    obtain ⟨av, cv, rfl, hrow, hmine, hbeh⟩ := q
    have hbits : bitsL n B = bs := by rw [← HB.out]; exact mkN_bits hn HS.out
    rw [hbits] at hrow hmine ⊢
    have hH3 := hH.behind hbeh
    have hrem3 : s₃.rem = [bs].take wn ++ rest := by rw [hbeh.rem, HH.out, HE.out]
    clear hH hbeh hbits
    refine ⟨hH3, ?_⟩
    walk_nrm
    have hrem4 : s₃.rem = bs :: rest := by rw [hrem3, List.take_of_length_le (by simpa using hw1)]; rfl
    have hapart : ∀ k, (Value.slice av bs.length cv).ownBlock = some k → s₃.own k ∧ k ≠ b := fun k hk => ⟨(hmine k hk).1, fun e => by
      subst e
      obtain ⟨_, h2 | ⟨g', cap, cur, e2, _, hg, _⟩⟩ := hrow
      · have := congrArg Value.ownBlock h2.1
        rw [hk] at this
        cases this
      · have := congrArg Value.ownBlock e2
        rw [hk] at this
        obtain rfl : k = g' := by simpa [Value.ownBlock] using this
        rw [hH3.blk] at hg
        cases hg⟩
    refine anyI_one (i := 10) rfl (by kernel_rfl) (.send (by rfl) (rhy n av bs.length cv) undef (s₃.sent bs rest (rhy n av bs.length cv) fun k => (Value.slice av bs.length cv).ownBlock = some k) (fun w₆ h₆ => ⟨?_, ?_, ?_⟩) fun w₆ h₆ => ?_)
    · go_simp
      rfl
    · refine Does.still ?_
      (intro e he; have hm := mem_listed he; (simp [go_sem, *] at hm) <;> (first | (rw [hm]; exact evO_cell rfl hH3.mb) | (rcases hm with hm | hm <;> (rw [hm]; exact evO_cell rfl hH3.mb))))
    · exact ⟨bs, hrem4, rfl, rfl, fun k hk => .inl hk, fun k hk => hk.elim (hH3.fix k) fun e => (hmine k e).1, av, cv, rfl, own_blocks hrow fun j hj => h₆.block j (hmine j hj).1, fun k hk => .inr hk⟩
    · have hH6 := (hH3.rely h₆).sent bs rest (rhy n av bs.length cv) hapart
      refine ⟨hH6, anyI_done (by kernel_rfl) ?_ _⟩
      (simp only [thenI, inBlockI, if_true, if_false, reduceIte, Nat.reduceEqDiff])
      walk_nrm
      generalize hs6 : s₃.sent bs rest (rhy n av bs.length cv) (fun k => (Value.slice av bs.length cv).ownBlock = some k) = s₆ at hH6 ⊢
      have hrem6 : s₆.rem = rest := by rw [← hs6]; rfl
      clear hs6 hH3 hapart hrow hmine hrem3 hrem4 h₆
      have hw3 : (1 : Int) ≤ (wn : Int) := by omega
      have hw4 : (wn : Int) < 9223372036854775808 := by omega
      (repeat (first | (refine wpI_region ?_; simp only [List.size_toArray, List.length_cons, List.length_nil, Nat.reduceAdd, Nat.zero_add, List.range, List.range.loop]) | (refine opsI_cons_k rfl (by rfl) ?_
                                                                                                                                                                             intro _ hRq Kq hKq
                                                                                                                                                                             replace hH6 := (Hold.rely) hH6 hRq
                                                                                                                                                                             clear hRq
                                                                                                                                                                             (obtain ⟨q0, q1, q2, q3, q4⟩ := hH6.cells)
                                                                                                                                                                             go_simp
                                                                                                                                                                             refine hKq _ _ ⟨s₆, ?_, ?_⟩
                                                                                                                                                                             · (refine Does.still ?_; (intro e he; have hm := mem_listed he; (simp [go_sem, *] at hm) <;> (first | (rw [hm]; exact evO_cell rfl hH6.mb) | (rcases hm with hm | hm <;> (rw [hm]; exact evO_cell rfl hH6.mb)))))
                                                                                                                                                                             clear hKq Kq
                                                                                                                                                                             try walk_nrm
                                                                                                                                                                             repeat (rw [IntWalk.i64_in _ ⟨by omega, by omega⟩])) | ((first | refine wpI_seq ?_ | refine wpI_block ?_ | refine wpI_skip ?_ | refine wpI_label ?_ | refine wpI_ret ?_ | refine wpI_exit ?_ | refine opsI_nil ?_); try (simp only [thenI, inBlockI, if_true, if_false, reduceIte, Nat.reduceEqDiff])) | (refine wpI_cond (by exact rfl) ?_; simp only [if_true, if_false, reduceIte, Bool.false_eq_true])))
      have hwm : (wn : Int) - 1 = ((wn - 1 : Nat) : Int) := by omega
      rw [hwm]
      clear hw3 hw4 hwm
      refine opsI_turn rfl (by rfl) (fun W => W.setCell ⟨b, 2, none⟩ (.int .i64 ((wn - 1 : Nat) : Int))) (fun w₇ h₇ => ?_) (fun w₇ h₇ => ?_)
      · have hl := hH6.rely h₇
        obtain ⟨q0, q1, q2, q3, q4⟩ := hl.cells
        have lt := hl.own b hl.mb
        refine ⟨by go_simp, kept_set fun h => h.elim (fun x => x hl.mb) hl.fb, by simp, by (intro e he; have hm := mem_listed he; (simp [go_sem, *] at hm) <;> (first | (rw [hm]; exact evO_cell rfl hl.mb) | (rcases hm with hm | hm <;> (rw [hm]; exact evO_cell rfl hl.mb))))⟩
      have hH7 := (hH6.rely h₇).less (wm := wn - 1)
      generalize w₇.setCell ⟨b, 2, none⟩ (.int .i64 ((wn - 1 : Nat) : Int)) = w₈ at hH7 ⊢
      clear hH6 h₇
      walk_nrm
      refine opsI_nil ?_
      (simp only [thenI, inBlockI, if_true, if_false, reduceIte, Nat.reduceEqDiff])
      refine wpI_ret ?_
      refine ⟨rfl, .tuple #[], ResI.of (resultsC_none (by rfl) _), rfl, ?_, hrem6⟩
      rw [HE.out]
      exact hH7
  · have hdec : decide (C = 2 ^ n - 1) = false := by simpa using hall
    rw [hdec]
    have HA := Lib.hid hall
    clear hall hdec
    (repeat (first | (refine wpI_region ?_; simp only [List.size_toArray, List.length_cons, List.length_nil, Nat.reduceAdd, Nat.zero_add, List.range, List.range.loop]) | (refine opsI_cons_k rfl (by rfl) ?_
                                                                                                                                                                           intro _ hRq Kq hKq
                                                                                                                                                                           replace hH := (Hold.rely) hH hRq
                                                                                                                                                                           clear hRq
                                                                                                                                                                           (skip)
                                                                                                                                                                           go_simp
                                                                                                                                                                           refine hKq _ _ ⟨s₂, ?_, ?_⟩
                                                                                                                                                                           · (refine Does.still ?_; (intro e he; have hm := mem_listed he; (simp [go_sem, *] at hm) <;> (first | (rw [hm]; exact evO_cell rfl hH.mb) | (rcases hm with hm | hm <;> (rw [hm]; exact evO_cell rfl hH.mb)))))
                                                                                                                                                                           clear hKq Kq
                                                                                                                                                                           try walk_nrm
                                                                                                                                                                           repeat (rw [IntWalk.i64_in _ ⟨by omega, by omega⟩])) | ((first | refine wpI_seq ?_ | refine wpI_block ?_ | refine wpI_skip ?_ | refine wpI_label ?_ | refine wpI_ret ?_ | refine wpI_exit ?_ | refine opsI_nil ?_); try (simp only [thenI, inBlockI, if_true, if_false, reduceIte, Nat.reduceEqDiff])) | (refine wpI_cond (by exact rfl) ?_; simp only [if_true, if_false, reduceIte, Bool.false_eq_true])))
    refine wpI_loop (fun s' a' w' => ∃ (p wp : Nat) (u30 u31 u32 u33 u34 u35 u36 u37 u38 u39 u40 u41 u42 u43 u44 u45 u46 u47 u48 u49 u50 u51 u52 u53 u54 u55 u56 u57 u58 u59 u60 u61 u62 u63 u64 u65 u66 u67 u68 u69 u70 u71 u72 u73 : Value), N ≤ p ∧ p ≤ n ∧ wp < 9223372036854775808 ∧ Hold n (turnsN n xs) b g tc c wp s' w' ∧ s'.rem = (extL n xs (n - p) bs).take wp ++ rest ∧ wp - (extL n xs (n - p) bs).length = wn - (extL n xs m bs).length ∧
        a' = { tmps := #[.pointer (some ⟨b, 0, none⟩), .int .i64 B, .int .i64 C, .int .i64 N, undef, undef, undef, undef, .int .i64 p, .pointer (some ⟨b, 0, none⟩), .int .i64 C, .bool false, undef, undef, undef, undef, undef, undef, undef, undef, undef, undef, undef, undef, undef, undef, undef, undef, undef, .int .i64 N, u30, u31, u32, u33, u34, u35, u36, u37, u38, u39, u40, u41, u42, u43, u44, u45, u46, u47, u48, u49, u50, u51, u52, u53, u54, u55, u56, u57, u58, u59, u60, u61, u62, u63, u64, u65, u66, u67, u68, u69, u70, u71, u72, u73], defers := [] })
      (fun _ a' _ => n + 1 - (match a'.tmps.getD 8 undef with | .int _ j => j.toNat | _ => 0)) ?_ ?_
    · have hNm : n - N = m := by have := HN.out; omega
      exact ⟨N, wn, _, _, _, _, _, _, _, _, _, _, _, _, _, _, _, _, _, _, _, _, _, _, _, _, _, _, _, _, _, _, _, _, _, _, _, _, _, _, _, _, _, _, _, _, by omega, by have := HN.out; omega, hw2, hH, by rw [hNm]; exact HH.out, by rw [hNm], rfl⟩
    · rintro s' a' w' ⟨p, wp, u30, u31, u32, u33, u34, u35, u36, u37, u38, u39, u40, u41, u42, u43, u44, u45, u46, u47, u48, u49, u50, u51, u52, u53, u54, u55, u56, u57, u58, u59, u60, u61, u62, u63, u64, u65, u66, u67, u68, u69, u70, u71, u72, u73, hp1, hp2, hwp, hH, hrem, hlen, rfl⟩
      have HR := Lib.hid hrem
      have HL := Lib.hid hlen
      clear hrem hlen
      by_cases hz : wp = 0
      · subst hz
        (repeat (first | (refine wpI_region ?_; simp only [List.size_toArray, List.length_cons, List.length_nil, Nat.reduceAdd, Nat.zero_add, List.range, List.range.loop]) | (refine opsI_cons_k rfl (by rfl) ?_
                                                                                                                                                                               intro _ hRq Kq hKq
                                                                                                                                                                               replace hH := (Hold.rely) hH hRq
                                                                                                                                                                               clear hRq
                                                                                                                                                                               (obtain ⟨q0, q1, q2, q3, q4⟩ := hH.cells)
                                                                                                                                                                               go_simp
                                                                                                                                                                               refine hKq _ _ ⟨s', ?_, ?_⟩
                                                                                                                                                                               · (refine Does.still ?_; (intro e he; have hm := mem_listed he; (simp [go_sem, *] at hm) <;> (first | (rw [hm]; exact evO_cell rfl hH.mb) | (rcases hm with hm | hm <;> (rw [hm]; exact evO_cell rfl hH.mb)))))
                                                                                                                                                                               clear hKq Kq
                                                                                                                                                                               try walk_nrm
                                                                                                                                                                               repeat (rw [IntWalk.i64_in _ ⟨by omega, by omega⟩])) | ((first | refine wpI_seq ?_ | refine wpI_block ?_ | refine wpI_skip ?_ | refine wpI_label ?_ | refine wpI_ret ?_ | refine wpI_exit ?_ | refine opsI_nil ?_); try (simp only [thenI, inBlockI, if_true, if_false, reduceIte, Nat.reduceEqDiff])) | (refine wpI_cond (by exact rfl) ?_; simp only [if_true, if_false, reduceIte, Bool.false_eq_true])))
        refine opsI_unwanted rfl (by rfl) ?_
        refine opsI_unwanted rfl (by rfl) ?_
        refine opsI_unwanted rfl (by rfl) ?_
        refine opsI_unwanted rfl (by rfl) ?_
        walk_nrm
        (repeat (first | (refine wpI_region ?_; simp only [List.size_toArray, List.length_cons, List.length_nil, Nat.reduceAdd, Nat.zero_add, List.range, List.range.loop]) | (refine opsI_cons_k rfl (by rfl) ?_
                                                                                                                                                                               intro _ hRq Kq hKq
                                                                                                                                                                               replace hH := (Hold.rely) hH hRq
                                                                                                                                                                               clear hRq
                                                                                                                                                                               (skip)
                                                                                                                                                                               go_simp
                                                                                                                                                                               refine hKq _ _ ⟨s', ?_, ?_⟩
                                                                                                                                                                               · (refine Does.still ?_; (intro e he; have hm := mem_listed he; (simp [go_sem, *] at hm) <;> (first | (rw [hm]; exact evO_cell rfl hH.mb) | (rcases hm with hm | hm <;> (rw [hm]; exact evO_cell rfl hH.mb)))))
                                                                                                                                                                               clear hKq Kq
                                                                                                                                                                               try walk_nrm
                                                                                                                                                                               repeat (rw [IntWalk.i64_in _ ⟨by omega, by omega⟩])) | ((first | refine wpI_seq ?_ | refine wpI_block ?_ | refine wpI_skip ?_ | refine wpI_label ?_ | refine wpI_ret ?_ | refine wpI_exit ?_ | refine opsI_nil ?_); try (simp only [thenI, inBlockI, if_true, if_false, reduceIte, Nat.reduceEqDiff])) | (refine wpI_cond (by exact rfl) ?_; simp only [if_true, if_false, reduceIte, Bool.false_eq_true])))
        refine ⟨rfl, .tuple #[], ResI.of (resultsC_none (by rfl) _), rfl, ?_, by simpa using HR.out⟩
        have := HL.out
        rw [Nat.zero_sub] at this
        rw [← this]
        exact hH
      · have hz1 : 0 < wp := by omega
        (repeat (first | (refine wpI_region ?_; simp only [List.size_toArray, List.length_cons, List.length_nil, Nat.reduceAdd, Nat.zero_add, List.range, List.range.loop]) | (refine opsI_cons_k rfl (by rfl) ?_
                                                                                                                                                                               intro _ hRq Kq hKq
                                                                                                                                                                               replace hH := (Hold.rely) hH hRq
                                                                                                                                                                               clear hRq
                                                                                                                                                                               (obtain ⟨q0, q1, q2, q3, q4⟩ := hH.cells)
                                                                                                                                                                               go_simp
                                                                                                                                                                               refine hKq _ _ ⟨s', ?_, ?_⟩
                                                                                                                                                                               · (refine Does.still ?_; (intro e he; have hm := mem_listed he; (simp [go_sem, *] at hm) <;> (first | (rw [hm]; exact evO_cell rfl hH.mb) | (rcases hm with hm | hm <;> (rw [hm]; exact evO_cell rfl hH.mb)))))
                                                                                                                                                                               clear hKq Kq
                                                                                                                                                                               try walk_nrm
                                                                                                                                                                               repeat (rw [IntWalk.i64_in _ ⟨by omega, by omega⟩])) | ((first | refine wpI_seq ?_ | refine wpI_block ?_ | refine wpI_skip ?_ | refine wpI_label ?_ | refine wpI_ret ?_ | refine wpI_exit ?_ | refine opsI_nil ?_); try (simp only [thenI, inBlockI, if_true, if_false, reduceIte, Nat.reduceEqDiff])) | (refine wpI_cond (by exact rfl) ?_; simp only [if_true, if_false, reduceIte, Bool.false_eq_true])))
        refine opsI_call (Post := fun v s₂ w₂ => v = .bool (decide (reachN C ((turnsN n xs).drop p) C = 2 ^ n - 1)) ∧ s₂ = s' ∧ Stays s'.own _ w₂) rfl (by rfl) rfl (by walk_nrm; exact may_c n C p hn (by omega) b g tc _ hH.len hp2 hcap hcm _ hH.src) ?_
        rintro v s₃ w₃ ⟨rfl, rfl, hst⟩
        have hH := hH.rely hst
        clear hst
        walk_nrm
        by_cases hmay : reachN C ((turnsN n xs).drop p) C = 2 ^ n - 1
        · have hdec : decide (reachN C ((turnsN n xs).drop p) C = 2 ^ n - 1) = true := by simpa using hmay
          rw [hdec]
          have hpn : p < n := by
            rcases Nat.lt_or_ge p n with h | h
            · exact h
            · rw [List.drop_eq_nil_of_le (by rw [turns_len]; exact h)] at hmay
              exact absurd hmay HA.out
          clear hmay hdec
          (repeat (first | (refine wpI_region ?_; simp only [List.size_toArray, List.length_cons, List.length_nil, Nat.reduceAdd, Nat.zero_add, List.range, List.range.loop]) | (refine opsI_cons_k rfl (by rfl) ?_
                                                                                                                                                                                 intro _ hRq Kq hKq
                                                                                                                                                                                 replace hH := (Hold.rely) hH hRq
                                                                                                                                                                                 clear hRq
                                                                                                                                                                                 (skip)
                                                                                                                                                                                 go_simp
                                                                                                                                                                                 refine hKq _ _ ⟨s₃, ?_, ?_⟩
                                                                                                                                                                                 · (refine Does.still ?_; (intro e he; have hm := mem_listed he; (simp [go_sem, *] at hm) <;> (first | (rw [hm]; exact evO_cell rfl hH.mb) | (rcases hm with hm | hm <;> (rw [hm]; exact evO_cell rfl hH.mb)))))
                                                                                                                                                                                 clear hKq Kq
                                                                                                                                                                                 try walk_nrm
                                                                                                                                                                                 repeat (rw [IntWalk.i64_in _ ⟨by omega, by omega⟩])) | ((first | refine wpI_seq ?_ | refine wpI_block ?_ | refine wpI_skip ?_ | refine wpI_label ?_ | refine wpI_ret ?_ | refine wpI_exit ?_ | refine opsI_nil ?_); try (simp only [thenI, inBlockI, if_true, if_false, reduceIte, Nat.reduceEqDiff])) | (refine wpI_cond (by exact rfl) ?_; simp only [if_true, if_false, reduceIte, Bool.false_eq_true])))
          obtain ⟨t, ht⟩ : ∃ t, trnN n xs p = t := ⟨_, rfl⟩
          have hTt : (turnsN n xs)[p]? = some t := by rw [turns_at hpn, ht]
          have htl := (hH.row _ _ hTt).2
          have HT2 := Lib.hid ht
          clear ht
          have ha := and_i64 C t (by omega) (by omega)
          have hv := or_i64 C t (by omega) htl
          have hpn1 : ((p : Int) + 1).toNat = p + 1 := by omega
          obtain ⟨M, hM⟩ : ∃ M, n - p = M + 1 := ⟨n - p - 1, by omega⟩
          have hMp : n - (M + 1) = p := by omega
          have hMn : M < m := by have := HN.out; omega
          by_cases hfit : C &&& t = 0
          · have hzb : (((C &&& t : Nat) : Int) == 0) = true := by simp; omega
            have HFit := Lib.hid hfit
            clear hfit
            (repeat (first | (refine wpI_region ?_; simp only [List.size_toArray, List.length_cons, List.length_nil, Nat.reduceAdd, Nat.zero_add, List.range, List.range.loop]) | (refine opsI_cons_k rfl (by rfl) ?_
                                                                                                                                                                                   intro _ hRq Kq hKq
                                                                                                                                                                                   replace hH := (Hold.rely) hH hRq
                                                                                                                                                                                   clear hRq
                                                                                                                                                                                   (obtain ⟨q0, q1, q2, q3, q4⟩ := hH.cells; have hrc := (hH.row _ _ hTt).1)
                                                                                                                                                                                   go_simp
                                                                                                                                                                                   refine hKq _ _ ⟨s₃, ?_, ?_⟩
                                                                                                                                                                                   · (refine Does.still ?_; first | (intro e he; have hm := mem_listed he; (simp [go_sem, *] at hm) <;> (first | (rw [hm]; exact evO_cell rfl hH.mb) | (rcases hm with hm | hm <;> (rw [hm]; exact evO_cell rfl hH.mb)))) | (intro e he; have hm := mem_listed he; (simp [go_sem, *] at hm) <;> (first | (rw [hm]; exact evO_cell rfl hH.mg) | (rcases hm with hm | hm <;> (rw [hm]; exact evO_cell rfl hH.mg)))))
                                                                                                                                                                                   clear hKq Kq
                                                                                                                                                                                   try walk_nrm
                                                                                                                                                                                   repeat (rw [IntWalk.i64_in _ ⟨by omega, by omega⟩])) | ((first | refine wpI_seq ?_ | refine wpI_block ?_ | refine wpI_skip ?_ | refine wpI_label ?_ | refine wpI_ret ?_ | refine wpI_exit ?_ | refine opsI_nil ?_); try (simp only [thenI, inBlockI, if_true, if_false, reduceIte, Nat.reduceEqDiff])) | (refine wpI_cond (by exact rfl) ?_; simp only [if_true, if_false, reduceIte, Bool.false_eq_true])))
            refine wpI_region_held (St := fun s w => ∃ wq, Hold n (turnsN n xs) b g tc c wq s w) (fun w => ⟨own_same s₃ w, rfl, rfl, rfl, rfl, rfl, rfl, Nat.le_refl _, fun _ _ _ => rfl, by simp⟩) (by rfl) (fun w₄ h₄ => ?_)
            have hH := (hH.rely h₄).rely (w₁ := { w₄ with drawn := w₄.drawn + 1 }) ⟨rfl, rfl, rfl, Nat.le_refl _, fun _ _ => rfl⟩
            generalize ({ w₄ with drawn := w₄.drawn + 1 } : World) = w₅ at hH ⊢
            clear h₄
            simp only [List.size_toArray, List.length_cons, List.length_nil, Nat.reduceAdd, Nat.zero_add, Array.replicate_succ, Array.replicate_zero, List.push_toArray, List.append_toArray, List.nil_append, List.cons_append]
            have hwr : IntKind.i64.wrap ((p : Int) + 1) = (p : Int) + 1 := IntWalk.i64_in _ ⟨by omega, by omega⟩
            (refine anyI_take ?_ (i := 0) (v := (.pointer (some ⟨b, 0, none⟩))) rfl ?_ ?_ ?_ ?_ (⟨_, hH⟩) ?_
             · exact ⟨fun s x y h r => ⟨_, h.choose_spec.rely r⟩, fun s a x y h r => wpI_rely h r⟩
             · kernel_rfl
             · kernel_rfl
             · kernel_rfl
             · refine .inl ⟨by rfl, fun s w hS => ⟨?_, ?_⟩⟩
               · obtain ⟨wq, hS⟩ := hS
                 obtain ⟨q0, q1, q2, q3, q4⟩ := hS.cells
                 have hrc := (hS.row _ _ hTt).1
                 go_simp
               · refine Does.still ?_
                 obtain ⟨wq, hS⟩ := hS
                 obtain ⟨q0, q1, q2, q3, q4⟩ := hS.cells
                 have hrc := (hS.row _ _ hTt).1
                 first | (intro e he; have hm := mem_listed he; (simp [go_sem, *] at hm) <;> (first | (rw [hm]; exact evO_cell rfl hS.mb) | (rcases hm with hm | hm <;> (rw [hm]; exact evO_cell rfl hS.mb)))) | (intro e he; have hm := mem_listed he; (simp [go_sem, *] at hm) <;> (first | (rw [hm]; exact evO_cell rfl hS.mg) | (rcases hm with hm | hm <;> (rw [hm]; exact evO_cell rfl hS.mg))))
             walk_nrm)
            (refine anyI_take ?_ (i := 1) (v := (.int .i64 B)) rfl ?_ ?_ ?_ ?_ (⟨_, hH⟩) ?_
             · exact ⟨fun s x y h r => ⟨_, h.choose_spec.rely r⟩, fun s a x y h r => wpI_rely h r⟩
             · kernel_rfl
             · kernel_rfl
             · kernel_rfl
             · refine .inl ⟨by rfl, fun s w hS => ⟨?_, ?_⟩⟩
               · obtain ⟨wq, hS⟩ := hS
                 obtain ⟨q0, q1, q2, q3, q4⟩ := hS.cells
                 have hrc := (hS.row _ _ hTt).1
                 go_simp
               · refine Does.still ?_
                 obtain ⟨wq, hS⟩ := hS
                 obtain ⟨q0, q1, q2, q3, q4⟩ := hS.cells
                 have hrc := (hS.row _ _ hTt).1
                 first | (intro e he; have hm := mem_listed he; (simp [go_sem, *] at hm) <;> (first | (rw [hm]; exact evO_cell rfl hS.mb) | (rcases hm with hm | hm <;> (rw [hm]; exact evO_cell rfl hS.mb)))) | (intro e he; have hm := mem_listed he; (simp [go_sem, *] at hm) <;> (first | (rw [hm]; exact evO_cell rfl hS.mg) | (rcases hm with hm | hm <;> (rw [hm]; exact evO_cell rfl hS.mg))))
             walk_nrm)
            (refine anyI_take ?_ (i := 2) (v := (.pointer (some ⟨b, 0, none⟩))) rfl ?_ ?_ ?_ ?_ (⟨_, hH⟩) ?_
             · exact ⟨fun s x y h r => ⟨_, h.choose_spec.rely r⟩, fun s a x y h r => wpI_rely h r⟩
             · kernel_rfl
             · kernel_rfl
             · kernel_rfl
             · refine .inl ⟨by rfl, fun s w hS => ⟨?_, ?_⟩⟩
               · obtain ⟨wq, hS⟩ := hS
                 obtain ⟨q0, q1, q2, q3, q4⟩ := hS.cells
                 have hrc := (hS.row _ _ hTt).1
                 go_simp
               · refine Does.still ?_
                 obtain ⟨wq, hS⟩ := hS
                 obtain ⟨q0, q1, q2, q3, q4⟩ := hS.cells
                 have hrc := (hS.row _ _ hTt).1
                 first | (intro e he; have hm := mem_listed he; (simp [go_sem, *] at hm) <;> (first | (rw [hm]; exact evO_cell rfl hS.mb) | (rcases hm with hm | hm <;> (rw [hm]; exact evO_cell rfl hS.mb)))) | (intro e he; have hm := mem_listed he; (simp [go_sem, *] at hm) <;> (first | (rw [hm]; exact evO_cell rfl hS.mg) | (rcases hm with hm | hm <;> (rw [hm]; exact evO_cell rfl hS.mg))))
             walk_nrm)
            (refine anyI_take ?_ (i := 3) (v := (.pointer (some ⟨b, 0, none⟩))) rfl ?_ ?_ ?_ ?_ (⟨_, hH⟩) ?_
             · exact ⟨fun s x y h r => ⟨_, h.choose_spec.rely r⟩, fun s a x y h r => wpI_rely h r⟩
             · kernel_rfl
             · kernel_rfl
             · kernel_rfl
             · refine .inl ⟨by rfl, fun s w hS => ⟨?_, ?_⟩⟩
               · obtain ⟨wq, hS⟩ := hS
                 obtain ⟨q0, q1, q2, q3, q4⟩ := hS.cells
                 have hrc := (hS.row _ _ hTt).1
                 go_simp
               · refine Does.still ?_
                 obtain ⟨wq, hS⟩ := hS
                 obtain ⟨q0, q1, q2, q3, q4⟩ := hS.cells
                 have hrc := (hS.row _ _ hTt).1
                 first | (intro e he; have hm := mem_listed he; (simp [go_sem, *] at hm) <;> (first | (rw [hm]; exact evO_cell rfl hS.mb) | (rcases hm with hm | hm <;> (rw [hm]; exact evO_cell rfl hS.mb)))) | (intro e he; have hm := mem_listed he; (simp [go_sem, *] at hm) <;> (first | (rw [hm]; exact evO_cell rfl hS.mg) | (rcases hm with hm | hm <;> (rw [hm]; exact evO_cell rfl hS.mg))))
             walk_nrm)
            (refine anyI_take ?_ (i := 4) (v := (.pointer (some ⟨b, 0, none⟩))) rfl ?_ ?_ ?_ ?_ (⟨_, hH⟩) ?_
             · exact ⟨fun s x y h r => ⟨_, h.choose_spec.rely r⟩, fun s a x y h r => wpI_rely h r⟩
             · kernel_rfl
             · kernel_rfl
             · kernel_rfl
             · refine .inl ⟨by rfl, fun s w hS => ⟨?_, ?_⟩⟩
               · obtain ⟨wq, hS⟩ := hS
                 obtain ⟨q0, q1, q2, q3, q4⟩ := hS.cells
                 have hrc := (hS.row _ _ hTt).1
                 go_simp
               · refine Does.still ?_
                 obtain ⟨wq, hS⟩ := hS
                 obtain ⟨q0, q1, q2, q3, q4⟩ := hS.cells
                 have hrc := (hS.row _ _ hTt).1
                 first | (intro e he; have hm := mem_listed he; (simp [go_sem, *] at hm) <;> (first | (rw [hm]; exact evO_cell rfl hS.mb) | (rcases hm with hm | hm <;> (rw [hm]; exact evO_cell rfl hS.mb)))) | (intro e he; have hm := mem_listed he; (simp [go_sem, *] at hm) <;> (first | (rw [hm]; exact evO_cell rfl hS.mg) | (rcases hm with hm | hm <;> (rw [hm]; exact evO_cell rfl hS.mg))))
             walk_nrm)
            (refine anyI_take ?_ (i := 5) (v := (.int .i64 n)) rfl ?_ ?_ ?_ ?_ (⟨_, hH⟩) ?_
             · exact ⟨fun s x y h r => ⟨_, h.choose_spec.rely r⟩, fun s a x y h r => wpI_rely h r⟩
             · kernel_rfl
             · kernel_rfl
             · kernel_rfl
             · refine .inl ⟨by rfl, fun s w hS => ⟨?_, ?_⟩⟩
               · obtain ⟨wq, hS⟩ := hS
                 obtain ⟨q0, q1, q2, q3, q4⟩ := hS.cells
                 have hrc := (hS.row _ _ hTt).1
                 go_simp
               · refine Does.still ?_
                 obtain ⟨wq, hS⟩ := hS
                 obtain ⟨q0, q1, q2, q3, q4⟩ := hS.cells
                 have hrc := (hS.row _ _ hTt).1
                 first | (intro e he; have hm := mem_listed he; (simp [go_sem, *] at hm) <;> (first | (rw [hm]; exact evO_cell rfl hS.mb) | (rcases hm with hm | hm <;> (rw [hm]; exact evO_cell rfl hS.mb)))) | (intro e he; have hm := mem_listed he; (simp [go_sem, *] at hm) <;> (first | (rw [hm]; exact evO_cell rfl hS.mg) | (rcases hm with hm | hm <;> (rw [hm]; exact evO_cell rfl hS.mg))))
             walk_nrm)
            (refine anyI_take ?_ (i := 6) (v := (.int .i64 p)) rfl ?_ ?_ ?_ ?_ (⟨_, hH⟩) ?_
             · exact ⟨fun s x y h r => ⟨_, h.choose_spec.rely r⟩, fun s a x y h r => wpI_rely h r⟩
             · kernel_rfl
             · kernel_rfl
             · kernel_rfl
             · refine .inl ⟨by rfl, fun s w hS => ⟨?_, ?_⟩⟩
               · obtain ⟨wq, hS⟩ := hS
                 obtain ⟨q0, q1, q2, q3, q4⟩ := hS.cells
                 have hrc := (hS.row _ _ hTt).1
                 go_simp
               · refine Does.still ?_
                 obtain ⟨wq, hS⟩ := hS
                 obtain ⟨q0, q1, q2, q3, q4⟩ := hS.cells
                 have hrc := (hS.row _ _ hTt).1
                 first | (intro e he; have hm := mem_listed he; (simp [go_sem, *] at hm) <;> (first | (rw [hm]; exact evO_cell rfl hS.mb) | (rcases hm with hm | hm <;> (rw [hm]; exact evO_cell rfl hS.mb)))) | (intro e he; have hm := mem_listed he; (simp [go_sem, *] at hm) <;> (first | (rw [hm]; exact evO_cell rfl hS.mg) | (rcases hm with hm | hm <;> (rw [hm]; exact evO_cell rfl hS.mg))))
             walk_nrm)
            (refine anyI_take ?_ (i := 9) (v := (.int .i64 C)) rfl ?_ ?_ ?_ ?_ (⟨_, hH⟩) ?_
             · exact ⟨fun s x y h r => ⟨_, h.choose_spec.rely r⟩, fun s a x y h r => wpI_rely h r⟩
             · kernel_rfl
             · kernel_rfl
             · kernel_rfl
             · refine .inl ⟨by rfl, fun s w hS => ⟨?_, ?_⟩⟩
               · obtain ⟨wq, hS⟩ := hS
                 obtain ⟨q0, q1, q2, q3, q4⟩ := hS.cells
                 have hrc := (hS.row _ _ hTt).1
                 go_simp
               · refine Does.still ?_
                 obtain ⟨wq, hS⟩ := hS
                 obtain ⟨q0, q1, q2, q3, q4⟩ := hS.cells
                 have hrc := (hS.row _ _ hTt).1
                 first | (intro e he; have hm := mem_listed he; (simp [go_sem, *] at hm) <;> (first | (rw [hm]; exact evO_cell rfl hS.mb) | (rcases hm with hm | hm <;> (rw [hm]; exact evO_cell rfl hS.mb)))) | (intro e he; have hm := mem_listed he; (simp [go_sem, *] at hm) <;> (first | (rw [hm]; exact evO_cell rfl hS.mg) | (rcases hm with hm | hm <;> (rw [hm]; exact evO_cell rfl hS.mg))))
             walk_nrm)
            (refine anyI_take ?_ (i := 10) (v := (.pointer (some ⟨b, 0, none⟩))) rfl ?_ ?_ ?_ ?_ (⟨_, hH⟩) ?_
             · exact ⟨fun s x y h r => ⟨_, h.choose_spec.rely r⟩, fun s a x y h r => wpI_rely h r⟩
             · kernel_rfl
             · kernel_rfl
             · kernel_rfl
             · refine .inl ⟨by rfl, fun s w hS => ⟨?_, ?_⟩⟩
               · obtain ⟨wq, hS⟩ := hS
                 obtain ⟨q0, q1, q2, q3, q4⟩ := hS.cells
                 have hrc := (hS.row _ _ hTt).1
                 go_simp
               · refine Does.still ?_
                 obtain ⟨wq, hS⟩ := hS
                 obtain ⟨q0, q1, q2, q3, q4⟩ := hS.cells
                 have hrc := (hS.row _ _ hTt).1
                 first | (intro e he; have hm := mem_listed he; (simp [go_sem, *] at hm) <;> (first | (rw [hm]; exact evO_cell rfl hS.mb) | (rcases hm with hm | hm <;> (rw [hm]; exact evO_cell rfl hS.mb)))) | (intro e he; have hm := mem_listed he; (simp [go_sem, *] at hm) <;> (first | (rw [hm]; exact evO_cell rfl hS.mg) | (rcases hm with hm | hm <;> (rw [hm]; exact evO_cell rfl hS.mg))))
             walk_nrm)
            (refine anyI_take ?_ (i := 11) (v := (.pointer (some ⟨b, 0, none⟩))) rfl ?_ ?_ ?_ ?_ (⟨_, hH⟩) ?_
             · exact ⟨fun s x y h r => ⟨_, h.choose_spec.rely r⟩, fun s a x y h r => wpI_rely h r⟩
             · kernel_rfl
             · kernel_rfl
             · kernel_rfl
             · refine .inl ⟨by rfl, fun s w hS => ⟨?_, ?_⟩⟩
               · obtain ⟨wq, hS⟩ := hS
                 obtain ⟨q0, q1, q2, q3, q4⟩ := hS.cells
                 have hrc := (hS.row _ _ hTt).1
                 go_simp
               · refine Does.still ?_
                 obtain ⟨wq, hS⟩ := hS
                 obtain ⟨q0, q1, q2, q3, q4⟩ := hS.cells
                 have hrc := (hS.row _ _ hTt).1
                 first | (intro e he; have hm := mem_listed he; (simp [go_sem, *] at hm) <;> (first | (rw [hm]; exact evO_cell rfl hS.mb) | (rcases hm with hm | hm <;> (rw [hm]; exact evO_cell rfl hS.mb)))) | (intro e he; have hm := mem_listed he; (simp [go_sem, *] at hm) <;> (first | (rw [hm]; exact evO_cell rfl hS.mg) | (rcases hm with hm | hm <;> (rw [hm]; exact evO_cell rfl hS.mg))))
             walk_nrm)
            (refine anyI_take ?_ (i := 12) (v := (.pointer (some ⟨b, 1, none⟩))) rfl ?_ ?_ ?_ ?_ (⟨_, hH⟩) ?_
             · exact ⟨fun s x y h r => ⟨_, h.choose_spec.rely r⟩, fun s a x y h r => wpI_rely h r⟩
             · kernel_rfl
             · kernel_rfl
             · kernel_rfl
             · refine .inl ⟨by rfl, fun s w hS => ⟨?_, ?_⟩⟩
               · obtain ⟨wq, hS⟩ := hS
                 obtain ⟨q0, q1, q2, q3, q4⟩ := hS.cells
                 have hrc := (hS.row _ _ hTt).1
                 go_simp
               · refine Does.still ?_
                 obtain ⟨wq, hS⟩ := hS
                 obtain ⟨q0, q1, q2, q3, q4⟩ := hS.cells
                 have hrc := (hS.row _ _ hTt).1
                 first | (intro e he; have hm := mem_listed he; (simp [go_sem, *] at hm) <;> (first | (rw [hm]; exact evO_cell rfl hS.mb) | (rcases hm with hm | hm <;> (rw [hm]; exact evO_cell rfl hS.mb)))) | (intro e he; have hm := mem_listed he; (simp [go_sem, *] at hm) <;> (first | (rw [hm]; exact evO_cell rfl hS.mg) | (rcases hm with hm | hm <;> (rw [hm]; exact evO_cell rfl hS.mg))))
             walk_nrm)
            (refine anyI_take ?_ (i := 13) (v := (.slice (some ⟨g, 0, none⟩) n tc)) rfl ?_ ?_ ?_ ?_ (⟨_, hH⟩) ?_
             · exact ⟨fun s x y h r => ⟨_, h.choose_spec.rely r⟩, fun s a x y h r => wpI_rely h r⟩
             · kernel_rfl
             · kernel_rfl
             · kernel_rfl
             · refine .inl ⟨by rfl, fun s w hS => ⟨?_, ?_⟩⟩
               · obtain ⟨wq, hS⟩ := hS
                 obtain ⟨q0, q1, q2, q3, q4⟩ := hS.cells
                 have hrc := (hS.row _ _ hTt).1
                 go_simp
               · refine Does.still ?_
                 obtain ⟨wq, hS⟩ := hS
                 obtain ⟨q0, q1, q2, q3, q4⟩ := hS.cells
                 have hrc := (hS.row _ _ hTt).1
                 first | (intro e he; have hm := mem_listed he; (simp [go_sem, *] at hm) <;> (first | (rw [hm]; exact evO_cell rfl hS.mb) | (rcases hm with hm | hm <;> (rw [hm]; exact evO_cell rfl hS.mb)))) | (intro e he; have hm := mem_listed he; (simp [go_sem, *] at hm) <;> (first | (rw [hm]; exact evO_cell rfl hS.mg) | (rcases hm with hm | hm <;> (rw [hm]; exact evO_cell rfl hS.mg))))
             walk_nrm)
            (refine anyI_take ?_ (i := 14) (v := (.int .i64 p)) rfl ?_ ?_ ?_ ?_ (⟨_, hH⟩) ?_
             · exact ⟨fun s x y h r => ⟨_, h.choose_spec.rely r⟩, fun s a x y h r => wpI_rely h r⟩
             · kernel_rfl
             · kernel_rfl
             · kernel_rfl
             · refine .inl ⟨by rfl, fun s w hS => ⟨?_, ?_⟩⟩
               · obtain ⟨wq, hS⟩ := hS
                 obtain ⟨q0, q1, q2, q3, q4⟩ := hS.cells
                 have hrc := (hS.row _ _ hTt).1
                 go_simp
               · refine Does.still ?_
                 obtain ⟨wq, hS⟩ := hS
                 obtain ⟨q0, q1, q2, q3, q4⟩ := hS.cells
                 have hrc := (hS.row _ _ hTt).1
                 first | (intro e he; have hm := mem_listed he; (simp [go_sem, *] at hm) <;> (first | (rw [hm]; exact evO_cell rfl hS.mb) | (rcases hm with hm | hm <;> (rw [hm]; exact evO_cell rfl hS.mb)))) | (intro e he; have hm := mem_listed he; (simp [go_sem, *] at hm) <;> (first | (rw [hm]; exact evO_cell rfl hS.mg) | (rcases hm with hm | hm <;> (rw [hm]; exact evO_cell rfl hS.mg))))
             walk_nrm)
            (refine anyI_take ?_ (i := 15) (v := (.pointer (some ⟨g, p, none⟩))) rfl ?_ ?_ ?_ ?_ (⟨_, hH⟩) ?_
             · exact ⟨fun s x y h r => ⟨_, h.choose_spec.rely r⟩, fun s a x y h r => wpI_rely h r⟩
             · kernel_rfl
             · kernel_rfl
             · kernel_rfl
             · refine .inl ⟨by rfl, fun s w hS => ⟨?_, ?_⟩⟩
               · obtain ⟨wq, hS⟩ := hS
                 obtain ⟨q0, q1, q2, q3, q4⟩ := hS.cells
                 have hrc := (hS.row _ _ hTt).1
                 go_simp
               · refine Does.still ?_
                 obtain ⟨wq, hS⟩ := hS
                 obtain ⟨q0, q1, q2, q3, q4⟩ := hS.cells
                 have hrc := (hS.row _ _ hTt).1
                 first | (intro e he; have hm := mem_listed he; (simp [go_sem, *] at hm) <;> (first | (rw [hm]; exact evO_cell rfl hS.mb) | (rcases hm with hm | hm <;> (rw [hm]; exact evO_cell rfl hS.mb)))) | (intro e he; have hm := mem_listed he; (simp [go_sem, *] at hm) <;> (first | (rw [hm]; exact evO_cell rfl hS.mg) | (rcases hm with hm | hm <;> (rw [hm]; exact evO_cell rfl hS.mg))))
             walk_nrm)
            (refine anyI_take ?_ (i := 16) (v := (.int .i64 t)) rfl ?_ ?_ ?_ ?_ (⟨_, hH⟩) ?_
             · exact ⟨fun s x y h r => ⟨_, h.choose_spec.rely r⟩, fun s a x y h r => wpI_rely h r⟩
             · kernel_rfl
             · kernel_rfl
             · kernel_rfl
             · refine .inl ⟨by rfl, fun s w hS => ⟨?_, ?_⟩⟩
               · obtain ⟨wq, hS⟩ := hS
                 obtain ⟨q0, q1, q2, q3, q4⟩ := hS.cells
                 have hrc := (hS.row _ _ hTt).1
                 go_simp
               · refine Does.still ?_
                 obtain ⟨wq, hS⟩ := hS
                 obtain ⟨q0, q1, q2, q3, q4⟩ := hS.cells
                 have hrc := (hS.row _ _ hTt).1
                 first | (intro e he; have hm := mem_listed he; (simp [go_sem, *] at hm) <;> (first | (rw [hm]; exact evO_cell rfl hS.mb) | (rcases hm with hm | hm <;> (rw [hm]; exact evO_cell rfl hS.mb)))) | (intro e he; have hm := mem_listed he; (simp [go_sem, *] at hm) <;> (first | (rw [hm]; exact evO_cell rfl hS.mg) | (rcases hm with hm | hm <;> (rw [hm]; exact evO_cell rfl hS.mg))))
             walk_nrm)
            (refine anyI_take ?_ (i := 17) (v := (.int .i64 ((C ||| t : Nat) : Int))) rfl ?_ ?_ ?_ ?_ (⟨_, hH⟩) ?_
             · exact ⟨fun s x y h r => ⟨_, h.choose_spec.rely r⟩, fun s a x y h r => wpI_rely h r⟩
             · kernel_rfl
             · kernel_rfl
             · kernel_rfl
             · refine .inl ⟨by rfl, fun s w hS => ⟨?_, ?_⟩⟩
               · obtain ⟨wq, hS⟩ := hS
                 obtain ⟨q0, q1, q2, q3, q4⟩ := hS.cells
                 have hrc := (hS.row _ _ hTt).1
                 go_simp
               · refine Does.still ?_
                 obtain ⟨wq, hS⟩ := hS
                 obtain ⟨q0, q1, q2, q3, q4⟩ := hS.cells
                 have hrc := (hS.row _ _ hTt).1
                 first | (intro e he; have hm := mem_listed he; (simp [go_sem, *] at hm) <;> (first | (rw [hm]; exact evO_cell rfl hS.mb) | (rcases hm with hm | hm <;> (rw [hm]; exact evO_cell rfl hS.mb)))) | (intro e he; have hm := mem_listed he; (simp [go_sem, *] at hm) <;> (first | (rw [hm]; exact evO_cell rfl hS.mg) | (rcases hm with hm | hm <;> (rw [hm]; exact evO_cell rfl hS.mg))))
             walk_nrm)
            (refine anyI_take ?_ (i := 18) (v := (.int .i64 p)) rfl ?_ ?_ ?_ ?_ (⟨_, hH⟩) ?_
             · exact ⟨fun s x y h r => ⟨_, h.choose_spec.rely r⟩, fun s a x y h r => wpI_rely h r⟩
             · kernel_rfl
             · kernel_rfl
             · kernel_rfl
             · refine .inl ⟨by rfl, fun s w hS => ⟨?_, ?_⟩⟩
               · obtain ⟨wq, hS⟩ := hS
                 obtain ⟨q0, q1, q2, q3, q4⟩ := hS.cells
                 have hrc := (hS.row _ _ hTt).1
                 go_simp
               · refine Does.still ?_
                 obtain ⟨wq, hS⟩ := hS
                 obtain ⟨q0, q1, q2, q3, q4⟩ := hS.cells
                 have hrc := (hS.row _ _ hTt).1
                 first | (intro e he; have hm := mem_listed he; (simp [go_sem, *] at hm) <;> (first | (rw [hm]; exact evO_cell rfl hS.mb) | (rcases hm with hm | hm <;> (rw [hm]; exact evO_cell rfl hS.mb)))) | (intro e he; have hm := mem_listed he; (simp [go_sem, *] at hm) <;> (first | (rw [hm]; exact evO_cell rfl hS.mg) | (rcases hm with hm | hm <;> (rw [hm]; exact evO_cell rfl hS.mg))))
             walk_nrm)
            (refine anyI_take ?_ (i := 19) (v := (.int .i64 ((p : Int) + 1))) rfl ?_ ?_ ?_ ?_ (⟨_, hH⟩) ?_
             · exact ⟨fun s x y h r => ⟨_, h.choose_spec.rely r⟩, fun s a x y h r => wpI_rely h r⟩
             · kernel_rfl
             · kernel_rfl
             · kernel_rfl
             · refine .inl ⟨by rfl, fun s w hS => ⟨?_, ?_⟩⟩
               · obtain ⟨wq, hS⟩ := hS
                 obtain ⟨q0, q1, q2, q3, q4⟩ := hS.cells
                 have hrc := (hS.row _ _ hTt).1
                 go_simp
               · refine Does.still ?_
                 obtain ⟨wq, hS⟩ := hS
                 obtain ⟨q0, q1, q2, q3, q4⟩ := hS.cells
                 have hrc := (hS.row _ _ hTt).1
                 first | (intro e he; have hm := mem_listed he; (simp [go_sem, *] at hm) <;> (first | (rw [hm]; exact evO_cell rfl hS.mb) | (rcases hm with hm | hm <;> (rw [hm]; exact evO_cell rfl hS.mb)))) | (intro e he; have hm := mem_listed he; (simp [go_sem, *] at hm) <;> (first | (rw [hm]; exact evO_cell rfl hS.mg) | (rcases hm with hm | hm <;> (rw [hm]; exact evO_cell rfl hS.mg))))
             walk_nrm)
            obtain ⟨q, hq⟩ : ∃ q, 2 ^ (n - 1 - p) = q := ⟨_, rfl⟩
            have hq2 : q < 16777216 := by
              rw [← hq]
              exact Nat.lt_of_lt_of_le (Nat.pow_lt_pow_right (by omega) (show n - 1 - p < 24 by omega)) (Nat.le_refl _)
            refine anyI_one (i := 7) rfl (by kernel_rfl) (.call (by rfl) _ _ _ (fun v s₂ w₂ => v = .int .i64 (q : Int) ∧ s₂ = s₃ ∧ SinceI (dealB (RepR n)) s₃ _ w₂) rfl (by walk_nrm; rw [← hq]; exact pbit_c n p hn.2 hpn s₃ _) fun v s₄ w₆ hp => ?_)
            obtain ⟨rfl, rfl, hsi⟩ := hp
            have hH : Hold n (turnsN n xs) b g tc c wp s₄ w₆ := hsi.elim (fun e => e ▸ hH) fun x => hH.rely x
            clear hsi
            refine ⟨⟨_, hH⟩, ?_⟩
            walk_nrm
            have hv2 := or_i64 B q (by omega) hq2
            (refine anyI_take ?_ (i := 8) (v := (.int .i64 ((B ||| q : Nat) : Int))) rfl ?_ ?_ ?_ ?_ (⟨_, hH⟩) ?_
             · exact ⟨fun s x y h r => ⟨_, h.choose_spec.rely r⟩, fun s a x y h r => wpI_rely h r⟩
             · kernel_rfl
             · kernel_rfl
             · kernel_rfl
             · refine .inl ⟨by rfl, fun s w hS => ⟨?_, ?_⟩⟩
               · obtain ⟨wq, hS⟩ := hS
                 obtain ⟨q0, q1, q2, q3, q4⟩ := hS.cells
                 have hrc := (hS.row _ _ hTt).1
                 go_simp
               · refine Does.still ?_
                 obtain ⟨wq, hS⟩ := hS
                 obtain ⟨q0, q1, q2, q3, q4⟩ := hS.cells
                 have hrc := (hS.row _ _ hTt).1
                 first | (intro e he; have hm := mem_listed he; (simp [go_sem, *] at hm) <;> (first | (rw [hm]; exact evO_cell rfl hS.mb) | (rcases hm with hm | hm <;> (rw [hm]; exact evO_cell rfl hS.mb)))) | (intro e he; have hm := mem_listed he; (simp [go_sem, *] at hm) <;> (first | (rw [hm]; exact evO_cell rfl hS.mg) | (rcases hm with hm | hm <;> (rw [hm]; exact evO_cell rfl hS.mg))))
             walk_nrm)
            have e1 : mkN n (bs ++ [(p : Int)]) = B ||| q := by rw [mkN_snoc, HB.out, Int.toNat_natCast, hq]
            have e2 : covN n xs (bs ++ [(p : Int)]) = C ||| t := by rw [cov_snoc hn.1, HC.out, HT2.out]
            have e3 : ((n - M : Nat) : Int) = (p : Int) + 1 := by omega
            have hok : Ok n (bs ++ [(p : Int)]) := by
              refine ok_of (by omega) (by omega) ?_ fun z hz => ?_
              · rw [List.pairwise_append]
                refine ⟨ok_sorted HS.out, List.pairwise_singleton _ _, fun x hx y hy => ?_⟩
                rw [List.mem_singleton] at hy
                have := HT.out x hx
                have := HN.out
                omega
              · rw [List.mem_append, List.mem_singleton] at hz
                rcases hz with hz | hz
                · exact ok_range HS.out z hz
                · omega
            have hlow : ∀ x ∈ bs ++ [(p : Int)], x < (n : Int) - M := by
              intro x hx
              rw [List.mem_append, List.mem_singleton] at hx
              rcases hx with hx | hx
              · have := HT.out x hx
                omega
              · omega
            have hdir : dirC n xs (bs ++ [(p : Int)]) := (fit_iff HO.out HD.out p).1 (by rw [HC.out, HT2.out]; exact HFit.out)
            have hrem' : s₄.rem = (extL n xs M (bs ++ [(p : Int)])).take wp ++ ((extL n xs M bs).take (wp - (extL n xs M (bs ++ [(p : Int)])).length) ++ rest) := by
              rw [HR.out, hM, ext_fit hMp, List.take_append, List.append_assoc]
            have hcall := IH.out M hMn (bs ++ [(p : Int)]) wp _ s₄ _ (by omega) hok hlow hdir hz1 hwp hH hrem'
            rw [e1, e2, e3] at hcall
            refine anyI_one (i := 20) rfl (by kernel_rfl) (.call (by rfl) _ _ _ _ rfl (by walk_nrm; exact hcall) fun v s₅ w₇ hp => ?_)
            obtain ⟨rfl, hH2, hrem2⟩ := hp
            refine ⟨⟨_, hH2⟩, ?_⟩
            walk_nrm
            refine anyI_done (by kernel_rfl) ?_ _
            clear hcall hH hrem' hdir hlow hok e1 e2 e3
            (simp only [thenI, inBlockI, if_true, if_false, reduceIte, Nat.reduceEqDiff])
            have hwq : wp - (extL n xs M (bs ++ [(p : Int)])).length < 9223372036854775808 := by omega
            have hl2 : wp - (extL n xs M (bs ++ [(p : Int)])).length - (extL n xs M bs).length = wn - (extL n xs m bs).length := by
              have := HL.out
              rw [hM, ext_fit hMp, List.length_append] at this
              omega
            have hMq : n - (p + 1) = M := by omega
            (repeat (first | (refine wpI_region ?_; simp only [List.size_toArray, List.length_cons, List.length_nil, Nat.reduceAdd, Nat.zero_add, List.range, List.range.loop]) | (refine opsI_cons_k rfl (by rfl) ?_
                                                                                                                                                                                   intro _ hRq Kq hKq
                                                                                                                                                                                   replace hH2 := (Hold.rely) hH2 hRq
                                                                                                                                                                                   clear hRq
                                                                                                                                                                                   (skip)
                                                                                                                                                                                   go_simp
                                                                                                                                                                                   refine hKq _ _ ⟨s₅, ?_, ?_⟩
                                                                                                                                                                                   · (refine Does.still ?_; (intro e he; have hm := mem_listed he; (simp [go_sem, *] at hm) <;> (first | (rw [hm]; exact evO_cell rfl hH2.mb) | (rcases hm with hm | hm <;> (rw [hm]; exact evO_cell rfl hH2.mb)))))
                                                                                                                                                                                   clear hKq Kq
                                                                                                                                                                                   try walk_nrm
                                                                                                                                                                                   repeat (rw [IntWalk.i64_in _ ⟨by omega, by omega⟩])) | ((first | refine wpI_seq ?_ | refine wpI_block ?_ | refine wpI_skip ?_ | refine wpI_label ?_ | refine wpI_ret ?_ | refine wpI_exit ?_ | refine opsI_nil ?_); try (simp only [thenI, inBlockI, if_true, if_false, reduceIte, Nat.reduceEqDiff])) | (refine wpI_cond (by exact rfl) ?_; simp only [if_true, if_false, reduceIte, Bool.false_eq_true])))
            exact ⟨⟨p + 1, wp - (extL n xs M (bs ++ [(p : Int)])).length, _, _, _, _, _, _, _, _, _, _, _, _, _, _, _, _, _, _, _, _, _, _, _, _, _, _, _, _, _, _, _, _, _, _, _, _, _, _, _, _, _, _, _, _, by omega, by omega, hwq, hH2, by rw [hMq]; exact hrem2, by rw [hMq]; exact hl2, rfl⟩, by show n + 1 - ((p : Int) + 1).toNat < n + 1 - (p : Int).toNat; omega⟩
          · have hzb : (((C &&& t : Nat) : Int) == 0) = false := by simp; omega
            have HFit := Lib.hid hfit
            clear hfit
            (repeat (first | (refine wpI_region ?_; simp only [List.size_toArray, List.length_cons, List.length_nil, Nat.reduceAdd, Nat.zero_add, List.range, List.range.loop]) | (refine opsI_cons_k rfl (by rfl) ?_
                                                                                                                                                                                   intro _ hRq Kq hKq
                                                                                                                                                                                   replace hH := (Hold.rely) hH hRq
                                                                                                                                                                                   clear hRq
                                                                                                                                                                                   (obtain ⟨q0, q1, q2, q3, q4⟩ := hH.cells; have hrc := (hH.row _ _ hTt).1)
                                                                                                                                                                                   go_simp
                                                                                                                                                                                   refine hKq _ _ ⟨s₃, ?_, ?_⟩
                                                                                                                                                                                   · (refine Does.still ?_; first | (intro e he; have hm := mem_listed he; (simp [go_sem, *] at hm) <;> (first | (rw [hm]; exact evO_cell rfl hH.mb) | (rcases hm with hm | hm <;> (rw [hm]; exact evO_cell rfl hH.mb)))) | (intro e he; have hm := mem_listed he; (simp [go_sem, *] at hm) <;> (first | (rw [hm]; exact evO_cell rfl hH.mg) | (rcases hm with hm | hm <;> (rw [hm]; exact evO_cell rfl hH.mg)))))
                                                                                                                                                                                   clear hKq Kq
                                                                                                                                                                                   try walk_nrm
                                                                                                                                                                                   repeat (rw [IntWalk.i64_in _ ⟨by omega, by omega⟩])) | ((first | refine wpI_seq ?_ | refine wpI_block ?_ | refine wpI_skip ?_ | refine wpI_label ?_ | refine wpI_ret ?_ | refine wpI_exit ?_ | refine opsI_nil ?_); try (simp only [thenI, inBlockI, if_true, if_false, reduceIte, Nat.reduceEqDiff])) | (refine wpI_cond (by exact rfl) ?_; simp only [if_true, if_false, reduceIte, Bool.false_eq_true])))
            have he : extL n xs (n - p) bs = extL n xs (n - (p + 1)) bs := by
              rw [hM, show n - (p + 1) = M by omega]
              exact ext_not HO.out hMp HD.out (by rw [HC.out, HT2.out]; exact HFit.out)
            exact ⟨⟨p + 1, wp, _, _, _, _, _, _, _, _, _, _, _, _, _, _, _, _, _, _, _, _, _, _, _, _, _, _, _, _, _, _, _, _, _, _, _, _, _, _, _, _, _, _, _, _, by omega, by omega, hwp, hH, by rw [← he]; exact HR.out, by rw [← he]; exact HL.out, rfl⟩, by show n + 1 - ((p : Int) + 1).toNat < n + 1 - (p : Int).toNat; omega⟩
        · have hdec : decide (reachN C ((turnsN n xs).drop p) C = 2 ^ n - 1) = false := by simpa using hmay
          rw [hdec]
          have hnil : extL n xs (n - p) bs = [] := may_no HO.out (by omega) HD.out (by rw [HC.out, show n - (n - p) = p by omega]; exact hmay)
          have HN2 := Lib.hid hnil
          clear hmay hdec hnil
          (repeat (first | (refine wpI_region ?_; simp only [List.size_toArray, List.length_cons, List.length_nil, Nat.reduceAdd, Nat.zero_add, List.range, List.range.loop]) | (refine opsI_cons_k rfl (by rfl) ?_
                                                                                                                                                                                 intro _ hRq Kq hKq
                                                                                                                                                                                 replace hH := (Hold.rely) hH hRq
                                                                                                                                                                                 clear hRq
                                                                                                                                                                                 (skip)
                                                                                                                                                                                 go_simp
                                                                                                                                                                                 refine hKq _ _ ⟨s₃, ?_, ?_⟩
                                                                                                                                                                                 · (refine Does.still ?_; (intro e he; have hm := mem_listed he; (simp [go_sem, *] at hm) <;> (first | (rw [hm]; exact evO_cell rfl hH.mb) | (rcases hm with hm | hm <;> (rw [hm]; exact evO_cell rfl hH.mb)))))
                                                                                                                                                                                 clear hKq Kq
                                                                                                                                                                                 try walk_nrm
                                                                                                                                                                                 repeat (rw [IntWalk.i64_in _ ⟨by omega, by omega⟩])) | ((first | refine wpI_seq ?_ | refine wpI_block ?_ | refine wpI_skip ?_ | refine wpI_label ?_ | refine wpI_ret ?_ | refine wpI_exit ?_ | refine opsI_nil ?_); try (simp only [thenI, inBlockI, if_true, if_false, reduceIte, Nat.reduceEqDiff])) | (refine wpI_cond (by exact rfl) ?_; simp only [if_true, if_false, reduceIte, Bool.false_eq_true])))
          refine ⟨rfl, .tuple #[], ResI.of (resultsC_none (by rfl) _), rfl, ?_, by rw [HR.out, HN2.out]; simp⟩
          have := HL.out
          rw [HN2.out] at this
          rw [← this]
          simpa using hH
end
end Go.Proofs.Ytgmhdmhnedljcaa.Co

/-
  Helpers of the claims beside this text: the worker's walk in company, till it closes the channel.
-/
namespace Go.Proofs.Ytgmhdmhnedljcaa.Co
open Go Go.Conc Go.RowKit Rhy
set_option linter.unusedVariables false
set_option linter.unusedSimpArgs false

section
variable {c : Nat} {n : Nat} {xs : List Int}
/-- One operation that yields something and turns nothing. -/
theorem goI_val {S : Type} {P : Program} {main : Bool} {T : Deal S} {Stop : S → Goroutine → World → Prop} {s : S} {w : World} {b : Frame} {a : Act} {k : List Item} {cs : List Frame} {ops : Array Oper} {i : Nat} {rest : List Nat} {o : Oper} (v : Value)
    (ho : ops[i]? = some o) (hw : Region.wanted o (yielded ops a.tmps) = true) (hk : b.kind ≠ .early) (h : ∀ w₁, T.R s w w₁ → (execOp a.eval o).run P w₁ = .ok (.value v) w₁ ∧ T.D s w₁ w₁ (listed P b.fn a o w₁) s)
    (hn : GoI P main c T Stop s (G (b.at (a.put o.dst v) (.inRegion ops rest :: k)) cs) w) : GoI P main c T Stop s (G (b.at a (.inRegion ops (i :: rest) :: k)) cs) w :=
  GoI.of_goes rfl fun w₁ h₁ => goes_oper ho hw hk (by
    rw [(h w₁ h₁).1]
    exact fun _ => ⟨s, (h w₁ h₁).2, hn.rely h₁⟩)
/-- It stands at the closing. -/
theorem atClose_of {P : Program} {s : Gh} {w : World} {b : Frame} {a : Act} {k : List Item} {cs : List Frame} {ops : Array Oper} {i : Nat} {rest : List Nat} {o : Oper} {ch m : Nat} (v : Value) (es : Array Event)
    (ho : ops[i]? = some o) (hw : Region.wanted o (yielded ops a.tmps) = true) (hk : b.kind ≠ .early) (hm : mayWake P (G (b.at a (.inRegion ops (i :: rest) :: k)) cs) = true) (hrem : s.rem = [])
    (hr : ∀ x r tm, w.heap[ch]? = some (.chan 0 #[] false x r tm) → (execOp a.eval o).run P w = .ok (.value v) (w.setChan ch 0 #[] true x r tm) ∧ listed P b.fn a o w = es.push ⟨.obj ch, true, true⟩)
    (hes : ∀ e ∈ es, EvP (fun b => s.own b ∨ b = ch) e) (hq : QuitsD P m 0 (G (b.at (a.put o.dst v) (.inRegion ops rest :: k)) cs)) : AtClose P ch s (G (b.at a (.inRegion ops (i :: rest) :: k)) cs) w :=
  ⟨rfl, hm, hrem, _, m, es, fun x r tm hx => by rw [stepG_value ho hw hk (hr x r tm hx).1, (hr x r tm hx).2], hes, hq⟩
/-- A goroutine that enters a function. -/
def RunsI (P : Program) (c : Nat) (T : Deal Gh) (Stop : Gh → Goroutine → World → Prop) (f : FuncId) (args : Array Value) (cs : List Frame) (s : Gh) (w : World) : Prop :=
  ∃ fd x, P.funcs[f]? = some fd ∧ fd.body = some x ∧ GoI P false c T Stop s (G ((baseD f).at { tmps := args ++ Array.replicate (fd.ntmps - args.size) undef, defers := [] } [.code x]) cs) w
theorem runsI_of {P : Program} {T : Deal Gh} {Stop : Gh → Goroutine → World → Prop} {f : FuncId} {fd : Func} {x : Code} {args : Array Value} {cs : List Frame} {s : Gh} {w : World} (hf : P.funcs[f]? = some fd) (hb : fd.body = some x)
    (h : GoI P false c T Stop s (G ((baseD f).at { tmps := args ++ Array.replicate (fd.ntmps - args.size) undef, defers := [] } [.code x]) cs) w) : RunsI P c T Stop f args cs s w := ⟨fd, x, hf, hb, h⟩

/-- The frame below all others of a goroutine. -/
noncomputable def botF (P : Program) : Frame := { (default : Frame) with fn := P.funcs.size, defers := [], mode := .panicking [goexitEntry] }
theorem quits_tail (T : Array Value) : QuitsD Try.prog 2 0 (G { (baseD 33).at { tmps := T, defers := [] } [] with mode := .returning } [botF Try.prog]) := by
  refine QuitsD.ctl (g' := G (botF Try.prog) []) rfl (fun w => ?_) ?_
  · simp [G, stepG, unwind, doReturn, results, Frame.at, baseD, botF, Try.func33, Try.f33, seen, GStep.after, goexitEntry]
  refine QuitsD.ctl (g' := { G (botF Try.prog) [] with status := .finished }) rfl (fun w => ?_) ⟨rfl, rfl⟩
  simp [G, stepG, unwind, botF, goexitEntry, Frame.catches]
  rfl
set_option maxHeartbeats 4000000 in
set_option maxRecDepth 100000 in
theorem run_c (ho : Ok n xs) (b g tc : Nat) (hcap : n ≤ tc) (hcm : tc ≤ 9223372036854775807) (wn : Nat) (s : Gh) (w : World) (hw1 : 1 ≤ wn) (hw2 : wn < 9223372036854775808)
    (hH : Hold n (turnsN n xs) b g tc c wn s w) (hrem : s.rem = (partL n xs).take wn) :
    RunsI Try.prog c (dealB (RepR n)) (AtClose Try.prog c) 33 #[.pointer (some ⟨b, 0, none⟩)] [botF Try.prog] s w := by
  have hn : 1 ≤ n ∧ n ≤ 24 := by have := ho.1; omega
  have hn0 : 0 < n := by omega
  have hn1 : (0 : Int) < (n : Int) := by omega
  refine runsI_of Try.func33 (by rfl) ?_
  simp only [Try.ntmps33, List.size_toArray, List.length_cons, List.length_nil, Nat.reduceAdd, Nat.reduceSub, Array.replicate_succ, Array.replicate_zero, List.push_toArray, List.append_toArray, List.nil_append, List.cons_append]
  have HO := Lib.hid ho
  have HR := Lib.hid hrem
  clear ho hrem
  refine GoI.still rfl (fun _ => stepG_seq) ?_
  obtain ⟨t, ht⟩ : ∃ t, trnN n xs 0 = t := ⟨_, rfl⟩
  have hTt : (turnsN n xs)[0]? = some t := by rw [turns_at (by omega), ht]
  have htl := (hH.row _ _ hTt).2
  obtain ⟨q, hq1⟩ : ∃ q, 2 ^ (n - 1) = q := ⟨_, rfl⟩
  refine (?_ : wpI Try.prog false c (dealB (RepR n)) 33 _ (thenI (fun s' a' w' => ∃ (wq : Nat) (u2 u3 u4 u5 u6 u7 u8 u9 u10 u11 u12 u13 u14 : Value), Hold n (turnsN n xs) b g tc c wq s' w' ∧ s'.rem = [] ∧
      a' = { tmps := #[.pointer (some ⟨b, 0, none⟩), undef, u2, u3, u4, u5, u6, u7, u8, u9, u10, u11, u12, u13, u14, undef, undef, undef, undef], defers := [] }) (fun _ _ _ _ => False)) s _ w) (baseD 33) _ [botF Try.prog] _ rfl (by simp [baseD]) ?_
  · refine wpI_region_held (St := fun s w => ∃ wq, Hold n (turnsN n xs) b g tc c wq s w) (fun w => ⟨own_same s w, rfl, rfl, rfl, rfl, rfl, rfl, Nat.le_refl _, fun _ _ _ => rfl, by simp⟩) (by rfl) (fun w₄ h₄ => ?_)
    have hH := (hH.rely h₄).rely (w₁ := { w₄ with drawn := w₄.drawn + 1 }) ⟨rfl, rfl, rfl, Nat.le_refl _, fun _ _ => rfl⟩
    generalize ({ w₄ with drawn := w₄.drawn + 1 } : World) = w₅ at hH ⊢
    clear h₄
    simp only [List.size_toArray, List.length_cons, List.length_nil, Nat.reduceAdd, Nat.zero_add, Array.replicate_succ, Array.replicate_zero, List.push_toArray, List.append_toArray, List.nil_append, List.cons_append]
    (refine anyI_take ?_ (i := 0) (v := (.pointer (some ⟨b, 0, none⟩))) rfl ?_ ?_ ?_ ?_ (⟨_, hH⟩) ?_
     · refine ⟨fun s x y h r => ⟨_, h.choose_spec.rely r⟩, fun s a x y h r => ?_⟩
       obtain ⟨wq, u2, u3, u4, u5, u6, u7, u8, u9, u10, u11, u12, u13, u14, h1, h2, h3⟩ := h
       exact ⟨wq, u2, u3, u4, u5, u6, u7, u8, u9, u10, u11, u12, u13, u14, h1.rely r, h2, h3⟩
     · kernel_rfl
     · kernel_rfl
     · kernel_rfl
     · refine .inl ⟨by rfl, fun s w hS => ⟨?_, ?_⟩⟩
       · obtain ⟨wq, hS⟩ := hS
         obtain ⟨q0, q1, q2, q3, q4⟩ := hS.cells
         have hrc := (hS.row _ _ hTt).1
         go_simp
       · refine Does.still ?_
         obtain ⟨wq, hS⟩ := hS
         obtain ⟨q0, q1, q2, q3, q4⟩ := hS.cells
         have hrc := (hS.row _ _ hTt).1
         first | (intro e he; have hm := mem_listed he; (simp [go_sem, *] at hm) <;> (first | (rw [hm]; exact evO_cell rfl hS.mb) | (rcases hm with hm | hm <;> (rw [hm]; exact evO_cell rfl hS.mb)))) | (intro e he; have hm := mem_listed he; (simp [go_sem, *] at hm) <;> (first | (rw [hm]; exact evO_cell rfl hS.mg) | (rcases hm with hm | hm <;> (rw [hm]; exact evO_cell rfl hS.mg))))
     walk_nrm)
    (refine anyI_take ?_ (i := 1) (v := (.pointer (some ⟨b, 0, none⟩))) rfl ?_ ?_ ?_ ?_ (⟨_, hH⟩) ?_
     · refine ⟨fun s x y h r => ⟨_, h.choose_spec.rely r⟩, fun s a x y h r => ?_⟩
       obtain ⟨wq, u2, u3, u4, u5, u6, u7, u8, u9, u10, u11, u12, u13, u14, h1, h2, h3⟩ := h
       exact ⟨wq, u2, u3, u4, u5, u6, u7, u8, u9, u10, u11, u12, u13, u14, h1.rely r, h2, h3⟩
     · kernel_rfl
     · kernel_rfl
     · kernel_rfl
     · refine .inl ⟨by rfl, fun s w hS => ⟨?_, ?_⟩⟩
       · obtain ⟨wq, hS⟩ := hS
         obtain ⟨q0, q1, q2, q3, q4⟩ := hS.cells
         have hrc := (hS.row _ _ hTt).1
         go_simp
       · refine Does.still ?_
         obtain ⟨wq, hS⟩ := hS
         obtain ⟨q0, q1, q2, q3, q4⟩ := hS.cells
         have hrc := (hS.row _ _ hTt).1
         first | (intro e he; have hm := mem_listed he; (simp [go_sem, *] at hm) <;> (first | (rw [hm]; exact evO_cell rfl hS.mb) | (rcases hm with hm | hm <;> (rw [hm]; exact evO_cell rfl hS.mb)))) | (intro e he; have hm := mem_listed he; (simp [go_sem, *] at hm) <;> (first | (rw [hm]; exact evO_cell rfl hS.mg) | (rcases hm with hm | hm <;> (rw [hm]; exact evO_cell rfl hS.mg))))
     walk_nrm)
    (refine anyI_take ?_ (i := 2) (v := (.pointer (some ⟨b, 0, none⟩))) rfl ?_ ?_ ?_ ?_ (⟨_, hH⟩) ?_
     · refine ⟨fun s x y h r => ⟨_, h.choose_spec.rely r⟩, fun s a x y h r => ?_⟩
       obtain ⟨wq, u2, u3, u4, u5, u6, u7, u8, u9, u10, u11, u12, u13, u14, h1, h2, h3⟩ := h
       exact ⟨wq, u2, u3, u4, u5, u6, u7, u8, u9, u10, u11, u12, u13, u14, h1.rely r, h2, h3⟩
     · kernel_rfl
     · kernel_rfl
     · kernel_rfl
     · refine .inl ⟨by rfl, fun s w hS => ⟨?_, ?_⟩⟩
       · obtain ⟨wq, hS⟩ := hS
         obtain ⟨q0, q1, q2, q3, q4⟩ := hS.cells
         have hrc := (hS.row _ _ hTt).1
         go_simp
       · refine Does.still ?_
         obtain ⟨wq, hS⟩ := hS
         obtain ⟨q0, q1, q2, q3, q4⟩ := hS.cells
         have hrc := (hS.row _ _ hTt).1
         first | (intro e he; have hm := mem_listed he; (simp [go_sem, *] at hm) <;> (first | (rw [hm]; exact evO_cell rfl hS.mb) | (rcases hm with hm | hm <;> (rw [hm]; exact evO_cell rfl hS.mb)))) | (intro e he; have hm := mem_listed he; (simp [go_sem, *] at hm) <;> (first | (rw [hm]; exact evO_cell rfl hS.mg) | (rcases hm with hm | hm <;> (rw [hm]; exact evO_cell rfl hS.mg))))
     walk_nrm)
    (refine anyI_take ?_ (i := 3) (v := (.pointer (some ⟨b, 0, none⟩))) rfl ?_ ?_ ?_ ?_ (⟨_, hH⟩) ?_
     · refine ⟨fun s x y h r => ⟨_, h.choose_spec.rely r⟩, fun s a x y h r => ?_⟩
       obtain ⟨wq, u2, u3, u4, u5, u6, u7, u8, u9, u10, u11, u12, u13, u14, h1, h2, h3⟩ := h
       exact ⟨wq, u2, u3, u4, u5, u6, u7, u8, u9, u10, u11, u12, u13, u14, h1.rely r, h2, h3⟩
     · kernel_rfl
     · kernel_rfl
     · kernel_rfl
     · refine .inl ⟨by rfl, fun s w hS => ⟨?_, ?_⟩⟩
       · obtain ⟨wq, hS⟩ := hS
         obtain ⟨q0, q1, q2, q3, q4⟩ := hS.cells
         have hrc := (hS.row _ _ hTt).1
         go_simp
       · refine Does.still ?_
         obtain ⟨wq, hS⟩ := hS
         obtain ⟨q0, q1, q2, q3, q4⟩ := hS.cells
         have hrc := (hS.row _ _ hTt).1
         first | (intro e he; have hm := mem_listed he; (simp [go_sem, *] at hm) <;> (first | (rw [hm]; exact evO_cell rfl hS.mb) | (rcases hm with hm | hm <;> (rw [hm]; exact evO_cell rfl hS.mb)))) | (intro e he; have hm := mem_listed he; (simp [go_sem, *] at hm) <;> (first | (rw [hm]; exact evO_cell rfl hS.mg) | (rcases hm with hm | hm <;> (rw [hm]; exact evO_cell rfl hS.mg))))
     walk_nrm)
    (refine anyI_take ?_ (i := 4) (v := (.int .i64 n)) rfl ?_ ?_ ?_ ?_ (⟨_, hH⟩) ?_
     · refine ⟨fun s x y h r => ⟨_, h.choose_spec.rely r⟩, fun s a x y h r => ?_⟩
       obtain ⟨wq, u2, u3, u4, u5, u6, u7, u8, u9, u10, u11, u12, u13, u14, h1, h2, h3⟩ := h
       exact ⟨wq, u2, u3, u4, u5, u6, u7, u8, u9, u10, u11, u12, u13, u14, h1.rely r, h2, h3⟩
     · kernel_rfl
     · kernel_rfl
     · kernel_rfl
     · refine .inl ⟨by rfl, fun s w hS => ⟨?_, ?_⟩⟩
       · obtain ⟨wq, hS⟩ := hS
         obtain ⟨q0, q1, q2, q3, q4⟩ := hS.cells
         have hrc := (hS.row _ _ hTt).1
         go_simp
       · refine Does.still ?_
         obtain ⟨wq, hS⟩ := hS
         obtain ⟨q0, q1, q2, q3, q4⟩ := hS.cells
         have hrc := (hS.row _ _ hTt).1
         first | (intro e he; have hm := mem_listed he; (simp [go_sem, *] at hm) <;> (first | (rw [hm]; exact evO_cell rfl hS.mb) | (rcases hm with hm | hm <;> (rw [hm]; exact evO_cell rfl hS.mb)))) | (intro e he; have hm := mem_listed he; (simp [go_sem, *] at hm) <;> (first | (rw [hm]; exact evO_cell rfl hS.mg) | (rcases hm with hm | hm <;> (rw [hm]; exact evO_cell rfl hS.mg))))
     walk_nrm)
    (refine anyI_take ?_ (i := 6) (v := (.pointer (some ⟨b, 0, none⟩))) rfl ?_ ?_ ?_ ?_ (⟨_, hH⟩) ?_
     · refine ⟨fun s x y h r => ⟨_, h.choose_spec.rely r⟩, fun s a x y h r => ?_⟩
       obtain ⟨wq, u2, u3, u4, u5, u6, u7, u8, u9, u10, u11, u12, u13, u14, h1, h2, h3⟩ := h
       exact ⟨wq, u2, u3, u4, u5, u6, u7, u8, u9, u10, u11, u12, u13, u14, h1.rely r, h2, h3⟩
     · kernel_rfl
     · kernel_rfl
     · kernel_rfl
     · refine .inl ⟨by rfl, fun s w hS => ⟨?_, ?_⟩⟩
       · obtain ⟨wq, hS⟩ := hS
         obtain ⟨q0, q1, q2, q3, q4⟩ := hS.cells
         have hrc := (hS.row _ _ hTt).1
         go_simp
       · refine Does.still ?_
         obtain ⟨wq, hS⟩ := hS
         obtain ⟨q0, q1, q2, q3, q4⟩ := hS.cells
         have hrc := (hS.row _ _ hTt).1
         first | (intro e he; have hm := mem_listed he; (simp [go_sem, *] at hm) <;> (first | (rw [hm]; exact evO_cell rfl hS.mb) | (rcases hm with hm | hm <;> (rw [hm]; exact evO_cell rfl hS.mb)))) | (intro e he; have hm := mem_listed he; (simp [go_sem, *] at hm) <;> (first | (rw [hm]; exact evO_cell rfl hS.mg) | (rcases hm with hm | hm <;> (rw [hm]; exact evO_cell rfl hS.mg))))
     walk_nrm)
    (refine anyI_take ?_ (i := 7) (v := (.pointer (some ⟨b, 0, none⟩))) rfl ?_ ?_ ?_ ?_ (⟨_, hH⟩) ?_
     · refine ⟨fun s x y h r => ⟨_, h.choose_spec.rely r⟩, fun s a x y h r => ?_⟩
       obtain ⟨wq, u2, u3, u4, u5, u6, u7, u8, u9, u10, u11, u12, u13, u14, h1, h2, h3⟩ := h
       exact ⟨wq, u2, u3, u4, u5, u6, u7, u8, u9, u10, u11, u12, u13, u14, h1.rely r, h2, h3⟩
     · kernel_rfl
     · kernel_rfl
     · kernel_rfl
     · refine .inl ⟨by rfl, fun s w hS => ⟨?_, ?_⟩⟩
       · obtain ⟨wq, hS⟩ := hS
         obtain ⟨q0, q1, q2, q3, q4⟩ := hS.cells
         have hrc := (hS.row _ _ hTt).1
         go_simp
       · refine Does.still ?_
         obtain ⟨wq, hS⟩ := hS
         obtain ⟨q0, q1, q2, q3, q4⟩ := hS.cells
         have hrc := (hS.row _ _ hTt).1
         first | (intro e he; have hm := mem_listed he; (simp [go_sem, *] at hm) <;> (first | (rw [hm]; exact evO_cell rfl hS.mb) | (rcases hm with hm | hm <;> (rw [hm]; exact evO_cell rfl hS.mb)))) | (intro e he; have hm := mem_listed he; (simp [go_sem, *] at hm) <;> (first | (rw [hm]; exact evO_cell rfl hS.mg) | (rcases hm with hm | hm <;> (rw [hm]; exact evO_cell rfl hS.mg))))
     walk_nrm)
    (refine anyI_take ?_ (i := 8) (v := (.pointer (some ⟨b, 1, none⟩))) rfl ?_ ?_ ?_ ?_ (⟨_, hH⟩) ?_
     · refine ⟨fun s x y h r => ⟨_, h.choose_spec.rely r⟩, fun s a x y h r => ?_⟩
       obtain ⟨wq, u2, u3, u4, u5, u6, u7, u8, u9, u10, u11, u12, u13, u14, h1, h2, h3⟩ := h
       exact ⟨wq, u2, u3, u4, u5, u6, u7, u8, u9, u10, u11, u12, u13, u14, h1.rely r, h2, h3⟩
     · kernel_rfl
     · kernel_rfl
     · kernel_rfl
     · refine .inl ⟨by rfl, fun s w hS => ⟨?_, ?_⟩⟩
       · obtain ⟨wq, hS⟩ := hS
         obtain ⟨q0, q1, q2, q3, q4⟩ := hS.cells
         have hrc := (hS.row _ _ hTt).1
         go_simp
       · refine Does.still ?_
         obtain ⟨wq, hS⟩ := hS
         obtain ⟨q0, q1, q2, q3, q4⟩ := hS.cells
         have hrc := (hS.row _ _ hTt).1
         first | (intro e he; have hm := mem_listed he; (simp [go_sem, *] at hm) <;> (first | (rw [hm]; exact evO_cell rfl hS.mb) | (rcases hm with hm | hm <;> (rw [hm]; exact evO_cell rfl hS.mb)))) | (intro e he; have hm := mem_listed he; (simp [go_sem, *] at hm) <;> (first | (rw [hm]; exact evO_cell rfl hS.mg) | (rcases hm with hm | hm <;> (rw [hm]; exact evO_cell rfl hS.mg))))
     walk_nrm)
    (refine anyI_take ?_ (i := 9) (v := (.slice (some ⟨g, 0, none⟩) n tc)) rfl ?_ ?_ ?_ ?_ (⟨_, hH⟩) ?_
     · refine ⟨fun s x y h r => ⟨_, h.choose_spec.rely r⟩, fun s a x y h r => ?_⟩
       obtain ⟨wq, u2, u3, u4, u5, u6, u7, u8, u9, u10, u11, u12, u13, u14, h1, h2, h3⟩ := h
       exact ⟨wq, u2, u3, u4, u5, u6, u7, u8, u9, u10, u11, u12, u13, u14, h1.rely r, h2, h3⟩
     · kernel_rfl
     · kernel_rfl
     · kernel_rfl
     · refine .inl ⟨by rfl, fun s w hS => ⟨?_, ?_⟩⟩
       · obtain ⟨wq, hS⟩ := hS
         obtain ⟨q0, q1, q2, q3, q4⟩ := hS.cells
         have hrc := (hS.row _ _ hTt).1
         go_simp
       · refine Does.still ?_
         obtain ⟨wq, hS⟩ := hS
         obtain ⟨q0, q1, q2, q3, q4⟩ := hS.cells
         have hrc := (hS.row _ _ hTt).1
         first | (intro e he; have hm := mem_listed he; (simp [go_sem, *] at hm) <;> (first | (rw [hm]; exact evO_cell rfl hS.mb) | (rcases hm with hm | hm <;> (rw [hm]; exact evO_cell rfl hS.mb)))) | (intro e he; have hm := mem_listed he; (simp [go_sem, *] at hm) <;> (first | (rw [hm]; exact evO_cell rfl hS.mg) | (rcases hm with hm | hm <;> (rw [hm]; exact evO_cell rfl hS.mg))))
     walk_nrm)
    (refine anyI_take ?_ (i := 10) (v := (.pointer (some ⟨g, 0, none⟩))) rfl ?_ ?_ ?_ ?_ (⟨_, hH⟩) ?_
     · refine ⟨fun s x y h r => ⟨_, h.choose_spec.rely r⟩, fun s a x y h r => ?_⟩
       obtain ⟨wq, u2, u3, u4, u5, u6, u7, u8, u9, u10, u11, u12, u13, u14, h1, h2, h3⟩ := h
       exact ⟨wq, u2, u3, u4, u5, u6, u7, u8, u9, u10, u11, u12, u13, u14, h1.rely r, h2, h3⟩
     · kernel_rfl
     · kernel_rfl
     · kernel_rfl
     · refine .inl ⟨by rfl, fun s w hS => ⟨?_, ?_⟩⟩
       · obtain ⟨wq, hS⟩ := hS
         obtain ⟨q0, q1, q2, q3, q4⟩ := hS.cells
         have hrc := (hS.row _ _ hTt).1
         go_simp
       · refine Does.still ?_
         obtain ⟨wq, hS⟩ := hS
         obtain ⟨q0, q1, q2, q3, q4⟩ := hS.cells
         have hrc := (hS.row _ _ hTt).1
         first | (intro e he; have hm := mem_listed he; (simp [go_sem, *] at hm) <;> (first | (rw [hm]; exact evO_cell rfl hS.mb) | (rcases hm with hm | hm <;> (rw [hm]; exact evO_cell rfl hS.mb)))) | (intro e he; have hm := mem_listed he; (simp [go_sem, *] at hm) <;> (first | (rw [hm]; exact evO_cell rfl hS.mg) | (rcases hm with hm | hm <;> (rw [hm]; exact evO_cell rfl hS.mg))))
     walk_nrm)
    (refine anyI_take ?_ (i := 11) (v := (.int .i64 t)) rfl ?_ ?_ ?_ ?_ (⟨_, hH⟩) ?_
     · refine ⟨fun s x y h r => ⟨_, h.choose_spec.rely r⟩, fun s a x y h r => ?_⟩
       obtain ⟨wq, u2, u3, u4, u5, u6, u7, u8, u9, u10, u11, u12, u13, u14, h1, h2, h3⟩ := h
       exact ⟨wq, u2, u3, u4, u5, u6, u7, u8, u9, u10, u11, u12, u13, u14, h1.rely r, h2, h3⟩
     · kernel_rfl
     · kernel_rfl
     · kernel_rfl
     · refine .inl ⟨by rfl, fun s w hS => ⟨?_, ?_⟩⟩
       · obtain ⟨wq, hS⟩ := hS
         obtain ⟨q0, q1, q2, q3, q4⟩ := hS.cells
         have hrc := (hS.row _ _ hTt).1
         go_simp
       · refine Does.still ?_
         obtain ⟨wq, hS⟩ := hS
         obtain ⟨q0, q1, q2, q3, q4⟩ := hS.cells
         have hrc := (hS.row _ _ hTt).1
         first | (intro e he; have hm := mem_listed he; (simp [go_sem, *] at hm) <;> (first | (rw [hm]; exact evO_cell rfl hS.mb) | (rcases hm with hm | hm <;> (rw [hm]; exact evO_cell rfl hS.mb)))) | (intro e he; have hm := mem_listed he; (simp [go_sem, *] at hm) <;> (first | (rw [hm]; exact evO_cell rfl hS.mg) | (rcases hm with hm | hm <;> (rw [hm]; exact evO_cell rfl hS.mg))))
     walk_nrm)
    have hpb := fun (s : Gh) (w : World) => pbit_c (main := false) (c := c) (T := dealB (RepR n)) n 0 hn.2 (by omega) s w
    rw [Nat.sub_zero, hq1] at hpb
    refine anyI_one (i := 5) rfl (by kernel_rfl) (.call (by rfl) _ _ _ (fun v s₂ w₂ => v = .int .i64 (q : Int) ∧ s₂ = s ∧ SinceI (dealB (RepR n)) s _ w₂) rfl (by walk_nrm; exact hpb s _) fun v s₄ w₆ hp => ?_)
    obtain ⟨rfl, rfl, hsi⟩ := hp
    have hH : Hold n (turnsN n xs) b g tc c wn s₄ w₆ := hsi.elim (fun e => e ▸ hH) fun x => hH.rely x
    clear hsi
    refine ⟨⟨_, hH⟩, ?_⟩
    walk_nrm
    have e1 : mkN n [0] = q := by rw [← hq1]; simp [mkN]
    have e2 : covN n xs [0] = t := by rw [cov_zero, ht]
    have e3 : ((n - (n - 1) : Nat) : Int) = 1 := by omega
    have hcall := ext_c (main := false) (c := c) HO.out b g tc hcap hcm (n - 1) [0] wn [] s₄ w₆ (by omega) (ok_of (by omega) (by omega) (List.pairwise_singleton _ _) fun z hz => by rw [List.mem_singleton] at hz; omega) (fun x hx => by rw [List.mem_singleton] at hx; omega) (dir_one HO.out) hw1 hw2 hH (by rw [HR.out, List.append_nil]; rfl)
    rw [e1, e2, e3] at hcall
    refine anyI_one (i := 12) rfl (by kernel_rfl) (.call (by rfl) _ _ _ _ rfl (by walk_nrm; exact hcall) fun v s₅ w₇ hp => ?_)
    obtain ⟨rfl, hH2, hrem2⟩ := hp
    refine ⟨⟨_, hH2⟩, ?_⟩
    walk_nrm
    exact anyI_done (by kernel_rfl) ⟨_, _, _, _, _, _, _, _, _, _, _, _, _, _, hH2, hrem2, rfl⟩ _
  · intro e s' a' w' qq
    cases e with
    | normal =>
      obtain ⟨wq, u2, u3, u4, u5, u6, u7, u8, u9, u10, u11, u12, u13, u14, hH, hrem, rfl⟩ := qq
      refine GoI.still rfl (fun _ => stepG_region) ?_
      simp only [List.size_toArray, List.length_cons, List.length_nil, Nat.reduceAdd, Nat.zero_add, List.range, List.range.loop]
      refine goI_val (.pointer (some ⟨b, 0, none⟩)) rfl (by rfl) (by simp [baseD]) (fun w₁ h₁ => ⟨by go_simp, Does.still (by (intro e he; have hm := mem_listed he; (simp [go_sem, *] at hm) <;> (first | (rw [hm]; exact evO_cell rfl hH.mb) | (rcases hm with hm | hm <;> (rw [hm]; exact evO_cell rfl hH.mb)))))⟩) ?_
      walk_nrm
      refine goI_val (.pointer (some ⟨b, 0, none⟩)) rfl (by rfl) (by simp [baseD]) (fun w₁ h₁ => ⟨by go_simp, Does.still (by (intro e he; have hm := mem_listed he; (simp [go_sem, *] at hm) <;> (first | (rw [hm]; exact evO_cell rfl hH.mb) | (rcases hm with hm | hm <;> (rw [hm]; exact evO_cell rfl hH.mb)))))⟩) ?_
      walk_nrm
      refine goI_val (.pointer (some ⟨b, 3, none⟩)) rfl (by rfl) (by simp [baseD]) (fun w₁ h₁ => ⟨by go_simp, Does.still (by (intro e he; have hm := mem_listed he; (simp [go_sem, *] at hm) <;> (first | (rw [hm]; exact evO_cell rfl hH.mb) | (rcases hm with hm | hm <;> (rw [hm]; exact evO_cell rfl hH.mb)))))⟩) ?_
      walk_nrm
      refine goI_val (.chan (some c)) rfl (by rfl) (by simp [baseD]) (fun w₁ h₁ => by
        have hH := hH.rely h₁
        obtain ⟨q0, q1, q2, q3, q4⟩ := hH.cells
        exact ⟨by go_simp, Does.still (by (intro e he; have hm := mem_listed he; (simp [go_sem, *] at hm) <;> (first | (rw [hm]; exact evO_cell rfl hH.mb) | (rcases hm with hm | hm <;> (rw [hm]; exact evO_cell rfl hH.mb)))))⟩) ?_
      walk_nrm
      refine GoI.stop fun w₁ h₁ => atClose_of (m := 4) (.tuple #[]) #[⟨.obj c, false, true⟩] rfl (by rfl) (by simp [baseD]) (by rfl) hrem (fun x r tm hx => ⟨?_, ?_⟩) (fun e he => ?_) ?_
      · simp [go_sem, run_close_open _ _ hx, World.setChan]
      · simp [listed, seen, go_sem, events_close_open _ _ hx]
      · have : e = ⟨.obj c, false, true⟩ := by simpa using he
        rw [this]
        exact .inr (.inl ⟨c, rfl, rfl, .inr rfl⟩)
      · walk_nrm
        exact QuitsD.ctl rfl (fun _ => stepG_region_end) (QuitsD.ctl rfl (fun _ => stepG_end) (quits_tail _))
    | _ => exact qq.elim
/-- What the go statement hands over. -/
def runD (b : Nat) : Deferred := { target := .fn (.func 33) #[], args := #[.pointer (some ⟨b, 0, none⟩)] }
theorem born_step (b : Nat) (fd : Func) (x : Code) (hf : Try.prog.funcs[33]? = some fd) (hb : fd.body = some x) (w : World) : stepG Try.prog false (born Try.prog (runD b)) w =
    .go (G ((baseD 33).at { tmps := #[.pointer (some ⟨b, 0, none⟩)] ++ Array.replicate (fd.ntmps - 1) undef, defers := [] } [.code x]) [botF Try.prog]) w #[] := by
  have h2 : fd = Try.f33 := Option.some.inj (hf.symm.trans Try.func33)
  subst h2
  simp [born, runD, stepG, unwind, callDeferred, invoke, callFunc, hf, hb, seen, GStep.after, G, Frame.enter, Frame.at, baseD, botF, Try.f33]
  exact Option.some.inj hb
/-- THE WORKER FROM ITS BIRTH TO THE CLOSE OF ITS CHANNEL. -/
theorem run_born (ho : Ok n xs) (b g tc : Nat) (hcap : n ≤ tc) (hcm : tc ≤ 9223372036854775807) (wn : Nat) (s : Gh) (w : World) (hw1 : 1 ≤ wn) (hw2 : wn < 9223372036854775808)
    (hH : Hold n (turnsN n xs) b g tc c wn s w) (hrem : s.rem = (partL n xs).take wn) : GoI Try.prog false c (dealB (RepR n)) (AtClose Try.prog c) s (born Try.prog (runD b)) w := by
  obtain ⟨fd, x, hf, hb, hg⟩ := run_c ho b g tc hcap hcm wn s w hw1 hw2 hH hrem
  exact GoI.still rfl (fun w => born_step b fd x hf hb w) hg
end
end Go.Proofs.Ytgmhdmhnedljcaa.Co
