/-
  Helpers of the claims beside this text: the program's partners, as goroutine 0 runs it beside goroutines that only leave.
-/
import Derived.Test.YtgmhdmhnedljcaaSrp
import Derived.Test.YtgmhdmhnedljcaaGsn
import Derived.Test.YtgmhdmhnedljcaaGqa
import Derived.Test.YtgmhdmhnedljcaaGcs
import Derived.Conc.SmallLaws
import Derived.Test.YtgmhdmhnedljcaaOk
import Derived.Test.YtgmhdmhnedljcaaReg
import Derived.Orders
namespace Go.Proofs.Ytgmhdmhnedljcaa.Co
open Go Go.Conc Go.RowKit Rhy
set_option linter.unusedVariables false
set_option linter.unusedSimpArgs false
set_option maxRecDepth 100000

section
variable {P : Program} {F : FuncId → Bool} {Post : Value → World → Prop} {b : Frame} {a : Act} {k : List Item} {cs : List Frame} {w : World}
theorem Run.of_at {g : Goroutine} {d : Nat} (h : Run P Post g w) : Run P Post g (w.at d) := fun d' => h d'
/-- An operation of plain code that yields a value. -/
theorem Run.val (hB : Bodied P F) {ops : Array Oper} {i : Nat} {rest : List Nat} {o : Oper} (v : Value) (w' : World) (ho : ops[i]? = some o) (hw : Region.wanted o (yielded ops a.tmps) = true) (hk : b.kind ≠ .early) (hpl : plainOp P F o.op = true) (hp : NoPend P w)
    (hr : ∀ d, (execOp a.eval o).run P (w.at d) = .ok (.value v) (w'.at d)) (h : NoPend P w' → Run P Post (G (b.at (a.put o.dst v) (.inRegion ops rest :: k)) cs) w') : Run P Post (G (b.at a (.inRegion ops (i :: rest) :: k)) cs) w :=
  Run.op hB ho hw hk hpl hp fun d => by rw [hr d]; exact fun hp' => Run.of_at (h hp')
/-- .. that yields nothing. -/
theorem Run.none (hB : Bodied P F) {ops : Array Oper} {i : Nat} {rest : List Nat} {o : Oper} (w' : World) (ho : ops[i]? = some o) (hw : Region.wanted o (yielded ops a.tmps) = true) (hk : b.kind ≠ .early) (hpl : plainOp P F o.op = true) (hp : NoPend P w)
    (hr : ∀ d, (execOp a.eval o).run P (w.at d) = .ok .skip (w'.at d)) (h : NoPend P w' → Run P Post (G (b.at (a.put o.dst undef) (.inRegion ops rest :: k)) cs) w') : Run P Post (G (b.at a (.inRegion ops (i :: rest) :: k)) cs) w :=
  Run.op hB ho hw hk hpl hp fun d => by rw [hr d]; exact fun hp' => Run.of_at (h hp')
/-- Any operation that yields a value and lists low places. -/
theorem Run.raw {ops : Array Oper} {i : Nat} {rest : List Nat} {o : Oper} (v : Value) (w' : World) (ho : ops[i]? = some o) (hw : Region.wanted o (yielded ops a.tmps) = true) (hk : b.kind ≠ .early)
    (hr : ∀ d, (execOp a.eval o).run P (w.at d) = .ok (.value v) (w'.at d)) (hev : ∀ d, ∀ e ∈ listed P b.fn a o (w.at d), LowL w'.heap.size e.loc) (hsz : w.heap.size ≤ w'.heap.size)
    (h : Run P Post (G (b.at (a.put o.dst v) (.inRegion ops rest :: k)) cs) w') : Run P Post (G (b.at a (.inRegion ops (i :: rest) :: k)) cs) w :=
  Run.step rfl (fun _ => G (b.at (a.put o.dst v) (.inRegion ops rest :: k)) cs) (fun d => w'.at d) (fun d => listed P b.fn a o (w.at d)) (fun d => stepG_value ho hw hk (hr d)) hev (fun _ => hsz) (fun d => Run.of_at h)
/-- A call of a function with code. -/
theorem Run.goes (hB : Bodied P F) {ops : Array Oper} {i : Nat} {rest : List Nat} {o : Oper} {f : FuncId} {args : Array Value} (ho : ops[i]? = some o) (hw : Region.wanted o (yielded ops a.tmps) = true) (hk : b.kind ≠ .early) (hpl : plainOp P F o.op = true) (hp : NoPend P w)
    (hr : ∀ d, (execOp a.eval o).run P (w.at d) = .ok (.enter f args) (w.at d)) (h : Run P Post (G (Frame.enter P f args .normal) (b.at a (.inRegion ops (i :: rest) :: k) :: cs)) w) : Run P Post (G (b.at a (.inRegion ops (i :: rest) :: k)) cs) w :=
  Run.op hB ho hw hk hpl hp fun d => by rw [hr d]; exact fun _ => Run.of_at h
end

/-- What the search holds behind the call that lays it: told without the tape. -/
def SrchR (n : Nat) (zs : List Int) (mo : Nat) (ch : Nat) (w : World) (v : Value) (w' : World) : Prop :=
  ∃ g tc, v = .pointer (some ⟨w.heap.size + 1, 0, none⟩) ∧ w'.heap[w.heap.size + 1]? = some (.cells #[.int .i64 n, .slice (some ⟨g, 0, none⟩) n tc, .int .i64 mo, .chan (some ch)] 53 (0, 0)) ∧
    n ≤ tc ∧ tc ≤ 9223372036854775807 ∧ w.heap.size + 2 ≤ g ∧ g < w'.heap.size ∧ (∀ (j t : Nat), (turnsN n zs)[j]? = some t → w'.cell? ⟨g, j, none⟩ = some (.int .i64 (t : Int)) ∧ t < 16777216) ∧
    w'.os = w.os ∧ w'.output = w.output ∧ (∀ j, j < w.heap.size → w'.heap[j]? = w.heap[j]?)
theorem srch_contract (n : Nat) (a : Option Addr) (len cap : Nat) (zs : List Int) (mo : Nat) (ch : Nat) (w : World) (h : IntsAt w a len zs) (hm : len ≤ 1048576) (ho : Ok (n : Int) zs) :
    Contract Try.prog (Frame.enter Try.prog 32 #[rhy n a len cap, .int .i64 mo, .chan (some ch)] .normal) w 32 (SrchR n zs mo ch w) := by
  have hn : 1 ≤ n ∧ n ≤ 24 := by have := ho.1; omega
  have h24 : 2 ^ n ≤ 16777216 := Nat.pow_le_pow_right (n := 2) (by omega) hn.2
  refine contract_of_calls (R0 := fun W v w' => SrchR n zs mo ch w v w') (fun T => ?_) (fun _ _ _ h => h)
  refine (srch_any n a len cap zs mo (some ch) (tp w T 0) h hm ho).mono ?_
  rintro e w' ⟨av, cv, rfl, hq, hown, hb, hsz⟩
  obtain ⟨hl, ha | ⟨g, cap', cur, hv, hB, hg, hn', hm', hs, ht⟩⟩ := hown
  · exact absurd ha.2 (by omega)
  · simp at hv
    obtain ⟨rfl, rfl⟩ := hv
    have hlt : g < w'.heap.size := (Array.getElem?_eq_some_iff.1 hg).1
    refine ⟨_, rfl, g, cv, rfl, hq, hn', hm', hB, hlt, fun j t hj => ⟨?_, ?_⟩, hb.os, hb.output, fun j hj => hb.block j hj⟩
    · have hj' : j < n := by
        rcases Nat.lt_or_ge j n with h3 | h3
        · exact h3
        · rw [List.getElem?_eq_none (by rw [turns_len]; exact h3)] at hj; cases hj
      rw [turns_at hj'] at hj
      injection hj with hj
      have h5 : (cur.toList.take (n * 1))[j]? = some (.int .i64 (t : Int)) := by
        rw [ht]
        simp [ints, turV, hj', hj]
      rw [List.getElem?_take] at h5
      have h6 : cur[j]? = some (.int .i64 (t : Int)) := by
        rw [← Array.getElem?_toList]
        split at h5
        · exact h5
        · cases h5
      simp [World.cell?, hg, h6]
    · have hj' : j < n := by
        rcases Nat.lt_or_ge j n with h3 | h3
        · exact h3
        · rw [List.getElem?_eq_none (by rw [turns_len]; exact h3)] at hj; cases hj
      rw [turns_at hj'] at hj
      injection hj with hj
      rw [← hj]
      exact Nat.lt_of_lt_of_le (mkN_lt hn.1) h24
theorem srchR_tp {n : Nat} {zs : List Int} {mo ch : Nat} {w : World} : ∀ (v : Value) (w' : World) (T : Nat → Question → Nat) (d : Nat), SrchR n zs mo ch w v w' → SrchR n zs mo ch w v (tp w' T d) := fun _ _ _ _ h => h
end Go.Proofs.Ytgmhdmhnedljcaa.Co

/-
  Helpers of the claims beside this text: the program's partners, whole, as goroutine 0 runs it beside goroutines that only leave.
-/
namespace Go.Proofs.Ytgmhdmhnedljcaa.Co
open Go Go.Conc Go.RowKit Rhy
set_option linter.unusedVariables false
set_option linter.unusedSimpArgs false
set_option maxRecDepth 100000

theorem bodied {P : Program} {F : FuncId → Bool} (hP : PlainFns P F) : Bodied P F := fun f hf => by
  obtain ⟨fn, x, h1, h2, _, h4⟩ := hP.2 f hf
  exact ⟨fn, x, h1, h2, h4⟩
theorem part_short {n : Nat} {xs : List Int} (ho : Ok (n : Int) xs) (mo : Nat) : ((partL n xs).take mo).length < 16777216 := by
  have hn : n ≤ 24 := by have := ho.1; omega
  have h1 : ((partL n xs).take mo).length ≤ (partL n xs).length := by rw [List.length_take]; omega
  have h2 : (partL n xs).length ≤ 2 ^ (n - 1) := by
    unfold partL
    exact Nat.le_trans (List.length_filter_le _ _) (Nat.le_of_eq (bars_len n (n - 1) _))
  have h3 : 2 ^ (n - 1) ≤ 2 ^ 23 := Nat.pow_le_pow_right (by omega) (by omega)
  have h4 : (2 : Nat) ^ 23 = 8388608 := by decide
  omega
theorem own_up {w : World} {B e size : Nat} {v : Value} {n : Nat} {xs : List Value} (h : w.ownsRow 0 e size v n xs) (hb : ∀ j, v.ownBlock = some j → B ≤ j) : w.ownsRow B e size v n xs := by
  obtain ⟨h1, h2 | ⟨g, cap, cur, rfl, h3, rest⟩⟩ := h
  · exact ⟨h1, .inl h2⟩
  · exact ⟨h1, .inr ⟨g, cap, cur, rfl, hb g rfl, rest⟩⟩
/-- What partners hands back: a list of rhythms whose beats lie apart; what was there has not changed. -/
def PartR (n : Nat) (fin : List (List Int)) (w : World) (lv : Value) (w' : World) : Prop :=
  ∃ got : List (List Int × Value), got.map (·.1) = fin ∧ w'.ownsRow w.heap.size 28 2 lv got.length (gotC got) ∧
    (∃ f : Nat → Prop, (∀ j, f j → w.heap.size ≤ j ∧ j < w'.heap.size ∧ lv.ownBlock ≠ some j) ∧ ∀ p ∈ got, RepR n p.1 p.2 f w') ∧
    w'.os = w.os ∧ w'.output = w.output ∧ w.heap.size ≤ w'.heap.size ∧ (∀ j, j < w.heap.size → w'.heap[j]? = w.heap[j]?)
set_option maxHeartbeats 4000000 in
theorem partners_run {Post : Value → World → Prop} {F : FuncId → Bool} (hP : PlainFns Try.prog F) (hFs : F 32 = true) (n : Nat) (a : Option Addr) (len cap : Nat) (xs : List Int) (mo : Nat) (w : World) (h : IntsAt w a len xs) (hm : len ≤ 1048576) (ho : Ok (n : Int) xs)
    (hm1 : 1 ≤ mo) (hm2 : mo < 9223372036854775808) (hp : NoPend Try.prog w) (hG : ∀ r, Try.prog.stepOf r ≠ none → r < w.heap.size) (c : Frame) (cs : List Frame)
    (K : ∀ (lv : Value) (w' : World), PartR n ((partL n xs).take mo) w lv w' → w'.tape = w.tape → NoPend Try.prog w' → Run Try.prog Post (G (c.finish lv) cs) w') :
    Run Try.prog Post (G (Frame.enter Try.prog 25 #[rhy n a len cap, .int .i64 mo] .normal) (c :: cs)) w := by
  have hB := bodied hP
  rw [enter_at _ Try.func25 rfl]
  simp only [Try.ntmps25, List.size_toArray, List.length_cons, List.length_nil, Nat.reduceAdd, Nat.reduceSub, Array.replicate_succ, Array.replicate_zero, List.push_toArray, List.append_toArray, List.nil_append, List.cons_append]
  obtain ⟨w1, hw1⟩ : ∃ w1, w1 = w.alloc (.cells #[.int .i64 n, .slice a len cap] 28) := ⟨_, rfl⟩
  have HW1 := Lib.hid hw1
  clear hw1
  refine Run.seq ?_
  refine Run.region ?_
  simp only [List.size_toArray, List.length_cons, List.length_nil, Nat.reduceAdd, Nat.zero_add, List.range, List.range.loop]
  refine Run.val hB (.pointer (some ⟨w.heap.size, 0, none⟩)) w1 rfl (by rfl) (by simp [base]) rfl hp (fun d => by rw [HW1.out]; go_simp; exact ⟨rfl, rfl⟩) (fun hp1 => ?_)
  walk_nrm
  refine Run.val hB (.slice none 0 0) w1 rfl (by rfl) (by simp [base]) rfl hp1 (fun d => by go_simp) (fun hp1 => ?_)
  walk_nrm
  refine Run.regionEnd ?_
  refine Run.seq ?_
  refine Run.region ?_
  simp only [List.size_toArray, List.length_cons, List.length_nil, Nat.reduceAdd, Nat.zero_add, List.range, List.range.loop]
  obtain ⟨ti, hti⟩ : ∃ i, Try.prog.info? 28 = some i := Option.isSome_iff_exists.1 (by kernel_rfl)
  obtain ⟨w2, hw2⟩ : ∃ w2, w2 = w1.alloc (.chan 0 #[] false 0 0 false) := ⟨_, rfl⟩
  have HW2 := Lib.hid hw2
  clear hw2
  have hmk : ∀ d, (Instr.makeChan 47 (.int .i64 0)).run Try.prog (w1.at d) = .ok (.chan (some w1.heap.size)) (w2.at d) := fun d => by
    rw [HW2.out]
    exact run_makeChan (w := w1.at d) Try.underlying47 hti .i64 0 (by omega) (by omega)
  have hev : ∀ d es, (Instr.makeChan 47 (.int .i64 0)).events Try.prog (w1.at d) es = es := fun d es =>
    events_makeChan (w := w1.at d) Try.underlying47 hti .i64 0 (by omega) (by omega) es
  refine Run.raw (.chan (some w1.heap.size)) w2 rfl (by rfl) (by simp [base]) (fun d => by
    have h1 := hmk d
    go_simp) (fun d e he => by
    have h1 := hev d
    simp [listed, seen, go_sem, h1] at he) (by rw [HW2.out]; simp) ?_
  have hp2 : NoPend Try.prog w2 := fun r c e hs hx => by
    rw [HW2.out] at hx
    rcases Nat.lt_or_ge r w1.heap.size with h1 | h1
    · rw [Below.heap_alloc w1 _ r h1] at hx
      exact hp1 r c e hs hx
    · have h2 : r < (w1.alloc (.chan 0 #[] false 0 0 false)).heap.size := (Array.getElem?_eq_some_iff.1 hx).1
      have h3 : r = w1.heap.size := by simp at h2; omega
      subst h3
      rw [heap_alloc_new] at hx
      cases hx
  walk_nrm
  refine Run.val hB (.chan (some w1.heap.size)) w2 rfl (by rfl) (by simp [base]) rfl hp2 (fun d => by go_simp) (fun hp2 => ?_)
  walk_nrm
  refine Run.regionEnd ?_
  refine Run.seq ?_
  refine Run.region ?_
  simp only [List.size_toArray, List.length_cons, List.length_nil, Nat.reduceAdd, Nat.zero_add, List.range, List.range.loop]
  have hb12 : Below w.heap.size w w2 := by rw [HW2.out, HW1.out]; exact bel2 w _ _
  have ht2 : Rhy.Two w2 w.heap.size (.int .i64 n) (.slice a len cap) := by rw [HW2.out, HW1.out]; exact (two_new w _ _ _).keep (bel1 _ _)
  obtain ⟨t0, t1, t2⟩ := ht2
  refine Run.val hB (rhy n a len cap) w2 rfl (by rfl) (by simp [base]) rfl hp2 (fun d => by
    have t1' : (w2.at d).cell? ⟨w.heap.size, 0, none⟩ = some (.int .i64 n) := t1
    have t2' : (w2.at d).cell? ⟨w.heap.size, 1, none⟩ = some (.slice a len cap) := t2
    go_simp) (fun hp2 => ?_)
  walk_nrm
  refine Run.val hB (.int .i64 mo) w2 rfl (by rfl) (by simp [base]) rfl hp2 (fun d => by go_simp) (fun hp2 => ?_)
  walk_nrm
  refine Run.val hB (.chan (some w1.heap.size)) w2 rfl (by rfl) (by simp [base]) rfl hp2 (fun d => by go_simp) (fun hp2 => ?_)
  walk_nrm
  refine Run.goes hB (f := 32) (args := #[rhy n a len cap, .int .i64 mo, .chan (some w1.heap.size)]) rfl (by rfl) (by simp [base]) hFs hp2 (fun d => by go_simp) ?_
  refine Run.call rfl (mcalls_of_plain hP hFs hp2 (srch_contract n a len cap xs mo w1.heap.size w2 (h.below hb12) hm ho) srchR_tp) srchR_tp (fun v w3 hv hT3 hp3 => ?_)
  obtain ⟨g, tc, rfl, hblk, hc1, hc2, hg1, hg2, hrow, hos, hout, hold⟩ := hv
  walk_nrm
  have HZ1 := Lib.hid (show w1.heap.size = w.heap.size + 1 by rw [HW1.out]; simp)
  have HZ2 := Lib.hid (show w2.heap.size = w.heap.size + 2 by rw [HW2.out]; simp [HZ1.out])
  have hch : w3.heap[w1.heap.size]? = some (.chan 0 #[] false 0 0 false) := by
    rw [hold _ (by have := HZ1.out; have := HZ2.out; omega), HW2.out]
    exact heap_alloc_new w1 _
  have hbs : w2.heap.size + 1 < w3.heap.size := (Array.getElem?_eq_some_iff.1 hblk).1
  obtain ⟨REM, hREM⟩ : ∃ REM, (partL n xs).take mo = REM := ⟨_, rfl⟩
  have HREM := Lib.hid hREM
  have HLEN : Hid (REM.length < 16777216) := Lib.hid (by rw [← hREM]; exact part_short ho mo)
  refine Run.pair (P := Try.prog) (Post := Post) (repsR n) (Fin := FinR n (fun j => j < w3.heap.size ∧ j ≠ w2.heap.size + 1 ∧ j ≠ g ∧ j ≠ w1.heap.size) w3 w1.heap.size (base 25) (endK []) (c :: cs) REM)
    (sA := { own := fun j => j < w3.heap.size ∧ j ≠ w2.heap.size + 1 ∧ j ≠ g ∧ j ≠ w1.heap.size, fix := fun _ => False, rem := REM, got := [] }) (sB := { own := fun j => j = w2.heap.size + 1 ∨ j = g, fix := fun _ => False, rem := REM, got := [] })
    (ch := w1.heap.size) (child := born Try.prog (runD (w2.heap.size + 1))) rfl (fun d => (stepG_spawn (d := runD (w2.heap.size + 1)) (w' := w3.at d) rfl (by rfl) (by simp [base]) (by go_simp; rfl) rfl).trans (congrArg (fun es => GStep.spawn _ _ _ es) (by first | rfl | (simp [listed, seen, go_sem, Sem.events, Sem.runT]; done) | (simp [listed, seen, go_sem]; rfl))))
    ?hA ?hB ⟨_, _, _, hch⟩ ?ap ?nA ?nB (fun j hj => hj.1) ?lB (fun _ hj => hj) rfl rfl rfl ?K
  case ap =>
    rintro j ⟨_, h1, h2, _⟩ (h3 | h3)
    · exact h1 h3
    · exact h2 h3
  case nA => exact fun h1 => h1.2.2.2 rfl
  case nB =>
    rintro (h1 | h1)
    · have := HZ1.out; have := HZ2.out; omega
    · have := HZ1.out; have := HZ2.out; omega
  case lB =>
    rintro j (h1 | h1)
    · omega
    · omega
  case hA =>
    refine GoI.still rfl (fun _ => stepG_region_end) ?_
    refine tail_go n w1.heap.size (fun j => j < w3.heap.size ∧ j ≠ w2.heap.size + 1 ∧ j ≠ g ∧ j ≠ w1.heap.size) (base 25) rfl (by simp [base]) [] (c :: cs) _ ({ own := fun j => j < w3.heap.size ∧ j ≠ w2.heap.size + 1 ∧ j ≠ g ∧ j ≠ w1.heap.size, fix := fun _ => False, rem := REM, got := [] } : Gh) w3 ?hl ?h0 ?h1 ?h2 ?h3 _ _ _ _ _ _ _ _ _ _ _ _ _ _ _ _ _ _ _ _ _
    case hl => exact HLEN.out
    case h0 => rfl
    case h1 => exact fun j hj => hj.1
    case h2 => exact fun _ hj => hj
    case h3 => exact fun _ hj => hj
  case hB =>
    refine run_born ho (w2.heap.size + 1) g tc hc1 hc2 mo _ w3 hm1 hm2 ⟨turns_len n xs, .inl rfl, fun hj => hj, hblk, .inr rfl, by omega, hrow, ?_, fun _ hj => hj.elim⟩ hREM.symm
    rintro j (h1 | h1)
    · omega
    · omega
  case K =>
    intro s g' w4 hf
    obtain ⟨lv, z, u0, u1, u2, u3, u4, u5, u7, u8, u9, u10, u11, u12, u15, u16, u17, u18, u19, u20, u21, rfl, hK, hgot, f, hff, hreps⟩ := hf
    have hsz3 : w2.heap.size ≤ w3.heap.size := by omega
    have hOld : ∀ j, j < w.heap.size → j < w3.heap.size ∧ j ≠ w2.heap.size + 1 ∧ j ≠ g ∧ j ≠ w1.heap.size := fun j hj => by
      have := HZ1.out
      have := HZ2.out
      refine ⟨?_, ?_, ?_, ?_⟩ <;> omega
    have hsame : ∀ j, j < w.heap.size → w4.heap[j]? = w.heap[j]? := fun j hj => by
      rw [(hK.old j (hOld j hj)).2.2, hold j (by have := HZ2.out; omega), hb12.block j hj]
    have hp4 : NoPend Try.prog w4 := fun r c e hs hx => by
      rw [hsame r (hG r hs)] at hx
      exact hp r c e hs hx
    have hR4 : PartR n ((partL n xs).take mo) w lv w4 := by
      refine ⟨s.got, by rw [hgot, HREM.out], ?_, ⟨f, fun j hj => ⟨?_, (hff j hj).2, fun e => (hff j hj).1 (hK.lst.mine j e).1⟩, hreps⟩, ?_, ?_, ?_, hsame⟩
      · refine own_up hK.lst.row fun j hj => ?_
        rcases Nat.lt_or_ge j w.heap.size with h1 | h1
        · exact absurd hj (hK.old j (hOld j h1)).2.1
        · exact h1
      · rcases Nat.lt_or_ge j w.heap.size with h1 | h1
        · exact absurd (hK.old j (hOld j h1)).1 (hff j hj).1
        · exact h1
      · rw [hK.os, hos, hb12.os]
      · rw [hK.output, hout, hb12.output]
      · have := hK.size
        have := HZ2.out
        omega
    have hT4 : w4.tape = w.tape := by rw [hK.tape, hT3, HW2.out, HW1.out]; rfl
    unfold endK
    simp only [askOps]
    refine Run.val hB (.bool false) w4 rfl (by rfl) (by simp [base]) rfl hp4 (fun d => by go_simp) (fun hp4 => ?_)
    walk_nrm
    refine Run.regionEnd ?_
    refine Run.seq ?_
    refine Run.cond (t := false) (by go_simp) ?_
    simp only [Bool.false_eq_true, if_false]
    refine Run.exit (k' := [.code lastX]) (by rfl) ?_
    refine Run.seq ?_
    refine Run.region ?_
    simp only [List.size_toArray, List.length_cons, List.length_nil, Nat.reduceAdd, Nat.zero_add, List.range, List.range.loop]
    refine Run.val hB lv w4 rfl (by rfl) (by simp [base]) rfl hp4 (fun d => by go_simp) (fun hp4 => ?_)
    walk_nrm
    refine Run.val hB lv w4 rfl (by rfl) (by simp [base]) rfl hp4 (fun d => by go_simp) (fun hp4 => ?_)
    walk_nrm
    refine Run.regionEnd ?_
    refine Run.ret ?_
    refine Run.back (f := 25) (R := fun v _ => v = lv) (fun _ _ _ _ h => h) ⟨rfl, lv, rfl, rfl, rfl, rfl, _, Try.func25, ?_⟩ (fun v hv => ?_)
    · simp [results, Try.results25, go_sem, Frame.at]
    · subst hv
      exact K _ w4 hR4 hT4 hp4
end Go.Proofs.Ytgmhdmhnedljcaa.Co

/-
  Helpers of the claims beside this text: PartnersOf, CountPartners, FirstPartner of the program, as goroutine 0 runs them beside goroutines that only leave.
-/
namespace Go.Proofs.Ytgmhdmhnedljcaa.Rhy
open Go.RowKit
set_option linter.unusedVariables false
set_option linter.unusedSimpArgs false
set_option maxRecDepth 100000

theorem hlp_any (s : Int) (a : Option Addr) (len cap : Nat) (zs : List Int) (w : World) (h : IntsAt w a len zs) (hm : len ≤ 1048576) (b : Bool) (hb : b = true ↔ (Ok s zs ∧ s ≤ 12)) :
    Calls Try.prog 24 #[rhy s a len cap] w fun e w' => e = .returned (.bool b) ∧ Below w.heap.size w w' := by
  have HS := Lib.hid h
  have hl : len ≤ 1048576 := hm
  clear h
  by_cases ho : Ok s zs
  · have HO := Lib.hid ho
    have hd : decide (s ≤ 12) = b := by
      by_cases h1 : s ≤ 12
      · rw [hb.2 ⟨ho, h1⟩]; simpa using h1
      · have : b ≠ true := fun e => h1 (hb.1 e).2
        simp at this
        rw [this]; simpa using h1
    clear ho hb
    go_enter Try.func24, Try.ntmps24
    go_wp2_with fail
    refine (valid_yes s a len cap zs _ (HS.out.below (bel1 w _)) hl HO.out).mono ?_
    rintro e w1 ⟨rfl, hb1⟩
    have HB := Lib.hid ((bel1 w (.cells #[.int .i64 s, .slice a len cap] 28)).trans (hb1.mono (by simp)))
    have HT := Lib.hid ((two_new w (.int .i64 s) (.slice a len cap) 28).keep hb1)
    obtain ⟨t1, t1a, t1b⟩ := HT.out
    clear hb1
    go_wp2
    go_ret
    exact ⟨rfl, HB.out⟩
  · have HO := Lib.hid ho
    have hb' : b = false := by
      cases b with
      | false => rfl
      | true => exact absurd (hb.1 rfl).1 ho
    clear ho hb
    subst hb'
    go_enter Try.func24, Try.ntmps24
    go_wp2_with fail
    refine (valid_no s a len cap zs _ (HS.out.below (bel1 w _)) hl HO.out).mono ?_
    rintro e w1 ⟨rfl, hb1⟩
    have HB := Lib.hid ((bel1 w (.cells #[.int .i64 s, .slice a len cap] 28)).trans (hb1.mono (by simp)))
    clear hb1
    go_wp2
    go_ret
    exact ⟨rfl, HB.out⟩
end Go.Proofs.Ytgmhdmhnedljcaa.Rhy

namespace Go.Proofs.Ytgmhdmhnedljcaa.Co
open Go Go.Conc Go.RowKit Rhy
set_option linter.unusedVariables false
set_option linter.unusedSimpArgs false
set_option maxRecDepth 100000
/-- What was there has not changed; told without the tape. -/
structure KeepW (w w' : World) : Prop where
  os : w'.os = w.os
  output : w'.output = w.output
  size : w.heap.size ≤ w'.heap.size
  block : ∀ k, k < w.heap.size → w'.heap[k]? = w.heap[k]?
theorem KeepW.of {w w' : World} {B : Nat} (h : Below B w w') (hB : w.heap.size ≤ B) : KeepW w w' := ⟨h.os, h.output, h.size, fun k hk => h.block k (by omega)⟩
theorem KeepW.below {w w' : World} (h : KeepW w w') (ht : w'.tape = w.tape) : Below w.heap.size w w' := ⟨h.os, ht, h.output, h.size, h.block⟩
def SaysR (b : Bool) (w : World) (v : Value) (w' : World) : Prop := v = .bool b ∧ KeepW w w'
theorem saysR_tp {b : Bool} {w : World} : ∀ (v : Value) (w' : World) (T : Nat → Question → Nat) (d : Nat), SaysR b w v w' → SaysR b w v (tp w' T d) := fun _ _ _ _ h => ⟨h.1, h.2.1, h.2.2, h.2.3, h.2.4⟩
theorem says_contract {f : FuncId} {args : Array Value} {b : Bool} {w : World} (h : ∀ T, Calls Try.prog f args (tp w T 0) fun e w' => e = .returned (.bool b) ∧ Below w.heap.size (tp w T 0) w') :
    Contract Try.prog (Frame.enter Try.prog f args .normal) w f (SaysR b w) :=
  contract_of_calls (R0 := fun _ v w' => SaysR b w v w') (fun T => (h T).mono fun e w' he => ⟨_, he.1, rfl, he.2.os, he.2.output, he.2.size, he.2.block⟩) (fun _ _ _ h => h)

/-- PartnersOf's answer: a list of rhythms with fresh beats, or nothing. -/
def POfR (s : Int) (fin : List (List Int)) (w : World) (lv : Value) (w' : World) : Prop := (fin = [] ∧ lv = .slice none 0 0 ∧ KeepW w w') ∨ PartR s.toNat fin w lv w'
theorem own_down {w : World} {B B' e size : Nat} {v : Value} {n : Nat} {xs : List Value} (h : w.ownsRow B e size v n xs) (hb : B' ≤ B) : w.ownsRow B' e size v n xs := by
  obtain ⟨h1, h2 | ⟨g, cap, cur, rfl, h3, rest⟩⟩ := h
  · exact ⟨h1, .inl h2⟩
  · exact ⟨h1, .inr ⟨g, cap, cur, rfl, Nat.le_trans hb h3, rest⟩⟩
theorem KeepW.partR {n : Nat} {fin : List (List Int)} {w w2 w' : World} {lv : Value} (hk : KeepW w w2) (h : PartR n fin w2 lv w') : PartR n fin w lv w' := by
  obtain ⟨got, h1, h2, ⟨f, h3, h4⟩, h5, h6, h7, h8⟩ := h
  refine ⟨got, h1, own_down h2 hk.size, ⟨f, fun j hj => ?_, h4⟩, h5.trans hk.os, h6.trans hk.output, Nat.le_trans hk.size h7, fun j hj => ?_⟩
  · obtain ⟨a1, a2, a3⟩ := h3 j hj
    exact ⟨Nat.le_trans hk.size a1, a2, a3⟩
  · have := hk.size
    rw [h8 j (by omega), hk.block j hj]
theorem KeepW.trans {w w1 w2 : World} (h : KeepW w w1) (k : KeepW w1 w2) : KeepW w w2 := ⟨k.os.trans h.os, k.output.trans h.output, Nat.le_trans h.size k.size, fun j hj => by have := h.size; rw [k.block j (by omega), h.block j hj]⟩
theorem KeepW.two {w w' : World} {b : Nat} {v0 v1 : Value} (h : KeepW w w') (k : Rhy.Two w b v0 v1) : Rhy.Two w' b v0 v1 := by
  obtain ⟨k0, k1, k2⟩ := k
  unfold World.cell? at k1 k2
  exact ⟨Nat.lt_of_lt_of_le k0 h.size, by unfold World.cell?; rw [h.block b k0]; exact k1, by unfold World.cell?; rw [h.block b k0]; exact k2⟩
section
variable {P : Program} {F : FuncId → Bool} {Post : Value → World → Prop} {b : Frame} {a : Act} {k : List Item} {cs : List Frame} {w : World}
theorem bodied_one (f : FuncId) (h : (match Try.prog.funcs[f]? with | some fn => fn.body.isSome && !(fn.name == "runtime.NumGoroutine") | none => false) = true) : Bodied Try.prog (fun g => g == f) := fun g hg => by
  have e : g = f := by simpa using hg
  subst e
  cases h1 : Try.prog.funcs[g]? with
  | none => rw [h1] at h; cases h
  | some fn =>
    rw [h1] at h
    simp only [Bool.and_eq_true, Option.isSome_iff_exists, Bool.not_eq_true'] at h
    obtain ⟨⟨x, hx⟩, hn⟩ := h
    exact ⟨fn, x, rfl, hx, hn⟩
theorem finish_dst {ops : Array Oper} {i : Nat} {rest : List Nat} {o : Oper} (ho : ops[i]? = some o) (v : Value) : (b.at a (.inRegion ops (i :: rest) :: k)).finish v = b.at (a.put o.dst v) (.inRegion ops rest :: k) := by rw [Frame.finish_at, ho]; rfl
end
theorem intsAt_same {w w' : World} {a : Option Addr} {len : Nat} {zs : List Int} (h : IntsAt w a len zs) (hb : KeepW w w') : IntsAt w' a len zs := by
  have h1 : Below w.heap.size w { w' with tape := w.tape } := ⟨hb.os, rfl, hb.output, hb.size, hb.block⟩
  exact (h.below h1 : IntsAt { w' with tape := w.tape } a len zs)
set_option maxHeartbeats 4000000 in
theorem pof_run {Post : Value → World → Prop} {F : FuncId → Bool} (hP : PlainFns Try.prog F) (hFs : F 32 = true) (hFh : F 24 = true) (s : Int) (a : Option Addr) (len cap : Nat) (xs : List Int) (w : World) (h : IntsAt w a len xs) (hm : len ≤ 1048576)
    (bo : Bool) (hb : bo = true ↔ (Ok s xs ∧ s ≤ 12)) (hp : NoPend Try.prog w) (hG : ∀ r, Try.prog.stepOf r ≠ none → r < w.heap.size) (c : Frame) (cs : List Frame)
    (K : ∀ (lv : Value) (w' : World), POfR s (if bo then partL s.toNat xs else []) w lv w' → w'.tape = w.tape → NoPend Try.prog w' → Run Try.prog Post (G (c.finish lv) cs) w') :
    Run Try.prog Post (G (Frame.enter Try.prog 9 #[rhy s a len cap] .normal) (c :: cs)) w := by
  have hB := bodied hP
  rw [enter_at _ Try.func9 rfl]
  simp only [Try.ntmps9, List.size_toArray, List.length_cons, List.length_nil, Nat.reduceAdd, Nat.reduceSub, Array.replicate_succ, Array.replicate_zero, List.push_toArray, List.append_toArray, List.nil_append, List.cons_append]
  obtain ⟨w1, hw1⟩ : ∃ w1, w1 = w.alloc (.cells #[.int .i64 s, .slice a len cap] 28) := ⟨_, rfl⟩
  have HW1 := Lib.hid hw1
  clear hw1
  refine Run.seq ?_
  refine Run.region ?_
  simp only [List.size_toArray, List.length_cons, List.length_nil, Nat.reduceAdd, Nat.zero_add, List.range, List.range.loop]
  refine Run.val hB (.pointer (some ⟨w.heap.size, 0, none⟩)) w1 rfl (by rfl) (by simp [base]) rfl hp (fun d => by rw [HW1.out]; go_simp; exact ⟨rfl, rfl⟩) (fun hp1 => ?_)
  walk_nrm
  refine Run.val hB (.slice none 0 0) w1 rfl (by rfl) (by simp [base]) rfl hp1 (fun d => by go_simp) (fun hp1 => ?_)
  walk_nrm
  refine Run.regionEnd ?_
  have hb01 : Below w.heap.size w w1 := by rw [HW1.out]; exact bel1 w _
  have HK1 := Lib.hid (KeepW.of hb01 (Nat.le_refl _))
  have HT1 := Lib.hid (show w1.tape = w.tape from hb01.tape)
  have HU1 := Lib.hid (show Rhy.Two w1 w.heap.size (.int .i64 s) (.slice a len cap) by rw [HW1.out]; exact two_new w _ _ _)
  obtain ⟨t0, t1, t2⟩ := HU1.out
  refine Run.seq ?_
  refine Run.seq ?_
  refine Run.region ?_
  simp only [List.size_toArray, List.length_cons, List.length_nil, Nat.reduceAdd, Nat.zero_add, List.range, List.range.loop]
  refine Run.val hB (rhy s a len cap) w1 rfl (by rfl) (by simp [base]) rfl hp1 (fun d => by
    have t1' : (w1.at d).cell? ⟨w.heap.size, 0, none⟩ = some (.int .i64 s) := t1
    have t2' : (w1.at d).cell? ⟨w.heap.size, 1, none⟩ = some (.slice a len cap) := t2
    go_simp) (fun hp1 => ?_)
  walk_nrm
  refine Run.goes hB (f := 24) (args := #[rhy s a len cap]) rfl (by rfl) (by simp [base]) hFh hp1 (fun d => by go_simp) ?_
  refine Run.call rfl (mcalls_of_plain hP hFh hp1 (says_contract fun T => hlp_any s a len cap xs (tp w1 T 0) (intsAt_same h (show KeepW w (tp w1 T 0) from ⟨HK1.out.1, HK1.out.2, HK1.out.3, HK1.out.4⟩)) hm bo hb) saysR_tp) saysR_tp (fun v w2 hv hT2 hp2 => ?_)
  obtain ⟨rfl, hk2⟩ := hv
  have HK2 := Lib.hid (HK1.out.trans hk2)
  have HU2 := Lib.hid (hk2.two HU1.out)
  obtain ⟨u0, u1, u2⟩ := HU2.out
  walk_nrm
  refine Run.val hB (.bool (!bo)) w2 rfl (by rfl) (by simp [base]) rfl hp2 (fun d => by go_simp) (fun hp2 => ?_)
  walk_nrm
  refine Run.regionEnd ?_
  refine Run.cond (t := !bo) (by go_simp) ?_
  cases bo with
  | false =>
    simp only [Bool.not_false, if_true]
    refine Run.seq ?_
    refine Run.region ?_
    simp only [List.size_toArray, List.length_cons, List.length_nil, Nat.reduceAdd, Nat.zero_add, List.range, List.range.loop]
    refine Run.val hB (.slice none 0 0) w2 rfl (by rfl) (by simp [base]) rfl hp2 (fun d => by go_simp) (fun hp2 => ?_)
    walk_nrm
    refine Run.regionEnd ?_
    refine Run.ret ?_
    refine Run.back (f := 9) (R := fun v _ => v = .slice none 0 0) (fun _ _ _ _ h => h) ⟨rfl, _, rfl, rfl, rfl, rfl, _, Try.func9, ?_⟩ (fun v hv => ?_)
    · simp [results, Try.results9, go_sem, Frame.at]
    · subst hv
      exact K _ w2 (.inl ⟨rfl, rfl, HK2.out⟩) (hT2.trans HT1.out) hp2
  | true =>
    obtain ⟨ho, h12⟩ := hb.1 rfl
    obtain ⟨n, rfl⟩ : ∃ n : Nat, s = n := ⟨s.toNat, by have := ho.1; omega⟩
    simp only [Bool.not_true, Bool.false_eq_true, if_false]
    refine Run.skip ?_
    refine Run.seq ?_
    refine Run.region ?_
    simp only [List.size_toArray, List.length_cons, List.length_nil, Nat.reduceAdd, Nat.zero_add, List.range, List.range.loop]
    refine Run.val hB (rhy n a len cap) w2 rfl (by rfl) (by simp [base]) rfl hp2 (fun d => by
      have t1' : (w2.at d).cell? ⟨w.heap.size, 0, none⟩ = some (.int .i64 n) := u1
      have t2' : (w2.at d).cell? ⟨w.heap.size, 1, none⟩ = some (.slice a len cap) := u2
      go_simp) (fun hp2 => ?_)
    walk_nrm
    refine Run.goes (bodied_one 25 (by decide +kernel)) (f := 25) (args := #[rhy n a len cap, .int .i64 9223372036854775807]) rfl (by rfl) (by simp [base]) (by simp [plainOp]) hp2 (fun d => by go_simp) ?_
    refine partners_run hP hFs n a len cap xs 9223372036854775807 w2 (intsAt_same h HK2.out) hm ho (by omega) (by omega) hp2 (fun r hr => Nat.lt_of_lt_of_le (hG r hr) HK2.out.size) _ _ (fun lv w3 hR hT3 hp3 => ?_)
    rw [finish_dst rfl]
    walk_nrm
    refine Run.val hB lv w3 rfl (by rfl) (by simp [base]) rfl hp3 (fun d => by go_simp) (fun hp3 => ?_)
    walk_nrm
    refine Run.regionEnd ?_
    refine Run.ret ?_
    refine Run.back (f := 9) (R := fun v _ => v = lv) (fun _ _ _ _ h => h) ⟨rfl, _, rfl, rfl, rfl, rfl, _, Try.func9, ?_⟩ (fun v hv => ?_)
    · simp [results, Try.results9, go_sem, Frame.at]
    · subst hv
      refine K _ w3 (.inr ?_) (hT3.trans (hT2.trans HT1.out)) hp3
      have hsh : (partL n xs).take 9223372036854775807 = partL n xs := List.take_of_length_le (by
        have := part_short ho 9223372036854775807
        have h4 : (partL n xs).length ≤ 2 ^ (n - 1) := by
          unfold partL
          exact Nat.le_trans (List.length_filter_le _ _) (Nat.le_of_eq (bars_len n (n - 1) _))
        have h3 : 2 ^ (n - 1) ≤ 2 ^ 23 := Nat.pow_le_pow_right (by omega) (by omega)
        have h5 : (2 : Nat) ^ 23 = 8388608 := by decide
        omega)
      rw [hsh] at hR
      simpa using HK2.out.partR hR
end Go.Proofs.Ytgmhdmhnedljcaa.Co

/-
  Helpers of the claims beside this text: CountPartners of the program, as goroutine 0 runs it beside goroutines that only leave.
-/
namespace Go.Proofs.Ytgmhdmhnedljcaa.Co
open Go Go.Conc Go.RowKit Rhy
set_option linter.unusedVariables false
set_option linter.unusedSimpArgs false
set_option maxRecDepth 100000
theorem PartR.keep {n : Nat} {fin : List (List Int)} {w w' : World} {lv : Value} (h : PartR n fin w lv w') : KeepW w w' := by
  obtain ⟨got, _, _, _, h5, h6, h7, h8⟩ := h
  exact ⟨h5, h6, h7, h8⟩
theorem PartR.slice {n : Nat} {fin : List (List Int)} {w w' : World} {lv : Value} (h : PartR n fin w lv w') : ∃ a c, lv = .slice a fin.length c := by
  obtain ⟨got, h1, h2, _⟩ := h
  have hl : got.length = fin.length := by rw [← h1, List.length_map]
  rw [hl] at h2
  obtain ⟨_, h3 | ⟨g, cap, cur, h3, _⟩⟩ := h2
  · exact ⟨none, 0, by rw [h3.1, h3.2]⟩
  · exact ⟨_, _, h3⟩
set_option maxHeartbeats 4000000 in
theorem cpo_run {Post : Value → World → Prop} {F : FuncId → Bool} (hP : PlainFns Try.prog F) (hFs : F 32 = true) (hFh : F 24 = true) (s : Int) (a : Option Addr) (len cap : Nat) (xs : List Int) (w : World) (h : IntsAt w a len xs) (hm : len ≤ 1048576)
    (bo : Bool) (hb : bo = true ↔ (Ok s xs ∧ s ≤ 12)) (hp : NoPend Try.prog w) (hG : ∀ r, Try.prog.stepOf r ≠ none → r < w.heap.size) (c : Frame) (cs : List Frame)
    (K : ∀ (lv : Value) (w' : World), lv = .int .i64 (if bo then ((partL s.toNat xs).length : Int) else -1) → KeepW w w' → w'.tape = w.tape → NoPend Try.prog w' → Run Try.prog Post (G (c.finish lv) cs) w') :
    Run Try.prog Post (G (Frame.enter Try.prog 16 #[rhy s a len cap] .normal) (c :: cs)) w := by
  have hB := bodied hP
  rw [enter_at _ Try.func16 rfl]
  simp only [Try.ntmps16, List.size_toArray, List.length_cons, List.length_nil, Nat.reduceAdd, Nat.reduceSub, Array.replicate_succ, Array.replicate_zero, List.push_toArray, List.append_toArray, List.nil_append, List.cons_append]
  obtain ⟨w1, hw1⟩ : ∃ w1, w1 = w.alloc (.cells #[.int .i64 s, .slice a len cap] 28) := ⟨_, rfl⟩
  have HW1 := Lib.hid hw1
  clear hw1
  refine Run.seq ?_
  refine Run.region ?_
  simp only [List.size_toArray, List.length_cons, List.length_nil, Nat.reduceAdd, Nat.zero_add, List.range, List.range.loop]
  refine Run.val hB (.pointer (some ⟨w.heap.size, 0, none⟩)) w1 rfl (by rfl) (by simp [base]) rfl hp (fun d => by rw [HW1.out]; go_simp; exact ⟨rfl, rfl⟩) (fun hp1 => ?_)
  walk_nrm
  refine Run.val hB (.int .i64 0) w1 rfl (by rfl) (by simp [base]) rfl hp1 (fun d => by go_simp) (fun hp1 => ?_)
  walk_nrm
  refine Run.regionEnd ?_
  have hb01 : Below w.heap.size w w1 := by rw [HW1.out]; exact bel1 w _
  have HK1 := Lib.hid (KeepW.of hb01 (Nat.le_refl _))
  have HT1 := Lib.hid (show w1.tape = w.tape from hb01.tape)
  have HU1 := Lib.hid (show Rhy.Two w1 w.heap.size (.int .i64 s) (.slice a len cap) by rw [HW1.out]; exact two_new w _ _ _)
  obtain ⟨t0, t1, t2⟩ := HU1.out
  refine Run.seq ?_
  refine Run.seq ?_
  refine Run.region ?_
  simp only [List.size_toArray, List.length_cons, List.length_nil, Nat.reduceAdd, Nat.zero_add, List.range, List.range.loop]
  refine Run.val hB (rhy s a len cap) w1 rfl (by rfl) (by simp [base]) rfl hp1 (fun d => by
    have t1' : (w1.at d).cell? ⟨w.heap.size, 0, none⟩ = some (.int .i64 s) := t1
    have t2' : (w1.at d).cell? ⟨w.heap.size, 1, none⟩ = some (.slice a len cap) := t2
    go_simp) (fun hp1 => ?_)
  walk_nrm
  refine Run.goes hB (f := 24) (args := #[rhy s a len cap]) rfl (by rfl) (by simp [base]) hFh hp1 (fun d => by go_simp) ?_
  refine Run.call rfl (mcalls_of_plain hP hFh hp1 (says_contract fun T => hlp_any s a len cap xs (tp w1 T 0) (intsAt_same h (show KeepW w (tp w1 T 0) from ⟨HK1.out.1, HK1.out.2, HK1.out.3, HK1.out.4⟩)) hm bo hb) saysR_tp) saysR_tp (fun v w2 hv hT2 hp2 => ?_)
  obtain ⟨rfl, hk2⟩ := hv
  have HK2 := Lib.hid (HK1.out.trans hk2)
  have HU2 := Lib.hid (hk2.two HU1.out)
  obtain ⟨u0, u1, u2⟩ := HU2.out
  walk_nrm
  refine Run.val hB (.bool (!bo)) w2 rfl (by rfl) (by simp [base]) rfl hp2 (fun d => by go_simp) (fun hp2 => ?_)
  walk_nrm
  refine Run.regionEnd ?_
  refine Run.cond (t := !bo) (by go_simp) ?_
  cases bo with
  | false =>
    simp only [Bool.not_false, if_true]
    refine Run.seq ?_
    refine Run.region ?_
    simp only [List.size_toArray, List.length_cons, List.length_nil, Nat.reduceAdd, Nat.zero_add, List.range, List.range.loop]
    refine Run.val hB (.int .i64 (-1)) w2 rfl (by rfl) (by simp [base]) rfl hp2 (fun d => by go_simp) (fun hp2 => ?_)
    walk_nrm
    refine Run.regionEnd ?_
    refine Run.ret ?_
    refine Run.back (f := 16) (R := fun v _ => v = .int .i64 (-1)) (fun _ _ _ _ h => h) ⟨rfl, _, rfl, rfl, rfl, rfl, _, Try.func16, ?_⟩ (fun v hv => ?_)
    · simp [results, Try.results16, go_sem, Frame.at]
    · subst hv
      exact K _ w2 rfl HK2.out (hT2.trans HT1.out) hp2
  | true =>
    obtain ⟨ho, h12⟩ := hb.1 rfl
    obtain ⟨n, rfl⟩ : ∃ n : Nat, s = n := ⟨s.toNat, by have := ho.1; omega⟩
    simp only [Bool.not_true, Bool.false_eq_true, if_false]
    refine Run.skip ?_
    refine Run.seq ?_
    refine Run.region ?_
    simp only [List.size_toArray, List.length_cons, List.length_nil, Nat.reduceAdd, Nat.zero_add, List.range, List.range.loop]
    refine Run.val hB (rhy n a len cap) w2 rfl (by rfl) (by simp [base]) rfl hp2 (fun d => by
      have t1' : (w2.at d).cell? ⟨w.heap.size, 0, none⟩ = some (.int .i64 n) := u1
      have t2' : (w2.at d).cell? ⟨w.heap.size, 1, none⟩ = some (.slice a len cap) := u2
      go_simp) (fun hp2 => ?_)
    walk_nrm
    refine Run.goes (bodied_one 25 (by decide +kernel)) (f := 25) (args := #[rhy n a len cap, .int .i64 9223372036854775807]) rfl (by rfl) (by simp [base]) (by simp [plainOp]) hp2 (fun d => by go_simp) ?_
    refine partners_run hP hFs n a len cap xs 9223372036854775807 w2 (intsAt_same h HK2.out) hm ho (by omega) (by omega) hp2 (fun r hr => Nat.lt_of_lt_of_le (hG r hr) HK2.out.size) _ _ (fun lv w3 hR hT3 hp3 => ?_)
    rw [finish_dst rfl]
    walk_nrm
    have hsh : (partL n xs).take 9223372036854775807 = partL n xs := List.take_of_length_le (by
      have h4 : (partL n xs).length ≤ 2 ^ (n - 1) := by
        unfold partL
        exact Nat.le_trans (List.length_filter_le _ _) (Nat.le_of_eq (bars_len n (n - 1) _))
      have h3 : 2 ^ (n - 1) ≤ 2 ^ 23 := Nat.pow_le_pow_right (by omega) (by omega)
      have h5 : (2 : Nat) ^ 23 = 8388608 := by decide
      omega)
    rw [hsh] at hR
    have HK3 := Lib.hid (HK2.out.trans hR.keep)
    obtain ⟨a3, c3, rfl⟩ := hR.slice
    refine Run.val hB (.int .i64 ((partL n xs).length : Int)) w3 rfl (by rfl) (by simp [base]) rfl hp3 (fun d => by go_simp) (fun hp3 => ?_)
    walk_nrm
    refine Run.val hB (.int .i64 ((partL n xs).length : Int)) w3 rfl (by rfl) (by simp [base]) rfl hp3 (fun d => by go_simp) (fun hp3 => ?_)
    walk_nrm
    refine Run.regionEnd ?_
    refine Run.ret ?_
    refine Run.back (f := 16) (R := fun v _ => v = .int .i64 ((partL n xs).length : Int)) (fun _ _ _ _ h => h) ⟨rfl, _, rfl, rfl, rfl, rfl, _, Try.func16, ?_⟩ (fun v hv => ?_)
    · simp [results, Try.results16, go_sem, Frame.at]
    · subst hv
      exact K _ w3 (by simp) HK3.out (hT3.trans (hT2.trans HT1.out)) hp3
end Go.Proofs.Ytgmhdmhnedljcaa.Co

/-
  Helpers of the claims beside this text: FirstPartner of the program, as goroutine 0 runs it beside goroutines that only leave.
-/
namespace Go.Proofs.Ytgmhdmhnedljcaa.Co
open Go Go.Conc Go.RowKit Rhy
set_option linter.unusedVariables false
set_option linter.unusedSimpArgs false
set_option maxRecDepth 100000
theorem val_any (s : Int) (a : Option Addr) (len cap : Nat) (zs : List Int) (w : World) (h : IntsAt w a len zs) (hm : len ≤ 1048576) (b : Bool) (hb : b = true ↔ Ok s zs) :
    Calls Try.prog 29 #[rhy s a len cap] w fun e w' => e = .returned (.bool b) ∧ Below w.heap.size w w' := by
  by_cases ho : Ok s zs
  · rw [hb.2 ho]; exact valid_yes s a len cap zs w h hm ho
  · have hb' : b = false := by
      cases b with
      | false => rfl
      | true => exact absurd (hb.1 rfl) ho
    rw [hb']; exact valid_no s a len cap zs w h hm ho
theorem KeepW.set {w w' : World} (h : KeepW w w') {b o : Nat} {c : Option Nat} (v : Value) (hb : w.heap.size ≤ b) : KeepW w (w'.setCell ⟨b, o, none⟩ v) := by
  refine ⟨h.os, h.output, by simpa using h.size, fun k hk => ?_⟩
  rw [Below.heap_setCell _ _ _ _ (by show k ≠ b; omega)]
  exact h.block k hk
theorem KeepW.box {w w' : World} {b : Nat} {v0 v1 : Value} {t : TypeId} (h : KeepW w w') (k : Box w b v0 v1 t) : Box w' b v0 v1 t := by
  have := k.lt
  unfold Box at k ⊢
  rw [h.block b this]
  exact k
/-- FirstPartner's answer: the first of these with 'true', or nothing with 'false'. -/
def FParR (s : Int) (fin : List (List Int)) (w : World) (lv : Value) (w' : World) : Prop := KeepW w w' ∧
  ((fin = [] ∧ lv = .tuple #[rhy 0 none 0 0, .bool false]) ∨
   ∃ l ls av cv, fin = l :: ls ∧ lv = .tuple #[rhy s av l.length cv, .bool true] ∧ w'.ownsRow w.heap.size 3 1 (.slice av l.length cv) l.length (ints l))
/-- What the first entry of the list is, where there is one. -/
theorem PartR.first {n : Nat} {l : List Int} {ls : List (List Int)} {w w' : World} {lv : Value} (h : PartR n (l :: ls) w lv w') : ∃ g c av cv, lv = .slice (some ⟨g, 0, none⟩) (ls.length + 1) c ∧ g < w'.heap.size ∧ w'.cell? ⟨g, 0, none⟩ = some (.int .i64 n) ∧
    w'.cell? ⟨g, 1, none⟩ = some (.slice av l.length cv) ∧ w'.ownsRow w.heap.size 3 1 (.slice av l.length cv) l.length (ints l) := by
  obtain ⟨got, h1, h2, ⟨f, h3, h4⟩, h5, h6, h7, h8⟩ := h
  cases got with
  | nil => simp at h1
  | cons p rest =>
    simp only [List.map_cons, List.cons.injEq] at h1
    obtain ⟨rfl, hls⟩ := h1
    obtain ⟨av, cv, hp, hrow, hf⟩ := h4 p (by simp)
    have hlen : rest.length = ls.length := by rw [← hls, List.length_map]
    obtain ⟨g1, ⟨_, g2⟩ | ⟨g, cap, cur, rfl, hB, hg, hn, hm, hs, ht⟩⟩ := h2
    · simp at g2
    · have hlt : g < w'.heap.size := (Array.getElem?_eq_some_iff.1 hg).1
      have e0 : gotC (p :: rest) = .int .i64 n :: .slice av p.1.length cv :: gotC rest := by simp [gotC, hp, rhy]
      rw [e0] at ht
      have c0 : cur[0]? = some (.int .i64 n) := by
        have : (cur.toList.take ((p :: rest).length * 2))[0]? = some (.int .i64 n) := by rw [ht]; rfl
        rw [List.getElem?_take] at this
        rw [← Array.getElem?_toList]
        split at this
        · exact this
        · cases this
      have c1 : cur[1]? = some (.slice av p.1.length cv) := by
        have : (cur.toList.take ((p :: rest).length * 2))[1]? = some (.slice av p.1.length cv) := by rw [ht]; rfl
        rw [List.getElem?_take] at this
        rw [← Array.getElem?_toList]
        split at this
        · exact this
        · cases this
      refine ⟨g, cap, av, cv, by simp [hlen], hlt, by simp [World.cell?, hg, c0], by simp [World.cell?, hg, c1], own_up hrow fun j hj => (h3 j (hf j hj)).1⟩
set_option maxHeartbeats 4000000 in
theorem fpa_run {Post : Value → World → Prop} {F : FuncId → Bool} (hP : PlainFns Try.prog F) (hFs : F 32 = true) (hFh : F 29 = true) (s : Int) (a : Option Addr) (len cap : Nat) (xs : List Int) (w : World) (h : IntsAt w a len xs) (hm : len ≤ 1048576)
    (bo : Bool) (hb : bo = true ↔ Ok s xs) (hp : NoPend Try.prog w) (hG : ∀ r, Try.prog.stepOf r ≠ none → r < w.heap.size) (c : Frame) (cs : List Frame)
    (K : ∀ (lv : Value) (w' : World), FParR s (if bo then (partL s.toNat xs).take 1 else []) w lv w' → w'.tape = w.tape → NoPend Try.prog w' → Run Try.prog Post (G (c.finish lv) cs) w') :
    Run Try.prog Post (G (Frame.enter Try.prog 18 #[rhy s a len cap] .normal) (c :: cs)) w := by
  have hB := bodied hP
  rw [enter_at _ Try.func18 rfl]
  simp only [Try.ntmps18, List.size_toArray, List.length_cons, List.length_nil, Nat.reduceAdd, Nat.reduceSub, Array.replicate_succ, Array.replicate_zero, List.push_toArray, List.append_toArray, List.nil_append, List.cons_append]
  obtain ⟨w0, hw0⟩ : ∃ w0, w0 = w.alloc (.cells #[.int .i64 s, .slice a len cap] 28) := ⟨_, rfl⟩
  have HW0 := Lib.hid hw0
  clear hw0
  obtain ⟨w1, hw1⟩ : ∃ w1, w1 = w0.alloc (.cells #[.int .i64 0, .slice none 0 0] 28) := ⟨_, rfl⟩
  have HW1 := Lib.hid hw1
  clear hw1
  have HZ := Lib.hid (show w0.heap.size = w.heap.size + 1 by rw [HW0.out]; simp)
  refine Run.seq ?_
  refine Run.region ?_
  simp only [List.size_toArray, List.length_cons, List.length_nil, Nat.reduceAdd, Nat.zero_add, List.range, List.range.loop]
  refine Run.val hB (.pointer (some ⟨w.heap.size, 0, none⟩)) w0 rfl (by rfl) (by simp [base]) rfl hp (fun d => by rw [HW0.out]; go_simp; exact ⟨rfl, rfl⟩) (fun hp1 => ?_)
  walk_nrm
  refine Run.val hB (.pointer (some ⟨w0.heap.size, 0, none⟩)) w1 rfl (by rfl) (by simp [base]) rfl hp1 (fun d => by rw [HW1.out]; go_simp; exact ⟨rfl, rfl⟩) (fun hp1 => ?_)
  walk_nrm
  refine Run.val hB (.bool false) w1 rfl (by rfl) (by simp [base]) rfl hp1 (fun d => by go_simp) (fun hp1 => ?_)
  walk_nrm
  refine Run.regionEnd ?_
  have hb01 : Below w.heap.size w w1 := by rw [HW1.out, HW0.out]; exact bel2 w _ _
  have HK1 := Lib.hid (KeepW.of hb01 (Nat.le_refl _))
  have HT1 := Lib.hid (show w1.tape = w.tape from hb01.tape)
  have HU1 := Lib.hid (show Rhy.Two w1 w.heap.size (.int .i64 s) (.slice a len cap) by rw [HW1.out, HW0.out]; exact (two_new w _ _ _).keep (bel1 _ _))
  have HX1 := Lib.hid (show Box w1 w0.heap.size (.int .i64 0) (.slice none 0 0) 28 by rw [HW1.out]; exact box_new w0 _ _ _)
  obtain ⟨t0, t1, t2⟩ := HU1.out
  refine Run.seq ?_
  refine Run.seq ?_
  refine Run.region ?_
  simp only [List.size_toArray, List.length_cons, List.length_nil, Nat.reduceAdd, Nat.zero_add, List.range, List.range.loop]
  refine Run.val hB (rhy s a len cap) w1 rfl (by rfl) (by simp [base]) rfl hp1 (fun d => by
    have t1' : (w1.at d).cell? ⟨w.heap.size, 0, none⟩ = some (.int .i64 s) := t1
    have t2' : (w1.at d).cell? ⟨w.heap.size, 1, none⟩ = some (.slice a len cap) := t2
    go_simp) (fun hp1 => ?_)
  walk_nrm
  refine Run.goes hB (f := 29) (args := #[rhy s a len cap]) rfl (by rfl) (by simp [base]) hFh hp1 (fun d => by go_simp) ?_
  refine Run.call rfl (mcalls_of_plain hP hFh hp1 (says_contract fun T => val_any s a len cap xs (tp w1 T 0) (intsAt_same h (show KeepW w (tp w1 T 0) from ⟨HK1.out.1, HK1.out.2, HK1.out.3, HK1.out.4⟩)) hm bo hb) saysR_tp) saysR_tp (fun v w2 hv hT2 hp2 => ?_)
  obtain ⟨rfl, hk2⟩ := hv
  have HK2 := Lib.hid (HK1.out.trans hk2)
  have HU2 := Lib.hid (hk2.two HU1.out)
  have HX2 := Lib.hid (hk2.box HX1.out)
  obtain ⟨u0, u1, u2⟩ := HU2.out
  obtain ⟨x0, x1, x2, x3⟩ := HX2.out.facts
  walk_nrm
  refine Run.val hB (.bool (!bo)) w2 rfl (by rfl) (by simp [base]) rfl hp2 (fun d => by go_simp) (fun hp2 => ?_)
  walk_nrm
  refine Run.regionEnd ?_
  refine Run.cond (t := !bo) (by go_simp) ?_
  cases bo with
  | false =>
    simp only [Bool.not_false, if_true]
    refine Run.seq ?_
    refine Run.region ?_
    simp only [List.size_toArray, List.length_cons, List.length_nil, Nat.reduceAdd, Nat.zero_add, List.range, List.range.loop]
    refine Run.val hB (.agg #[.int .i64 0, .slice none 0 0]) w2 rfl (by rfl) (by simp [base]) rfl hp2 (fun d => by go_simp) (fun hp2 => ?_)
    walk_nrm
    obtain ⟨wz, hwz⟩ : ∃ wz, wz = (w2.setCell ⟨w0.heap.size, 0, none⟩ (.int .i64 0)).setCell ⟨w0.heap.size, 1, none⟩ (.slice none 0 0) := ⟨_, rfl⟩
    have HWZ := Lib.hid hwz
    clear hwz
    refine Run.none hB wz rfl (by rfl) (by simp [base]) rfl hp2 (fun d => by
      have x0' : (w2.at d).cell? ⟨w0.heap.size, 0, none⟩ = some (.int .i64 0) := x0
      have x1' : (w2.at d).cell? ⟨w0.heap.size, 1, none⟩ = some (.slice none 0 0) := x1
      have x2' : (w2.at d).frozen? ⟨w0.heap.size, 0, none⟩ = false := x2
      have x3' : (w2.at d).frozen? ⟨w0.heap.size, 1, none⟩ = false := x3
      rw [HWZ.out]
      go_simp
      first | done | rfl | exact ⟨rfl, rfl⟩ | (simp [go_sem, x2', x3']; done) | (simp [go_sem, x2', x3']; rfl)) (fun hp2 => ?_)
    walk_nrm
    refine Run.val hB (.bool false) wz rfl (by rfl) (by simp [base]) rfl hp2 (fun d => by go_simp) (fun hp2 => ?_)
    walk_nrm
    refine Run.regionEnd ?_
    refine Run.ret ?_
    have HXZ := Lib.hid (show Box wz w0.heap.size (.int .i64 0) (.slice none 0 0) 28 by rw [HWZ.out]; exact (HX2.out.set0 _).set1 _)
    obtain ⟨y0, y1, y2, y3⟩ := HXZ.out.facts
    have HKZ := Lib.hid (show KeepW w wz by rw [HWZ.out]; exact (HK2.out.set (c := none) _ (by have := HZ.out; omega)).set (c := none) _ (by have := HZ.out; omega))
    refine Run.back (f := 18) (R := fun v _ => v = .tuple #[rhy 0 none 0 0, .bool false]) (fun _ _ _ _ h => h) ⟨rfl, _, rfl, rfl, rfl, rfl, _, Try.func18, ?_⟩ (fun v hv => ?_)
    · simp [results, Try.results18, go_sem, Frame.at, *]
    · subst hv
      exact K _ wz ⟨HKZ.out, .inl ⟨rfl, rfl⟩⟩ (by rw [HWZ.out]; exact hT2.trans HT1.out) hp2
  | true =>
    have ho := hb.1 rfl
    obtain ⟨n, rfl⟩ : ∃ n : Nat, s = n := ⟨s.toNat, by have := ho.1; omega⟩
    simp only [Bool.not_true, Bool.false_eq_true, if_false]
    refine Run.skip ?_
    refine Run.seq ?_
    refine Run.region ?_
    simp only [List.size_toArray, List.length_cons, List.length_nil, Nat.reduceAdd, Nat.zero_add, List.range, List.range.loop]
    refine Run.val hB (rhy n a len cap) w2 rfl (by rfl) (by simp [base]) rfl hp2 (fun d => by
      have t1' : (w2.at d).cell? ⟨w.heap.size, 0, none⟩ = some (.int .i64 n) := u1
      have t2' : (w2.at d).cell? ⟨w.heap.size, 1, none⟩ = some (.slice a len cap) := u2
      go_simp) (fun hp2 => ?_)
    walk_nrm
    refine Run.goes (bodied_one 25 (by decide +kernel)) (f := 25) (args := #[rhy n a len cap, .int .i64 1]) rfl (by rfl) (by simp [base]) (by simp [plainOp]) hp2 (fun d => by go_simp) ?_
    refine partners_run hP hFs n a len cap xs 1 w2 (intsAt_same h HK2.out) hm ho (by omega) (by omega) hp2 (fun r hr => Nat.lt_of_lt_of_le (hG r hr) HK2.out.size) _ _ (fun lv w3 hR hT3 hp3 => ?_)
    rw [finish_dst rfl]
    have HR := Lib.hid hR
    have HX3 := Lib.hid (hR.keep.box HX2.out)
    have HK3 := Lib.hid (HK2.out.trans hR.keep)
    clear hR x0 x1 x2 x3
    obtain ⟨x0, x1, x2, x3⟩ := HX3.out.facts
    obtain ⟨a3, c3, hlv⟩ := HR.out.slice
    obtain ⟨L, hL⟩ : ∃ L, (partL n xs).take 1 = L := ⟨_, rfl⟩
    have HL := Lib.hid hL
    rw [hL] at hlv HR
    clear hL
    have h1L : L.length ≤ 1 := by rw [← HL.out, List.length_take]; omega
    walk_nrm
    refine Run.val hB lv w3 rfl (by rfl) (by simp [base]) rfl hp3 (fun d => by go_simp) (fun hp3 => ?_)
    walk_nrm
    refine Run.regionEnd ?_
    refine Run.seq ?_
    refine Run.seq ?_
    refine Run.region ?_
    simp only [List.size_toArray, List.length_cons, List.length_nil, Nat.reduceAdd, Nat.zero_add, List.range, List.range.loop]
    refine Run.val hB lv w3 rfl (by rfl) (by simp [base]) rfl hp3 (fun d => by go_simp) (fun hp3 => ?_)
    walk_nrm
    refine Run.val hB (.int .i64 (L.length : Int)) w3 rfl (by rfl) (by simp [base]) rfl hp3 (fun d => by subst hlv; go_simp) (fun hp3 => ?_)
    walk_nrm
    refine Run.val hB (.bool ((L.length : Int) == 0)) w3 rfl (by rfl) (by simp [base]) rfl hp3 (fun d => by go_simp) (fun hp3 => ?_)
    walk_nrm
    refine Run.regionEnd ?_
    refine Run.cond (t := ((L.length : Int) == 0)) (by go_simp) ?_
    cases L with
    | nil =>
      rw [show (((([] : List (List Int)).length : Nat) : Int) == 0) = true from rfl]
      simp only [if_true]
      refine Run.seq ?_
      refine Run.region ?_
      simp only [List.size_toArray, List.length_cons, List.length_nil, Nat.reduceAdd, Nat.zero_add, List.range, List.range.loop]
      refine Run.val hB (.agg #[.int .i64 0, .slice none 0 0]) w3 rfl (by rfl) (by simp [base]) rfl hp3 (fun d => by go_simp) (fun hp3 => ?_)
      walk_nrm
      obtain ⟨wz, hwz⟩ : ∃ wz, wz = (w3.setCell ⟨w0.heap.size, 0, none⟩ (.int .i64 0)).setCell ⟨w0.heap.size, 1, none⟩ (.slice none 0 0) := ⟨_, rfl⟩
      have HWZ := Lib.hid hwz
      clear hwz
      refine Run.none hB wz rfl (by rfl) (by simp [base]) rfl hp3 (fun d => by
        have x0' : (w3.at d).cell? ⟨w0.heap.size, 0, none⟩ = some (.int .i64 0) := x0
        have x1' : (w3.at d).cell? ⟨w0.heap.size, 1, none⟩ = some (.slice none 0 0) := x1
        have x2' : (w3.at d).frozen? ⟨w0.heap.size, 0, none⟩ = false := x2
        have x3' : (w3.at d).frozen? ⟨w0.heap.size, 1, none⟩ = false := x3
        rw [HWZ.out]
        go_simp
        first | done | rfl | exact ⟨rfl, rfl⟩ | (simp [go_sem, x2', x3']; done) | (simp [go_sem, x2', x3']; rfl)) (fun hp3 => ?_)
      walk_nrm
      refine Run.val hB (.bool false) wz rfl (by rfl) (by simp [base]) rfl hp3 (fun d => by go_simp) (fun hp3 => ?_)
      walk_nrm
      refine Run.regionEnd ?_
      refine Run.ret ?_
      have HXZ := Lib.hid (show Box wz w0.heap.size (.int .i64 0) (.slice none 0 0) 28 by rw [HWZ.out]; exact (HX3.out.set0 _).set1 _)
      obtain ⟨y0, y1, y2, y3⟩ := HXZ.out.facts
      have HKZ := Lib.hid (show KeepW w wz by rw [HWZ.out]; exact (HK3.out.set (c := none) _ (by have := HZ.out; omega)).set (c := none) _ (by have := HZ.out; omega))
      refine Run.back (f := 18) (R := fun v _ => v = .tuple #[rhy 0 none 0 0, .bool false]) (fun _ _ _ _ h => h) ⟨rfl, _, rfl, rfl, rfl, rfl, _, Try.func18, ?_⟩ (fun v hv => ?_)
      · simp [results, Try.results18, go_sem, Frame.at, *]
      · subst hv
        exact K _ wz ⟨HKZ.out, .inl ⟨by simpa using HL.out, rfl⟩⟩ (by rw [HWZ.out]; exact hT3.trans (hT2.trans HT1.out)) hp3
    | cons l ls =>
      have hz : (((l :: ls).length : Int) == 0) = false := by simp; omega
      rw [hz]
      simp only [Bool.false_eq_true, if_false]
      refine Run.skip ?_
      obtain ⟨g, cc, av, cv, hlv', hg, c0, c1, hrow⟩ := HR.out.first
      clear hlv
      refine Run.seq ?_
      refine Run.region ?_
      simp only [List.size_toArray, List.length_cons, List.length_nil, Nat.reduceAdd, Nat.zero_add, List.range, List.range.loop]
      refine Run.val hB lv w3 rfl (by rfl) (by simp [base]) rfl hp3 (fun d => by go_simp) (fun hp3 => ?_)
      walk_nrm
      refine Run.val hB (.pointer (some ⟨g, 0, none⟩)) w3 rfl (by rfl) (by simp [base]) rfl hp3 (fun d => by subst hlv'; go_simp) (fun hp3 => ?_)
      walk_nrm
      refine Run.val hB (rhy n av l.length cv) w3 rfl (by rfl) (by simp [base]) rfl hp3 (fun d => by
        have c0' : (w3.at d).cell? ⟨g, 0, none⟩ = some (.int .i64 n) := c0
        have c1' : (w3.at d).cell? ⟨g, 1, none⟩ = some (.slice av l.length cv) := c1
        go_simp) (fun hp3 => ?_)
      walk_nrm
      obtain ⟨wz, hwz⟩ : ∃ wz, wz = (w3.setCell ⟨w0.heap.size, 0, none⟩ (.int .i64 n)).setCell ⟨w0.heap.size, 1, none⟩ (.slice av l.length cv) := ⟨_, rfl⟩
      have HWZ := Lib.hid hwz
      clear hwz
      refine Run.none hB wz rfl (by rfl) (by simp [base]) rfl hp3 (fun d => by
        have x0' : (w3.at d).cell? ⟨w0.heap.size, 0, none⟩ = some (.int .i64 0) := x0
        have x1' : (w3.at d).cell? ⟨w0.heap.size, 1, none⟩ = some (.slice none 0 0) := x1
        have x2' : (w3.at d).frozen? ⟨w0.heap.size, 0, none⟩ = false := x2
        have x3' : (w3.at d).frozen? ⟨w0.heap.size, 1, none⟩ = false := x3
        rw [HWZ.out]
        go_simp
        first | done | rfl | exact ⟨rfl, rfl⟩) (fun hp3 => ?_)
      walk_nrm
      refine Run.val hB (.bool true) wz rfl (by rfl) (by simp [base]) rfl hp3 (fun d => by go_simp) (fun hp3 => ?_)
      walk_nrm
      refine Run.regionEnd ?_
      refine Run.ret ?_
      have HXZ := Lib.hid (show Box wz w0.heap.size (.int .i64 n) (.slice av l.length cv) 28 by rw [HWZ.out]; exact (HX3.out.set0 _).set1 _)
      obtain ⟨y0, y1, y2, y3⟩ := HXZ.out.facts
      have HKZ := Lib.hid (show KeepW w wz by rw [HWZ.out]; exact (HK3.out.set (c := none) _ (by have := HZ.out; omega)).set (c := none) _ (by have := HZ.out; omega))
      refine Run.back (f := 18) (R := fun v _ => v = .tuple #[rhy n av l.length cv, .bool true]) (fun _ _ _ _ h => h) ⟨rfl, _, rfl, rfl, rfl, rfl, _, Try.func18, ?_⟩ (fun v hv => ?_)
      · simp [results, Try.results18, go_sem, Frame.at, *]
      · subst hv
        refine K _ wz ⟨HKZ.out, .inr ⟨l, ls, av, cv, by simpa using HL.out, rfl, ?_⟩⟩ (by rw [HWZ.out]; exact hT3.trans (hT2.trans HT1.out)) hp3
        have hj : ∀ j, (Value.slice av l.length cv).ownBlock = some j → w2.heap.size ≤ j := fun j hj => by
          obtain ⟨_, ⟨e', _⟩ | ⟨gg, cap', cur', e', hB', _⟩⟩ := hrow
          · rw [e'] at hj
            cases hj
          · rw [e'] at hj
            cases hj
            exact hB'
        refine own_down (own_blocks hrow fun j hj' => ?_) HK2.out.size
        have h5 := hj j hj'
        have h6 := HX2.out.lt
        rw [HWZ.out, Below.heap_setCell _ _ _ _ (by show j ≠ w0.heap.size; omega), Below.heap_setCell _ _ _ _ (by show j ≠ w0.heap.size; omega)]
end Go.Proofs.Ytgmhdmhnedljcaa.Co

/-
  Helpers of the claims beside this text: a call of a plain function in a law's body that goroutine 0 runs beside goroutines that only leave, by the callee's lone contract: one rule.
-/
namespace Go.Proofs.Ytgmhdmhnedljcaa.Co
open Go Go.Conc Go.RowKit Rhy
set_option linter.unusedVariables false
set_option linter.unusedSimpArgs false
set_option maxRecDepth 100000
theorem keepW_tp {w w' : World} (h : KeepW w w') (T : Nat → Question → Nat) (d : Nat) : KeepW w (tp w' T d) := ⟨h.os, h.output, h.size, h.block⟩
theorem keepW_of_tp {w w' : World} {T : Nat → Question → Nat} {d : Nat} (h : Below w.heap.size (tp w T d) w') : KeepW w w' := ⟨h.os, h.output, h.size, h.block⟩
theorem KeepW.refl (w : World) : KeepW w w := ⟨rfl, rfl, Nat.le_refl _, fun _ _ => rfl⟩
theorem keepW_alloc (w : World) (o : Obj) : KeepW w (w.alloc o) := KeepW.of (bel1 w o) (Nat.le_refl _)
/-- An operation that calls a plain function: R is what the callee's contract says of the result, told without the tape. -/
theorem Run.plain {F : FuncId → Bool} {Post : Value → World → Prop} {b : Frame} {a : Act} {k : List Item} {cs : List Frame} {w : World} (hP : PlainFns Try.prog F) {ops : Array Oper} {i : Nat} {rest : List Nat} {o : Oper} {f : FuncId} {args : Array Value} (ho : ops[i]? = some o)
    (hw : Region.wanted o (yielded ops a.tmps) = true) (hk : b.kind ≠ .early) (hpl : plainOp Try.prog F o.op = true) (hf : F f = true) (hp : NoPend Try.prog w) (hr : ∀ d, (execOp a.eval o).run Try.prog (w.at d) = .ok (.enter f args) (w.at d)) (R : Value → World → Prop)
    (hR : ∀ v w T d, R v w → R v (tp w T d)) (h : ∀ T, Calls Try.prog f args (tp w T 0) fun e w' => ∃ v, e = .returned v ∧ R v w' ∧ Below w.heap.size (tp w T 0) w')
    (K : ∀ v w', R v w' → KeepW w w' → w'.tape = w.tape → NoPend Try.prog w' → Run Try.prog Post (G (b.at (a.put o.dst v) (.inRegion ops rest :: k)) cs) w') :
    Run Try.prog Post (G (b.at a (.inRegion ops (i :: rest) :: k)) cs) w := by
  have hR' : ∀ v w' T d, (R v w' ∧ KeepW w w') → (R v (tp w' T d) ∧ KeepW w (tp w' T d)) := fun v w' T d hx => ⟨hR v w' T d hx.1, keepW_tp hx.2 T d⟩
  have hC : Contract Try.prog (Frame.enter Try.prog f args .normal) w f (fun v w' => R v w' ∧ KeepW w w') :=
    contract_of_calls (R0 := fun _ v w' => R v w' ∧ KeepW w w') (fun T => (h T).mono fun e w' he => by
      obtain ⟨v, rfl, h1, h2⟩ := he
      exact ⟨v, rfl, h1, keepW_of_tp h2⟩) (fun _ _ _ h => h)
  refine Run.goes (bodied hP) (f := f) (args := args) ho hw hk hpl hp hr ?_
  exact Run.call ho (mcalls_of_plain hP hf hp hC hR') hR' fun v w' hv hT hN => K v w' hv.1 hv.2 hT hN
end Go.Proofs.Ytgmhdmhnedljcaa.Co

/-
  Helpers of the claims beside this text: a region that draws its order, as goroutine 0 runs it beside goroutines that only leave: whichever operation comes up next.
-/
namespace Go.Proofs.Ytgmhdmhnedljcaa.Co
open Go Go.Conc Go.RowKit Rhy
set_option linter.unusedVariables false
set_option linter.unusedSimpArgs false
set_option maxRecDepth 100000
section
variable (P : Program) (Post : Value → World → Prop) (b : Frame) (ops : Array Oper) (k : List Item) (cs : List Frame)
/-- Whichever operation that is ready comes up next, it goes on well. -/
def AnyR : Nat → Array Bool → Act → World → Prop
  | 0, _, a, w => Run P Post (G (b.at a (.inRegion ops [] :: k)) cs) w
  | n + 1, l, a, w => (Region.ready .any ops l = [] → Run P Post (G (b.at a (.inRegion ops [] :: k)) cs) w) ∧
      ∀ i ∈ Region.ready .any ops l, ∀ rest, (∀ a' w', AnyR n (l.setIfInBounds i true) a' w' → Run P Post (G (b.at a' (.inRegion ops rest :: k)) cs) w') → Run P Post (G (b.at a (.inRegion ops (i :: rest) :: k)) cs) w
end
section
variable {P : Program} {Post : Value → World → Prop} {b : Frame} {ops : Array Oper} {k : List Item} {cs : List Frame} {a : Act} {w : World}
theorem anyR_sound : ∀ (n t : Nat) (l : Array Bool) (a : Act) (w : World), AnyR P Post b ops k cs n l a w → Run P Post (G (b.at a (.inRegion ops (Region.linearise.go .any ops n t l []) :: k)) cs) w := by
  intro n
  induction n with
  | zero => intro t l a w h; simp only [Region.linearise.go, List.reverse_nil]; exact h
  | succ n ih =>
    intro t l a w h
    obtain ⟨h0, h1⟩ := h
    simp only [Region.linearise.go]
    change Run P Post (G (b.at a (.inRegion ops (match (Region.ready .any ops l)[t % (Region.ready .any ops l).length]? with
      | some i => Region.linearise.go .any ops n (t / (Region.ready .any ops l).length) (l.setIfInBounds i true) [i]
      | none => [].reverse) :: k)) cs) w
    cases hr : (Region.ready .any ops l)[t % (Region.ready .any ops l).length]? with
    | none =>
      refine h0 ?_
      cases hx : Region.ready .any ops l with
      | nil => rfl
      | cons x xs =>
        rw [hx] at hr
        rw [List.getElem?_eq_none_iff] at hr
        have := Nat.mod_lt t (show 0 < (x :: xs).length by simp)
        omega
    | some i =>
      have hm : i ∈ Region.ready .any ops l := List.mem_of_getElem? hr
      simp only []
      rw [linearise_go_acc, List.reverse_singleton, List.singleton_append]
      exact h1 i hm _ fun a' w' h' => ih _ _ a' w' h'
theorem Run.region_any {id : Nat} (hm : P.follows .mixedOrders = true) (h : ∀ n, AnyR P Post b ops k cs ops.size (Array.replicate ops.size false) a (w.at n)) : Run P Post (G (b.at a (.code (.region id ops true) :: k)) cs) w := by
  refine Run.draw fun t n => ?_
  have e : Region.schedule (P.follows .mixedOrders) ops t = Region.linearise.go .any ops ops.size t (Array.replicate ops.size false) [] := by
    simp only [Region.schedule, hm, Bool.true_or, if_true]
    rfl
  rw [e]
  exact anyR_sound _ _ _ _ _ (h n)
theorem anyR_zero {l : Array Bool} (h : Run P Post (G (b.at a (.inRegion ops [] :: k)) cs) w) : AnyR P Post b ops k cs 0 l a w := h
theorem anyR_one {n : Nat} {l : Array Bool} (x : Nat) (e : Region.ready .any ops l = [x]) (h : ∀ rest, (∀ a' w', AnyR P Post b ops k cs n (l.setIfInBounds x true) a' w' → Run P Post (G (b.at a' (.inRegion ops rest :: k)) cs) w') → Run P Post (G (b.at a (.inRegion ops (x :: rest) :: k)) cs) w) :
    AnyR P Post b ops k cs (n + 1) l a w :=
  ⟨fun h0 => (by rw [e] at h0; cases h0), fun i hi => by
    rw [e, List.mem_singleton] at hi
    subst hi
    exact h⟩
theorem anyR_two {n : Nat} {l : Array Bool} (x y : Nat) (e : Region.ready .any ops l = [x, y]) (h : ∀ rest, (∀ a' w', AnyR P Post b ops k cs n (l.setIfInBounds x true) a' w' → Run P Post (G (b.at a' (.inRegion ops rest :: k)) cs) w') → Run P Post (G (b.at a (.inRegion ops (x :: rest) :: k)) cs) w)
    (h' : ∀ rest, (∀ a' w', AnyR P Post b ops k cs n (l.setIfInBounds y true) a' w' → Run P Post (G (b.at a' (.inRegion ops rest :: k)) cs) w') → Run P Post (G (b.at a (.inRegion ops (y :: rest) :: k)) cs) w) :
    AnyR P Post b ops k cs (n + 1) l a w :=
  ⟨fun h0 => (by rw [e] at h0; cases h0), fun i hi => by
    rw [e, List.mem_cons, List.mem_singleton] at hi
    rcases hi with rfl | rfl
    · exact h
    · exact h'⟩
end
end Go.Proofs.Ytgmhdmhnedljcaa.Co
