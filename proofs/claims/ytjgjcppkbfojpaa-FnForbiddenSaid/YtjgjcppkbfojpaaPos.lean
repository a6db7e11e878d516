/-
  Helpers of the claims beside this text: iterators over rhythms that a round may stop.
-/
import Derived.Test.YtjgjcppkbfojpaaPop
namespace Go.Proofs.Ytjgjcppkbfojpaa.Rhy
open Go.RowKit
set_option linter.unusedVariables false
set_option linter.unusedSimpArgs false

theorem roundIn_any {n n' : Nat} {P : Program} {l : Nat} {f : FuncId} {tmps : Array Value} {assign body : Code} {w : World} {R : Ending → World → Prop} {q : Nat} (h : RoundIn Fence.wide n P l f tmps assign body w R) : RoundIn (Fence.wide.inRound q) n' P l f tmps assign body w R :=
  ⟨h.1, fun c cs _ => h.2 c cs (room_wide _)⟩
theorem roundIn_wide {n n' : Nat} {P : Program} {l : Nat} {f : FuncId} {tmps : Array Value} {assign body : Code} {w : World} {R : Ending → World → Prop} (h : RoundIn Fence.wide n P l f tmps assign body w R) : RoundIn Fence.wide n' P l f tmps assign body w R :=
  ⟨h.1, fun c cs _ => h.2 c cs (room_wide _)⟩

/-- The iterator (g, lb) gives rhythms of sz pulses one after another, with the beats of L; the beats of each lie in a row of their own, made since the round before; a round may stop it. A round that goes on keeps what lay below n, the blocks between lo and hi, and what was made since the iterator's call. -/
def GivesS (n lo hi : Nat) (w : World) (g : Nat) (lb : Array Value) (sz : Int) (L : List (List Int)) : Prop :=
  ∀ (q : Nat) (J Jx : Nat → World → Prop) (W : World), Below w.heap.size w W → OwnFrom W.heap.size J → OwnFrom W.heap.size Jx →
    (∀ (k : Nat) (X : List Int) (a : Option Addr) (cap : Nat) (U V : World), L[k]? = some X → J k U → Below U.heap.size U V → V.ownsRow U.heap.size 3 1 (.slice a X.length cap) X.length (ints X) →
      YieldAt Fence.wide 1 Try.prog q #[rhy sz a X.length cap] V fun e V' => (e = .returned (.bool true) ∧ J (k + 1) V' ∧ Kp n lo hi V V' ∧ Same W.heap.size V.heap.size V V') ∨ (e = .returned (.bool false) ∧ Jx k V' ∧ Same W.heap.size V.heap.size V V')) →
    J 0 W → Calls Try.prog g (#[.func (.yield q) #[] #[]] ++ lb) W fun e V' => (∃ v, e = .returned v) ∧ (J L.length V' ∨ ∃ k, k < L.length ∧ Jx k V')

/-- How a round's body ends. -/
def EndsS (B n lo hi : Nat) (I : Nat → World → Prop) (Ix : Code → Nat → World → Prop) (k : Nat) (W : World) : Exit → Act → World → Prop
  | .normal, _, W' => KeepsFrom B W W' ∧ Kp n lo hi W W' ∧ Same (B + 2) W.heap.size W W' ∧ I (k + 1) W'
  | .ret, _, W' => KeepsFrom B W W' ∧ Same (B + 2) W.heap.size W W' ∧ Ix .ret k W'
  | .exit id, _, W' => KeepsFrom B W W' ∧ Same (B + 2) W.heap.size W W' ∧ Ix (.exit id) k W'
  | .goto t, _, W' => KeepsFrom B W W' ∧ Same (B + 2) W.heap.size W W' ∧ Ix (.goto t) k W'
  | .panic _, _, _ => False
  | .outgrown, _, _ => False

theorem same_put {lo hi : Nat} (W : World) {l : Nat} (o : Obj) (h : l < lo) : Same lo hi W (W.putObj l o) := fun k h1 _ => World.putObj_heap_other (by omega)
/-- A loop over such an iterator. What is known of the loop's variable is bx: its box b was made in the round. -/
theorem wp_rangeS {g : Operand} {p : Tmp} {assign body : Code} {Q : Exit → Act → World → Prop} {a : Act} {w : World} {m n lo hi gf : Nat} {lb : Array Value} {sz : Int} {L : List (List Int)}
    (h1 : 3 ≤ m) (hg : a.eval g = .func (.func gf) #[] lb) (hE : Enters gf) (hG : GivesS n lo hi w gf lb sz L) (hn : n ≤ w.heap.size) (hh : hi ≤ w.heap.size)
    (I : Nat → World → Prop) (Ix : Code → Nat → World → Prop) (hI : OwnFrom w.heap.size I) (hIx : ∀ c, OwnFrom w.heap.size (Ix c)) (h0 : I 0 w) (a₁ : Option Addr → Nat → Nat → Nat → Act)
    (bx : Option Addr → Nat → Nat → Nat → World → Prop) (hbx : ∀ (ax : Option Addr) (len cx b : Nat) (W : World) (l : Nat) (o o' : Obj), bx ax len cx b W → W.heap[l]? = some o → o.isCells = false → l < b → bx ax len cx b (W.putObj l o'))
    (hassign : ∀ (q : Nat) (ax : Option Addr) (len cx : Nat) (W : World) (K : Act → World → Prop), (∀ W1 b, Below W.heap.size W W1 → W.heap.size ≤ b → bx ax len cx b W1 → K (a₁ ax len cx b) W1) →
      assign.wpIn (Fence.wide.inRound q) (m - 1 - 1) Try.prog (Exit.then K (fun _ _ _ => False)) { tmps := a.tmps.setIfInBounds p (rhy sz ax len cx), defers := [] } W)
    (hbody : ∀ (q k : Nat) (X : List Int) (ax : Option Addr) (cx b : Nat) (U W : World), L[k]? = some X → I k U → w.heap.size + 2 ≤ U.heap.size → Below U.heap.size U W → U.heap.size ≤ b →
      bx ax X.length cx b W → W.ownsRow U.heap.size 3 1 (.slice ax X.length cx) X.length (ints X) →
      body.wpIn (Fence.wide.inRound q) (m - 1 - 1) Try.prog (EndsS w.heap.size n lo hi I Ix k W) (a₁ ax X.length cx b) W)
    (hdone : ∀ (D : Nat) (W : World), w.heap.size ≤ D → I L.length W → W.heap[D]? = some (.deferred (some [])) → Q .normal { a with defers := { target := .collected D, args := #[] } :: a.defers } W)
    (hstop : ∀ (D : Nat) (c : Code) (k : Nat) (W : World), w.heap.size ≤ D → k < L.length → Ix c k W → W.heap[D]? = some (.deferred (some [])) → c.wpIn Fence.wide m Try.prog Q { a with defers := { target := .collected D, args := #[] } :: a.defers } W) :
    (Code.rangeFunc g #[p] assign body).wpIn Fence.wide m Try.prog Q a w := by
  refine wpIn_rangeFunc ?_
  intro fn hfn
  obtain ⟨R, hR⟩ : ∃ R, R = w.heap.size + 1 := ⟨_, rfl⟩
  obtain ⟨rec, hrec⟩ : ∃ rec : LoopState → Option Code → Loop, rec = fun st pe => { state := st, pending := pe, fn, tmps := a.tmps, params := #[p], assign, body, defers := w.heap.size } := ⟨_, rfl⟩
  obtain ⟨V1, hV1⟩ : ∃ V1, (w.alloc (.deferred (some []))).alloc (.loop (rec .ready none)) = V1 := ⟨_, rfl⟩
  have hbV : Below w.heap.size w V1 := by rw [← hV1]; exact bel2 w _ _
  have hlo : V1.heap[R]? = some (.loop (rec .ready none)) := by
    rw [← hV1, hR]
    have := World.alloc_heap_new (w.alloc (.deferred (some []))) (.loop (rec .ready none))
    rwa [World.size_alloc] at this
  have hde : V1.heap[w.heap.size]? = some (.deferred (some [])) := by
    rw [← hV1]
    exact (Below.heap_alloc _ _ _ (by simp)).trans (World.alloc_heap_new w _)
  have hi0 : I 0 V1 := by rw [← hV1]; exact hI.alloc _ (hI.alloc _ h0)
  have hsz1 : V1.heap.size = w.heap.size + 2 := by rw [← hV1]; simp
  refine ⟨R, [{ target := .collected w.heap.size, args := #[] }], V1, { target := .fn (.func gf) lb, args := #[.func (.yield R) #[] #[]] }, V1, gf, #[.func (.yield R) #[] #[]] ++ lb, V1, ?_, ?_, ?_, ?_, fun _ => by omega, ?_⟩
  · rw [← hV1, hrec, hR]
    exact run_enterLoop_outer _ _ _ _ _
  · simp only [resolve, hg]
    simp [go_sem]
  · intro f' hf'
    trivial
  · have eg := hE
    simp [invoke, go_sem]
    exact eg _ _
  · have hturn : ∀ {A B : World} {row : Option Nat}, (∀ r, row = some r → V1.heap.size ≤ r ∧ ∃ o : Obj, A.heap[r]? = some o ∧ o.isCells = false) → (∀ r, row = some r → w.heap.size ≤ r ∧ ∃ o : Obj, A.heap[r]? = some o ∧ o.isCells = false) :=
      fun hr r e => by
        obtain ⟨hB, o, ho, hw⟩ := hr r e
        exact ⟨by omega, o, ho, hw⟩
    have hstay : ∀ {A B : World} {row : Option Nat} {k : Nat} {o : Obj}, (∀ r, row = some r → V1.heap.size ≤ r ∧ ∃ o : Obj, A.heap[r]? = some o ∧ o.isCells = false) → A.grownBy B row → k < V1.heap.size → A.heap[k]? = some o → B.heap[k]? = some o :=
      fun hr hg' hk ho => (hg'.block _ (Array.getElem?_eq_some_iff.1 ho).1 (fun e => by have := (hr _ e.symm).1; omega)).trans ho
    refine (callsIn_wide.2 (hG R (fun k W => I k W ∧ W.heap[R]? = some (.loop (rec .ready none)) ∧ W.heap[w.heap.size]? = some (.deferred (some [])))
      (fun k W => ∃ c, Ix c k W ∧ W.heap[R]? = some (.loop (rec .done (some c))) ∧ W.heap[w.heap.size]? = some (.deferred (some []))) V1 hbV
      (fun s A B row hs hg' hr => ⟨hI s A B row hs.1 hg' (hturn (B := B) hr), hstay hr hg' (by omega) hs.2.1, hstay hr hg' (by omega) hs.2.2⟩)
      (fun s A B row hs hg' hr => by
        obtain ⟨c, hc, hl, hk⟩ := hs
        exact ⟨c, hIx c s A B row hc hg' (hturn (B := B) hr), hstay hr hg' (by omega) hl, hstay hr hg' (by omega) hk⟩)
      ?_ ⟨hi0, hlo, hde⟩)).mono ?_
    · -- one round
      rintro k X ax cx U W hX ⟨hiU, hlU, hdU⟩ hUW hown
      have hRU : R < U.heap.size := (Array.getElem?_eq_some_iff.1 hlU).1
      have hlW : W.heap[R]? = some (.loop (rec .ready none)) := (hUW.block R hRU).trans hlU
      have hdW : W.heap[w.heap.size]? = some (.deferred (some [])) := (hUW.block _ (by omega)).trans hdU
      have hRW : R < W.heap.size := (Array.getElem?_eq_some_iff.1 hlW).1
      have hy := run_yield (P := Try.prog) (args := #[rhy sz ax X.length cx]) hlW (by rw [hrec]; rfl)
      rw [hrec] at hy
      have htm : ((#[p] : Array Tmp).zip #[rhy sz ax X.length cx]).foldl (fun t (x : Tmp × Value) => t.setIfInBounds x.1 x.2) a.tmps = a.tmps.setIfInBounds p (rhy sz ax X.length cx) := by simp
      have has := hassign R ax X.length cx W
      rw [← htm] at has
      refine ⟨fn, _, assign, body, hy, roundIn_wide (roundIn_of_wpIn hfn (has _ fun WA b hWA hb hbxA => ⟨_, run_beginRound (r := rec .ready none) ((hWA.block R hRW).trans hlW) (by rw [hrec]), ?_⟩))⟩
      have hlA : WA.heap[R]? = some (.loop (rec .ready none)) := (hWA.block R hRW).trans hlW
      have hdA : WA.heap[w.heap.size]? = some (.deferred (some [])) := (hWA.block _ (by omega)).trans hdW
      have hkA : Kp n lo hi W WA := Kp.of_below hWA (by omega) (by omega)
      have hzA := hWA.size
      have hRA : R < WA.heap.size := by omega
      obtain ⟨W2, hW2⟩ : ∃ W2, W2 = WA.putObj R (.loop { rec .ready none with state := .busy }) := ⟨_, rfl⟩
      have hsz2 : W2.heap.size = WA.heap.size := by rw [hW2]; simp [World.putObj]
      have hl2 : W2.heap[R]? = some (.loop { rec .ready none with state := .busy }) := by rw [hW2]; exact World.putObj_heap_same (by omega)
      have hd2 : W2.heap[w.heap.size]? = some (.deferred (some [])) := by rw [hW2]; exact (World.putObj_heap_other (by omega)).trans hdA
      obtain ⟨U2, hU2⟩ : ∃ U2, U2 = U.putObj R (.loop { rec .ready none with state := .busy }) := ⟨_, rfl⟩
      have hszU : U2.heap.size = U.heap.size := by rw [hU2]; simp [World.putObj]
      have hi2 : I k U2 := by rw [hU2]; exact hI.putObj _ hiU (by omega) hlU rfl
      have hUA : Below U.heap.size U WA := hUW.trans (hWA.mono hUW.size)
      have hUW2 : Below U2.heap.size U2 W2 := by rw [hszU, hU2, hW2]; exact below_put hUA hRU
      have hk2 : Kp n lo hi WA W2 := by rw [hW2]; exact Kp.b hn hh _ _ _ _ (by omega) hlA rfl rfl
      have hs2 : Same V1.heap.size W.heap.size W W2 := (Same.of_below hWA (Nat.le_refl _)).trans (by rw [hW2]; exact same_put _ _ (by omega))
      have hx2 : bx ax X.length cx b W2 := by rw [hW2]; exact hbx _ _ _ _ _ _ _ _ hbxA hlA rfl (by omega)
      have ho2 : W2.ownsRow U2.heap.size 3 1 (.slice ax X.length cx) X.length (ints X) := by
        rw [hszU, hW2]
        exact own_put (own_below hown hWA) hRU _
      have hb := hbody R k X ax cx b U2 W2 hX hi2 (by omega) hUW2 (by have := hUW.size; omega) hx2 ho2
      rw [hW2] at hb
      refine Go.wpIn_mono hb ?_
      rw [← hW2]
      have fin : ∀ (jump : Option Code) (W3 : World), KeepsFrom w.heap.size W2 W3 →
          (Instr.endRound R jump).run Try.prog W3 = .ok (.bool jump.isNone) (W3.putObj R (.loop (rec (if jump.isNone then .ready else .done) jump))) ∧
          W3.heap[R]? = some (.loop { rec .ready none with state := .busy }) ∧
          (W3.putObj R (.loop (rec (if jump.isNone then .ready else .done) jump))).heap[R]? = some (.loop (rec (if jump.isNone then .ready else .done) jump)) ∧
          (W3.putObj R (.loop (rec (if jump.isNone then .ready else .done) jump))).heap[w.heap.size]? = some (.deferred (some [])) := fun jump W3 hk3 => by
        have hl3 := hk3.same _ _ (by omega) hl2 rfl
        have := run_endRound (P := Try.prog) jump hl3
        rw [hrec] at this ⊢
        exact ⟨this, by rw [hrec] at hl3; exact hl3, World.putObj_heap_same (Array.getElem?_eq_some_iff.1 hl3).1, (World.putObj_heap_other (by omega)).trans (hk3.same _ _ (Nat.le_refl _) hd2 rfl)⟩
      rintro e a3 W3 hp
      cases e with
      | normal =>
        obtain ⟨hkf, hkp, hsm, hi3⟩ := hp
        obtain ⟨hr, hl3, hl4, hk4⟩ := fin none W3 hkf
        refine ⟨_, _, hr, .inl ⟨rfl, ⟨hI.putObj _ hi3 (by omega) hl3 rfl, hl4, hk4⟩, (hkA.t hk2).t (hkp.t (Kp.b hn hh _ _ _ _ (by omega) hl3 rfl rfl)), ?_⟩⟩
        refine hs2.trans (Same.trans (b := W3) (fun x h1 h2 => hsm x (by omega) (by omega)) (same_put _ _ (by omega)))
      | ret =>
        obtain ⟨hk3, hsm, hi3⟩ := hp
        obtain ⟨hr, hl3, hl4, hk4⟩ := fin (some .ret) W3 hk3
        exact ⟨_, _, hr, .inr ⟨rfl, ⟨.ret, (hIx _).putObj _ hi3 (by omega) hl3 rfl, hl4, hk4⟩, hs2.trans (Same.trans (b := W3) (fun x h1 h2 => hsm x (by omega) (by omega)) (same_put _ _ (by omega)))⟩⟩
      | exit id =>
        obtain ⟨hk3, hsm, hi3⟩ := hp
        obtain ⟨hr, hl3, hl4, hk4⟩ := fin (some (.exit id)) W3 hk3
        exact ⟨_, _, hr, .inr ⟨rfl, ⟨.exit id, (hIx _).putObj _ hi3 (by omega) hl3 rfl, hl4, hk4⟩, hs2.trans (Same.trans (b := W3) (fun x h1 h2 => hsm x (by omega) (by omega)) (same_put _ _ (by omega)))⟩⟩
      | goto t =>
        obtain ⟨hk3, hsm, hi3⟩ := hp
        obtain ⟨hr, hl3, hl4, hk4⟩ := fin (some (.goto t)) W3 hk3
        exact ⟨_, _, hr, .inr ⟨rfl, ⟨.goto t, (hIx _).putObj _ hi3 (by omega) hl3 rfl, hl4, hk4⟩, hs2.trans (Same.trans (b := W3) (fun x h1 h2 => hsm x (by omega) (by omega)) (same_put _ _ (by omega)))⟩⟩
      | panic ch => exact hp.elim
      | outgrown => exact hp.elim
    · -- behind the iterator
      rintro e W2 ⟨⟨v, rfl⟩, ⟨hi2, hl2, hd2⟩ | ⟨k, hk, c, hi2, hl2, hd2⟩⟩
      · refine ⟨none, _, by have := run_endLoop (P := Try.prog) hl2 (by rw [hrec]; simp); rw [hrec] at this; exact this, ?_⟩
        exact hdone _ _ (Nat.le_refl _) (hI.putObj _ hi2 (by omega) hl2 rfl) ((World.putObj_heap_other (by omega)).trans hd2)
      · refine ⟨some c, _, by have := run_endLoop (P := Try.prog) hl2 (by rw [hrec]; simp); rw [hrec] at this; exact this, ?_⟩
        exact hstop _ c k _ (Nat.le_refl _) hk ((hIx c).putObj _ hi2 (by omega) hl2 rfl) ((World.putObj_heap_other (by omega)).trans hd2)

attribute [local go_sem] Oper.semAt_some wide_fn wide_depth

set_option maxHeartbeats 2000000 in
theorem with_givesS (n c : Nat) (nn : Nat) (w : World) (lo : Nat) (hn1 : 1 ≤ n) (hn : n ≤ 16) (hc : c ≤ 1000)
    (h1 : w.cell? ⟨lo, 0, none⟩ = some (.int .i64 n)) (h2 : w.cell? ⟨lo + 1, 0, none⟩ = some (.int .i64 c)) (hlo : lo + 2 ≤ w.heap.size) (hlo0 : nn ≤ lo) :
    GivesS nn lo (lo + 2) w 149 #[.pointer (some ⟨lo, 0, none⟩), .pointer (some ⟨lo + 1, 0, none⟩)] n (wthJ n c (2 ^ n)) := by
  intro q J Jx W hW hJ hJx hY h0
  refine (callsIn_wide (n := 9)).1 ?_
  have HJ := Lib.hid hJ
  have HY := Lib.hid hY
  have HHB : Hid (nn ≤ W.heap.size) := Lib.hid (by have := hW.size; omega)
  have HV1 := Lib.hid ((hW.cell (p := ⟨lo, 0, none⟩) (by show lo < _; omega)).trans h1)
  have HV2 := Lib.hid ((hW.cell (p := ⟨lo + 1, 0, none⟩) (by show lo + 1 < _; omega)).trans h2)
  have hlW : lo + 2 ≤ W.heap.size := by have := hW.size; omega
  have hmix : Try.prog.follows .mixedOrders = true := by kernel_rfl
  obtain ⟨N, hN⟩ : ∃ N, 2 ^ n = N := ⟨_, rfl⟩
  have hN1 : 1 ≤ N := by rw [← hN]; exact Nat.one_le_two_pow
  have hN4 : N ≤ 65536 := by rw [← hN]; exact Nat.pow_le_pow_right (by omega) hn
  have HN := Lib.hid hN
  have hNi : (2 : Int) ^ n = (N : Int) := by rw [← hN]; simp
  have H0 : Hid (J (wthJ n c 0).length W) := Lib.hid h0
  clear h1 h2 hJ hJx hY hW hN h0
  have x1 := HV1.out
  have x2 := HV2.out
  refine callsIn_of_wp Try.func149 rfl trivial ?_ rfl
  simp only [Try.ntmps149, List.size_toArray, List.length_cons, List.length_nil, Nat.reduceAdd, Nat.reduceSub, Array.replicate_succ, Array.replicate_zero, List.push_toArray, List.append_toArray, List.nil_append, List.cons_append]
  gi_wp2
  gi_loopw [4] (fun i wr => ∃ j : Nat, j ≤ N ∧ i = .int .i64 ((N : Int) - 1 - j) ∧ J (wthJ n c j).length wr ∧ Kp nn lo (lo + 2) W wr ∧ W.heap.size ≤ wr.heap.size) (fun i _ => (intOf i + 1).toNat)
  case atStart => exact ⟨0, by omega, by simp, H0.out, Kp.refl _ _ _ _, Nat.le_refl _⟩
  case round =>
    obtain ⟨j, hj, rfl, hJs, hkp, hsz⟩ := hrel
    have HJS := Lib.hid hJs
    have HKP := Lib.hid hkp
    have HZ := Lib.hid hsz
    have y1 : wr.cell? ⟨lo, 0, none⟩ = some (.int .i64 n) := (hkp.cell (p := ⟨lo, 0, none⟩) (Nat.le_refl _) (by show lo < lo + 2; omega)).trans x1
    have y2 : wr.cell? ⟨lo + 1, 0, none⟩ = some (.int .i64 c) := (hkp.cell (p := ⟨lo + 1, 0, none⟩) (by show lo ≤ lo + 1; omega) (by show lo + 1 < lo + 2; omega)).trans x2
    clear hJs hkp hsz x1 x2
    by_cases hlt : j < N
    · obtain ⟨b, hb0⟩ : ∃ b, N - 1 - j = b := ⟨_, rfl⟩
      have hmi : (N : Int) - 1 - (j : Int) = (b : Int) := by omega
      have hbN : b < 2 ^ n := by rw [HN.out]; omega
      have hb12 : 2 ^ n - 1 - j = b := by rw [HN.out]; exact hb0
      have hb4 : b < 65536 := by omega
      have HBN := Lib.hid hbN
      have hgeq : decide ((0 : Int) ≤ (N : Int) - 1 - (j : Int)) = true := by simp; omega
      have HDEC := Lib.hid (show (b : Int) - 1 = (N : Int) - 1 - ((j + 1 : Nat) : Int) by omega)
      obtain ⟨X, hX⟩ : ∃ X, bitsL n b = X := ⟨_, rfl⟩
      have HXE := Lib.hid hX
      have HOX : Hid (Ok n X) := Lib.hid (by rw [← hX]; exact bits_ok hn1 (by omega))
      have hxl : X.length ≤ 24 := ok_len HOX.out
      have HPC : Hid (popc b = X.length) := Lib.hid (by rw [← hX]; exact (pop_len hn hbN).symm)
      have hge0 : (0 : Int) ≤ (b : Int) := by omega
      by_cases hlc : X.length = c
      · have HWY : Hid (wthJ n c (j + 1) = wthJ n c j ++ [X]) := Lib.hid (by rw [wthJ_yes hb12 (by rw [hX]; exact hlc), hX])
        have HAT : Hid ((wthJ n c (2 ^ n))[(wthJ n c j).length]? = some X) := Lib.hid (by rw [wthJ_at hb12 (by rw [hX]; exact hlc) (by rw [HN.out]; exact hlt), hX])
        have HLT : Hid ((wthJ n c j).length < (wthJ n c (2 ^ n)).length) := Lib.hid (by rcases Nat.lt_or_ge (wthJ n c j).length (wthJ n c (2 ^ n)).length with z | z; exact z; have h7 := HAT.out; rw [List.getElem?_eq_none z] at h7; cases h7)
        have heq : ((X.length : Int) == (c : Int)) = true := by simp [hlc]
        clear hb0 hbN hb12 hX hlc
        rw [hmi] at hgeq ⊢
        have HMI := Lib.hid hmi
        clear hgeq hmi
        gi_upto_region 3 with fail
        refine wpIn_region_any hmix ?_
        try (change wpAnyIn _ _ _ _ _ _ _ _ _ (World.drew _))
        refine wpAnyIn_take (i := 0) (oi := ⟨some 12, _, _, _, _, _⟩) (v := .int .i64 b) rfl rfl (by kernel_rfl) (by kernel_rfl) (by kernel_rfl) (fun _ _ _ h => h) (⟨Or.inl ⟨by rfl, fun W => by go_simp⟩, fun W => by rfl⟩) ?_
        try simp only [Act.put, List.setIfInBounds_toArray, List.set_cons_zero, List.set_cons_succ]
        refine wpAnyIn_take (i := 1) (oi := ⟨some 13, _, _, _, _, _⟩) (v := .int .u64 b) rfl rfl (by kernel_rfl) (by kernel_rfl) (by kernel_rfl) (fun _ _ _ h => h) (⟨Or.inl ⟨by rfl, fun W => by go_simp; exact u64_in _ (by omega)⟩, fun W => by rfl⟩) ?_
        try simp only [Act.put, List.setIfInBounds_toArray, List.set_cons_zero, List.set_cons_succ]
        refine wpAnyIn_ready (rs := [2, 3]) (by kernel_rfl) (by simp) ?_
        refine AllReadyIn.cons rfl (fun K hK => ?_) ?_
        · go_simp
          refine (callsIn_wide.2 (ones_any b _ hb4)).mono ?_
          rintro e w' ⟨rfl, rfl⟩
          rw [HPC.out]
          refine hK _ _ ?_
          clear hK K
          try simp only [Act.put, List.setIfInBounds_toArray, List.set_cons_zero, List.set_cons_succ]
          refine wpAnyIn_ready (rs := [3]) (by kernel_rfl) (by simp) ?_
          refine AllReadyIn.cons rfl (fun K hK => ?_) ?_
          · go_simp
            refine hK _ _ ?_
            clear hK K
            try simp only [Act.put, List.setIfInBounds_toArray, List.set_cons_zero, List.set_cons_succ]
            refine wpAnyIn_take (i := 4) (oi := ⟨some 16, _, _, _, _, _⟩) (v := .bool true) rfl rfl (by kernel_rfl) (by kernel_rfl) (by kernel_rfl) (fun _ _ _ h => h) (⟨Or.inl ⟨by rfl, fun W => by go_simp⟩, fun W => by rfl⟩) ?_
            try simp only [Act.put, List.setIfInBounds_toArray, List.set_cons_zero, List.set_cons_succ]
            refine wpAnyIn_take (i := 5) (oi := ⟨some 17, _, _, _, _, _⟩) (v := .bool true) rfl rfl (by kernel_rfl) (by kernel_rfl) (by kernel_rfl) (fun _ _ _ h => h) (⟨Or.inl ⟨by rfl, fun W => by go_simp⟩, fun W => by rfl⟩) ?_
            try simp only [Act.put, List.setIfInBounds_toArray, List.set_cons_zero, List.set_cons_succ]
            refine wpAnyIn_take (i := 6) (oi := ⟨some 18, _, _, _, _, _⟩) (v := .func (.yield q) #[] #[]) rfl rfl (by kernel_rfl) (by kernel_rfl) (by kernel_rfl) (fun _ _ _ h => h) (⟨Or.inl ⟨by rfl, fun W => by go_simp⟩, fun W => by rfl⟩) ?_
            try simp only [Act.put, List.setIfInBounds_toArray, List.set_cons_zero, List.set_cons_succ]
            refine wpAnyIn_take (i := 8) (oi := ⟨some 20, _, _, _, _, _⟩) (v := .int .i64 b) rfl rfl (by kernel_rfl) (by kernel_rfl) (by kernel_rfl) (fun _ _ _ h => h) (⟨Or.inl ⟨by rfl, fun W => by go_simp⟩, fun W => by rfl⟩) ?_
            try simp only [Act.put, List.setIfInBounds_toArray, List.set_cons_zero, List.set_cons_succ]
            refine wpAnyIn_ready (rs := [7]) (by kernel_rfl) (by simp) ?_
            refine AllReadyIn.cons rfl (fun K hK => ?_) ?_
            · go_simp
              refine hK _ _ ?_
              clear hK K
              try simp only [Act.put, List.setIfInBounds_toArray, List.set_cons_zero, List.set_cons_succ]
              refine wpAnyIn_ready (rs := [9]) (by kernel_rfl) (by simp) ?_
              refine AllReadyIn.cons rfl (fun K hK => ?_) ?_
              · go_simp
                refine (callsIn_wide.2 (ofBits_any n b wr.drew hn1 (by omega) HBN.out)).mono ?_
                rw [HXE.out]
                rintro e w2 ⟨ax, cx, rfl, hown, hb2⟩
                have HB2 : Hid (Below wr.heap.size wr w2) := Lib.hid ((Below.refl _ _).drew.trans hb2)
                obtain ⟨fn, tmps, assign, body, hy, hR⟩ := HY.out _ X ax cx wr w2 HAT.out HJS.out HB2.out hown
                clear hown hb2
                refine hK _ _ ?_
                clear hK K
                try simp only [Act.put, List.setIfInBounds_toArray, List.set_cons_zero, List.set_cons_succ]
                refine wpAnyIn_ready (rs := [10]) (by kernel_rfl) (by simp) ?_
                refine AllReadyIn.cons rfl (fun K hK => ?_) ?_
                · go_simp
                  refine ((roundIn_wide hR).mono ?_)
                  rintro e W3 (⟨rfl, hj3, hkp3, hsm3⟩ | ⟨rfl, hx3, hsm3⟩)
                  · refine hK _ _ ?_
                    clear hK K
                    try simp only [Act.put, List.setIfInBounds_toArray, List.set_cons_zero, List.set_cons_succ]
                    refine wpAnyIn_take (i := 11) (oi := ⟨some 23, _, _, _, _, _⟩) (v := .bool false) rfl rfl (by kernel_rfl) (by kernel_rfl) (by kernel_rfl) (fun _ _ _ h => h) (⟨Or.inl ⟨by rfl, fun W => by go_simp⟩, fun W => by rfl⟩) ?_
                    try simp only [Act.put, List.setIfInBounds_toArray, List.set_cons_zero, List.set_cons_succ]
                    refine wpAnyIn_take (i := 12) (oi := ⟨some 24, _, _, _, _, _⟩) (v := .bool false) rfl rfl (by kernel_rfl) (by kernel_rfl) (by kernel_rfl) (fun _ _ _ h => h) (⟨Or.inl ⟨by rfl, fun W => by go_simp⟩, fun W => by rfl⟩) ?_
                    try simp only [Act.put, List.setIfInBounds_toArray, List.set_cons_zero, List.set_cons_succ]
                    refine wpAnyIn_done (by kernel_rfl) ?_ _
                    gi_wp2
                    go_roundw
                    case rel =>
                      refine ⟨j + 1, by omega, by rw [HDEC.out], ?_, ?_, ?_⟩
                      · rw [HWY.out, List.length_append]; exact hj3
                      · exact (HKP.out.t (Kp.of_below HB2.out (by have := HHB.out; have := HZ.out; omega) (by have := HZ.out; omega))).t hkp3
                      · have := HZ.out; have := HB2.out.size; have := hkp3.1.size; omega
                    case measure => simp [intOf]
                  · refine hK _ _ ?_
                    clear hK K
                    try simp only [Act.put, List.setIfInBounds_toArray, List.set_cons_zero, List.set_cons_succ]
                    refine wpAnyIn_take (i := 11) (oi := ⟨some 23, _, _, _, _, _⟩) (v := .bool true) rfl rfl (by kernel_rfl) (by kernel_rfl) (by kernel_rfl) (fun _ _ _ h => h) (⟨Or.inl ⟨by rfl, fun W => by go_simp⟩, fun W => by rfl⟩) ?_
                    try simp only [Act.put, List.setIfInBounds_toArray, List.set_cons_zero, List.set_cons_succ]
                    refine wpAnyIn_take (i := 12) (oi := ⟨some 24, _, _, _, _, _⟩) (v := .bool true) rfl rfl (by kernel_rfl) (by kernel_rfl) (by kernel_rfl) (fun _ _ _ h => h) (⟨Or.inl ⟨by rfl, fun W => by go_simp⟩, fun W => by rfl⟩) ?_
                    try simp only [Act.put, List.setIfInBounds_toArray, List.set_cons_zero, List.set_cons_succ]
                    refine wpAnyIn_done (by kernel_rfl) ?_ _
                    gi_wp2
                    refine bodyPost_ret (results_none rfl _ _ _) rfl ?_
                    exact ⟨⟨_, rfl⟩, .inr ⟨_, HLT.out, hx3⟩⟩
                exact AllReadyIn.nil
              exact AllReadyIn.nil
            exact AllReadyIn.nil
          exact AllReadyIn.nil
        refine AllReadyIn.cons rfl (fun K hK => ?_) ?_
        · go_simp
          refine hK _ _ ?_
          clear hK K
          try simp only [Act.put, List.setIfInBounds_toArray, List.set_cons_zero, List.set_cons_succ]
          refine wpAnyIn_ready (rs := [2]) (by kernel_rfl) (by simp) ?_
          refine AllReadyIn.cons rfl (fun K hK => ?_) ?_
          · go_simp
            refine (callsIn_wide.2 (ones_any b _ hb4)).mono ?_
            rintro e w' ⟨rfl, rfl⟩
            rw [HPC.out]
            refine hK _ _ ?_
            clear hK K
            try simp only [Act.put, List.setIfInBounds_toArray, List.set_cons_zero, List.set_cons_succ]
            refine wpAnyIn_take (i := 4) (oi := ⟨some 16, _, _, _, _, _⟩) (v := .bool true) rfl rfl (by kernel_rfl) (by kernel_rfl) (by kernel_rfl) (fun _ _ _ h => h) (⟨Or.inl ⟨by rfl, fun W => by go_simp⟩, fun W => by rfl⟩) ?_
            try simp only [Act.put, List.setIfInBounds_toArray, List.set_cons_zero, List.set_cons_succ]
            refine wpAnyIn_take (i := 5) (oi := ⟨some 17, _, _, _, _, _⟩) (v := .bool true) rfl rfl (by kernel_rfl) (by kernel_rfl) (by kernel_rfl) (fun _ _ _ h => h) (⟨Or.inl ⟨by rfl, fun W => by go_simp⟩, fun W => by rfl⟩) ?_
            try simp only [Act.put, List.setIfInBounds_toArray, List.set_cons_zero, List.set_cons_succ]
            refine wpAnyIn_take (i := 6) (oi := ⟨some 18, _, _, _, _, _⟩) (v := .func (.yield q) #[] #[]) rfl rfl (by kernel_rfl) (by kernel_rfl) (by kernel_rfl) (fun _ _ _ h => h) (⟨Or.inl ⟨by rfl, fun W => by go_simp⟩, fun W => by rfl⟩) ?_
            try simp only [Act.put, List.setIfInBounds_toArray, List.set_cons_zero, List.set_cons_succ]
            refine wpAnyIn_take (i := 8) (oi := ⟨some 20, _, _, _, _, _⟩) (v := .int .i64 b) rfl rfl (by kernel_rfl) (by kernel_rfl) (by kernel_rfl) (fun _ _ _ h => h) (⟨Or.inl ⟨by rfl, fun W => by go_simp⟩, fun W => by rfl⟩) ?_
            try simp only [Act.put, List.setIfInBounds_toArray, List.set_cons_zero, List.set_cons_succ]
            refine wpAnyIn_ready (rs := [7]) (by kernel_rfl) (by simp) ?_
            refine AllReadyIn.cons rfl (fun K hK => ?_) ?_
            · go_simp
              refine hK _ _ ?_
              clear hK K
              try simp only [Act.put, List.setIfInBounds_toArray, List.set_cons_zero, List.set_cons_succ]
              refine wpAnyIn_ready (rs := [9]) (by kernel_rfl) (by simp) ?_
              refine AllReadyIn.cons rfl (fun K hK => ?_) ?_
              · go_simp
                refine (callsIn_wide.2 (ofBits_any n b wr.drew hn1 (by omega) HBN.out)).mono ?_
                rw [HXE.out]
                rintro e w2 ⟨ax, cx, rfl, hown, hb2⟩
                have HB2 : Hid (Below wr.heap.size wr w2) := Lib.hid ((Below.refl _ _).drew.trans hb2)
                obtain ⟨fn, tmps, assign, body, hy, hR⟩ := HY.out _ X ax cx wr w2 HAT.out HJS.out HB2.out hown
                clear hown hb2
                refine hK _ _ ?_
                clear hK K
                try simp only [Act.put, List.setIfInBounds_toArray, List.set_cons_zero, List.set_cons_succ]
                refine wpAnyIn_ready (rs := [10]) (by kernel_rfl) (by simp) ?_
                refine AllReadyIn.cons rfl (fun K hK => ?_) ?_
                · go_simp
                  refine ((roundIn_wide hR).mono ?_)
                  rintro e W3 (⟨rfl, hj3, hkp3, hsm3⟩ | ⟨rfl, hx3, hsm3⟩)
                  · refine hK _ _ ?_
                    clear hK K
                    try simp only [Act.put, List.setIfInBounds_toArray, List.set_cons_zero, List.set_cons_succ]
                    refine wpAnyIn_take (i := 11) (oi := ⟨some 23, _, _, _, _, _⟩) (v := .bool false) rfl rfl (by kernel_rfl) (by kernel_rfl) (by kernel_rfl) (fun _ _ _ h => h) (⟨Or.inl ⟨by rfl, fun W => by go_simp⟩, fun W => by rfl⟩) ?_
                    try simp only [Act.put, List.setIfInBounds_toArray, List.set_cons_zero, List.set_cons_succ]
                    refine wpAnyIn_take (i := 12) (oi := ⟨some 24, _, _, _, _, _⟩) (v := .bool false) rfl rfl (by kernel_rfl) (by kernel_rfl) (by kernel_rfl) (fun _ _ _ h => h) (⟨Or.inl ⟨by rfl, fun W => by go_simp⟩, fun W => by rfl⟩) ?_
                    try simp only [Act.put, List.setIfInBounds_toArray, List.set_cons_zero, List.set_cons_succ]
                    refine wpAnyIn_done (by kernel_rfl) ?_ _
                    gi_wp2
                    go_roundw
                    case rel =>
                      refine ⟨j + 1, by omega, by rw [HDEC.out], ?_, ?_, ?_⟩
                      · rw [HWY.out, List.length_append]; exact hj3
                      · exact (HKP.out.t (Kp.of_below HB2.out (by have := HHB.out; have := HZ.out; omega) (by have := HZ.out; omega))).t hkp3
                      · have := HZ.out; have := HB2.out.size; have := hkp3.1.size; omega
                    case measure => simp [intOf]
                  · refine hK _ _ ?_
                    clear hK K
                    try simp only [Act.put, List.setIfInBounds_toArray, List.set_cons_zero, List.set_cons_succ]
                    refine wpAnyIn_take (i := 11) (oi := ⟨some 23, _, _, _, _, _⟩) (v := .bool true) rfl rfl (by kernel_rfl) (by kernel_rfl) (by kernel_rfl) (fun _ _ _ h => h) (⟨Or.inl ⟨by rfl, fun W => by go_simp⟩, fun W => by rfl⟩) ?_
                    try simp only [Act.put, List.setIfInBounds_toArray, List.set_cons_zero, List.set_cons_succ]
                    refine wpAnyIn_take (i := 12) (oi := ⟨some 24, _, _, _, _, _⟩) (v := .bool true) rfl rfl (by kernel_rfl) (by kernel_rfl) (by kernel_rfl) (fun _ _ _ h => h) (⟨Or.inl ⟨by rfl, fun W => by go_simp⟩, fun W => by rfl⟩) ?_
                    try simp only [Act.put, List.setIfInBounds_toArray, List.set_cons_zero, List.set_cons_succ]
                    refine wpAnyIn_done (by kernel_rfl) ?_ _
                    gi_wp2
                    refine bodyPost_ret (results_none rfl _ _ _) rfl ?_
                    exact ⟨⟨_, rfl⟩, .inr ⟨_, HLT.out, hx3⟩⟩
                exact AllReadyIn.nil
              exact AllReadyIn.nil
            exact AllReadyIn.nil
          exact AllReadyIn.nil
        exact AllReadyIn.nil
      · have HWN : Hid (wthJ n c (j + 1) = wthJ n c j) := Lib.hid (by rw [wthJ_no hb12 (by rw [hX]; exact hlc)])
        have heq : ((X.length : Int) == (c : Int)) = false := by simp; omega
        clear hb0 hbN hb12 hX
        rw [hmi] at hgeq ⊢
        have HMI := Lib.hid hmi
        clear hgeq hmi
        gi_upto_region 3 with fail
        refine wpIn_region_any hmix ?_
        try (change wpAnyIn _ _ _ _ _ _ _ _ _ (World.drew _))
        refine wpAnyIn_take (i := 0) (oi := ⟨some 12, _, _, _, _, _⟩) (v := .int .i64 b) rfl rfl (by kernel_rfl) (by kernel_rfl) (by kernel_rfl) (fun _ _ _ h => h) (⟨Or.inl ⟨by rfl, fun W => by go_simp⟩, fun W => by rfl⟩) ?_
        try simp only [Act.put, List.setIfInBounds_toArray, List.set_cons_zero, List.set_cons_succ]
        refine wpAnyIn_take (i := 1) (oi := ⟨some 13, _, _, _, _, _⟩) (v := .int .u64 b) rfl rfl (by kernel_rfl) (by kernel_rfl) (by kernel_rfl) (fun _ _ _ h => h) (⟨Or.inl ⟨by rfl, fun W => by go_simp; exact u64_in _ (by omega)⟩, fun W => by rfl⟩) ?_
        try simp only [Act.put, List.setIfInBounds_toArray, List.set_cons_zero, List.set_cons_succ]
        refine wpAnyIn_ready (rs := [2, 3]) (by kernel_rfl) (by simp) ?_
        refine AllReadyIn.cons rfl (fun K hK => ?_) ?_
        · go_simp
          refine (callsIn_wide.2 (ones_any b _ hb4)).mono ?_
          rintro e w' ⟨rfl, rfl⟩
          rw [HPC.out]
          refine hK _ _ ?_
          clear hK K
          try simp only [Act.put, List.setIfInBounds_toArray, List.set_cons_zero, List.set_cons_succ]
          refine wpAnyIn_ready (rs := [3]) (by kernel_rfl) (by simp) ?_
          refine AllReadyIn.cons rfl (fun K hK => ?_) ?_
          · go_simp
            refine hK _ _ ?_
            clear hK K
            try simp only [Act.put, List.setIfInBounds_toArray, List.set_cons_zero, List.set_cons_succ]
            refine wpAnyIn_take (i := 4) (oi := ⟨some 16, _, _, _, _, _⟩) (v := .bool false) rfl rfl (by kernel_rfl) (by kernel_rfl) (by kernel_rfl) (fun _ _ _ h => h) (⟨Or.inl ⟨by rfl, fun W => by go_simp⟩, fun W => by rfl⟩) ?_
            try simp only [Act.put, List.setIfInBounds_toArray, List.set_cons_zero, List.set_cons_succ]
            refine wpAnyIn_take (i := 5) (oi := ⟨some 17, _, _, _, _, _⟩) (v := .bool false) rfl rfl (by kernel_rfl) (by kernel_rfl) (by kernel_rfl) (fun _ _ _ h => h) (⟨Or.inl ⟨by rfl, fun W => by go_simp⟩, fun W => by rfl⟩) ?_
            try simp only [Act.put, List.setIfInBounds_toArray, List.set_cons_zero, List.set_cons_succ]
            refine wpAnyIn_take (i := 6) (oi := ⟨some 18, _, _, _, _, _⟩) (v := undef) rfl rfl (by kernel_rfl) (by kernel_rfl) (by kernel_rfl) (fun _ _ _ h => h) (⟨Or.inr ⟨by rfl, rfl⟩, fun W => by rfl⟩) ?_
            try simp only [Act.put, List.setIfInBounds_toArray, List.set_cons_zero, List.set_cons_succ]
            refine wpAnyIn_take (i := 7) (oi := ⟨some 19, _, _, _, _, _⟩) (v := undef) rfl rfl (by kernel_rfl) (by kernel_rfl) (by kernel_rfl) (fun _ _ _ h => h) (⟨Or.inr ⟨by rfl, rfl⟩, fun W => by rfl⟩) ?_
            try simp only [Act.put, List.setIfInBounds_toArray, List.set_cons_zero, List.set_cons_succ]
            refine wpAnyIn_take (i := 8) (oi := ⟨some 20, _, _, _, _, _⟩) (v := undef) rfl rfl (by kernel_rfl) (by kernel_rfl) (by kernel_rfl) (fun _ _ _ h => h) (⟨Or.inr ⟨by rfl, rfl⟩, fun W => by rfl⟩) ?_
            try simp only [Act.put, List.setIfInBounds_toArray, List.set_cons_zero, List.set_cons_succ]
            refine wpAnyIn_ready (rs := [9]) (by kernel_rfl) (by simp) ?_
            refine AllReadyIn.cons rfl (fun K hK => ?_) ?_
            · go_simp
              first | refine hK _ _ ?_ | refine ⟨fun _ _ => trivial, hK _ _ ?_⟩
              clear hK K
              try simp only [Act.put, List.setIfInBounds_toArray, List.set_cons_zero, List.set_cons_succ]
              refine wpAnyIn_ready (rs := [10]) (by kernel_rfl) (by simp) ?_
              refine AllReadyIn.cons rfl (fun K hK => ?_) ?_
              · go_simp
                first | refine hK _ _ ?_ | refine ⟨fun _ _ => trivial, hK _ _ ?_⟩
                clear hK K
                try simp only [Act.put, List.setIfInBounds_toArray, List.set_cons_zero, List.set_cons_succ]
                refine wpAnyIn_take (i := 11) (oi := ⟨some 23, _, _, _, _, _⟩) (v := undef) rfl rfl (by kernel_rfl) (by kernel_rfl) (by kernel_rfl) (fun _ _ _ h => h) (⟨Or.inr ⟨by rfl, rfl⟩, fun W => by rfl⟩) ?_
                try simp only [Act.put, List.setIfInBounds_toArray, List.set_cons_zero, List.set_cons_succ]
                refine wpAnyIn_take (i := 12) (oi := ⟨some 24, _, _, _, _, _⟩) (v := .bool false) rfl rfl (by kernel_rfl) (by kernel_rfl) (by kernel_rfl) (fun _ _ _ h => h) (⟨Or.inl ⟨by rfl, fun W => by go_simp⟩, fun W => by rfl⟩) ?_
                try simp only [Act.put, List.setIfInBounds_toArray, List.set_cons_zero, List.set_cons_succ]
                refine wpAnyIn_done (by kernel_rfl) ?_ _
                gi_wp2
                go_roundw
                case rel =>
                  refine ⟨j + 1, by omega, by rw [HDEC.out], ?_, ?_, ?_⟩
                  · rw [HWN.out]; exact HJ.out _ wr wr.drew none HJS.out (grown_of_below (Below.refl _ _).drew none) (fun r e => by cases e)
                  · exact HKP.out.t (Kp.drew _ _ _ _)
                  · exact HZ.out
                case measure => simp [intOf]
              exact AllReadyIn.nil
            exact AllReadyIn.nil
          exact AllReadyIn.nil
        refine AllReadyIn.cons rfl (fun K hK => ?_) ?_
        · go_simp
          refine hK _ _ ?_
          clear hK K
          try simp only [Act.put, List.setIfInBounds_toArray, List.set_cons_zero, List.set_cons_succ]
          refine wpAnyIn_ready (rs := [2]) (by kernel_rfl) (by simp) ?_
          refine AllReadyIn.cons rfl (fun K hK => ?_) ?_
          · go_simp
            refine (callsIn_wide.2 (ones_any b _ hb4)).mono ?_
            rintro e w' ⟨rfl, rfl⟩
            rw [HPC.out]
            refine hK _ _ ?_
            clear hK K
            try simp only [Act.put, List.setIfInBounds_toArray, List.set_cons_zero, List.set_cons_succ]
            refine wpAnyIn_take (i := 4) (oi := ⟨some 16, _, _, _, _, _⟩) (v := .bool false) rfl rfl (by kernel_rfl) (by kernel_rfl) (by kernel_rfl) (fun _ _ _ h => h) (⟨Or.inl ⟨by rfl, fun W => by go_simp⟩, fun W => by rfl⟩) ?_
            try simp only [Act.put, List.setIfInBounds_toArray, List.set_cons_zero, List.set_cons_succ]
            refine wpAnyIn_take (i := 5) (oi := ⟨some 17, _, _, _, _, _⟩) (v := .bool false) rfl rfl (by kernel_rfl) (by kernel_rfl) (by kernel_rfl) (fun _ _ _ h => h) (⟨Or.inl ⟨by rfl, fun W => by go_simp⟩, fun W => by rfl⟩) ?_
            try simp only [Act.put, List.setIfInBounds_toArray, List.set_cons_zero, List.set_cons_succ]
            refine wpAnyIn_take (i := 6) (oi := ⟨some 18, _, _, _, _, _⟩) (v := undef) rfl rfl (by kernel_rfl) (by kernel_rfl) (by kernel_rfl) (fun _ _ _ h => h) (⟨Or.inr ⟨by rfl, rfl⟩, fun W => by rfl⟩) ?_
            try simp only [Act.put, List.setIfInBounds_toArray, List.set_cons_zero, List.set_cons_succ]
            refine wpAnyIn_take (i := 7) (oi := ⟨some 19, _, _, _, _, _⟩) (v := undef) rfl rfl (by kernel_rfl) (by kernel_rfl) (by kernel_rfl) (fun _ _ _ h => h) (⟨Or.inr ⟨by rfl, rfl⟩, fun W => by rfl⟩) ?_
            try simp only [Act.put, List.setIfInBounds_toArray, List.set_cons_zero, List.set_cons_succ]
            refine wpAnyIn_take (i := 8) (oi := ⟨some 20, _, _, _, _, _⟩) (v := undef) rfl rfl (by kernel_rfl) (by kernel_rfl) (by kernel_rfl) (fun _ _ _ h => h) (⟨Or.inr ⟨by rfl, rfl⟩, fun W => by rfl⟩) ?_
            try simp only [Act.put, List.setIfInBounds_toArray, List.set_cons_zero, List.set_cons_succ]
            refine wpAnyIn_ready (rs := [9]) (by kernel_rfl) (by simp) ?_
            refine AllReadyIn.cons rfl (fun K hK => ?_) ?_
            · go_simp
              first | refine hK _ _ ?_ | refine ⟨fun _ _ => trivial, hK _ _ ?_⟩
              clear hK K
              try simp only [Act.put, List.setIfInBounds_toArray, List.set_cons_zero, List.set_cons_succ]
              refine wpAnyIn_ready (rs := [10]) (by kernel_rfl) (by simp) ?_
              refine AllReadyIn.cons rfl (fun K hK => ?_) ?_
              · go_simp
                first | refine hK _ _ ?_ | refine ⟨fun _ _ => trivial, hK _ _ ?_⟩
                clear hK K
                try simp only [Act.put, List.setIfInBounds_toArray, List.set_cons_zero, List.set_cons_succ]
                refine wpAnyIn_take (i := 11) (oi := ⟨some 23, _, _, _, _, _⟩) (v := undef) rfl rfl (by kernel_rfl) (by kernel_rfl) (by kernel_rfl) (fun _ _ _ h => h) (⟨Or.inr ⟨by rfl, rfl⟩, fun W => by rfl⟩) ?_
                try simp only [Act.put, List.setIfInBounds_toArray, List.set_cons_zero, List.set_cons_succ]
                refine wpAnyIn_take (i := 12) (oi := ⟨some 24, _, _, _, _, _⟩) (v := .bool false) rfl rfl (by kernel_rfl) (by kernel_rfl) (by kernel_rfl) (fun _ _ _ h => h) (⟨Or.inl ⟨by rfl, fun W => by go_simp⟩, fun W => by rfl⟩) ?_
                try simp only [Act.put, List.setIfInBounds_toArray, List.set_cons_zero, List.set_cons_succ]
                refine wpAnyIn_done (by kernel_rfl) ?_ _
                gi_wp2
                go_roundw
                case rel =>
                  refine ⟨j + 1, by omega, by rw [HDEC.out], ?_, ?_, ?_⟩
                  · rw [HWN.out]; exact HJ.out _ wr wr.drew none HJS.out (grown_of_below (Below.refl _ _).drew none) (fun r e => by cases e)
                  · exact HKP.out.t (Kp.drew _ _ _ _)
                  · exact HZ.out
                case measure => simp [intOf]
              exact AllReadyIn.nil
            exact AllReadyIn.nil
          exact AllReadyIn.nil
        exact AllReadyIn.nil
    · have e : j = N := by omega
      have hgeq : decide ((0 : Int) ≤ (N : Int) - 1 - (j : Int)) = false := by simp; omega
      have HE : Hid (J (wthJ n c (2 ^ n)).length wr) := Lib.hid (by rw [HN.out, ← e]; exact HJS.out)
      clear e
      gi_wp2
      go_end0
      exact ⟨⟨_, rfl⟩, .inl HE.out⟩
end Go.Proofs.Ytjgjcppkbfojpaa.Rhy
