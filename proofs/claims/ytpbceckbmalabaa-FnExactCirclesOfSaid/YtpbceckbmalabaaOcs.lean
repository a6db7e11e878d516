/-
  Helpers of the claims beside this text: slices of circles.
-/
import Derived.Test.YtpbceckbmalabaaOcc
namespace Go.Proofs.Ytpbceckbmalabaa.Rhy
open Go.RowKit
set_option linter.unusedVariables false
set_option linter.unusedSimpArgs false

theorem infoC : (Try.prog.info? 61).map (fun i => (i.zero, i.size, i.bytes)) = some (some Value.nilFunc, 1, 8) := by kernel_rfl
/-- Circles in a slice: its row, and those from place k on as they were made. -/
structure Circs (w : World) (lo hi : Nat) (v : Value) (d n : Nat) (Bs : List Nat) (k : Nat) : Prop where
  row : w.ownsRow lo 61 1 v Bs.length (Bs.map cirV)
  rhi : ∀ x, v.ownBlock = some x → x < hi
  box : ∀ (j b : Nat), Bs[j]? = some b → k ≤ j → CirAt w b d n j
  bhi : ∀ (j b : Nat), Bs[j]? = some b → lo ≤ b ∧ b + 3 ≤ hi
  asc : Bs.Pairwise (fun a b => a + 3 ≤ b)
theorem circs_nil (w : World) (lo hi d n : Nat) : Circs w lo hi (.slice none 0 0) d n [] 0 :=
  ⟨World.ownsRow_nil _ _ _ _, fun x h => by simp [Value.ownBlock] at h, fun j b h => by simp at h, fun j b h => by simp at h, List.Pairwise.nil⟩
theorem Circs.below {w w' : World} {lo hi : Nat} {v : Value} {d n : Nat} {Bs : List Nat} {k : Nat} (h : Circs w lo hi v d n Bs k) (hb : Below hi w w') : Circs w' lo hi v d n Bs k :=
  ⟨own_at h.row (fun x hx => hb.block x (h.rhi x hx)), h.rhi, fun j b hj hk => (h.box j b hj hk).of (fun x h1 h2 => hb.block x (by have := (h.bhi j b hj).2; omega)), h.bhi, h.asc⟩
theorem asc_at {Bs : List Nat} (h : Bs.Pairwise (fun a b => a + 3 ≤ b)) {i j a b : Nat} (hi : Bs[i]? = some a) (hj : Bs[j]? = some b) (hij : i < j) : a + 3 ≤ b := by
  rw [List.pairwise_iff_getElem] at h
  have h1 := at_lt hi
  have h2 := at_lt hj
  have := h i j h1 h2 hij
  rw [List.getElem?_eq_getElem h1] at hi
  rw [List.getElem?_eq_getElem h2] at hj
  rw [Option.some.inj hi, Option.some.inj hj] at this
  exact this
/-- The circle at place k has been gone around. -/
theorem Circs.step {w w' : World} {lo hi : Nat} {v : Value} {d n : Nat} {Bs : List Nat} {k b : Nat} (h : Circs w lo hi v d n Bs k) (hk : Bs[k]? = some b) (hg : w.grownBy w' (some (b + 2))) : Circs w' lo hi v d n Bs (k + 1) := by
  have hc := h.box k b hk (Nat.le_refl _)
  have hne : some (b + 2) ≠ v.ownBlock := hc.p.not_row (by decide) h.row
  refine ⟨own_grown h.row hg (fun x hx e => hne (by rw [e, hx])), h.rhi, fun j b' hj hkj => ?_, h.bhi, h.asc⟩
  have h1 := h.box j b' hj (by omega)
  have h2 := asc_at h.asc hk hj (by omega)
  exact ⟨h1.d.kept hg (fun e => by have := Option.some.inj e; omega), h1.n.kept hg (fun e => by have := Option.some.inj e; omega), h1.p.kept hg (fun e => by have := Option.some.inj e; omega)⟩
/-- 'circles = append(circles, c)' at a slice of circles of the call's own. -/
theorem append_cir {ops : Array Oper} {rest : List Oper} {o : Oper} {a : Act} {Q : Exit → Act → World → Prop} (hgd : o.guard = none) (x y : Operand)
    (ho : o.op = .call { callee := .builtin .append, args := #[x, y], argTypes := #[58, 58] })
    (lo : Nat) (v : Value) (d n : Nat) (Bs : List Nat) (wr w2 : World) (h : Circs wr lo wr.heap.size v d n Bs 0) (hb : Below wr.heap.size wr w2) (hc : CirAt w2 wr.heap.size d n Bs.length) (hz : w2.heap.size = wr.heap.size + 3) (hlo : lo ≤ wr.heap.size) (hl : Bs.length ≤ 1048577) (N : Nat) (hN : N = w2.heap.size)
    (hs : a.eval x = v) (hx : a.eval y = .slice (some ⟨N, 0, none⟩) 1 1)
    (hK : ∀ a' c' w3, Circs w3 lo w3.heap.size (.slice a' (Bs.length + 1) c') d n (Bs ++ [wr.heap.size]) 0 → Below lo w2 w3 → wpList Try.prog ops Q rest (a.put o.dst (.slice a' (Bs.length + 1) c')) w3) :
    wpList Try.prog ops Q (o :: rest) a (w2.alloc (.cells #[cirV wr.heap.size] 61)) := by
  obtain ⟨i0, hi, hz0, hsz, hby⟩ := info_parts' infoC
  subst hN
  have h2 := h.below hb
  refine wpList_append_own _ hgd x y 58 ho lo 61 i0 Value.nilFunc 1 8 Try.underlying58 hi hz0 hsz hby rfl (by decide) v Bs.length (Bs.map cirV) hs (h2.row.alloc _) ⟨w2.heap.size, 0, none⟩ 1 1 [cirV wr.heap.size] hx rfl (cell_one_new _ _ _) ?_ ?_ ?_ ?_ ?_
  · intro u hu
    simp only [List.mem_cons, List.not_mem_nil, or_false] at hu
    rcases hu with rfl
    rfl
  · unfold maxLen; omega
  · omega
  · simp; omega
  · intro v' w' ho' hg _
    have ho2 : w'.ownsRow lo 61 1 v' (Bs.length + 1) (Bs.map cirV ++ [cirV wr.heap.size]) := ho'
    obtain ⟨g, cap, rfl⟩ := ownsRow_succ ho2
    have hkeep : ∀ (t : TypeId) (b : Nat) (u : Value), t ≠ 61 → Boxed w2 b t u → Boxed w' b t u := fun t b u ht hx => (hx.alloc _).kept hg (hx.not_row ht h2.row)
    refine hK _ cap w' ⟨by rw [List.map_append, List.length_append]; exact ho2, fun x hx => (ho2.lt x hx).2, fun j b hj _ => ?_, fun j b hj => ?_, ?_⟩ ((((Below.refl lo w2).alloc (by omega) _).grown hg (by simp; omega) fun k hk => (h2.row.lt k hk).1))
    · rcases getElem_snoc hj with q | ⟨e1, e2⟩
      · have h3 := h2.box j b q (Nat.zero_le _)
        exact ⟨hkeep _ _ _ (by decide) h3.d, hkeep _ _ _ (by decide) h3.n, hkeep _ _ _ (by decide) h3.p⟩
      · rw [e1, e2]
        exact ⟨hkeep _ _ _ (by decide) hc.d, hkeep _ _ _ (by decide) hc.n, hkeep _ _ _ (by decide) hc.p⟩
    · have hsz' := hg.size
      simp at hsz'
      rcases getElem_snoc hj with q | ⟨e1, e2⟩
      · have := h.bhi j b q; omega
      · omega
    · rw [List.pairwise_append]
      refine ⟨h.asc, by simp, fun x hx y hy => ?_⟩
      rw [List.mem_singleton] at hy
      rw [hy]
      obtain ⟨j, hj⟩ := List.mem_iff_getElem?.1 hx
      exact (h.bhi j x hj).2

set_option maxHeartbeats 1000000 in
theorem circs_any (d n : Nat) (w : World) (hn : 2 ≤ n ∧ n ≤ 24) (hd : 1 ≤ d ∧ d < n) :
    Calls Try.prog 49 #[.int .i64 d, .int .i64 n] w fun e w' => ∃ a c Bs, e = .returned (.slice a (Nat.gcd n d) c) ∧ Bs.length = Nat.gcd n d ∧ Circs w' w.heap.size w'.heap.size (.slice a (Nat.gcd n d) c) d n Bs 0 ∧ Below w.heap.size w w' := by
  obtain ⟨g, hg⟩ : ∃ g, Nat.gcd n d = g := ⟨_, rfl⟩
  have HG : Hid (Nat.gcd d n = g) := Lib.hid (by rw [Nat.gcd_comm]; exact hg)
  have hg24 : g ≤ 24 := by rw [← hg]; have : Nat.gcd n d ≤ n := Nat.gcd_le_left _ (by omega); omega
  rw [hg]
  clear hg
  go_enter Try.func49, Try.ntmps49
  go_wp2_with fail
  refine (gcd_impl d n _ (by omega) (by omega)).mono ?_
  rintro e w1 ⟨rfl, hb1⟩
  have HB1 := Lib.hid hb1
  clear hb1
  rw [HG.out]
  go_wp2
  go_loopw [5, 10] (fun v i wr => ∃ (k : Nat) (Bs : List Nat) (av : Option Addr) (cv : Nat), k ≤ g ∧ i = .int .i64 k ∧ Bs.length = k ∧ v = .slice av Bs.length cv ∧ Circs wr w1.heap.size wr.heap.size (.slice av Bs.length cv) d n Bs 0 ∧ Below w1.heap.size w1 wr) (fun _ i _ => g - (intOf i).toNat)
  case atStart => exact ⟨0, [], none, 0, by omega, rfl, rfl, rfl, circs_nil _ _ _ _ _, Below.refl _ _⟩
  case round =>
    obtain ⟨k, Bs, av, cv, hk, rfl, hbs, rfl, hci, hbw⟩ := hrel
    have HBS := Lib.hid hbs
    have HCI := Lib.hid hci
    have HBW := Lib.hid hbw
    clear hbs hci hbw
    by_cases hlt : k < g
    · have hbl : Bs.length ≤ 1048577 := by have := HBS.out; omega
      go_wp2_with fail
      refine (cirFrom_any k d n wr).mono ?_
      rintro e w2 ⟨rfl, hc2, hb2, hz2⟩
      have HC2 : Hid (CirAt w2 wr.heap.size d n Bs.length) := Lib.hid (by rw [HBS.out]; exact hc2)
      unfold cirV
      have HB2 := Lib.hid hb2
      have HZ2 := Lib.hid hz2
      clear hc2 hb2 hz2
      go_wp2_with (at_builtin; refine append_cir rfl _ _ rfl w1.heap.size _ d n Bs wr w2 HCI.out HB2.out HC2.out HZ2.out HBW.out.size hbl _ rfl rfl rfl ?_; intro a' c' w3 hc3 hb3; have HC3 := Lib.hid hc3; have HB3 := Lib.hid hb3; clear hc3 hb3)
      go_roundw
      case rel => exact ⟨k + 1, Bs ++ [wr.heap.size], a', c', by omega, by go_num, by rw [List.length_append, HBS.out]; rfl, by rw [List.length_append]; rfl, by rw [List.length_append]; exact HC3.out, HBW.out.trans ((HB2.out.mono HBW.out.size).trans HB3.out)⟩
      case measure => simp [intOf]; omega
    · have e : k = g := by omega
      have HE : Hid (Bs.length = g) := Lib.hid (by rw [HBS.out, e])
      clear e
      go_wp2
      go_ret
      refine ⟨av, cv, Bs, by rw [HE.out]; rfl, HE.out, ?_, HB1.out.trans (HBW.out.mono HB1.out.size)⟩
      have hc := HCI.out
      rw [HE.out] at hc
      exact ⟨own_base hc.row HB1.out.size, hc.rhi, hc.box, fun j b hj => ⟨Nat.le_trans HB1.out.size (hc.bhi j b hj).1, (hc.bhi j b hj).2⟩, hc.asc⟩
end Go.Proofs.Ytpbceckbmalabaa.Rhy
