/-
  Helpers of the claims beside this text: what the laws' own same and rhythms do; contracts at valid rhythms in the words that the laws' walks want.
-/
import Derived.Test.YtcppmcacjjjjeaaMoves
import Derived.Test.YtcppmcacjjjjeaaSmall
import Derived.Test.YtcppmcacjjjjeaaCur
import Derived.Maps.AppendAt
import Derived.Test.YtcppmcacjjjjeaaOut
import Derived.Test.YtcppmcacjjjjeaaRot
namespace Go.Proofs.Ytcppmcacjjjjeaa.Rhy
open Go.RowKit
set_option linter.unusedVariables false

set_option maxHeartbeats 400000 in
theorem same_law (a b : Option Addr) (n ca cb : Nat) (l : List Int) (w : World) (ha : IntsAt w a n l) (hb : IntsAt w b n l) (hn : n ≤ 1048576) :
    Calls Try.prog 69 #[.slice a n ca, .slice b n cb] w fun e w' => e = .returned (.bool true) ∧ w = w' := by
  have FA := Lib.hid ha
  have FB := Lib.hid hb
  clear ha hb
  go_enter Try.func69, Try.ntmps69
  go_wp2
  go_loop [14] (fun i => ∃ k : Nat, k ≤ n ∧ i = .int .i64 k) (fun i => n - (intOf i).toNat)
  case atStart => exact ⟨0, by omega, rfl⟩
  case round =>
    obtain ⟨k, hk, rfl⟩ := hrel
    by_cases hlt : k < n
    · obtain ⟨ga, oa, z, rfl, la, hza, c1, _, _⟩ := FA.out.at hlt
      obtain ⟨gb, ob, z', rfl, lb, hzb, c2, _, _⟩ := FB.out.at hlt
      rw [hza] at hzb
      obtain rfl : z = z' := Option.some.inj hzb
      clear hza hzb
      go_wp2
      go_round
      case rel => exact ⟨k + 1, by omega, by go_num⟩
      case measure => simp [intOf]; omega
    · go_wp2
      go_ret
      exact ⟨rfl, rfl⟩
/-- Two equal rhythms. -/
theorem rhythms_law (s : Int) (a b : Option Addr) (ca cb : Nat) (l : List Int) (w : World) (ha : IntsAt w a l.length l) (hb : IntsAt w b l.length l) (hn : l.length ≤ 1048576) :
    Calls Try.prog 27 #[rhy s a l.length ca, rhy s b l.length cb] w fun e w' => e = .returned (.bool true) ∧ Below w.heap.size w w' := by
  have FA := Lib.hid ha
  have FB := Lib.hid hb
  clear ha hb
  go_enter Try.func27, Try.ntmps27
  go_wp2_with fail
  refine (same_law a b l.length ca cb l _ (FA.out.below (bel2 w _ _)) (FB.out.below (bel2 w _ _)) hn).mono ?_
  rintro e w1 ⟨rfl, rfl⟩
  go_wp2
  go_ret
  exact ⟨rfl, bel2 w _ _⟩

/-- A rhythm and true, of a function that has one. -/
theorem cpost_open {c : Prop} {s : Int} {l : List Int} {w w' : World} {e : Ending} (hc : c) (h : CPost c s l w e w') : RetPost s l true w e w' := by
  unfold CPost at h
  rwa [cS_yes hc, cZ_yes hc, cB_yes hc] at h
theorem cpost_shut {c : Prop} {s : Int} {l : List Int} {w w' : World} {e : Ending} (hc : ¬ c) (h : CPost c s l w e w') : RetPost 0 [] false w e w' := by
  unfold CPost at h
  rwa [cS_no hc, cZ_no hc, cB_no hc] at h
end Go.Proofs.Ytcppmcacjjjjeaa.Rhy

/-
  Helpers of the claims beside this text: the rhythms that the laws draw from their code: each is valid and no longer than asked.
-/
namespace Go.Proofs.Ytcppmcacjjjjeaa.Rhy
open Go.RowKit
open Go.Proofs.Ytcppmcacjjjjeaa.Cur
set_option linter.unusedVariables false

theorem once_any (m : Nat) (B g : Nat) (a : Option Addr) (len cap : Nat) (w : World) (hc : CurAt B g a len cap w) (hb : BytesAt B w a len) (h1 : 1 ≤ m) (h2 : m ≤ 256) :
    Calls Try.prog 97 #[.pointer (some ⟨g, 0, none⟩), .int .i64 m] w fun e w' => (∃ b : Bool, e = .returned (.bool b)) ∧ (CurAt B g a len cap w' ∧ w.grownBy w' (some g)) := by
  have HC := Lib.hid (below_any m B g a len cap w hc hb h1 h2)
  clear hc hb
  go_enter Try.func97, Try.ntmps97
  go_wp2_with fail
  refine HC.out.mono ?_
  rintro e w' ⟨r, rfl, hr0, hr1, hcur, hgr⟩
  have HH := Lib.hid (And.intro hcur hgr)
  clear hcur hgr
  go_wp2
  go_ret
  exact ⟨⟨_, rfl⟩, HH.out⟩

/-- A drawn rhythm: valid, of at most m pulses. -/
def DrawnR (m : Nat) (B g : Nat) (a : Option Addr) (len cap : Nat) (w : World) (e : Ending) (w' : World) : Prop :=
  ∃ (n : Nat) (b : Option Addr) (c : Nat) (zs : List Int), e = .returned (rhy n b zs.length c) ∧ Ok n zs ∧ n ≤ m ∧ w'.ownsRow w.heap.size 3 1 (.slice b zs.length c) zs.length (ints zs) ∧ CurAt B g a len cap w' ∧ w.grownBy w' (some g)
/-- Numbers below k that go up. -/
def Upto (k : Nat) (zs : List Int) : Prop := zs.Pairwise (· < ·) ∧ (∀ z ∈ zs, 0 ≤ z ∧ z < k) ∧ zs.length ≤ k
theorem upto_nil : Upto 0 [] := ⟨List.Pairwise.nil, (fun z h => by simp at h), Nat.le_refl _⟩
theorem upto_same {k : Nat} {zs : List Int} (h : Upto k zs) : Upto (k + 1) zs := ⟨h.1, fun z hz => by have := h.2.1 z hz; omega, Nat.le_succ_of_le h.2.2⟩
theorem upto_snoc {k : Nat} {zs : List Int} (h : Upto k zs) : Upto (k + 1) (zs ++ [(k : Int)]) := by
  refine ⟨?_, fun z hz => ?_, by simp; exact h.2.2⟩
  · rw [List.pairwise_append]
    refine ⟨h.1, by simp, fun x hx y hy => ?_⟩
    have := h.2.1 x hx
    simp at hy
    omega
  · rcases List.mem_append.1 hz with q | q
    · have := h.2.1 z q; omega
    · simp at q; omega
theorem upto_int {k : Nat} {zs : List Int} (h : Upto k zs) (hk : k ≤ 1000) : AllInt zs := fun z hz => by have := h.2.1 z hz; omega

/-- The rhythm in its box so far; its row lies neither in the cursor's block nor in the boxes. -/
def DrwAt (n k B g gb : Nat) (a : Option Addr) (len cap : Nat) (w w0 wr : World) : Prop :=
  ∃ (zs : List Int) (av : Option Addr) (cv : Nat), Upto k zs ∧ Box wr gb (.int .i64 n) (.slice av zs.length cv) 25 ∧ Box wr w.heap.size (.int .i64 0) (.slice none 0 0) 25 ∧
    wr.ownsRow (gb + 1) 3 1 (.slice av zs.length cv) zs.length (ints zs) ∧ CurAt B g a len cap wr ∧ BytesAt B wr a len ∧ w.grownBy wr (some g) ∧ gb + 1 ≤ wr.heap.size
theorem own_grownN {w w' : World} {g B : Nat} {v : Value} {n : Nat} {xs : List Value} {e : TypeId} {size : Nat} (h : w.ownsRow B e size v n xs) (hg : w.grownBy w' (some g)) (hB : g < B) : w'.ownsRow B e size v n xs := by
  cases hv : v.ownBlock with
  | none => exact h.kept hg (.inl hv)
  | some x => exact h.kept hg (.inr (by rw [hv]; intro q; have := (h.lt x hv).1; have := Option.some.inj q; omega))
theorem grown_below {g B : Nat} {w wr w' : World} (h : w.grownBy wr (some g)) (hb : Below B wr w') (hB : w.heap.size ≤ B) : w.grownBy w' (some g) :=
  ⟨hb.os.trans h.os, hb.tape.trans h.tape, hb.output.trans h.output, Nat.le_trans h.size hb.size, fun k hk hne => (hb.block k (by omega)).trans (h.block k hk hne)⟩
theorem cur_below {B g B' : Nat} {a : Option Addr} {len cap : Nat} {w w' : World} (h : CurAt B g a len cap w) (hb : Below B' w w') (hg : g < B') : CurAt B g a len cap w' := by
  obtain ⟨h1, k, x, h2, h3, h4, h5⟩ := h
  exact ⟨h1, k, x, h2, h3, h4, by rw [hb.block g hg]; exact h5⟩

set_option maxHeartbeats 1000000 in
set_option maxRecDepth 100000 in
theorem draw_any (m : Nat) (B g : Nat) (a : Option Addr) (len cap : Nat) (w : World) (hc : CurAt B g a len cap w) (hb : BytesAt B w a len) (h1 : 1 ≤ m) (h2 : m ≤ 24) :
    Calls Try.prog 57 #[.pointer (some ⟨g, 0, none⟩), .int .i64 m] w (DrawnR m B g a len cap w) := by
  have hgw := hc.lt.2
  have hBg := hc.lt.1
  have HC := Lib.hid (hc.alloc (.cells #[.int .i64 0, .slice none 0 0] 25))
  have HBT := Lib.hid (hb.below (w' := w.alloc (.cells #[.int .i64 0, .slice none 0 0] 25)) ((Below.refl B w).alloc (by omega) _))
  clear hc hb
  go_enter Try.func57, Try.ntmps57
  go_wp2_with fail
  refine (below_any m B g a len cap _ HC.out HBT.out h1 (by omega)).mono ?_
  rintro e w1 ⟨r, rfl, hr0, hr1, hcur, hgr⟩
  obtain ⟨n0, rfl⟩ : ∃ n0 : Nat, r = n0 := ⟨r.toNat, by omega⟩
  have hn : n0 + 1 ≤ m := by omega
  have hn0 : n0 ≤ 23 := by omega
  have hw1 : w.heap.size + 1 ≤ w1.heap.size := by have := hgr.size; simp at this; omega
  have HB1 := Lib.hid (show Box w1 w.heap.size (.int .i64 0) (.slice none 0 0) 25 by
    unfold Box
    rw [hgr.block w.heap.size (by simp) (by simp; omega)]
    exact box_new w _ _ _)
  have HG1 : Hid (w.grownBy w1 (some g)) := Lib.hid (grown_trans (World.grownBy_alloc w _ (some g)) hgr)
  have HCU := Lib.hid hcur
  have HBY : Hid (BytesAt B w1 a len) := Lib.hid (HBT.out.below (below_of_own hBg (by simp; omega) hgr))
  clear hcur hgr hr0 hr1
  have e1 : (1 : Int) + (n0 : Int) = ((n0 + 1 : Nat) : Int) := by omega
  obtain ⟨n, hnn⟩ : ∃ n, n = n0 + 1 := ⟨_, rfl⟩
  rw [← hnn] at e1 hn
  have HE1 := Lib.hid e1
  have hn1 : 1 ≤ n := by omega
  clear e1 hnn
  obtain ⟨gb, hgb⟩ : ∃ gb, gb = w1.heap.size := ⟨_, rfl⟩
  have HGB := Lib.hid hgb
  have HA : Hid (DrwAt n 0 B g gb a len cap w w1 (w1.alloc (.cells #[.int .i64 n, .slice none 0 0] 25))) := Lib.hid ⟨[], none, 0, upto_nil, by rw [hgb]; exact box_new w1 _ _ _, HB1.out.keep (B := w1.heap.size) ((Below.refl _ _).alloc (Nat.le_refl _) _) (by omega), World.ownsRow_nil _ _ _ _, HCU.out.alloc _, HBY.out.below ((Below.refl B w1).alloc (by omega) _), grown_trans HG1.out (World.grownBy_alloc _ _ _), by rw [hgb]; simp⟩
  rw [← hgb] at hw1
  clear hgb
  go_wp2
  rw [← HGB.out, HE1.out]
  go_loopw [7] (fun i wr => ∃ k : Nat, k ≤ n ∧ i = .int .i64 k ∧ DrwAt n k B g gb a len cap w w1 wr) (fun i _ => n - (intOf i).toNat)
  case atStart => exact ⟨0, by omega, rfl, HA.out⟩
  case round =>
    clear HA
    obtain ⟨k, hk, rfl, zs, av, cv, hup, hbx, hb0, hown, hcur, hby, hgr, hsz⟩ := hrel
    have HUP := Lib.hid hup
    have HBX := Lib.hid hbx
    have HB0 := Lib.hid hb0
    have HO := Lib.hid hown
    have HG := Lib.hid hgr
    have HBT2 := Lib.hid hby
    have hzl := hup.2.2
    by_cases hlt : k < n
    · have HCUR := Lib.hid hcur
      have hgr2 := hcur.lt.2
      clear hup hbx hb0 hown hcur hby hgr
      go_wp2_with fail
      refine (once_any 2 B g a len cap wr HCUR.out HBT2.out (by omega) (by omega)).mono ?_
      rintro e w2 ⟨⟨b, rfl⟩, hcur2, hgr3⟩
      have HBX2 := Lib.hid (show Box w2 gb (.int .i64 n) (.slice av zs.length cv) 25 by unfold Box; rw [hgr3.block gb (by omega) (by simp; omega)]; exact HBX.out)
      have HB02 := Lib.hid (show Box w2 w.heap.size (.int .i64 0) (.slice none 0 0) 25 by unfold Box; rw [hgr3.block w.heap.size (by omega) (by simp; omega)]; exact HB0.out)
      have HO2 := Lib.hid (own_grownN (g := g) HO.out hgr3 (by omega))
      have HCU2 := Lib.hid hcur2
      have HG2 := Lib.hid (grown_trans HG.out hgr3)
      have HBT3 := Lib.hid (HBT2.out.below (below_of_own hBg (by omega) hgr3))
      have hz2 : gb + 1 ≤ w2.heap.size := by have := hgr3.size; omega
      obtain ⟨q0, q1, q2, q3⟩ := HBX2.out.facts
      have ltb := HBX2.out.lt
      clear hcur2 hgr3
      cases b
      · go_wp2
        go_roundw
        case rel => exact ⟨k + 1, by omega, by go_num, zs, av, cv, upto_same HUP.out, HBX2.out, HB02.out, HO2.out, HCU2.out, HBT3.out, HG2.out, hz2⟩
        case measure => simp [intOf]; omega
      · go_wp2_with (at_builtin; refine append_int rfl _ _ rfl (gb + 1) _ zs k _ HO2.out (by omega) hz2 _ rfl rfl rfl ?_; intro a' c' w3 hown3 hb3; have HO3 := Lib.hid hown3; have HX3 := Lib.hid hb3; have hq := HX3.out.frozen (p := ⟨gb, 1, none⟩) (by show gb < gb + 1; omega); have hq2 := HX3.out.cell (p := ⟨gb, 1, none⟩) (by show gb < gb + 1; omega); clear hown3 hb3)
        go_roundw
        case rel =>
          refine ⟨k + 1, by omega, by go_num, zs ++ [(k : Int)], a', c', upto_snoc HUP.out, ?_, ?_, ?_, ?_, ?_, ?_, ?_⟩
          · have := (HBX2.out.keep HX3.out (by omega)).set1 (.slice a' (zs.length + 1) c')
            simpa using this
          · exact (HB02.out.keep HX3.out (by omega)).other _ (by omega)
          · exact ownsRow_setCell_below HO3.out (by show gb < gb + 1; omega) _
          · exact cur_below (cur_below HCU2.out HX3.out (by omega)) ((Below.refl gb w3).setCell (by show gb ≤ gb; omega) _) (by omega)
          · exact HBT3.out.below ((HX3.out.mono (by omega)).setCell (by show B ≤ gb; omega) _)
          · exact grown_below HG2.out ((HX3.out.mono (B' := gb) (by omega)).setCell (by show gb ≤ gb; omega) _) (by omega)
          · have := HX3.out.size; simp; omega
        case measure => simp [intOf]; omega
    · have e : k = n := by omega
      obtain ⟨q0, q1, q2, q3⟩ := hbx.facts
      obtain ⟨p0, p1, p2, p3⟩ := hb0.facts
      have lt0 := hb0.lt
      have lt1 := hbx.lt
      have HCU := Lib.hid hcur
      have HUN : Hid (Upto n zs) := Lib.hid (by rw [← e]; exact HUP.out)
      clear hup hbx hb0 hown hcur hby hgr e
      go_wp2
      refine bodyPost_ret (v := rhy n av zs.length cv) (by simp [results, Try.results57, go_sem, *]) rfl ⟨n, av, cv, zs, rfl, ok_of (by omega) (by omega) HUN.out.1 HUN.out.2.1, hn, ?_, ?_, ?_⟩
      · exact own_base (ownsRow_setCell_below (ownsRow_setCell_below HO.out (by show w.heap.size < gb + 1; omega) _) (by show w.heap.size < gb + 1; omega) _) (by omega)
      · exact cur_below HCU.out (((Below.refl w.heap.size wr).setCell (by simp) _).setCell (by simp) _) hgw
      · exact grown_below HG.out (((Below.refl w.heap.size wr).setCell (by simp) _).setCell (by simp) _) (Nat.le_refl _)

/-- A drawn rhythm, seen from where the code lies. -/
def RhyMade (m : Nat) (w : World) (e : Ending) (w' : World) : Prop :=
  ∃ (n : Nat) (b : Option Addr) (c : Nat) (zs : List Int), e = .returned (rhy n b zs.length c) ∧ Ok n zs ∧ n ≤ m ∧ w'.ownsRow w.heap.size 3 1 (.slice b zs.length c) zs.length (ints zs) ∧ Below w.heap.size w w'
set_option maxHeartbeats 400000 in
set_option maxRecDepth 100000 in
theorem make_any (a : Option Addr) (len cap k m : Nat) (w : World) (hb : BytesAt w.heap.size w a len) (hk : k ≤ 1048576) (h1 : 1 ≤ m) (h2 : m ≤ 24) :
    Calls Try.prog 15 #[.slice a len cap, .int .i64 k, .int .i64 m] w (RhyMade m w) := by
  have HB := Lib.hid hb
  clear hb
  obtain ⟨W0, hW⟩ : ∃ W0, W0 = w.alloc (.cells #[.int .i64 0, .slice none 0 0] 25) := ⟨_, rfl⟩
  have HW := Lib.hid hW
  have B0 := Lib.hid (show Below w.heap.size w W0 by rw [hW]; exact bel1 w _)
  have HX0 := Lib.hid (show Box W0 w.heap.size (.int .i64 0) (.slice none 0 0) 25 by rw [hW]; exact box_new w _ _ _)
  have hs0 : W0.heap.size = w.heap.size + 1 := by rw [hW]; simp
  have HS0 := Lib.hid hs0
  have HBT : Hid (BytesAt W0.heap.size W0 a len) := Lib.hid (by
    have h3 := HB.out.below B0.out
    exact ⟨h3.1, fun hp => by obtain ⟨b, off, e, hlt, hc⟩ := h3.2 hp; exact ⟨b, off, e, by omega, hc⟩⟩)
  clear hW hs0
  go_enter Try.func15, Try.ntmps15
  go_wp2_with fail
  rw [← HW.out]
  refine (skip_any a len cap k W0 HBT.out hk).mono ?_
  rintro e w1 ⟨rfl, hcur, hb1⟩
  have HC := Lib.hid hcur
  have HB1 := Lib.hid hb1
  clear hcur hb1
  have hge : W0.heap.size ≤ w1.heap.size := HB1.out.size
  have hz0 : w.heap.size < W0.heap.size := by have := HS0.out; omega
  have hx1 : Hid (Box w1 w.heap.size (.int .i64 0) (.slice none 0 0) 25) := Lib.hid (HX0.out.keep HB1.out hz0)
  go_wp2_with fail
  rw [show max (1 : Int) (min (m : Int) 24) = (m : Int) by omega]
  refine (draw_any m W0.heap.size W0.heap.size a len cap w1 HC.out (HBT.out.below HB1.out) h1 h2).mono ?_
  rintro e w2 ⟨n, b, c, zs, rfl, hok, hn, hi, hcur2, hgr⟩
  have HI := Lib.hid hi
  have HOK := Lib.hid hok
  have B2 := Lib.hid (show Below w.heap.size w w2 from (B0.out.trans (HB1.out.mono (by omega))).trans ((below_of_own (Nat.le_refl _) hge hgr).mono (by omega)))
  have HX2 := Lib.hid (show Box w2 w.heap.size (.int .i64 0) (.slice none 0 0) 25 by unfold Box; rw [hgr.block w.heap.size (by omega) (by simp; omega)]; exact hx1.out)
  obtain ⟨p0, p1, p2, p3⟩ := HX2.out.facts
  have lt0 := HX2.out.lt
  clear hi hok hcur2 hgr
  go_wp2
  refine bodyPost_ret (v := rhy n b zs.length c) (by simp [results, Try.results15, go_sem, *]) rfl ⟨n, b, c, zs, rfl, HOK.out, hn, ?_, ?_⟩
  · exact own_base (ownsRow_setCell_below (ownsRow_setCell_below HI.out (by show w.heap.size < w1.heap.size; omega) _) (by show w.heap.size < w1.heap.size; omega) _) (by omega)
  · exact (B2.out.setCell (by simp) _).setCell (by simp) _
end Go.Proofs.Ytcppmcacjjjjeaa.Rhy

/-
  Helpers of the claims beside this text: a rhythm in a new box.
-/
namespace Go.Proofs.Ytcppmcacjjjjeaa.Rhy
open Go.RowKit
open Go.Proofs.Ytcppmcacjjjjeaa.Cur
set_option linter.unusedVariables false

theorem bytes_up {B : Nat} {w w' : World} {a : Option Addr} {len : Nat} (h : BytesAt B w a len) (hb : Below B w w') (hB : B ≤ w'.heap.size) : BytesAt w'.heap.size w' a len := by
  have h3 := h.below hb
  exact ⟨h3.1, fun hp => by obtain ⟨b, off, e, hlt, hc⟩ := h3.2 hp; exact ⟨b, off, e, by omega, hc⟩⟩

/-- A new box that holds a rhythm. -/
abbrev putR (W : World) (s : Int) (a : Option Addr) (len cap : Nat) : World := W.alloc (.cells #[.int .i64 s, .slice a len cap] 25)
theorem putR_below (W : World) (s : Int) (a : Option Addr) (len cap : Nat) : Below W.heap.size W (putR W s a len cap) := bel1 W _
theorem putR_size (W : World) (s : Int) (a : Option Addr) (len cap : Nat) : (putR W s a len cap).heap.size = W.heap.size + 1 := by simp [putR]
theorem putR_two (W : World) (s : Int) (a : Option Addr) (len cap : Nat) : Two (putR W s a len cap) W.heap.size (.int .i64 s) (.slice a len cap) := two_new W _ _ _
theorem putR_box (W : World) (s : Int) (a : Option Addr) (len cap : Nat) : Box (putR W s a len cap) W.heap.size (.int .i64 s) (.slice a len cap) 25 := box_new W _ _ _
/-- What a box holds: a rhythm. -/
def RhAt (w : World) (b : Nat) (n : Nat) (a : Option Addr) (cap : Nat) (zs : List Int) : Prop := Box w b (.int .i64 n) (.slice a zs.length cap) 25 ∧ IntsAt w a zs.length zs
theorem RhAt.keep {w w' : World} {b n : Nat} {a : Option Addr} {cap : Nat} {zs : List Int} (h : RhAt w b n a cap zs) (hb : Below w.heap.size w w') : RhAt w' b n a cap zs := ⟨h.1.keep hb h.1.lt, h.2.below hb⟩
theorem rhAt_put {w' : World} {n : Nat} {a : Option Addr} {cap : Nat} {zs : List Int} {B : Nat} (h : w'.ownsRow B 3 1 (.slice a zs.length cap) zs.length (ints zs)) (hi : AllInt zs) : RhAt (putR w' n a zs.length cap) w'.heap.size n a cap zs :=
  ⟨putR_box _ _ _ _ _, (intsAt_own h hi).below (putR_below _ _ _ _ _)⟩
theorem ok_allInt {n : Int} {zs : List Int} (h : Ok n zs) : AllInt zs := fun z hz => by have := ok_range h z hz; have := h.1; omega
end Go.Proofs.Ytcppmcacjjjjeaa.Rhy

/-
  Helpers of the claims beside this text: rhythms at valid rhythms: what the program answers, in the words that the laws want.
-/
namespace Go.Proofs.Ytcppmcacjjjjeaa.Rhy
open Go.RowKit
set_option linter.unusedVariables false

theorem r_rot (n : Nat) (a : Option Addr) (cap : Nat) (zs l : List Int) (k : Int) (w : World) (h : IntsAt w a zs.length zs) (ho : Ok n zs) (h1 : -1000 ≤ k) (h2 : k ≤ 1000) (hl : rotZ n zs 1 k = l) :
    Calls Try.prog 21 #[rhy n a zs.length cap, .int .i64 k] w (RetPost n l true w) := by
  refine (rot_impl n a zs.length cap zs k w h (by have := ok_len ho; omega) (by omega) (by omega)).mono fun e w' h => ?_
  rw [← hl]
  exact cpost_open ⟨ho, h1, h2⟩ h
theorem r_mir (n : Nat) (a : Option Addr) (cap : Nat) (zs l : List Int) (w : World) (h : IntsAt w a zs.length zs) (ho : Ok n zs) (hl : rotZ n zs (-1) 0 = l) :
    Calls Try.prog 25 #[rhy n a zs.length cap] w (RetPost n l true w) := by
  refine (mir_impl n a zs.length cap zs w h (by have := ok_len ho; omega)).mono fun e w' h => ?_
  rw [← hl]
  exact cpost_open ho h
theorem r_oth (n : Nat) (a : Option Addr) (cap : Nat) (zs l : List Int) (w : World) (h : IntsAt w a zs.length zs) (ho : Ok n zs) (hl : notZ n zs = l) :
    Calls Try.prog 18 #[rhy n a zs.length cap] w (RetPost n l true w) := by
  refine (oth_impl n a zs.length cap zs w h (by have := ok_len ho; omega)).mono fun e w' h => ?_
  rw [← hl]
  exact cpost_open ho h

theorem r_has (n : Nat) (a : Option Addr) (cap : Nat) (zs : List Int) (k : Int) (r : Bool) (w : World) (h : IntsAt w a zs.length zs) (ho : Ok n zs) (h1 : -1000 ≤ k) (h2 : k ≤ 1000) (hr : hasB zs (remB k n) = r) :
    Calls Try.prog 35 #[rhy n a zs.length cap, .int .i64 k] w fun e w' => e = .returned (.bool r) ∧ Below w.heap.size w w' := by
  have := beat_impl n a zs.length cap zs k w h (by have := ok_len ho; omega) (by omega) (by omega)
  rwa [beatB_yes ho, hr] at this
theorem r_str_yes (n : Nat) (a : Option Addr) (cap : Nat) (zs l : List Int) (u : Nat) (w : World) (h : IntsAt w a zs.length zs) (ho : Ok n zs) (h1 : 1 ≤ u) (h2 : (u : Int) ≤ max 1 ((n : Int) - 1)) (hg : Nat.gcd u n = 1) (hl : rotZ n zs u 0 = l) :
    Calls Try.prog 26 #[rhy n a zs.length cap, .int .i64 u] w (RetPost n l true w) := by
  have hn := ho.1.2
  refine (str_impl n a zs.length cap zs u w h (by have := ok_len ho; omega) (by omega) (by omega)).mono fun e w' h => ?_
  rw [← hl]
  exact cpost_open ⟨ho, ⟨by omega, h2⟩, by simpa using hg⟩ h
theorem r_str_no (n : Nat) (a : Option Addr) (cap : Nat) (zs : List Int) (u : Nat) (w : World) (h : IntsAt w a zs.length zs) (ho : Ok n zs) (h1 : 1 ≤ u) (h2 : (u : Int) ≤ max 1 ((n : Int) - 1)) (hg : Nat.gcd u n ≠ 1) :
    Calls Try.prog 26 #[rhy n a zs.length cap, .int .i64 u] w (RetPost 0 [] false w) := by
  have hn := ho.1.2
  exact (str_impl n a zs.length cap zs u w h (by have := ok_len ho; omega) (by omega) (by omega)).mono fun e w' h => cpost_shut (fun q => hg (by simpa using q.2.2)) h
theorem len_moved {s : Int} {zs : List Int} (ho : Ok s zs) {u k : Int} (hc : Nat.gcd u.natAbs s.natAbs = 1) : (rotZ s zs u k).length = zs.length := by
  unfold rotZ
  rw [← moved_eq ho hc, sortZ_len, mapL_len]
theorem not_len' {n : Nat} {zs : List Int} (ho : Ok n zs) : (notZ n zs).length + zs.length = n := not_len ho
theorem not_not' {n : Nat} {zs : List Int} (ho : Ok n zs) : notZ n (notZ n zs) = zs := not_not ho
theorem not_ok' {n : Nat} {zs : List Int} (ho : Ok n zs) : Ok n (notZ n zs) := not_ok ho
theorem rot_back {n : Int} {zs : List Int} (ho : Ok n zs) (k : Int) : rotZ n (rotZ n zs 1 k) 1 (-k) = zs := by
  rw [rot_rot ho, show k + -k = 0 by omega, rot_zero ho]
theorem mir_back {n : Int} {zs : List Int} (ho : Ok n zs) : rotZ n (rotZ n zs (-1) 0) (-1) 0 = zs := by
  rw [mir_mir ho, show (0 : Int) - 0 = 0 by omega, rot_zero ho]
end Go.Proofs.Ytcppmcacjjjjeaa.Rhy
