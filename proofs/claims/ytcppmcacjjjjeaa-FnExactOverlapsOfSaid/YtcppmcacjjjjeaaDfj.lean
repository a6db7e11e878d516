/-
  Helpers of the claims beside this text: DifferencesOf and VectorOf of the program.
-/
import Derived.Test.YtcppmcacjjjjeaaDfi
import Derived.Test.YtcppmcacjjjjeaaItm
namespace Go.Proofs.Ytcppmcacjjjjeaa.Rhy
open Go.RowKit Go.Maps
set_option linter.unusedVariables false
set_option linter.unusedSimpArgs false

/-- What the numbers are while some differences are still to come. -/
def numL (n : Nat) (f : Nat → Nat) (lf : Nat → Bool) : List Int := (List.range n).map fun p => if lf p then 0 else (f p : Int)
theorem numL_len (n : Nat) (f : Nat → Nat) (lf : Nat → Bool) : (numL n f lf).length = n := by simp [numL]
theorem numL_at {n : Nat} {f : Nat → Nat} {lf : Nat → Bool} {p : Nat} (h : p < n) : (numL n f lf)[p]? = some (if lf p then 0 else (f p : Int)) := by simp [numL, h]
theorem numL_step {n : Nat} {f : Nat → Nat} {lf : Nat → Bool} {p : Nat} (h : p < n) : (numL n f lf).set p (f p) = numL n f (fun q => lf q && !decide (q = p)) := by
  apply List.ext_getElem?
  intro i
  rw [List.getElem?_set, numL_len]
  by_cases hi : i < n
  · rw [numL_at hi, numL_at hi]
    by_cases q : p = i
    · subst q; simp [h]
    · have : ¬ i = p := fun e => q e.symm
      simp [q, this]
  · rw [List.getElem?_eq_none (by rw [numL_len]; omega), List.getElem?_eq_none (by rw [numL_len]; omega)]
    by_cases q : p = i
    · omega
    · simp [q]
theorem numL_start {n : Nat} {f : Nat → Nat} {lf : Nat → Bool} (h : ∀ p, p < n → lf p = false → f p = 0) : numL n f lf = List.replicate n 0 := by
  apply List.ext_getElem
  · simp [numL]
  · intro i h1 h2
    simp only [numL_len] at h1
    simp only [numL, List.getElem_map, List.getElem_range, List.getElem_replicate]
    cases hq : lf i
    · simp [h i h1 hq]
    · simp
theorem numL_done {n : Nat} {f : Nat → Nat} {lf : Nat → Bool} (h : ∀ p, p < n → lf p = false) : numL n f lf = (List.range n).map fun p => (f p : Int) := by
  unfold numL
  refine List.map_congr_left fun p hp => ?_
  rw [h p (List.mem_range.1 hp)]
  simp

theorem own_grown' {w w' : World} {B : Nat} {e : TypeId} {size : Nat} {v : Value} {n : Nat} {xs : List Value} (h : w.ownsRow B e size v n xs) (hg : w.grownBy w' none) : w'.ownsRow B e size v n xs := by
  cases hv : v.ownBlock with
  | none => exact h.kept hg (.inl hv)
  | some g => exact h.kept hg (.inr (by rw [hv]; simp))
set_option maxHeartbeats 1000000 in
theorem counts_any (n : Nat) (a : Option Addr) (len cap : Nat) (zs : List Int) (w : World) (h : IntsAt w a len zs) (hm : len ≤ 1048576) (ho : Ok n zs) :
    Calls Try.prog 60 #[rhy n a len cap] w (IPost (difZ n zs) w) := by
  have HS := Lib.hid h
  have HO := Lib.hid ho
  have hn1 : 1 ≤ n := by have := ho.1.1; omega
  have hn24 : n ≤ 24 := by have := ho.1.2; omega
  have hnn : (0 : Int) ≤ n ∧ (n : Int) ≤ 1000 := by omega
  have hN1 : n ≤ 1000 := by omega
  clear h ho
  obtain ⟨i0, hi, hz0, hz1, hz2⟩ := info_parts infoInt
  have HI := Lib.hid (show _ ∧ _ ∧ _ ∧ _ from ⟨hi, hz0, hz1, hz2⟩)
  clear hi hz0 hz1 hz2
  obtain ⟨g, hg⟩ : ∃ g, g = w.heap.size := ⟨_, rfl⟩
  have HG := Lib.hid hg
  clear hg
  obtain ⟨W0, hW⟩ : ∃ W0, W0 = w.alloc (.cells #[.int .i64 n, .slice a len cap] 25) := ⟨_, rfl⟩
  have HW := Lib.hid hW
  clear hW
  have HSZ := Lib.hid (show W0.heap.size = g + 1 by rw [HW.out, HG.out]; simp)
  have HT0 := Lib.hid (show Box W0 g (.int .i64 n) (.slice a len cap) 25 by rw [HW.out, HG.out]; exact box_new w _ _ _)
  have HBW := Lib.hid (show Below g w W0 by rw [HW.out, HG.out]; exact bel1 w _)
  go_enter Try.func60, Try.ntmps60
  go_wp2_with (at_make; refine wpList_make_full _ rfl _ _ 23 rfl (g + 1) 3 i0 (.int .i64 0) 1 Try.underlying23 HI.out.1 HI.out.2.1 HI.out.2.2.1 .i64 .i64 n n n rfl rfl rfl rfl ?b2 ?b3 ?b4 ?_)
  case b2 => rw [HI.out.2.2.2]; omega
  case b3 => unfold maxLen; omega
  case b4 => have := HSZ.out; rw [HW.out] at this; omega
  rw [← HW.out]
  intro w1 hown hgrow
  have HX : Hid (Below (g + 1) W0 w1) := Lib.hid ((Below.refl (g + 1) W0).grown hgrow (by have := HSZ.out; omega) (by intro k hk; cases hk))
  rw [toList_madeCells_one, ← HG.out] at hown
  have HOW := Lib.hid hown
  have hsz1 := (HOW.out.lt (g + 1) rfl).2
  clear hown hgrow
  rw [← HG.out]
  have HB1 := Lib.hid (HBW.out.trans (HX.out.mono (by omega)))
  obtain ⟨c0, c1, f0, f1⟩ := (HT0.out.keep HX.out (by omega)).facts
  go_wp2_with fail
  refine (difs_any n a len cap zs w1 (HS.out.below (by rw [← HG.out]; exact HB1.out)) hm HO.out).mono ?_
  rintro e w2 ⟨b, m, rfl, hbg, hm1, hcn, hb2⟩
  obtain ⟨f, hf⟩ : ∃ f : Nat → Nat, (fun i : Nat => difAt n zs i) = f := ⟨_, rfl⟩
  rw [hf] at hcn
  have HF := Lib.hid hf
  have HCN := Lib.hid hcn
  have HB2 := Lib.hid hb2
  have hsz2 := hb2.size
  have HOW2 := Lib.hid (own_below HOW.out hb2)
  have HB3 := Lib.hid (HB1.out.trans (hb2.mono (by omega)))
  have hfb : ∀ p, f p ≤ 24 := fun p => by rw [← hf]; exact dif_le HO.out _
  clear hf hcn hb2 c0 c1 f0 f1
  obtain ⟨r, hr⟩ : ∃ r, r = w2.heap.size := ⟨_, rfl⟩
  go_wp2_with (at_range; refine wpList_range_cnt _ rfl _ _ rfl Try.underlying79 n b m 0 n f rfl HCN.out ?_; intro w3 lf cnt hrg hz hgr hsz)
  go_frame
  rw [← hr] at hrg hsz ⊢
  have HA : Hid (∃ (lf : Nat → Bool) (cnt : Nat), Rng n w3 b r m 0 n f lf cnt ∧ w3.ownsRow (g + 1) 3 1 (.slice (some ⟨g + 1, 0, none⟩) n n) n (ints (numL n f lf)) ∧ Below g w w3 ∧ r < w3.heap.size) := Lib.hid
    ⟨lf, cnt, hrg, by
      have h1 := own_grown' HOW2.out hgr
      rw [numL_start hz]
      simpa [ints] using h1, HB3.out.grown hgr (by omega) (fun j e => by cases e), by omega⟩
  have HRR := Lib.hid hr
  clear hrg hz hgr hsz hr
  go_loopw [12] (fun _ wr => ∃ (lf : Nat → Bool) (cnt : Nat), Rng n wr b r m 0 n f lf cnt ∧ wr.ownsRow (g + 1) 3 1 (.slice (some ⟨g + 1, 0, none⟩) n n) n (ints (numL n f lf)) ∧ Below g w wr ∧ r < wr.heap.size) (fun _ wr => wr.rangeLeft b r)
  case atStart => exact HA.out
  case round =>
    clear HA
    obtain ⟨lf, cnt, hrg, hown, hnx, hsz⟩ := hrel
    have HRG := Lib.hid hrg
    have HO1 := Lib.hid hown
    have HX1 := Lib.hid hnx
    clear hrg hown hnx
    go_wp2_with (at_next; refine wpList_next_cnt _ rfl _ rfl n hnn b r m 0 n hN1 f lf cnt rfl HRG.out ?_ ?_)
    · intro hd
      have HD := Lib.hid (numL_done (f := f) hd)
      clear hd
      go_wp2
      go_ret
      refine ⟨some ⟨g + 1, 0, none⟩, n, ?_, ?_, ?_⟩
      · rw [difZ_len]; simp
      · have h3 := HO1.out
        rw [HD.out, ← HF.out] at h3
        rw [difZ_len, show ((n : Int)).toNat = n by omega, ← HG.out]
        have h4 : ((List.range n).map fun p => ((difAt n zs ((p : Nat) : Int) : Nat) : Int)) = difZ n zs := by unfold difZ; rw [show ((n : Int)).toNat = n by omega]
        rw [h4] at h3
        exact own_base h3 (by omega)
      · rw [← HG.out]
        exact HX1.out
    · intro p w4 cnt' hp hlp hrg4 hlt hg4 hs4 hen
      have HR4 := Lib.hid hrg4
      have HG4 := Lib.hid hg4
      have HO4 := Lib.hid (own_grown HO1.out hg4 (fun k hk e => by have h1 : g + 1 = k := Option.some.inj hk; have h2 : r = k := Option.some.inj e; have := HRR.out; omega))
      have hpf := hfb p
      clear hrg4 hg4 hfb
      have HST := Lib.hid (numL_step (f := f) (lf := lf) hp)
      have lgr : g + 1 < wr.heap.size := by have := HRR.out; omega
      have hcr := HO4.out.cellAt p (by omega)
      rw [ints, List.getElem?_map, numL_at hp, hlp] at hcr
      simp only [Option.map_some, if_true] at hcr
      have hfr := HO4.out.frozenAt p
      have lg4 : g + 1 < w4.heap.size := (HO4.out.lt (g + 1) rfl).2
      have HS4 := Lib.hid hs4
      have hcr5 : ∀ o : Obj, (w4.alloc o).cell? ⟨g + 1, p, none⟩ = some (.int .i64 0) := fun o => ((bel1 w4 o).cell (p := ⟨g + 1, p, none⟩) lg4).trans hcr
      have hfr5 : ∀ o : Obj, (w4.alloc o).frozen? ⟨g + 1, p, none⟩ = false := fun o => ((bel1 w4 o).frozen (p := ⟨g + 1, p, none⟩) lg4).trans hfr
      simp only [difV] at hen ⊢
      clear hs4 hcr hfr
      go_wp2
      go_roundw
      case rel =>
        have hst := HO4.out.stored p (.int .i64 (f p))
        rw [ints, ← List.map_set, HST.out] at hst
        have h5 := HS4.out
        have h6 := HRR.out
        refine ⟨_, cnt', (HR4.out.kept hst.2 (by simp; omega) (by simp; omega)).below (bel1 _ _), own_below hst.1 (bel1 _ _), ?_, by simp; omega⟩
        exact ((HX1.out.grown HG4.out (by omega) (fun j e => by have h2 : r = j := Option.some.inj e; have := HRR.out; omega)).setCell (by show g ≤ g + 1; omega) _).alloc (by simp; omega) _
      case measure =>
        have h6 := HRR.out
        have h1 := ((HR4.out.kept (HO4.out.stored p (.int .i64 (f p))).2 (by simp; omega) (by simp; omega)).below (bel1 _ (.cells #[.int .i64 n, .int .i64 p] 69))).left_eq
        rw [h1, HRG.out.left_eq]
        exact hlt
end Go.Proofs.Ytcppmcacjjjjeaa.Rhy
