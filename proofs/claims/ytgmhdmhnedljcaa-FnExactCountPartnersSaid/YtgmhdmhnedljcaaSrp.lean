/-
  Helpers of the claims beside this text: the search for partners as it is laid ahead of the go statement: the lone contract.
-/
import Derived.Test.YtgmhdmhnedljcaaPrq
import Derived.Test.YtgmhdmhnedljcaaIvs
import Derived.Deep.RegionHeld3
import Derived.Deep.RegionLaw
namespace Go.Proofs.Ytgmhdmhnedljcaa.Rhy
open Go.RowKit
set_option linter.unusedVariables false
set_option linter.unusedSimpArgs false
set_option maxRecDepth 100000

theorem ok_intS {n : Int} {zs : List Int} (h : Ok n zs) : AllInt zs := fun z hz => by have := ok_range h z hz; have := h.1; omega
theorem ok_lenS {s : Int} {xs : List Int} (h : Ok s xs) : xs.length ≤ 24 := by
  have h1 := ok_len h
  have := h.1
  omega
/-! ### a box of four cells -/
def Bq4 (w : World) (b : Nat) (v0 v1 v2 v3 : Value) (t : TypeId) : Prop := w.heap[b]? = some (.cells #[v0, v1, v2, v3] t (0, 0))
theorem Bq4.lt {w : World} {b : Nat} {v0 v1 v2 v3 : Value} {t : TypeId} (h : Bq4 w b v0 v1 v2 v3 t) : b < w.heap.size := by
  rcases Nat.lt_or_ge b w.heap.size with h' | h'
  · exact h'
  · unfold Bq4 at h
    rw [Array.getElem?_eq_none h'] at h
    cases h
theorem Bq4.facts {w : World} {b : Nat} {v0 v1 v2 v3 : Value} {t : TypeId} (h : Bq4 w b v0 v1 v2 v3 t) :
    w.cell? ⟨b, 0, none⟩ = some v0 ∧ w.cell? ⟨b, 1, none⟩ = some v1 ∧ w.cell? ⟨b, 2, none⟩ = some v2 ∧ w.cell? ⟨b, 3, none⟩ = some v3 ∧ w.frozen? ⟨b, 1, none⟩ = false := by
  unfold Bq4 at h
  refine ⟨?_, ?_, ?_, ?_, ?_⟩ <;> simp [World.cell?, World.frozen?, h]
theorem bq4_new (w : World) (v0 v1 v2 v3 : Value) (t : TypeId) : Bq4 (w.alloc (.cells #[v0, v1, v2, v3] t)) w.heap.size v0 v1 v2 v3 t := heap_alloc_new w _
theorem Bq4.keep {w w' : World} {b B : Nat} {v0 v1 v2 v3 : Value} {t : TypeId} (h : Bq4 w b v0 v1 v2 v3 t) (hb : Below B w w') (hB : b < B) : Bq4 w' b v0 v1 v2 v3 t := by
  unfold Bq4
  rw [hb.block b hB]
  exact h
theorem Bq4.set1 {w : World} {b : Nat} {v0 v1 v2 v3 : Value} {t : TypeId} (h : Bq4 w b v0 v1 v2 v3 t) (v : Value) : Bq4 (w.setCell ⟨b, 1, none⟩ v) b v0 v v2 v3 t := heap_setCell_same w b 1 _ _ _ h

theorem Two.keepB {w w' : World} {b B : Nat} {v0 v1 : Value} (h : Two w b v0 v1) (hb : Below B w w') (hB : b < B) : Two w' b v0 v1 :=
  ⟨Nat.lt_of_lt_of_le h.1 hb.size, by rw [hb.cell (p := ⟨b, 0, none⟩) hB]; exact h.2.1, by rw [hb.cell (p := ⟨b, 1, none⟩) hB]; exact h.2.2⟩
theorem two_setO {w : World} {b g o : Nat} {v0 v1 v : Value} (h : Two w b v0 v1) (hg : g ≠ b) : Two (w.setCell ⟨g, o, none⟩ v) b v0 v1 := by
  refine ⟨by simpa using h.1, ?_, ?_⟩
  · have := h.2.1
    unfold World.cell? at this ⊢
    rw [Below.heap_setCell _ _ _ _ (by show b ≠ g; omega)]
    exact this
  · have := h.2.2
    unfold World.cell? at this ⊢
    rw [Below.heap_setCell _ _ _ _ (by show b ≠ g; omega)]
    exact this
def turV (n : Nat) (xs : List Int) (k : Nat) : List Int := (List.range k).map fun j => ((trnN n xs j : Nat) : Int)
theorem turV_snoc (n : Nat) (xs : List Int) (k : Nat) : turV n xs (k + 1) = turV n xs k ++ [((trnN n xs k : Nat) : Int)] := by simp [turV, List.range_succ]
theorem turV_len (n : Nat) (xs : List Int) (k : Nat) : (turV n xs k).length = k := by simp [turV]
theorem trn_of {n : Nat} {xs : List Int} (ho : Ok (n : Int) xs) (k : Nat) : mkN n (ofZ n (mapL n xs 1 k)) = trnN n xs k := by
  have hn : 1 ≤ n := by have := ho.1; omega
  have hn' : (n : Int) ≠ 0 := by omega
  have e : (xs.map fun x => (x + (k : Int)) % (n : Int)) = mapL n xs 1 k := by
    unfold mapL
    congr 1
    funext p
    unfold remB
    rw [Int.one_mul]
  have hin := trn_in hn xs k
  unfold trnN
  rw [e] at hin ⊢
  refine mkN_ext hn (fun b hb => (ofZ_mem.1 hb).1) hin fun x => ?_
  rw [ofZ_mem]
  exact ⟨fun h => h.2, fun h => ⟨hin x h, h⟩⟩
set_option maxHeartbeats 1000000 in
theorem srch_any (n : Nat) (a : Option Addr) (len cap : Nat) (zs : List Int) (mo : Int) (ch : Option Nat) (w : World) (h : IntsAt w a len zs) (hm : len ≤ 1048576) (ho : Ok (n : Int) zs) :
    Calls Try.prog 32 #[rhy n a len cap, .int .i64 mo, .chan ch] w fun e w' => ∃ av cv, e = .returned (.pointer (some ⟨w.heap.size + 1, 0, none⟩)) ∧
      Bq4 w' (w.heap.size + 1) (.int .i64 n) (.slice av n cv) (.int .i64 mo) (.chan ch) 53 ∧ w'.ownsRow (w.heap.size + 2) 3 1 (.slice av n cv) n (ints (turV n zs n)) ∧ Below w.heap.size w w' ∧ w.heap.size + 2 ≤ w'.heap.size := by
  have HS := Lib.hid h
  have HO := Lib.hid ho
  have hn : 1 ≤ n ∧ n ≤ 24 := by have := ho.1; omega
  clear h ho
  obtain ⟨W0, HW⟩ : ∃ W0, Hid (W0 = (w.alloc (.cells #[.int .i64 n, .slice a len cap] 28)).alloc (.cells #[.int .i64 n, .slice none 0 0, .int .i64 mo, .chan ch] 53)) := ⟨_, Lib.hid rfl⟩
  have HB0 := Lib.hid (show Below w.heap.size w W0 by rw [HW.out]; exact bel2 w _ _)
  have HT0 := Lib.hid (show Two W0 w.heap.size (.int .i64 n) (.slice a len cap) by rw [HW.out]; exact (two_new w _ _ _).keep (bel1 _ _))
  have HQ0 := Lib.hid (show Bq4 W0 (w.heap.size + 1) (.int .i64 n) (.slice none 0 0) (.int .i64 mo) (.chan ch) 53 by rw [HW.out]; simpa using bq4_new (w.alloc (.cells #[.int .i64 n, .slice a len cap] 28)) (.int .i64 n) (.slice none 0 0) (.int .i64 mo) (.chan ch) 53)
  have HZ0 := Lib.hid (show W0.heap.size = w.heap.size + 2 by rw [HW.out]; simp)
  go_enter Try.func32, Try.ntmps32
  go_wp2_with fail
  rw [← HW.out]
  go_loopw [8, 17] (fun _ i wr => ∃ (k : Nat) (av : Option Addr) (cv : Nat), k ≤ n ∧ i = .int .i64 (k : Nat) ∧ Two wr w.heap.size (.int .i64 n) (.slice a len cap) ∧ Bq4 wr (w.heap.size + 1) (.int .i64 n) (.slice av k cv) (.int .i64 mo) (.chan ch) 53 ∧ wr.ownsRow (w.heap.size + 2) 3 1 (.slice av k cv) k (ints (turV n zs k)) ∧ Below w.heap.size w wr ∧ w.heap.size + 2 ≤ wr.heap.size) (fun _ i _ => n - (intOf i).toNat)
  case atStart => exact ⟨0, none, 0, by omega, rfl, HT0.out, HQ0.out, World.ownsRow_nil _ _ _ _, HB0.out, by rw [HZ0.out]; exact Nat.le_refl _⟩
  case round =>
    obtain ⟨k, av, cv, hk, rfl, hT, hQ, hown, hbl, hsz⟩ := hrel
    have HT := Lib.hid hT
    have HQ := Lib.hid hQ
    have HOW := Lib.hid hown
    have HX := Lib.hid hbl
    have HZ := Lib.hid hsz
    clear hT hQ hown hbl hsz
    by_cases hlt : k < n
    · have HS1 := Lib.hid (HS.out.below HX.out)
      obtain ⟨L, hL⟩ : ∃ L, ofZ n (mapL n zs 1 k) = L := ⟨_, rfl⟩
      have HLO : Hid (Ok (n : Int) L) := Lib.hid (by rw [← hL]; exact ok_of (by omega) (by omega) (ofZ_sorted _ _) fun z hz => (ofZ_mem.1 hz).1)
      have HTR := Lib.hid (trn_of HO.out k)
      rw [hL] at HTR
      obtain ⟨V, hV⟩ : ∃ V, trnN n zs k = V := ⟨_, rfl⟩
      have HSN : Hid (turV n zs (k + 1) = turV n zs k ++ [((V : Nat) : Int)]) := Lib.hid (by rw [turV_snoc, hV])
      rw [hV] at HTR
      have HMV := Lib.hid (fun (W : World) (hb : Below wr.heap.size wr W) => moved_of n a len cap zs 1 k W (HS1.out.below hb) hm HO.out (by omega) (by omega) (by omega) (by omega) (gcd_one _))
      rw [Int.toNat_natCast, hL] at HMV
      obtain ⟨P, hP⟩ : ∃ P, turV n zs k = P := ⟨_, rfl⟩
      have HPN : Hid (P.length = k) := Lib.hid (by rw [← hP]; exact turV_len _ _ _)
      rw [hP] at HOW HSN
      clear hL hV hP
      obtain ⟨t0, t1, t2⟩ := HT.out
      obtain ⟨q0, q1, q2, q3, q4⟩ := HQ.out.facts
      have ql := HQ.out.lt
      have HI1 := Lib.hid (fun (W : World) (b : Option Addr) (c : Nat) (B : Nat) (ho : W.ownsRow B 3 1 (.slice b L.length c) L.length (ints L)) => (show Calls Try.prog 37 #[rhy n b L.length c] W fun e w' => e = .returned (.int .i64 ((V : Nat) : Int)) ∧ Below W.heap.size W w' by
        have h1 := bits_any n b L.length c L W (intsAt_own ho (ok_intS HLO.out)) (by have := ok_lenS HLO.out; omega) HLO.out
        rwa [HTR.out] at h1))
      have hPL : P.length ≤ 1048577 := by have := HPN.out; omega
      have HOW2 : Hid (wr.ownsRow (w.heap.size + 2) 3 1 (.slice av k cv) P.length (ints P)) := Lib.hid (by rw [HPN.out]; exact HOW.out)
      go_wp2
      go_region_law ((first
        | (go_simp; go_at_call 36; refine (HMV.out _ (Below.refl _ _).drew).mono ?_; rintro e w1 ⟨b1, c1, rfl, hown1, hc1⟩; have hb1 := (Below.refl wr.heap.size wr).drew.trans hc1; obtain ⟨t0, t1, t2⟩ := HT.out.keep hb1; obtain ⟨q0, q1, q2, q3, q4⟩ := (HQ.out.keep hb1 HQ.out.lt).facts; have ql := (HQ.out.keep hb1 HQ.out.lt).lt)
        | (go_simp; go_at_call 37; refine (HI1.out _ _ _ _ hown1).mono ?_; rintro e w2 ⟨rfl, hc2⟩; have hb2 := hb1.trans (hc2.mono hb1.size); obtain ⟨t0, t1, t2⟩ := HT.out.keep hb2; obtain ⟨q0, q1, q2, q3, q4⟩ := (HQ.out.keep hb2 HQ.out.lt).facts; have ql := (HQ.out.keep hb2 HQ.out.lt).lt)
        | (refine step_append_int rfl _ _ rfl (w.heap.size + 2) _ P ((V : Nat) : Int) w2 (own_below HOW2.out hb2) hPL (Nat.le_trans HZ.out hb2.size) _ rfl rfl rfl ?_; intro a' c' w3 hown3 hb3; have HQ3 := Lib.hid ((HQ.out.keep hb2 HQ.out.lt).keep hb3 (Nat.lt_succ_self _)); obtain ⟨q0, q1, q2, q3, q4⟩ := HQ3.out.facts; have ql := HQ3.out.lt)))
      all_goals go_wp2
      all_goals go_roundw
      all_goals first
        | (refine ⟨k + 1, a', c', by omega, by go_num, ?_, ?_, ?_, ?_, ?_⟩
           · exact two_setO ((HT.out.keep hb2).keepB hb3 (by omega)) (by omega)
           · have := HQ3.out.set1 (.slice a' (P.length + 1) c')
             rw [HPN.out] at this ⊢
             exact this
           · have h9 := ownsRow_setCell_below hown3 (a := ⟨w.heap.size + 1, 1, none⟩) (by show w.heap.size + 1 < w.heap.size + 2; omega) (.slice a' (P.length + 1) c')
             rw [HSN.out]
             rw [List.length_append, HPN.out] at h9
             rw [HPN.out]
             exact h9
           · exact (HX.out.trans ((hb2.mono (Nat.le_trans (by omega) HZ.out)).trans (hb3.mono (by omega)))).setCell (by show w.heap.size ≤ w.heap.size + 1; omega) _
           · have h8 := hb2.size
             have h9 := hb3.size
             have h7 := HZ.out
             simp
             omega)
        | (simp [intOf]; omega)
    · have e : k = n := by omega
      subst e
      go_wp2
      go_ret
      exact ⟨av, cv, rfl, HQ.out, HOW.out, HX.out, HZ.out⟩
end Go.Proofs.Ytgmhdmhnedljcaa.Rhy
