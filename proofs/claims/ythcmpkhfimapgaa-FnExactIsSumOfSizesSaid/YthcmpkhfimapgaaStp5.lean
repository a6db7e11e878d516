/-
  Helpers of the claims beside this text: the model's sizes of steps and of spans.
-/
import Derived.Test.YthcmpkhfimapgaaStp4
import Derived.Test.YthcmpkhfimapgaaAppS
namespace Go.Proofs.Ythcmpkhfimapgaa.Rhy
open Go.RowKit
set_option linter.unusedVariables false

theorem siz_old {n : Nat} {l : List Int} {x : Int} (h : x ∈ ofZ n l) : ofZ n (l ++ [x]) = ofZ n l := by
  refine ofZ_congr fun y => ?_
  have := (ofZ_mem.mp h).2
  simp only [List.mem_append, List.mem_singleton]
  constructor
  · rintro (q | rfl)
    · exact q
    · exact this
  · exact Or.inl
theorem siz_new {n : Nat} {l : List Int} {x : Int} {k : Nat} (hlo : ∀ j, j < k → ∀ y, (ofZ n l)[j]? = some y → y < x) (hhi : ∀ y, (ofZ n l)[k]? = some y → x < y) (hx : 0 ≤ x ∧ x < n) :
    ofZ n (l ++ [x]) = (ofZ n l).take k ++ [x] ++ (ofZ n l).drop k := by
  have hs := ofZ_sorted n l
  have ha : ∀ y ∈ (ofZ n l).take k, y < x := by
    intro y hy
    obtain ⟨j, hj⟩ := List.mem_iff_getElem?.mp hy
    rw [List.getElem?_take] at hj
    split at hj
    · exact hlo j (by assumption) y hj
    · cases hj
  have hb : ∀ y ∈ (ofZ n l).drop k, x < y := by
    intro y hy
    cases hq : (ofZ n l)[k]? with
    | none => rw [List.drop_eq_nil_of_le (by simpa using hq)] at hy; cases hy
    | some z =>
      have hz := hhi z hq
      have hd : (ofZ n l).drop k = z :: (ofZ n l).drop (k + 1) := by
        obtain ⟨hk, he⟩ := List.getElem?_eq_some_iff.mp hq
        rw [List.drop_eq_getElem_cons hk, he]
      have hsd : ((ofZ n l).drop k).Pairwise (· < ·) := hs.sublist (List.drop_sublist _ _)
      rw [hd] at hy hsd
      rcases List.mem_cons.mp hy with rfl | q
      · exact hz
      · have := (List.pairwise_cons.mp hsd).1 y q
        omega
  refine lt_uniq (ofZ_sorted n _) ?_ fun y => ?_
  · rw [List.append_assoc, List.pairwise_append]
    refine ⟨hs.sublist (List.take_sublist _ _), ?_, ?_⟩
    · rw [List.singleton_append, List.pairwise_cons]
      exact ⟨hb, hs.sublist (List.drop_sublist _ _)⟩
    · intro y hy z hz
      have := ha y hy
      rcases List.mem_append.mp hz with q | q
      · have : z = x := by simpa using q
        omega
      · have := hb z q
        omega
  · have hm : y ∈ ofZ n l ↔ y ∈ (ofZ n l).take k ∨ y ∈ (ofZ n l).drop k := by
      rw [← List.mem_append, List.take_append_drop]
    rw [ofZ_mem]
    simp only [List.mem_append, List.mem_singleton]
    rw [ofZ_mem] at hm
    constructor
    · rintro ⟨h1, h2 | rfl⟩
      · rcases hm.mp ⟨h1, h2⟩ with q | q
        · exact .inl (.inl q)
        · exact .inr q
      · exact .inl (.inr rfl)
    · rintro ((q | rfl) | q)
      · have := hm.mpr (.inl q); exact ⟨this.1, .inl this.2⟩
      · exact ⟨hx, .inr rfl⟩
      · have := hm.mpr (.inr q); exact ⟨this.1, .inl this.2⟩
theorem IntsAt.take {w : World} {a : Option Addr} {len : Nat} {zs : List Int} (h : IntsAt w a len zs) {k : Nat} (hk : k ≤ len) : IntsAt w a k (zs.take k) := by
  refine ⟨by rw [List.length_take, h.1]; omega, fun z hz => h.2.1 z (List.mem_of_mem_take hz), fun hp => ?_⟩
  obtain ⟨b, off, e, hlt, hc⟩ := h.2.2 (by omega)
  refine ⟨b, off, e, hlt, fun j z hj => hc j z ?_⟩
  rw [List.getElem?_take] at hj
  split at hj
  · exact hj
  · cases hj
theorem IntsAt.drop {w : World} {b off : Nat} {len : Nat} {zs : List Int} (h : IntsAt w (some ⟨b, off, none⟩) len zs) {k : Nat} (hk : k ≤ len) : IntsAt w (some ⟨b, off + k, none⟩) (len - k) (zs.drop k) := by
  refine ⟨by rw [List.length_drop, h.1], fun z hz => h.2.1 z (List.mem_of_mem_drop hz), fun hp => ?_⟩
  obtain ⟨b', off', e, hlt, hc⟩ := h.2.2 (by omega)
  obtain ⟨rfl, rfl⟩ : b = b' ∧ off = off' := by simpa using e
  refine ⟨b, off + k, rfl, hlt, fun j z hj => ?_⟩
  rw [Nat.add_assoc]
  exact hc (k + j) z (by rw [← hj, List.getElem?_drop])

set_option maxHeartbeats 1000000 in
theorem sizes0_spec (n : Nat) (a : Option Addr) (len cap : Nat) (l : List Int) (w : World) (h : IntsAt w a len l) (hm : len ≤ 1000) (hn : n ≤ 1000) (hr : ∀ x ∈ l, 0 ≤ x ∧ x < n) :
    Calls Try.prog 94 #[.slice a len cap] w (IPost (ofZ n l) w) := by
  have HS := Lib.hid h
  have HR := Lib.hid hr
  clear h hr
  go_enter Try.func94, Try.ntmps94
  go_wp2
  go_loopw [3, 11] (fun v i wr => ∃ k : Nat, k ≤ len ∧ i = .int .i64 k ∧ VecAt (ofZ n (l.take k)) w wr v) (fun _ i _ => len - (intOf i).toNat)
  case atStart => exact ⟨0, by omega, rfl, by rw [show ofZ n (l.take 0) = [] by simp [ofZ]]; exact vec_made w⟩
  case round =>
    obtain ⟨k, hk, rfl, av, cv, rfl, hown, hnx, hsz⟩ := hrel
    have HI : Hid (IntsAt wr a len l) := Lib.hid (HS.out.below hnx)
    by_cases hlt : k < len
    · obtain ⟨b, off, x, rfl, hb, hs, hc, hx1, hx2⟩ := HI.out.at hlt
      have hxr := HR.out x (List.mem_of_getElem? hs)
      have HT : Hid (l.take (k + 1) = l.take k ++ [x]) := Lib.hid (by rw [List.take_add_one, hs]; rfl)
      obtain ⟨o, ho⟩ : ∃ o, o = ofZ n (l.take k) := ⟨_, rfl⟩
      have HOD := Lib.hid ho
      have hol : o.length ≤ 1000 := by rw [ho]; have := ofZ_len n (l.take k); omega
      have hoi : AllInt o := by rw [ho]; exact ofZ_int hn
      rw [← ho] at hown ⊢
      have HO := Lib.hid hown
      have HX := Lib.hid hnx
      have HZ := Lib.hid hsz
      have HOI : Hid (IntsAt wr av o.length o) := Lib.hid (intsAt_own hown hoi)
      have hcv := own_cap hown
      clear hown hnx hsz ho hoi hs
      go_wp2
      go_loop [6] (fun i => ∃ q : Nat, q ≤ o.length ∧ i = .int .i64 q ∧ Hid (∀ j, j < q → ∀ y, o[j]? = some y → y < x)) (fun i => o.length - (intOf i).toNat)
      case atStart => exact ⟨0, by omega, rfl, Lib.hid (fun j hj => by omega)⟩
      case round =>
        obtain ⟨q, hq, rfl, HLO⟩ := hrel
        by_cases hlq : q < o.length
        · obtain ⟨b2, off2, y, rfl, hb2, hs2, hc2, hy1, hy2⟩ := HOI.out.at hlq
          by_cases hyx : y < x
          · have HLO2 : Hid (∀ j, j < q + 1 → ∀ y, o[j]? = some y → y < x) := Lib.hid (fun j hj y' hy' => by
              by_cases e : j = q
              · rw [e, hs2] at hy'; cases hy'; exact hyx
              · exact HLO.out j (by omega) y' hy')
            clear hs2
            go_wp2
            go_round
            case rel => exact ⟨q + 1, by omega, by go_num, HLO2⟩
            case measure => simp [intOf]; omega
          · have hd : decide (y < x) = false := by simpa using hyx
            by_cases he : y = x
            · have hne : (y == x) = true := by simpa using he
              have hbn : (y != x) = false := by simpa using he
              have hqe : ((q : Int) == (o.length : Int)) = false := by simp; omega
              have HEQ : Hid (ofZ n (l.take (k + 1)) = o) := Lib.hid (by
                rw [HT.out, siz_old (by rw [← HOD.out, ← he]; exact List.mem_of_getElem? hs2), ← HOD.out])
              clear hs2
              go_wp2
              go_roundw
              case rel => exact ⟨k + 1, by omega, by go_num, by rw [HEQ.out]; exact ⟨_, cv, rfl, HO.out, HX.out, HZ.out⟩⟩
              case measure => simp [intOf]; omega
            · have hne : (y == x) = false := by simpa using he
              have hbn : (y != x) = true := by simpa using he
              have hqe : ((q : Int) == (o.length : Int)) = false := by simp; omega
              have HHI : Hid (∀ y', o[q]? = some y' → x < y') := Lib.hid (fun y' hy' => by rw [hs2] at hy'; cases hy'; omega)
              clear hs2 he
              obtain ⟨t1, ht1⟩ : ∃ t1, t1 = o.take q := ⟨_, rfl⟩
              obtain ⟨t2, ht2⟩ : ∃ t2, t2 = o.drop q := ⟨_, rfl⟩
              have ht1l : t1.length ≤ 1000 := by rw [ht1, List.length_take]; omega
              have HEQ : Hid (ofZ n (l.take (k + 1)) = ([] ++ t1) ++ [x] ++ t2) := Lib.hid (by
                rw [HT.out, siz_new (k := q) (by rw [← HOD.out]; exact HLO.out) (by rw [← HOD.out]; exact HHI.out) hxr, ← HOD.out, ht1, ht2]
                simp)
              have M0 : Hid ((wr.alloc (.cells #[] 3)).ownsRow wr.heap.size 3 1 (.slice (some ⟨wr.heap.size, 0, none⟩) 0 0) 0 (ints [])) := Lib.hid (World.ownsRow_made (base := wr.heap.size) (e := 3) (size := 1) wr #[] 0 (Nat.le_refl _) (by unfold maxLen; omega) rfl)
              have B0 : Hid (Below wr.heap.size wr (wr.alloc (.cells #[] 3))) := Lib.hid ((Below.refl _ _).alloc (Nat.le_refl _) _)
              have I1 : Hid (IntsAt wr (some ⟨b2, off2, none⟩) q t1) := Lib.hid (by rw [ht1]; exact HOI.out.take hq)
              have I2 : Hid (IntsAt wr (some ⟨b2, off2 + q, none⟩) (o.length - q) t2) := Lib.hid (by rw [ht2]; exact HOI.out.drop hq)
              have hz0 := B0.out.size
              clear ht1 ht2
              go_wp2_with (first
                | (at_builtin; refine wpList_app rfl _ _ rfl wr.heap.size (some ⟨wr.heap.size, 0, none⟩) 0 [] (some ⟨b2, off2, none⟩) q _ t1 _ M0.out (I1.out.below B0.out) (by simp) (by omega) hz0 rfl rfl ?_; intro a1 c1 w1 hown1 hb1; have O1 := Lib.hid hown1; have B1 := Lib.hid (B0.out.trans hb1); have hz1 := B1.out.size; clear hown1 hb1)
                | (at_builtin; refine append_int rfl _ _ rfl wr.heap.size _ ([] ++ t1) _ w1 O1.out (by simp; omega) hz1 _ rfl rfl rfl ?_; intro a2 c2 w2 hown2 hb2; have O2 := Lib.hid hown2; have B2 := Lib.hid (B1.out.trans hb2); have hz2 := B2.out.size; clear hown2 hb2)
                | (at_builtin; refine wpList_app_n rfl _ _ rfl wr.heap.size a2 c2 ([] ++ t1 ++ [x]) (t1.length + 1) (by simp) (some ⟨b2, off2 + q, none⟩) (o.length - q) _ t2 w2 O2.out (I2.out.below B2.out) (by simp; omega) (by omega) hz2 rfl rfl ?_; intro a3 c3 w3 hown3 hb3; have O3 := Lib.hid hown3; have B3 := Lib.hid (B2.out.trans hb3); clear hown3 hb3))
              go_roundw
              case rel =>
                refine ⟨k + 1, by omega, by go_num, ?_⟩
                rw [HEQ.out]
                have : VecAt ([] ++ t1 ++ [x] ++ t2) w w3 (.slice a3 ([] ++ t1 ++ [x] ++ t2).length c3) := ⟨a3, c3, rfl, own_base O3.out HZ.out, HX.out.trans (B3.out.mono HZ.out), Nat.le_trans HZ.out B3.out.size⟩
                simpa using this
              case measure => simp [intOf]; omega
        · have e : q = o.length := by omega
          have HHI : Hid (∀ y', o[q]? = some y' → x < y') := Lib.hid (fun y' hy' => by rw [List.getElem?_eq_none (by omega)] at hy'; cases hy')
          have hqe : ((q : Int) == (o.length : Int)) = true := by simp; omega
          have hsub : o.length - q = 0 := by omega
          rcases HO.out.2 with ⟨hv, h00⟩ | ⟨g, cap', cur, hv, _⟩
          · obtain ⟨rfl, h01, rfl⟩ : av = none ∧ o.length = 0 ∧ cv = 0 := by simpa using hv
            obtain rfl : o = [] := List.eq_nil_of_length_eq_zero h01
            obtain rfl : q = 0 := by simpa using e
            clear hv h00 h01 e hsub
            obtain ⟨t1, ht1⟩ : ∃ t1, t1 = ([] : List Int).take 0 := ⟨_, rfl⟩
            obtain ⟨t2, ht2⟩ : ∃ t2, t2 = ([] : List Int).drop 0 := ⟨_, rfl⟩
            have ht1l : t1.length ≤ 1000 := by rw [ht1, List.length_take]; omega
            have HEQ : Hid (ofZ n (l.take (k + 1)) = ([] ++ t1) ++ [x] ++ t2) := Lib.hid (by
              rw [HT.out, siz_new (k := 0) (by rw [← HOD.out]; exact HLO.out) (by rw [← HOD.out]; exact HHI.out) hxr, ← HOD.out, ht1, ht2]
              simp)
            have M0 : Hid ((wr.alloc (.cells #[] 3)).ownsRow wr.heap.size 3 1 (.slice (some ⟨wr.heap.size, 0, none⟩) 0 0) 0 (ints [])) := Lib.hid (World.ownsRow_made (base := wr.heap.size) (e := 3) (size := 1) wr #[] 0 (Nat.le_refl _) (by unfold maxLen; omega) rfl)
            have B0 : Hid (Below wr.heap.size wr (wr.alloc (.cells #[] 3))) := Lib.hid ((Below.refl _ _).alloc (Nat.le_refl _) _)
            have I1 : Hid (IntsAt wr none 0 t1) := Lib.hid (by rw [ht1]; exact HOI.out.take hq)
            have I2 : Hid (IntsAt wr none (0 - 0) t2) := Lib.hid (by rw [ht2]; exact HOI.out)
            have hz0 := B0.out.size
            clear ht1 ht2
            go_wp2_with (first
              | (at_builtin; refine wpList_app rfl _ _ rfl wr.heap.size (some ⟨wr.heap.size, 0, none⟩) 0 [] none 0 _ t1 _ M0.out (I1.out.below B0.out) (by simp) (by omega) hz0 rfl rfl ?_; intro a1 c1 w1 hown1 hb1; have O1 := Lib.hid hown1; have B1 := Lib.hid (B0.out.trans hb1); have hz1 := B1.out.size; clear hown1 hb1)
              | (at_builtin; refine append_int rfl _ _ rfl wr.heap.size _ ([] ++ t1) _ w1 O1.out (by simp; omega) hz1 _ rfl rfl rfl ?_; intro a2 c2 w2 hown2 hb2; have O2 := Lib.hid hown2; have B2 := Lib.hid (B1.out.trans hb2); have hz2 := B2.out.size; clear hown2 hb2)
              | (at_builtin; refine wpList_app_n rfl _ _ rfl wr.heap.size a2 c2 ([] ++ t1 ++ [x]) (t1.length + 1) (by simp) none (0 - 0) _ t2 w2 O2.out (I2.out.below B2.out) (by simp; omega) (by omega) hz2 rfl rfl ?_; intro a3 c3 w3 hown3 hb3; have O3 := Lib.hid hown3; have B3 := Lib.hid (B2.out.trans hb3); clear hown3 hb3))
            go_roundw
            case rel =>
              refine ⟨k + 1, by omega, by go_num, ?_⟩
              rw [HEQ.out]
              have : VecAt ([] ++ t1 ++ [x] ++ t2) w w3 (.slice a3 ([] ++ t1 ++ [x] ++ t2).length c3) := ⟨a3, c3, rfl, own_base O3.out HZ.out, HX.out.trans (B3.out.mono HZ.out), Nat.le_trans HZ.out B3.out.size⟩
              simpa using this
            case measure => simp [intOf]; omega
          · obtain ⟨rfl, rfl⟩ : av = some ⟨g, 0, none⟩ ∧ cv = cap' := by simpa using hv
            clear hv e hsub
            obtain ⟨t1, ht1⟩ : ∃ t1, t1 = o.take q := ⟨_, rfl⟩
            obtain ⟨t2, ht2⟩ : ∃ t2, t2 = o.drop q := ⟨_, rfl⟩
            have ht1l : t1.length ≤ 1000 := by rw [ht1, List.length_take]; omega
            have HEQ : Hid (ofZ n (l.take (k + 1)) = ([] ++ t1) ++ [x] ++ t2) := Lib.hid (by
              rw [HT.out, siz_new (k := q) (by rw [← HOD.out]; exact HLO.out) (by rw [← HOD.out]; exact HHI.out) hxr, ← HOD.out, ht1, ht2]
              simp)
            have M0 : Hid ((wr.alloc (.cells #[] 3)).ownsRow wr.heap.size 3 1 (.slice (some ⟨wr.heap.size, 0, none⟩) 0 0) 0 (ints [])) := Lib.hid (World.ownsRow_made (base := wr.heap.size) (e := 3) (size := 1) wr #[] 0 (Nat.le_refl _) (by unfold maxLen; omega) rfl)
            have B0 : Hid (Below wr.heap.size wr (wr.alloc (.cells #[] 3))) := Lib.hid ((Below.refl _ _).alloc (Nat.le_refl _) _)
            have I1 : Hid (IntsAt wr (some ⟨g, 0, none⟩) q t1) := Lib.hid (by rw [ht1]; exact HOI.out.take hq)
            have I2 : Hid (∀ A, IntsAt wr A (o.length - q) t2) := Lib.hid (fun A => by rw [ht2]; exact ⟨by simp, fun z hz => (by rw [List.drop_eq_nil_of_le (by omega)] at hz; cases hz), fun hp => (by omega)⟩)
            have hz0 := B0.out.size
            clear ht1 ht2
            go_wp2_with (first
              | (at_builtin; refine wpList_app rfl _ _ rfl wr.heap.size (some ⟨wr.heap.size, 0, none⟩) 0 [] (some ⟨g, 0, none⟩) q _ t1 _ M0.out (I1.out.below B0.out) (by simp) (by omega) hz0 rfl rfl ?_; intro a1 c1 w1 hown1 hb1; have O1 := Lib.hid hown1; have B1 := Lib.hid (B0.out.trans hb1); have hz1 := B1.out.size; clear hown1 hb1)
              | (at_builtin; refine append_int rfl _ _ rfl wr.heap.size _ ([] ++ t1) _ w1 O1.out (by simp; omega) hz1 _ rfl rfl rfl ?_; intro a2 c2 w2 hown2 hb2; have O2 := Lib.hid hown2; have B2 := Lib.hid (B1.out.trans hb2); have hz2 := B2.out.size; clear hown2 hb2)
              | (at_builtin; refine wpList_app_n rfl _ _ rfl wr.heap.size a2 c2 ([] ++ t1 ++ [x]) (t1.length + 1) (by simp) _ (o.length - q) _ t2 w2 O2.out ((I2.out _).below B2.out) (by simp; omega) (by omega) hz2 rfl rfl ?_; intro a3 c3 w3 hown3 hb3; have O3 := Lib.hid hown3; have B3 := Lib.hid (B2.out.trans hb3); clear hown3 hb3))
            go_roundw
            case rel =>
              refine ⟨k + 1, by omega, by go_num, ?_⟩
              rw [HEQ.out]
              have : VecAt ([] ++ t1 ++ [x] ++ t2) w w3 (.slice a3 ([] ++ t1 ++ [x] ++ t2).length c3) := ⟨a3, c3, rfl, own_base O3.out HZ.out, HX.out.trans (B3.out.mono HZ.out), Nat.le_trans HZ.out B3.out.size⟩
              simpa using this
            case measure => simp [intOf]; omega
    · have e : k = len := by omega
      have HT : Hid (l.take k = l) := Lib.hid (List.take_of_length_le (by have := HS.out.len; omega))
      have HO := Lib.hid hown
      have HX := Lib.hid hnx
      clear hown hnx hsz e
      rw [HT.out] at HO ⊢
      go_wp2
      go_ret
      exact ⟨av, cv, rfl, HO.out, HX.out⟩
end Go.Proofs.Ythcmpkhfimapgaa.Rhy
