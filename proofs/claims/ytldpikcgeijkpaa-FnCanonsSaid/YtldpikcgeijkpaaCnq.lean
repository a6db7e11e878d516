/-
  Helpers of the claims beside this text: canons: what a tiling says of the voices.
-/
import Derived.Test.YtldpikcgeijkpaaCnc
import Derived.Test.YtldpikcgeijkpaaSma
import Derived.Test.YtldpikcgeijkpaaCnb
import Derived.Test.YtldpikcgeijkpaaIvl
import Derived.Test.YtldpikcgeijkpaaCnk
import Derived.Test.YtldpikcgeijkpaaCnh
namespace Go.Proofs.Ytldpikcgeijkpaa.Rhy
open Go.RowKit
set_option linter.unusedVariables false
set_option linter.unusedSimpArgs false

theorem sumc_one (n : Int) (xs : List Int) (p : Int) : sumL n xs [p] = xs.map fun x => (x + p) % n := by
  unfold sumL
  induction xs with
  | nil => rfl
  | cons a xs ih => rw [List.flatMap_cons, ih]; rfl
theorem sumc_app (n : Int) (xs ys zs : List Int) (x : Int) : (sumL n xs (ys ++ zs)).count x = (sumL n xs ys).count x + (sumL n xs zs).count x := by
  unfold sumL
  induction xs with
  | nil => rfl
  | cons a xs ih => rw [List.flatMap_cons, List.flatMap_cons, List.flatMap_cons, List.count_append, List.count_append, List.count_append, List.map_append, List.count_append, ih]; omega
theorem sumc_nd {n : Nat} {xs : List Int} (ho : Ok n xs) (p : Int) : (sumL n xs [p]).Nodup := by
  rw [sumc_one]
  unfold List.Nodup
  rw [List.pairwise_map]
  have hr := ok_range ho
  refine List.Pairwise.imp_of_mem (fun {a b} ha hb hab e => ?_) (ok_sorted ho)
  have h1 := hr a ha
  have h2 := hr b hb
  have h3 := Int.emod_emod_of_dvd (a + p) (Int.dvd_refl (n : Int))
  have h4 : ((a + p) - (b + p)) % (n : Int) = 0 := Int.emod_eq_emod_iff_emod_sub_eq_zero.1 e
  have h5 : (b - a) % (n : Int) = 0 := by
    rw [show (a + p) - (b + p) = -(b - a) by omega] at h4
    exact Int.emod_eq_zero_of_dvd ((Int.dvd_neg).1 (Int.dvd_of_emod_eq_zero h4))
  rw [Int.emod_eq_of_lt (by omega) (by omega)] at h5
  omega
theorem nd_count {l : List Int} (h : l.Nodup) (x : Int) : l.count x = if x ∈ l then 1 else 0 := by
  have h1 := List.nodup_iff_count.1 h x
  by_cases hx : x ∈ l
  · have := List.count_pos_iff.2 hx
    rw [if_pos hx]; omega
  · rw [if_neg hx]; exact List.count_eq_zero.2 hx
theorem plays_iff {n : Nat} {xs ys : List Int} {t y : Int} {k : Nat} (ho : Ok n xs) (hk : ys[k]? = some y) : plays n xs ys t k = true ↔ t % n ∈ sumL n xs [y] := by
  have hN : (n : Int) ≠ 0 := by have := ho.1; omega
  unfold plays
  rw [hasB_def, List.contains_iff_mem, sumc_one, List.getD_eq_getElem?_getD, hk, List.mem_map]
  show (t - y) % n ∈ xs ↔ _
  constructor
  · intro h
    exact ⟨_, h, by rw [Int.emod_add_emod, Int.sub_add_cancel]⟩
  · rintro ⟨x, hx, e⟩
    have hr := ok_range ho x hx
    have h1 : (t - y) % (n : Int) = x := by
      rw [← Int.emod_sub_emod, ← e, Int.emod_sub_emod, Int.add_sub_cancel, Int.emod_eq_of_lt hr.1 hr.2]
    rw [h1]; exact hx
theorem atK_count {n : Nat} {xs ys : List Int} {t : Int} (ho : Ok n xs) : ∀ k, k ≤ ys.length → (atK n xs ys t k).length = (sumL n xs (ys.take k)).count (t % n) := by
  intro k
  induction k with
  | zero =>
    intro _
    have h0 : sumL n xs (ys.take 0) = [] := List.eq_nil_iff_forall_not_mem.2 fun x hx => by
      obtain ⟨p, _, q, hq, _⟩ := sumL_mem.1 hx
      simp at hq
    rw [h0]; rfl
  | succ k ih =>
    intro hk
    have hy := List.getElem?_eq_getElem (show k < ys.length by omega)
    rw [List.take_add_one, hy, Option.toList_some, sumc_app, ← ih (by omega), nd_count (sumc_nd ho _)]
    by_cases h : plays n xs ys t k = true
    · rw [atK_yes h, if_pos ((plays_iff ho hy).1 h)]; simp
    · rw [atK_no (by simpa using h), if_neg (fun h2 => h ((plays_iff ho hy).2 h2))]; simp
theorem atL_count {n : Nat} {xs ys : List Int} (ho : Ok n xs) (t : Int) : (atL n xs ys t).length = (sumL n xs ys).count (t % n) := by
  unfold atL
  rw [atK_count ho _ (Nat.le_refl _), List.take_length]
/-- Each pulse has one voice, just where the canon is tight. -/
theorem tight_iff {n : Nat} {xs ys : List Int} (ho : Ok n xs) : tilC n xs ys ↔ ∀ j : Nat, j < n → (atL n xs ys j).length = 1 := by
  constructor
  · intro h j hj
    rw [atL_count ho, Int.emod_eq_of_lt (by omega) (by omega)]
    exact h j (by omega) (by omega)
  · intro h x hx0 hx1
    have := h x.toNat (by omega)
    rw [atL_count ho, Int.toNat_of_nonneg hx0, Int.emod_eq_of_lt hx0 hx1] at this
    exact this
theorem lineN_iff (l : List Int) (hl : ∀ z ∈ l, 0 ≤ z) : (lineN l = -2 ↔ 2 ≤ l.length) ∧ (lineN l = -1 ↔ l = []) := by
  match l, hl with
  | [], _ => exact ⟨⟨fun h => by simp [lineN] at h, fun h => by simp at h⟩, ⟨fun _ => rfl, fun _ => rfl⟩⟩
  | [v], hl =>
    have := hl v (by simp)
    exact ⟨⟨fun h => by simp [lineN] at h; omega, fun h => by simp at h⟩, ⟨fun h => by simp [lineN] at h; omega, fun h => by simp at h⟩⟩
  | a :: b :: m, _ => exact ⟨⟨fun _ => by simp, fun _ => rfl⟩, ⟨fun h => by simp [lineN] at h, fun h => by simp at h⟩⟩
/-- A line without a clash and without a silence is a tight canon's. -/
theorem line_tight {n : Nat} {xs ys : List Int} (ho : Ok n xs) : tilC n xs ys ↔ (linL n xs ys n).count (-2) = 0 ∧ (-1 : Int) ∉ linL n xs ys n := by
  have hz : ∀ j : Nat, ∀ z ∈ atL n xs ys j, 0 ≤ z := fun j z h => (atK_mem h).1
  rw [tight_iff ho, List.count_eq_zero]
  unfold linL
  simp only [List.mem_map, List.mem_range, not_exists, not_and]
  constructor
  · intro h
    refine ⟨fun j hj e => ?_, fun j hj e => ?_⟩
    · have := (lineN_iff _ (hz j)).1.1 e
      have := h j hj
      omega
    · have h1 := (lineN_iff _ (hz j)).2.1 e
      have := h j hj
      rw [h1] at this
      simp at this
  · rintro ⟨h1, h2⟩ j hj
    have a1 := h1 j hj
    have a2 := h2 j hj
    rw [(lineN_iff _ (hz j)).1] at a1
    rw [(lineN_iff _ (hz j)).2] at a2
    have := List.length_pos_iff.2 a2
    omega

theorem til_of {n : Nat} {xs ys : List Int} (hn : 1 ≤ n) : tilC n xs ys ↔ xs.length * ys.length = n ∧ ∀ x : Int, 0 ≤ x → x < n → x ∈ sumL n xs ys := by
  have hn' : (1 : Int) ≤ n := by omega
  constructor
  · intro h
    refine ⟨((tile_len hn).1 ((tile_iff hn').2 h)).2, fun x h0 h1 => List.count_pos_iff.1 ?_⟩
    rw [h x h0 h1]; exact Nat.one_pos
  · rintro ⟨h1, h2⟩
    have hs : suZ n xs ys = (List.range n).map Int.ofNat := by
      unfold suZ ofZ
      rw [Int.toNat_natCast]
      refine List.filter_eq_self.2 fun x hx => ?_
      obtain ⟨k, hk, rfl⟩ := List.mem_map.1 hx
      rw [List.mem_range] at hk
      exact List.contains_iff_mem.2 (h2 _ (by show (0 : Int) ≤ (k : Int); omega) (by show ((k : Nat) : Int) < n; omega))
    refine (til_iff hn').2 ⟨(dir_len hn').2 (by rw [hs, h1]; simp), List.eq_nil_iff_forall_not_mem.2 fun x hx => ?_⟩
    obtain ⟨hb, hm⟩ := gap_mem.1 hx
    exact hm (h2 x hb.1 hb.2)
theorem til_swap {n : Nat} {xs ys : List Int} (hn : 1 ≤ n) (h : tilC n xs ys) : tilC n ys xs := by
  obtain ⟨h1, h2⟩ := (til_of hn).1 h
  refine (til_of hn).2 ⟨by rw [Nat.mul_comm]; exact h1, fun x h3 h4 => ?_⟩
  obtain ⟨p, hp, q, hq, e⟩ := sumL_mem.1 (h2 x h3 h4)
  exact sumL_mem.2 ⟨q, hq, p, hp, by rw [Int.add_comm]; exact e⟩
theorem til_turn {n : Nat} {xs ys : List Int} (hx : Ok n xs) (hy : Ok n ys) (i o : Int) (h : tilC n xs ys) : tilC n (ofZ n (mapL n xs 1 i)) (ofZ n (mapL n ys 1 o)) := by
  have hn : 1 ≤ n := by have := hx.1; omega
  have hN : (n : Int) ≠ 0 := by omega
  have hP : (0 : Int) < n := by omega
  obtain ⟨h1, h2⟩ := (til_of hn).1 h
  have l1 : (ofZ n (mapL n xs 1 i)).length = xs.length := unit_len hx i
  have l2 : (ofZ n (mapL n ys 1 o)).length = ys.length := unit_len hy o
  refine (til_of hn).2 ⟨by rw [l1, l2]; exact h1, fun x h3 h4 => ?_⟩
  obtain ⟨p, hp, q, hq, e⟩ := sumL_mem.1 (h2 ((x - i - o) % n) (Int.emod_nonneg _ hN) (Int.emod_lt_of_pos _ hP))
  refine sumL_mem.2 ⟨(1 * p + i) % n, ofZ_mem.2 ⟨⟨Int.emod_nonneg _ hN, Int.emod_lt_of_pos _ hP⟩, List.mem_map.2 ⟨p, hp, rfl⟩⟩, (1 * q + o) % n, ofZ_mem.2 ⟨⟨Int.emod_nonneg _ hN, Int.emod_lt_of_pos _ hP⟩, List.mem_map.2 ⟨q, hq, rfl⟩⟩, ?_⟩
  have e2 : (1 * p + i + (1 * q + o)) % (n : Int) = ((p + q) % n + (i + o)) % n := by rw [Int.emod_add_emod]; congr 1; omega
  rw [Int.emod_add_emod, Int.add_emod_emod, e2, e, Int.emod_add_emod, show x - i - o + (i + o) = x by omega, Int.emod_eq_of_lt h3 h4]
/-- A pulse plays in the voice that it has. -/
theorem voice_has {n : Nat} {xs ys : List Int} {t : Int} {k : Nat} (ho : Ok n xs) (hk : k < ys.length) (h : (k : Int) ∈ atL n xs ys t) : t % n ∈ voiZ n xs ys k := by
  have hN : (n : Int) ≠ 0 := by have := ho.1; omega
  have hP : (0 : Int) < n := by omega
  unfold atL atK at h
  simp only [List.mem_map, List.mem_filter, List.mem_range] at h
  obtain ⟨v, ⟨hv, hp⟩, e⟩ := h
  have e' : v = k := by omega
  subst e'
  have hy := List.getElem?_eq_getElem hk
  have h1 := (plays_iff ho hy).1 hp
  rw [sumc_one, List.mem_map] at h1
  obtain ⟨x, hx, e1⟩ := h1
  unfold voiZ
  rw [Int.toNat_natCast, Int.toNat_natCast, List.getD_eq_getElem?_getD, hy]
  exact ofZ_mem.2 ⟨⟨Int.emod_nonneg _ hN, Int.emod_lt_of_pos _ hP⟩, List.mem_map.2 ⟨x, hx, by unfold remB; rw [Int.one_mul]; exact e1⟩⟩
/-- A pulse a turn later has the same voices. -/
theorem atL_turn {n : Nat} {xs ys : List Int} (t : Int) : atL n xs ys (t + n) = atL n xs ys t := by
  unfold atL atK
  congr 2
  funext v
  unfold plays remB
  rw [show t + (n : Int) - ys.getD v 0 = t - ys.getD v 0 + n by omega, Int.add_emod_right]
end Go.Proofs.Ytldpikcgeijkpaa.Rhy

/-
  Helpers of the claims beside this text: the law on canons: contracts in its words.
-/
namespace Go.Proofs.Ytldpikcgeijkpaa.Rhy
open Go.RowKit
set_option linter.unusedVariables false
set_option linter.unusedSimpArgs false

theorem rdE_sorted (f : Nat → ByteArray) (ss : List ByteArray) : ∀ p, (rdE f ss p).Pairwise (· < ·) := by
  intro p
  induction p with
  | zero => exact List.Pairwise.nil
  | succ p ih =>
    by_cases h : ss[(rdE f ss p).length]? = some (f p)
    · rw [rdE_yes h, List.pairwise_append]
      exact ⟨ih, List.pairwise_singleton _ _, fun x hx y hy => by have := rdE_mem hx; simp at hy; omega⟩
    · rw [rdE_no h]; exact ih
theorem rdZ_ok {n : Nat} {L : List ByteArray} (hn : 1 ≤ (rd0 L).size ∧ (rd0 L).size ≤ 24) (h : (rd0 L).size = n) : Ok (n : Int) (rdZ L) := by
  unfold rdZ
  rw [h] at hn ⊢
  exact ok_of (by omega) (by omega) (rdE_sorted _ _ _) (fun z hz => by have := rdE_mem hz; omega)
/-- A canon and true. -/
def Kan (n : Nat) (X Y : List Int) (w : World) (e : Ending) (w' : World) : Prop :=
  ∃ a c b d, e = .returned (.tuple #[can n a X.length c n b Y.length d, .bool true]) ∧ IntsAt w' a X.length X ∧ IntsAt w' b Y.length Y ∧ RowC w' w.heap.size w'.heap.size a c X b d Y ∧ Below w.heap.size w w'
theorem kan_of {c : Prop} {n : Nat} {X Y : List Int} {w w' : World} {e : Ending} (hc : c) (hx : AllInt X) (hy : AllInt Y) (h : CanC c n X n Y w e w') : Kan n X Y w e w' := by
  unfold CanC CanBPost at h
  rw [cS_yes hc, cZ_yes hc, cZ_yes hc, cB_yes hc] at h
  obtain ⟨a0, c0, a1, c1, rfl, hr, hb⟩ := h
  exact ⟨a0, c0, a1, c1, rfl, hr.at0 hx, hr.at1 hy, hr, hb⟩
theorem cc_of {n : Nat} {xs ys : List Int} (hx : Ok n xs) (hy : Ok n ys) (hxl : 1 ≤ xs.length) (hyl : 1 ≤ ys.length) : CC n xs n ys := ⟨⟨hx, hy, rfl⟩, hxl, hyl⟩
theorem cc_small {n : Nat} {xs ys : List Int} (h : CC n xs n ys) : xs.length ≤ 1048576 ∧ ys.length ≤ 1048576 := by
  have := cc_len h
  omega
theorem ok_intC {n : Int} {zs : List Int} (h : Ok n zs) : AllInt zs := fun z hz => by have := ok_range h z hz; have := h.1; omega
theorem cpost_go {c : Prop} {s : Int} {l : List Int} {w w' : World} {e : Ending} (hc : c) (h : CPost c s l w e w') : RetPost s l true w e w' := by
  unfold CPost at h
  rwa [cS_yes hc, cZ_yes hc, cB_yes hc] at h
theorem v_cok (n : Nat) (a : Option Addr) (ca : Nat) (xs : List Int) (b : Option Addr) (cb : Nat) (ys : List Int) (w : World) (ha : IntsAt w a xs.length xs) (hb : IntsAt w b ys.length ys) (h : CC n xs n ys) :
    Calls Try.prog 17 #[can n a xs.length ca n b ys.length cb] w fun e w' => e = .returned (.bool true) ∧ Below w.heap.size w w' := by
  have := cok_impl n a xs.length ca xs n b ys.length cb ys w ha (cc_small h).1 hb (cc_small h).2
  rwa [cB_yes h] at this
theorem v_tgt (n : Nat) (a : Option Addr) (ca : Nat) (xs : List Int) (b : Option Addr) (cb : Nat) (ys : List Int) (w : World) (ha : IntsAt w a xs.length xs) (hb : IntsAt w b ys.length ys) (h : CC n xs n ys) (ht : tilC n xs ys) :
    Calls Try.prog 18 #[can n a xs.length ca n b ys.length cb] w fun e w' => e = .returned (.bool true) ∧ Below w.heap.size w w' := by
  have h1 := tgt_impl n a xs.length ca xs n b ys.length cb ys w ha (cc_small h).1 hb (cc_small h).2
  have h2 : tgtB n xs n ys = true := by unfold tgtB tilB; rw [cB_yes h, cB_yes ⟨h.1, ht⟩]; rfl
  rwa [h2] at h1
theorem v_exc (n : Nat) (a : Option Addr) (ca : Nat) (xs : List Int) (b : Option Addr) (cb : Nat) (ys : List Int) (w : World) (ha : IntsAt w a xs.length xs) (hb : IntsAt w b ys.length ys) (h : CC n xs n ys) :
    Calls Try.prog 13 #[can n a xs.length ca n b ys.length cb] w (Kan n ys xs w) :=
  (exc_impl n a xs.length ca xs n b ys.length cb ys w ha (cc_small h).1 hb (cc_small h).2).mono fun e w' h2 => kan_of h (ok_intC h.1.2.1) (ok_intC h.1.1) h2
theorem v_roc (n : Nat) (a : Option Addr) (ca : Nat) (xs : List Int) (b : Option Addr) (cb : Nat) (ys : List Int) (i o : Int) (w : World) (ha : IntsAt w a xs.length xs) (hb : IntsAt w b ys.length ys) (h : CC n xs n ys) (h1 : -1000 ≤ i) (h2 : i ≤ 1000) (h3 : -1000 ≤ o) (h4 : o ≤ 1000) :
    Calls Try.prog 14 #[can n a xs.length ca n b ys.length cb, .int .i64 i, .int .i64 o] w (Kan n (ofZ n (mapL n xs 1 i)) (ofZ n (mapL n ys 1 o)) w) := by
  have hn : n ≤ 24 := by have := h.1.1.1; omega
  refine (roc_impl n a xs.length ca xs n b ys.length cb ys i o w ha (cc_small h).1 hb (cc_small h).2 (by omega) (by omega) (by omega) (by omega)).mono fun e w' h5 => ?_
  rw [Int.toNat_natCast] at h5
  exact kan_of ⟨⟨⟨h.1.1, h1, h2⟩, h.1.2.1, h3, h4⟩, h⟩ (ofZ_int (by omega)) (ofZ_int (by omega)) h5
theorem v_lin (n : Nat) (a : Option Addr) (ca : Nat) (xs : List Int) (b : Option Addr) (cb : Nat) (ys : List Int) (w : World) (ha : IntsAt w a xs.length xs) (hb : IntsAt w b ys.length ys) (h : CC n xs n ys) :
    Calls Try.prog 16 #[can n a xs.length ca n b ys.length cb] w fun e w' => ∃ c d, e = .returned (.slice c n d) ∧ IntsAt w' c n (linL n xs ys n) ∧ Below w.heap.size w w' := by
  refine (lin_impl n a xs.length ca xs n b ys.length cb ys w ha (cc_small h).1 hb (cc_small h).2).mono ?_
  rintro e w' ⟨c, d, rfl, ho, hbl⟩
  have hi := intsAt_own ho (linZ_int n xs n ys)
  have e1 : linZ n xs n ys = linL n xs ys n := by unfold linZ; rw [cZ_yes h, Int.toNat_natCast]
  rw [e1, linL_len] at hi
  rw [e1, linL_len]
  exact ⟨c, d, rfl, hi, hbl⟩
theorem v_cla (n : Nat) (a : Option Addr) (ca : Nat) (xs : List Int) (b : Option Addr) (cb : Nat) (ys : List Int) (w : World) (ha : IntsAt w a xs.length xs) (hb : IntsAt w b ys.length ys) (h : CC n xs n ys) (k : Nat) (hk : (linL n xs ys n).count (-2) = k) :
    Calls Try.prog 19 #[can n a xs.length ca n b ys.length cb] w fun e w' => e = .returned (.int .i64 k) ∧ Below w.heap.size w w' := by
  have h1 := cla_impl n a xs.length ca xs n b ys.length cb ys w ha (cc_small h).1 hb (cc_small h).2
  rwa [claN_yes h, Int.toNat_natCast, hk] at h1
theorem v_vat (n : Nat) (a : Option Addr) (ca : Nat) (xs : List Int) (b : Option Addr) (cb : Nat) (ys : List Int) (p : Int) (w : World) (ha : IntsAt w a xs.length xs) (hb : IntsAt w b ys.length ys) (h : CC n xs n ys) (h1 : -1000 ≤ p) (h2 : p ≤ 1000) (l : List Int) (hl : atL n xs ys p = l) :
    Calls Try.prog 20 #[can n a xs.length ca n b ys.length cb, .int .i64 p] w fun e w' => ∃ c d, e = .returned (.slice c l.length d) ∧ IntsAt w' c l.length l ∧ Below w.heap.size w w' := by
  refine (vat_impl n a xs.length ca xs n b ys.length cb ys p w ha (cc_small h).1 hb (cc_small h).2 (by omega) (by omega)).mono ?_
  rintro e w' ⟨c, d, rfl, ho, hbl⟩
  have hi := intsAt_own ho (vatZ_int n xs n ys p)
  have e1 : vatZ n xs n ys p = l := by unfold vatZ; rw [cZ_yes ⟨h, h1, h2⟩, hl]
  rw [e1] at hi
  rw [e1]
  exact ⟨c, d, rfl, hi, hbl⟩
theorem v_voi (n : Nat) (a : Option Addr) (ca : Nat) (xs : List Int) (b : Option Addr) (cb : Nat) (ys : List Int) (k : Nat) (w : World) (ha : IntsAt w a xs.length xs) (hb : IntsAt w b ys.length ys) (h : CC n xs n ys) (hk : k < ys.length) :
    Calls Try.prog 22 #[can n a xs.length ca n b ys.length cb, .int .i64 k] w (RetPost n (voiZ n xs ys k) true w) := by
  have := (cc_small h).2
  exact (voi_impl n a xs.length ca xs n b ys.length cb ys k w ha (cc_small h).1 hb (cc_small h).2 (by omega) (by omega)).mono fun e w' h2 => cpost_go (by unfold VC; exact ⟨h, by omega, by omega⟩) h2
theorem v_fca (n : Nat) (a : Option Addr) (ca : Nat) (xs : List Int) (b : Option Addr) (cb : Nat) (ys : List Int) (L : List ByteArray) (w : World) (ha : IntsAt w a xs.length xs) (hb : IntsAt w b ys.length ys) (h : CC n xs n ys) (hL : fcaL n xs ys ys.length = L) :
    Calls Try.prog 24 #[can n a xs.length ca n b ys.length cb] w fun e w' => ∃ c d, e = .returned (.slice c L.length d) ∧ TxtsAt w' c L.length L ∧ Below w.heap.size w w' := by
  refine (fca_impl n a xs.length ca xs n b ys.length cb ys w ha (cc_small h).1 hb (cc_small h).2).mono ?_
  rintro e w' ⟨c, d, rfl, ho, hbl⟩
  have hi := txtsAt_own ho
  rw [fcaZ_yes h, hL] at hi
  rw [fcaZ_yes h, hL]
  exact ⟨c, d, rfl, hi, hbl⟩
theorem v_rd (n : Nat) (c : Option Addr) (d : Nat) (xs ys Z : List Int) (L : List ByteArray) (w : World) (hx : TxtsAt w c L.length L) (h : CC n xs n ys) (hL : fcaL n xs ys ys.length = L) (hZ : rdZ L = Z) :
    Calls Try.prog 25 #[.slice c L.length d] w (Kan n (voiZ n xs ys 0) Z w) := by
  obtain ⟨h1, h2, h3, h4, h5, h6⟩ := read_back h
  rw [hL] at h1 h2 h3 h4 h5 h6
  have hn : n ≤ 24 := by have := h.1.1.1; omega
  have hl : L.length ≤ 1048576 := by
    rw [← hL, fcaL_len]; exact (cc_small h).2
  have := rd_impl c L.length d L w hx hl (by omega)
  rw [h4, h2, hZ] at this
  refine this.mono fun e w' h7 => kan_of h1 (ok_intC (voiZ_ok h.1.1.1)) ?_ h7
  rw [← hZ]
  unfold rdZ
  exact rdE_int (by omega)
/-- The canon that is read: a canon whose lines are the same. -/
theorem read_cc {n : Nat} {xs ys Z : List Int} {L : List ByteArray} (h : CC n xs n ys) (hL : fcaL n xs ys ys.length = L) (hZ : rdZ L = Z) :
    CC n (voiZ n xs ys 0) n Z ∧ Z.length = ys.length ∧ fcaL n (voiZ n xs ys 0) Z Z.length = L ∧ L[0]? = some (fmtT n (voiZ n xs ys 0)) := by
  obtain ⟨h1, h2, h3, h4, h5, h6⟩ := read_back h
  rw [hL] at h1 h2 h3 h4 h5 h6
  rw [h2] at h6
  rw [hZ] at h3 h6
  have hvo : Ok (n : Int) (voiZ n xs ys 0) := voiZ_ok h.1.1.1
  have hy := h.2.2
  refine ⟨⟨⟨hvo, ?_, rfl⟩, by rw [← h2]; exact h1.2.1, by omega⟩, h3, by rw [h3]; exact h6, ?_⟩
  · rw [← hZ]
    exact rdZ_ok (by rw [h4]; have := h.1.1.1; omega) h4
  · have := fcaL_at (s := (n : Int)) (xs := xs) (ys := ys) hy
    rw [hL, Int.toNat_natCast] at this
    exact this
end Go.Proofs.Ytldpikcgeijkpaa.Rhy
