/-
  Helpers of the claims beside this text: forbidden intervals of the model: l08Choose, l08Count.
-/
import Derived.Test.YtjgjcppkbfojpaaObn
import Derived.Test.YtjgjcppkbfojpaaGnm
import Derived.Test.YtjgjcppkbfojpaaOba
namespace Go.Proofs.Ytjgjcppkbfojpaa.Rhy
open Go.RowKit
set_option linter.unusedVariables false
set_option linter.unusedSimpArgs false

def chzAll : Bool := (List.range 17).all fun n => (List.range (n + 1)).all fun k => (List.range (k + 1)).all fun i => Nat.blt (chz n k i) 65536
theorem chzAll_yes : chzAll = true := by decide +kernel
theorem chz_le {n k i : Nat} (hn : n ≤ 16) (hk : k ≤ n) (hi : i ≤ k) : chz n k i < 65536 := by
  have e := chzAll_yes
  unfold chzAll at e
  rw [List.all_eq_true] at e
  have e1 := e n (List.mem_range.2 (by omega))
  rw [List.all_eq_true] at e1
  have e2 := e1 k (List.mem_range.2 (by omega))
  rw [List.all_eq_true] at e2
  have e3 := e2 i (List.mem_range.2 (by omega))
  rwa [Nat.blt_eq] at e3
set_option maxHeartbeats 400000 in
theorem choose_spec (n k : Nat) (w : World) (hn : n ≤ 16) (hk : k ≤ n) :
    Calls Try.prog 136 #[.int .i64 n, .int .i64 k] w fun e w' => e = .returned (.int .i64 (chz n k k : Nat)) ∧ w = w' := by
  have e1 : decide ((n : Int) < (k : Int)) = false := by simp; omega
  have e2 : decide (n < k) = false := by simp; omega
  go_enter Try.func136, Try.ntmps136
  go_wp2
  go_loop [5, 6] (fun x i => ∃ j : Nat, j ≤ k ∧ i = .int .i64 ((j : Int) + 1) ∧ x = .int .i64 (chz n k j : Nat)) (fun _ i => k + 1 - (intOf i).toNat)
  case atStart => exact ⟨0, by omega, rfl, rfl⟩
  case round =>
    obtain ⟨j, hj, rfl, rfl⟩ := hrel
    by_cases hlt : j < k
    · obtain ⟨x, hx⟩ : ∃ x, chz n k j = x := ⟨_, rfl⟩
      have hxb : x < 65536 := by rw [← hx]; exact chz_le hn hk hj
      obtain ⟨m, hm⟩ : ∃ m, n - k + (j + 1) = m := ⟨_, rfl⟩
      have hmb : m ≤ 16 := by omega
      obtain ⟨p, hp⟩ : ∃ p, x * m = p := ⟨_, rfl⟩
      have hpb : p ≤ 65536 * 16 := by rw [← hp]; exact Nat.mul_le_mul (by omega) hmb
      have hmi : (n : Int) - (k : Int) + ((j : Int) + 1) = (m : Int) := by omega
      have hpi : (x : Int) * (m : Int) = (p : Int) := by rw [← hp]; simp
      have hw : wrap64 ((x : Int) * ((n : Int) - (k : Int) + ((j : Int) + 1))) = (p : Int) := by rw [hmi, hpi]; unfold wrap64; omega
      have HC : Hid ((p : Int) / ((j : Int) + 1) = ((chz n k (j + 1) : Nat) : Int)) := Lib.hid (by
        simp only [chz]
        rw [hx, hm, hp]
        simp)
      rw [hx]
      have hcmp : decide ((j : Int) + 1 ≤ (k : Int)) = true := by simp; omega
      have hcmp2 : decide (j + 1 ≤ k) = true := by simp; omega
      have hj0 : ¬ (j : Int) + 1 = 0 := by omega
      have hp0 : (0 : Int) ≤ (p : Int) := by omega
      have hp1 : (p : Int) ≤ 1048576 := by omega
      clear hx hm hp hmi hpi
      go_wp2
      go_round
      case rel => exact ⟨j + 1, by omega, by go_num, by
        rw [HC.out]
        have := chz_le hn hk (show j + 1 ≤ k by omega)
        congr 1
        unfold wrap64
        omega⟩
      case measure => simp [intOf]; omega
    · have e : j = k := by omega
      subst e
      have hcmp : decide ((j : Int) + 1 ≤ (j : Int)) = false := by simp; omega
      go_wp2
      go_ret
      exact ⟨rfl, rfl⟩
set_option maxHeartbeats 400000 in
theorem count0_spec (m k : Nat) (w : World) (hm : m ≤ 16) (hk : k ≤ 16) :
    Calls Try.prog 106 #[.int .i64 m, .int .i64 k] w fun e w' => e = .returned (.int .i64 (ccN m k : Nat)) ∧ w = w' := by
  by_cases hk0 : k = 0
  · subst hk0
    have HE : Hid (ccN m 0 = 1) := Lib.hid rfl
    rw [HE.out]
    go_enter Try.func106, Try.ntmps106
    go_wp2
    go_ret
    exact ⟨rfl, rfl⟩
  · have e0 : ((k : Int) == 0) = false := by simp; omega
    have e0' : (k == 0) = false := by simp; omega
    by_cases h2 : m < 2 * k
    · have e1 : decide ((m : Int) < 2 * (k : Int)) = true := by simp; omega
      have e2 : decide (m < 2 * k) = true := by simp; omega
      have HE : Hid (ccN m k = 0) := Lib.hid (by
        unfold ccN
        rw [e0', cond_false, show Nat.blt m (2 * k) = true by rw [Nat.blt_eq]; exact h2, cond_true])
      rw [HE.out]
      clear hk0 h2
      go_enter Try.func106, Try.ntmps106
      go_wp2
      go_ret
      exact ⟨rfl, rfl⟩
    · have e1 : decide ((m : Int) < 2 * (k : Int)) = false := by simp; omega
      have e2 : decide (m < 2 * k) = false := by simp; omega
      have hb := chz_le (n := m - k - 1) (k := k - 1) (i := k - 1) (by omega) (by omega) (Nat.le_refl _)
      obtain ⟨x, hx⟩ : ∃ x, chz (m - k - 1) (k - 1) (k - 1) = x := ⟨_, rfl⟩
      rw [hx] at hb
      obtain ⟨p, hp⟩ : ∃ p, x * m = p := ⟨_, rfl⟩
      have hpb : p ≤ 65536 * 16 := by rw [← hp]; exact Nat.mul_le_mul (by omega) hm
      have HE : Hid (ccN m k = p / k) := Lib.hid (by
        unfold ccN
        rw [e0', cond_false, show Nat.blt m (2 * k) = false by
          cases q : Nat.blt m (2 * k)
          · rfl
          · rw [Nat.blt_eq] at q; exact absurd q h2, cond_false, hx, hp])
      have HX := Lib.hid hx
      have hw : wrap64 ((x : Int) * (m : Int)) = (p : Int) := by rw [show (x : Int) * (m : Int) = (p : Int) by rw [← hp]; simp]; unfold wrap64; omega
      have hs1 : (m : Int) - (k : Int) - 1 = ((m - k - 1 : Nat) : Int) := by omega
      have hs2 : (k : Int) - 1 = ((k - 1 : Nat) : Int) := by omega
      have HS1 := Lib.hid hs1
      have HS2 := Lib.hid hs2
      have hkn0 : ¬ k = 0 := hk0
      have hp0 : (0 : Int) ≤ (p : Int) := by omega
      have hp1 : (p : Int) ≤ 1048576 := by omega
      have HD : Hid (wrap64 ((p : Int) / (k : Int)) = ((p / k : Nat) : Int)) := Lib.hid (by
        have h1 : ((p / k : Nat) : Int) = (p : Int) / (k : Int) := by simp
        have h2 : p / k ≤ p := Nat.div_le_self _ _
        rw [← h1]
        generalize p / k = z at h2
        unfold wrap64
        omega)
      have hch : k - 1 ≤ m - k - 1 := by omega
      have hch2 : m - k - 1 ≤ 16 := by omega
      have HCH := Lib.hid hch
      have HCH2 := Lib.hid hch2
      clear hch hch2
      rw [HE.out]
      clear hx hp hk0 h2 hs1 hs2
      go_enter Try.func106, Try.ntmps106
      go_wp2_with fail
      rw [HS1.out, HS2.out]
      refine (choose_spec (m - k - 1) (k - 1) _ HCH2.out HCH.out).mono ?_
      rintro e w2 ⟨rfl, rfl⟩
      rw [HX.out]
      go_wp2
      go_ret
      exact ⟨ret_int (by first | exact HD.out | simp), rfl⟩
end Go.Proofs.Ytjgjcppkbfojpaa.Rhy

/-
  Helpers of the claims beside this text: plain mathematics: the model's count of avoiding bars, entry by entry, and how great its numbers are.
-/
namespace Go.Proofs.Ytjgjcppkbfojpaa.Rhy
open Go.RowKit
set_option linter.unusedVariables false

def pcv (w : List Nat) (m c : Nat) : Nat → Nat
  | 0 => 0
  | a + 1 => pcv w m c a + if a ≤ c then w[a]?.getD 0 * ccN m (c - a) else 0
theorem pcv_conv (w : List Nat) (m c : Nat) : ∀ a, a ≤ c → pcv w m c (a + 1) = conv w m c a
  | 0, _ => by simp [pcv, conv]
  | a + 1, h => by
    rw [pcv, pcv_conv w m c a (by omega), if_pos h]
    rfl
theorem pcv_past (w : List Nat) (m c : Nat) : ∀ a, c < a → pcv w m c a = conv w m c c
  | 0, h => by omega
  | a + 1, h => by
    by_cases e : a = c
    · subst e
      exact pcv_conv w m a a (Nat.le_refl _)
    · rw [pcv, if_neg (by omega), Nat.add_zero]
      exact pcv_past w m c a (by omega)
/-- An entry when a entries are done, and b of the next. -/
def nxN (w : List Nat) (m a b c : Nat) : Nat := pcv w m c a + if a ≤ c ∧ c < a + b then w[a]?.getD 0 * ccN m (c - a) else 0
def nxL (w : List Nat) (m k a b : Nat) : List Nat := (List.range (k + 1)).map fun c => nxN w m a b c
theorem nxL_len (w : List Nat) (m k a b : Nat) : (nxL w m k a b).length = k + 1 := by simp [nxL]
theorem nxL_at {w : List Nat} {m k a b c : Nat} (h : c ≤ k) : (nxL w m k a b)[c]? = some (nxN w m a b c) := by
  unfold nxL
  rw [List.getElem?_map, List.getElem?_range (by omega)]
  rfl
theorem nxL_zero (w : List Nat) (m k : Nat) : nxL w m k 0 0 = List.replicate (k + 1) 0 := by
  apply List.ext_getElem
  · simp [nxL]
  · intro i h1 h2
    simp [nxL, nxN, pcv]
theorem nxN_new (w : List Nat) (m a b : Nat) : nxN w m a (b + 1) (a + b) = nxN w m a b (a + b) + w[a]?.getD 0 * ccN m b := by
  unfold nxN
  rw [if_pos (by omega), if_neg (by omega), Nat.add_zero, show a + b - a = b by omega]
theorem nxL_step {w : List Nat} {m k a b : Nat} (h : a + b ≤ k) : (nxL w m k a b).set (a + b) (nxN w m a b (a + b) + w[a]?.getD 0 * ccN m b) = nxL w m k a (b + 1) := by
  apply List.ext_getElem?
  intro i
  rw [List.getElem?_set, nxL_len]
  by_cases e : a + b = i
  · subst e
    rw [if_pos rfl, if_pos (by omega), nxL_at h, nxN_new]
  · rw [if_neg e]
    rcases Nat.lt_or_ge k i with q | q
    · rw [List.getElem?_eq_none (by rw [nxL_len]; omega), List.getElem?_eq_none (by rw [nxL_len]; omega)]
    · rw [nxL_at q, nxL_at q]
      congr 1
      unfold nxN
      congr 1
      by_cases g : a ≤ i ∧ i < a + b
      · rw [if_pos g, if_pos (by omega)]
      · rw [if_neg g, if_neg (by omega)]
theorem nxL_next {w : List Nat} {m k a b : Nat} (h : k < a + b) : nxL w m k a b = nxL w m k (a + 1) 0 := by
  apply List.ext_getElem?
  intro i
  rcases Nat.lt_or_ge k i with q | q
  · rw [List.getElem?_eq_none (by rw [nxL_len]; omega), List.getElem?_eq_none (by rw [nxL_len]; omega)]
  · rw [nxL_at q, nxL_at q]
    congr 1
    unfold nxN
    rw [pcv, if_neg (show ¬ (a + 1 ≤ i ∧ i < a + 1 + 0) by omega), Nat.add_zero]
    congr 1
    by_cases g : a ≤ i
    · rw [if_pos (by omega), if_pos g]
    · rw [if_neg (by omega), if_neg g]
theorem nxL_all (w : List Nat) (m k : Nat) : nxL w m k (k + 1) 0 = wayN m k w := by
  unfold nxL wayN
  refine List.map_congr_left fun c hc => ?_
  have := List.mem_range.1 hc
  unfold nxN
  rw [if_neg (by omega), Nat.add_zero]
  exact pcv_past w m c (k + 1) (by omega)

/-! ### how great the numbers are -/
def cuB (m : Nat) : Nat → Nat
  | 0 => 0
  | t + 1 => cuB m t + ccN m t
def cuAll : Bool := (List.range 17).all fun m => (List.range 18).all fun t => Nat.ble (cuB m t) (2 ^ m)
theorem cuAll_yes : cuAll = true := by decide +kernel
theorem cu_le {m t : Nat} (hm : m ≤ 16) (ht : t ≤ 17) : cuB m t ≤ 2 ^ m := by
  have e := cuAll_yes
  unfold cuAll at e
  rw [List.all_eq_true] at e
  have e1 := e m (List.mem_range.2 (by omega))
  rw [List.all_eq_true] at e1
  exact Nat.le_of_ble_eq_true (e1 t (List.mem_range.2 (by omega)))
theorem pcv_le {w : List Nat} {S m c : Nat} (hw : ∀ a : Nat, w[a]?.getD 0 ≤ S) : ∀ a, a ≤ c + 1 → pcv w m c a + S * cuB m (c + 1 - a) ≤ S * cuB m (c + 1)
  | 0, _ => by simp [pcv]
  | a + 1, h => by
    have ih := pcv_le (m := m) (c := c) hw a (by omega)
    rw [pcv, if_pos (by omega)]
    have e : c + 1 - a = (c - a) + 1 := by omega
    have e2 : c + 1 - (a + 1) = c - a := by omega
    rw [e, cuB, Nat.mul_add] at ih
    rw [e2]
    have := Nat.mul_le_mul_right (ccN m (c - a)) (hw a)
    omega
theorem pcv_bd {w : List Nat} {S m c : Nat} (hw : ∀ a : Nat, w[a]?.getD 0 ≤ S) (hm : m ≤ 16) (hc : c ≤ 16) {a : Nat} (ha : a ≤ c + 1) : pcv w m c a ≤ S * 2 ^ m := by
  have h1 := pcv_le (m := m) (c := c) hw a ha
  have h2 := Nat.mul_le_mul_left S (cu_le (t := c + 1) hm (by omega))
  omega
theorem nxN_bd {w : List Nat} {S m a b c : Nat} (hw : ∀ a : Nat, w[a]?.getD 0 ≤ S) (hm : m ≤ 16) (hc : c ≤ 16) (ha : a ≤ c) : nxN w m a b c ≤ S * 2 ^ m := by
  have h1 := pcv_bd (w := w) (m := m) (c := c) hw hm hc (a := a + 1) (by omega)
  rw [pcv, if_pos ha] at h1
  unfold nxN
  split <;> omega
theorem ways_bd {m k : Nat} (hm : m ≤ 16) (hk : k ≤ 16) : ∀ i x : Nat, (waysN m k i)[x]?.getD 0 ≤ 2 ^ (m * i)
  | 0, x => by
    rw [Nat.mul_zero, Nat.pow_zero, waysN]
    rcases x with _ | x
    · simp
    · simp only [List.getElem?_cons_succ, List.getElem?_replicate]
      split <;> simp
  | i + 1, x => by
    rw [waysN]
    unfold wayN
    rcases Nat.lt_or_ge k x with q | q
    · rw [List.getElem?_eq_none (by simp; omega)]
      simp
    · rw [List.getElem?_map, List.getElem?_range (by omega)]
      simp only [Option.map_some, Option.getD_some]
      have h1 := pcv_bd (w := waysN m k i) (m := m) (c := x) (ways_bd hm hk i) hm (by omega) (a := x + 1) (Nat.le_refl _)
      rw [pcv_past _ _ _ _ (by omega)] at h1
      rw [Nat.mul_add, Nat.mul_one, Nat.pow_add]
      exact h1
theorem ways_len (m k : Nat) : ∀ i, (waysN m k i).length = k + 1
  | 0 => by simp [waysN]
  | i + 1 => by simp [waysN, wayN]
/-- The list as integers. -/
def zN (l : List Nat) : List Int := l.map Int.ofNat
theorem zN_len (l : List Nat) : (zN l).length = l.length := by simp [zN]
theorem zN_at {l : List Nat} {i x : Nat} (h : l[i]? = some x) : (zN l)[i]? = some (x : Int) := by unfold zN; rw [List.getElem?_map, h]; rfl
theorem zN_set (l : List Nat) (i x : Nat) : (ints (zN l)).set i (.int .i64 (x : Int)) = ints (zN (l.set i x)) := by
  unfold ints zN
  rw [List.map_set, List.map_set]
  rfl
theorem zN_rep (k : Nat) : List.replicate k (Value.int .i64 0) = ints (zN (List.replicate k 0)) := by
  unfold ints zN
  rw [List.map_replicate, List.map_replicate]
  rfl
theorem zN_int {l : List Nat} {B : Nat} (hB : B ≤ 1048576) (h : ∀ x : Nat, l[x]?.getD 0 ≤ B) : AllInt (zN l) := by
  intro z hz
  unfold zN at hz
  rw [List.mem_map] at hz
  obtain ⟨x, hx, rfl⟩ := hz
  obtain ⟨i, hi⟩ := List.mem_iff_getElem?.1 hx
  have := h i
  rw [hi] at this
  simp only [Option.getD_some] at this
  exact ⟨by show (-9223372036854775808 : Int) ≤ (x : Int); omega, by show (x : Int) ≤ 9223372036854775807; omega⟩
end Go.Proofs.Ytjgjcppkbfojpaa.Rhy

/-
  Helpers of the claims beside this text: CountAvoiding of the model.
-/
namespace Go.Proofs.Ytjgjcppkbfojpaa.Rhy
open Go.RowKit
set_option linter.unusedVariables false
set_option linter.unusedSimpArgs false

def CoC (n d k : Int) : Prop := (2 ≤ n ∧ n ≤ 16) ∧ (1 ≤ d ∧ d ≤ n - 1) ∧ (0 ≤ k ∧ k ≤ n)
noncomputable def coaB (n d k : Int) : Int := @ite _ (CoC n d k) (Classical.propDecidable _) (cntF n.toNat d.toNat k.toNat : Nat) (-1)
theorem coaB_yes {n d k : Int} (h : CoC n d k) : coaB n d k = (cntF n.toNat d.toNat k.toNat : Nat) := by simp [coaB, h]
theorem coaB_no {n d k : Int} (h : ¬ CoC n d k) : coaB n d k = -1 := by simp [coaB, h]

theorem ints_own' {w : World} {B : Nat} {a : Option Addr} {len c : Nat} {l : List Int} (hl : l.length = len) (h : w.ownsRow B 3 1 (.slice a len c) len (ints l)) (hi : AllInt l) : IntsAt w a len l := by
  subst hl
  exact intsAt_own h hi

set_option maxHeartbeats 2000000 in
theorem coa_spec (n d k : Int) (w : World) (h1 : -9223372036854775808 ≤ n) (h2 : n ≤ 9223372036854775807) (h3 : -9223372036854775808 ≤ d) (h4 : d ≤ 9223372036854775807) (h5 : -9223372036854775808 ≤ k) (h6 : k ≤ 9223372036854775807) :
    Calls Try.prog 53 #[.int .i64 n, .int .i64 d, .int .i64 k] w fun e w' => e = .returned (.int .i64 (coaB n d k)) ∧ Below w.heap.size w w' := by
  by_cases hn : 2 ≤ n ∧ n ≤ 16
  · by_cases hd : 1 ≤ d ∧ d ≤ n - 1
    · by_cases hk : 0 ≤ k ∧ k ≤ n
      · have HE := Lib.hid (coaB_yes ⟨hn, hd, hk⟩)
        obtain ⟨N, rfl⟩ : ∃ N : Nat, n = N := ⟨n.toNat, by omega⟩
        obtain ⟨D, rfl⟩ : ∃ D : Nat, d = D := ⟨d.toNat, by omega⟩
        obtain ⟨C, rfl⟩ : ∃ C : Nat, k = C := ⟨k.toNat, by omega⟩
        obtain ⟨hn1, hn2⟩ := hn
        obtain ⟨hd1, hd2⟩ := hd
        obtain ⟨hk1, hk2⟩ := hk
        obtain ⟨g, hg⟩ : ∃ g, Nat.gcd N D = g := ⟨_, rfl⟩
        have hg1 : 1 ≤ g := by rw [← hg]; exact Nat.gcd_pos_of_pos_left _ (by omega)
        have hgn : g ≤ N := by rw [← hg]; exact Nat.gcd_le_left _ (by omega)
        obtain ⟨m, hm⟩ : ∃ m, N / g = m := ⟨_, rfl⟩
        have hm16 : m ≤ 16 := by rw [← hm]; have : N / g ≤ N := Nat.div_le_self _ _; omega
        have hmg : m * g ≤ 16 := by rw [← hm]; have := Nat.div_mul_le_self N g; omega
        have HMG := Lib.hid hmg
        have HV : Hid ((cntF (N : Int).toNat (D : Int).toNat (C : Int).toNat : Nat) = (waysN m C g)[C]?.getD 0) := Lib.hid (by unfold cntF; rw [Int.toNat_natCast, Int.toNat_natCast, Int.toNat_natCast, hg, hm])
        have HG := Lib.hid hg
        have HMI : Hid ((N : Int) / (g : Int) = (m : Int)) := Lib.hid (by rw [← hm]; simp)
        have HWB : Hid (∀ i x : Nat, i ≤ g → (waysN m C i)[x]?.getD 0 ≤ 65536) := Lib.hid (fun i x hi => by
          have h1 := ways_bd (m := m) (k := C) hm16 (by omega) i x
          have h2 : m * i ≤ m * g := Nat.mul_le_mul_left m hi
          exact Nat.le_trans h1 (Nat.pow_le_pow_right (n := 2) (by omega) (show m * i ≤ 16 by omega)))
        have HNB : Hid (∀ i a b c : Nat, i < g → a ≤ c → c ≤ C → nxN (waysN m C i) m a b c ≤ 65536) := Lib.hid (fun i a b c hi ha hc => by
          have h1 := nxN_bd (w := waysN m C i) (S := 2 ^ (m * i)) (b := b) (ways_bd hm16 (by omega) i) hm16 (show c ≤ 16 by omega) ha
          rw [← Nat.pow_add] at h1
          have h2 : m * (i + 1) ≤ m * g := Nat.mul_le_mul_left m hi
          rw [Nat.mul_add, Nat.mul_one] at h2
          exact Nat.le_trans h1 (Nat.pow_le_pow_right (n := 2) (by omega) (show m * i + m ≤ 16 by omega)))
        obtain ⟨i0, hi0, hz0, hz1, hz2⟩ := info_parts infoInt
        have HI := Lib.hid (show _ ∧ _ ∧ _ ∧ _ from ⟨hi0, hz0, hz1, hz2⟩)
        have hg0 : ¬ g = 0 := by omega
        have hC1 : wrap64 ((C : Int) + 1) = ((C + 1 : Nat) : Int) := by unfold wrap64; omega
        have HC1 := Lib.hid hC1
        clear hi0 hz0 hz1 hz2 hg hm hmg
        rw [HE.out, HV.out]
        go_enter Try.func53, Try.ntmps53
        go_wp2_with fail
        refine (in_yes _ _ _ _ hn1 hn2).mono ?_
        rintro e w' ⟨rfl, rfl⟩
        go_wp2_with fail
        refine (in_yes _ _ _ _ hd1 hd2).mono ?_
        rintro e w' ⟨rfl, rfl⟩
        go_wp2_with fail
        refine (in_yes _ _ _ _ hk1 hk2).mono ?_
        rintro e w' ⟨rfl, rfl⟩
        go_wp2_with fail
        refine (gcd_spec N D _ (by omega) (by omega)).mono ?_
        rintro e w2 ⟨rfl, rfl⟩
        rw [HG.out]
        go_wp2_with (at_make; refine wpList_make_full _ rfl _ _ 23 rfl w.heap.size 3 i0 (.int .i64 0) 1 Try.underlying23 HI.out.1 HI.out.2.1 HI.out.2.2.1 .i64 .i64 ((C + 1 : Nat) : Int) ((C + 1 : Nat) : Int) (C + 1) rfl rfl rfl rfl ?b2 ?b3 ?b4 ?_)
        case b2 => rw [HI.out.2.2.2]; omega
        case b3 => unfold maxLen; omega
        case b4 => omega
        intro w1 hown hgrow
        clear hC1
        rw [toList_madeCells_one] at hown
        have HB1 : Hid (Below w.heap.size w w1) := Lib.hid ((Below.refl w.heap.size w).grown hgrow (Nat.le_refl _) (by intro k hk; cases hk))
        have hcell0 : w1.cell? ⟨w.heap.size, 0, none⟩ = some (.int .i64 0) := by rw [hown.cellAt 0 (by omega)]; rfl
        have hfz0 := hown.frozenAt 0
        obtain ⟨W2, hW2⟩ : ∃ W2, W2 = w1.setCell ⟨w.heap.size, 0, none⟩ (.int .i64 1) := ⟨_, rfl⟩
        have HW2 := Lib.hid hW2
        have HA : Hid (IntsAt W2 (some ⟨w.heap.size, 0, none⟩) (C + 1) (zN (waysN m C 0))) := Lib.hid (by
          have hst := (hown.stored 0 (.int .i64 1)).1
          rw [← hW2, zN_rep, show (Value.int .i64 1) = Value.int .i64 ((1 : Nat) : Int) from rfl, zN_set] at hst
          have e : (List.replicate (C + 1) 0).set 0 1 = waysN m C 0 := by rw [List.replicate_succ]; rfl
          rw [e] at hst
          exact ints_own' (by rw [zN_len, ways_len]) hst (zN_int (by omega) (fun x => HWB.out 0 x (by omega))))
        have HB2 : Hid (Below w.heap.size w W2) := Lib.hid (by rw [hW2]; exact HB1.out.setCell (Nat.le_refl _) _)
        clear hown hgrow hW2
        go_wp2_with fail
        rw [← HW2.out]
        clear hcell0 hfz0
        go_loopw [8, 9] (fun v i wr => ∃ (j : Nat) (av : Option Addr) (cv : Nat), j ≤ g ∧ i = .int .i64 j ∧ v = .slice av (C + 1) cv ∧ IntsAt wr av (C + 1) (zN (waysN m C j)) ∧ Below w.heap.size w wr) (fun _ i _ => g - (intOf i).toNat)
        case atStart => exact ⟨0, _, _, by omega, rfl, rfl, HA.out, HB2.out⟩
        case round =>
          obtain ⟨i, av, cv, hig, rfl, rfl, hia, hbw⟩ := hrel
          have HIA := Lib.hid hia
          have HBW := Lib.hid hbw
          clear hia hbw
          obtain ⟨wo, rfl⟩ : ∃ wo : World, wo = wr := ⟨_, rfl⟩
          by_cases hlt : i < g
          · obtain ⟨V, hV⟩ : ∃ V, waysN m C i = V := ⟨_, rfl⟩
            have HV2 := Lib.hid hV
            have hVl : V.length = C + 1 := by rw [← hV]; exact ways_len _ _ _
            have HVL := Lib.hid hVl
            have HVB : Hid (∀ x : Nat, V[x]?.getD 0 ≤ 65536) := Lib.hid (fun x => by rw [← hV]; exact HWB.out i x (by omega))
            have HNV : Hid (∀ a b c : Nat, a ≤ c → c ≤ C → nxN V m a b c ≤ 65536) := Lib.hid (fun a b c ha hc => by rw [← hV]; exact HNB.out i a b c hlt ha hc)
            have HNX : Hid (waysN m C (i + 1) = wayN m C V) := Lib.hid (by rw [waysN, hV])
            rw [hV] at HIA
            clear hV hVl
            have hC1 := HC1.out
            go_wp2_with (at_make; refine wpList_make_full _ rfl _ _ 23 rfl wo.heap.size 3 i0 (.int .i64 0) 1 Try.underlying23 HI.out.1 HI.out.2.1 HI.out.2.2.1 .i64 .i64 ((C + 1 : Nat) : Int) ((C + 1 : Nat) : Int) (C + 1) rfl rfl rfl rfl ?b2 ?b3 ?b4 ?_)
            case b2 => rw [HI.out.2.2.2]; omega
            case b3 => unfold maxLen; omega
            case b4 => omega
            intro w3 hown hgrow
            clear hC1
            rw [toList_madeCells_one, zN_rep, ← nxL_zero V m C] at hown
            have HO3 := Lib.hid hown
            have HB3 : Hid (Below wo.heap.size wo w3) := Lib.hid ((Below.refl wo.heap.size wo).grown hgrow (Nat.le_refl _) (by intro k hk; cases hk))
            clear hown hgrow
            go_wp2
            go_loopw [48] (fun x wr => ∃ a : Nat, a ≤ C + 1 ∧ x = .int .i64 a ∧ wr.ownsRow wo.heap.size 3 1 (.slice (some ⟨wo.heap.size, 0, none⟩) (C + 1) (C + 1)) (C + 1) (ints (zN (nxL V m C a 0))) ∧ Below wo.heap.size wo wr) (fun x _ => C + 1 - (intOf x).toNat)
            case atStart => exact ⟨0, by omega, rfl, HO3.out, HB3.out⟩
            case round =>
              clear HO3 HB3
              obtain ⟨a, ha, rfl, hown, hbx⟩ := hrel
              have HOA := Lib.hid hown
              have HBX := Lib.hid hbx
              clear hown hbx
              by_cases hlta : a < C + 1
              · obtain ⟨y, hy⟩ : ∃ y, V[a]? = some y := ⟨_, List.getElem?_eq_getElem (by have := HVL.out; omega)⟩
                have HY := Lib.hid hy
                have hyb : y ≤ 65536 := by have := HVB.out a; rw [hy] at this; exact this
                obtain ⟨b0, off, z, rfl, hb0, hs, hc, hz1, hz2⟩ := (HIA.out.below HBX.out).at hlta
                have hzy : z = (y : Int) := by rw [zN_at hy] at hs; exact (Option.some.inj hs).symm
                subst hzy
                clear hs hy hz1 hz2
                go_wp2
                clear hc hb0
                go_loopw [13] (fun x wr => ∃ b : Nat, a + b ≤ C + 1 ∧ x = .int .i64 b ∧ wr.ownsRow wo.heap.size 3 1 (.slice (some ⟨wo.heap.size, 0, none⟩) (C + 1) (C + 1)) (C + 1) (ints (zN (nxL V m C a b))) ∧ Below wo.heap.size wo wr) (fun x _ => C + 1 - (intOf x).toNat)
                case atStart => exact ⟨0, by omega, rfl, HOA.out, HBX.out⟩
                case round =>
                  clear HOA HBX
                  obtain ⟨b, hb, rfl, hown, hbx⟩ := hrel
                  have HOB := Lib.hid hown
                  have HBY := Lib.hid hbx
                  clear hown hbx
                  by_cases hq : a + b ≤ C
                  · obtain ⟨q, hqq⟩ : ∃ q, a + b = q := ⟨_, rfl⟩
                    have HQ := Lib.hid hqq
                    have hle : decide ((a : Int) + (b : Int) ≤ (C : Int)) = true := by simp; omega
                    have hle2 : decide (a + b ≤ C) = true := by simp; omega
                    have HWR : Hid (IntKind.i64.wrap ((a : Int) + (b : Int)) = (q : Int)) := Lib.hid ((IntWalk.i64_in _ ⟨by omega, by omega⟩).trans (by omega))
                    have hab : (a : Int) + (b : Int) = (q : Int) := by omega
                    obtain ⟨x, hx⟩ : ∃ x, nxN V m a b q = x := ⟨_, rfl⟩
                    have HX := Lib.hid hx
                    have hxb : x ≤ 65536 := by rw [← hx]; exact HNV.out a b q (by omega) (by omega)
                    obtain ⟨c, hcc⟩ : ∃ c, ccN m b = c := ⟨_, rfl⟩
                    have HCC := Lib.hid hcc
                    obtain ⟨p, hp⟩ : ∃ p, y * c = p := ⟨_, rfl⟩
                    have HP := Lib.hid hp
                    have hsb : x + p ≤ 65536 := by
                      have h1 := HNV.out a (b + 1) q (by omega) (by omega)
                      rw [← hqq, nxN_new, hqq, hx, HY.out, hcc] at h1
                      simp only [Option.getD_some] at h1
                      omega
                    have HWP : Hid (IntKind.i64.wrap ((y : Int) * (c : Int)) = (p : Int)) := Lib.hid (by
                      have e : (y : Int) * (c : Int) = (p : Int) := by rw [← hp]; simp
                      rw [e]
                      exact IntWalk.i64_in _ ⟨by omega, by omega⟩)
                    have HWX : Hid (IntKind.i64.wrap ((x : Int) + (p : Int)) = ((x + p : Nat) : Int)) := Lib.hid ((IntWalk.i64_in _ ⟨by omega, by omega⟩).trans (by omega))
                    have HST : Hid ((nxL V m C a b).set q (x + p) = nxL V m C a (b + 1)) := Lib.hid (by
                      have h1 := nxL_step (w := V) (m := m) (k := C) hq
                      rw [hqq, hx, HY.out, hcc] at h1
                      simp only [Option.getD_some] at h1
                      rw [hp] at h1
                      exact h1)
                    have hcell : wr.cell? ⟨wo.heap.size, q, none⟩ = some (.int .i64 (x : Int)) := by
                      rw [HOB.out.cellAt q (by omega), ints, List.getElem?_map, zN_at (nxL_at (show q ≤ C by omega)), hx]
                      rfl
                    have hfz := HOB.out.frozenAt q
                    have hq0 : (0 : Int) ≤ (q : Int) := by omega
                    have hq1 : (q : Int) < ((C + 1 : Nat) : Int) := by omega
                    have hmi := HMI.out
                    have htd : Int.tdiv (N : Int) (g : Int) = (m : Int) := by rw [Int.tdiv_eq_ediv_of_nonneg (by omega)]; exact hmi
                    have HWM : Hid (IntKind.i64.wrap (m : Int) = (m : Int)) := Lib.hid (IntWalk.i64_in _ ⟨by omega, by omega⟩)
                    clear hqq hx hcc hp
                    have HCL := Lib.hid hcell
                    have HFZ := Lib.hid hfz
                    have HTD := Lib.hid htd
                    have HON : Hid ((wr.drew.setCell ⟨wo.heap.size, q, none⟩ (.int .i64 ((x + p : Nat) : Int))).ownsRow wo.heap.size 3 1 (.slice (some ⟨wo.heap.size, 0, none⟩) (C + 1) (C + 1)) (C + 1) (ints (zN (nxL V m C a (b + 1))))) := Lib.hid (by
                      have h1 := ((own_below HOB.out (Below.refl wr.heap.size wr).drew).stored q (.int .i64 ((x + p : Nat) : Int))).1
                      rw [zN_set, HST.out] at h1
                      exact h1)
                    have HBN : Hid (Below wo.heap.size wo (wr.drew.setCell ⟨wo.heap.size, q, none⟩ (.int .i64 ((x + p : Nat) : Int)))) := Lib.hid (HBY.out.drew.setCell (Nat.le_refl _) _)
                    clear hab htd hcell hfz hmi
                    go_upto_region 16 with fail
                    have hq2 : ¬ ((C : Int) + 1 ≤ (q : Int)) := by omega
                    have hq3 : ¬ (C + 1 ≤ q) := by omega
                    refine wp_region_held_drew (S := fun _ => True) (by kernel_rfl) trivial (fun hSS0 => ?_)
                    refine wpAnyH_take (i := 0) (oi := ⟨some 60, _, _, _, _, _⟩) (v := .slice (some ⟨wo.heap.size, 0, none⟩) (C + 1) (C + 1)) rfl (by kernel_rfl) (by kernel_rfl) (by kernel_rfl) (fun _ _ _ h => h) (Or.inl ⟨by rfl, fun W hSw => by go_simp⟩) (by assumption) ?_
                    try simp only [Act.put, List.setIfInBounds_toArray, List.set_cons_zero, List.set_cons_succ]
                    refine wpAnyH_take (i := 1) (oi := ⟨some 61, _, _, _, _, _⟩) (v := .int .i64 a) rfl (by kernel_rfl) (by kernel_rfl) (by kernel_rfl) (fun _ _ _ h => h) (Or.inl ⟨by rfl, fun W hSw => by go_simp⟩) (by assumption) ?_
                    try simp only [Act.put, List.setIfInBounds_toArray, List.set_cons_zero, List.set_cons_succ]
                    refine wpAnyH_take (i := 2) (oi := ⟨some 62, _, _, _, _, _⟩) (v := .int .i64 b) rfl (by kernel_rfl) (by kernel_rfl) (by kernel_rfl) (fun _ _ _ h => h) (Or.inl ⟨by rfl, fun W hSw => by go_simp⟩) (by assumption) ?_
                    try simp only [Act.put, List.setIfInBounds_toArray, List.set_cons_zero, List.set_cons_succ]
                    refine wpAnyH_take (i := 3) (oi := ⟨some 63, _, _, _, _, _⟩) (v := .int .i64 q) rfl (by kernel_rfl) (by kernel_rfl) (by kernel_rfl) (fun _ _ _ h => h) (Or.inl ⟨by rfl, fun W hSw => by have hwr := HWR.out; go_simp⟩) (by assumption) ?_
                    try simp only [Act.put, List.setIfInBounds_toArray, List.set_cons_zero, List.set_cons_succ]
                    refine wpAnyH_take (i := 4) (oi := ⟨some 64, _, _, _, _, _⟩) (v := .slice (some ⟨wo.heap.size, 0, none⟩) (C + 1) (C + 1)) rfl (by kernel_rfl) (by kernel_rfl) (by kernel_rfl) (fun _ _ _ h => h) (Or.inl ⟨by rfl, fun W hSw => by go_simp⟩) (by assumption) ?_
                    try simp only [Act.put, List.setIfInBounds_toArray, List.set_cons_zero, List.set_cons_succ]
                    refine wpAnyH_take (i := 5) (oi := ⟨some 65, _, _, _, _, _⟩) (v := .int .i64 a) rfl (by kernel_rfl) (by kernel_rfl) (by kernel_rfl) (fun _ _ _ h => h) (Or.inl ⟨by rfl, fun W hSw => by go_simp⟩) (by assumption) ?_
                    try simp only [Act.put, List.setIfInBounds_toArray, List.set_cons_zero, List.set_cons_succ]
                    refine wpAnyH_take (i := 6) (oi := ⟨some 66, _, _, _, _, _⟩) (v := .int .i64 b) rfl (by kernel_rfl) (by kernel_rfl) (by kernel_rfl) (fun _ _ _ h => h) (Or.inl ⟨by rfl, fun W hSw => by go_simp⟩) (by assumption) ?_
                    try simp only [Act.put, List.setIfInBounds_toArray, List.set_cons_zero, List.set_cons_succ]
                    refine wpAnyH_take (i := 7) (oi := ⟨some 67, _, _, _, _, _⟩) (v := .int .i64 q) rfl (by kernel_rfl) (by kernel_rfl) (by kernel_rfl) (fun _ _ _ h => h) (Or.inl ⟨by rfl, fun W hSw => by have hwr := HWR.out; go_simp⟩) (by assumption) ?_
                    try simp only [Act.put, List.setIfInBounds_toArray, List.set_cons_zero, List.set_cons_succ]
                    refine wpAnyH_take (i := 8) (oi := ⟨some 68, _, _, _, _, _⟩) (v := .pointer (some ⟨wo.heap.size, q, none⟩)) rfl (by kernel_rfl) (by kernel_rfl) (by kernel_rfl) (fun _ _ _ h => h) (Or.inl ⟨by rfl, fun W hSw => by go_simp⟩) (by assumption) ?_
                    try simp only [Act.put, List.setIfInBounds_toArray, List.set_cons_zero, List.set_cons_succ]
                    refine wpAnyH_take (i := 10) (oi := ⟨some 70, _, _, _, _, _⟩) (v := .int .i64 y) rfl (by kernel_rfl) (by kernel_rfl) (by kernel_rfl) (fun _ _ _ h => h) (Or.inl ⟨by rfl, fun W hSw => by go_simp⟩) (by assumption) ?_
                    try simp only [Act.put, List.setIfInBounds_toArray, List.set_cons_zero, List.set_cons_succ]
                    refine wpAnyH_take (i := 11) (oi := ⟨some 71, _, _, _, _, _⟩) (v := .int .i64 N) rfl (by kernel_rfl) (by kernel_rfl) (by kernel_rfl) (fun _ _ _ h => h) (Or.inl ⟨by rfl, fun W hSw => by go_simp⟩) (by assumption) ?_
                    try simp only [Act.put, List.setIfInBounds_toArray, List.set_cons_zero, List.set_cons_succ]
                    refine wpAnyH_take (i := 12) (oi := ⟨some 72, _, _, _, _, _⟩) (v := .int .i64 g) rfl (by kernel_rfl) (by kernel_rfl) (by kernel_rfl) (fun _ _ _ h => h) (Or.inl ⟨by rfl, fun W hSw => by go_simp⟩) (by assumption) ?_
                    try simp only [Act.put, List.setIfInBounds_toArray, List.set_cons_zero, List.set_cons_succ]
                    refine wpAnyH_take (i := 13) (oi := ⟨some 73, _, _, _, _, _⟩) (v := .int .i64 m) rfl (by kernel_rfl) (by kernel_rfl) (by kernel_rfl) (fun _ _ _ h => h) (Or.inl ⟨by rfl, fun W hSw => by have hmi := HMI.out; have htd := HTD.out; have hwm := HWM.out; go_simp⟩) (by assumption) ?_
                    try simp only [Act.put, List.setIfInBounds_toArray, List.set_cons_zero, List.set_cons_succ]
                    refine wpAnyH_take (i := 14) (oi := ⟨some 74, _, _, _, _, _⟩) (v := .int .i64 b) rfl (by kernel_rfl) (by kernel_rfl) (by kernel_rfl) (fun _ _ _ h => h) (Or.inl ⟨by rfl, fun W hSw => by go_simp⟩) (by assumption) ?_
                    try simp only [Act.put, List.setIfInBounds_toArray, List.set_cons_zero, List.set_cons_succ]
                    refine wpAnyH_ready (rs := [9, 15]) (by kernel_rfl) (by simp) ?_
                    refine AllReadyH.cons rfl (fun K hKK => ?_) (AllReadyH.cons rfl (fun K hKK => ?_) AllReadyH.nil)
                    · have hcell := HCL.out
                      go_simp
                      refine hKK.out _ _ trivial (fun hSS1 => ?_)
                      clear hKK K hSS0
                      try simp only [Act.put, List.setIfInBounds_toArray, List.set_cons_zero, List.set_cons_succ]
                      clear hcell
                      refine wpAnyH_ready (rs := [15]) (by kernel_rfl) (by simp) ?_
                      refine AllReadyH.cons rfl (fun K hKK => ?_) AllReadyH.nil
                      go_simp
                      go_at_call 106
                      refine (count0_spec m b _ (by omega) (by omega)).mono ?_
                      rintro e w' ⟨rfl, rfl⟩
                      rw [HCC.out]
                      refine hKK.out _ _ trivial (fun hSS2 => ?_)
                      clear hKK K hSS1
                      try simp only [Act.put, List.setIfInBounds_toArray, List.set_cons_zero, List.set_cons_succ]
                      refine wpAnyH_take (i := 16) (oi := ⟨some 76, _, _, _, _, _⟩) (v := .int .i64 p) rfl (by kernel_rfl) (by kernel_rfl) (by kernel_rfl) (fun _ _ _ h => h) (Or.inl ⟨by rfl, fun W hSw => by have hwp := HWP.out; go_simp⟩) (by assumption) ?_
                      try simp only [Act.put, List.setIfInBounds_toArray, List.set_cons_zero, List.set_cons_succ]
                      refine wpAnyH_take (i := 17) (oi := ⟨some 77, _, _, _, _, _⟩) (v := .int .i64 ((x + p : Nat) : Int)) rfl (by kernel_rfl) (by kernel_rfl) (by kernel_rfl) (fun _ _ _ h => h) (Or.inl ⟨by rfl, fun W hSw => by have hwx := HWX.out; go_simp⟩) (by assumption) ?_
                      try simp only [Act.put, List.setIfInBounds_toArray, List.set_cons_zero, List.set_cons_succ]
                      refine wpAnyH_take (i := 18) (oi := ⟨some 78, _, _, _, _, _⟩) (v := .pointer (some ⟨wo.heap.size, q, none⟩)) rfl (by kernel_rfl) (by kernel_rfl) (by kernel_rfl) (fun _ _ _ h => h) (Or.inl ⟨by rfl, fun W hSw => by go_simp⟩) (by assumption) ?_
                      try simp only [Act.put, List.setIfInBounds_toArray, List.set_cons_zero, List.set_cons_succ]
                      refine wpAnyH_ready (rs := [19]) (by kernel_rfl) (by simp) ?_
                      refine AllReadyH.cons rfl (fun K hKK => ?_) AllReadyH.nil
                      have hcell := HCL.out
                      have hfz := HFZ.out
                      go_simp
                      refine hKK.out _ _ trivial (fun hSS3 => ?_)
                      clear hKK K hSS2
                      try simp only [Act.put, List.setIfInBounds_toArray, List.set_cons_zero, List.set_cons_succ]
                      clear hcell hfz
                      refine wpAnyH_done (by kernel_rfl) ?_ _
                      go_wp2
                      go_roundw
                      case rel => exact ⟨b + 1, by omega, by go_num, HON.out, HBN.out⟩
                      case measure => simp [intOf]; omega
                    · go_simp
                      go_at_call 106
                      refine (count0_spec m b _ (by omega) (by omega)).mono ?_
                      rintro e w' ⟨rfl, rfl⟩
                      rw [HCC.out]
                      refine hKK.out _ _ trivial (fun hSS1 => ?_)
                      clear hKK K hSS0
                      try simp only [Act.put, List.setIfInBounds_toArray, List.set_cons_zero, List.set_cons_succ]
                      refine wpAnyH_take (i := 16) (oi := ⟨some 76, _, _, _, _, _⟩) (v := .int .i64 p) rfl (by kernel_rfl) (by kernel_rfl) (by kernel_rfl) (fun _ _ _ h => h) (Or.inl ⟨by rfl, fun W hSw => by have hwp := HWP.out; go_simp⟩) (by assumption) ?_
                      try simp only [Act.put, List.setIfInBounds_toArray, List.set_cons_zero, List.set_cons_succ]
                      refine wpAnyH_ready (rs := [9]) (by kernel_rfl) (by simp) ?_
                      refine AllReadyH.cons rfl (fun K hKK => ?_) AllReadyH.nil
                      have hcell := HCL.out
                      go_simp
                      refine hKK.out _ _ trivial (fun hSS2 => ?_)
                      clear hKK K hSS1
                      try simp only [Act.put, List.setIfInBounds_toArray, List.set_cons_zero, List.set_cons_succ]
                      clear hcell
                      refine wpAnyH_take (i := 17) (oi := ⟨some 77, _, _, _, _, _⟩) (v := .int .i64 ((x + p : Nat) : Int)) rfl (by kernel_rfl) (by kernel_rfl) (by kernel_rfl) (fun _ _ _ h => h) (Or.inl ⟨by rfl, fun W hSw => by have hwx := HWX.out; go_simp⟩) (by assumption) ?_
                      try simp only [Act.put, List.setIfInBounds_toArray, List.set_cons_zero, List.set_cons_succ]
                      refine wpAnyH_take (i := 18) (oi := ⟨some 78, _, _, _, _, _⟩) (v := .pointer (some ⟨wo.heap.size, q, none⟩)) rfl (by kernel_rfl) (by kernel_rfl) (by kernel_rfl) (fun _ _ _ h => h) (Or.inl ⟨by rfl, fun W hSw => by go_simp⟩) (by assumption) ?_
                      try simp only [Act.put, List.setIfInBounds_toArray, List.set_cons_zero, List.set_cons_succ]
                      refine wpAnyH_ready (rs := [19]) (by kernel_rfl) (by simp) ?_
                      refine AllReadyH.cons rfl (fun K hKK => ?_) AllReadyH.nil
                      have hcell := HCL.out
                      have hfz := HFZ.out
                      go_simp
                      refine hKK.out _ _ trivial (fun hSS3 => ?_)
                      clear hKK K hSS2
                      try simp only [Act.put, List.setIfInBounds_toArray, List.set_cons_zero, List.set_cons_succ]
                      clear hcell hfz
                      refine wpAnyH_done (by kernel_rfl) ?_ _
                      go_wp2
                      go_roundw
                      case rel => exact ⟨b + 1, by omega, by go_num, HON.out, HBN.out⟩
                      case measure => simp [intOf]; omega
                  · have e : a + b = C + 1 := by omega
                    have HOE : Hid (wr.ownsRow wo.heap.size 3 1 (.slice (some ⟨wo.heap.size, 0, none⟩) (C + 1) (C + 1)) (C + 1) (ints (zN (nxL V m C (a + 1) 0)))) := Lib.hid (by
                      have h1 := HOB.out
                      rw [nxL_next (by omega)] at h1
                      exact h1)
                    have hle : decide ((a : Int) + (b : Int) ≤ (C : Int)) = false := by simp; omega
                    have hle2 : decide (a + b ≤ C) = false := by simp; omega
                    clear e
                    go_wp2
                    go_roundw
                    case rel => exact ⟨a + 1, by omega, by go_num, HOE.out, HBY.out⟩
                    case measure => simp [intOf]; omega
              · have e : a = C + 1 := by omega
                have HIN : Hid (IntsAt wr (some ⟨wo.heap.size, 0, none⟩) (C + 1) (zN (waysN m C (i + 1)))) := Lib.hid (by
                  have h1 := HOA.out
                  rw [e, nxL_all, ← HNX.out] at h1
                  exact ints_own' (by rw [zN_len, ways_len]) h1 (zN_int (by omega) (fun x => HWB.out (i + 1) x (by omega))))
                clear e
                go_wp2
                go_roundw
                case rel => exact ⟨i + 1, _, _, by omega, by go_num, rfl, HIN.out, HBW.out.trans (HBX.out.mono HBW.out.size)⟩
                case measure => simp [intOf]; omega
          · have e : i = g := by omega
            obtain ⟨y, hy⟩ : ∃ y, (waysN m C g)[C]? = some y := ⟨_, List.getElem?_eq_getElem (by rw [ways_len]; omega)⟩
            rw [e] at HIA
            obtain ⟨b0, off, z, rfl, hb0, hs, hc, hz1, hz2⟩ := HIA.out.at (show C < C + 1 by omega)
            have hzy : z = (y : Int) := by rw [zN_at hy] at hs; exact (Option.some.inj hs).symm
            subst hzy
            have HY : Hid ((waysN m C g)[C]?.getD 0 = y) := Lib.hid (by rw [hy]; rfl)
            clear hs hy e
            go_wp2
            go_ret
            exact ⟨by rw [HY.out]; rfl, HBW.out⟩
      · have HK := Lib.hid hk
        obtain ⟨hn1, hn2⟩ := hn
        obtain ⟨hd1, hd2⟩ := hd
        have HE := Lib.hid (coaB_no (n := n) (d := d) (k := k) (fun x => hk x.2.2))
        clear hk
        rw [HE.out]
        go_enter Try.func53, Try.ntmps53
        go_wp2_with fail
        refine (in_yes _ _ _ _ hn1 hn2).mono ?_
        rintro e w' ⟨rfl, rfl⟩
        go_wp2_with fail
        refine (in_yes _ _ _ _ hd1 hd2).mono ?_
        rintro e w' ⟨rfl, rfl⟩
        go_wp2_with fail
        refine (in_no _ _ _ _ HK.out).mono ?_
        rintro e w' ⟨rfl, rfl⟩
        go_wp2
        go_ret
        exact ⟨rfl, Below.refl _ _⟩
    · have HD := Lib.hid hd
      obtain ⟨hn1, hn2⟩ := hn
      have HE := Lib.hid (coaB_no (n := n) (d := d) (k := k) (fun x => hd x.2.1))
      clear hd
      rw [HE.out]
      go_enter Try.func53, Try.ntmps53
      go_wp2_with fail
      refine (in_yes _ _ _ _ hn1 hn2).mono ?_
      rintro e w' ⟨rfl, rfl⟩
      go_wp2_with fail
      refine (in_no _ _ _ _ HD.out).mono ?_
      rintro e w' ⟨rfl, rfl⟩
      go_wp2
      go_ret
      exact ⟨rfl, Below.refl _ _⟩
  · have HN := Lib.hid hn
    have HE := Lib.hid (coaB_no (n := n) (d := d) (k := k) (fun x => hn x.1))
    clear hn
    rw [HE.out]
    go_enter Try.func53, Try.ntmps53
    go_wp2_with fail
    refine (in_no _ _ _ _ HN.out).mono ?_
    rintro e w' ⟨rfl, rfl⟩
    go_wp2
    go_ret
    exact ⟨rfl, Below.refl _ _⟩
end Go.Proofs.Ytjgjcppkbfojpaa.Rhy
