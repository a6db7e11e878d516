/-
  Helpers of the claims beside this text: plain mathematics of the law on forbidden intervals.
-/
import Derived.Test.YtjgjcppkbfojpaaOdc
import Derived.Test.YtjgjcppkbfojpaaOcb
import Derived.Test.YtjgjcppkbfojpaaGnf
import Derived.Test.YtjgjcppkbfojpaaIvl
import Derived.Test.YtjgjcppkbfojpaaMoves
import Derived.Test.YtjgjcppkbfojpaaHas
import Derived.Test.YtjgjcppkbfojpaaRot
import Derived.Test.YtjgjcppkbfojpaaOcc
import Derived.Test.YtjgjcppkbfojpaaDfd
import Derived.Test.YtjgjcppkbfojpaaGpe
import Derived.Test.YtjgjcppkbfojpaaDrw
namespace Go.Proofs.Ytjgjcppkbfojpaa.Rhy
open Go.RowKit
set_option linter.unusedVariables false

/-! ### circles -/
theorem cirsZ_flat (n d : Nat) : (cirsZ n d).flatten = (circs n d).flatten.map Int.ofNat := by
  unfold cirsZ circs
  rw [List.map_flatten, List.map_map]
  rfl
theorem flat_all {n d : Nat} (hn : 2 ≤ n ∧ n ≤ 24) (hd : 1 ≤ d ∧ d < n) : (cirsZ n d).flatten.Nodup ∧ (cirsZ n d).flatten.length = n := by
  obtain ⟨h1, h2⟩ := circ_all hn hd
  rw [cirsZ_flat]
  refine ⟨?_, by rw [List.length_map]; exact h2⟩
  unfold List.Nodup
  rw [List.pairwise_map]
  exact List.Pairwise.imp (fun {a b} hab hx => hab (by have : (a : Int) = (b : Int) := hx; omega)) h1
/-- What has been seen ahead of place j on circle k. -/
def seenZ (n d k j : Nat) : List Int := ((cirsZ n d).take k).flatten ++ (cirZ n d k).take j
theorem seen_zero (n d k : Nat) : seenZ n d k 0 = ((cirsZ n d).take k).flatten := by simp [seenZ]
theorem seen_next {n d k j : Nat} {p : Int} (h : (cirZ n d k)[j]? = some p) : seenZ n d k (j + 1) = seenZ n d k j ++ [p] := by
  unfold seenZ
  rw [take_at h, List.append_assoc]
theorem seen_done {n d k : Nat} (h : k < Nat.gcd n d) : seenZ n d k (cirZ n d k).length = ((cirsZ n d).take (k + 1)).flatten := by
  unfold seenZ
  rw [List.take_length, cirsZ_take h, List.flatten_append]
  simp
theorem seen_new {n d k j : Nat} {p : Int} (hn : 2 ≤ n ∧ n ≤ 24) (hd : 1 ≤ d ∧ d < n) (hk : k < Nat.gcd n d) (h : (cirZ n d k)[j]? = some p) : hasB (seenZ n d k j) p = false := by
  obtain ⟨h1, _⟩ := flat_all hn hd
  have e1 : cirsZ n d = (cirsZ n d).take (k + 1) ++ (cirsZ n d).drop (k + 1) := (List.take_append_drop _ _).symm
  have e2 : cirZ n d k = (cirZ n d k).take (j + 1) ++ (cirZ n d k).drop (j + 1) := (List.take_append_drop _ _).symm
  have e3 : (cirsZ n d).flatten = seenZ n d k (j + 1) ++ ((cirZ n d k).drop (j + 1) ++ ((cirsZ n d).drop (k + 1)).flatten) := by
    conv => lhs; rw [e1]
    rw [cirsZ_take hk, List.flatten_append, List.flatten_append]
    simp only [List.flatten_cons, List.flatten_nil, List.append_nil]
    conv => lhs; rw [e2]
    unfold seenZ
    simp only [List.append_assoc]
  rw [e3, seen_next h] at h1
  have h2 := (List.nodup_append.1 h1).1
  have h3 := (List.nodup_append.1 h2).2.2
  unfold hasB
  rw [List.contains_eq_mem, decide_eq_false_iff_not]
  exact fun hm => h3 p hm p (by simp) rfl
theorem seen_len {n d k j : Nat} (hn : 2 ≤ n ∧ n ≤ 24) : (seenZ n d k j).length ≤ 1000 := by
  have hg : Nat.gcd n d ≤ n := Nat.gcd_le_left _ (by omega)
  have h1 : ((cirsZ n d).take k).flatten.length ≤ (cirsZ n d).flatten.length := by
    conv => rhs; rw [← List.take_append_drop k (cirsZ n d)]
    rw [List.flatten_append, List.length_append]
    omega
  have h2 : (cirsZ n d).flatten.length ≤ 24 * 24 := by
    rw [cirsZ_flat, List.length_map]
    have h3 : ∀ (L : List (List Nat)), (∀ l ∈ L, l.length ≤ 24) → L.flatten.length ≤ L.length * 24 := by
      intro L
      induction L with
      | nil => intro _; simp
      | cons a L ih =>
        intro hl
        have h4 := ih (fun l h => hl l (List.mem_cons_of_mem _ h))
        have h5 := hl a (List.mem_cons_self ..)
        rw [List.flatten_cons, List.length_append, List.length_cons, Nat.add_mul]
        omega
    refine Nat.le_trans (h3 _ (fun l hl => ?_)) ?_
    · unfold circs at hl
      rw [List.mem_map] at hl
      obtain ⟨p, _, rfl⟩ := hl
      rw [circ_len]
      have : n / Nat.gcd n d ≤ n := Nat.div_le_self _ _
      omega
    · rw [circs_len]
      exact Nat.mul_le_mul_right 24 (by omega)
  have h4 : ((cirZ n d k).take j).length ≤ 24 := by
    rw [List.length_take, cirZ_len]
    have : n / Nat.gcd n d ≤ n := Nat.div_le_self _ _
    omega
  unfold seenZ
  rw [List.length_append]
  omega

/-! ### bars and numbers -/
theorem bits_onto {n : Nat} {zs : List Int} (hn : 1 ≤ n ∧ n ≤ 24) (ho : Ok n zs) : ∃ x, x < 2 ^ n ∧ bitsL n x = zs := by
  have key : ∀ q, q ≤ n → ∃ c, 2 ^ (n - q) * c < 2 ^ n ∧ ∀ p : Int, p ∈ bitsL n (2 ^ (n - q) * c) ↔ p ∈ zs ∧ p < q := by
    intro q
    induction q with
    | zero =>
      intro _
      refine ⟨0, by rw [Nat.mul_zero]; exact Nat.two_pow_pos n, fun p => ?_⟩
      rw [Nat.mul_zero, bits_zero]
      constructor
      · intro h; cases h
      · rintro ⟨h1, h2⟩
        have := ok_range ho p h1
        omega
    | succ q ih =>
      intro hq
      obtain ⟨c, hc, hm⟩ := ih (by omega)
      obtain ⟨m, hmq⟩ : ∃ m, n - (q + 1) = m := ⟨_, rfl⟩
      have e : n - q = m + 1 := by omega
      rw [e] at hc hm
      rw [hmq]
      have e1 : 2 ^ (m + 1) * c = 2 ^ m * (2 * c) := by rw [Nat.pow_succ, Nat.mul_assoc]
      have e2 : 2 ^ (m + 1) * c + 2 ^ m = 2 ^ m * (2 * c + 1) := by rw [e1, Nat.mul_add, Nat.mul_one]
      by_cases h : (q : Int) ∈ zs
      · refine ⟨2 * c + 1, ?_, fun p => ?_⟩
        · rw [← e2]
          have h1 : 2 ^ n = 2 ^ (m + 1) * 2 ^ q := by rw [← Nat.pow_add]; congr 1; omega
          rw [h1] at hc ⊢
          have h2 : c < 2 ^ q := Nat.lt_of_mul_lt_mul_left hc
          have h3 : 2 ^ (m + 1) * (c + 1) ≤ 2 ^ (m + 1) * 2 ^ q := Nat.mul_le_mul_left _ h2
          have h4 : 2 ^ m < 2 ^ (m + 1) := by rw [Nat.pow_succ]; have := Nat.two_pow_pos m; omega
          rw [Nat.mul_add, Nat.mul_one] at h3
          omega
        · rw [← e2, bits_add hn (by omega), List.mem_append, List.mem_singleton, hm, show n - 1 - m = q by omega]
          constructor
          · rintro (⟨h1, h2⟩ | h1)
            · exact ⟨h1, by omega⟩
            · subst h1; exact ⟨h, by omega⟩
          · rintro ⟨h1, h2⟩
            by_cases e3 : p = q
            · exact .inr e3
            · exact .inl ⟨h1, by omega⟩
      · refine ⟨2 * c, by rw [← e1]; exact hc, fun p => ?_⟩
        rw [← e1, hm]
        constructor
        · rintro ⟨h1, h2⟩; exact ⟨h1, by omega⟩
        · rintro ⟨h1, h2⟩
          refine ⟨h1, ?_⟩
          have : p ≠ q := fun e3 => h (by rw [← e3]; exact h1)
          omega
  obtain ⟨c, hc, hm⟩ := key n (Nat.le_refl n)
  refine ⟨_, hc, lt_uniq (ok_sorted (bits_ok hn.1 hn.2)) (ok_sorted ho) fun p => ?_⟩
  rw [hm]
  exact ⟨fun h => h.1, fun h => ⟨h, (ok_range ho p h).2⟩⟩
/-- No avoiding rhythm has more beats. -/
theorem most_le {n d : Nat} {zs : List Int} (hn : 2 ≤ n ∧ n ≤ 10) (hd : 1 ≤ d ∧ d < n) (ho : Ok n zs) (ha : avC n zs d) : zs.length ≤ mostN n d := by
  obtain ⟨x, hx, rfl⟩ := bits_onto ⟨by omega, by omega⟩ ho
  rw [bits_wt]
  exact most_is hn hd hx ((good_avoid hd hx).2 ha)

/-! ### the first one, and a beat more -/
theorem fi_iff {n d k : Nat} (hn : 2 ≤ n ∧ n ≤ 10) (hd : 1 ≤ d ∧ d < n) (hk : k ≤ n) : fiC n d k ↔ k ≤ mostN n d := by
  have ht := (tab_is hn hd hk).2.1
  unfold fiC
  simp only [Int.toNat_natCast]
  rw [ht]
  exact ⟨fun h => h.2, fun h => ⟨⟨by omega, by omega, by omega⟩, h⟩⟩
theorem fi_is {n d k : Nat} (hn : 2 ≤ n ∧ n ≤ 10) (hd : 1 ≤ d ∧ d < n) (h : fiC n d k) : Ok n (fiZ n d k) ∧ avC n (fiZ n d k) d ∧ (fiZ n d k).length = k := by
  have h2 := h.2
  unfold fiZ
  simp only [Int.toNat_natCast] at h2 ⊢
  cases hf : firstN n d n 0 k with
  | none => rw [hf] at h2; cases h2
  | some z =>
    have hi := first_is n d n 0 k (by rw [Nat.mul_zero]; exact good_zero n d)
    rw [Nat.mul_zero, hf] at hi
    obtain ⟨y, hy, hz, hg, hw, _⟩ := hi
    rw [Nat.zero_add] at hz
    subst hz
    simp only [Option.getD_some]
    exact ⟨bits_ok (by omega) (by omega), (good_avoid hd hy).1 hg, by rw [bits_wt]; exact hw⟩
theorem sorted_nodup {l : List Int} (h : l.Pairwise (· < ·)) : l.Nodup := List.Pairwise.imp (fun {a b} hab e => by omega) h
theorem more_len {n : Nat} {p : Int} {zs : List Int} (ho : Ok n zs) (hp : 0 ≤ p ∧ p < n) (hnp : p ∉ zs) : (ofZ n (zs ++ [p])).length = zs.length + 1 := by
  have hr := ok_range ho
  have hm : ∀ x, x ∈ ofZ n (zs ++ [p]) ↔ x ∈ zs ++ [p] := fun x => by
    have := join_mem (n := (n : Int)) hr hp x
    rw [Int.toNat_natCast] at this
    rw [this, List.mem_append, List.mem_singleton]
  have h1 : (zs ++ [p]).Nodup := by
    rw [List.nodup_append]
    refine ⟨sorted_nodup (ok_sorted ho), by simp, fun a ha b hb e => ?_⟩
    rw [List.mem_singleton] at hb
    rw [e, hb] at ha
    exact hnp ha
  have h2 : (ofZ n (zs ++ [p])).Nodup := sorted_nodup (ofZ_sorted _ _)
  have h3 := (sub_all _ _ h1 (fun x hx => (hm x).2 hx)).1
  have h4 := (sub_all _ _ h2 (fun x hx => (hm x).1 hx)).1
  have h5 : (zs ++ [p]).length = zs.length + 1 := by rw [List.length_append]; rfl
  omega
theorem one_Ok {n : Nat} {p : Int} (h : 1 ≤ n ∧ n ≤ 24) (hp : 0 ≤ p ∧ p < n) : Ok n [p] := ok_of (by omega) (by omega) (by simp) (fun z hz => by rw [List.mem_singleton] at hz; subst hz; exact hp)
theorem free_ok {n d : Nat} {zs : List Int} {p : Int} (hn : 2 ≤ n ∧ n ≤ 24) (hd : 1 ≤ d ∧ d < n) (ho : Ok n zs) (ha : avC n zs d) (h : p ∈ frP n zs d n) :
    (0 ≤ p ∧ p < n) ∧ Ok n (ofZ n (zs ++ [p])) ∧ avC n (ofZ n (zs ++ [p])) d ∧ (ofZ n (zs ++ [p])).length = zs.length + 1 := by
  obtain ⟨hp, h1, h2, h3⟩ := frP_mem.1 h
  refine ⟨hp, ok_of (by omega) (by omega) (ofZ_sorted _ _) (fun z hz => by have := (ofZ_mem.1 hz).1; omega), ?_, more_len ho hp h1⟩
  have hr := ok_range ho
  rw [av_add (zs := zs) hr ⟨by omega, by omega⟩ hp (fun x => by have := join_mem (n := (n : Int)) hr hp x; rwa [Int.toNat_natCast] at this)]
  exact ⟨ha, h2, h3⟩
theorem free_none {n d : Nat} {zs : List Int} (hn : 2 ≤ n ∧ n ≤ 10) (hd : 1 ≤ d ∧ d < n) (ho : Ok n zs) (ha : avC n zs d) (h : zs.length = mostN n d) : frP n zs d n = [] := by
  rw [List.eq_nil_iff_forall_not_mem]
  intro p hp
  obtain ⟨_, h1, h2, h3⟩ := free_ok ⟨hn.1, by omega⟩ hd ho ha hp
  have := most_le hn hd h1 h2
  omega

/-! ### the rhythm drawn besides -/
theorem dif_none {n : Nat} {d : Nat} {zs : List Int} (ho : Ok n zs) (hd : 1 ≤ d ∧ d < n) : avC n zs d ↔ difAt n zs d = 0 := by
  have hr := ok_range ho
  unfold difAt comZ
  rw [List.length_eq_zero_iff, List.filter_eq_nil_iff]
  simp only [List.contains_eq_mem, decide_eq_true_eq]
  constructor
  · intro h x hx hm
    have h1 := (rot_mem ho).1 hm
    refine h _ h1.2 ?_
    rw [em_add, show x - (d : Int) + d = x by omega, em_self h1.1]
    exact hx
  · intro h p hp hm
    refine h _ hm ((rot_mem ho).2 ⟨em_bd _ (by omega), ?_⟩)
    rw [em_sub, show p + (d : Int) - d = p by omega, em_self (hr p hp)]
    exact hp
theorem odd_is {n : Nat} {zs : List Int} (ho : Ok n zs) : oddB n zs = (n % 2 == 1 || (opP n zs (n / 2)).length == 0) := by
  by_cases h1 : n % 2 = 1
  · rw [oddB_yes ⟨ho, .inl (by omega)⟩]
    simp [h1]
  · have e1 : (n % 2 == 1) = false := by simp; omega
    rw [e1, Bool.false_or]
    have hr := ok_range ho
    have hn := ho.1
    have hh : (n : Int) / 2 = ((n / 2 : Nat) : Int) := by omega
    by_cases ha : avC n zs ((n : Int) / 2)
    · rw [oddB_yes ⟨ho, .inr ha⟩]
      have : opP n zs (n / 2) = [] := by
        unfold opP
        rw [List.filter_eq_nil_iff]
        intro x hx hq
        rw [List.mem_map] at hx
        obtain ⟨i, hi, rfl⟩ := hx
        have := List.mem_range.1 hi
        unfold opT at hq
        rw [Bool.and_eq_true] at hq
        refine ha _ (List.contains_iff_mem.1 hq.1) ?_
        rw [hh, em_self ⟨by show (0 : Int) ≤ (i : Int) + _; omega, by show (i : Int) + _ < n; omega⟩]
        exact List.contains_iff_mem.1 hq.2
      rw [this]
      rfl
    · rw [oddB_no (fun x => x.2.elim (by omega) ha)]
      symm
      rw [beq_eq_false_iff_ne]
      intro h0
      refine ha fun p hp hm => ?_
      have hnil := List.eq_nil_of_length_eq_zero h0
      have hpr := hr p hp
      have hgo : ∀ q : Int, 0 ≤ q → q < (n / 2 : Nat) → q ∈ zs → q + (n / 2 : Nat) ∈ zs → False := fun q hq0 hq1 hq2 hq3 => by
        have : q ∈ opP n zs (n / 2) := by
          unfold opP
          rw [List.mem_filter, List.mem_map]
          refine ⟨⟨q.toNat, List.mem_range.2 (by omega), by show ((q.toNat : Nat) : Int) = q; omega⟩, ?_⟩
          unfold opT
          rw [Bool.and_eq_true]
          exact ⟨List.contains_iff_mem.2 hq2, List.contains_iff_mem.2 hq3⟩
        rw [hnil] at this
        cases this
      rw [hh] at hm
      by_cases hlo : p < (n / 2 : Nat)
      · rw [em_self ⟨by omega, by omega⟩] at hm
        exact hgo p (by omega) hlo hp hm
      · have e2 : (p + (n / 2 : Nat)) % (n : Int) = p - (n / 2 : Nat) := by
          rw [← Int.sub_emod_right (p + (n / 2 : Nat)) n, show p + ((n / 2 : Nat) : Int) - n = p - (n / 2 : Nat) by omega, em_self ⟨by omega, by omega⟩]
        rw [e2] at hm
        exact hgo (p - (n / 2 : Nat)) (by omega) (by omega) hm (by rw [show p - ((n / 2 : Nat) : Int) + (n / 2 : Nat) = p by omega]; exact hp)
end Go.Proofs.Ytjgjcppkbfojpaa.Rhy

/-
  Helpers of the claims beside this text: what the laws' own same and rhythms do; contracts at valid rhythms in the words that the laws' walks want.
-/
namespace Go.Proofs.Ytjgjcppkbfojpaa.Rhy
open Go.RowKit
set_option linter.unusedVariables false

set_option maxHeartbeats 400000 in
theorem same_law (a b : Option Addr) (n ca cb : Nat) (l : List Int) (w : World) (ha : IntsAt w a n l) (hb : IntsAt w b n l) (hn : n ≤ 1048576) :
    Calls Try.prog 61 #[.slice a n ca, .slice b n cb] w fun e w' => e = .returned (.bool true) ∧ w = w' := by
  have FA := Lib.hid ha
  have FB := Lib.hid hb
  clear ha hb
  go_enter Try.func61, Try.ntmps61
  go_wp2
  go_loop [14] (fun i => ∃ k : Nat, k ≤ n ∧ i = .int .i64 k) (fun i => n - (intOf i).toNat)
  case atStart => exact ⟨0, by omega, rfl⟩
  case round =>
    obtain ⟨k, hk, rfl⟩ := hrel
    by_cases hlt : k < n
    · obtain ⟨ga, oa, z, rfl, la, hza, c1, _, _⟩ := FA.out.at hlt
      obtain ⟨gb, ob, z', rfl, lb, hzb, c2, _, _⟩ := FB.out.at hlt
      rw [hza] at hzb
      obtain rfl : z = z' := Option.some.inj hzb
      clear hza hzb
      go_wp2
      go_round
      case rel => exact ⟨k + 1, by omega, by go_num⟩
      case measure => simp [intOf]; omega
    · go_wp2
      go_ret
      exact ⟨rfl, rfl⟩
/-- Two equal rhythms. -/
theorem rhythms_law (s : Int) (a b : Option Addr) (ca cb : Nat) (l : List Int) (w : World) (ha : IntsAt w a l.length l) (hb : IntsAt w b l.length l) (hn : l.length ≤ 1048576) :
    Calls Try.prog 15 #[rhy s a l.length ca, rhy s b l.length cb] w fun e w' => e = .returned (.bool true) ∧ Below w.heap.size w w' := by
  have FA := Lib.hid ha
  have FB := Lib.hid hb
  clear ha hb
  go_enter Try.func15, Try.ntmps15
  go_wp2_with fail
  refine (same_law a b l.length ca cb l _ (FA.out.below (bel2 w _ _)) (FB.out.below (bel2 w _ _)) hn).mono ?_
  rintro e w1 ⟨rfl, rfl⟩
  go_wp2
  go_ret
  exact ⟨rfl, bel2 w _ _⟩

/-- A rhythm and true, of a function that has one. -/
theorem cpost_open {c : Prop} {s : Int} {l : List Int} {w w' : World} {e : Ending} (hc : c) (h : CPost c s l w e w') : RetPost s l true w e w' := by
  unfold CPost at h
  rwa [cS_yes hc, cZ_yes hc, cB_yes hc] at h
theorem cpost_shut {c : Prop} {s : Int} {l : List Int} {w w' : World} {e : Ending} (hc : ¬ c) (h : CPost c s l w e w') : RetPost 0 [] false w e w' := by
  unfold CPost at h
  rwa [cS_no hc, cZ_no hc, cB_no hc] at h
end Go.Proofs.Ytjgjcppkbfojpaa.Rhy

/-
  Helpers of the claims beside this text: rhythms at valid rhythms: what the program answers, in the words that the laws want.
-/
namespace Go.Proofs.Ytjgjcppkbfojpaa.Rhy
open Go.RowKit
set_option linter.unusedVariables false

theorem r_rot (n : Nat) (a : Option Addr) (cap : Nat) (zs l : List Int) (k : Int) (w : World) (h : IntsAt w a zs.length zs) (ho : Ok n zs) (h1 : -1000 ≤ k) (h2 : k ≤ 1000) (hl : rotZ n zs 1 k = l) :
    Calls Try.prog 12 #[rhy n a zs.length cap, .int .i64 k] w (RetPost n l true w) := by
  refine (rot_impl n a zs.length cap zs k w h (by have := ok_len ho; omega) (by omega) (by omega)).mono fun e w' h => ?_
  rw [← hl]
  exact cpost_open ⟨ho, h1, h2⟩ h
theorem r_mir (n : Nat) (a : Option Addr) (cap : Nat) (zs l : List Int) (w : World) (h : IntsAt w a zs.length zs) (ho : Ok n zs) (hl : rotZ n zs (-1) 0 = l) :
    Calls Try.prog 13 #[rhy n a zs.length cap] w (RetPost n l true w) := by
  refine (mir_impl n a zs.length cap zs w h (by have := ok_len ho; omega)).mono fun e w' h => ?_
  rw [← hl]
  exact cpost_open ho h
theorem r_oth (n : Nat) (a : Option Addr) (cap : Nat) (zs l : List Int) (w : World) (h : IntsAt w a zs.length zs) (ho : Ok n zs) (hl : notZ n zs = l) :
    Calls Try.prog 14 #[rhy n a zs.length cap] w (RetPost n l true w) := by
  refine (oth_impl n a zs.length cap zs w h (by have := ok_len ho; omega)).mono fun e w' h => ?_
  rw [← hl]
  exact cpost_open ho h
theorem r_cnt (n : Nat) (a : Option Addr) (cap : Nat) (zs : List Int) (r : Int) (w : World) (h : IntsAt w a zs.length zs) (ho : Ok n zs) (hr : (zs.length : Int) = r) :
    Calls Try.prog 16 #[rhy n a zs.length cap] w fun e w' => e = .returned (.int .i64 r) ∧ Below w.heap.size w w' := by
  have := count_impl n a zs.length cap zs w h (by have := ok_len ho; omega)
  rwa [countB_yes ho, hr] at this
theorem r_has (n : Nat) (a : Option Addr) (cap : Nat) (zs : List Int) (k : Int) (r : Bool) (w : World) (h : IntsAt w a zs.length zs) (ho : Ok n zs) (h1 : -1000 ≤ k) (h2 : k ≤ 1000) (hr : hasB zs (remB k n) = r) :
    Calls Try.prog 17 #[rhy n a zs.length cap, .int .i64 k] w fun e w' => e = .returned (.bool r) ∧ Below w.heap.size w w' := by
  have := beat_impl n a zs.length cap zs k w h (by have := ok_len ho; omega) (by omega) (by omega)
  rwa [beatB_yes ho, hr] at this
theorem r_str_yes (n : Nat) (a : Option Addr) (cap : Nat) (zs l : List Int) (u : Nat) (w : World) (h : IntsAt w a zs.length zs) (ho : Ok n zs) (h1 : 1 ≤ u) (h2 : (u : Int) ≤ max 1 ((n : Int) - 1)) (hg : Nat.gcd u n = 1) (hl : rotZ n zs u 0 = l) :
    Calls Try.prog 19 #[rhy n a zs.length cap, .int .i64 u] w (RetPost n l true w) := by
  have hn := ho.1.2
  refine (str_impl n a zs.length cap zs u w h (by have := ok_len ho; omega) (by omega) (by omega)).mono fun e w' h => ?_
  rw [← hl]
  exact cpost_open ⟨ho, ⟨by omega, h2⟩, by simpa using hg⟩ h
theorem r_str_no (n : Nat) (a : Option Addr) (cap : Nat) (zs : List Int) (u : Nat) (w : World) (h : IntsAt w a zs.length zs) (ho : Ok n zs) (h1 : 1 ≤ u) (h2 : (u : Int) ≤ max 1 ((n : Int) - 1)) (hg : Nat.gcd u n ≠ 1) :
    Calls Try.prog 19 #[rhy n a zs.length cap, .int .i64 u] w (RetPost 0 [] false w) := by
  have hn := ho.1.2
  exact (str_impl n a zs.length cap zs u w h (by have := ok_len ho; omega) (by omega) (by omega)).mono fun e w' h => cpost_shut (fun q => hg (by simpa using q.2.2)) h
theorem len_moved {s : Int} {zs : List Int} (ho : Ok s zs) {u k : Int} (hc : Nat.gcd u.natAbs s.natAbs = 1) : (rotZ s zs u k).length = zs.length := by
  unfold rotZ
  rw [← moved_eq ho hc, sortZ_len, mapL_len]
theorem not_len' {n : Nat} {zs : List Int} (ho : Ok n zs) : (notZ n zs).length + zs.length = n := not_len ho
theorem not_not' {n : Nat} {zs : List Int} (ho : Ok n zs) : notZ n (notZ n zs) = zs := not_not ho
theorem not_ok' {n : Nat} {zs : List Int} (ho : Ok n zs) : Ok n (notZ n zs) := not_ok ho
theorem rot_back {n : Int} {zs : List Int} (ho : Ok n zs) (k : Int) : rotZ n (rotZ n zs 1 k) 1 (-k) = zs := by
  rw [rot_rot ho, show k + -k = 0 by omega, rot_zero ho]
theorem mir_back {n : Int} {zs : List Int} (ho : Ok n zs) : rotZ n (rotZ n zs (-1) 0) (-1) 0 = zs := by
  rw [mir_mir ho, show (0 : Int) - 0 = 0 by omega, rot_zero ho]
end Go.Proofs.Ytjgjcppkbfojpaa.Rhy

/-
  Helpers of the claims beside this text: forbidden intervals at valid arguments: what the program answers, in the words that the law wants.
-/
namespace Go.Proofs.Ytjgjcppkbfojpaa.Rhy
open Go.RowKit
set_option linter.unusedVariables false
set_option linter.unusedSimpArgs false

theorem v_gcd (a b d : Nat) (w : World) (ha : a ≤ 1000) (hb : b ≤ 1000) (hd : Nat.gcd a b = d) :
    Calls Try.prog 20 #[.int .i64 a, .int .i64 b] w fun e w' => e = .returned (.int .i64 (d : Nat)) ∧ Below w.heap.size w w' := by
  subst hd
  go_enter Try.func20, Try.ntmps20
  go_wp2
  go_loop [0, 1] (fun x y => ∃ p q : Nat, p ≤ 1000 ∧ q ≤ 1000 ∧ x = .int .i64 p ∧ y = .int .i64 q ∧ Hid (Nat.gcd p q = Nat.gcd a b)) (fun _ y => (intOf y).toNat)
  case atStart => exact ⟨a, b, ha, hb, rfl, rfl, Lib.hid rfl⟩
  case round =>
    obtain ⟨p, q, hp, hq, rfl, rfl, HG⟩ := hrel
    by_cases h0 : 0 < q
    · have HM : Hid (Nat.gcd q (p % q) = Nat.gcd a b) := Lib.hid (by rw [← HG.out, Nat.gcd_comm q (p % q), ← Nat.gcd_rec, Nat.gcd_comm])
      have HL := Lib.hid (Nat.mod_lt p h0)
      go_wp2
      go_round
      case rel => exact ⟨q, p % q, by omega, by have := HL.out; omega, rfl, by simp, HM⟩
      case measure => have := HL.out; simp [intOf]; omega
    · have e : q = 0 := by omega
      subst e
      go_wp2
      go_ret
      exact ⟨ret_int (by rw [← HG.out]; simp), Below.refl _ _⟩
theorem v_lhas (a : Option Addr) (len cap : Nat) (zs : List Int) (x : Int) (r : Bool) (w : World) (h : IntsAt w a len zs) (hm : len ≤ 1048576) (hr : hasB zs x = r) :
    Calls Try.prog 33 #[.slice a len cap, .int .i64 x] w fun e w' => e = .returned (.bool r) ∧ Below w.heap.size w w' := by
  subst hr
  have HS := Lib.hid h
  clear h
  go_enter Try.func33, Try.ntmps33
  go_wp2
  go_loop [9] (fun i => ∃ (k : Nat), k ≤ len ∧ i = .int .i64 k ∧ Hid (∀ j, j < k → zs[j]? ≠ some x)) (fun i => len - (intOf i).toNat)
  case atStart => exact ⟨0, by omega, rfl, Lib.hid (fun j hj => by omega)⟩
  case round =>
    obtain ⟨k, hk, rfl, HN⟩ := hrel
    by_cases hlt : k < len
    · obtain ⟨b, off, z, rfl, hb, hs, hc, hz1, hz2⟩ := HS.out.at hlt
      by_cases he : z = x
      · have HB := Lib.hid (has_of zs x k (by rw [← he]; exact hs))
        have hq : (z == x) = true := by simpa using he
        clear he hs
        go_wp2
        go_ret
        exact ⟨ret_bool HB.out.symm, Below.refl _ _⟩
      · have HM : Hid (∀ j, j < k + 1 → zs[j]? ≠ some x) := Lib.hid (fun j hj => by
          by_cases e : j = k
          · rw [e, hs]; exact fun q => he (Option.some.inj q)
          · exact HN.out j (by omega))
        have hq : (z == x) = false := by simpa using he
        clear he hs
        go_wp2
        go_round
        case rel => exact ⟨k + 1, by omega, by go_num, HM⟩
        case measure => simp [intOf]; omega
    · have HB := Lib.hid (has_not zs x (fun j hj => HN.out j (by have := HS.out.1; omega)))
      go_wp2
      go_ret
      exact ⟨ret_bool HB.out.symm, Below.refl _ _⟩

theorem v_difs (n : Nat) (a : Option Addr) (cap : Nat) (zs l : List Int) (w : World) (h : IntsAt w a zs.length zs) (ho : Ok n zs) (hl : difZ n zs = l) :
    Calls Try.prog 40 #[rhy n a zs.length cap] w fun e w' => ∃ b c, e = .returned (.slice b n c) ∧ IntsAt w' b n l ∧ Below w.heap.size w w' := by
  refine (difs_impl n a zs.length cap zs w h (by have := ok_len ho; omega)).mono ?_
  rintro e w' ⟨b, c, rfl, ho', hb⟩
  have hi := intsAt_own ho' (difB_int n zs)
  have e1 : difB n zs = l := by unfold difB; rw [cZ_yes ho, hl]
  have e2 : l.length = n := by rw [← hl, difZ_len]; omega
  rw [e1, e2] at hi
  rw [e1, e2]
  exact ⟨b, c, rfl, hi, hb⟩
theorem v_join (n : Nat) (a : Option Addr) (ca : Nat) (xs : List Int) (b : Option Addr) (cb : Nat) (ys l : List Int) (w : World) (ha : IntsAt w a xs.length xs) (hb : IntsAt w b ys.length ys) (hx : Ok n xs) (hy : Ok n ys) (hl : ofZ n (xs ++ ys) = l) :
    Calls Try.prog 18 #[rhy n a xs.length ca, rhy n b ys.length cb] w (RetPost n l true w) := by
  refine (join_impl n a xs.length ca xs n b ys.length cb ys w ha (by have := ok_len hx; omega) hb (by have := ok_len hy; omega)).mono fun e w' h => ?_
  rw [← hl]
  exact cpost_open ⟨hx, hy, rfl⟩ h
theorem v_cir (n d g : Nat) (w : World) (hn : 2 ≤ n ∧ n ≤ 24) (hd : 1 ≤ d ∧ d < n) (hg : Nat.gcd n d = g) :
    Calls Try.prog 32 #[.int .i64 n, .int .i64 d] w fun e w' => ∃ (av : Option Addr) (cv : Nat) (L : List Lit), e = .returned (.slice av g cv) ∧ L.length = g ∧ LitsAt w' (.slice av g cv) L ∧ valsL L = cirsZ n d ∧ Below w.heap.size w w' := by
  refine (cir_impl n d w (by omega) (by omega) (by omega) (by omega)).mono ?_
  rintro e w' ⟨a, c, L, rfl, hli, hv, hb⟩
  rw [cirB_yes (n := n) (d := d) ⟨⟨by omega, by omega⟩, by omega⟩, Int.toNat_natCast, Int.toNat_natCast] at hli hv ⊢
  have e1 : (cirsZ n d).length = g := by rw [cirsZ_len, hg]
  rw [e1] at hli ⊢
  refine ⟨a, c, L, rfl, by rw [valsL_len hv, e1], hli.at (fun i r hi => ?_), hv, hb⟩
  have h1 := List.mem_of_getElem? (valsL_at hv hi)
  unfold cirsZ at h1
  rw [List.mem_map] at h1
  obtain ⟨p, _, h2⟩ := h1
  rw [← h2]
  exact cirZ_int ⟨by omega, by omega⟩
theorem lit_at {n d g k : Nat} {L : List Lit} {r : Lit} (hv : valsL L = cirsZ n d) (hg : Nat.gcd n d = g) (hk : k < g) (hr : L[k]? = some r) : r.zs = cirZ n d k := by
  have h1 := valsL_at hv hr
  rw [cirsZ_at (by omega)] at h1
  exact (Option.some.inj h1).symm
theorem v_most (n d m : Nat) (w : World) (hn : 2 ≤ n ∧ n ≤ 24) (hd : 1 ≤ d ∧ d < n) (hm : mostN n d = m) :
    Calls Try.prog 34 #[.int .i64 n, .int .i64 d] w fun e w' => e = .returned (.int .i64 (m : Nat)) ∧ Below w.heap.size w w' := by
  have h := mostav_impl n d w (by omega) (by omega) (by omega) (by omega)
  rwa [moaB_yes (n := n) (d := d) ⟨⟨by omega, by omega⟩, by omega⟩, Int.toNat_natCast, Int.toNat_natCast, hm] at h
theorem v_coa (n d k c : Nat) (w : World) (hn : 2 ≤ n ∧ n ≤ 16) (hd : 1 ≤ d ∧ d < n) (hk : k ≤ n) (hc : cntF n d k = c) :
    Calls Try.prog 36 #[.int .i64 n, .int .i64 d, .int .i64 k] w fun e w' => e = .returned (.int .i64 (c : Nat)) ∧ Below w.heap.size w w' := by
  have h := coa_impl n d k w (by omega) (by omega) (by omega) (by omega) (by omega) (by omega)
  rwa [coaB_yes (n := n) (d := d) (k := k) ⟨⟨by omega, by omega⟩, ⟨by omega, by omega⟩, ⟨by omega, by omega⟩⟩, Int.toNat_natCast, Int.toNat_natCast, Int.toNat_natCast, hc] at h
theorem v_fi_yes (n d k : Nat) (l : List Int) (w : World) (hn : n ≤ 24) (hd : d ≤ 24) (hk : k ≤ 24) (h : fiC n d k) (hl : fiZ n d k = l) :
    Calls Try.prog 35 #[.int .i64 n, .int .i64 d, .int .i64 k] w (RetPost n l true w) := by
  subst hl
  exact (first_impl n d k w (by omega) (by omega) (by omega) (by omega) (by omega) (by omega)).mono fun e w' q => cpost_open h q
theorem v_fi_no (n d k : Nat) (w : World) (hn : n ≤ 24) (hd : d ≤ 24) (hk : k ≤ 24) (h : ¬ fiC n d k) :
    Calls Try.prog 35 #[.int .i64 n, .int .i64 d, .int .i64 k] w (RetPost 0 [] false w) :=
  (first_impl n d k w (by omega) (by omega) (by omega) (by omega) (by omega) (by omega)).mono fun e w' q => cpost_shut h q
theorem v_free (n d : Nat) (a : Option Addr) (cap : Nat) (zs l : List Int) (m : Nat) (w : World) (h : IntsAt w a zs.length zs) (ho : Ok n zs) (hd : 1 ≤ d ∧ d < n) (ha : avC n zs d) (hl : frP n zs d n = l) (hm : l.length = m) :
    Calls Try.prog 37 #[rhy n a zs.length cap, .int .i64 d] w fun e w' => ∃ b c, e = .returned (.slice b m c) ∧ IntsAt w' b m l ∧ Below w.heap.size w w' := by
  have hn := ho.1
  have hfl : l.length ≤ n := by rw [← hl]; exact frP_len _ _ _ _
  refine (free_impl n a zs.length cap zs d w h (by have := ok_len ho; omega) (by omega) (by omega)).mono ?_
  rintro e w' ⟨b, c, rfl, hown, hb⟩
  have e1 : frB n zs d = l := by unfold frB; rw [cZ_yes ⟨ho, ⟨by omega, by omega⟩, ha⟩, Int.toNat_natCast, hl]
  rw [e1] at hown ⊢
  rw [hm] at hown ⊢
  refine ⟨b, c, rfl, ints_own' hm hown (fun z hz => ?_), hb⟩
  rw [← hl] at hz
  have := (frP_mem.1 hz).1
  omega
theorem v_avi (n d : Nat) (a : Option Addr) (cap : Nat) (zs : List Int) (w : World) (h : IntsAt w a zs.length zs) (ho : Ok n zs) (hd : 1 ≤ d ∧ d < n) (ha : avC n zs d) :
    Calls Try.prog 38 #[rhy n a zs.length cap, .int .i64 d] w fun e w' => e = .returned (.bool true) ∧ Below w.heap.size w w' := by
  have hn := ho.1
  have := avi_impl n a zs.length cap zs d w h (by have := ok_len ho; omega) (by omega) (by omega)
  rwa [aviB_yes ⟨ho, ⟨by omega, by omega⟩, ha⟩] at this
theorem v_avi2 (n d : Nat) (a : Option Addr) (cap : Nat) (zs : List Int) (q : Bool) (w : World) (h : IntsAt w a zs.length zs) (ho : Ok n zs) (hd : 1 ≤ d ∧ d < n) (hq : (((difAt n zs d : Nat) : Int) == 0) = q) :
    Calls Try.prog 38 #[rhy n a zs.length cap, .int .i64 d] w fun e w' => e = .returned (.bool q) ∧ Below w.heap.size w w' := by
  have hn := ho.1
  have h1 := avi_impl n a zs.length cap zs d w h (by have := ok_len ho; omega) (by omega) (by omega)
  have e1 : aviB n zs d = q := by
    rw [← hq]
    by_cases h0 : avC n zs d
    · rw [aviB_yes ⟨ho, ⟨by omega, by omega⟩, h0⟩, (dif_none ho hd).1 h0]; rfl
    · rw [aviB_no (fun x => h0 x.2.2)]
      symm
      rw [beq_eq_false_iff_ne]
      intro hx
      exact h0 ((dif_none ho hd).2 (by omega))
  rwa [e1] at h1
theorem v_odd (n : Nat) (a : Option Addr) (cap : Nat) (zs : List Int) (q : Bool) (w : World) (h : IntsAt w a zs.length zs) (ho : Ok n zs) (hq : oddB n zs = q) :
    Calls Try.prog 41 #[rhy n a zs.length cap] w fun e w' => e = .returned (.bool q) ∧ Below w.heap.size w w' := by
  have := odd_impl n a zs.length cap zs w h (by have := ok_len ho; omega)
  rwa [hq] at this
theorem v_opp (n m : Nat) (a : Option Addr) (cap : Nat) (zs : List Int) (w : World) (h : IntsAt w a zs.length zs) (ho : Ok n zs) (he : n % 2 = 0) (hm : (opP n zs (n / 2)).length = m) :
    Calls Try.prog 42 #[rhy n a zs.length cap] w fun e w' => ∃ b c, e = .returned (.slice b m c) ∧ Below w.heap.size w w' := by
  refine (opp_impl n a zs.length cap zs w h (by have := ok_len ho; omega)).mono ?_
  rintro e w' ⟨b, c, rfl, hown, hb⟩
  have e1 : opB n zs = opP n zs (n / 2) := by unfold opB; rw [cZ_yes ⟨ho, by omega⟩, Int.toNat_natCast]
  rw [e1, hm]
  exact ⟨b, c, rfl, hb⟩
/-- The piece of a code that bears a number. -/
def rgAt (n : Nat) : Code → Option Code
  | .region i ops d => if i = n then some (.region i ops d) else none
  | .seq a b => match rgAt n a with
    | some c => some c
    | none => rgAt n b
  | .cond _ a b => match rgAt n a with
    | some c => some c
    | none => rgAt n b
  | .block _ b => rgAt n b
  | .loop b => rgAt n b
  | _ => none
def rgOf (f : Func) (n : Nat) : Code := ((f.body.bind (rgAt n)).getD .skip)
theorem wp_code {P : Program} {c c' : Code} {Q : Exit → Act → World → Prop} {a : Act} {w : World} (h : c' = c) (hw : Code.wp P c' Q a w) : Code.wp P c Q a w := h ▸ hw
end Go.Proofs.Ytjgjcppkbfojpaa.Rhy
