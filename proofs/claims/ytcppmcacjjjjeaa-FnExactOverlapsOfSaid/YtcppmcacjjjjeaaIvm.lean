/-
  Helpers of the claims beside this text: plain mathematics: the vector of a rhythm is half of its differences; forms have one vector; twins of the other pulses.
-/
import Derived.Test.YtcppmcacjjjjeaaIvl
import Derived.Test.YtcppmcacjjjjeaaRtc
namespace Go.Proofs.Ytcppmcacjjjjeaa.Rhy
set_option linter.unusedVariables false

theorem sum_sym (h : Nat) (g : Nat → Nat) (c : Nat) (hs : ∀ i, i < h → g (h + c + i) = g (h - 1 - i)) : ((List.range h).map fun i => g (h + c + i)).sum = ((List.range h).map g).sum := by
  have e : ((List.range h).map fun i => g (h + c + i)) = ((List.range h).map g).reverse := by
    apply List.ext_getElem
    · simp
    · intro i h1 h2
      simp only [List.length_map, List.length_range] at h1
      simp only [List.getElem_map, List.getElem_range, List.getElem_reverse, List.length_map, List.length_range]
      exact hs i h1
  rw [e, List.sum_reverse]
theorem sum_range_add (a b : Nat) (g : Nat → Nat) : ((List.range (a + b)).map g).sum = ((List.range a).map g).sum + ((List.range b).map fun i => g (a + i)).sum := by
  rw [List.range_add, List.map_append, List.sum_append, List.map_map]
  rfl
theorem sq_par (k : Nat) : (k * k) % 2 = k % 2 := by
  rw [Nat.mul_mod]
  rcases Nat.mod_two_eq_zero_or_one k with h | h <;> rw [h]
theorem dif_sum' {n : Int} {zs : List Int} (ho : Ok n zs) {M : Nat} (hM : n.toNat = M + 1) : zs.length * zs.length = zs.length + ((List.range M).map fun i => difAt n zs ((i + 1 : Nat) : Int)).sum := by
  have h := dif_sum ho
  rw [hM, Nat.add_comm M 1, sum_range_add] at h
  rw [← h]
  congr 1
  · have : difAt n zs ((0 : Nat) : Int) = zs.length := dif_zero ho
    simp only [List.range_one, List.map_cons, List.map_nil, List.sum_cons, List.sum_nil, this, Nat.add_zero]
  · congr 1
    refine List.map_congr_left fun i _ => ?_
    rw [Nat.add_comm]
theorem dif_nat_sub {n : Int} {zs : List Int} (ho : Ok n zs) {i j : Nat} (h : i + j = n.toNat) : difAt n zs (i : Int) = difAt n zs (j : Int) := by
  have e : (i : Int) = n - j := by have := ho.1; omega
  rw [e, dif_sub ho]
/-- Twice the sum up to the half, and the middle. -/
theorem dif_half {n : Int} {zs : List Int} (ho : Ok n zs) :
    (∀ h, n.toNat = 2 * h + 1 → zs.length * zs.length = zs.length + 2 * ((List.range h).map fun i => difAt n zs ((i + 1 : Nat) : Int)).sum) ∧
    (∀ h, n.toNat = 2 * h + 2 → zs.length * zs.length = zs.length + 2 * ((List.range h).map fun i => difAt n zs ((i + 1 : Nat) : Int)).sum + difAt n zs ((h + 1 : Nat) : Int)) := by
  constructor
  · intro h hn
    rw [dif_sum' ho (M := h + h) (by omega), sum_range_add]
    have := sum_sym h (fun i => difAt n zs ((i + 1 : Nat) : Int)) 0 (fun i hi => dif_nat_sub ho (by omega))
    simp only [Nat.add_zero] at this
    rw [this]
    omega
  · intro h hn
    rw [dif_sum' ho (M := h + (1 + h)) (by omega), sum_range_add, sum_range_add]
    have := sum_sym h (fun i => difAt n zs ((i + 1 : Nat) : Int)) 1 (fun i hi => dif_nat_sub ho (by omega))
    simp only [← Nat.add_assoc]
    rw [this]
    simp only [List.range_one, List.map_cons, List.map_nil, List.sum_cons, List.sum_nil, Nat.add_zero]
    omega
theorem mid_even {n : Int} {zs : List Int} (ho : Ok n zs) {h : Nat} (hn : n.toNat = 2 * h + 2) : difAt n zs ((h + 1 : Nat) : Int) % 2 = 0 := by
  have h1 := (dif_half ho).2 h hn
  have h2 := sq_par zs.length
  omega
theorem vec_sum {n : Int} {zs : List Int} (ho : Ok n zs) : 2 * (vecZ n zs).sum = ((zs.length * zs.length : Nat) : Int) - (zs.length : Int) := by
  rcases Nat.mod_two_eq_zero_or_one n.toNat with hp | hp
  · obtain ⟨h, hn⟩ : ∃ h, n.toNat = 2 * h + 2 := ⟨n.toNat / 2 - 1, by have := ho.1; omega⟩
    have h1 := (dif_half ho).2 h hn
    have h2 := mid_even ho hn
    have e : vecZ n zs = ((List.range h).map fun i => ((difAt n zs ((i + 1 : Nat) : Int) : Nat) : Int)) ++ [((difAt n zs ((h + 1 : Nat) : Int) / 2 : Nat) : Int)] := by
      unfold vecZ
      rw [show n.toNat / 2 = h + 1 by omega, List.range_succ, List.map_append]
      congr 1
      · refine List.map_congr_left fun i hi => ?_
        rw [List.mem_range] at hi
        rw [if_neg (by omega)]
      · simp only [List.map_cons, List.map_nil]
        rw [if_pos (by omega)]
    rw [e, List.sum_append, cast_sum]
    simp only [List.sum_cons, List.sum_nil]
    omega
  · obtain ⟨h, hn⟩ : ∃ h, n.toNat = 2 * h + 1 := ⟨n.toNat / 2, by omega⟩
    have h1 := (dif_half ho).1 h hn
    have e : vecZ n zs = (List.range h).map fun i => ((difAt n zs ((i + 1 : Nat) : Int) : Nat) : Int) := by
      unfold vecZ
      rw [show n.toNat / 2 = h by omega]
      refine List.map_congr_left fun i hi => ?_
      rw [if_neg (by omega)]
    rw [e, cast_sum]
    omega
theorem vec_len (n : Int) (zs : List Int) : (vecZ n zs).length = n.toNat / 2 := by simp [vecZ]
theorem difZ_len (n : Int) (zs : List Int) : (difZ n zs).length = n.toNat := by simp [difZ]
theorem difZ_at {n : Int} {zs : List Int} {i : Nat} (h : i < n.toNat) : (difZ n zs)[i]? = some ((difAt n zs (i : Int) : Nat) : Int) := by simp [difZ, h]
theorem vec_of_dif {n : Int} {xs ys : List Int} (h : ∀ i, difAt n xs i = difAt n ys i) : vecZ n xs = vecZ n ys := by
  unfold vecZ
  simp only [h]
theorem vec_at {n : Int} {zs : List Int} {j : Nat} (h : j < n.toNat / 2) : (vecZ n zs)[j]? = some (if 2 * (j + 1) = n.toNat then ((difAt n zs ((j + 1 : Nat) : Int) / 2 : Nat) : Int) else ((difAt n zs ((j + 1 : Nat) : Int) : Nat) : Int)) := by simp [vecZ, h]
theorem dif_of_vec {n : Int} {xs ys : List Int} (hx : Ok n xs) (hy : Ok n ys) (hl : xs.length = ys.length) (hv : vecZ n xs = vecZ n ys) (i : Int) : difAt n xs i = difAt n ys i := by
  have key : ∀ j : Nat, j + 1 ≤ n.toNat / 2 → difAt n xs ((j + 1 : Nat) : Int) = difAt n ys ((j + 1 : Nat) : Int) := by
    intro j hj
    have h1 := vec_at (zs := xs) (show j < n.toNat / 2 by omega)
    have h2 := vec_at (zs := ys) (show j < n.toNat / 2 by omega)
    rw [hv, h2] at h1
    have h3 := Option.some.inj h1
    by_cases q : 2 * (j + 1) = n.toNat
    · rw [if_pos q, if_pos q] at h3
      have e1 := mid_even hx (h := j) (by omega)
      have e2 := mid_even hy (h := j) (by omega)
      omega
    · rw [if_neg q, if_neg q] at h3
      omega
  have hb := em_bd i hx.1.1
  rw [← dif_mod hx i, ← dif_mod hy i]
  obtain ⟨m, hm⟩ : ∃ m : Nat, i % n = m := ⟨(i % n).toNat, by omega⟩
  rw [hm] at hb ⊢
  by_cases h0 : m = 0
  · subst h0
    have e1 : difAt n xs ((0 : Nat) : Int) = xs.length := dif_zero hx
    have e2 : difAt n ys ((0 : Nat) : Int) = ys.length := dif_zero hy
    rw [e1, e2, hl]
  · by_cases h1 : m ≤ n.toNat / 2
    · have := key (m - 1) (by omega)
      rwa [show m - 1 + 1 = m by omega] at this
    · rw [dif_nat_sub hx (j := n.toNat - m) (by omega), dif_nat_sub hy (j := n.toNat - m) (by omega)]
      have := key (n.toNat - m - 1) (by omega)
      rwa [show n.toNat - m - 1 + 1 = n.toNat - m by omega] at this

/-! forms -/
def Form (n : Int) (xs ys : List Int) : Prop := (∃ k, rotZ n xs 1 k = ys) ∨ ∃ k, rotZ n xs (-1) k = ys
theorem form_symm {n : Int} {xs ys : List Int} (hx : Ok n xs) (h : Form n xs ys) : Form n ys xs := by
  rcases h with ⟨k, rfl⟩ | ⟨k, rfl⟩
  · exact .inl ⟨-k, by rw [rot_rot hx, show k + -k = 0 by omega, rot_zero hx]⟩
  · exact .inr ⟨k, by rw [mir_mir hx, show k - k = 0 by omega, rot_zero hx]⟩
theorem form_dif {n : Int} {xs ys : List Int} (hx : Ok n xs) (h : Form n xs ys) (i : Int) : difAt n xs i = difAt n ys i := by
  rcases h with ⟨k, rfl⟩ | ⟨k, rfl⟩
  · rw [dif_rot hx]
  · rw [dif_mir hx]
theorem form_vec {n : Int} {xs ys : List Int} (hx : Ok n xs) (h : Form n xs ys) : vecZ n xs = vecZ n ys := vec_of_dif (form_dif hx h)
theorem form_not {n : Nat} {xs ys : List Int} (hx : Ok n xs) (hy : Ok n ys) : Form n (notZ n xs) (notZ n ys) ↔ Form n xs ys := by
  have key : ∀ {a b : List Int}, Ok n a → Form n a b → Form n (notZ n a) (notZ n b) := by
    intro a b ha h
    rcases h with ⟨k, rfl⟩ | ⟨k, rfl⟩
    · exact .inl ⟨k, not_rot ha k⟩
    · exact .inr ⟨k, not_mir ha k⟩
  refine ⟨fun h => ?_, key hx⟩
  have := key (show Ok n (notZ n xs) from not_ok hx) h
  have e1 : notZ n (notZ n xs) = xs := not_not hx
  have e2 : notZ n (notZ n ys) = ys := not_not hy
  rwa [e1, e2] at this
theorem afor_form {n : Nat} {xs ys : List Int} (hx : Ok n xs) (hy : Ok n ys) : aforB n xs n ys = true ↔ Form n xs ys := by
  have arot : ∀ {a b : List Int}, Ok n a → Ok n b → (arotB n a n b = true ↔ ∃ k : Int, rotZ n a 1 k = b) := by
    intro a b ha hb
    unfold arotB
    rw [rotToB_yes ha hb]
    unfold rotToW
    rw [if_pos rfl, decide_eq_true_iff]
    exact rotTo_iff ha
  have hm : Ok n (rotZ n xs (-1) 0) := rot_ok hx.1 _ _
  unfold aforB
  rw [okB_yes hx, Bool.true_and, Bool.or_eq_true, arot hx hy, arot hm hy]
  unfold Form
  constructor
  · rintro (h | ⟨k, h⟩)
    · exact .inl h
    · exact .inr ⟨0 + k, by rw [← rot_mir hx]; exact h⟩
  · rintro (h | ⟨k, h⟩)
    · exact .inl h
    · exact .inr ⟨k, by rw [rot_mir hx, Int.zero_add]; exact h⟩
theorem not_vec {n : Nat} {xs ys : List Int} (hx : Ok n xs) (hy : Ok n ys) (hl : xs.length = ys.length) (hv : vecZ n xs = vecZ n ys) : vecZ n (notZ n xs) = vecZ n (notZ n ys) := by
  refine vec_of_dif fun i => ?_
  have h1 := dif_not hx i
  have h2 := dif_not hy i
  have h3 := dif_of_vec hx hy hl hv i
  omega
/-- Half of the pulses: the other ones have the same differences. -/
theorem half_vec {n : Nat} {zs : List Int} (ho : Ok n zs) (h : 2 * zs.length = n) : vecZ n (notZ n zs) = vecZ n zs := by
  refine vec_of_dif fun i => ?_
  have := dif_not ho i
  omega
def flatZ (n : Int) (zs : List Int) : Prop := ∀ i : Nat, 2 ≤ i → i < n.toNat → difAt n zs (i : Int) = difAt n zs 1
theorem flat_not {n : Nat} {zs : List Int} (ho : Ok n zs) : flatZ n (notZ n zs) ↔ flatZ n zs := by
  unfold flatZ
  have h1 := dif_not ho 1
  constructor
  · intro h i h2 h3
    have := dif_not ho (i : Int)
    have := h i h2 h3
    omega
  · intro h i h2 h3
    have := dif_not ho (i : Int)
    have := h i h2 h3
    omega
theorem str_mir {n : Int} {zs : List Int} (ho : Ok n zs) : rotZ n zs (n - 1) 0 = rotZ n zs (-1) 0 := by
  unfold rotZ
  congr 1
  unfold mapL
  refine List.map_congr_left fun p _ => ?_
  unfold remB
  have e : (n - 1) * p + 0 = -1 * p + 0 + n * p := by rw [Int.sub_mul]; omega
  rw [e, Int.add_mul_emod_self_left]
end Go.Proofs.Ytcppmcacjjjjeaa.Rhy
