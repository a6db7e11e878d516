/-
  Helpers of the claims beside this text: plain mathematics: common beats, differences of beats, the vector of a rhythm.
-/
import Derived.Test.YtgmhdmhnedljcaaRot
import Derived.Test.YtgmhdmhnedljcaaFma
namespace Go.Proofs.Ytgmhdmhnedljcaa.Rhy
set_option linter.unusedVariables false

/-- How many numbers of a list are in another one. -/
def comZ (xs ys : List Int) : Nat := (xs.filter fun x => ys.contains x).length
/-- How many pairs of beats are i apart. -/
def difAt (n : Int) (zs : List Int) (i : Int) : Nat := comZ zs (rotZ n zs 1 i)
def difZ (n : Int) (zs : List Int) : List Int := (List.range n.toNat).map fun i => ((difAt n zs ((i : Nat) : Int) : Nat) : Int)
def vecZ (n : Int) (zs : List Int) : List Int := (List.range (n.toNat / 2)).map fun j => if 2 * (j + 1) = n.toNat then ((difAt n zs ((j + 1 : Nat) : Int) / 2 : Nat) : Int) else ((difAt n zs ((j + 1 : Nat) : Int) : Nat) : Int)
def resL (n : Int) (zs : List Int) : List Int := zs.flatMap fun p => zs.map fun q => remB (p - q) n
def cntZ (m : Nat) (l : List Int) : List Int := (List.range m).map fun k => ((l.count ((k : Nat) : Int) : Nat) : Int)

theorem inter_ok {n : Int} {xs : List Int} (hx : Ok n xs) (p : Int → Bool) : Ok n (xs.filter p) :=
  ok_of hx.1.1 hx.1.2 ((ok_sorted hx).filter _) fun z hz => ok_range hx z (List.mem_filter.1 hz).1
theorem com_comm {n : Int} {xs ys : List Int} (hx : Ok n xs) (hy : Ok n ys) : comZ xs ys = comZ ys xs := by
  unfold comZ
  congr 1
  refine ok_ext (inter_ok hx _) (inter_ok hy _) fun x _ => ?_
  simp [List.mem_filter, and_comm]
theorem unit_len {n : Int} {zs : List Int} (ho : Ok n zs) (k : Int) : (rotZ n zs 1 k).length = zs.length := by
  unfold rotZ
  rw [← moved_eq ho (gcd_one _), sortZ_len, mapL_len]
theorem mir_len {n : Int} {zs : List Int} (ho : Ok n zs) (k : Int) : (rotZ n zs (-1) k).length = zs.length := by
  unfold rotZ
  rw [← moved_eq ho (gcd_mone _), sortZ_len, mapL_len]
theorem com_rot {n : Int} {xs ys : List Int} (hx : Ok n xs) (hy : Ok n ys) (k : Int) : comZ (rotZ n xs 1 k) (rotZ n ys 1 k) = comZ xs ys := by
  have e : (rotZ n xs 1 k).filter (fun x => (rotZ n ys 1 k).contains x) = rotZ n (xs.filter fun x => ys.contains x) 1 k := by
    refine ok_ext (inter_ok (rot_ok hx.1 _ _) _) (rot_ok hx.1 _ _) fun x h => ?_
    rw [rot_mem (inter_ok hx _), List.mem_filter, List.mem_filter, rot_mem hx, List.contains_iff_mem, List.contains_iff_mem, rot_mem hy]
    exact ⟨fun q => ⟨h, q.1.2, q.2.2⟩, fun q => ⟨⟨h, q.2.1⟩, h, q.2.2⟩⟩
  unfold comZ
  rw [e, unit_len (inter_ok hx _)]
theorem com_mir {n : Int} {xs ys : List Int} (hx : Ok n xs) (hy : Ok n ys) (k : Int) : comZ (rotZ n xs (-1) k) (rotZ n ys (-1) k) = comZ xs ys := by
  have e : (rotZ n xs (-1) k).filter (fun x => (rotZ n ys (-1) k).contains x) = rotZ n (xs.filter fun x => ys.contains x) (-1) k := by
    refine ok_ext (inter_ok (rot_ok hx.1 _ _) _) (rot_ok hx.1 _ _) fun x h => ?_
    rw [mir_mem (inter_ok hx _), List.mem_filter, List.mem_filter, mir_mem hx, List.contains_iff_mem, List.contains_iff_mem, mir_mem hy]
    exact ⟨fun q => ⟨h, q.1.2, q.2.2⟩, fun q => ⟨⟨h, q.2.1⟩, h, q.2.2⟩⟩
  unfold comZ
  rw [e, mir_len (inter_ok hx _)]
theorem com_le (xs ys : List Int) : comZ xs ys ≤ xs.length := List.length_filter_le _ _
theorem com_self (xs : List Int) : comZ xs xs = xs.length := by
  unfold comZ
  rw [List.filter_eq_self.2 (fun x hx => by simpa using hx)]

theorem dif_zero {n : Int} {zs : List Int} (ho : Ok n zs) : difAt n zs 0 = zs.length := by
  unfold difAt
  rw [rot_zero ho, com_self]
theorem dif_rot {n : Int} {zs : List Int} (ho : Ok n zs) (i j : Int) : difAt n (rotZ n zs 1 j) i = difAt n zs i := by
  unfold difAt
  rw [rot_rot ho, Int.add_comm, ← rot_rot ho, com_rot ho (rot_ok ho.1 _ _)]
theorem dif_neg {n : Int} {zs : List Int} (ho : Ok n zs) (i : Int) : difAt n zs (-i) = difAt n zs i := by
  have h := com_rot ho (rot_ok ho.1 1 (-i) (zs := zs)) i
  rw [rot_rot ho, show -i + i = 0 by omega, rot_zero ho] at h
  unfold difAt
  rw [← h, com_comm (rot_ok ho.1 _ _) ho]
theorem dif_mod {n : Int} {zs : List Int} (ho : Ok n zs) (i : Int) : difAt n zs (i % n) = difAt n zs i := by
  unfold difAt
  rw [rot_mod ho]
theorem dif_sub {n : Int} {zs : List Int} (ho : Ok n zs) (i : Int) : difAt n zs (n - i) = difAt n zs i := by
  rw [← dif_mod ho, Int.sub_emod, Int.emod_self, Int.zero_sub, ← dif_neg ho i]
  have h : (-(i % n)) % n = (-i) % n := by rw [← Int.zero_sub, sub_em, Int.zero_sub]
  rw [h, dif_mod ho]
theorem dif_mir {n : Int} {zs : List Int} (ho : Ok n zs) (i j : Int) : difAt n (rotZ n zs (-1) j) i = difAt n zs i := by
  have h := com_mir ho (rot_ok ho.1 1 (-i) (zs := zs)) j
  rw [mir_rot ho, show j - -i = j + i by omega] at h
  have h2 := dif_neg ho i
  unfold difAt at h2 ⊢
  rw [rot_mir ho, h, h2]

/-! other pulses -/
theorem not_rot {n : Nat} {zs : List Int} (ho : Ok n zs) (k : Int) : rotZ n (notZ n zs) 1 k = notZ n (rotZ n zs 1 k) := by
  have ho' : Ok n (notZ n zs) := not_ok ho
  refine ok_ext (rot_ok ho.1 _ _) (not_ok (rot_ok ho.1 _ _)) fun x hx => ?_
  rw [rot_mem ho', not_mem, not_mem, rot_mem ho]
  have hb := em_bd (x - k) ho.1.1
  exact ⟨fun q => ⟨hx, fun q2 => q.2.2 q2.2⟩, fun q => ⟨hx, hb, fun q2 => q.2 ⟨hx, q2⟩⟩⟩
theorem not_mir {n : Nat} {zs : List Int} (ho : Ok n zs) (k : Int) : rotZ n (notZ n zs) (-1) k = notZ n (rotZ n zs (-1) k) := by
  have ho' : Ok n (notZ n zs) := not_ok ho
  refine ok_ext (rot_ok ho.1 _ _) (not_ok (rot_ok ho.1 _ _)) fun x hx => ?_
  rw [mir_mem ho', not_mem, not_mem, mir_mem ho]
  have hb := em_bd (k - x) ho.1.1
  exact ⟨fun q => ⟨hx, fun q2 => q.2.2 q2.2⟩, fun q => ⟨hx, hb, fun q2 => q.2 ⟨hx, q2⟩⟩⟩
theorem count_not {α : Type} (a b : α → Bool) (l : List α) : (l.filter fun x => !a x && !b x).length + (l.filter a).length + (l.filter b).length = (l.filter fun x => a x && b x).length + l.length := by
  induction l with
  | nil => rfl
  | cons x l ih => cases h1 : a x <;> cases h2 : b x <;> simp [h1, h2] <;> omega
theorem com_all {n : Nat} {xs ys : List Int} (hx : Ok n xs) : comZ xs ys = (((List.range n).map Int.ofNat).filter fun x => xs.contains x && ys.contains x).length := by
  have h1 : ofZ n xs = xs := ofZ_self (ok_sorted hx) (fun x hx' => ok_range hx x hx')
  have h2 : comZ xs ys = comZ (ofZ n xs) ys := by rw [h1]
  rw [h2]
  unfold comZ ofZ
  rw [List.filter_filter]
  simp only [Bool.and_comm]
theorem all_ofZ {n : Nat} {xs : List Int} (hx : Ok n xs) : (((List.range n).map Int.ofNat).filter fun x => xs.contains x).length = xs.length := by
  have h1 : ofZ n xs = xs := ofZ_self (ok_sorted hx) (fun x hx' => ok_range hx x hx')
  conv => rhs; rw [← h1]
  rfl
theorem has_not' {n : Nat} {xs : List Int} {x : Int} (h : 0 ≤ x ∧ x < n) : (notZ n xs).contains x = !xs.contains x := by
  cases hc : xs.contains x with
  | true =>
    rw [List.contains_iff_mem] at hc
    rw [Bool.not_true, ← Bool.not_eq_true, List.contains_iff_mem, not_mem]
    exact fun q => q.2 hc
  | false =>
    rw [Bool.not_false, List.contains_iff_mem, not_mem]
    exact ⟨h, by rw [← List.contains_iff_mem, hc]; simp⟩
theorem com_not {n : Nat} {xs ys : List Int} (hx : Ok n xs) (hy : Ok n ys) : comZ (notZ n xs) (notZ n ys) + xs.length + ys.length = comZ xs ys + n := by
  have h := count_not (fun x => xs.contains x) (fun x => ys.contains x) ((List.range n).map Int.ofNat)
  rw [all_ofZ hx, all_ofZ hy, ← com_all hx, List.length_map, List.length_range] at h
  rw [← h, com_all (n := n) (show Ok n (notZ n xs) from not_ok hx)]
  congr 3
  refine List.filter_congr fun x hx' => ?_
  rw [List.mem_map] at hx'
  obtain ⟨i, hi, rfl⟩ := hx'
  rw [List.mem_range] at hi
  rw [has_not' (by show 0 ≤ (i : Int) ∧ (i : Int) < n; omega), has_not' (by show 0 ≤ (i : Int) ∧ (i : Int) < n; omega)]
theorem dif_not {n : Nat} {zs : List Int} (ho : Ok n zs) (i : Int) : difAt n (notZ n zs) i + 2 * zs.length = difAt n zs i + n := by
  have h := com_not ho (rot_ok ho.1 1 i (zs := zs))
  rw [unit_len ho, ← not_rot ho] at h
  unfold difAt
  omega

/-! counting -/
theorem sum_ind {α : Type} (p : α → Bool) (l : List α) : (l.map fun x => if p x then 1 else 0).sum = (l.filter p).length := by
  induction l with
  | nil => rfl
  | cons x l ih => cases h : p x <;> simp [h, ih] <;> omega
theorem ok_nodup {n : Int} {zs : List Int} (ho : Ok n zs) : zs.Nodup := (ok_sorted ho).imp fun h => by omega
theorem count_one {l : List Int} {x : Int} (h : l.Nodup) (hx : x ∈ l) : l.count x = 1 := by
  induction l with
  | nil => cases hx
  | cons y l ih =>
    rw [List.nodup_cons] at h
    rw [List.count_cons]
    by_cases q : y = x
    · subst q
      rw [List.count_eq_zero_of_not_mem h.1]
      simp
    · have hx' : x ∈ l := by
        rcases List.mem_cons.1 hx with r | r
        · exact absurd r.symm q
        · exact r
      rw [ih h.2 hx']
      simp [q]
theorem sum_const {α : Type} (c : Nat) (l : List α) : (l.map fun _ => c).sum = l.length * c := by
  induction l with
  | nil => simp
  | cons y l ih => rw [List.map_cons, List.sum_cons, ih, List.length_cons, Nat.succ_mul]; omega
theorem count_res {n : Int} {zs : List Int} (ho : Ok n zs) {i : Int} (hi : 0 ≤ i ∧ i < n) : (resL n zs).count i = difAt n zs i := by
  unfold resL difAt comZ
  rw [List.count_flatMap, ← sum_ind]
  congr 1
  refine List.map_congr_left fun p hp => ?_
  have hpb := ok_range ho p hp
  show (zs.map fun q => remB (p - q) n).count i = _
  have e : (zs.map fun q => remB (p - q) n).count i = zs.count ((p - i) % n) := by
    rw [List.count, List.countP_map, List.count]
    refine List.countP_congr fun q hq => ?_
    have hqb := ok_range ho q hq
    simp only [Function.comp, beq_iff_eq]
    unfold remB
    constructor
    · rintro rfl
      rw [sub_em, show p - (p - q) = q by omega, em_self hqb]
    · rintro rfl
      rw [sub_em, show p - (p - i) = i by omega, em_self hi]
  rw [e]
  by_cases hm : (p - i) % n ∈ zs
  · have : (rotZ n zs 1 i).contains p = true := by rw [List.contains_iff_mem, rot_mem ho]; exact ⟨hpb, hm⟩
    rw [this, if_pos rfl]
    exact count_one (ok_nodup ho) hm
  · have : (rotZ n zs 1 i).contains p = false := by
      rw [← Bool.not_eq_true, List.contains_iff_mem, rot_mem ho]
      exact fun q => hm q.2
    rw [this, if_neg (by simp)]
    exact List.count_eq_zero_of_not_mem hm
theorem res_len (n : Int) (zs : List Int) : (resL n zs).length = zs.length * zs.length := by
  unfold resL
  rw [List.length_flatMap]
  have e : (zs.map fun p => (zs.map fun q => remB (p - q) n).length) = zs.map fun _ => zs.length := List.map_congr_left fun p _ => by simp
  rw [e, sum_const]
theorem res_range {n : Int} {zs : List Int} (h : 1 ≤ n) : ∀ x ∈ resL n zs, 0 ≤ x ∧ x < n := by
  intro x hx
  unfold resL at hx
  rw [List.mem_flatMap] at hx
  obtain ⟨p, _, hx⟩ := hx
  rw [List.mem_map] at hx
  obtain ⟨q, _, rfl⟩ := hx
  exact remB_bd _ _ (by omega)
theorem cnt_dif {n : Int} {zs : List Int} (ho : Ok n zs) : cntZ n.toNat (resL n zs) = difZ n zs := by
  unfold cntZ difZ
  refine List.map_congr_left fun i hi => ?_
  rw [List.mem_range] at hi
  rw [count_res ho (by omega)]
theorem sum_one (m : Nat) {x : Int} (h : 0 ≤ x ∧ x < m) : ((List.range m).map fun k => if x = ((k : Nat) : Int) then 1 else 0).sum = 1 := by
  induction m with
  | zero => omega
  | succ m ih =>
    rw [List.range_succ, List.map_append, List.sum_append]
    by_cases q : x = (m : Int)
    · have : ((List.range m).map fun k => if x = ((k : Nat) : Int) then 1 else 0).sum = 0 := by
        have e : ((List.range m).map fun k => if x = ((k : Nat) : Int) then 1 else 0) = (List.range m).map fun _ => 0 :=
          List.map_congr_left fun k hk => by rw [List.mem_range] at hk; rw [if_neg (by omega)]
        rw [e]
        clear e
        induction (List.range m) with
        | nil => rfl
        | cons y l ih => simpa using ih
      rw [this]
      simp [q]
    · rw [ih (by omega)]
      simp [q]
theorem sum_add {α : Type} (f g : α → Nat) (l : List α) : (l.map fun x => f x + g x).sum = (l.map f).sum + (l.map g).sum := by
  induction l with
  | nil => rfl
  | cons x l ih => simp [ih]; omega
theorem sum_count (m : Nat) (l : List Int) (h : ∀ x ∈ l, 0 ≤ x ∧ x < m) : ((List.range m).map fun k => l.count ((k : Nat) : Int)).sum = l.length := by
  induction l with
  | nil =>
    simp
    induction (List.range m) with
    | nil => rfl
    | cons y l ih => simpa using ih
  | cons x l ih =>
    have h1 := ih fun y hy => h y (List.mem_cons_of_mem _ hy)
    have h2 := sum_one m (h x List.mem_cons_self)
    have e : ((List.range m).map fun k => (x :: l).count ((k : Nat) : Int)) = (List.range m).map fun k => l.count ((k : Nat) : Int) + if x = (k : Int) then 1 else 0 :=
      List.map_congr_left fun k _ => by rw [List.count_cons]; simp
    rw [e, sum_add, h1, h2]
    simp
theorem dif_sum {n : Int} {zs : List Int} (ho : Ok n zs) : ((List.range n.toNat).map fun i => difAt n zs ((i : Nat) : Int)).sum = zs.length * zs.length := by
  have h := sum_count n.toNat (resL n zs) (fun x hx => by have := res_range ho.1.1 x hx; omega)
  rw [res_len] at h
  rw [← h]
  congr 1
  refine List.map_congr_left fun i hi => ?_
  rw [List.mem_range] at hi
  rw [count_res ho (by omega)]
theorem cast_sum {α : Type} (f : α → Nat) (l : List α) : (l.map fun x => ((f x : Nat) : Int)).sum = ((l.map f).sum : Nat) := by
  induction l with
  | nil => rfl
  | cons x l ih => simp [ih]
theorem difZ_sum {n : Int} {zs : List Int} (ho : Ok n zs) : (difZ n zs).sum = (zs.length * zs.length : Nat) := by
  unfold difZ
  rw [cast_sum, dif_sum ho]
end Go.Proofs.Ytgmhdmhnedljcaa.Rhy

/-
  Helpers of the claims beside this text: plain mathematics: the vector of a rhythm is half of its differences; forms have one vector; twins of the other pulses.
-/
namespace Go.Proofs.Ytgmhdmhnedljcaa.Rhy
set_option linter.unusedVariables false

theorem sum_sym (h : Nat) (g : Nat → Nat) (c : Nat) (hs : ∀ i, i < h → g (h + c + i) = g (h - 1 - i)) : ((List.range h).map fun i => g (h + c + i)).sum = ((List.range h).map g).sum := by
  have e : ((List.range h).map fun i => g (h + c + i)) = ((List.range h).map g).reverse := by
    apply List.ext_getElem
    · simp
    · intro i h1 h2
      simp only [List.length_map, List.length_range] at h1
      simp only [List.getElem_map, List.getElem_range, List.getElem_reverse, List.length_map, List.length_range]
      exact hs i h1
  rw [e, List.sum_reverse]
theorem sum_range_add (a b : Nat) (g : Nat → Nat) : ((List.range (a + b)).map g).sum = ((List.range a).map g).sum + ((List.range b).map fun i => g (a + i)).sum := by
  rw [List.range_add, List.map_append, List.sum_append, List.map_map]
  rfl
theorem sq_par (k : Nat) : (k * k) % 2 = k % 2 := by
  rw [Nat.mul_mod]
  rcases Nat.mod_two_eq_zero_or_one k with h | h <;> rw [h]
theorem dif_sum' {n : Int} {zs : List Int} (ho : Ok n zs) {M : Nat} (hM : n.toNat = M + 1) : zs.length * zs.length = zs.length + ((List.range M).map fun i => difAt n zs ((i + 1 : Nat) : Int)).sum := by
  have h := dif_sum ho
  rw [hM, Nat.add_comm M 1, sum_range_add] at h
  rw [← h]
  congr 1
  · have : difAt n zs ((0 : Nat) : Int) = zs.length := dif_zero ho
    simp only [List.range_one, List.map_cons, List.map_nil, List.sum_cons, List.sum_nil, this, Nat.add_zero]
  · congr 1
    refine List.map_congr_left fun i _ => ?_
    rw [Nat.add_comm]
theorem dif_nat_sub {n : Int} {zs : List Int} (ho : Ok n zs) {i j : Nat} (h : i + j = n.toNat) : difAt n zs (i : Int) = difAt n zs (j : Int) := by
  have e : (i : Int) = n - j := by have := ho.1; omega
  rw [e, dif_sub ho]
/-- Twice the sum up to the half, and the middle. -/
theorem dif_half {n : Int} {zs : List Int} (ho : Ok n zs) :
    (∀ h, n.toNat = 2 * h + 1 → zs.length * zs.length = zs.length + 2 * ((List.range h).map fun i => difAt n zs ((i + 1 : Nat) : Int)).sum) ∧
    (∀ h, n.toNat = 2 * h + 2 → zs.length * zs.length = zs.length + 2 * ((List.range h).map fun i => difAt n zs ((i + 1 : Nat) : Int)).sum + difAt n zs ((h + 1 : Nat) : Int)) := by
  constructor
  · intro h hn
    rw [dif_sum' ho (M := h + h) (by omega), sum_range_add]
    have := sum_sym h (fun i => difAt n zs ((i + 1 : Nat) : Int)) 0 (fun i hi => dif_nat_sub ho (by omega))
    simp only [Nat.add_zero] at this
    rw [this]
    omega
  · intro h hn
    rw [dif_sum' ho (M := h + (1 + h)) (by omega), sum_range_add, sum_range_add]
    have := sum_sym h (fun i => difAt n zs ((i + 1 : Nat) : Int)) 1 (fun i hi => dif_nat_sub ho (by omega))
    simp only [← Nat.add_assoc]
    rw [this]
    simp only [List.range_one, List.map_cons, List.map_nil, List.sum_cons, List.sum_nil, Nat.add_zero]
    omega
theorem mid_even {n : Int} {zs : List Int} (ho : Ok n zs) {h : Nat} (hn : n.toNat = 2 * h + 2) : difAt n zs ((h + 1 : Nat) : Int) % 2 = 0 := by
  have h1 := (dif_half ho).2 h hn
  have h2 := sq_par zs.length
  omega
theorem vec_sum {n : Int} {zs : List Int} (ho : Ok n zs) : 2 * (vecZ n zs).sum = ((zs.length * zs.length : Nat) : Int) - (zs.length : Int) := by
  rcases Nat.mod_two_eq_zero_or_one n.toNat with hp | hp
  · obtain ⟨h, hn⟩ : ∃ h, n.toNat = 2 * h + 2 := ⟨n.toNat / 2 - 1, by have := ho.1; omega⟩
    have h1 := (dif_half ho).2 h hn
    have h2 := mid_even ho hn
    have e : vecZ n zs = ((List.range h).map fun i => ((difAt n zs ((i + 1 : Nat) : Int) : Nat) : Int)) ++ [((difAt n zs ((h + 1 : Nat) : Int) / 2 : Nat) : Int)] := by
      unfold vecZ
      rw [show n.toNat / 2 = h + 1 by omega, List.range_succ, List.map_append]
      congr 1
      · refine List.map_congr_left fun i hi => ?_
        rw [List.mem_range] at hi
        rw [if_neg (by omega)]
      · simp only [List.map_cons, List.map_nil]
        rw [if_pos (by omega)]
    rw [e, List.sum_append, cast_sum]
    simp only [List.sum_cons, List.sum_nil]
    omega
  · obtain ⟨h, hn⟩ : ∃ h, n.toNat = 2 * h + 1 := ⟨n.toNat / 2, by omega⟩
    have h1 := (dif_half ho).1 h hn
    have e : vecZ n zs = (List.range h).map fun i => ((difAt n zs ((i + 1 : Nat) : Int) : Nat) : Int) := by
      unfold vecZ
      rw [show n.toNat / 2 = h by omega]
      refine List.map_congr_left fun i hi => ?_
      rw [if_neg (by omega)]
    rw [e, cast_sum]
    omega
theorem vec_len (n : Int) (zs : List Int) : (vecZ n zs).length = n.toNat / 2 := by simp [vecZ]
theorem difZ_len (n : Int) (zs : List Int) : (difZ n zs).length = n.toNat := by simp [difZ]
theorem difZ_at {n : Int} {zs : List Int} {i : Nat} (h : i < n.toNat) : (difZ n zs)[i]? = some ((difAt n zs (i : Int) : Nat) : Int) := by simp [difZ, h]
theorem vec_of_dif {n : Int} {xs ys : List Int} (h : ∀ i, difAt n xs i = difAt n ys i) : vecZ n xs = vecZ n ys := by
  unfold vecZ
  simp only [h]
theorem vec_at {n : Int} {zs : List Int} {j : Nat} (h : j < n.toNat / 2) : (vecZ n zs)[j]? = some (if 2 * (j + 1) = n.toNat then ((difAt n zs ((j + 1 : Nat) : Int) / 2 : Nat) : Int) else ((difAt n zs ((j + 1 : Nat) : Int) : Nat) : Int)) := by simp [vecZ, h]
theorem dif_of_vec {n : Int} {xs ys : List Int} (hx : Ok n xs) (hy : Ok n ys) (hl : xs.length = ys.length) (hv : vecZ n xs = vecZ n ys) (i : Int) : difAt n xs i = difAt n ys i := by
  have key : ∀ j : Nat, j + 1 ≤ n.toNat / 2 → difAt n xs ((j + 1 : Nat) : Int) = difAt n ys ((j + 1 : Nat) : Int) := by
    intro j hj
    have h1 := vec_at (zs := xs) (show j < n.toNat / 2 by omega)
    have h2 := vec_at (zs := ys) (show j < n.toNat / 2 by omega)
    rw [hv, h2] at h1
    have h3 := Option.some.inj h1
    by_cases q : 2 * (j + 1) = n.toNat
    · rw [if_pos q, if_pos q] at h3
      have e1 := mid_even hx (h := j) (by omega)
      have e2 := mid_even hy (h := j) (by omega)
      omega
    · rw [if_neg q, if_neg q] at h3
      omega
  have hb := em_bd i hx.1.1
  rw [← dif_mod hx i, ← dif_mod hy i]
  obtain ⟨m, hm⟩ : ∃ m : Nat, i % n = m := ⟨(i % n).toNat, by omega⟩
  rw [hm] at hb ⊢
  by_cases h0 : m = 0
  · subst h0
    have e1 : difAt n xs ((0 : Nat) : Int) = xs.length := dif_zero hx
    have e2 : difAt n ys ((0 : Nat) : Int) = ys.length := dif_zero hy
    rw [e1, e2, hl]
  · by_cases h1 : m ≤ n.toNat / 2
    · have := key (m - 1) (by omega)
      rwa [show m - 1 + 1 = m by omega] at this
    · rw [dif_nat_sub hx (j := n.toNat - m) (by omega), dif_nat_sub hy (j := n.toNat - m) (by omega)]
      have := key (n.toNat - m - 1) (by omega)
      rwa [show n.toNat - m - 1 + 1 = n.toNat - m by omega] at this

/-! forms -/
def Form (n : Int) (xs ys : List Int) : Prop := (∃ k, rotZ n xs 1 k = ys) ∨ ∃ k, rotZ n xs (-1) k = ys
theorem form_symm {n : Int} {xs ys : List Int} (hx : Ok n xs) (h : Form n xs ys) : Form n ys xs := by
  rcases h with ⟨k, rfl⟩ | ⟨k, rfl⟩
  · exact .inl ⟨-k, by rw [rot_rot hx, show k + -k = 0 by omega, rot_zero hx]⟩
  · exact .inr ⟨k, by rw [mir_mir hx, show k - k = 0 by omega, rot_zero hx]⟩
theorem form_dif {n : Int} {xs ys : List Int} (hx : Ok n xs) (h : Form n xs ys) (i : Int) : difAt n xs i = difAt n ys i := by
  rcases h with ⟨k, rfl⟩ | ⟨k, rfl⟩
  · rw [dif_rot hx]
  · rw [dif_mir hx]
theorem form_vec {n : Int} {xs ys : List Int} (hx : Ok n xs) (h : Form n xs ys) : vecZ n xs = vecZ n ys := vec_of_dif (form_dif hx h)
theorem form_not {n : Nat} {xs ys : List Int} (hx : Ok n xs) (hy : Ok n ys) : Form n (notZ n xs) (notZ n ys) ↔ Form n xs ys := by
  have key : ∀ {a b : List Int}, Ok n a → Form n a b → Form n (notZ n a) (notZ n b) := by
    intro a b ha h
    rcases h with ⟨k, rfl⟩ | ⟨k, rfl⟩
    · exact .inl ⟨k, not_rot ha k⟩
    · exact .inr ⟨k, not_mir ha k⟩
  refine ⟨fun h => ?_, key hx⟩
  have := key (show Ok n (notZ n xs) from not_ok hx) h
  have e1 : notZ n (notZ n xs) = xs := not_not hx
  have e2 : notZ n (notZ n ys) = ys := not_not hy
  rwa [e1, e2] at this
theorem afor_form {n : Nat} {xs ys : List Int} (hx : Ok n xs) (hy : Ok n ys) : aforB n xs n ys = true ↔ Form n xs ys := by
  have arot : ∀ {a b : List Int}, Ok n a → Ok n b → (arotB n a n b = true ↔ ∃ k : Int, rotZ n a 1 k = b) := by
    intro a b ha hb
    unfold arotB
    rw [rotToB_yes ha hb]
    unfold rotToW
    rw [if_pos rfl, decide_eq_true_iff]
    exact rotTo_iff ha
  have hm : Ok n (rotZ n xs (-1) 0) := rot_ok hx.1 _ _
  unfold aforB
  rw [okB_yes hx, Bool.true_and, Bool.or_eq_true, arot hx hy, arot hm hy]
  unfold Form
  constructor
  · rintro (h | ⟨k, h⟩)
    · exact .inl h
    · exact .inr ⟨0 + k, by rw [← rot_mir hx]; exact h⟩
  · rintro (h | ⟨k, h⟩)
    · exact .inl h
    · exact .inr ⟨k, by rw [rot_mir hx, Int.zero_add]; exact h⟩
theorem not_vec {n : Nat} {xs ys : List Int} (hx : Ok n xs) (hy : Ok n ys) (hl : xs.length = ys.length) (hv : vecZ n xs = vecZ n ys) : vecZ n (notZ n xs) = vecZ n (notZ n ys) := by
  refine vec_of_dif fun i => ?_
  have h1 := dif_not hx i
  have h2 := dif_not hy i
  have h3 := dif_of_vec hx hy hl hv i
  omega
/-- Half of the pulses: the other ones have the same differences. -/
theorem half_vec {n : Nat} {zs : List Int} (ho : Ok n zs) (h : 2 * zs.length = n) : vecZ n (notZ n zs) = vecZ n zs := by
  refine vec_of_dif fun i => ?_
  have := dif_not ho i
  omega
def flatZ (n : Int) (zs : List Int) : Prop := ∀ i : Nat, 2 ≤ i → i < n.toNat → difAt n zs (i : Int) = difAt n zs 1
theorem flat_not {n : Nat} {zs : List Int} (ho : Ok n zs) : flatZ n (notZ n zs) ↔ flatZ n zs := by
  unfold flatZ
  have h1 := dif_not ho 1
  constructor
  · intro h i h2 h3
    have := dif_not ho (i : Int)
    have := h i h2 h3
    omega
  · intro h i h2 h3
    have := dif_not ho (i : Int)
    have := h i h2 h3
    omega
theorem str_mir {n : Int} {zs : List Int} (ho : Ok n zs) : rotZ n zs (n - 1) 0 = rotZ n zs (-1) 0 := by
  unfold rotZ
  congr 1
  unfold mapL
  refine List.map_congr_left fun p _ => ?_
  unfold remB
  have e : (n - 1) * p + 0 = -1 * p + 0 + n * p := by rw [Int.sub_mul]; omega
  rw [e, Int.add_mul_emod_self_left]
end Go.Proofs.Ytgmhdmhnedljcaa.Rhy

/-
  Helpers of the claims beside this text: DifferencesOf and VectorOf of the model.
-/
namespace Go.Proofs.Ytgmhdmhnedljcaa.Rhy
open Go.RowKit
set_option linter.unusedVariables false

theorem cnt_len (m : Nat) (l : List Int) : (cntZ m l).length = m := by simp [cntZ]
theorem cnt_nil (m : Nat) : cntZ m [] = List.replicate m 0 := by
  unfold cntZ
  apply List.ext_getElem
  · simp
  · intro i h1 h2
    simp
theorem cnt_at {m : Nat} {l : List Int} {k : Nat} (h : k < m) : (cntZ m l)[k]? = some ((l.count (k : Int) : Nat) : Int) := by simp [cntZ, h]
theorem cnt_snoc {m : Nat} {l : List Int} {k : Nat} (h : k < m) : cntZ m (l ++ [(k : Int)]) = (cntZ m l).set k (((l.count (k : Int) : Nat) : Int) + 1) := by
  apply List.ext_getElem?
  intro i
  rw [List.getElem?_set]
  by_cases hi : i < m
  · rw [cnt_at hi]
    by_cases q : k = i
    · subst q
      rw [if_pos rfl, if_pos (by rw [cnt_len]; exact hi), List.count_append]
      simp
    · rw [if_neg q, cnt_at hi, List.count_append]
      have : List.count (i : Int) [(k : Int)] = 0 := List.count_eq_zero_of_not_mem (by simp; omega)
      rw [this]
      simp
  · rw [List.getElem?_eq_none (by rw [cnt_len]; omega)]
    by_cases q : k = i
    · omega
    · rw [if_neg q, List.getElem?_eq_none (by rw [cnt_len]; omega)]
theorem cnt_int {m : Nat} {l : List Int} (h : l.length ≤ 1000000) : AllInt (cntZ m l) := by
  intro z hz
  unfold cntZ at hz
  rw [List.mem_map] at hz
  obtain ⟨k, _, rfl⟩ := hz
  have := List.count_le_length (a := (k : Int)) (l := l)
  omega
def resQ (n : Int) (zs : List Int) (p : Int) (j : Nat) : List Int := (zs.take j).map fun q => remB (p - q) n
def resP (n : Int) (zs : List Int) (i : Nat) : List Int := (zs.take i).flatMap fun p => zs.map fun q => remB (p - q) n
theorem resQ_snoc {n : Int} {zs : List Int} {p : Int} {j : Nat} {q : Int} (h : zs[j]? = some q) : resQ n zs p (j + 1) = resQ n zs p j ++ [remB (p - q) n] := by
  unfold resQ
  rw [List.take_add_one, h]
  simp
theorem resP_snoc {n : Int} {zs : List Int} {i : Nat} {p : Int} (h : zs[i]? = some p) : resP n zs (i + 1) = resP n zs i ++ resQ n zs p zs.length := by
  unfold resP resQ
  rw [List.take_add_one, h, List.take_length, List.flatMap_append]
  simp
theorem resP_all (n : Int) (zs : List Int) : resP n zs zs.length = resL n zs := by unfold resP resL; rw [List.take_length]
theorem resP_len (n : Int) (zs : List Int) (i : Nat) : (resP n zs i).length ≤ i * zs.length := by
  unfold resP
  rw [List.length_flatMap]
  have e : ((zs.take i).map fun p => (zs.map fun q => remB (p - q) n).length) = (zs.take i).map fun _ => zs.length := List.map_congr_left fun p _ => by simp
  rw [e, sum_const]
  exact Nat.mul_le_mul_right _ (by simp; omega)
theorem resQ_len (n : Int) (zs : List Int) (p : Int) (j : Nat) : (resQ n zs p j).length ≤ zs.length := by simp [resQ]; omega
theorem dif_int {n : Int} {zs : List Int} (ho : Ok n zs) : AllInt (difZ n zs) := by
  rw [← cnt_dif ho]
  refine cnt_int ?_
  rw [res_len]
  have := ok_len ho
  exact Nat.le_trans (Nat.mul_le_mul this this) (by omega)

def DifAt (g n : Nat) (L : List Int) (a : Option Addr) (len cap : Nat) (w wr : World) : Prop :=
  Box wr g (.int .i64 n) (.slice a len cap) 28 ∧ wr.ownsRow (g + 1) 3 1 (.slice (some ⟨g + 1, 0, none⟩) n n) n (ints (cntZ n L)) ∧ Below g w wr ∧ g + 2 ≤ wr.heap.size


/-- What both answer. -/
noncomputable def difB (s : Int) (zs : List Int) : List Int := cZ (Ok s zs) (difZ s zs)
theorem difB_int (s : Int) (zs : List Int) : AllInt (difB s zs) := by
  by_cases h : Ok s zs
  · unfold difB; rw [cZ_yes h]; exact dif_int h
  · unfold difB; rw [cZ_no h]; intro z hz; cases hz
theorem difB_len (s : Int) (zs : List Int) : (difB s zs).length ≤ 24 := by
  by_cases h : Ok s zs
  · unfold difB; rw [cZ_yes h, difZ_len]; have := h.1; omega
  · unfold difB; rw [cZ_no h]; simp
noncomputable def vecB (s : Int) (zs : List Int) : List Int := cZ (Ok s zs) (vecZ s zs)

theorem ipost_nil {c : Prop} {l : List Int} {w w' : World} (h : ¬ c) (hb : Below w.heap.size w w') : IPost (cZ c l) w (.returned (.slice none 0 0)) w' := by
  rw [cZ_no h]
  exact ⟨none, 0, rfl, World.ownsRow_nil _ _ _ _, hb⟩


/-- A cell of a list of integers. -/
theorem cell_at {w : World} {g o n : Nat} {l : List Int} (h : IntsAt w (some ⟨g, o, none⟩) n l) {k : Nat} (hk : k < n) : w.cell? ⟨g, o + k, none⟩ = some (.int .i64 (l[k]?.getD 0)) := by
  obtain ⟨b, off, z, e, hb, hs, hc, _⟩ := h.at hk
  cases e
  rw [hs]
  exact hc
theorem addr_at {w : World} {a : Option Addr} {n : Nat} {l : List Int} (h : IntsAt w a n l) (hn : 0 < n) : ∃ g o, a = some ⟨g, o, none⟩ := by
  obtain ⟨b, off, z, e, _⟩ := h.at hn
  exact ⟨b, off, e⟩
/-- The first j numbers of a vector. -/
def vecP (n : Int) (zs : List Int) (k : Nat) : List Int := (List.range k).map fun j => if 2 * (j + 1) = n.toNat then ((difAt n zs ((j + 1 : Nat) : Int) / 2 : Nat) : Int) else ((difAt n zs ((j + 1 : Nat) : Int) : Nat) : Int)
theorem vecP_snoc (n : Int) (zs : List Int) (k : Nat) : vecP n zs (k + 1) = vecP n zs k ++ [if 2 * (k + 1) = n.toNat then ((difAt n zs ((k + 1 : Nat) : Int) / 2 : Nat) : Int) else ((difAt n zs ((k + 1 : Nat) : Int) : Nat) : Int)] := by
  unfold vecP
  rw [List.range_succ, List.map_append]
  rfl
theorem vecP_len (n : Int) (zs : List Int) (k : Nat) : (vecP n zs k).length = k := by simp [vecP]
theorem dif_le {n : Int} {zs : List Int} (ho : Ok n zs) (i : Int) : difAt n zs i ≤ 24 := Nat.le_trans (com_le _ _) (ok_len ho)



theorem vec_int {n : Int} {zs : List Int} (ho : Ok n zs) : AllInt (vecZ n zs) := by
  intro z hz
  unfold vecZ at hz
  rw [List.mem_map] at hz
  obtain ⟨j, _, rfl⟩ := hz
  have := dif_le ho ((j + 1 : Nat) : Int)
  split <;> omega
theorem vecB_int (s : Int) (zs : List Int) : AllInt (vecB s zs) := by
  by_cases h : Ok s zs
  · unfold vecB; rw [cZ_yes h]; exact vec_int h
  · unfold vecB; rw [cZ_no h]; intro z hz; cases hz
theorem vecB_len (s : Int) (zs : List Int) : (vecB s zs).length ≤ 24 := by
  by_cases h : Ok s zs
  · unfold vecB; rw [cZ_yes h, vec_len]; have := h.1; omega
  · unfold vecB; rw [cZ_no h]; simp
end Go.Proofs.Ytgmhdmhnedljcaa.Rhy
