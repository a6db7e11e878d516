/-
  Helpers of the claims beside this text: plain mathematics: common beats, differences of beats, the vector of a rhythm.
-/
import Derived.Test.YtcppmcacjjjjeaaRhm
namespace Go.Proofs.Ytcppmcacjjjjeaa.Rhy
set_option linter.unusedVariables false

/-- How many numbers of a list are in another one. -/
def comZ (xs ys : List Int) : Nat := (xs.filter fun x => ys.contains x).length
/-- How many pairs of beats are i apart. -/
def difAt (n : Int) (zs : List Int) (i : Int) : Nat := comZ zs (rotZ n zs 1 i)
def difZ (n : Int) (zs : List Int) : List Int := (List.range n.toNat).map fun i => ((difAt n zs ((i : Nat) : Int) : Nat) : Int)
def vecZ (n : Int) (zs : List Int) : List Int := (List.range (n.toNat / 2)).map fun j => if 2 * (j + 1) = n.toNat then ((difAt n zs ((j + 1 : Nat) : Int) / 2 : Nat) : Int) else ((difAt n zs ((j + 1 : Nat) : Int) : Nat) : Int)
def resL (n : Int) (zs : List Int) : List Int := zs.flatMap fun p => zs.map fun q => remB (p - q) n
def cntZ (m : Nat) (l : List Int) : List Int := (List.range m).map fun k => ((l.count ((k : Nat) : Int) : Nat) : Int)

theorem inter_ok {n : Int} {xs : List Int} (hx : Ok n xs) (p : Int → Bool) : Ok n (xs.filter p) :=
  ok_of hx.1.1 hx.1.2 ((ok_sorted hx).filter _) fun z hz => ok_range hx z (List.mem_filter.1 hz).1
theorem com_comm {n : Int} {xs ys : List Int} (hx : Ok n xs) (hy : Ok n ys) : comZ xs ys = comZ ys xs := by
  unfold comZ
  congr 1
  refine ok_ext (inter_ok hx _) (inter_ok hy _) fun x _ => ?_
  simp [List.mem_filter, and_comm]
theorem unit_len {n : Int} {zs : List Int} (ho : Ok n zs) (k : Int) : (rotZ n zs 1 k).length = zs.length := by
  unfold rotZ
  rw [← moved_eq ho (gcd_one _), sortZ_len, mapL_len]
theorem mir_len {n : Int} {zs : List Int} (ho : Ok n zs) (k : Int) : (rotZ n zs (-1) k).length = zs.length := by
  unfold rotZ
  rw [← moved_eq ho (gcd_mone _), sortZ_len, mapL_len]
theorem com_rot {n : Int} {xs ys : List Int} (hx : Ok n xs) (hy : Ok n ys) (k : Int) : comZ (rotZ n xs 1 k) (rotZ n ys 1 k) = comZ xs ys := by
  have e : (rotZ n xs 1 k).filter (fun x => (rotZ n ys 1 k).contains x) = rotZ n (xs.filter fun x => ys.contains x) 1 k := by
    refine ok_ext (inter_ok (rot_ok hx.1 _ _) _) (rot_ok hx.1 _ _) fun x h => ?_
    rw [rot_mem (inter_ok hx _), List.mem_filter, List.mem_filter, rot_mem hx, List.contains_iff_mem, List.contains_iff_mem, rot_mem hy]
    exact ⟨fun q => ⟨h, q.1.2, q.2.2⟩, fun q => ⟨⟨h, q.2.1⟩, h, q.2.2⟩⟩
  unfold comZ
  rw [e, unit_len (inter_ok hx _)]
theorem com_mir {n : Int} {xs ys : List Int} (hx : Ok n xs) (hy : Ok n ys) (k : Int) : comZ (rotZ n xs (-1) k) (rotZ n ys (-1) k) = comZ xs ys := by
  have e : (rotZ n xs (-1) k).filter (fun x => (rotZ n ys (-1) k).contains x) = rotZ n (xs.filter fun x => ys.contains x) (-1) k := by
    refine ok_ext (inter_ok (rot_ok hx.1 _ _) _) (rot_ok hx.1 _ _) fun x h => ?_
    rw [mir_mem (inter_ok hx _), List.mem_filter, List.mem_filter, mir_mem hx, List.contains_iff_mem, List.contains_iff_mem, mir_mem hy]
    exact ⟨fun q => ⟨h, q.1.2, q.2.2⟩, fun q => ⟨⟨h, q.2.1⟩, h, q.2.2⟩⟩
  unfold comZ
  rw [e, mir_len (inter_ok hx _)]
theorem com_le (xs ys : List Int) : comZ xs ys ≤ xs.length := List.length_filter_le _ _
theorem com_self (xs : List Int) : comZ xs xs = xs.length := by
  unfold comZ
  rw [List.filter_eq_self.2 (fun x hx => by simpa using hx)]

theorem dif_zero {n : Int} {zs : List Int} (ho : Ok n zs) : difAt n zs 0 = zs.length := by
  unfold difAt
  rw [rot_zero ho, com_self]
theorem dif_rot {n : Int} {zs : List Int} (ho : Ok n zs) (i j : Int) : difAt n (rotZ n zs 1 j) i = difAt n zs i := by
  unfold difAt
  rw [rot_rot ho, Int.add_comm, ← rot_rot ho, com_rot ho (rot_ok ho.1 _ _)]
theorem dif_neg {n : Int} {zs : List Int} (ho : Ok n zs) (i : Int) : difAt n zs (-i) = difAt n zs i := by
  have h := com_rot ho (rot_ok ho.1 1 (-i) (zs := zs)) i
  rw [rot_rot ho, show -i + i = 0 by omega, rot_zero ho] at h
  unfold difAt
  rw [← h, com_comm (rot_ok ho.1 _ _) ho]
theorem dif_mod {n : Int} {zs : List Int} (ho : Ok n zs) (i : Int) : difAt n zs (i % n) = difAt n zs i := by
  unfold difAt
  rw [rot_mod ho]
theorem dif_sub {n : Int} {zs : List Int} (ho : Ok n zs) (i : Int) : difAt n zs (n - i) = difAt n zs i := by
  rw [← dif_mod ho, Int.sub_emod, Int.emod_self, Int.zero_sub, ← dif_neg ho i]
  have h : (-(i % n)) % n = (-i) % n := by rw [← Int.zero_sub, sub_em, Int.zero_sub]
  rw [h, dif_mod ho]
theorem dif_mir {n : Int} {zs : List Int} (ho : Ok n zs) (i j : Int) : difAt n (rotZ n zs (-1) j) i = difAt n zs i := by
  have h := com_mir ho (rot_ok ho.1 1 (-i) (zs := zs)) j
  rw [mir_rot ho, show j - -i = j + i by omega] at h
  have h2 := dif_neg ho i
  unfold difAt at h2 ⊢
  rw [rot_mir ho, h, h2]

/-! other pulses -/
theorem not_rot {n : Nat} {zs : List Int} (ho : Ok n zs) (k : Int) : rotZ n (notZ n zs) 1 k = notZ n (rotZ n zs 1 k) := by
  have ho' : Ok n (notZ n zs) := not_ok ho
  refine ok_ext (rot_ok ho.1 _ _) (not_ok (rot_ok ho.1 _ _)) fun x hx => ?_
  rw [rot_mem ho', not_mem, not_mem, rot_mem ho]
  have hb := em_bd (x - k) ho.1.1
  exact ⟨fun q => ⟨hx, fun q2 => q.2.2 q2.2⟩, fun q => ⟨hx, hb, fun q2 => q.2 ⟨hx, q2⟩⟩⟩
theorem not_mir {n : Nat} {zs : List Int} (ho : Ok n zs) (k : Int) : rotZ n (notZ n zs) (-1) k = notZ n (rotZ n zs (-1) k) := by
  have ho' : Ok n (notZ n zs) := not_ok ho
  refine ok_ext (rot_ok ho.1 _ _) (not_ok (rot_ok ho.1 _ _)) fun x hx => ?_
  rw [mir_mem ho', not_mem, not_mem, mir_mem ho]
  have hb := em_bd (k - x) ho.1.1
  exact ⟨fun q => ⟨hx, fun q2 => q.2.2 q2.2⟩, fun q => ⟨hx, hb, fun q2 => q.2 ⟨hx, q2⟩⟩⟩
theorem count_not {α : Type} (a b : α → Bool) (l : List α) : (l.filter fun x => !a x && !b x).length + (l.filter a).length + (l.filter b).length = (l.filter fun x => a x && b x).length + l.length := by
  induction l with
  | nil => rfl
  | cons x l ih => cases h1 : a x <;> cases h2 : b x <;> simp [h1, h2] <;> omega
theorem com_all {n : Nat} {xs ys : List Int} (hx : Ok n xs) : comZ xs ys = (((List.range n).map Int.ofNat).filter fun x => xs.contains x && ys.contains x).length := by
  have h1 : ofZ n xs = xs := ofZ_self (ok_sorted hx) (fun x hx' => ok_range hx x hx')
  have h2 : comZ xs ys = comZ (ofZ n xs) ys := by rw [h1]
  rw [h2]
  unfold comZ ofZ
  rw [List.filter_filter]
  simp only [Bool.and_comm]
theorem all_ofZ {n : Nat} {xs : List Int} (hx : Ok n xs) : (((List.range n).map Int.ofNat).filter fun x => xs.contains x).length = xs.length := by
  have h1 : ofZ n xs = xs := ofZ_self (ok_sorted hx) (fun x hx' => ok_range hx x hx')
  conv => rhs; rw [← h1]
  rfl
theorem has_not' {n : Nat} {xs : List Int} {x : Int} (h : 0 ≤ x ∧ x < n) : (notZ n xs).contains x = !xs.contains x := by
  cases hc : xs.contains x with
  | true =>
    rw [List.contains_iff_mem] at hc
    rw [Bool.not_true, ← Bool.not_eq_true, List.contains_iff_mem, not_mem]
    exact fun q => q.2 hc
  | false =>
    rw [Bool.not_false, List.contains_iff_mem, not_mem]
    exact ⟨h, by rw [← List.contains_iff_mem, hc]; simp⟩
theorem com_not {n : Nat} {xs ys : List Int} (hx : Ok n xs) (hy : Ok n ys) : comZ (notZ n xs) (notZ n ys) + xs.length + ys.length = comZ xs ys + n := by
  have h := count_not (fun x => xs.contains x) (fun x => ys.contains x) ((List.range n).map Int.ofNat)
  rw [all_ofZ hx, all_ofZ hy, ← com_all hx, List.length_map, List.length_range] at h
  rw [← h, com_all (n := n) (show Ok n (notZ n xs) from not_ok hx)]
  congr 3
  refine List.filter_congr fun x hx' => ?_
  rw [List.mem_map] at hx'
  obtain ⟨i, hi, rfl⟩ := hx'
  rw [List.mem_range] at hi
  rw [has_not' (by show 0 ≤ (i : Int) ∧ (i : Int) < n; omega), has_not' (by show 0 ≤ (i : Int) ∧ (i : Int) < n; omega)]
theorem dif_not {n : Nat} {zs : List Int} (ho : Ok n zs) (i : Int) : difAt n (notZ n zs) i + 2 * zs.length = difAt n zs i + n := by
  have h := com_not ho (rot_ok ho.1 1 i (zs := zs))
  rw [unit_len ho, ← not_rot ho] at h
  unfold difAt
  omega

/-! counting -/
theorem sum_ind {α : Type} (p : α → Bool) (l : List α) : (l.map fun x => if p x then 1 else 0).sum = (l.filter p).length := by
  induction l with
  | nil => rfl
  | cons x l ih => cases h : p x <;> simp [h, ih] <;> omega
theorem ok_nodup {n : Int} {zs : List Int} (ho : Ok n zs) : zs.Nodup := (ok_sorted ho).imp fun h => by omega
theorem count_one {l : List Int} {x : Int} (h : l.Nodup) (hx : x ∈ l) : l.count x = 1 := by
  induction l with
  | nil => cases hx
  | cons y l ih =>
    rw [List.nodup_cons] at h
    rw [List.count_cons]
    by_cases q : y = x
    · subst q
      rw [List.count_eq_zero_of_not_mem h.1]
      simp
    · have hx' : x ∈ l := by
        rcases List.mem_cons.1 hx with r | r
        · exact absurd r.symm q
        · exact r
      rw [ih h.2 hx']
      simp [q]
theorem sum_const {α : Type} (c : Nat) (l : List α) : (l.map fun _ => c).sum = l.length * c := by
  induction l with
  | nil => simp
  | cons y l ih => rw [List.map_cons, List.sum_cons, ih, List.length_cons, Nat.succ_mul]; omega
theorem count_res {n : Int} {zs : List Int} (ho : Ok n zs) {i : Int} (hi : 0 ≤ i ∧ i < n) : (resL n zs).count i = difAt n zs i := by
  unfold resL difAt comZ
  rw [List.count_flatMap, ← sum_ind]
  congr 1
  refine List.map_congr_left fun p hp => ?_
  have hpb := ok_range ho p hp
  show (zs.map fun q => remB (p - q) n).count i = _
  have e : (zs.map fun q => remB (p - q) n).count i = zs.count ((p - i) % n) := by
    rw [List.count, List.countP_map, List.count]
    refine List.countP_congr fun q hq => ?_
    have hqb := ok_range ho q hq
    simp only [Function.comp, beq_iff_eq]
    unfold remB
    constructor
    · rintro rfl
      rw [sub_em, show p - (p - q) = q by omega, em_self hqb]
    · rintro rfl
      rw [sub_em, show p - (p - i) = i by omega, em_self hi]
  rw [e]
  by_cases hm : (p - i) % n ∈ zs
  · have : (rotZ n zs 1 i).contains p = true := by rw [List.contains_iff_mem, rot_mem ho]; exact ⟨hpb, hm⟩
    rw [this, if_pos rfl]
    exact count_one (ok_nodup ho) hm
  · have : (rotZ n zs 1 i).contains p = false := by
      rw [← Bool.not_eq_true, List.contains_iff_mem, rot_mem ho]
      exact fun q => hm q.2
    rw [this, if_neg (by simp)]
    exact List.count_eq_zero_of_not_mem hm
theorem res_len (n : Int) (zs : List Int) : (resL n zs).length = zs.length * zs.length := by
  unfold resL
  rw [List.length_flatMap]
  have e : (zs.map fun p => (zs.map fun q => remB (p - q) n).length) = zs.map fun _ => zs.length := List.map_congr_left fun p _ => by simp
  rw [e, sum_const]
theorem res_range {n : Int} {zs : List Int} (h : 1 ≤ n) : ∀ x ∈ resL n zs, 0 ≤ x ∧ x < n := by
  intro x hx
  unfold resL at hx
  rw [List.mem_flatMap] at hx
  obtain ⟨p, _, hx⟩ := hx
  rw [List.mem_map] at hx
  obtain ⟨q, _, rfl⟩ := hx
  exact remB_bd _ _ (by omega)
theorem cnt_dif {n : Int} {zs : List Int} (ho : Ok n zs) : cntZ n.toNat (resL n zs) = difZ n zs := by
  unfold cntZ difZ
  refine List.map_congr_left fun i hi => ?_
  rw [List.mem_range] at hi
  rw [count_res ho (by omega)]
theorem sum_one (m : Nat) {x : Int} (h : 0 ≤ x ∧ x < m) : ((List.range m).map fun k => if x = ((k : Nat) : Int) then 1 else 0).sum = 1 := by
  induction m with
  | zero => omega
  | succ m ih =>
    rw [List.range_succ, List.map_append, List.sum_append]
    by_cases q : x = (m : Int)
    · have : ((List.range m).map fun k => if x = ((k : Nat) : Int) then 1 else 0).sum = 0 := by
        have e : ((List.range m).map fun k => if x = ((k : Nat) : Int) then 1 else 0) = (List.range m).map fun _ => 0 :=
          List.map_congr_left fun k hk => by rw [List.mem_range] at hk; rw [if_neg (by omega)]
        rw [e]
        clear e
        induction (List.range m) with
        | nil => rfl
        | cons y l ih => simpa using ih
      rw [this]
      simp [q]
    · rw [ih (by omega)]
      simp [q]
theorem sum_add {α : Type} (f g : α → Nat) (l : List α) : (l.map fun x => f x + g x).sum = (l.map f).sum + (l.map g).sum := by
  induction l with
  | nil => rfl
  | cons x l ih => simp [ih]; omega
theorem sum_count (m : Nat) (l : List Int) (h : ∀ x ∈ l, 0 ≤ x ∧ x < m) : ((List.range m).map fun k => l.count ((k : Nat) : Int)).sum = l.length := by
  induction l with
  | nil =>
    simp
    induction (List.range m) with
    | nil => rfl
    | cons y l ih => simpa using ih
  | cons x l ih =>
    have h1 := ih fun y hy => h y (List.mem_cons_of_mem _ hy)
    have h2 := sum_one m (h x List.mem_cons_self)
    have e : ((List.range m).map fun k => (x :: l).count ((k : Nat) : Int)) = (List.range m).map fun k => l.count ((k : Nat) : Int) + if x = (k : Int) then 1 else 0 :=
      List.map_congr_left fun k _ => by rw [List.count_cons]; simp
    rw [e, sum_add, h1, h2]
    simp
theorem dif_sum {n : Int} {zs : List Int} (ho : Ok n zs) : ((List.range n.toNat).map fun i => difAt n zs ((i : Nat) : Int)).sum = zs.length * zs.length := by
  have h := sum_count n.toNat (resL n zs) (fun x hx => by have := res_range ho.1.1 x hx; omega)
  rw [res_len] at h
  rw [← h]
  congr 1
  refine List.map_congr_left fun i hi => ?_
  rw [List.mem_range] at hi
  rw [count_res ho (by omega)]
theorem cast_sum {α : Type} (f : α → Nat) (l : List α) : (l.map fun x => ((f x : Nat) : Int)).sum = ((l.map f).sum : Nat) := by
  induction l with
  | nil => rfl
  | cons x l ih => simp [ih]
theorem difZ_sum {n : Int} {zs : List Int} (ho : Ok n zs) : (difZ n zs).sum = (zs.length * zs.length : Nat) := by
  unfold difZ
  rw [cast_sum, dif_sum ho]
end Go.Proofs.Ytcppmcacjjjjeaa.Rhy
