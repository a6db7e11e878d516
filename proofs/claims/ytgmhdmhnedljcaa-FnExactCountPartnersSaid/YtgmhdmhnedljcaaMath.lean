/-
  Helpers of the claims beside this text: plain mathematics of beats: numbers from 0 up to n that are in a list; sorted lists.
-/
namespace Go.Proofs.Ytgmhdmhnedljcaa.Rhy

/-- The numbers from 0 up to n that are in a list. -/
def ofZ (n : Nat) (l : List Int) : List Int := ((List.range n).map Int.ofNat).filter (fun x => l.contains x)

theorem ofZ_mem {n : Nat} {l : List Int} {x : Int} : x ∈ ofZ n l ↔ (0 ≤ x ∧ x < n) ∧ x ∈ l := by
  unfold ofZ
  rw [List.mem_filter, List.mem_map]
  constructor
  · rintro ⟨⟨a, ha, rfl⟩, hc⟩
    rw [List.mem_range] at ha
    exact ⟨⟨by simp, by simpa using ha⟩, by simpa using hc⟩
  · rintro ⟨⟨h0, h1⟩, hc⟩
    exact ⟨⟨x.toNat, by rw [List.mem_range]; omega, by show ((x.toNat : Nat) : Int) = x; omega⟩, by simpa using hc⟩
theorem ofZ_sorted (n : Nat) (l : List Int) : (ofZ n l).Pairwise (· < ·) := by
  unfold ofZ
  refine List.Pairwise.filter _ ?_
  rw [List.pairwise_map]
  exact List.pairwise_lt_range.imp (fun h => by simpa using h)
theorem ofZ_len (n : Nat) (l : List Int) : (ofZ n l).length ≤ n := by
  unfold ofZ
  refine Nat.le_trans (List.length_filter_le _ _) ?_
  simp
theorem ofZ_zero (l : List Int) : ofZ 0 l = [] := rfl
theorem ofZ_yes {k : Nat} {l : List Int} (h : l.contains (k : Int) = true) : ofZ (k + 1) l = ofZ k l ++ [(k : Int)] := by
  unfold ofZ
  rw [List.range_succ, List.map_append, List.filter_append]
  simp only [List.map_cons, List.map_nil, List.filter_cons, List.filter_nil]
  rw [show Int.ofNat k = (k : Int) from rfl, if_pos h]
theorem ofZ_no {k : Nat} {l : List Int} (h : l.contains (k : Int) = false) : ofZ (k + 1) l = ofZ k l := by
  unfold ofZ
  rw [List.range_succ, List.map_append, List.filter_append]
  simp only [List.map_cons, List.map_nil, List.filter_cons, List.filter_nil]
  rw [show Int.ofNat k = (k : Int) from rfl, h]
  simp
theorem ofZ_bd {n : Nat} {l : List Int} (hn : n ≤ 1000) : ∀ z ∈ ofZ n l, -9223372036854775808 ≤ z ∧ z ≤ 9223372036854775807 := by
  intro z hz
  have := (ofZ_mem.1 hz).1
  omega

theorem lt_uniq {a b : List Int} (ha : a.Pairwise (· < ·)) (hb : b.Pairwise (· < ·)) (h : ∀ x, x ∈ a ↔ x ∈ b) : a = b := by
  have na : a.Nodup := ha.imp (fun h => by omega)
  have nb : b.Nodup := hb.imp (fun h => by omega)
  have hp := (List.perm_ext_iff_of_nodup na nb).2 h
  exact List.Perm.eq_of_pairwise (le := fun x y => x < y) (fun x y _ _ h1 h2 => by omega) ha hb hp

/-- A list of distinct numbers from 0 up to n, sorted. -/
theorem sort_ofZ {n : Nat} {l : List Int} (hd : l.Nodup) (hr : ∀ x ∈ l, 0 ≤ x ∧ x < n) : l.mergeSort (fun x y => decide (x ≤ y)) = ofZ n l := by
  have hp := List.mergeSort_perm l (fun x y => decide (x ≤ y))
  have hs : (l.mergeSort (fun x y => decide (x ≤ y))).Pairwise (fun a b => decide (a ≤ b) = true) := List.pairwise_mergeSort (fun a b c h1 h2 => by simp at *; omega) (fun a b => by simp; omega) l
  refine lt_uniq ?_ (ofZ_sorted n l) (fun x => ?_)
  · have hn : (l.mergeSort (fun x y => decide (x ≤ y))).Nodup := hp.nodup_iff.2 hd
    exact (hs.and hn).imp (fun h => by have h1 := h.1; have h2 := h.2; simp at h1; omega)
  · rw [hp.mem_iff, ofZ_mem]
    exact ⟨fun h => ⟨hr x h, h⟩, fun h => h.2⟩

theorem ofZ_congr {n : Nat} {a b : List Int} (h : ∀ x, x ∈ a ↔ x ∈ b) : ofZ n a = ofZ n b :=
  lt_uniq (ofZ_sorted n a) (ofZ_sorted n b) (fun x => by rw [ofZ_mem, ofZ_mem, h])
theorem ofZ_self {n : Nat} {a : List Int} (hs : a.Pairwise (· < ·)) (hr : ∀ x ∈ a, 0 ≤ x ∧ x < n) : ofZ n a = a :=
  lt_uniq (ofZ_sorted n a) hs (fun x => by rw [ofZ_mem]; exact ⟨fun h => h.2, fun h => ⟨hr x h, h⟩⟩)
end Go.Proofs.Ytgmhdmhnedljcaa.Rhy
