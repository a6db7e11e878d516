/-
  Helpers of the claims beside this text: RotateRhythm of the model and of the program.
-/
import Derived.Test.YtgmhdmhnedljcaaMoves
import Derived.Test.YtgmhdmhnedljcaaFrm
namespace Go.Proofs.Ytgmhdmhnedljcaa.Rhy
open Go.RowKit
set_option linter.unusedVariables false

def RotC (s : Int) (zs : List Int) (k : Int) : Prop := Ok s zs ∧ -1000 ≤ k ∧ k ≤ 1000
theorem gcd_one (s : Int) : Nat.gcd (1 : Int).natAbs s.natAbs = 1 := by simp
theorem gcd_mone (s : Int) : Nat.gcd (-1 : Int).natAbs s.natAbs = 1 := by simp


-- the program
theorem moved_of (s : Int) (a : Option Addr) (len cap : Nat) (zs : List Int) (u k : Int) (w : World) (h : IntsAt w a len zs) (hm : len ≤ 1048576) (ho : Ok s zs) (hu1 : -1000 ≤ u) (hu2 : u ≤ 1000) (hk1 : -1000 ≤ k) (hk2 : k ≤ 1000) (hc : Nat.gcd u.natAbs s.natAbs = 1) :
    Calls Try.prog 36 #[rhy s a len cap, .int .i64 u, .int .i64 k] w (RhyPost s (ofZ s.toNat (mapL s zs u k)) w) := by
  rw [← moved_eq ho hc]
  exact moved_any s a len cap zs u k w h hm ho hu1 hu2 hk1 hk2




end Go.Proofs.Ytgmhdmhnedljcaa.Rhy

/-
  Helpers of the claims beside this text: OtherRhythm of the model and of the program.
-/
namespace Go.Proofs.Ytgmhdmhnedljcaa.Rhy
open Go.RowKit
set_option linter.unusedVariables false

/-- The numbers from 0 up to n that are not in a list. -/
def notZ (n : Nat) (l : List Int) : List Int := ((List.range n).map Int.ofNat).filter (fun x => !l.contains x)
theorem notZ_len (n : Nat) (l : List Int) : (notZ n l).length ≤ n := by
  unfold notZ
  refine Nat.le_trans (List.length_filter_le _ _) ?_
  simp
theorem notZ_zero (l : List Int) : notZ 0 l = [] := rfl
theorem notZ_no {k : Nat} {l : List Int} (h : l.contains (k : Int) = true) : notZ (k + 1) l = notZ k l := by
  unfold notZ
  rw [List.range_succ, List.map_append, List.filter_append]
  simp only [List.map_cons, List.map_nil, List.filter_cons, List.filter_nil]
  rw [show Int.ofNat k = (k : Int) from rfl, h]
  simp
theorem notZ_yes {k : Nat} {l : List Int} (h : l.contains (k : Int) = false) : notZ (k + 1) l = notZ k l ++ [(k : Int)] := by
  unfold notZ
  rw [List.range_succ, List.map_append, List.filter_append]
  simp only [List.map_cons, List.map_nil, List.filter_cons, List.filter_nil]
  rw [show Int.ofNat k = (k : Int) from rfl, h]
  simp
theorem notZ_int {n : Nat} {l : List Int} (h : n ≤ 1000) : AllInt (notZ n l) := by
  intro z hz
  unfold notZ at hz
  rw [List.mem_filter, List.mem_map] at hz
  obtain ⟨⟨a, ha, rfl⟩, _⟩ := hz
  rw [List.mem_range] at ha
  simp
  omega

def OthAt (s : Int) (k : Nat) (zs : List Int) (w1 wr : World) : Prop :=
  ∃ av cv, Box wr w1.heap.size (.int .i64 s) (.slice av (notZ k zs).length cv) 28 ∧ wr.ownsRow (w1.heap.size + 1) 3 1 (.slice av (notZ k zs).length cv) (notZ k zs).length (ints (notZ k zs)) ∧ Below w1.heap.size w1 wr ∧ w1.heap.size + 1 ≤ wr.heap.size
theorem oth_start (s : Int) (zs : List Int) (w1 : World) : OthAt s 0 zs w1 (w1.alloc (.cells #[.int .i64 s, .slice none 0 0] 28)) :=
  ⟨none, 0, box_new w1 _ _ _, World.ownsRow_nil _ _ _ _, bel1 w1 _, by simp⟩
theorem oth_keep {s : Int} {k : Nat} {zs : List Int} {w1 wr w2 : World} (h : OthAt s k zs w1 wr) (hb : Below wr.heap.size wr w2) : OthAt s k zs w1 w2 := by
  obtain ⟨av, cv, h1, h2, h3, h4⟩ := h
  exact ⟨av, cv, h1.keep hb h1.lt, own_below h2 hb, h3.trans (hb.mono (by omega)), Nat.le_trans h4 hb.size⟩


-- the program
theorem remB_self {k n : Int} (h0 : 0 ≤ k) (h1 : k < n) : remB k n = k := Int.emod_eq_of_lt h0 h1



end Go.Proofs.Ytgmhdmhnedljcaa.Rhy
namespace Go.Proofs.Ytgmhdmhnedljcaa.Rhy
open Go.RowKit

-- stretch
/-- u is a unit of s. -/
def UC (s u : Int) : Prop := (1 ≤ u ∧ u ≤ max 1 (s - 1)) ∧ Nat.gcd u.natAbs s.natAbs = 1





end Go.Proofs.Ytgmhdmhnedljcaa.Rhy

/-
  Helpers of the claims beside this text: RepeatRhythm of the model and of the program.
-/
namespace Go.Proofs.Ytgmhdmhnedljcaa.Rhy
open Go.RowKit
set_option linter.unusedVariables false

def barL (s : Int) (zs : List Int) (b : Nat) : List Int := zs.map fun p => (b : Int) * s + p
def repL (s : Int) (zs : List Int) (n : Nat) : List Int := (List.range n).flatMap (barL s zs)
def repP (s : Int) (zs : List Int) (b j : Nat) : List Int := repL s zs b ++ barL s (zs.take j) b
theorem repP_zero (s : Int) (zs : List Int) (b : Nat) : repP s zs b 0 = repL s zs b := by simp [repP, barL]
theorem repL_zero (s : Int) (zs : List Int) : repL s zs 0 = [] := rfl
theorem repP_all (s : Int) (zs : List Int) (b j : Nat) (h : zs.length ≤ j) : repP s zs b j = repL s zs (b + 1) := by
  unfold repP repL
  rw [List.take_of_length_le h, List.range_succ, List.flatMap_append]
  simp
theorem repP_snoc {s : Int} {zs : List Int} {b j : Nat} {z : Int} (h : zs[j]? = some z) : repP s zs b (j + 1) = repP s zs b j ++ [(b : Int) * s + z] := by
  unfold repP barL
  rw [List.take_add_one, h]
  simp
theorem repL_len (s : Int) (zs : List Int) (n : Nat) : (repL s zs n).length = n * zs.length := by
  induction n with
  | zero => simp [repL]
  | succ n ih =>
    rw [← repP_all s zs n zs.length (Nat.le_refl _)]
    unfold repP
    rw [List.length_append, ih, List.take_length]
    simp [barL, Nat.succ_mul]
theorem repP_len (s : Int) (zs : List Int) (b j : Nat) : (repP s zs b j).length ≤ (b + 1) * zs.length := by
  unfold repP
  rw [List.length_append, repL_len, Nat.succ_mul]
  simp [barL]
  omega
theorem len_bd {b n : Nat} (h1 : b ≤ 24) (h2 : n ≤ 24) : (b + 1) * n ≤ 600 := Nat.le_trans (Nat.mul_le_mul (show b + 1 ≤ 25 by omega) h2) (by omega)
theorem bs_bd {b : Nat} {s : Int} (h1 : b ≤ 24) (h2 : 0 ≤ s) (h3 : s ≤ 24) : 0 ≤ (b : Int) * s ∧ (b : Int) * s ≤ 576 := by
  refine ⟨Int.mul_nonneg (by omega) h2, ?_⟩
  have := Int.mul_le_mul (show (b : Int) ≤ 24 by omega) h3 h2 (by omega)
  omega
theorem repL_int {s : Int} {zs : List Int} {n : Nat} (ho : Ok s zs) (hn : n ≤ 24) : AllInt (repL s zs n) := by
  intro z hz
  unfold repL barL at hz
  rw [List.mem_flatMap] at hz
  obtain ⟨b, hb, hz⟩ := hz
  rw [List.mem_map] at hz
  obtain ⟨p, hp, rfl⟩ := hz
  rw [List.mem_range] at hb
  have h1 := ok_range ho p hp
  have h2 := ho.1
  have h3 := bs_bd (b := b) (s := s) (by omega) (by omega) h2.2
  omega

/-- A box that holds a number and a list of the call's own: block number 'w1.heap.size'. -/
def LstAt (sz : Int) (l : List Int) (w1 wr : World) : Prop :=
  ∃ av cv, Box wr w1.heap.size (.int .i64 sz) (.slice av l.length cv) 28 ∧ wr.ownsRow (w1.heap.size + 1) 3 1 (.slice av l.length cv) l.length (ints l) ∧ Below w1.heap.size w1 wr ∧ w1.heap.size + 1 ≤ wr.heap.size
theorem lst_start (sz : Int) (w1 : World) : LstAt sz [] w1 (w1.alloc (.cells #[.int .i64 sz, .slice none 0 0] 28)) :=
  ⟨none, 0, box_new w1 _ _ _, World.ownsRow_nil _ _ _ _, bel1 w1 _, by simp⟩
theorem lst_snoc {sz t : Int} {l : List Int} {w1 wr w2 : World} {a' : Option Addr} {c' : Nat} {v : Value} (hB : Box wr w1.heap.size (.int .i64 sz) v 28) (hX : Below w1.heap.size w1 wr) (hZ : w1.heap.size + 1 ≤ wr.heap.size)
    (hO : w2.ownsRow (w1.heap.size + 1) 3 1 (.slice a' (l ++ [t]).length c') (l ++ [t]).length (ints (l ++ [t]))) (hb : Below (w1.heap.size + 1) wr w2) :
    LstAt sz (l ++ [t]) w1 (w2.setCell ⟨w1.heap.size, 1, none⟩ (.slice a' (l ++ [t]).length c')) :=
  ⟨a', c', (hB.keep hb (by omega)).set1 _, ownsRow_setCell_below hO (by show w1.heap.size < w1.heap.size + 1; omega) _, (hX.trans (hb.mono (by omega))).setCell (by show w1.heap.size ≤ w1.heap.size; omega) _, by have := hb.size; simp; omega⟩





end Go.Proofs.Ytgmhdmhnedljcaa.Rhy

/-
  Helpers of the claims beside this text: plain mathematics: other beats, two bars, beats around.
-/
namespace Go.Proofs.Ytgmhdmhnedljcaa.Rhy
set_option linter.unusedVariables false

theorem not_mem {n : Nat} {l : List Int} {x : Int} : x ∈ notZ n l ↔ (0 ≤ x ∧ x < n) ∧ x ∉ l := by
  unfold notZ
  rw [List.mem_filter, List.mem_map]
  constructor
  · rintro ⟨⟨i, hi, rfl⟩, h⟩
    rw [List.mem_range] at hi
    exact ⟨by show 0 ≤ (i : Int) ∧ (i : Int) < n; omega, by simpa using h⟩
  · rintro ⟨hx, h⟩
    exact ⟨⟨x.toNat, by rw [List.mem_range]; omega, by show (x.toNat : Int) = x; omega⟩, by simpa using h⟩
theorem not_sorted (n : Nat) (l : List Int) : (notZ n l).Pairwise (· < ·) := by
  unfold notZ
  refine List.Pairwise.filter _ ?_
  rw [List.pairwise_map]
  exact List.pairwise_lt_range.imp fun h => by show (_ : Int) < _; simp; omega
theorem not_ok {s : Int} {zs : List Int} (ho : Ok s zs) : Ok s (notZ s.toNat zs) := by
  refine ok_of ho.1.1 ho.1.2 (not_sorted _ _) fun z hz => ?_
  have := (not_mem.1 hz).1
  have := ho.1.1
  omega
theorem not_not {s : Int} {zs : List Int} (ho : Ok s zs) : notZ s.toNat (notZ s.toNat zs) = zs := by
  refine ok_ext (not_ok (not_ok ho)) ho fun x hx => ?_
  rw [not_mem, not_mem]
  constructor
  · rintro ⟨h1, h2⟩
    by_cases q : x ∈ zs
    · exact q
    · exact absurd ⟨h1, q⟩ h2
  · intro q
    exact ⟨by omega, fun h => h.2 q⟩
theorem filter_two {α : Type} (p : α → Bool) (l : List α) : (l.filter p).length + (l.filter fun x => !p x).length = l.length := by
  induction l with
  | nil => rfl
  | cons x l ih => cases h : p x <;> simp [h] <;> omega
theorem not_len {s : Int} {zs : List Int} (ho : Ok s zs) : (notZ s.toNat zs).length + zs.length = s.toNat := by
  have h1 : ofZ s.toNat zs = zs := ofZ_self (ok_sorted ho) (fun x hx => by have := ok_range ho x hx; omega)
  have h2 := filter_two (fun x => zs.contains x) ((List.range s.toNat).map Int.ofNat)
  have h3 : ((List.range s.toNat).map Int.ofNat).length = s.toNat := by simp
  unfold ofZ at h1
  unfold notZ
  rw [h1, h3] at h2
  omega
/-- Both together have a beat on every pulse. -/
theorem all_len {s : Int} {zs : List Int} (ho : Ok s zs) : (ofZ s.toNat (zs ++ notZ s.toNat zs)).length = s.toNat := by
  have : ofZ s.toNat (zs ++ notZ s.toNat zs) = (List.range s.toNat).map Int.ofNat := by
    refine lt_uniq (ofZ_sorted _ _) ?_ fun x => ?_
    · rw [List.pairwise_map]
      exact List.pairwise_lt_range.imp fun h => by show (_ : Int) < _; simp; omega
    · rw [ofZ_mem, List.mem_append, not_mem, List.mem_map]
      constructor
      · rintro ⟨h, _⟩
        exact ⟨x.toNat, by rw [List.mem_range]; omega, by show (x.toNat : Int) = x; omega⟩
      · rintro ⟨i, hi, rfl⟩
        rw [List.mem_range] at hi
        have hb : 0 ≤ (i : Int) ∧ (i : Int) < s.toNat := by omega
        refine ⟨hb, ?_⟩
        by_cases q : Int.ofNat i ∈ zs
        · exact .inl q
        · exact .inr ⟨hb, q⟩
  rw [this]
  simp
/-! beats around -/
theorem hasB_mem {zs : List Int} {x : Int} : hasB zs x = true ↔ x ∈ zs := by unfold hasB; simp
theorem has_rot {n : Int} {zs : List Int} (ho : Ok n zs) (p k : Int) : hasB (rotZ n zs 1 k) (remB (p + k) n) = hasB zs (remB p n) := by
  have e : (hasB (rotZ n zs 1 k) (remB (p + k) n) = true) ↔ (hasB zs (remB p n) = true) := by
    rw [hasB_mem, hasB_mem, rot_mem ho]
    unfold remB
    rw [em_sub, show p + k - k = p by omega]
    exact ⟨fun q => q.2, fun q => ⟨em_bd _ ho.1.1, q⟩⟩
  cases h : hasB zs (remB p n) with
  | true => exact e.2 h
  | false => cases h2 : hasB (rotZ n zs 1 k) (remB (p + k) n) with
    | false => rfl
    | true => rw [e.1 h2] at h; cases h
theorem has_mir {n : Int} {zs : List Int} (ho : Ok n zs) (p : Int) : hasB (rotZ n zs (-1) 0) (remB (-p) n) = hasB zs (remB p n) := by
  have e : (hasB (rotZ n zs (-1) 0) (remB (-p) n) = true) ↔ (hasB zs (remB p n) = true) := by
    rw [hasB_mem, hasB_mem, mir_mem ho]
    unfold remB
    rw [sub_em, show (0 : Int) - -p = p by omega]
    exact ⟨fun q => q.2, fun q => ⟨em_bd _ ho.1.1, q⟩⟩
  cases h : hasB zs (remB p n) with
  | true => exact e.2 h
  | false => cases h2 : hasB (rotZ n zs (-1) 0) (remB (-p) n) with
    | false => rfl
    | true => rw [e.1 h2] at h; cases h
theorem has_other {n : Int} {zs : List Int} (ho : Ok n zs) (p : Int) : hasB (notZ n.toNat zs) (remB p n) = !hasB zs (remB p n) := by
  have hb := em_bd p ho.1.1
  have e : (hasB (notZ n.toNat zs) (remB p n) = true) ↔ ¬ (hasB zs (remB p n) = true) := by
    rw [hasB_mem, hasB_mem, not_mem]
    unfold remB
    exact ⟨fun q => q.2, fun q => ⟨by have := ho.1.1; omega, q⟩⟩
  cases h : hasB zs (remB p n) with
  | true =>
    cases h2 : hasB (notZ n.toNat zs) (remB p n) with
    | false => rfl
    | true => exact absurd h (e.1 h2)
  | false => exact e.2 (by rw [h]; simp)
/-! two bars -/
theorem rep_mem {n : Int} {zs : List Int} (ho : Ok n zs) {x : Int} : x ∈ repL n zs 2 ↔ (0 ≤ x ∧ x < 2 * n) ∧ x % n ∈ zs := by
  have e : repL n zs 2 = barL n zs 0 ++ barL n zs 1 := by simp [repL, List.range_succ]
  have h1 := ho.1.1
  rw [e, List.mem_append]
  unfold barL
  rw [List.mem_map, List.mem_map]
  constructor
  · rintro (⟨y, hy, rfl⟩ | ⟨y, hy, rfl⟩)
    · have hb := ok_range ho y hy
      have : ((0 : Nat) : Int) * n + y = y := by simp
      rw [this, em_self hb]
      exact ⟨by omega, hy⟩
    · have hb := ok_range ho y hy
      have : ((1 : Nat) : Int) * n + y = y + n := by rw [Int.natCast_one, Int.one_mul]; omega
      rw [this, Int.add_emod_right, em_self hb]
      exact ⟨by omega, hy⟩
  · rintro ⟨hx, hm⟩
    by_cases q : x < n
    · rw [em_self ⟨hx.1, q⟩] at hm
      exact .inl ⟨x, hm, by simp⟩
    · have : x % n = x - n := by
        have := em_self (a := x - n) (n := n) (by omega)
        rw [← this, Int.sub_emod_right]
      rw [this] at hm
      exact .inr ⟨x - n, hm, by rw [Int.natCast_one, Int.one_mul]; omega⟩
theorem rep_ok {n : Int} {zs : List Int} (ho : Ok n zs) (h : 2 * n ≤ 24) : Ok (2 * n) (repL n zs 2) := by
  have e : repL n zs 2 = barL n zs 0 ++ barL n zs 1 := by simp [repL, List.range_succ]
  refine ok_of (by have := ho.1.1; omega) h ?_ fun z hz => ((rep_mem ho).1 hz).1
  rw [e]
  unfold barL
  rw [List.pairwise_append]
  refine ⟨?_, ?_, ?_⟩
  · rw [List.pairwise_map]; exact (ok_sorted ho).imp fun h => by omega
  · rw [List.pairwise_map]; exact (ok_sorted ho).imp fun h => by omega
  · intro a ha b hb
    rw [List.mem_map] at ha hb
    obtain ⟨y, hy, rfl⟩ := ha
    obtain ⟨z, hz, rfl⟩ := hb
    have := ok_range ho y hy
    have := ok_range ho z hz
    rw [Int.natCast_one, Int.one_mul]
    simp
    omega
theorem rep_len (n : Int) (zs : List Int) : (repL n zs 2).length = 2 * zs.length := by
  have e : repL n zs 2 = barL n zs 0 ++ barL n zs 1 := by simp [repL, List.range_succ]
  rw [e, List.length_append]
  simp [barL]
  omega
theorem per_eq2 {n m : Int} {xs ys : List Int} (hx : Ok n xs) (hy : Ok m ys) (h : ∀ k, Fix n xs k ↔ Fix m ys k) : perZ n xs = perZ m ys := by
  obtain ⟨p1, _⟩ := per_bd n xs hx.1.1
  obtain ⟨q1, _⟩ := per_bd m ys hy.1.1
  rcases Nat.lt_trichotomy (perZ n xs) (perZ m ys) with q | q | q
  · exact absurd ((h _).1 (per_fix hx)) (per_least hy (by omega) (by omega))
  · exact q
  · exact absurd ((h _).2 (per_fix hy)) (per_least hx (by omega) (by omega))
theorem fix_mem {n : Int} {zs : List Int} (ho : Ok n zs) (k : Int) : Fix n zs k ↔ ∀ x, 0 ≤ x ∧ x < n → ((x - k) % n ∈ zs ↔ x ∈ zs) := by
  unfold Fix
  constructor
  · intro h x hx
    have := rot_mem ho (k := k) (x := x)
    rw [h] at this
    rw [this]
    exact ⟨fun q => ⟨hx, q⟩, fun q => q.2⟩
  · intro h
    refine ok_ext (rot_ok ho.1 _ _) ho fun x hx => ?_
    rw [rot_mem ho, ← h x hx]
    exact ⟨fun q => q.2, fun q => ⟨hx, q⟩⟩
theorem rep_per {n : Int} {zs : List Int} (ho : Ok n zs) (h : 2 * n ≤ 24) : perZ (2 * n) (repL n zs 2) = perZ n zs := by
  have h1 := ho.1.1
  have two : ∀ a : Int, (a % (2 * n)) % n = a % n := fun a => Int.emod_emod_of_dvd a ⟨2, by omega⟩
  refine per_eq2 (rep_ok ho h) ho fun k => ?_
  rw [fix_mem (rep_ok ho h), fix_mem ho]
  constructor
  · intro q x hx
    have := q x (by omega)
    rw [rep_mem ho, rep_mem ho, two, em_self hx] at this
    exact ⟨fun z => (this.1 ⟨em_bd _ (by omega), z⟩).2, fun z => (this.2 ⟨by omega, z⟩).2⟩
  · intro q x hx
    rw [rep_mem ho, rep_mem ho, two]
    have hb := em_bd x h1
    have := q (x % n) hb
    rw [em_sub] at this
    exact ⟨fun z => ⟨hx, this.1 z.2⟩, fun z => ⟨em_bd _ (by omega), this.2 z.2⟩⟩
end Go.Proofs.Ytgmhdmhnedljcaa.Rhy
