/-
  Helpers of the claims beside this text: what eqStringS, markStringS, heldStringS and markText of the laws do.
-/
import Derived.Test.YtglcjfhiekhjoaaRows
import Derived.WalkKit
import Derived.WalkSpells
import Derived.WalkLawsBesides
import Derived.Laws.BytesString
import Derived.Laws.Concat
import Derived.Lib.Hide
import Derived.Deep.RegionHeld3
import Derived.WalkSmall
import Derived.Deep.QuietTactic
import Derived.BigQuiet
namespace Go.Proofs.Ytglcjfhiekhjoaa
open Go.RowKit

def dg (n : Nat) : UInt8 := UInt8.ofNat (48 + n % 10)
def digs (n : Nat) (acc : List UInt8) : List UInt8 :=
  if h : n = 0 then acc else digs (n / 10) (dg n :: acc)
termination_by n
decreasing_by omega

theorem digs_zero (acc : List UInt8) : digs 0 acc = acc := by rw [digs]; simp
theorem digs_step (n : Nat) (acc : List UInt8) (h : 0 < n) : digs n acc = digs (n / 10) (dg n :: acc) := by
  rw [digs, dif_neg (by omega)]

theorem conv_one (w : World) (c : Nat) :
    (convert 40 9 (.slice (some ⟨w.heap.size, 0, none⟩) 1 1)).run Try.prog (w.alloc (.cells #[.int .u8 c] 5)) = .ok (.string ⟨#[UInt8.ofNat c]⟩) (w.alloc (.cells #[.int .u8 c] 5)) := by
  rw [run_convert_bytes_string _ 40 9 5 _ 1 1 Try.underlying40 Try.underlying5 Try.underlying9]
  rw [run_bytesToString _ _ 1 1 [(c : Int)]]
  · rfl
  · refine run_loadCells_list _ _ [Value.int .u8 c] fun j v hj => ?_
    match j, hj with
    | 0, hj => simp at hj; subst hj; simp [Addr.add]

theorem app_one (x : UInt8) (acc : List UInt8) : ((⟨#[x]⟩ : ByteArray) ++ ⟨acc.toArray⟩) = ⟨(x :: acc).toArray⟩ := by
  apply ByteArray.ext
  simp

theorem mark_text (k : Nat) (w : World) (h0 : 1 ≤ k) (hk : k ≤ 1073741824) :
    Calls Try.prog 30 #[.int .i64 k] w fun e w' => e = .returned (.string ⟨(109 :: digs k []).toArray⟩) ∧ Below w.heap.size w w' := by
  have hle : decide (k = 0) = false := by simp; omega
  go_enter Try.func30, Try.ntmps30
  go_wp2
  go_loopw [0, 3] (fun i s wr => ∃ (n : Nat) (acc : List UInt8), n ≤ 1073741824 ∧ acc.length ≤ 1073741824 ∧ i = .int .i64 n ∧ s = .string ⟨acc.toArray⟩ ∧ digs n acc = digs k [] ∧ acc.length + n ≤ k ∧ Below w.heap.size w wr) (fun i _ _ => (intOf i).toNat)
  case atStart => exact ⟨k, [], hk, by simp, rfl, rfl, rfl, by simp, Below.refl _ _⟩
  case round =>
    obtain ⟨n, acc, hn, hl, rfl, rfl, hd, hs, hb⟩ := hrel
    have HD := Lib.hid hd
    clear hd
    by_cases hp : 0 < n
    · have hc : (convert 40 9 (.slice (some ⟨wr.heap.size, 0, none⟩) 1 1)).run Try.prog (wr.alloc (.cells #[.int .u8 (48 + (n : Int) % 10)] 5)) = .ok (.string ⟨#[dg n]⟩) (wr.alloc (.cells #[.int .u8 (48 + (n : Int) % 10)] 5)) := by
        have := conv_one wr (48 + n % 10)
        unfold dg
        simpa using this
      clear hle
      go_wp2
      go_roundw
      case rel =>
        refine ⟨n / 10, dg n :: acc, by omega, by simp; omega, by go_num, ?_, by rw [← digs_step n acc hp]; exact HD.out, by simp; omega, hb.alloc hb.size _⟩
        rw [app_one]
      case measure => simp [intOf]; omega
    · have e : n = 0 := by omega
      subst e
      clear hp
      go_wp2
      go_ret
      have e := HD.out
      rw [digs_zero] at e
      exact ⟨by rw [← e, ← app_one]; rfl, hb⟩

theorem own_shape {w : World} {B : Nat} {v : Value} {n : Nat} {l : List ByteArray} (h : w.ownsRow B 9 1 v n (l.map Value.string)) :
    l.length = n ∧ ∃ a cap, v = .slice a n cap ∧ (0 < n → ∃ g, a = some ⟨g, 0, none⟩ ∧ B ≤ g ∧ g < w.heap.size ∧ ∀ j s, l[j]? = some s → w.cell? ⟨g, j, none⟩ = some (.string s)) := by
  have hc := @World.ownsRow.cells w B 9 1 v n (l.map Value.string) h
  have hlt := h.lt
  obtain ⟨h1, ⟨rfl, h0⟩ | ⟨g, cap, cur, rfl, hB, hg, hn, hm, hs, ht⟩⟩ := h
  · exact ⟨by simpa using h1, none, 0, by rw [h0], fun hp => by omega⟩
  · refine ⟨by simpa using h1, _, cap, rfl, fun hp => ⟨g, rfl, hB, (hlt g rfl).2, fun j s hj => ?_⟩⟩
    have := hc (g := g) rfl j (.string s) (by simp [hj])
    rcases j with _ | j <;> simpa [Addr.add] using this

theorem eq_same (B1 B2 : Nat) (va vb : Value) (n : Nat) (l : List ByteArray) (w : World) (ha : w.ownsRow B1 9 1 va n (l.map Value.string)) (hb : w.ownsRow B2 9 1 vb n (l.map Value.string)) (hl : n ≤ 1073741824) :
    Calls Try.prog 15 #[va, vb] w fun e w' => e = .returned (.bool true) ∧ Below w.heap.size w w' := by
  obtain ⟨hn, a, capa, rfl, fa⟩ := own_shape ha
  obtain ⟨_, b, capb, rfl, fb⟩ := own_shape hb
  have FA := Lib.hid fa
  have FB := Lib.hid fb
  have HN := Lib.hid hn
  clear fa fb ha hb hn
  go_enter Try.func15, Try.ntmps15
  go_wp2
  go_loopw [5] (fun i wr => ∃ k : Nat, k ≤ n ∧ i = .int .i64 k ∧ Below w.heap.size w wr) (fun i _ => n - (intOf i).toNat)
  case atStart => exact ⟨0, by omega, rfl, Below.refl _ _⟩
  case round =>
    obtain ⟨k, hk, rfl, hnx⟩ := hrel
    by_cases hlt : k < n
    · obtain ⟨ga, rfl, _, la, ca⟩ := FA.out (by omega)
      obtain ⟨gb, rfl, _, lb, cb⟩ := FB.out (by omega)
      obtain ⟨s, hs⟩ : ∃ s, l[k]? = some s := ⟨l[k]'(by rw [HN.out]; exact hlt), by simp⟩
      have c1 : wr.cell? ⟨ga, k, none⟩ = some (.string s) := by rw [hnx.cell (p := ⟨ga, k, none⟩) la]; exact ca k s hs
      have c2 : wr.cell? ⟨gb, k, none⟩ = some (.string s) := by rw [hnx.cell (p := ⟨gb, k, none⟩) lb]; exact cb k s hs
      have HX := Lib.hid hnx
      clear ca cb hnx hs
      go_wp2
      go_quiet (fail)
      go_wp2
      go_roundw
      case rel => exact ⟨k + 1, by omega, by go_num, below_drewN HX.out _⟩
      case measure => simp [intOf]; omega
    · go_wp2
      go_ret
      exact ⟨rfl, hnx⟩

def markT (k : Nat) : ByteArray := ⟨(109 :: digs k []).toArray⟩
def marks (k n : Nat) : List ByteArray := (List.range n).map fun i => markT (k + i)

theorem mark_one (k : Nat) (w : World) (hk : k ≤ 1073741000) :
    Calls Try.prog 30 #[.int .i64 (1 + (k : Int))] w fun e w' => e = .returned (.string (markT (1 + k))) ∧ Below w.heap.size w w' := by
  have := mark_text (1 + k) w (by omega) (by omega)
  simpa [markT] using this

theorem kept_call {w W W' : World} {g k : Nat} {v : Value} (hg : g < w.heap.size) (h1 : W.cell? ⟨g, k, none⟩ = some v) (h2 : Below w.heap.size w W) (hb : Below W.heap.size W W') :
    W'.cell? ⟨g, k, none⟩ = some v ∧ Below w.heap.size w W' :=
  ⟨by rw [hb.cell (p := ⟨g, k, none⟩) (by have := h2.size; show g < _; omega)]; exact h1, h2.trans (hb.mono h2.size)⟩
theorem held_marks (B : Nat) (va : Value) (n : Nat) (w : World) (ha : w.ownsRow B 9 1 va n ((marks 1 n).map Value.string)) (hl : n ≤ 1073741000) :
    Calls Try.prog 17 #[va, .int .i64 1] w fun e w' => e = .returned (.int .i64 ((1 : Int) + n)) ∧ Below w.heap.size w w' := by
  obtain ⟨hn, a, capa, rfl, fa⟩ := own_shape ha
  have FA := Lib.hid fa
  clear fa ha hn
  go_enter Try.func17, Try.ntmps17
  go_wp2
  go_loopw [5, 1] (fun i q wr => ∃ k : Nat, k ≤ n ∧ i = .int .i64 k ∧ q = .int .i64 (1 + (k : Int)) ∧ Below w.heap.size w wr) (fun i _ _ => n - (intOf i).toNat)
  case atStart => exact ⟨0, by omega, rfl, rfl, Below.refl _ _⟩
  case round =>
    obtain ⟨k, hk, rfl, rfl, hnx⟩ := hrel
    by_cases hlt : k < n
    · obtain ⟨ga, rfl, _, la, ca⟩ := FA.out (by omega)
      have c1 : wr.cell? ⟨ga, k, none⟩ = some (.string (markT (1 + k))) := by
        rw [hnx.cell (p := ⟨ga, k, none⟩) la]
        exact ca k _ (by simp [marks, hlt])
      clear ca
      go_wp2
      go_region_held3 (fun w' => w'.cell? ⟨ga, k, none⟩ = some (.string (markT (1 + k))) ∧ Below w.heap.size w w')
        (first | exact ⟨by simpa using c1, hnx.drew⟩ | exact kept_call la c1 hnx ((Below.refl wr.heap.size wr).drew.trans hcall))
        ((go_at_call 30; refine (mark_one k _ (by omega)).mono ?_; rintro e w' ⟨rfl, hcall⟩))
      all_goals
        go_wp2
        go_roundw
        case rel => exact ⟨k + 1, by omega, by go_num, by go_num, (by assumption : _ ∧ Below w.heap.size w w').2⟩
        case measure => simp [intOf]; omega
    · go_wp2
      go_ret
      have e : k = n := by omega
      subst e
      exact ⟨rfl, hnx⟩
theorem grown_of_below {w w' : World} (h : Below w.heap.size w w') (row : Option Nat) : w.grownBy w' row := ⟨h.os, h.tape, h.output, h.size, fun k hk _ => h.block k hk⟩
theorem own_below {w w' : World} {B : Nat} {e : TypeId} {size : Nat} {v : Value} {n : Nat} {xs : List Value} (h : w.ownsRow B e size v n xs) (hb : Below w.heap.size w w') : w'.ownsRow B e size v n xs := by
  cases hv : v.ownBlock with
  | none => exact h.kept (grown_of_below hb none) (.inl hv)
  | some g => exact h.kept (grown_of_below hb none) (.inr (by rw [hv]; simp))

theorem set_mid {α : Type} (a b : List α) (x y : α) : (a ++ x :: b).set a.length y = a ++ y :: b := by
  induction a with
  | nil => rfl
  | cons c a ih => simp [ih]
theorem marks_step (l : List ByteArray) (n k : Nat) (hn : l.length = n) (hk : k < n) :
    ((marks 1 k ++ l.drop k).map Value.string).set k (.string (markT (1 + k))) = (marks 1 (k + 1) ++ l.drop (k + 1)).map Value.string := by
  have hl : (marks 1 k).length = k := by simp [marks]
  have e : marks 1 (k + 1) = marks 1 k ++ [markT (1 + k)] := by simp [marks, List.range_succ]
  have hd : l.drop k = l[k]'(by omega) :: l.drop (k + 1) := by rw [List.drop_eq_getElem_cons (by omega)]
  rw [e, hd, List.map_append, List.map_append, List.map_append, List.map_cons]
  have hs := set_mid ((marks 1 k).map Value.string) ((l.drop (k + 1)).map Value.string) (.string (l[k]'(by omega))) (.string (markT (1 + k)))
  rw [List.length_map, hl] at hs
  rw [hs, List.append_assoc]
  rfl

theorem mark_row (B : Nat) (va : Value) (n : Nat) (l : List ByteArray) (w : World) (ha : w.ownsRow B 9 1 va n (l.map Value.string)) (hl : n ≤ 1073741000) :
    Calls Try.prog 16 #[va, .int .i64 1] w fun e w' => e = .returned (.int .i64 ((1 : Int) + n)) ∧ w'.ownsRow B 9 1 va n ((marks 1 n).map Value.string) ∧ Below B w w' := by
  have hlen : l.length = n := by simpa using ha.1
  obtain ⟨a, cap, rfl⟩ : ∃ a cap, va = .slice a n cap := by
    obtain ⟨_, a, cap, h, _⟩ := own_shape ha
    exact ⟨a, cap, h⟩
  have HA := Lib.hid ha
  have HL := Lib.hid hlen
  clear ha hlen
  go_enter Try.func16, Try.ntmps16
  go_wp2
  go_loopw [5, 1] (fun i q wr => ∃ k : Nat, k ≤ n ∧ i = .int .i64 k ∧ q = .int .i64 (1 + (k : Int)) ∧ wr.ownsRow B 9 1 (.slice a n cap) n ((marks 1 k ++ l.drop k).map Value.string) ∧ Below B w wr) (fun i _ _ => n - (intOf i).toNat)
  case atStart => exact ⟨0, by omega, rfl, rfl, by simpa [marks] using HA.out, Below.refl _ _⟩
  case round =>
    obtain ⟨k, hk, rfl, rfl, hown, hnx⟩ := hrel
    have HO := Lib.hid hown
    have HX := Lib.hid hnx
    clear hown hnx
    by_cases hlt : k < n
    · obtain ⟨_, a', cap', hv, hg⟩ := own_shape HO.out
      obtain ⟨g, rfl, hBg, hgs, hcell⟩ := hg (by omega)
      obtain ⟨rfl, rfl⟩ : a = some ⟨g, 0, none⟩ ∧ cap = cap' := by simpa using hv
      clear hv hcell
      obtain ⟨s, hs⟩ : ∃ s, (marks 1 k ++ l.drop k)[k]? = some s := ⟨_, List.getElem?_eq_getElem (by have := HL.out; simp [marks]; omega)⟩
      have HS := Lib.hid hs
      clear hs
      go_wp2_with (go_at_call 30; refine (mark_one k _ (by omega)).mono ?_; rintro e w1 ⟨rfl, hcall⟩; have HO1 := Lib.hid (own_below HO.out hcall); have HC := Lib.hid hcall; clear hcall; have hf1 := HO1.out.frozenAt k; have hc1 : w1.cell? ⟨g, k, none⟩ = some (.string s) := by rw [HO1.out.cellAt k (by omega), List.getElem?_map, HS.out]; rfl)
      go_roundw
      case rel =>
        have hst := HO1.out.stored k (.string (markT (1 + k)))
        rw [marks_step l n k HL.out hlt] at hst
        refine ⟨k + 1, by omega, by go_num, by go_num, hst.1, ?_⟩
        exact (HX.out.trans (HC.out.mono (Nat.le_trans hBg (Nat.le_of_lt hgs)))).setCell hBg _
      case measure => simp [intOf]; omega
    · go_wp2
      go_ret
      have e : k = n := by omega
      subst e
      exact ⟨rfl, by have := HO.out; rw [List.drop_of_length_le (by rw [HL.out]; exact Nat.le_refl _), List.append_nil] at this; exact this, HX.out⟩
end Go.Proofs.Ytglcjfhiekhjoaa
