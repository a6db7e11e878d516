/-
  Helpers of the claims beside this text: slices of strings; Join of the model and of the program.
-/
import Derived.Test.YtmlhpllppgcgkaaDoorShelf
import Derived.Test.YtmlhpllppgcgkaaDoorRows
import Derived.WalkKit
import Derived.WalkSpells
import Derived.WalkLawsBesides
import Derived.WalkSmall
import Derived.Laws.Rows
import Derived.Laws.Tables
import Derived.Laws.Concat
import Derived.Laws.ResultCell
import Derived.Lib.Strings
import Derived.Lib.OthersKept
import Derived.Deep.WholeRow
import Derived.Deep.QuietTactic
import Derived.BigQuiet
import Derived.Lib.Hide
namespace Go.Proofs.YtmlhpllppgcgkaaDoor.Strs
open Go.RowKit
set_option linter.unusedVariables false

theorem own_shape {w : World} {B : Nat} {v : Value} {n : Nat} {l : List ByteArray} (h : w.ownsRow B 9 1 v n (l.map Value.string)) :
    l.length = n ∧ ∃ a cap, v = .slice a n cap ∧ (0 < n → ∃ g, a = some ⟨g, 0, none⟩ ∧ B ≤ g ∧ g < w.heap.size ∧ ∀ j s, l[j]? = some s → w.cell? ⟨g, j, none⟩ = some (.string s)) := by
  have hc := @World.ownsRow.cells w B 9 1 v n (l.map Value.string) h
  have hlt := h.lt
  obtain ⟨h1, ⟨rfl, h0⟩ | ⟨g, cap, cur, rfl, hB, hg, hn, hm, hs, ht⟩⟩ := h
  · exact ⟨by simpa using h1, none, 0, by rw [h0], fun hp => by omega⟩
  · refine ⟨by simpa using h1, _, cap, rfl, fun hp => ⟨g, rfl, hB, (hlt g rfl).2, fun j s hj => ?_⟩⟩
    have := hc (g := g) rfl j (.string s) (by simp [hj])
    rcases j with _ | j <;> simpa [Addr.add] using this
theorem grown_of_below {w w' : World} (h : Below w.heap.size w w') (row : Option Nat) : w.grownBy w' row := ⟨h.os, h.tape, h.output, h.size, fun k hk _ => h.block k hk⟩
theorem own_below {w w' : World} {B : Nat} {e : TypeId} {size : Nat} {v : Value} {n : Nat} {xs : List Value} (h : w.ownsRow B e size v n xs) (hb : Below w.heap.size w w') : w'.ownsRow B e size v n xs := by
  cases hv : v.ownBlock with
  | none => exact h.kept (grown_of_below hb none) (.inl hv)
  | some g => exact h.kept (grown_of_below hb none) (.inr (by rw [hv]; simp))
theorem infoStr : (Tryd.prog.info? 9).map (fun i => (i.zero, i.size, i.bytes)) = some (some (.string ByteArray.empty), 1, 16) := by kernel_rfl
theorem own_drewN {w : World} {B : Nat} {e : TypeId} {size : Nat} {v : Value} {n : Nat} {xs : List Value} (h : w.ownsRow B e size v n xs) (k : Nat) : (w.drewN k).ownsRow B e size v n xs :=
  own_below h (below_drewN (Below.refl _ _) k)
/-- 'out = append(out, t)' at a slice of strings of the call's own. -/
theorem append_str {ops : Array Oper} {rest : List Oper} {o : Oper} {a : Act} {Q : Exit → Act → World → Prop} (hgd : o.guard = none) (x y : Operand)
    (ho : o.op = .call { callee := .builtin .append, args := #[x, y], argTypes := #[48, 48] })
    (B : Nat) (v : Value) (l : List ByteArray) (t : ByteArray) (w0 : World) (hown : w0.ownsRow B 9 1 v l.length (l.map Value.string)) (hl : l.length ≤ 1048577) (hB : B ≤ w0.heap.size) (N : Nat) (hN : N = w0.heap.size)
    (hs : a.eval x = v) (hx : a.eval y = .slice (some ⟨N, 0, none⟩) 1 1)
    (h : ∀ v' w', w'.ownsRow B 9 1 v' (l ++ [t]).length ((l ++ [t]).map Value.string) → Below B w0 w' → wpList Tryd.prog ops Q rest (a.put o.dst v') w') :
    wpList Tryd.prog ops Q (o :: rest) a (w0.alloc (.cells #[.string t] 9)) := by
  obtain ⟨i0, hi, hz0, hz1, hz2⟩ := info_parts infoStr
  subst hN
  refine wpList_append_own _ hgd x y 48 ho B 9 i0 (.string ByteArray.empty) 1 16 Tryd.underlying48 hi hz0 hz1 hz2 rfl (by decide) v l.length (l.map Value.string) hs (hown.alloc _) ⟨w0.heap.size, 0, none⟩ 1 1 [.string t] hx rfl (cell_one_new _ _ _) ?_ ?_ ?_ ?_ ?_
  · intro u hu
    simp at hu
    subst hu
    rfl
  · unfold maxLen; omega
  · omega
  · exact Nat.le_trans hB (by show w0.heap.size ≤ (w0.heap.push _).size; simp)
  · intro v' w' ho' hg _
    refine h v' w' (by simpa using ho') ?_
    refine (((Below.refl B w0).alloc hB _).grown hg (Nat.le_trans hB (by show w0.heap.size ≤ (w0.heap.push _).size; simp)) fun k hk => (hown.lt k hk).1)
theorem own_base {w : World} {B B' : Nat} {e : TypeId} {size : Nat} {v : Value} {n : Nat} {xs : List Value} (h : w.ownsRow B e size v n xs) (hB : B' ≤ B) : w.ownsRow B' e size v n xs := by
  obtain ⟨h1, h2 | ⟨g, cap, cur, hv, hb, rest⟩⟩ := h
  · exact ⟨h1, .inl h2⟩
  · exact ⟨h1, .inr ⟨g, cap, cur, hv, by omega, rest⟩⟩
/-- A slice of strings as it lies in memory: of 'len' elements, 'ss'. -/
def StrsAt (w : World) (a : Option Addr) (len : Nat) (ss : List ByteArray) : Prop :=
  ss.length = len ∧ (0 < len → ∃ b off, a = some ⟨b, off, none⟩ ∧ b < w.heap.size ∧ ∀ j s, ss[j]? = some s → w.cell? ⟨b, off + j, none⟩ = some (.string s))
theorem StrsAt.below {w w' : World} {a : Option Addr} {len : Nat} {ss : List ByteArray} (h : StrsAt w a len ss) (hb : Below w.heap.size w w') : StrsAt w' a len ss := by
  refine ⟨h.1, fun hp => ?_⟩
  obtain ⟨b, off, rfl, hlt, hc⟩ := h.2 hp
  exact ⟨b, off, rfl, Nat.lt_of_lt_of_le hlt hb.size, fun j s hj => by rw [hb.cell (p := ⟨b, off + j, none⟩) hlt]; exact hc j s hj⟩
theorem strsAt_own {w : World} {B : Nat} {a : Option Addr} {cap n : Nat} {l : List ByteArray} (h : w.ownsRow B 9 1 (.slice a n cap) n (l.map Value.string)) : StrsAt w a n l := by
  obtain ⟨hl, a', cap', hv, hc⟩ := own_shape h
  simp at hv
  obtain ⟨rfl, rfl⟩ := hv
  refine ⟨hl, fun hp => ?_⟩
  obtain ⟨g, rfl, _, hlt, hcell⟩ := hc hp
  exact ⟨g, 0, rfl, hlt, fun j s hj => by simpa using hcell j s hj⟩
theorem own_cap {w : World} {B : Nat} {a : Option Addr} {cap n : Nat} {xs : List Value} (h : w.ownsRow B 9 1 (.slice a n cap) n xs) : n ≤ cap := by
  obtain ⟨_, ⟨h1, h2⟩ | ⟨g, cap', cur, hv, _, _, hn, _⟩⟩ := h
  · omega
  · simp at hv
    omega
/-- The bytes of all strings. -/
def tot (l : List ByteArray) : Nat := (l.map (·.size)).sum
theorem tot_snoc (ss : List ByteArray) (k : Nat) (s : ByteArray) (h : ss[k]? = some s) : tot (ss.take (k + 1)) = tot (ss.take k) + s.size := by
  rw [List.take_add_one, h]
  simp [tot]
theorem tot_le (ss : List ByteArray) (k : Nat) : tot (ss.take k) ≤ tot ss := by
  have : tot ss = tot (ss.take k) + tot (ss.drop k) := by
    conv => lhs; rw [← List.take_append_drop k ss]
    simp only [tot, List.map_append, List.sum_append]
  omega
/-- What 'Join' answers. -/
def joined (ss : List ByteArray) (by_ : ByteArray) : List UInt8 := Lib.join (ss.map (·.data.toList)) by_.data.toList
theorem join_snoc (l : List (List UInt8)) (x sep : List UInt8) (h : l ≠ []) : Lib.join (l ++ [x]) sep = Lib.join l sep ++ sep ++ x := by
  cases l with
  | nil => exact absurd rfl h
  | cons y r =>
    rw [List.cons_append, Lib.join_cons, Lib.join_cons]
    simp [Lib.joinTail]
theorem joined_first (ss : List ByteArray) (b s : ByteArray) (h : ss[0]? = some s) : joined (ss.take 1) b = s.data.toList := by
  cases ss with
  | nil => simp at h
  | cons y r =>
    simp at h
    subst h
    simp [joined, Lib.join_one]
theorem joined_next (ss : List ByteArray) (b s : ByteArray) (k : Nat) (hk : 0 < k) (h : ss[k]? = some s) : joined (ss.take (k + 1)) b = joined (ss.take k) b ++ b.data.toList ++ s.data.toList := by
  unfold joined
  rw [List.take_add_one, h, Option.toList_some, List.map_append, List.map_cons, List.map_nil, join_snoc]
  have : k < ss.length := by
    rcases Nat.lt_or_ge k ss.length with h' | h'
    · exact h'
    · rw [List.getElem?_eq_none h'] at h; cases h
  intro he
  have := congrArg List.length he
  rw [List.length_map, List.length_take, Nat.min_eq_left (by omega), List.length_nil] at this
  omega
theorem joined_len (ss : List ByteArray) (b : ByteArray) : ∀ k, k ≤ ss.length → (joined (ss.take k) b).length ≤ tot (ss.take k) + k * b.size
  | 0, _ => by simp [joined, Lib.join_nil]
  | k + 1, hk => by
    have ih := joined_len ss b k (by omega)
    have hs : ss[k]? = some (ss[k]'(by omega)) := List.getElem?_eq_getElem _
    rw [tot_snoc ss k _ hs, Nat.add_mul, Nat.one_mul]
    have e1 : ∀ x : ByteArray, x.data.toList.length = x.size := fun _ => rfl
    by_cases h0 : k = 0
    · subst h0
      rw [joined_first ss b _ hs, e1]
      omega
    · rw [joined_next ss b _ k (by omega) hs, List.length_append, List.length_append, e1, e1]
      omega
theorem joined_bound (ss : List ByteArray) (b : ByteArray) (k : Nat) (hk : k ≤ ss.length) (h1 : ss.length ≤ 1048576) (h2 : tot ss ≤ 1048576) (h3 : b.size ≤ 1048576) : (joined (ss.take k) b).length ≤ 1099512676352 := by
  have h := joined_len ss b k hk
  have h4 := tot_le ss k
  have h5 : k * b.size ≤ 1048576 * 1048576 := Nat.mul_le_mul (by omega) h3
  omega
def str (l : List UInt8) : ByteArray := ⟨l.toArray⟩
theorem str_size (l : List UInt8) : (str l).size = l.length := rfl
theorem str_data (l : List UInt8) : (str l).data.toList = l := rfl
theorem str_app (a : ByteArray) (l : List UInt8) : str (a.data.toList ++ l) = a ++ str l := by
  apply ByteArray.ext
  simp [str]
theorem str_of (a : ByteArray) : str a.data.toList = a := rfl
theorem app_str (l : List UInt8) (a : ByteArray) : str l ++ a = str (l ++ a.data.toList) := by
  apply ByteArray.ext
  simp [str]
theorem ret_str {a b : ByteArray} (h : a = b) : Ending.returned (.string a) = .returned (.string b) := by rw [h]


theorem joinTexts_any (a : Option Addr) (len cap : Nat) (ss : List ByteArray) (by_ : ByteArray) (w : World) (h : StrsAt w a len ss) (hcap : len ≤ cap) (h1 : len ≤ 1048576) (h2 : tot ss ≤ 1048576) (h3 : by_.size ≤ 1048576) :
    Calls Tryd.prog 43 #[.string by_, .slice a len cap] w fun e w' => e = .returned (.string (str (joined ss by_))) ∧ Below w.heap.size w w' := by
  by_cases h0 : len = 0
  · subst h0
    have e : ss = [] := List.eq_nil_of_length_eq_zero h.1
    subst e
    have hc := Tryd.strings_Join_none a cap by_ w
    have HC := Lib.hid hc
    clear hc h
    go_enter Tryd.func43, Tryd.ntmps43
    go_wp2_with (go_at_call 54; refine HC.out.mono ?_; rintro e w' ⟨rfl, hb⟩; subst hb)
    go_ret
    exact ⟨rfl, Below.refl _ _⟩
  · obtain ⟨hl, hh⟩ := h
    obtain ⟨b, off, rfl, hb, hc⟩ := hh (by omega)
    have hj := Tryd.strings_Join b off cap ss by_ w hc hb (by omega) (by omega) (by
      have := joined_bound ss by_ ss.length (Nat.le_refl _) (by omega) h2 h3
      rw [List.take_length] at this
      unfold joined at this
      omega)
    rw [hl] at hj
    have HC := Lib.hid hj
    clear hj hc hh
    go_enter Tryd.func43, Tryd.ntmps43
    go_wp2_with (go_at_call 54; refine HC.out.mono ?_; rintro e w' ⟨rfl, hb'⟩)
    go_ret
    exact ⟨rfl, by assumption⟩
theorem join_any (a : Option Addr) (len cap : Nat) (ss : List ByteArray) (by_ : ByteArray) (w : World) (h : StrsAt w a len ss) (hcap : len ≤ cap) (h1 : len ≤ 1048576) (h2 : tot ss ≤ 1048576) (h3 : by_.size ≤ 1048576) :
    Calls Tryd.prog 28 #[.slice a len cap, .string by_] w fun e w' => e = .returned (.string (str (joined ss by_))) ∧ Below w.heap.size w w' := by
  have HC := Lib.hid (joinTexts_any a len cap ss by_ w h hcap h1 h2 h3)
  clear h
  go_enter Tryd.func28, Tryd.ntmps28
  go_wp2_with (go_at_call 43; refine HC.out.mono ?_; rintro e w' ⟨rfl, hb'⟩)
  go_ret
  exact ⟨rfl, by assumption⟩
end Go.Proofs.YtmlhpllppgcgkaaDoor.Strs
