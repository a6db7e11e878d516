/-
  Helpers of the claims beside this text: what Join, SplitAny, SplitLines and IsName of the program answer.
-/
import Derived.Test.YtglcjfhiekhjoaaDoorShelf
import Derived.Test.YtglcjfhiekhjoaaDoorRows
import Derived.WalkKit
import Derived.WalkSpells
import Derived.WalkLawsBesides
import Derived.WalkSmall
import Derived.Laws.Rows
import Derived.Laws.Tables
import Derived.Laws.Concat
import Derived.Laws.ResultCell
import Derived.Lib.AsciiSet
import Derived.Lib.Strings
import Derived.Lib.OthersKept
import Derived.Lib.DecodeN
import Derived.Deep.WholeRow
import Derived.Deep.QuietTactic
import Derived.BigQuiet
import Derived.Lib.Hide
namespace Go.Proofs.YtglcjfhiekhjoaaDoor.Util
open Go.RowKit
set_option linter.unusedVariables false

theorem own_shape {w : World} {B : Nat} {v : Value} {n : Nat} {l : List ByteArray} (h : w.ownsRow B 9 1 v n (l.map Value.string)) :
    l.length = n ∧ ∃ a cap, v = .slice a n cap ∧ (0 < n → ∃ g, a = some ⟨g, 0, none⟩ ∧ B ≤ g ∧ g < w.heap.size ∧ ∀ j s, l[j]? = some s → w.cell? ⟨g, j, none⟩ = some (.string s)) := by
  have hc := @World.ownsRow.cells w B 9 1 v n (l.map Value.string) h
  have hlt := h.lt
  obtain ⟨h1, ⟨rfl, h0⟩ | ⟨g, cap, cur, rfl, hB, hg, hn, hm, hs, ht⟩⟩ := h
  · exact ⟨by simpa using h1, none, 0, by rw [h0], fun hp => by omega⟩
  · refine ⟨by simpa using h1, _, cap, rfl, fun hp => ⟨g, rfl, hB, (hlt g rfl).2, fun j s hj => ?_⟩⟩
    have := hc (g := g) rfl j (.string s) (by simp [hj])
    rcases j with _ | j <;> simpa [Addr.add] using this
theorem grown_of_below {w w' : World} (h : Below w.heap.size w w') (row : Option Nat) : w.grownBy w' row := ⟨h.os, h.tape, h.output, h.size, fun k hk _ => h.block k hk⟩
theorem own_below {w w' : World} {B : Nat} {e : TypeId} {size : Nat} {v : Value} {n : Nat} {xs : List Value} (h : w.ownsRow B e size v n xs) (hb : Below w.heap.size w w') : w'.ownsRow B e size v n xs := by
  cases hv : v.ownBlock with
  | none => exact h.kept (grown_of_below hb none) (.inl hv)
  | some g => exact h.kept (grown_of_below hb none) (.inr (by rw [hv]; simp))
theorem info9 : (Tryd.prog.info? 9).map (fun i => (i.zero, i.size, i.bytes)) = some (some (.string ByteArray.empty), 1, 16) := by kernel_rfl
/-- The parts that end ahead of byte k, and where the next one begins. -/
def cut (s : ByteArray) (p : UInt8 → Bool) : Nat → List ByteArray × Nat
  | 0 => ([], 0)
  | k + 1 => if p (s.data.toList.getD k 0) then ((cut s p k).1 ++ [s.extract (cut s p k).2 k], k + 1) else cut s p k
/-- All parts. -/
def parts (s : ByteArray) (p : UInt8 → Bool) : List ByteArray := (cut s p s.size).1 ++ [s.extract (cut s p s.size).2 s.size]
theorem byte_at (s : ByteArray) (k : Nat) (h : k < s.size) : s.data.toList.getD k 0 = s[k] := by
  rw [List.getD, List.getElem?_eq_getElem (by exact h)]
  rfl
theorem cut_hit (s : ByteArray) (p : UInt8 → Bool) (k : Nat) (h : k < s.size) (hp : p s[k] = true) : cut s p (k + 1) = ((cut s p k).1 ++ [s.extract (cut s p k).2 k], k + 1) := by
  rw [cut, byte_at s k h, if_pos hp]
theorem cut_miss (s : ByteArray) (p : UInt8 → Bool) (k : Nat) (h : k < s.size) (hp : p s[k] = false) : cut s p (k + 1) = cut s p k := by
  rw [cut, byte_at s k h, if_neg (by rw [hp]; simp)]
theorem cut_len (s : ByteArray) (p : UInt8 → Bool) : ∀ k, (cut s p k).1.length ≤ k ∧ (cut s p k).2 ≤ k
  | 0 => by simp [cut]
  | k + 1 => by
    have ih := cut_len s p k
    rw [cut]
    split
    · simp; omega
    · omega
theorem parts_len (s : ByteArray) (p : UInt8 → Bool) : (parts s p).length ≤ s.size + 1 := by
  have := cut_len s p s.size
  simp [parts]
  omega
/-- Is the byte one of those? -/
def among (b : ByteArray) (c : UInt8) : Bool := b.data.toList.contains c
theorem among_yes (b : ByteArray) (c : UInt8) (k : Nat) (h : k < b.size) (e : b[k] = c) : among b c = true := by
  unfold among
  rw [List.contains_iff_mem]
  rw [← e]
  exact List.getElem_mem _
theorem among_no (b : ByteArray) (c : UInt8) (h : ∀ k (h : k < b.size), b[k] ≠ c) : among b c = false := by
  unfold among
  rw [Bool.eq_false_iff]
  intro hc
  rw [List.contains_iff_mem] at hc
  obtain ⟨k, hk, e⟩ := List.mem_iff_getElem.1 hc
  exact h k hk e
def Parts (B : Nat) (w : World) (l : List ByteArray) (e : Ending) (w' : World) : Prop :=
  ∃ v : Value, e = .returned v ∧ w'.ownsRow B 9 1 v l.length (l.map Value.string) ∧ Below B w w'
theorem own_drewN {w : World} {B : Nat} {e : TypeId} {size : Nat} {v : Value} {n : Nat} {xs : List Value} (h : w.ownsRow B e size v n xs) (k : Nat) : (w.drewN k).ownsRow B e size v n xs :=
  own_below h (below_drewN (Below.refl _ _) k)
/-- 'out = append(out, t)' at a slice of strings of the call's own. -/
theorem append_str {ops : Array Oper} {rest : List Oper} {o : Oper} {a : Act} {Q : Exit → Act → World → Prop} (hgd : o.guard = none) (x y : Operand)
    (ho : o.op = .call { callee := .builtin .append, args := #[x, y], argTypes := #[29, 29] })
    (B : Nat) (v : Value) (l : List ByteArray) (t : ByteArray) (w0 : World) (hown : w0.ownsRow B 9 1 v l.length (l.map Value.string)) (hl : l.length ≤ 1048577) (hB : B ≤ w0.heap.size) (N : Nat) (hN : N = w0.heap.size)
    (hs : a.eval x = v) (hx : a.eval y = .slice (some ⟨N, 0, none⟩) 1 1)
    (h : ∀ v' w', w'.ownsRow B 9 1 v' (l ++ [t]).length ((l ++ [t]).map Value.string) → Below B w0 w' → wpList Tryd.prog ops Q rest (a.put o.dst v') w') :
    wpList Tryd.prog ops Q (o :: rest) a (w0.alloc (.cells #[.string t] 9)) := by
  obtain ⟨i0, hi, hz0, hz1, hz2⟩ := info_parts info9
  subst hN
  refine wpList_append_own _ hgd x y 29 ho B 9 i0 (.string ByteArray.empty) 1 16 Tryd.underlying29 hi hz0 hz1 hz2 rfl (by decide) v l.length (l.map Value.string) hs (hown.alloc _) ⟨w0.heap.size, 0, none⟩ 1 1 [.string t] hx rfl (cell_one_new _ _ _) ?_ ?_ ?_ ?_ ?_
  · intro u hu
    simp at hu
    subst hu
    rfl
  · unfold maxLen; omega
  · omega
  · exact Nat.le_trans hB (by show w0.heap.size ≤ (w0.heap.push _).size; simp)
  · intro v' w' ho' hg _
    refine h v' w' (by simpa using ho') ?_
    refine (((Below.refl B w0).alloc hB _).grown hg (Nat.le_trans hB (by show w0.heap.size ≤ (w0.heap.push _).size; simp)) fun k hk => (hown.lt k hk).1)
theorem zero46 (w : World) : (zeroValue 46).run Tryd.prog w = .ok (.agg (Array.replicate 256 (.bool false))) w := by kernel_rfl
theorem size46 : (Tryd.prog.info? 46).map (·.size) = some 256 := by kernel_rfl
theorem set_size (l : List UInt8) : (Tryd.prog.info? 46).map (·.size) = some (Lib.setCells l).size := by rw [Lib.setCells_size]; exact size46
set_option maxHeartbeats 1000000 in
set_option maxRecDepth 1000000 in
theorem set_any (s : ByteArray) (w : World) (hs : s.size ≤ 1048576) :
    Calls Tryd.prog 24 #[.string s] w fun e w' => e = .returned (.agg (Lib.setCells s.data.toList)) ∧ Below w.heap.size w w' := by
  have hz := zero46
  go_enter Tryd.func24, Tryd.ntmps24
  go_wp2
  rw [← Lib.setCells_nil]
  have HZ := Lib.hid hz
  clear hz
  obtain ⟨W0, hW0⟩ : ∃ W0, W0 = w.alloc (.cells (Lib.setCells []) 46) := ⟨_, rfl⟩
  rw [← hW0]
  have hs0 : W0.heap.size = w.heap.size + 1 := by rw [hW0]; show (w.heap.push _).size = _; simp
  rw [← hs0]
  have HW0 := Lib.hid hW0
  have HS0 := Lib.hid hs0
  clear hW0 hs0
  go_loopw [4, 7] (fun _ i wx => ∃ k : Nat, k ≤ s.size ∧ i = .int .i64 k ∧ wx = W0.alloc (.cells (Lib.setCells (s.data.toList.take k)) 46)) (fun _ i _ => s.size - (intOf i).toNat)
  case atStart => exact ⟨0, by omega, rfl, rfl⟩
  case round =>
    obtain ⟨k, hk, rfl, rfl⟩ := hrel
    by_cases hlt : k < s.size
    · obtain ⟨x, hx⟩ : ∃ x : UInt8, s[k]'hlt = x := ⟨_, rfl⟩
      have hxl : s.data.toList[k]? = some x := by rw [← hx]; exact Lib.data_getElem? s k hlt
      have hx256 : (x.toNat : Int) < 256 := by have := UInt8.toNat_lt x; omega
      have hcell := Lib.setCells_at (s.data.toList.take k) x
      have HX := Lib.hid hxl
      clear hxl
      go_wp2
      go_roundw
      case rel => exact ⟨k + 1, by omega, by go_num, by rw [List.take_add_one, HX.out]; simp only [Option.toList]; rw [Lib.setCells_snoc]⟩
      case measure => simp [intOf]; omega
    · have htk : s.data.toList.take k = s.data.toList := List.take_of_length_le (by show s.size ≤ k; omega)
      rw [htk]
      clear htk
      have H1 := Lib.hid (heap_alloc_last W0 (.cells (Lib.setCells s.data.toList) 46))
      have H2 : Hid ((W0.alloc (.cells (Lib.setCells s.data.toList) 46)).heap[w.heap.size]? = some (.cells (Lib.setCells []) 46 (0, 0))) := Lib.hid (by
        have h1 : w.heap.size < W0.heap.size := by have := HS0.out; omega
        rw [heap_alloc_old W0 _ h1, HW0.out]
        exact heap_alloc_last w _)
      go_wp2_with (first | (refine wpList_load_row rfl 46 _ rfl W0.heap.size rfl 46 (Lib.setCells s.data.toList) (0, 0) _ H1.out Tryd.underlying46 rfl (set_size _) ?_) | (refine wpList_store_row rfl 46 _ _ rfl w.heap.size (Lib.setCells s.data.toList) rfl rfl 46 (Lib.setCells []) H2.out (set_size _) (by rw [Lib.setCells_size, Lib.setCells_size]) (Lib.setCells_one _) ?_))
      have H3 := Lib.hid (setRow_heap (W0.alloc (.cells (Lib.setCells s.data.toList) 46)) w.heap.size (Lib.setCells []) (Lib.setCells s.data.toList) 46 (0, 0) H2.out)
      refine bodyPost_ret (v := .agg (Lib.setCells s.data.toList)) ?_ rfl ⟨rfl, ?_⟩
      · exact results_cell_row rfl _ _ w.heap.size 46 _ (0, 0) _ rfl H3.out Tryd.underlying46 rfl (set_size _)
      · refine ⟨?_, ?_, ?_, ?_, fun i hi => ?_⟩
        · show W0.os = w.os
          rw [HW0.out]; rfl
        · show W0.tape = w.tape
          rw [HW0.out]; rfl
        · show W0.output = w.output
          rw [HW0.out]; rfl
        · rw [size_setRow]
          show w.heap.size ≤ (W0.heap.push _).size
          have := HS0.out
          simp
          omega
        · have h1 : i < W0.heap.size := by have := HS0.out; omega
          rw [setRow_other _ _ _ _ (by omega), heap_alloc_old W0 _ h1, HW0.out, heap_alloc_old w _ hi]
theorem own_base {w : World} {B B' : Nat} {e : TypeId} {size : Nat} {v : Value} {n : Nat} {xs : List Value} (h : w.ownsRow B e size v n xs) (hB : B' ≤ B) : w.ownsRow B' e size v n xs := by
  obtain ⟨h1, h2 | ⟨g, cap, cur, hv, hb, rest⟩⟩ := h
  · exact ⟨h1, .inl h2⟩
  · exact ⟨h1, .inr ⟨g, cap, cur, hv, by omega, rest⟩⟩
theorem table_cell {w : World} {g : Nat} {b : ByteArray} (h : w.heap[g]? = some (.cells (Lib.setCells b.data.toList) 46 (0, 0))) (x : UInt8) : w.cell? ⟨g, x.toNat, none⟩ = some (.bool (among b x)) := by
  rw [cell_of_row w g x.toNat _ 46 (0, 0) h]
  exact Lib.setCells_at _ x
set_option maxHeartbeats 1000000 in
set_option maxRecDepth 1000000 in
theorem split_any (s b : ByteArray) (w : World) (hs : s.size ≤ 1048576) (hb : b.size ≤ 1048576) :
    Calls Tryd.prog 11 #[.string s, .string b] w (Parts w.heap.size w (parts s (among b))) := by
  have hz := zero46
  go_enter Tryd.func11, Tryd.ntmps11
  go_wp2_with fail
  refine (set_any b w hb).mono ?_
  rintro e w1 ⟨rfl, hb1⟩
  have HB1 := Lib.hid hb1
  clear hb1
  go_wp2_with (refine wpList_store_row rfl 46 _ _ rfl w1.heap.size (Lib.setCells b.data.toList) rfl rfl 46 (Array.replicate 256 (.bool false)) (heap_alloc_last w1 _) (set_size _) (by rw [Lib.setCells_size]; simp) (Lib.setCells_one _) ?_)
  rw [World.setRow_alloc_new]
  clear hz
  obtain ⟨g, hg⟩ : ∃ g, g = w1.heap.size := ⟨_, rfl⟩
  rw [← hg]
  obtain ⟨W1, hW1⟩ : ∃ W1, W1 = w1.alloc (.cells (Lib.setCells b.data.toList) 46) := ⟨_, rfl⟩
  rw [← hW1]
  have h0 : W1.heap[g]? = some (.cells (Lib.setCells b.data.toList) 46 (0, 0)) := by rw [hW1, hg]; exact heap_alloc_last w1 _
  have b0 : Below w.heap.size w W1 := by rw [hW1]; exact HB1.out.alloc HB1.out.size _
  have z0 : g + 1 ≤ W1.heap.size := by rw [hW1, hg]; show w1.heap.size + 1 ≤ (w1.heap.push _).size; simp
  have hgs : w.heap.size ≤ g := by rw [hg]; exact HB1.out.size
  have H0 := Lib.hid (And.intro h0 (And.intro b0 z0))
  have HGS := Lib.hid hgs
  clear h0 b0 z0 hg hW1 hgs
  go_loopw [6, 7, 8, 13] (fun v f _ i wr => ∃ k : Nat, k ≤ s.size ∧ i = .int .i64 k ∧ f = .int .i64 (cut s (among b) k).2 ∧ wr.ownsRow (g + 1) 9 1 v (cut s (among b) k).1.length ((cut s (among b) k).1.map Value.string) ∧ Below w.heap.size w wr ∧ wr.heap[g]? = some (.cells (Lib.setCells b.data.toList) 46 (0, 0)) ∧ g + 1 ≤ wr.heap.size) (fun _ _ _ i _ => s.size - (intOf i).toNat)
  case atStart => exact ⟨0, by omega, rfl, rfl, World.ownsRow_nil _ _ _ _, H0.out.2.1, H0.out.1, H0.out.2.2⟩
  case round =>
    obtain ⟨k, hk, rfl, rfl, hown, hnx, hT, hsz⟩ := hrel
    have hcl := cut_len s (among b) k
    obtain ⟨fr, hfr⟩ : ∃ fr, fr = (cut s (among b) k).2 := ⟨_, rfl⟩
    obtain ⟨ls, hls⟩ : ∃ ls, ls = (cut s (among b) k).1 := ⟨_, rfl⟩
    rw [← hfr, ← hls] at hcl
    rw [← hls] at hown
    rw [← hfr]
    have HF := Lib.hid hfr
    have HL := Lib.hid hls
    have HO := Lib.hid hown
    have HX := Lib.hid hnx
    have HT := Lib.hid hT
    have HZ := Lib.hid hsz
    clear hfr hls hown hnx hT hsz
    obtain ⟨hc1, hc2⟩ := hcl
    by_cases hlt : k < s.size
    · have hx256 : (s[k].toNat : Int) < 256 := by have := UInt8.toNat_lt s[k]; omega
      have hcell := table_cell HT.out s[k]
      by_cases hin : among b s[k] = true
      · rw [hin] at hcell
        have hm := cut_hit s (among b) k hlt hin
        rw [← HF.out, ← HL.out] at hm
        have HM := Lib.hid hm
        have HI := Lib.hid hin
        clear hm hin
        go_wp2_with (at_builtin; refine append_str rfl _ _ rfl (g + 1) _ ls _ _ HO.out (by omega) HZ.out _ rfl rfl rfl ?_; intro v' w' hown' hb')
        have HO2 := Lib.hid hown'
        have HX2 := Lib.hid hb'
        clear hown' hb'
        go_roundw
        case rel => exact ⟨k + 1, by omega, by go_num, by rw [HM.out]; go_num, by rw [HM.out]; exact HO2.out, HX.out.trans (HX2.out.mono (by have := HGS.out; omega)), by rw [HX2.out.block g (by omega)]; exact HT.out, Nat.le_trans HZ.out HX2.out.size⟩
        case measure => simp [intOf]; omega
      · have hin' : among b s[k] = false := by simpa using hin
        rw [hin'] at hcell
        have hm := cut_miss s (among b) k hlt hin'
        have HM := Lib.hid hm
        clear hm hin hin'
        go_wp2
        go_roundw
        case rel => exact ⟨k + 1, by omega, by go_num, by rw [HM.out, ← HF.out], by rw [HM.out, ← HL.out]; exact HO.out, HX.out, HT.out, HZ.out⟩
        case measure => simp [intOf]; omega
    · have e : k = s.size := by omega
      have HP : Hid (parts s (among b) = ls ++ [s.extract fr s.size]) := Lib.hid (by rw [HL.out, HF.out, e]; rfl)
      subst e
      go_wp2_with (at_builtin; refine append_str rfl _ _ rfl (g + 1) _ ls _ _ HO.out (by omega) HZ.out _ rfl rfl rfl ?_; intro v' w' hown' hb')
      have HO2 := Lib.hid hown'
      have HX2 := Lib.hid hb'
      clear hown' hb'
      go_ret
      exact ⟨_, rfl, by rw [HP.out]; exact own_base HO2.out (by have := HGS.out; omega), HX.out.trans (HX2.out.mono (by have := HGS.out; omega))⟩
/-- A slice of strings as it lies in memory: of 'len' elements, 'ss'. -/
def StrsAt (w : World) (a : Option Addr) (len : Nat) (ss : List ByteArray) : Prop :=
  ss.length = len ∧ (0 < len → ∃ b off, a = some ⟨b, off, none⟩ ∧ b < w.heap.size ∧ ∀ j s, ss[j]? = some s → w.cell? ⟨b, off + j, none⟩ = some (.string s))
theorem StrsAt.below {w w' : World} {a : Option Addr} {len : Nat} {ss : List ByteArray} (h : StrsAt w a len ss) (hb : Below w.heap.size w w') : StrsAt w' a len ss := by
  refine ⟨h.1, fun hp => ?_⟩
  obtain ⟨b, off, rfl, hlt, hc⟩ := h.2 hp
  exact ⟨b, off, rfl, Nat.lt_of_lt_of_le hlt hb.size, fun j s hj => by rw [hb.cell (p := ⟨b, off + j, none⟩) hlt]; exact hc j s hj⟩
theorem strsAt_own {w : World} {B : Nat} {a : Option Addr} {cap n : Nat} {l : List ByteArray} (h : w.ownsRow B 9 1 (.slice a n cap) n (l.map Value.string)) : StrsAt w a n l := by
  obtain ⟨hl, a', cap', hv, hc⟩ := own_shape h
  simp at hv
  obtain ⟨rfl, rfl⟩ := hv
  refine ⟨hl, fun hp => ?_⟩
  obtain ⟨g, rfl, _, hlt, hcell⟩ := hc hp
  exact ⟨g, 0, rfl, hlt, fun j s hj => by simpa using hcell j s hj⟩
theorem own_cap {w : World} {B : Nat} {a : Option Addr} {cap n : Nat} {xs : List Value} (h : w.ownsRow B 9 1 (.slice a n cap) n xs) : n ≤ cap := by
  obtain ⟨_, ⟨h1, h2⟩ | ⟨g, cap', cur, hv, _, _, hn, _⟩⟩ := h
  · omega
  · simp at hv
    omega
/-- The bytes of all strings. -/
def tot (l : List ByteArray) : Nat := (l.map (·.size)).sum
theorem tot_snoc (ss : List ByteArray) (k : Nat) (s : ByteArray) (h : ss[k]? = some s) : tot (ss.take (k + 1)) = tot (ss.take k) + s.size := by
  rw [List.take_add_one, h]
  simp [tot]
theorem tot_le (ss : List ByteArray) (k : Nat) : tot (ss.take k) ≤ tot ss := by
  have : tot ss = tot (ss.take k) + tot (ss.drop k) := by
    conv => lhs; rw [← List.take_append_drop k ss]
    simp only [tot, List.map_append, List.sum_append]
  omega
/-- What 'Join' answers. -/
def joined (ss : List ByteArray) (by_ : ByteArray) : List UInt8 := Lib.join (ss.map (·.data.toList)) by_.data.toList
theorem join_snoc (l : List (List UInt8)) (x sep : List UInt8) (h : l ≠ []) : Lib.join (l ++ [x]) sep = Lib.join l sep ++ sep ++ x := by
  cases l with
  | nil => exact absurd rfl h
  | cons y r =>
    rw [List.cons_append, Lib.join_cons, Lib.join_cons]
    simp [Lib.joinTail]
theorem joined_first (ss : List ByteArray) (b s : ByteArray) (h : ss[0]? = some s) : joined (ss.take 1) b = s.data.toList := by
  cases ss with
  | nil => simp at h
  | cons y r =>
    simp at h
    subst h
    simp [joined, Lib.join_one]
theorem joined_next (ss : List ByteArray) (b s : ByteArray) (k : Nat) (hk : 0 < k) (h : ss[k]? = some s) : joined (ss.take (k + 1)) b = joined (ss.take k) b ++ b.data.toList ++ s.data.toList := by
  unfold joined
  rw [List.take_add_one, h, Option.toList_some, List.map_append, List.map_cons, List.map_nil, join_snoc]
  have : k < ss.length := by
    rcases Nat.lt_or_ge k ss.length with h' | h'
    · exact h'
    · rw [List.getElem?_eq_none h'] at h; cases h
  intro he
  have := congrArg List.length he
  rw [List.length_map, List.length_take, Nat.min_eq_left (by omega), List.length_nil] at this
  omega
theorem joined_len (ss : List ByteArray) (b : ByteArray) : ∀ k, k ≤ ss.length → (joined (ss.take k) b).length ≤ tot (ss.take k) + k * b.size
  | 0, _ => by simp [joined, Lib.join_nil]
  | k + 1, hk => by
    have ih := joined_len ss b k (by omega)
    have hs : ss[k]? = some (ss[k]'(by omega)) := List.getElem?_eq_getElem _
    rw [tot_snoc ss k _ hs, Nat.add_mul, Nat.one_mul]
    have e1 : ∀ x : ByteArray, x.data.toList.length = x.size := fun _ => rfl
    by_cases h0 : k = 0
    · subst h0
      rw [joined_first ss b _ hs, e1]
      omega
    · rw [joined_next ss b _ k (by omega) hs, List.length_append, List.length_append, e1, e1]
      omega
theorem joined_bound (ss : List ByteArray) (b : ByteArray) (k : Nat) (hk : k ≤ ss.length) (h1 : ss.length ≤ 1048576) (h2 : tot ss ≤ 1048576) (h3 : b.size ≤ 1048576) : (joined (ss.take k) b).length ≤ 1099512676352 := by
  have h := joined_len ss b k hk
  have h4 := tot_le ss k
  have h5 : k * b.size ≤ 1048576 * 1048576 := Nat.mul_le_mul (by omega) h3
  omega
def str (l : List UInt8) : ByteArray := ⟨l.toArray⟩
theorem joinTexts_any (a : Option Addr) (len cap : Nat) (ss : List ByteArray) (by_ : ByteArray) (w : World) (h : StrsAt w a len ss) (hcap : len ≤ cap) (h1 : len ≤ 1048576) (h2 : tot ss ≤ 1048576) (h3 : by_.size ≤ 1048576) :
    Calls Tryd.prog 23 #[.string by_, .slice a len cap] w fun e w' => e = .returned (.string (str (joined ss by_))) ∧ Below w.heap.size w w' := by
  by_cases h0 : len = 0
  · subst h0
    have e : ss = [] := List.eq_nil_of_length_eq_zero h.1
    subst e
    have hc := Tryd.strings_Join_none a cap by_ w
    have HC := Lib.hid hc
    clear hc h
    go_enter Tryd.func23, Tryd.ntmps23
    go_wp2_with (go_at_call 31; refine HC.out.mono ?_; rintro e w' ⟨rfl, hb⟩; subst hb)
    go_ret
    exact ⟨rfl, Below.refl _ _⟩
  · obtain ⟨hl, hh⟩ := h
    obtain ⟨b, off, rfl, hb, hc⟩ := hh (by omega)
    have hj := Tryd.strings_Join b off cap ss by_ w hc hb (by omega) (by omega) (by
      have := joined_bound ss by_ ss.length (Nat.le_refl _) (by omega) h2 h3
      rw [List.take_length] at this
      unfold joined at this
      omega)
    rw [hl] at hj
    have HC := Lib.hid hj
    clear hj hc hh
    go_enter Tryd.func23, Tryd.ntmps23
    go_wp2_with (go_at_call 31; refine HC.out.mono ?_; rintro e w' ⟨rfl, hb'⟩)
    go_ret
    exact ⟨rfl, by assumption⟩
theorem join_any (a : Option Addr) (len cap : Nat) (ss : List ByteArray) (by_ : ByteArray) (w : World) (h : StrsAt w a len ss) (hcap : len ≤ cap) (h1 : len ≤ 1048576) (h2 : tot ss ≤ 1048576) (h3 : by_.size ≤ 1048576) :
    Calls Tryd.prog 10 #[.slice a len cap, .string by_] w fun e w' => e = .returned (.string (str (joined ss by_))) ∧ Below w.heap.size w w' := by
  have HC := Lib.hid (joinTexts_any a len cap ss by_ w h hcap h1 h2 h3)
  clear h
  go_enter Tryd.func10, Tryd.ntmps10
  go_wp2_with (go_at_call 23; refine HC.out.mono ?_; rintro e w' ⟨rfl, hb'⟩)
  go_ret
  exact ⟨rfl, by assumption⟩
def nl : ByteArray := ⟨#[10]⟩
theorem among_nl (c : UInt8) : among nl c = (c == 10) := by
  unfold among
  rw [show nl.data.toList = [10] from rfl]
  simp [List.contains, List.elem]
  by_cases h : c = 10
  · subst h; rfl
  · rw [beq_eq_false_iff_ne.2 h]
/-- The lines. -/
def lines (s : ByteArray) : List ByteArray := if (cut s (among nl) s.size).2 < s.size then parts s (among nl) else (cut s (among nl) s.size).1
theorem decodeN_cont (n b0 b1 b2 b3 : Nat) (h : 128 ≤ b0) :
    (Lib.decodeN n b0 b1 b2 b3).2 = 1 ∨ ((Lib.decodeN n b0 b1 b2 b3).2 = 2 ∧ 1 < n ∧ 128 ≤ b1) ∨ ((Lib.decodeN n b0 b1 b2 b3).2 = 3 ∧ 2 < n ∧ 128 ≤ b1 ∧ 128 ≤ b2) ∨ ((Lib.decodeN n b0 b1 b2 b3).2 = 4 ∧ 3 < n ∧ 128 ≤ b1 ∧ 128 ≤ b2 ∧ 128 ≤ b3) := by
  unfold Lib.decodeN
  rw [if_neg (by omega)]
  split
  · split <;> simp <;> omega
  · split
    · split <;> simp <;> omega
    · split
      · split <;> simp <;> omega
      · simp
theorem get_byte (s : ByteArray) (j : Nat) (h : j < s.size) : s.get! j = s.data.toList.getD j 0 := by
  rw [byte_at s j h]
  simp [ByteArray.get!, getElem!_pos, h]
  rfl
theorem high_all (s : ByteArray) (pos : Nat) (h : pos < s.size) (ha : 128 ≤ s[pos].toNat) :
    pos + (Utf8.decode s pos).2 ≤ s.size ∧ ∀ j, pos ≤ j → j < pos + (Utf8.decode s pos).2 → 128 ≤ (s.data.toList.getD j 0).toNat := by
  rw [Lib.decode_at]
  have h0 : s.get! pos = s[pos] := by rw [get_byte s pos h, byte_at s pos h]
  have hc := decodeN_cont (s.size - pos) (s.get! pos).toNat (s.get! (pos + 1)).toNat (s.get! (pos + 2)).toNat (s.get! (pos + 3)).toNat (by rw [h0]; exact ha)
  generalize Lib.decodeN (s.size - pos) (s.get! pos).toNat (s.get! (pos + 1)).toNat (s.get! (pos + 2)).toNat (s.get! (pos + 3)).toNat = d at hc ⊢
  obtain ⟨r, d⟩ := d
  have e0 : 128 ≤ (s.data.toList.getD pos 0).toNat := by rw [byte_at s pos h]; exact ha
  rcases hc with hc | ⟨hc, hn, h1⟩ | ⟨hc, hn, h1, h2⟩ | ⟨hc, hn, h1, h2, h3⟩
  · simp only at hc ⊢
    subst hc
    exact ⟨by omega, fun j h1 h2 => by rw [show j = pos by omega]; exact e0⟩
  · simp only at hc ⊢
    subst hc
    rw [get_byte s _ (by omega)] at h1
    refine ⟨by omega, fun j g1 g2 => ?_⟩
    rcases (by omega : j = pos ∨ j = pos + 1) with rfl | rfl
    · exact e0
    · exact h1
  · simp only at hc ⊢
    subst hc
    rw [get_byte s _ (by omega)] at h1 h2
    refine ⟨by omega, fun j g1 g2 => ?_⟩
    rcases (by omega : j = pos ∨ j = pos + 1 ∨ j = pos + 2) with rfl | rfl | rfl
    · exact e0
    · exact h1
    · exact h2
  · simp only at hc ⊢
    subst hc
    rw [get_byte s _ (by omega)] at h1 h2 h3
    refine ⟨by omega, fun j g1 g2 => ?_⟩
    rcases (by omega : j = pos ∨ j = pos + 1 ∨ j = pos + 2 ∨ j = pos + 3) with rfl | rfl | rfl | rfl
    · exact e0
    · exact h1
    · exact h2
    · exact h3
theorem cut_skip (s : ByteArray) (p : UInt8 → Bool) (k : Nat) : ∀ d, (∀ j, k ≤ j → j < k + d → p (s.data.toList.getD j 0) = false) → cut s p (k + d) = cut s p k
  | 0, _ => rfl
  | d + 1, h => by
    rw [← Nat.add_assoc, cut, if_neg (by rw [h (k + d) (by omega) (by omega)]; simp)]
    exact cut_skip s p k d fun j h1 h2 => h j h1 (by omega)
/-- A rune that is no newline: no part ends in it. -/
theorem rune_skip (s : ByteArray) (pos : Nat) (h : pos < s.size) (hr : (Utf8.decode s pos).1 ≠ 10) :
    cut s (among nl) (pos + (Utf8.decode s pos).2) = cut s (among nl) pos ∧ pos + (Utf8.decode s pos).2 ≤ s.size ∧ 1 ≤ (Utf8.decode s pos).2 := by
  by_cases ha : s[pos].toNat < 128
  · have hd := decode_ascii s pos h ha
    rw [hd] at hr ⊢
    refine ⟨cut_miss s (among nl) pos h ?_, h, Nat.le_refl _⟩
    rw [among_nl, beq_eq_false_iff_ne]
    intro e
    exact hr (by rw [e]; rfl)
  · obtain ⟨h1, h2⟩ := high_all s pos h (by omega)
    refine ⟨cut_skip s (among nl) pos _ fun j g1 g2 => ?_, h1, (decode_high s pos h (by omega)).2⟩
    have := h2 j g1 g2
    rw [among_nl, beq_eq_false_iff_ne]
    intro e
    rw [e] at this
    exact absurd this (by decide)
/-- A newline: a part ends there. -/
theorem rune_hit (s : ByteArray) (pos : Nat) (h : pos < s.size) (hr : (Utf8.decode s pos).1 = 10) :
    (Utf8.decode s pos).2 = 1 ∧ cut s (among nl) (pos + 1) = ((cut s (among nl) pos).1 ++ [s.extract (cut s (among nl) pos).2 pos], pos + 1) := by
  by_cases ha : s[pos].toNat < 128
  · have hd := decode_ascii s pos h ha
    rw [hd] at hr ⊢
    refine ⟨rfl, cut_hit s (among nl) pos h ?_⟩
    rw [among_nl, beq_iff_eq]
    exact UInt8.toNat_inj.1 hr
  · have := (decode_high s pos h (by omega)).1
    omega
theorem next_step {w : World} {k : Nat} {s : ByteArray} {pos : Nat} {v : Value} {n : Nat} {xs : List Value} (hk : w.heap[k]? = some (.stringIter s pos)) (h : pos < s.size) (ho : w.ownsRow (k + 1) 9 1 v n xs) :
    ∃ w2, (∀ ty, (Instr.next (.pointer (some ⟨k, 0, none⟩)) true ty).run Tryd.prog w = .ok (.tuple #[.bool true, .int .i64 pos, .int .i32 (Utf8.decode s pos).1]) w2) ∧
      w2.heap[k]? = some (.stringIter s (pos + (Utf8.decode s pos).2)) ∧ Below k w w2 ∧ w2.ownsRow (k + 1) 9 1 v n xs ∧ w2.heap.size = w.heap.size :=
  ⟨w.iterAt k s (pos + (Utf8.decode s pos).2), fun ty => Lib.run_next_any_at w k s pos ty hk h, Lib.iterAt_heap w k s pos _ hk, Lib.below_iterAt (Below.refl _ _) (Nat.le_refl _) s _, ownsRow_iterAt ho (Nat.lt_succ_self k) s _, Lib.iterAt_size w k s _⟩
set_option maxHeartbeats 400000 in
theorem split_lines (s : ByteArray) (w : World) (hs : s.size ≤ 1048576) :
    Calls Tryd.prog 13 #[.string s] w (Parts w.heap.size w (lines s)) := by
  obtain ⟨k, hk⟩ : ∃ k, k = w.heap.size := ⟨_, rfl⟩
  go_enter Tryd.func13, Tryd.ntmps13
  go_wp2
  rw [← hk]
  have HK := Lib.hid hk
  have h0 : (w.iter s 0).heap[k]? = some (.stringIter s 0) := by rw [hk]; exact World.iter_heap w s 0
  have b0 : Below k w (w.iter s 0) := by rw [hk]; exact (Below.refl _ w).alloc (Nat.le_refl _) _
  have z0 : k + 1 ≤ (w.iter s 0).heap.size := by rw [hk]; show w.heap.size + 1 ≤ (w.heap.push _).size; simp
  have H0 := Lib.hid (And.intro h0 (And.intro b0 z0))
  clear h0 b0 z0 hk
  go_loopw [3, 4, 5, 6] (fun v f _ _ wr => ∃ pos : Nat, pos ≤ s.size ∧ wr.heap[k]? = some (.stringIter s pos) ∧ f = .int .i64 (cut s (among nl) pos).2 ∧ wr.ownsRow (k + 1) 9 1 v (cut s (among nl) pos).1.length ((cut s (among nl) pos).1.map Value.string) ∧ Below k w wr ∧ k + 1 ≤ wr.heap.size) (fun _ _ _ _ wr => s.size - wr.iterPos k)
  case atStart => exact ⟨0, by omega, H0.out.1, rfl, World.ownsRow_nil _ _ _ _, H0.out.2.1, H0.out.2.2⟩
  case round =>
    obtain ⟨pos, hp, hI, rfl, hown, hnx, hsz⟩ := hrel
    have hcl := cut_len s (among nl) pos
    obtain ⟨fr, hfr⟩ : ∃ fr, fr = (cut s (among nl) pos).2 := ⟨_, rfl⟩
    obtain ⟨ls, hls⟩ : ∃ ls, ls = (cut s (among nl) pos).1 := ⟨_, rfl⟩
    rw [← hfr, ← hls] at hcl
    rw [← hls] at hown
    rw [← hfr]
    have HF := Lib.hid hfr
    have HL := Lib.hid hls
    clear hfr hls
    obtain ⟨hc1, hc2⟩ := hcl
    have ip : wr.iterPos k = pos := iterPos_of hI
    by_cases hlt : pos < s.size
    · obtain ⟨w2, hnext, hI2, hb2, hown2, hz2⟩ := next_step hI hlt hown
      have HI2 := Lib.hid hI2
      have HO2 := Lib.hid hown2
      have HB2 := Lib.hid (hnx.trans hb2)
      have HZ2 : Hid (k + 1 ≤ w2.heap.size) := Lib.hid (by omega)
      have HIP := Lib.hid ip
      clear hI hown hnx hI2 hb2 hown2 hz2 ip
      by_cases hr : (Utf8.decode s pos).1 = 10
      · obtain ⟨e1, e2⟩ := rune_hit s pos hlt hr
        rw [← HF.out, ← HL.out] at e2
        have hq : (((Utf8.decode s pos).1 : Int) == 10) = true := by rw [hr]; rfl
        have HE1 := Lib.hid e1
        have HE2 := Lib.hid e2
        clear hr e1 e2
        go_wp2_with (at_builtin; refine append_str rfl _ _ rfl (k + 1) _ ls _ _ HO2.out (by omega) HZ2.out _ rfl rfl rfl ?_; intro v' w' hown' hb')
        have HO3 := Lib.hid hown'
        have HB3 := Lib.hid hb'
        clear hown' hb'
        go_roundw
        case rel =>
          have hi3 : w'.heap[k]? = some (.stringIter s (pos + 1)) := by rw [HB3.out.block k (by omega), HI2.out, HE1.out]
          exact ⟨pos + 1, by omega, hi3, by rw [HE2.out]; go_num, by rw [HE2.out]; exact HO3.out, HB2.out.trans (HB3.out.mono (by omega)), Nat.le_trans HZ2.out HB3.out.size⟩
        case measure =>
          have hi3 : w'.iterPos k = pos + 1 := iterPos_of (by rw [HB3.out.block k (by omega), HI2.out, HE1.out])
          rw [hi3, HIP.out]
          omega
      · obtain ⟨e1, e2, e3⟩ := rune_skip s pos hlt hr
        have hq : (((Utf8.decode s pos).1 : Int) == 10) = false := by simp; omega
        have HE1 := Lib.hid e1
        have HE2 := Lib.hid e2
        have HE3 := Lib.hid e3
        clear hr e1 e2 e3
        go_wp2
        go_roundw
        case rel => exact ⟨_, HE2.out, HI2.out, by rw [HE1.out, ← HF.out], by rw [HE1.out, ← HL.out]; exact HO2.out, HB2.out, HZ2.out⟩
        case measure =>
          rw [iterPos_of HI2.out, HIP.out]
          have := HE3.out
          omega
    · have hnext : ∀ ty, (Instr.next (.pointer (some ⟨k, 0, none⟩)) true ty).run Tryd.prog wr = _ := fun ty => Lib.run_next_end_at wr k s pos ty hI hlt
      have e : pos = s.size := by omega
      have HO := Lib.hid hown
      have HX := Lib.hid hnx
      have HZ := Lib.hid hsz
      clear hI hown hnx hsz ip
      subst e
      by_cases hfl : fr < s.size
      · have HLN : Hid (lines s = ls ++ [s.extract fr s.size]) := Lib.hid (by unfold lines; rw [if_pos (by rw [← HF.out]; exact hfl), HL.out, HF.out]; rfl)
        go_wp2_with (at_builtin; refine append_str rfl _ _ rfl (k + 1) _ ls _ _ HO.out (by omega) HZ.out _ rfl rfl rfl ?_; intro v' w' hown' hb')
        have HO3 := Lib.hid hown'
        have HB3 := Lib.hid hb'
        clear hown' hb'
        go_ret
        rw [HLN.out, ← HK.out]
        exact ⟨_, rfl, own_base HO3.out (by omega), HX.out.trans (HB3.out.mono (by omega))⟩
      · have HLN : Hid (lines s = ls) := Lib.hid (by unfold lines; rw [if_neg (by rw [← HF.out]; exact hfl), HL.out])
        go_wp2
        go_ret
        rw [HLN.out, ← HK.out]
        exact ⟨_, rfl, own_base HO.out (by omega), HX.out⟩
def Fits (i : Nat) (c : Int) : Prop := (97 ≤ c ∧ c ≤ 122) ∨ (0 < i ∧ 48 ≤ c ∧ c ≤ 57)
def AllFit (s : ByteArray) (k : Nat) : Prop := ∀ i (h : i < s.size), i < k → Fits i (s[i].toNat : Int)
noncomputable def nameB (s : ByteArray) : Bool := @decide (0 < s.size ∧ s.size ≤ 8 ∧ AllFit s s.size) (Classical.propDecidable _)
theorem ret_bool {a b : Bool} (h : a = b) : Ending.returned (.bool a) = .returned (.bool b) := by rw [h]
theorem name_no (s : ByteArray) (k : Nat) (h : k < s.size) (hk : ¬ Fits k (s[k].toNat : Int)) : nameB s = false := by
  unfold nameB
  rw [decide_eq_false_iff_not]
  rintro ⟨_, _, ha⟩
  exact hk (ha k h h)
theorem name_end (s : ByteArray) (ha : AllFit s s.size) : nameB s = (decide (1 ≤ s.size) && decide (s.size ≤ 8)) := by
  unfold nameB
  rw [Bool.eq_iff_iff]
  simp [ha]
  omega
theorem name_size (s : ByteArray) (h : ¬ (1 ≤ s.size ∧ s.size ≤ 8)) : nameB s = false := by
  unfold nameB
  rw [decide_eq_false_iff_not]
  rintro ⟨h1, h2, _⟩
  omega
theorem name_yes (s : ByteArray) (h1 : 1 ≤ s.size) (h2 : s.size ≤ 8) (ha : AllFit s s.size) : nameB s = true := by
  rw [name_end s ha]; simp; omega
theorem allFit_snoc (s : ByteArray) (k : Nat) (h : k < s.size) (ha : AllFit s k) (hf : Fits k (s[k].toNat : Int)) : AllFit s (k + 1) := by
  intro i hi hk
  by_cases e : i = k
  · subst e; exact hf
  · exact ha i hi (by omega)
theorem digit_yes (r : Int) (w : World) (h1 : 48 ≤ r) (h2 : r ≤ 57) :
    Calls Tryd.prog 26 #[.int .i32 r] w fun e w' => e = .returned (.bool true) ∧ w = w' := by
  go_enter Tryd.func26, Tryd.ntmps26
  go_wp2
  go_ret
  exact ⟨rfl, rfl⟩
theorem digit_no (r : Int) (w : World) (h : ¬ (48 ≤ r ∧ r ≤ 57)) :
    Calls Tryd.prog 26 #[.int .i32 r] w fun e w' => e = .returned (.bool false) ∧ w = w' := by
  by_cases h1 : 48 ≤ r
  · have h2 : decide (r ≤ 57) = false := by simp; omega
    clear h
    go_enter Tryd.func26, Tryd.ntmps26
    go_wp2
    go_ret
    exact ⟨rfl, rfl⟩
  · clear h
    go_enter Tryd.func26, Tryd.ntmps26
    go_wp2
    go_ret
    exact ⟨rfl, rfl⟩
theorem letter_yes (r : Int) (w : World) (h1 : 97 ≤ r) (h2 : r ≤ 122) :
    Calls Tryd.prog 25 #[.int .i32 r] w fun e w' => e = .returned (.bool true) ∧ w = w' := by
  go_enter Tryd.func25, Tryd.ntmps25
  go_wp2
  go_ret
  exact ⟨rfl, rfl⟩
theorem letter_no (r : Int) (w : World) (h : ¬ (97 ≤ r ∧ r ≤ 122)) :
    Calls Tryd.prog 25 #[.int .i32 r] w fun e w' => e = .returned (.bool false) ∧ w = w' := by
  by_cases h1 : 97 ≤ r
  · have h2 : decide (r ≤ 122) = false := by simp; omega
    clear h
    go_enter Tryd.func25, Tryd.ntmps25
    go_wp2
    go_ret
    exact ⟨rfl, rfl⟩
  · clear h
    go_enter Tryd.func25, Tryd.ntmps25
    go_wp2
    go_ret
    exact ⟨rfl, rfl⟩
/-- The rune at pos fits as its byte does; where it fits it is one byte wide. -/
theorem fits_rune (s : ByteArray) (pos : Nat) (h : pos < s.size) (hf : Fits pos (s[pos].toNat : Int)) : Utf8.decode s pos = (s[pos].toNat, 1) :=
  decode_ascii s pos h (by unfold Fits at hf; omega)
theorem rune_not (s : ByteArray) (pos : Nat) (h : pos < s.size) (hf : ¬ Fits pos (s[pos].toNat : Int)) : ¬ Fits pos ((Utf8.decode s pos).1 : Int) := by
  by_cases ha : (s[pos]'h).toNat < 128
  · rw [decode_ascii s pos h ha]
    exact hf
  · have := (decode_high s pos h (by omega)).1
    unfold Fits
    omega
def Iter (s : ByteArray) (w w' : World) : Prop := w' = w ∨ ∃ pos, w' = w.iter s pos
set_option maxRecDepth 100000 in
theorem is_name (s : ByteArray) (w : World) (hs : s.size ≤ maxLen) :
    Calls Tryd.prog 12 #[.string s] w fun e w' => e = .returned (.bool (nameB s)) ∧ Iter s w w' := by
  unfold maxLen at hs
  by_cases h8 : 1 ≤ s.size ∧ s.size ≤ 8
  · obtain ⟨h1, h2⟩ := h8
    have hemp : s.toList.isEmpty = false := by
      rw [ByteArray.toList_eq]
      obtain ⟨⟨l⟩⟩ := s
      cases l <;> simp [ByteArray.size] at h1 ⊢
    have H8 := Lib.hid (And.intro h1 h2)
    have hgt : decide (8 < s.size) = false := by simp; omega
    go_enter Tryd.func12, Tryd.ntmps12
    go_wp2
    go_loopw [3, 4] (fun i c w' => ∃ pos : Nat, w' = w.iter s pos ∧ pos ≤ s.size ∧ AllFit s pos) (fun _ _ w' => s.size - w'.iterPos w.heap.size)
    case atStart => exact ⟨0, rfl, Nat.zero_le _, fun i _ h => by omega⟩
    case round =>
      obtain ⟨pos, rfl, hp, ha⟩ := hrel
      have HA : Hid (AllFit s pos) := Lib.hid ha
      clear ha
      by_cases hlt : pos < s.size
      · have hnx : ∀ ty, (Instr.next (.pointer (some ⟨w.heap.size, 0, none⟩)) true ty).run Tryd.prog (w.iter s pos) = _ := fun ty => run_next_any w s pos ty hlt
        by_cases hf : Fits pos (s[pos].toNat : Int)
        · rw [fits_rune s pos hlt hf] at hnx
          have HN := Lib.hid (allFit_snoc s pos hlt HA.out hf)
          by_cases hl : 97 ≤ (s[pos].toNat : Int) ∧ (s[pos].toNat : Int) ≤ 122
          · clear hf
            obtain ⟨l1, l2⟩ := hl
            go_wp2_with (go_at_call 25; refine (letter_yes _ _ l1 l2).mono ?_; rintro e w' ⟨rfl, rfl⟩)
            go_roundw
            case rel => exact ⟨pos + 1, rfl, by omega, HN.out⟩
            case measure => simp; omega
          · have hz : ((pos : Int) == 0) = false := by unfold Fits at hf; simp; omega
            have d1 : 48 ≤ (s[pos].toNat : Int) := by unfold Fits at hf; omega
            have d2 : (s[pos].toNat : Int) ≤ 57 := by unfold Fits at hf; omega
            have HL := Lib.hid hl
            clear hf hl
            go_wp2_with (first | (go_at_call 25; refine (letter_no _ _ HL.out).mono ?_; rintro e w' ⟨rfl, rfl⟩) | (go_at_call 26; refine (digit_yes _ _ d1 d2).mono ?_; rintro e w' ⟨rfl, rfl⟩))
            go_roundw
            case rel => exact ⟨pos + 1, rfl, by omega, HN.out⟩
            case measure => simp; omega
        · have HB := Lib.hid (name_no s pos hlt hf)
          have hr := rune_not s pos hlt hf
          have HL : Hid (¬ (97 ≤ ((Utf8.decode s pos).1 : Int) ∧ ((Utf8.decode s pos).1 : Int) ≤ 122)) := Lib.hid (by unfold Fits at hr; omega)
          by_cases h0 : pos = 0
          · subst h0
            clear hf hr
            go_wp2_with (go_at_call 25; refine (letter_no _ _ HL.out).mono ?_; rintro e w' ⟨rfl, rfl⟩)
            go_ret
            exact ⟨ret_bool HB.out.symm, .inr ⟨_, rfl⟩⟩
          · have hz : ((pos : Int) == 0) = false := by simp; omega
            have HD : Hid (¬ (48 ≤ ((Utf8.decode s pos).1 : Int) ∧ ((Utf8.decode s pos).1 : Int) ≤ 57)) := Lib.hid (by unfold Fits at hr; omega)
            clear hf hr h0
            go_wp2_with (first | (go_at_call 25; refine (letter_no _ _ HL.out).mono ?_; rintro e w' ⟨rfl, rfl⟩) | (go_at_call 26; refine (digit_no _ _ HD.out).mono ?_; rintro e w' ⟨rfl, rfl⟩))
            go_ret
            exact ⟨ret_bool HB.out.symm, .inr ⟨_, rfl⟩⟩
      · have hnx : ∀ ty, (Instr.next (.pointer (some ⟨w.heap.size, 0, none⟩)) true ty).run Tryd.prog (w.iter s pos) = _ := fun ty => run_next_end w s pos ty hlt
        have e : pos = s.size := by omega
        subst e
        go_wp2
        go_ret
        exact ⟨ret_bool (name_yes s H8.out.1 H8.out.2 HA.out).symm, .inr ⟨_, rfl⟩⟩
  · have HB := Lib.hid (name_size s h8)
    by_cases h0 : s.size = 0
    · have hemp : s.toList.isEmpty = true := by
        rw [ByteArray.toList_eq]
        obtain ⟨⟨l⟩⟩ := s
        cases l <;> simp [ByteArray.size] at h0 ⊢
      clear h8 h0
      go_enter Tryd.func12, Tryd.ntmps12
      go_wp2
      go_ret
      exact ⟨ret_bool HB.out.symm, .inl rfl⟩
    · have hemp : s.toList.isEmpty = false := by
        rw [ByteArray.toList_eq]
        obtain ⟨⟨l⟩⟩ := s
        cases l <;> simp [ByteArray.size] at h0 ⊢
      have hgt : 8 < s.size := by omega
      clear h8 h0
      go_enter Tryd.func12, Tryd.ntmps12
      go_wp2
      go_ret
      exact ⟨ret_bool HB.out.symm, .inl rfl⟩
theorem below_iter {s : ByteArray} {w w' : World} (h : Iter s w w') : Below w.heap.size w w' := by
  rcases h with rfl | ⟨pos, rfl⟩
  · exact Below.refl _ _
  · exact (Below.refl _ _).alloc (Nat.le_refl _) _
end Go.Proofs.YtglcjfhiekhjoaaDoor.Util
