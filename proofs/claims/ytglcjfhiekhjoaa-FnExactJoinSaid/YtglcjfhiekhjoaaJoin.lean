/-
  'Join' of the program answers, at every list of strings and every separator, as its model does, and leaves its arguments as they were. No condition.
-/
import Derived.Test.YtglcjfhiekhjoaaShelf
import Derived.Test.YtglcjfhiekhjoaaMark
import Derived.Test.YtglcjfhiekhjoaaRows
import Derived.WalkKit
import Derived.WalkSpells
import Derived.WalkLawsBesides
import Derived.ProofKit
import Derived.OpenShut
import Derived.ShutString
import Derived.ChangeOld
import Derived.Below
import Derived.Laws.Concat
import Derived.Lib.Hide
namespace Go.Proofs.Ytglcjfhiekhjoaa.fnExactJoin
open Go.ChangeShapes Go.WideShapes Go.ChangeAt Go.RowKit
open Go.ChangeMaps (open_string shut_string)
set_option linter.unusedVariables false

theorem own : ownKnob Try.prog.godebug = none := by kernel_rfl
theorem laidOut : laidOutB Try.prog = true := by kernel_rfl
theorem info9 : (Try.prog.info? 9).map (fun i => (i.zero, i.size, i.bytes)) = some (some (.string ByteArray.empty), 1, 16) := by kernel_rfl

/-- A slice of strings as it lies in memory: of 'len' elements, 'ss'. -/
def StrsAt (w : World) (a : Option Addr) (len : Nat) (ss : List ByteArray) : Prop :=
  ss.length = len ∧ (0 < len → ∃ b off, a = some ⟨b, off, none⟩ ∧ b < w.heap.size ∧ ∀ j s, ss[j]? = some s → w.cell? ⟨b, off + j, none⟩ = some (.string s))

theorem StrsAt.below {w w' : World} {a : Option Addr} {len : Nat} {ss : List ByteArray} (h : StrsAt w a len ss) (hb : Below w.heap.size w w') : StrsAt w' a len ss := by
  refine ⟨h.1, fun hp => ?_⟩
  obtain ⟨b, off, rfl, hlt, hc⟩ := h.2 hp
  exact ⟨b, off, rfl, Nat.lt_of_lt_of_le hlt hb.size, fun j s hj => by rw [hb.cell (p := ⟨b, off + j, none⟩) hlt]; exact hc j s hj⟩
theorem strsAt_own {w : World} {B : Nat} {a : Option Addr} {cap n : Nat} {l : List ByteArray} (h : w.ownsRow B 9 1 (.slice a n cap) n (l.map Value.string)) : StrsAt w a n l := by
  obtain ⟨hl, a', cap', hv, hc⟩ := own_shape h
  simp at hv
  obtain ⟨rfl, rfl⟩ := hv
  refine ⟨hl, fun hp => ?_⟩
  obtain ⟨g, rfl, _, hlt, hcell⟩ := hc hp
  exact ⟨g, 0, rfl, hlt, fun j s hj => by simpa using hcell j s hj⟩

theorem own_cap {w : World} {B : Nat} {a : Option Addr} {cap n : Nat} {xs : List Value} (h : w.ownsRow B 9 1 (.slice a n cap) n xs) : n ≤ cap := by
  obtain ⟨_, ⟨h1, h2⟩ | ⟨g, cap', cur, hv, _, _, hn, _⟩⟩ := h
  · omega
  · simp at hv
    omega
/-- The bytes of all strings. -/
def tot (l : List ByteArray) : Nat := (l.map (·.size)).sum
theorem tot_snoc (ss : List ByteArray) (k : Nat) (s : ByteArray) (h : ss[k]? = some s) : tot (ss.take (k + 1)) = tot (ss.take k) + s.size := by
  rw [List.take_add_one, h]
  simp [tot]
theorem tot_le (ss : List ByteArray) (k : Nat) : tot (ss.take k) ≤ tot ss := by
  have : tot ss = tot (ss.take k) + tot (ss.drop k) := by
    conv => lhs; rw [← List.take_append_drop k ss]
    simp only [tot, List.map_append, List.sum_append]
  omega

/-- What the measure of a list of strings says: below 0, or the list is short. -/
def SzPost (len : Nat) (ss : List ByteArray) (w : World) (e : Ending) (w' : World) : Prop :=
  ∃ r : Int, e = .returned (.int .i64 r) ∧ w = w' ∧ (r < 0 ∨ (0 ≤ r ∧ len ≤ 1048576 ∧ tot ss ≤ 1048576)) ∧ -9223372036854775808 ≤ r ∧ r ≤ 9223372036854775807

theorem size_any (a : Option Addr) (len cap : Nat) (ss : List ByteArray) (w : World) (h : StrsAt w a len ss) (hm : len ≤ 9223372036854775807) (hz : ∀ s ∈ ss, s.size ≤ 9223372036854775807) :
    Calls Try.prog 20 #[.slice a len cap, .int .i64 1048576] w (SzPost len ss w) := by
  by_cases hl : 1048576 < len
  · go_enter Try.func20, Try.ntmps20
    go_wp2
    go_ret
    exact ⟨-1, rfl, rfl, .inl (by omega), by omega, by omega⟩
  · have HS := Lib.hid h
    have HZ := Lib.hid hz
    clear h hz
    go_enter Try.func20, Try.ntmps20
    go_wp2
    go_loop [1, 5] (fun q i => ∃ k : Nat, ∃ r : Int, k ≤ len ∧ i = .int .i64 k ∧ q = .int .i64 r ∧ 0 ≤ r ∧ r ≤ 1048576 ∧ r + len + tot (ss.take k) = 1048576) (fun _ i => len - (intOf i).toNat)
    case atStart => exact ⟨0, (1048576 : Int) - len, by omega, rfl, rfl, by omega, by omega, by simp [tot]⟩
    case round =>
      obtain ⟨k, r, hk, rfl, rfl, hr0, hr1, hr⟩ := hrel
      have HR := Lib.hid hr
      clear hr
      by_cases hlt : k < len
      · obtain ⟨b, off, rfl, _, hc⟩ := HS.out.2 (by omega)
        obtain ⟨s, hs⟩ : ∃ s, ss[k]? = some s := ⟨_, List.getElem?_eq_getElem (by rw [HS.out.1]; exact hlt)⟩
        have hcell := hc k s hs
        have hsz := HZ.out s (List.mem_of_getElem? hs)
        have HT := Lib.hid (tot_snoc ss k s hs)
        clear hc hs
        by_cases hneg : r < s.size
        · go_wp2
          go_ret
          exact ⟨-1, rfl, rfl, .inl (by omega), by omega, by omega⟩
        · go_wp2
          go_round
          case rel => exact ⟨k + 1, r - s.size, by omega, by go_num, rfl, by omega, by omega, by rw [HT.out]; have := HR.out; omega⟩
          case measure => simp [intOf]; omega
      · go_wp2
        go_ret
        have e : k = len := by omega
        subst e
        have hr := HR.out
        rw [List.take_of_length_le (by rw [HS.out.1]; exact Nat.le_refl _)] at hr
        exact ⟨r, rfl, rfl, .inr ⟨hr0, by omega, by omega⟩, by omega, by omega⟩

def CopyPost (len : Nat) (ss : List ByteArray) (w : World) (e : Ending) (w' : World) : Prop :=
  ∃ a cap, e = .returned (.slice a len cap) ∧ w'.ownsRow w.heap.size 9 1 (.slice a len cap) len (ss.map Value.string) ∧ Below w.heap.size w w'

theorem copy_step (l : List ByteArray) (n k : Nat) (s : ByteArray) (hn : l.length = n) (hs : l[k]? = some s) :
    ((l.take k).map Value.string ++ List.replicate (n - k) (Value.string ByteArray.empty)).set k (.string s) = (l.take (k + 1)).map Value.string ++ List.replicate (n - (k + 1)) (Value.string ByteArray.empty) := by
  have hk : k < l.length := by
    rcases Nat.lt_or_ge k l.length with h | h
    · exact h
    · rw [List.getElem?_eq_none h] at hs; cases hs
  have e : n - k = (n - (k + 1)) + 1 := by omega
  rw [e, List.replicate_succ]
  have h := set_mid ((l.take k).map Value.string) (List.replicate (n - (k + 1)) (Value.string ByteArray.empty)) (.string ByteArray.empty) (.string s)
  rw [List.length_map, List.length_take, Nat.min_eq_left (by omega)] at h
  rw [h, List.take_add_one, hs]
  simp

theorem copy_any (a : Option Addr) (len cap : Nat) (ss : List ByteArray) (w : World) (h : StrsAt w a len ss) (hm : len ≤ 1048576) :
    Calls Try.prog 22 #[.slice a len cap] w (CopyPost len ss w) := by
  have HS := Lib.hid h
  clear h
  obtain ⟨i0, hi, hz0, hz1, hz2⟩ := info_parts info9
  have HI := Lib.hid (show _ ∧ _ ∧ _ ∧ _ from ⟨hi, hz0, hz1, hz2⟩)
  clear hi hz0 hz1 hz2
  go_enter Try.func22, Try.ntmps22
  go_wp2_with (at_make; refine wpList_make_full _ rfl _ _ 23 rfl w.heap.size 9 i0 (.string ByteArray.empty) 1 Try.underlying23 HI.out.1 HI.out.2.1 HI.out.2.2.1 .i64 .i64 len len len rfl rfl rfl rfl ?b2 ?b3 ?b4 ?_)
  case b2 => rw [HI.out.2.2.2]; omega
  case b3 => unfold maxLen; omega
  case b4 => exact Nat.le_refl _
  intro w1 hown hgrow
  have HO := Lib.hid hown
  have HG : Hid (Below w.heap.size w w1) := Lib.hid ((Below.refl w.heap.size w).grown hgrow (Nat.le_refl _) (by intro k hk; cases hk))
  clear hown hgrow
  obtain ⟨g, hg⟩ : ∃ g, g = w.heap.size := ⟨_, rfl⟩
  have HGE := Lib.hid hg
  rw [← hg]
  rw [← hg] at HO HG
  clear hg
  go_wp2
  go_loopw [4] (fun i wr => ∃ k : Nat, k ≤ len ∧ i = .int .i64 k ∧ wr.ownsRow g 9 1 (.slice (some ⟨g, 0, none⟩) len len) len ((ss.take k).map Value.string ++ List.replicate (len - k) (Value.string ByteArray.empty)) ∧ Below g w wr) (fun i _ => len - (intOf i).toNat)
  case atStart => exact ⟨0, by omega, rfl, by have := HO.out; rw [toList_madeCells_one] at this; simpa using this, HG.out⟩
  case round =>
    obtain ⟨k, hk, rfl, hown, hnx⟩ := hrel
    have HR := Lib.hid hown
    have HX := Lib.hid hnx
    clear hown hnx
    by_cases hlt : k < len
    · obtain ⟨b, off, rfl, hb, hc⟩ := HS.out.2 (by omega)
      obtain ⟨s, hs⟩ : ∃ s, ss[k]? = some s := ⟨_, List.getElem?_eq_getElem (by rw [HS.out.1]; exact hlt)⟩
      have hcell : wr.cell? ⟨b, off + k, none⟩ = some (.string s) := by rw [HX.out.cell (p := ⟨b, off + k, none⟩) (by rw [HGE.out]; exact hb)]; exact hc k s hs
      have hfz := HR.out.frozenAt k
      obtain ⟨old, hold⟩ : ∃ v, wr.cell? ⟨g, k, none⟩ = some v := by
        rw [HR.out.cellAt k (by omega)]
        exact ⟨_, List.getElem?_eq_getElem (by have := HR.out.1; omega)⟩
      have HC := Lib.hid (copy_step ss len k s HS.out.1 hs)
      clear hc hs
      go_wp2
      go_roundw
      case rel =>
        have hst := HR.out.stored k (.string s)
        rw [HC.out] at hst
        exact ⟨k + 1, by omega, by go_num, hst.1, HX.out.setCell (Nat.le_refl _) _⟩
      case measure => simp [intOf]; omega
    · go_wp2
      go_ret
      have e : k = len := by omega
      subst e
      refine ⟨_, _, rfl, ?_, by rw [← HGE.out]; exact HX.out⟩
      have := HR.out
      rw [List.take_of_length_le (by rw [HS.out.1]; exact Nat.le_refl _), Nat.sub_self] at this
      rw [← HGE.out]
      simpa using this

/-- What 'Join' answers. -/
def joined (ss : List ByteArray) (by_ : ByteArray) : List UInt8 := Lib.join (ss.map (·.data.toList)) by_.data.toList

theorem join_snoc (l : List (List UInt8)) (x sep : List UInt8) (h : l ≠ []) : Lib.join (l ++ [x]) sep = Lib.join l sep ++ sep ++ x := by
  cases l with
  | nil => exact absurd rfl h
  | cons y r =>
    rw [List.cons_append, Lib.join_cons, Lib.join_cons]
    simp [Lib.joinTail]

theorem joined_first (ss : List ByteArray) (b s : ByteArray) (h : ss[0]? = some s) : joined (ss.take 1) b = s.data.toList := by
  cases ss with
  | nil => simp at h
  | cons y r =>
    simp at h
    subst h
    simp [joined, Lib.join_one]
theorem joined_next (ss : List ByteArray) (b s : ByteArray) (k : Nat) (hk : 0 < k) (h : ss[k]? = some s) : joined (ss.take (k + 1)) b = joined (ss.take k) b ++ b.data.toList ++ s.data.toList := by
  unfold joined
  rw [List.take_add_one, h, Option.toList_some, List.map_append, List.map_cons, List.map_nil, join_snoc]
  have : k < ss.length := by
    rcases Nat.lt_or_ge k ss.length with h' | h'
    · exact h'
    · rw [List.getElem?_eq_none h'] at h; cases h
  intro he
  have := congrArg List.length he
  rw [List.length_map, List.length_take, Nat.min_eq_left (by omega), List.length_nil] at this
  omega
theorem joined_len (ss : List ByteArray) (b : ByteArray) : ∀ k, k ≤ ss.length → (joined (ss.take k) b).length ≤ tot (ss.take k) + k * b.size
  | 0, _ => by simp [joined, Lib.join_nil]
  | k + 1, hk => by
    have ih := joined_len ss b k (by omega)
    have hs : ss[k]? = some (ss[k]'(by omega)) := List.getElem?_eq_getElem _
    rw [tot_snoc ss k _ hs, Nat.add_mul, Nat.one_mul]
    have e1 : ∀ x : ByteArray, x.data.toList.length = x.size := fun _ => rfl
    by_cases h0 : k = 0
    · subst h0
      rw [joined_first ss b _ hs, e1]
      omega
    · rw [joined_next ss b _ k (by omega) hs, List.length_append, List.length_append, e1, e1]
      omega
theorem joined_bound (ss : List ByteArray) (b : ByteArray) (k : Nat) (hk : k ≤ ss.length) (h1 : ss.length ≤ 1048576) (h2 : tot ss ≤ 1048576) (h3 : b.size ≤ 1048576) : (joined (ss.take k) b).length ≤ 1099512676352 := by
  have h := joined_len ss b k hk
  have h4 := tot_le ss k
  have h5 : k * b.size ≤ 1048576 * 1048576 := Nat.mul_le_mul (by omega) h3
  omega

def str (l : List UInt8) : ByteArray := ⟨l.toArray⟩
theorem str_size (l : List UInt8) : (str l).size = l.length := rfl
theorem str_data (l : List UInt8) : (str l).data.toList = l := rfl
theorem str_app (a : ByteArray) (l : List UInt8) : str (a.data.toList ++ l) = a ++ str l := by
  apply ByteArray.ext
  simp [str]
theorem str_of (a : ByteArray) : str a.data.toList = a := rfl
theorem app_str (l : List UInt8) (a : ByteArray) : str l ++ a = str (l ++ a.data.toList) := by
  apply ByteArray.ext
  simp [str]
theorem ret_str {a b : ByteArray} (h : a = b) : Ending.returned (.string a) = .returned (.string b) := by rw [h]

theorem model (a : Option Addr) (len cap : Nat) (ss : List ByteArray) (by_ : ByteArray) (w : World) (h : StrsAt w a len ss) (h1 : len ≤ 1048576) (h2 : tot ss ≤ 1048576) (h3 : by_.size ≤ 1048576) :
    Calls Try.prog 21 #[.slice a len cap, .string by_] w fun e w' => e = .returned (.string (str (joined ss by_))) ∧ w = w' := by
  have HS := Lib.hid h
  have HZ : Hid (tot ss ≤ 1048576) := Lib.hid h2
  clear h h2
  go_enter Try.func21, Try.ntmps21
  go_wp2
  go_loop [5, 6, 7, 10] (fun t _ _ i => ∃ k : Nat, k ≤ len ∧ i = .int .i64 k ∧ t = .string (str (joined (ss.take k) by_))) (fun _ _ _ i => len - (intOf i).toNat)
  case atStart => exact ⟨0, by omega, rfl, rfl⟩
  case round =>
    obtain ⟨k, hk, rfl, rfl⟩ := hrel
    by_cases hlt : k < len
    · obtain ⟨b, off, rfl, hb, hc⟩ := HS.out.2 (by omega)
      obtain ⟨s, hs⟩ : ∃ s, ss[k]? = some s := ⟨_, List.getElem?_eq_getElem (by rw [HS.out.1]; exact hlt)⟩
      have hcell := hc k s hs
      have hl : (str (joined (ss.take k) by_)).size ≤ 1099512676352 := joined_bound ss by_ k (by rw [HS.out.1]; exact hk) (by rw [HS.out.1]; exact h1) HZ.out h3
      have hss : s.size ≤ 1048576 := by
        have := tot_snoc ss k s hs
        have := tot_le ss (k + 1)
        have := HZ.out
        omega
      obtain ⟨acc, hacc⟩ : ∃ acc, acc = str (joined (ss.take k) by_) := ⟨_, rfl⟩
      rw [← hacc] at hl ⊢
      have HA := Lib.hid hacc
      by_cases h0 : k = 0
      · subst h0
        have HN : Hid (acc ++ s = str (joined (ss.take (0 + 1)) by_)) := Lib.hid (by rw [hacc, joined_first ss by_ s hs]; exact app_str [] s)
        have hcell0 : w.cell? ⟨b, off, none⟩ = some (.string s) := hcell
        clear hc hs hacc hcell
        go_wp2
        go_round
        case rel => exact ⟨0 + 1, by omega, by go_num, by rw [HN.out]⟩
        case measure => simp [intOf]; omega
      · have hz : (0 : Int) < k := by omega
        have HN : Hid (acc ++ by_ ++ s = str (joined (ss.take (k + 1)) by_)) := Lib.hid (by rw [hacc, joined_next ss by_ s k (by omega) hs, app_str, app_str])
        have hab : (acc ++ by_).size ≤ 1099513724928 := by rw [ByteArray.size_append]; omega
        clear hc hs hacc
        go_wp2
        go_round
        case rel => exact ⟨k + 1, by omega, by go_num, by rw [HN.out]⟩
        case measure => simp [intOf]; omega
    · go_wp2
      go_ret
      have e : k = len := by omega
      subst e
      exact ⟨ret_str (by rw [List.take_of_length_le (by rw [HS.out.1]; exact Nat.le_refl _)]), rfl⟩

theorem joinTexts_any (a : Option Addr) (len cap : Nat) (ss : List ByteArray) (by_ : ByteArray) (w : World) (h : StrsAt w a len ss) (hcap : len ≤ cap) (h1 : len ≤ 1048576) (h2 : tot ss ≤ 1048576) (h3 : by_.size ≤ 1048576) :
    Calls Try.prog 31 #[.string by_, .slice a len cap] w fun e w' => e = .returned (.string (str (joined ss by_))) ∧ Below w.heap.size w w' := by
  by_cases h0 : len = 0
  · subst h0
    have e : ss = [] := List.eq_nil_of_length_eq_zero h.1
    subst e
    have hc := Try.strings_Join_none a cap by_ w
    have HC := Lib.hid hc
    clear hc h
    go_enter Try.func31, Try.ntmps31
    go_wp2_with (go_at_call 33; refine HC.out.mono ?_; rintro e w' ⟨rfl, hb⟩; subst hb)
    go_ret
    exact ⟨rfl, Below.refl _ _⟩
  · obtain ⟨hl, hh⟩ := h
    obtain ⟨b, off, rfl, hb, hc⟩ := hh (by omega)
    have hj := Try.strings_Join b off cap ss by_ w hc hb (by omega) (by omega) (by
      have := joined_bound ss by_ ss.length (Nat.le_refl _) (by omega) h2 h3
      rw [List.take_length] at this
      unfold joined at this
      omega)
    rw [hl] at hj
    have HC := Lib.hid hj
    clear hj hc hh
    go_enter Try.func31, Try.ntmps31
    go_wp2_with (go_at_call 33; refine HC.out.mono ?_; rintro e w' ⟨rfl, hb'⟩)
    go_ret
    exact ⟨rfl, by assumption⟩

theorem program (a : Option Addr) (len cap : Nat) (ss : List ByteArray) (by_ : ByteArray) (w : World) (h : StrsAt w a len ss) (hcap : len ≤ cap) (h1 : len ≤ 1048576) (h2 : tot ss ≤ 1048576) (h3 : by_.size ≤ 1048576) :
    Calls Try.prog 23 #[.slice a len cap, .string by_] w fun e w' => e = .returned (.string (str (joined ss by_))) ∧ Below w.heap.size w w' := by
  have HC := Lib.hid (joinTexts_any a len cap ss by_ w h hcap h1 h2 h3)
  clear h
  go_enter Try.func23, Try.ntmps23
  go_wp2_with (go_at_call 31; refine HC.out.mono ?_; rintro e w' ⟨rfl, hb'⟩)
  go_ret
  exact ⟨rfl, by assumption⟩

def Opened (w : World) (a : Option Addr) (len : Nat) (ss : List ByteArray) : Prop := StrsAt w a len ss ∧ len ≤ 9223372036854775807 ∧ ∀ s ∈ ss, s.size ≤ 9223372036854775807

theorem walk (a : Option Addr) (len cap : Nat) (ss : List ByteArray) (a1 : ByteArray) (w : World) (w0 : Opened w a len ss) (w1 : a1.size ≤ maxLen) :
    Calls Try.prog 7 #[.slice a len cap, .string a1] w fun e w' => e = .returned (.bool true) ∧ Below w.heap.size w w' := by
  obtain ⟨h, hm, hz⟩ := w0
  have hw := w1
  unfold maxLen at hw
  by_cases hl : 1048576 < a1.size
  · clear h hz
    go_enter Try.func7, Try.ntmps7
    go_wp2
    go_ret
    exact ⟨rfl, Below.refl _ _⟩
  · have hl' : a1.size ≤ 1048576 := by omega
    have HSZ := Lib.hid (size_any a len cap ss w h hm hz)
    have HS := Lib.hid h
    clear h hz
    go_enter Try.func7, Try.ntmps7
    go_wp2_with fail
    refine HSZ.out.mono ?_
    rintro e w' ⟨r, rfl, rfl, hr | ⟨hr, hlen, htot⟩, hr1, hr2⟩
    · go_wp2
      go_ret
      exact ⟨rfl, Below.refl _ _⟩
    · have hr' : ¬ r < 0 := by omega
      go_wp2_with fail
      refine (copy_any a len cap ss w HS.out hlen).mono ?_
      rintro e w1 ⟨b, capb, rfl, hown1, hb1⟩
      have HO1 := Lib.hid hown1
      have HB1 := Lib.hid hb1
      clear hown1 hb1
      go_wp2_with fail
      refine (model b len capb ss a1 w1 (strsAt_own HO1.out) hlen htot hl').mono ?_
      rintro e w' ⟨rfl, rfl⟩
      go_wp2_with fail
      refine (copy_any a len cap ss w1 (HS.out.below HB1.out) hlen).mono ?_
      rintro e w2 ⟨c, capc, rfl, hown2, hb2⟩
      have HO2 := Lib.hid hown2
      have HB2 := Lib.hid hb2
      clear hown2 hb2
      go_wp2_with fail
      refine (program c len capc ss a1 w2 (strsAt_own HO2.out) (own_cap HO2.out) hlen htot hl').mono ?_
      rintro e w3 ⟨rfl, hb3⟩
      have HB3 := Lib.hid hb3
      clear hb3
      go_wp2_with fail
      have HB13 : Hid (Below w.heap.size w w3) := Lib.hid ((HB1.out.trans (HB2.out.mono HB1.out.size)).trans (HB3.out.mono (Nat.le_trans HB1.out.size HB2.out.size)))
      refine (copy_any a len cap ss w3 (HS.out.below HB13.out) hlen).mono ?_
      rintro e w4 ⟨d, capd, rfl, hown4, hb4⟩
      have HO4 := Lib.hid hown4
      have HB4 := Lib.hid hb4
      clear hown4 hb4
      go_wp2_with fail
      refine (eq_same w1.heap.size w3.heap.size (.slice c len capc) (.slice d len capd) len ss w4 (own_below (own_below HO2.out HB3.out) HB4.out) HO4.out (by omega)).mono ?_
      rintro e w5 ⟨rfl, hb5⟩
      have HB5 := Lib.hid hb5
      clear hb5
      go_wp2
      go_ret
      exact ⟨rfl, (HB13.out.trans (HB4.out.mono HB13.out.size)).trans (HB5.out.mono (Nat.le_trans HB13.out.size HB4.out.size))⟩

theorem strs_at {W : World} {x : Addr} {len cap : Nat} {ss : List ByteArray} (hl : len ≤ cap) (hz : ss.length = cap) (hcell : ∀ i, i < ss.length → W.cell? (x.add i) = some (.string (ss.getD i ByteArray.empty))) :
    StrsAt W (some x) len (ss.take len) := by
  refine ⟨by rw [List.length_take]; omega, fun hp => ?_⟩
  obtain ⟨b, off, spot⟩ := x
  have h0 := hcell 0 (by omega)
  have hspot : spot = none := by simpa [Addr.add] using World.cell?_spot h0
  subst hspot
  refine ⟨b, off, rfl, ?_, fun j s hj => ?_⟩
  · have := block_lt_of_cell h0
    simpa [Addr.add] using this
  · have hj1 : j < len ∧ ss[j]? = some s := by
      rw [List.getElem?_take] at hj
      split at hj
      · exact ⟨by assumption, hj⟩
      · cases hj
    rw [← Go.WideShapes.add_plain, hcell j (by omega), List.getD, hj1.2]
    rfl

theorem opened {W : World} {H : Type} {enc : TypeId × Value → H} {a : Option Addr} {len cap : Nat} {fuel : Nat} {x : DataW H × List MemPlace}
    (hf : DataW.trod enc Try.prog W 0 (fun _ => true) true fuel 23 (Value.cells (.slice a len cap)).toList = some x) :
    ∃ ss, Opened W a len ss := by
  rcases open_strings Try.underlying23 Try.underlying9 (by kernel_rfl) hf with ⟨hcs, _⟩ | ⟨x, l, c, ss, hcs, _, hl, hm, hz, _, hcell, hsz⟩
  · simp [Value.cells] at hcs
    obtain ⟨rfl, rfl, rfl⟩ := hcs
    exact ⟨[], ⟨rfl, fun h => absurd h (by omega)⟩, by omega, fun s h => by cases h⟩
  · simp [Value.cells] at hcs
    obtain ⟨rfl, rfl, rfl⟩ := hcs
    have hz' : ss.length = cap := by simpa using hz
    unfold maxLen at hm
    exact ⟨ss.take len, strs_at hl hz' hcell, by omega, fun s h => by have := hsz s (List.mem_of_mem_take h); unfold maxLen at this; omega⟩

set_option maxRecDepth 100000 in
theorem lifted (os : Os) (started : os.Started) (H : Type) (enc : TypeId × Value → H) :
    ReturnsInHanded {} Try.checked os 7 .any (Rows.fnExactJoinSpec.pre6 enc Try.prog Try.f7 Rows.fnExactJoinRow.domain false) (Rows.fnExactJoinSpec.post enc Try.prog Try.f7 false true false false) := by
  refine returnsInHanded_of_change (C := Try.checked) own started (by kernel_rfl) Try.func7
    (ChangeSpec.witness6 (enc := enc) (C := Try.checked) false ⟨#[], #[.slice none 0 0, .string ByteArray.empty], []⟩ 8 (by kernel_rfl) (by kernel_rfl) (by kernel_rfl) (by kernel_rfl)) ?_
  intro W base args ds gs before hval0 hW hcnd _
  have hval : ∀ (j : Nat) t v, Try.f7.params[j]? = some t → args[j]? = some v → Value.okWide Try.prog W .any base t v := hval0
  have hW' := hW
  obtain ⟨p, q, hA0, hV, rfl, hfz, hnd⟩ := hW
  have hA : DataW.TrodAll enc Try.prog W 0 (fun _ => true) true Try.f7.params.toList args.toList ds p := hA0
  rw [Try.params7] at hA hval
  obtain ⟨v0, vs0, d0, ds0, p0, q0, hargs, rfl, rfl, h0, r0⟩ := trodAll_cons hA
  obtain ⟨v1, vs1, d1, ds1, p1, q1, rfl, rfl, rfl, h1, r1⟩ := trodAll_cons r0
  obtain ⟨rfl, rfl, rfl⟩ := trodAll_nil r1
  obtain rfl : args = #[v0, v1] := by cases args; simp_all
  obtain ⟨rfl, rfl⟩ := trodVars_none hV
  obtain ⟨a0, len0, cap0, rfl⟩ := okWide_slice Try.underlying23 (hval 0 23 v0 rfl rfl)
  have k0 := h0
  have lt0 : ∀ x ∈ p0, x.block < W.heap.size := by obtain ⟨m, hm⟩ := k0; exact DataW.trod_lt m _ _ _ hm
  obtain ⟨fuel0, hf0⟩ := h0
  obtain ⟨z0, w0⟩ := opened hf0
  obtain ⟨a1, rfl, rfl, rfl, w1⟩ := open_string Try.underlying9 (hval 1 9 v1 rfl rfl) h1
  clear hA0 hval0
  refine (walk a0 len0 cap0 z0 a1 W w0 w1).mono fun e W' ⟨he, bel⟩ => ?_
  subst he
  exact ⟨_, rfl, _, _, _, [], _, [], hW', trodAll_mk1 (shut_bool Try.underlying4 _), (trodAll_cons_mk (Below.trod laidOut (by kernel_rfl) (of_decide_eq_true (by kernel_rfl)) k0 bel lt0) (trodAll_cons_mk (shut_string Try.underlying9 w1) trodAll_mk0)), rfl, bel.frame _, fun h => by cases h⟩

theorem proved : Rows.FnExactJoinSaid :=
  OpenClaim.holds_of_wide 7 Try.f7 rfl rfl rfl rfl rfl rfl rfl ⟨rfl, rfl, rfl, rfl, rfl⟩ rfl rfl rfl rfl rfl (by kernel_rfl) Try.func7 (by kernel_rfl)
    (of_decide_eq_true (by kernel_rfl)) (by unfold Func.isWrapper; rw [if_neg (of_decide_eq_false (by kernel_rfl))]; exact ⟨rfl, rfl⟩)
    (fun os started H enc _ => lifted os started H enc)
#print axioms proved
end Go.Proofs.Ytglcjfhiekhjoaa.fnExactJoin
