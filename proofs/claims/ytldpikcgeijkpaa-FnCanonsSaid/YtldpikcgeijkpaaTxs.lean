/-
  Helpers of the claims beside this text: slices of texts: what szStringS, toStringS, eqStringS, markStringS, heldStringS and markText of the laws do.
-/
import Derived.Test.YtldpikcgeijkpaaRhythm
import Derived.Laws.BytesString
import Derived.Laws.Concat
import Derived.Deep.RegionHeld3
namespace Go.Proofs.Ytldpikcgeijkpaa.Rhy
open Go.RowKit
set_option linter.unusedVariables false

def dgT (n : Nat) : UInt8 := UInt8.ofNat (48 + n % 10)
def digsT (n : Nat) (acc : List UInt8) : List UInt8 :=
  if h : n = 0 then acc else digsT (n / 10) (dgT n :: acc)
termination_by n
decreasing_by omega
theorem digsT_zero (acc : List UInt8) : digsT 0 acc = acc := by rw [digsT]; simp
theorem digsT_step (n : Nat) (acc : List UInt8) (h : 0 < n) : digsT n acc = digsT (n / 10) (dgT n :: acc) := by
  rw [digsT, dif_neg (by omega)]
theorem conv_oneT (w : World) (c : Nat) :
    (convert 22 9 (.slice (some ⟨w.heap.size, 0, none⟩) 1 1)).run Try.prog (w.alloc (.cells #[.int .u8 c] 5)) = .ok (.string ⟨#[UInt8.ofNat c]⟩) (w.alloc (.cells #[.int .u8 c] 5)) := by
  rw [run_convert_bytes_string _ 22 9 5 _ 1 1 Try.underlying22 Try.underlying5 Try.underlying9]
  rw [run_bytesToString _ _ 1 1 [(c : Int)]]
  · rfl
  · refine run_loadCells_list _ _ [Value.int .u8 c] fun j v hj => ?_
    match j, hj with
    | 0, hj => simp at hj; subst hj; simp [Addr.add]
theorem app_oneT (x : UInt8) (acc : List UInt8) : ((⟨#[x]⟩ : ByteArray) ++ ⟨acc.toArray⟩) = ⟨(x :: acc).toArray⟩ := by
  apply ByteArray.ext
  simp

/-- A row of texts. -/
def txts (l : List ByteArray) : List Value := l.map Value.string
theorem txts_shape {w : World} {B : Nat} {v : Value} {n : Nat} {l : List ByteArray} (h : w.ownsRow B 9 1 v n (txts l)) :
    l.length = n ∧ ∃ a cap, v = .slice a n cap ∧ (0 < n → ∃ g, a = some ⟨g, 0, none⟩ ∧ B ≤ g ∧ g < w.heap.size ∧ ∀ j s, l[j]? = some s → w.cell? ⟨g, j, none⟩ = some (.string s)) := by
  have hc := @World.ownsRow.cells w B 9 1 v n (txts l) h
  have hlt := h.lt
  obtain ⟨h1, ⟨rfl, h0⟩ | ⟨g, cap, cur, rfl, hB, hg, hn, hm, hs, ht⟩⟩ := h
  · exact ⟨by simpa [txts] using h1, none, 0, by rw [h0], fun hp => by omega⟩
  · refine ⟨by simpa [txts] using h1, _, cap, rfl, fun hp => ⟨g, rfl, hB, (hlt g rfl).2, fun j s hj => ?_⟩⟩
    have := hc (g := g) rfl j (.string s) (by simp [txts, hj])
    rcases j with _ | j <;> simpa [Addr.add] using this
/-- A slice of texts as it lies in memory. -/
def TxtsAt (w : World) (a : Option Addr) (len : Nat) (ss : List ByteArray) : Prop :=
  ss.length = len ∧ (0 < len → ∃ b off, a = some ⟨b, off, none⟩ ∧ b < w.heap.size ∧ ∀ j s, ss[j]? = some s → w.cell? ⟨b, off + j, none⟩ = some (.string s))
theorem TxtsAt.below {w w' : World} {a : Option Addr} {len : Nat} {ss : List ByteArray} (h : TxtsAt w a len ss) (hb : Below w.heap.size w w') : TxtsAt w' a len ss := by
  refine ⟨h.1, fun hp => ?_⟩
  obtain ⟨b, off, rfl, hlt, hc⟩ := h.2 hp
  exact ⟨b, off, rfl, Nat.lt_of_lt_of_le hlt hb.size, fun j s hj => by rw [hb.cell (p := ⟨b, off + j, none⟩) hlt]; exact hc j s hj⟩
theorem txtsAt_own {w : World} {B : Nat} {a : Option Addr} {cap n : Nat} {l : List ByteArray} (h : w.ownsRow B 9 1 (.slice a n cap) n (txts l)) : TxtsAt w a n l := by
  obtain ⟨hl, a', cap', hv, hc⟩ := txts_shape h
  simp at hv
  obtain ⟨rfl, rfl⟩ := hv
  refine ⟨hl, fun hp => ?_⟩
  obtain ⟨g, rfl, _, hlt, hcell⟩ := hc hp
  exact ⟨g, 0, rfl, hlt, fun j s hj => by simpa using hcell j s hj⟩
theorem TxtsAt.at {w : World} {a : Option Addr} {len : Nat} {ss : List ByteArray} (h : TxtsAt w a len ss) {k : Nat} (hk : k < len) :
    ∃ b off s, a = some ⟨b, off, none⟩ ∧ b < w.heap.size ∧ ss[k]? = some s ∧ w.cell? ⟨b, off + k, none⟩ = some (.string s) := by
  obtain ⟨b, off, rfl, hlt, hc⟩ := h.2 (by omega)
  have hs : ss[k]? = some (ss[k]'(by rw [h.1]; exact hk)) := List.getElem?_eq_getElem _
  exact ⟨b, off, _, rfl, hlt, hs, hc k _ hs⟩
def RowT (w : World) (lo hi : Nat) (a : Option Addr) (n cap : Nat) (l : List ByteArray) : Prop :=
  w.ownsRow lo 9 1 (.slice a n cap) n (txts l) ∧ ∀ k, (Value.slice a n cap).ownBlock = some k → k < hi
theorem rowT_of {w' : World} {lo : Nat} {a : Option Addr} {n cap : Nat} {l : List ByteArray} (h : w'.ownsRow lo 9 1 (.slice a n cap) n (txts l)) : RowT w' lo w'.heap.size a n cap l := ⟨h, fun k hk => (h.lt k hk).2⟩
theorem RowT.keep {w w' : World} {lo hi : Nat} {a : Option Addr} {n cap : Nat} {l : List ByteArray} (h : RowT w lo hi a n cap l) (hb : Below w.heap.size w w') : RowT w' lo hi a n cap l := ⟨own_below h.1 hb, h.2⟩
theorem RowT.within {w w' : World} {lo hi lo' hi' : Nat} {a : Option Addr} {n cap : Nat} {l : List ByteArray} (h : RowT w lo hi a n cap l) (hb : Within lo' hi' w w') (hd : hi ≤ lo' ∨ hi' ≤ lo) : RowT w' lo hi a n cap l :=
  ⟨hb.grown (v := .slice a n cap) (fun k hk => by have h1 := (h.1.lt k hk).1; have h2 := h.2 k hk; omega) (fun k hk => (h.1.lt k hk).2) h.1, h.2⟩


def markT (k : Nat) : ByteArray := ⟨(109 :: digsT k []).toArray⟩
def marksT (k n : Nat) : List ByteArray := (List.range n).map fun i => markT (k + i)
theorem marksT_len (k n : Nat) : (marksT k n).length = n := by simp [marksT]

theorem kept_callT {w W W' : World} {g k : Nat} {v : Value} (hg : g < w.heap.size) (h1 : W.cell? ⟨g, k, none⟩ = some v) (h2 : Below w.heap.size w W) (hb : Below W.heap.size W W') :
    W'.cell? ⟨g, k, none⟩ = some v ∧ Below w.heap.size w W' :=
  ⟨by rw [hb.cell (p := ⟨g, k, none⟩) (by have := h2.size; show g < _; omega)]; exact h1, h2.trans (hb.mono h2.size)⟩

theorem marksT_step (c : Nat) (l : List ByteArray) (n k : Nat) (hn : l.length = n) (hk : k < n) :
    (txts (marksT c k ++ l.drop k)).set k (.string (markT (c + k))) = txts (marksT c (k + 1) ++ l.drop (k + 1)) := by
  have hl : (marksT c k).length = k := by simp [marksT]
  have e : marksT c (k + 1) = marksT c k ++ [markT (c + k)] := by simp [marksT, List.range_succ]
  have hd : l.drop k = l[k]'(by omega) :: l.drop (k + 1) := by rw [List.drop_eq_getElem_cons (by omega)]
  unfold txts
  rw [e, hd, List.map_append, List.map_append, List.map_append, List.map_cons]
  have hs := set_mid ((marksT c k).map Value.string) ((l.drop (k + 1)).map Value.string) (.string (l[k]'(by omega))) (.string (markT (c + k)))
  rw [List.length_map, hl] at hs
  rw [hs, List.append_assoc]
  rfl

/-! ### a slice of texts that grows -/
theorem infoTxt : (Try.prog.info? 9).map (fun i => (i.zero, i.size, i.bytes)) = some (some (.string ByteArray.empty), 1, 16) := by kernel_rfl
theorem append_txt {ops : Array Oper} {rest : List Oper} {o : Oper} {a : Act} {Q : Exit → Act → World → Prop} (hgd : o.guard = none) (x y : Operand)
    (ho : o.op = .call { callee := .builtin .append, args := #[x, y], argTypes := #[42, 42] })
    (B : Nat) (v : Value) (l : List ByteArray) (t : ByteArray) (w0 : World) (hown : w0.ownsRow B 9 1 v l.length (txts l)) (hl : l.length ≤ 1048577) (hB : B ≤ w0.heap.size) (N : Nat) (hN : N = w0.heap.size)
    (hs : a.eval x = v) (hx : a.eval y = .slice (some ⟨N, 0, none⟩) 1 1)
    (h : ∀ a' c' w', w'.ownsRow B 9 1 (.slice a' (l ++ [t]).length c') (l ++ [t]).length (txts (l ++ [t])) → Below B w0 w' → wpList Try.prog ops Q rest (a.put o.dst (.slice a' (l ++ [t]).length c')) w') :
    wpList Try.prog ops Q (o :: rest) a (w0.alloc (.cells #[.string t] 9)) := by
  obtain ⟨i0, hi, hz0, hz1, hz2⟩ := info_parts infoTxt
  subst hN
  refine wpList_append_own _ hgd x y 42 ho B 9 i0 (.string ByteArray.empty) 1 16 Try.underlying42 hi hz0 hz1 hz2 rfl (by decide) v l.length (txts l) hs (hown.alloc _) ⟨w0.heap.size, 0, none⟩ 1 1 [.string t] hx rfl (cell_one_new _ _ _) ?_ ?_ ?_ ?_ ?_
  · intro u hu
    simp at hu
    subst hu
    rfl
  · unfold maxLen; omega
  · omega
  · exact Nat.le_trans hB (by show w0.heap.size ≤ (w0.heap.push _).size; simp)
  · intro v' w' ho' hg _
    have ho2 : w'.ownsRow B 9 1 v' (l ++ [t]).length (txts (l ++ [t])) := by simpa [txts] using ho'
    obtain ⟨_, a', c', rfl, _⟩ := txts_shape ho2
    refine h a' c' w' ho2 ?_
    refine (((Below.refl B w0).alloc hB _).grown hg (Nat.le_trans hB (by show w0.heap.size ≤ (w0.heap.push _).size; simp)) fun k hk => (hown.lt k hk).1)
/-- What a function answers that has a slice of texts. -/
def TPost (l : List ByteArray) (w : World) (e : Ending) (w' : World) : Prop :=
  ∃ a cap, e = .returned (.slice a l.length cap) ∧ w'.ownsRow w.heap.size 9 1 (.slice a l.length cap) l.length (txts l) ∧ Below w.heap.size w w'
def VecT (l : List ByteArray) (w1 wr : World) (v : Value) : Prop :=
  ∃ av cv, v = .slice av l.length cv ∧ wr.ownsRow w1.heap.size 9 1 (.slice av l.length cv) l.length (txts l) ∧ Below w1.heap.size w1 wr ∧ w1.heap.size ≤ wr.heap.size
theorem vecT_made (w1 : World) : VecT [] w1 (w1.alloc (.cells #[] 9)) (.slice (some ⟨w1.heap.size, 0, none⟩) 0 0) :=
  ⟨_, 0, rfl, World.ownsRow_made (base := w1.heap.size) (e := 9) (size := 1) w1 #[] 0 (Nat.le_refl _) (by unfold maxLen; omega) rfl, (Below.refl _ _).alloc (Nat.le_refl _) _, by simp⟩
theorem vecT_nil (w1 : World) : VecT [] w1 w1 (.slice none 0 0) := ⟨none, 0, rfl, World.ownsRow_nil _ _ _ _, Below.refl _ _, Nat.le_refl _⟩
theorem vecT_keep {l : List ByteArray} {w1 wr w2 : World} {v : Value} (h : VecT l w1 wr v) (hb : Below wr.heap.size wr w2) : VecT l w1 w2 v := by
  obtain ⟨av, cv, rfl, ho, hx, hz⟩ := h
  exact ⟨av, cv, rfl, own_below ho hb, hx.trans (hb.mono hz), Nat.le_trans hz hb.size⟩
theorem vecT_snoc {l : List ByteArray} {t : ByteArray} {w1 wr w2 : World} {a' : Option Addr} {c' : Nat} (hX : Below w1.heap.size w1 wr) (hZ : w1.heap.size ≤ wr.heap.size)
    (hO : w2.ownsRow w1.heap.size 9 1 (.slice a' (l ++ [t]).length c') (l ++ [t]).length (txts (l ++ [t]))) (hb : Below w1.heap.size wr w2) : VecT (l ++ [t]) w1 w2 (.slice a' (l ++ [t]).length c') :=
  ⟨a', c', rfl, hO, hX.trans hb, Nat.le_trans hZ hb.size⟩
end Go.Proofs.Ytldpikcgeijkpaa.Rhy
