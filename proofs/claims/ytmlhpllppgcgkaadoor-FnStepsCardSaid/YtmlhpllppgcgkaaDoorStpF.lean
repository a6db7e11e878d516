/-
  Helpers of the claims beside this text: the model's FormatSteps.
-/
import Derived.Test.YtmlhpllppgcgkaaDoorStp
import Derived.Test.YtmlhpllppgcgkaaDoorOut
import Derived.Test.YtmlhpllppgcgkaaDoorStrs
import Derived.Test.YtmlhpllppgcgkaaDoorNumFmt
namespace Go.Proofs.YtmlhpllppgcgkaaDoor.Rhy
open Go.RowKit
set_option linter.unusedVariables false

/-- 'out = append(out, t)' at a slice of strings while the blocks between lo and hi stay. -/
theorem append_strout (lo hi : Nat) {ops : Array Oper} {rest : List Oper} {o : Oper} {a : Act} {Q : Exit → Act → World → Prop} (hgd : o.guard = none) (x y : Operand)
    (ho : o.op = .call { callee := .builtin .append, args := #[x, y], argTypes := #[48, 48] })
    (B : Nat) (v : Value) (l : List ByteArray) (t : ByteArray) (w0 : World) (hown : w0.ownsRow B 9 1 v l.length (l.map Value.string)) (hl : l.length ≤ 1048577) (hB : B ≤ w0.heap.size) (hO : Outside lo hi v) (hH : hi ≤ w0.heap.size) (N : Nat) (hN : N = w0.heap.size)
    (hs : a.eval x = v) (hx : a.eval y = .slice (some ⟨N, 0, none⟩) 1 1)
    (h : ∀ v' w', w'.ownsRow B 9 1 v' (l ++ [t]).length ((l ++ [t]).map Value.string) → Below B w0 w' → Same lo hi w0 w' → Outside lo hi v' → wpList Tryd.prog ops Q rest (a.put o.dst v') w') :
    wpList Tryd.prog ops Q (o :: rest) a (w0.alloc (.cells #[.string t] 9)) := by
  obtain ⟨i0, hi0, hz0, hz1, hz2⟩ := info_parts Strs.infoStr
  subst hN
  refine wpList_append_own_at _ hgd x y 48 ho B 9 i0 (.string ByteArray.empty) 1 16 Tryd.underlying48 hi0 hz0 hz1 hz2 rfl (by decide) v l.length (l.map Value.string) hs (hown.alloc _) ⟨w0.heap.size, 0, none⟩ 1 1 [.string t] hx rfl (cell_one_new _ _ _) ?_ ?_ ?_ ?_ ?_
  · intro u hu
    simp at hu
    subst hu
    rfl
  · unfold maxLen; omega
  · omega
  · exact Nat.le_trans hB (by show w0.heap.size ≤ (w0.heap.push _).size; simp)
  · intro v' w' ho' hg _ hat
    have hsz : (w0.alloc (.cells #[.string t] 9)).heap.size = w0.heap.size + 1 := by simp
    refine h v' w' (by simpa using ho') ?_ ?_ ?_
    · exact ((Below.refl B w0).alloc hB _).grown hg (Nat.le_trans hB (by show w0.heap.size ≤ (w0.heap.push _).size; simp)) fun k hk => (hown.lt k hk).1
    · intro k h1 h2
      rw [hg.block k (by omega) (fun e => by have := hO k e.symm; omega)]
      exact ((Below.refl w0.heap.size w0).alloc (Nat.le_refl _) (.cells #[.string t] 9)).block k (by omega)
    · intro k hk
      rcases hat with q | q
      · exact hO k (q ▸ hk)
      · rw [q] at hk
        have : k = w0.heap.size + 1 := by rw [hsz] at hk; simpa using hk.symm
        omega

def plus : ByteArray := ⟨#[43]⟩
def textsL (l : List Int) (k : Nat) : List ByteArray := (l.take k).map text
theorem textsL_snoc {l : List Int} {k : Nat} {z : Int} (h : l[k]? = some z) : textsL l (k + 1) = textsL l k ++ [text z] := by
  unfold textsL
  rw [List.take_add_one, h]
  simp
theorem textsL_len {l : List Int} {k : Nat} (h : k ≤ l.length) : (textsL l k).length = k := by simp [textsL]; omega
theorem texts_tot {l : List Int} (h : AllInt l) : Strs.tot (l.map text) ≤ 100 * l.length := by
  induction l with
  | nil => simp [Strs.tot]
  | cons z l ih =>
    have h1 := text_size z (h z (by simp)).1 (h z (by simp)).2
    have h2 := ih (fun y hy => h y (by simp [hy]))
    simp only [Strs.tot, List.map_cons, List.sum_cons, List.length_cons] at h2 ⊢
    omega
def StrsAt5 (w : World) (a : Option Addr) (n : Nat) (l : List Int) : Prop := Strs.StrsAt w a n (l.map text)
/-- What both answer. -/
noncomputable def stepsText (s : Int) (zs : List Int) : ByteArray := Strs.str (Strs.joined ((stB s zs).map text) plus)


end Go.Proofs.YtmlhpllppgcgkaaDoor.Rhy
