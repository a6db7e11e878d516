/-
  Helpers of the claims beside this text: the model's FormatSteps.
-/
import Derived.Test.YthlklnmnjbjdoaaDoorStp
import Derived.Test.YthlklnmnjbjdoaaDoorOut
import Derived.Test.YthlklnmnjbjdoaaDoorStrs
import Derived.Test.YthlklnmnjbjdoaaDoorNumFmt
namespace Go.Proofs.YthlklnmnjbjdoaaDoor.Rhy
open Go.RowKit
set_option linter.unusedVariables false

/-- 'out = append(out, t)' at a slice of strings while the blocks between lo and hi stay. -/
theorem append_strout (lo hi : Nat) {ops : Array Oper} {rest : List Oper} {o : Oper} {a : Act} {Q : Exit → Act → World → Prop} (hgd : o.guard = none) (x y : Operand)
    (ho : o.op = .call { callee := .builtin .append, args := #[x, y], argTypes := #[32, 32] })
    (B : Nat) (v : Value) (l : List ByteArray) (t : ByteArray) (w0 : World) (hown : w0.ownsRow B 9 1 v l.length (l.map Value.string)) (hl : l.length ≤ 1048577) (hB : B ≤ w0.heap.size) (hO : Outside lo hi v) (hH : hi ≤ w0.heap.size) (N : Nat) (hN : N = w0.heap.size)
    (hs : a.eval x = v) (hx : a.eval y = .slice (some ⟨N, 0, none⟩) 1 1)
    (h : ∀ v' w', w'.ownsRow B 9 1 v' (l ++ [t]).length ((l ++ [t]).map Value.string) → Below B w0 w' → Same lo hi w0 w' → Outside lo hi v' → wpList Tryd.prog ops Q rest (a.put o.dst v') w') :
    wpList Tryd.prog ops Q (o :: rest) a (w0.alloc (.cells #[.string t] 9)) := by
  obtain ⟨i0, hi0, hz0, hz1, hz2⟩ := info_parts Strs.infoStr
  subst hN
  refine wpList_append_own_at _ hgd x y 32 ho B 9 i0 (.string ByteArray.empty) 1 16 Tryd.underlying32 hi0 hz0 hz1 hz2 rfl (by decide) v l.length (l.map Value.string) hs (hown.alloc _) ⟨w0.heap.size, 0, none⟩ 1 1 [.string t] hx rfl (cell_one_new _ _ _) ?_ ?_ ?_ ?_ ?_
  · intro u hu
    simp at hu
    subst hu
    rfl
  · unfold maxLen; omega
  · omega
  · exact Nat.le_trans hB (by show w0.heap.size ≤ (w0.heap.push _).size; simp)
  · intro v' w' ho' hg _ hat
    have hsz : (w0.alloc (.cells #[.string t] 9)).heap.size = w0.heap.size + 1 := by simp
    refine h v' w' (by simpa using ho') ?_ ?_ ?_
    · exact ((Below.refl B w0).alloc hB _).grown hg (Nat.le_trans hB (by show w0.heap.size ≤ (w0.heap.push _).size; simp)) fun k hk => (hown.lt k hk).1
    · intro k h1 h2
      rw [hg.block k (by omega) (fun e => by have := hO k e.symm; omega)]
      exact ((Below.refl w0.heap.size w0).alloc (Nat.le_refl _) (.cells #[.string t] 9)).block k (by omega)
    · intro k hk
      rcases hat with q | q
      · exact hO k (q ▸ hk)
      · rw [q] at hk
        have : k = w0.heap.size + 1 := by rw [hsz] at hk; simpa using hk.symm
        omega

def plus : ByteArray := ⟨#[43]⟩
def textsL (l : List Int) (k : Nat) : List ByteArray := (l.take k).map text
theorem textsL_snoc {l : List Int} {k : Nat} {z : Int} (h : l[k]? = some z) : textsL l (k + 1) = textsL l k ++ [text z] := by
  unfold textsL
  rw [List.take_add_one, h]
  simp
theorem textsL_len {l : List Int} {k : Nat} (h : k ≤ l.length) : (textsL l k).length = k := by simp [textsL]; omega
theorem texts_tot {l : List Int} (h : AllInt l) : Strs.tot (l.map text) ≤ 100 * l.length := by
  induction l with
  | nil => simp [Strs.tot]
  | cons z l ih =>
    have h1 := text_size z (h z (by simp)).1 (h z (by simp)).2
    have h2 := ih (fun y hy => h y (by simp [hy]))
    simp only [Strs.tot, List.map_cons, List.sum_cons, List.length_cons] at h2 ⊢
    omega
def StrsAt5 (w : World) (a : Option Addr) (n : Nat) (l : List Int) : Prop := Strs.StrsAt w a n (l.map text)
/-- What both answer. -/
noncomputable def stepsText (s : Int) (zs : List Int) : ByteArray := Strs.str (Strs.joined ((stB s zs).map text) plus)

set_option maxHeartbeats 1000000 in
theorem fmtsteps_spec (s : Int) (a : Option Addr) (len cap : Nat) (zs : List Int) (w : World) (h : IntsAt w a len zs) (hm : zs.length ≤ 1048576) :
    Calls Tryd.prog 5 #[rhy s a len cap] w fun e w' => e = .returned (.string (stepsText s zs)) ∧ Below w.heap.size w w' := by
  have HS := Lib.hid h
  clear h
  obtain ⟨l, hl⟩ : ∃ l, l = stB s zs := ⟨_, rfl⟩
  have HC := Lib.hid (fun w h => steps_spec s a len cap zs w h hm)
  have HV := Lib.hid (show stepsText s zs = Strs.str (Strs.joined (l.map text) plus) by rw [hl]; rfl)
  rw [← hl] at HC
  have hlen : l.length ≤ 24 := by rw [hl]; exact stB_len s zs
  have HI := Lib.hid (show AllInt l by rw [hl]; exact stB_int s zs)
  clear hl
  obtain ⟨W0, hW⟩ : ∃ W0, W0 = w.alloc (.cells #[.int .i64 s, .slice a len cap] 27) := ⟨_, rfl⟩
  have HW := Lib.hid hW
  have HB := Lib.hid (show Below w.heap.size w W0 by rw [hW]; exact bel1 w _)
  have T0 := Lib.hid (show Two W0 w.heap.size (.int .i64 s) (.slice a len cap) by rw [hW]; exact two_new w _ _ _)
  clear hW
  obtain ⟨W2, hW2⟩ : ∃ W2, W2 = W0.alloc (.cells #[] 9) := ⟨_, rfl⟩
  have HW2 := Lib.hid hW2
  have B2 := Lib.hid (show Below W0.heap.size W0 W2 by rw [hW2]; exact (Below.refl _ _).alloc (Nat.le_refl _) _)
  have HSZ2 := Lib.hid (show W2.heap.size = W0.heap.size + 1 by rw [hW2]; simp)
  have M0 := Lib.hid (show W2.ownsRow W0.heap.size 9 1 (.slice (some ⟨W0.heap.size, 0, none⟩) 0 0) 0 [] by rw [hW2]; exact World.ownsRow_made (base := W0.heap.size) (e := 9) (size := 1) W0 #[] 0 (Nat.le_refl _) (by unfold maxLen; omega) rfl)
  have T2 := Lib.hid (T0.out.keep B2.out)
  obtain ⟨t1, t1a, t1b⟩ := T2.out
  have hws := HB.out.size
  rw [HW2.out] at t1 t1a t1b
  clear hW2
  go_enter Tryd.func5, Tryd.ntmps5
  go_wp2_with (rw [← HW.out])
  rw [← HW2.out]
  refine (HC.out _ (HS.out.below (HB.out.trans (B2.out.mono hws)))).mono ?_
  rintro e w3 ⟨b, c, rfl, hown3, hb3⟩
  have HO3 := Lib.hid hown3
  have B3 := Lib.hid hb3
  have M3 := Lib.hid (Strs.own_below M0.out hb3)
  have hs3 := hb3.size
  clear hown3 hb3 t1 t1a t1b
  go_wp2
  go_loopw [3, 10] (fun v i wr => ∃ k : Nat, k ≤ l.length ∧ i = .int .i64 k ∧ wr.ownsRow W0.heap.size 9 1 v (textsL l k).length ((textsL l k).map Value.string) ∧ Below W0.heap.size W0 wr ∧ Outside W2.heap.size w3.heap.size v ∧ Same W2.heap.size w3.heap.size w3 wr ∧ w3.heap.size ≤ wr.heap.size) (fun _ i _ => l.length - (intOf i).toNat)
  case atStart =>
    refine ⟨0, by omega, rfl, M3.out, B2.out.trans (B3.out.mono B2.out.size), ?_, Same.refl _ _ _, Nat.le_refl _⟩
    intro k hk
    have : k = W0.heap.size := by simpa [Value.ownBlock] using hk.symm
    have := HSZ2.out
    omega
  case round =>
    obtain ⟨k, hk, rfl, hown, hnx, hout, hsame, hsz3⟩ := hrel
    have HO := Lib.hid hown
    have HX := Lib.hid hnx
    have HOUT := Lib.hid hout
    have HSAME := Lib.hid hsame
    have HZ3 := Lib.hid hsz3
    have HL : Hid (IntsAt wr b l.length l) := Lib.hid (intsAt_own (owns_same HO3.out hsame) HI.out)
    have hz0 : W0.heap.size ≤ wr.heap.size := by have := HSZ2.out; omega
    clear hown hnx hout hsame hsz3
    by_cases hlt : k < l.length
    · obtain ⟨b', off', z, rfl, hb, hs, hc, hz1, hz2⟩ := HL.out.at hlt
      have HN := Lib.hid (textsL_snoc hs)
      have HF := Lib.hid (model_format z wr hz1 hz2)
      have htl : (textsL l k).length ≤ 1048577 := by rw [textsL_len hk]; omega
      clear hs
      go_wp2_with (first
        | (go_at_call 11; refine HF.out.mono ?_; rintro e w4 ⟨rfl, hb4⟩; have B4 := Lib.hid hb4; have O4 := Lib.hid (Strs.own_below HO.out hb4); have hz4 := hb4.size; clear hb4)
        | (at_builtin; refine append_strout W2.heap.size w3.heap.size rfl _ _ rfl W0.heap.size _ (textsL l k) _ _ O4.out htl (by omega) HOUT.out (Nat.le_trans HZ3.out hz4) _ rfl rfl rfl ?_; intro v' w' hown' hb' hs' ho'; have HO2 := Lib.hid hown'; have HX2 := Lib.hid hb'; have HS2 := Lib.hid hs'; have HOUT2 := Lib.hid ho'; clear hown' hb' hs' ho'))
      go_roundw
      case rel =>
        refine ⟨k + 1, by omega, by go_num, ?_, ?_, HOUT2.out, (HSAME.out.trans (Same.of_below B4.out HZ3.out)).trans HS2.out, ?_⟩
        · rw [HN.out]; exact HO2.out
        · exact (HX.out.trans (B4.out.mono hz0)).trans HX2.out
        · exact Nat.le_trans HZ3.out (Nat.le_trans hz4 HX2.out.size)
      case measure => simp [intOf]; omega
    · have e : k = l.length := by omega
      subst e
      have HT : Hid (textsL l l.length = l.map text) := Lib.hid (by unfold textsL; rw [List.take_length])
      rw [HT.out] at HO
      obtain ⟨_, a5, c5, rfl, _⟩ := Strs.own_shape HO.out
      have HA : Hid (StrsAt5 wr a5 l.length l) := Lib.hid (by
        have := Strs.strsAt_own HO.out
        rw [List.length_map] at this
        exact this)
      have HTOT := Lib.hid (texts_tot HI.out)
      have hl5 : (l.map text).length = l.length := by simp
      rw [hl5]
      go_wp2_with fail
      refine (Strs.model a5 l.length c5 (l.map text) plus wr HA.out (by omega) (by have := HTOT.out; omega) (by show 1 ≤ 1048576; omega)).mono ?_
      rintro e w' ⟨rfl, rfl⟩
      go_wp2
      go_ret
      exact ⟨by rw [HV.out]; rfl, HB.out.trans (HX.out.mono hws)⟩
end Go.Proofs.YthlklnmnjbjdoaaDoor.Rhy
