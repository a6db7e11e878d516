/-
  Helpers of the claims beside this text: FormatRhythm of the model.
-/
import Derived.Test.YtldpikcgeijkpaaRot
import Derived.Laws.Concat
import Derived.ShutString
import Derived.Test.YtldpikcgeijkpaaFrm
import Derived.Lib.Walk
import Derived.Lib.Builder
import Derived.Lib.AppendStr
import Derived.Lib.UnsafeStr
import Derived.Laws.Externs
namespace Go.Proofs.Ytldpikcgeijkpaa.Rhy
open Go.RowKit
set_option linter.unusedVariables false

def mark8 (zs : List Int) (p : Nat) : UInt8 := if zs.contains (p : Int) then 120 else 46
def fmtL (n : Nat) (zs : List Int) : List UInt8 := (List.range n).map (mark8 zs)
def fmtT (n : Nat) (zs : List Int) : ByteArray := ⟨(fmtL n zs).toArray⟩
theorem fmtL_len (n : Nat) (zs : List Int) : (fmtL n zs).length = n := by simp [fmtL]
theorem fmtT_size (n : Nat) (zs : List Int) : (fmtT n zs).size = n := by
  show ((fmtL n zs).toArray).size = n
  simp [fmtL_len]
theorem fmtL_succ (n : Nat) (zs : List Int) : fmtL (n + 1) zs = fmtL n zs ++ [mark8 zs n] := by simp [fmtL, List.range_succ]
theorem fmtT_yes {n : Nat} {zs : List Int} (h : zs.contains (n : Int) = true) : fmtT n zs ++ (⟨#[120]⟩ : ByteArray) = fmtT (n + 1) zs := by
  have e : mark8 zs n = 120 := by unfold mark8; rw [if_pos h]
  apply ByteArray.ext
  simp [fmtT, fmtL_succ, e]
theorem fmtT_no {n : Nat} {zs : List Int} (h : zs.contains (n : Int) = false) : fmtT n zs ++ (⟨#[46]⟩ : ByteArray) = fmtT (n + 1) zs := by
  have e : mark8 zs n = 46 := by unfold mark8; rw [if_neg (by rw [h]; simp)]
  apply ByteArray.ext
  simp [fmtT, fmtL_succ, e]
theorem ret_str {a b : ByteArray} (h : a = b) : Ending.returned (.string a) = .returned (.string b) := by rw [h]

/-- What both answer. -/
noncomputable def fmtB (s : Int) (zs : List Int) : ByteArray := @ite _ (Ok s zs) (Classical.propDecidable _) (fmtT s.toNat zs) ByteArray.empty
theorem fmtB_yes {s : Int} {zs : List Int} (h : Ok s zs) : fmtB s zs = fmtT s.toNat zs := by simp [fmtB, h]
theorem fmtB_no {s : Int} {zs : List Int} (h : ¬ Ok s zs) : fmtB s zs = ByteArray.empty := by simp [fmtB, h]


end Go.Proofs.Ytldpikcgeijkpaa.Rhy

/-
  Helpers of the claims beside this text: plain mathematics: texts in the order of bytes; the last of some rhythms in the order of their texts; the last of all turns.
-/
namespace Go.Proofs.Ytldpikcgeijkpaa.Rhy
set_option linter.unusedVariables false

theorem mark_yes {zs : List Int} {k : Nat} (h : hasB zs k = true) : mark8 zs k = 120 := by unfold mark8; unfold hasB at h; rw [if_pos h]
theorem mark_no {zs : List Int} {k : Nat} (h : hasB zs k = false) : mark8 zs k = 46 := by unfold mark8; unfold hasB at h; rw [h]; rfl
theorem bytes_after (xs ys : List Int) : ∀ f k, (!(Op.bytesLess ((List.range' k f).map (mark8 xs)) ((List.range' k f).map (mark8 ys)) || (List.range' k f).map (mark8 xs) == (List.range' k f).map (mark8 ys))) = afterF xs ys k f := by
  intro f
  induction f with
  | zero => intro k; simp [Op.bytesLess, afterF]
  | succ f ih =>
    intro k
    rw [List.range'_succ, List.map_cons, List.map_cons]
    have := ih (k + 1)
    obtain ⟨A, hA⟩ : ∃ A, A = (List.range' (k + 1) f).map (mark8 xs) := ⟨_, rfl⟩
    obtain ⟨B, hB⟩ : ∃ B, B = (List.range' (k + 1) f).map (mark8 ys) := ⟨_, rfl⟩
    rw [← hA, ← hB] at this ⊢
    cases hx : hasB xs k <;> cases hy : hasB ys k
    · rw [mark_no hx, mark_no hy]
      simp only [afterF, hx, hy, if_true]
      rw [← this]
      simp [Op.bytesLess]
    · rw [mark_no hx, mark_yes hy]
      simp only [afterF, hx, hy]
      simp [Op.bytesLess]
    · rw [mark_yes hx, mark_no hy]
      simp only [afterF, hx, hy]
      simp [Op.bytesLess]
    · rw [mark_yes hx, mark_yes hy]
      simp only [afterF, hx, hy, if_true]
      rw [← this]
      simp [Op.bytesLess]
theorem fmt_after (n : Nat) (xs ys : List Int) : (!(Op.bytesLess (fmtL n xs) (fmtL n ys) || fmtL n xs == fmtL n ys)) = afterF xs ys 0 n := by
  have := bytes_after xs ys n 0
  unfold fmtL
  rw [List.range_eq_range']
  exact this

theorem fmtT_list (n : Nat) (zs : List Int) : (fmtT n zs).toList = fmtL n zs := by rw [ByteArray.toList_eq]; rfl
theorem text_after (n : Nat) (xs ys : List Int) : (!(Op.bytesLess (fmtT n xs).toList (fmtT n ys).toList || (fmtT n xs).toList == (fmtT n ys).toList)) = afterB n xs ys := by
  rw [fmtT_list, fmtT_list]
  exact fmt_after n xs ys

/-- The last one in the order of texts. -/
def pickZ (n : Nat) (b x : List Int) : List Int := if afterB n x b then x else b
def lastF (n : Nat) (b : List Int) (L : List (List Int)) : List Int := L.foldl (pickZ n) b
def lastL (n : Nat) (L : List (List Int)) : List Int := lastF n (L.headD []) L.tail
theorem lastF_snoc {n : Nat} {b : List Int} {L : List (List Int)} {k : Nat} {x : List Int} (h : L[k]? = some x) : lastF n b (L.take (k + 1)) = pickZ n (lastF n b (L.take k)) x := by
  unfold lastF
  rw [List.take_add_one, h]
  simp
/-- The turns by 0 up to p. -/
def rotsP (n : Int) (zs : List Int) (p : Nat) : List (List Int) := (List.range p).map fun k : Nat => rotZ n zs 1 (k : Int)
def rotsZ (n : Int) (zs : List Int) : List (List Int) := rotsP n zs (perZ n zs)
theorem rotsP_len (n : Int) (zs : List Int) (p : Nat) : (rotsP n zs p).length = p := by simp [rotsP]
theorem rotsP_succ (n : Int) (zs : List Int) (p : Nat) : rotsP n zs (p + 1) = rotsP n zs p ++ [rotZ n zs 1 p] := by simp [rotsP, List.range_succ]
theorem last_best (n : Int) (zs : List Int) : ∀ p : Nat, lastL n.toNat (rotsP n zs (p + 1)) = bestP n zs p := by
  intro p
  induction p with
  | zero => simp [rotsP, lastL, lastF, bestP]
  | succ p ih =>
    rw [rotsP_succ]
    have h0 : rotsP n zs (p + 1) ≠ [] := by
      intro h
      have := rotsP_len n zs (p + 1)
      rw [h] at this
      simp at this
    unfold lastL at ih ⊢
    obtain ⟨x, r, hx⟩ : ∃ x r, rotsP n zs (p + 1) = x :: r := List.exists_cons_of_ne_nil h0
    rw [hx] at ih ⊢
    simp only [List.cons_append, List.headD_cons, List.tail_cons] at ih ⊢
    unfold lastF at ih ⊢
    rw [List.foldl_append, ih]
    simp only [List.foldl_cons, List.foldl_nil, bestP]
    rfl
theorem last_rots {n : Int} {zs : List Int} (ho : Ok n zs) : lastL n.toNat (rotsZ n zs) = leastZ n zs := by
  obtain ⟨h1, h2⟩ := per_bd n zs ho.1.1
  obtain ⟨p, hp⟩ : ∃ p, perZ n zs = p + 1 := ⟨perZ n zs - 1, by omega⟩
  unfold rotsZ
  rw [hp, last_best]
  obtain ⟨⟨j, hj, e⟩, hm⟩ := best_spec ho p
  refine least_uniq ho e fun k => ?_
  have hb := em_bd k (n := (perZ n zs : Int)) (by omega)
  have hk : rotZ n zs 1 k = rotZ n zs 1 (k % (perZ n zs : Int)) := by
    rw [fix_eq ho, per_dvd ho]
    have := em_sub k k (perZ n zs : Int)
    have h3 := Int.emod_add_mul_ediv k (perZ n zs)
    rw [show k - k % (perZ n zs : Int) = (perZ n zs : Int) * (k / (perZ n zs : Int)) by omega]
    exact Int.mul_emod_right _ _
  rw [hk]
  have := hm (k % (perZ n zs : Int)).toNat (by omega)
  rwa [Int.toNat_of_nonneg hb.1] at this
theorem last_two (n : Nat) (a b : List Int) : lastL n [a, b] = if afterB n b a then b else a := rfl
theorem form_two (n : Int) (zs : List Int) : lastL n.toNat [leastZ n zs, leastZ n (rotZ n zs (-1) 0)] = formZ n zs := rfl
end Go.Proofs.Ytldpikcgeijkpaa.Rhy

/-
  Helpers of the claims beside this text: strings.Builder's WriteString at a builder of the call's own; FormatRhythm of the program.
-/
namespace Go.Proofs.Ytldpikcgeijkpaa.Rhy
open Go.RowKit
set_option linter.unusedVariables false

theorem sizeBuilder : (Try.prog.info? 111).map (·.size) = some 2 := by kernel_rfl
theorem liesBuilder : liesAt Try.prog Try.prog.depth 111 (2 / Try.prog.cellsOf 111) 0 111 1 = true := by kernel_rfl
theorem infoByte : (Try.prog.info? 5).map (fun i => (i.zero, i.size, i.bytes)) = some (some (.int .u8 0), 1, 1) := by kernel_rfl

set_option maxRecDepth 100000 in
theorem check_used (b : Nat) (w : World) (h0 : w.cell? ⟨b, 0, none⟩ = some (.pointer (some ⟨b, 0, none⟩))) :
    Calls Try.prog 100 #[.pointer (some ⟨b, 0, none⟩)] w fun e w' => e = .returned (.tuple #[]) ∧ w' = w := by
  obtain ⟨j, hj, _⟩ := Option.map_eq_some_iff.1 sizeBuilder
  go_enter Try.func100, Try.ntmps100
  go_wp2
  rw [Lib.run_neq_ptr_same w _ Try.underlying109 hj]
  go_wp2
  go_end0
  exact ⟨rfl, rfl⟩

set_option maxHeartbeats 1000000 in
set_option maxRecDepth 100000 in
theorem check_fresh (b : Nat) (w : World) (h0 : w.cell? ⟨b, 0, none⟩ = some (.pointer none)) (hsh : w.shape? b = some (111, 2)) (hfz : w.frozen? ⟨b, 0, none⟩ = false) :
    Calls Try.prog 100 #[.pointer (some ⟨b, 0, none⟩)] w fun e w' => e = .returned (.tuple #[]) ∧ w' = w.setCell ⟨b, 0, none⟩ (.pointer (some ⟨b, 0, none⟩)) := by
  obtain ⟨j, hj, hjs⟩ := Option.map_eq_some_iff.1 sizeBuilder
  go_enter Try.func100, Try.ntmps100
  go_wp2
  rw [Lib.run_to_unsafe w ⟨b, 0, none⟩ Try.underlying109 Try.underlying126 hj (by rw [hjs]; decide) hsh (Nat.zero_lt_succ 1)]
  simp only [Result.andThen]
  rw [Oper.upon_value]
  go_wp2
  rw [run_callFunc_extern Try.func104 (by kernel_rfl) (by kernel_rfl) (by kernel_rfl) (e := Extern.AbiNoEscape.same) (by kernel_rfl)]
  rw [Lib.run_noEscape]
  simp only [Result.andThen]
  rw [Oper.upon_value]
  go_wp2
  rw [Lib.run_from_unsafe w ⟨b, 0, none⟩ Try.underlying126 Try.underlying109 hj hsh liesBuilder]
  simp only [Result.andThen]
  rw [Oper.upon_value]
  go_wp2
  go_end0
  exact ⟨rfl, rfl⟩

theorem check_any (B b : Nat) (bs : List Value) (w : World) (h : Lib.IsBuilder 111 5 B b bs w) :
    Calls Try.prog 100 #[.pointer (some ⟨b, 0, none⟩)] w fun e w' => e = .returned (.tuple #[]) ∧ (Lib.BuilderAt 111 5 B b (.pointer (some ⟨b, 0, none⟩)) bs w' ∧ Below B w w') := by
  rcases h with h | h
  · refine (check_fresh b w h.cell0 h.shape h.frozen0).mono ?_
    rintro e w' ⟨rfl, rfl⟩
    exact ⟨rfl, h.used _, (Below.refl B w).setCell (p := ⟨b, 0, none⟩) h.1 _⟩
  · refine (check_used b w h.cell0).mono ?_
    rintro e w' ⟨rfl, rfl⟩
    exact ⟨rfl, h, Below.refl B _⟩

set_option maxHeartbeats 2000000 in
set_option maxRecDepth 100000 in
theorem write_any (B b : Nat) (bs : List Value) (s : ByteArray) (w : World) (h : Lib.IsBuilder 111 5 B b bs w) (hlen : bs.length + s.size ≤ 140737488355328) (hBw : B ≤ w.heap.size) :
    Calls Try.prog 89 #[.pointer (some ⟨b, 0, none⟩), .string s] w fun e w' => e = .returned (.tuple #[.int .i64 s.size, .nilIface]) ∧ (Lib.BuilderAt 111 5 B b (.pointer (some ⟨b, 0, none⟩)) (bs ++ Lib.strCells s) w' ∧ Below B w w') := by
  obtain ⟨i0, hi, hz0, hz1, hz2⟩ := info_parts infoByte
  have HI := Lib.hid (show _ ∧ _ ∧ _ ∧ _ from ⟨hi, hz0, hz1, hz2⟩)
  clear hi hz0 hz1 hz2
  go_enter Try.func89, Try.ntmps89
  go_wp2_with fail
  refine (check_any B b bs w h).mono ?_
  rintro e w1 ⟨rfl, h1, hb1⟩
  obtain ⟨hB, v, hbk, hown, hne⟩ := h1
  have c0 : w1.cell? ⟨b, 0, none⟩ = some (.pointer (some ⟨b, 0, none⟩)) := by rw [Lib.cell_of_heap hbk]; rfl
  have c1 : w1.cell? ⟨b, 1, none⟩ = some v := by rw [Lib.cell_of_heap hbk]; rfl
  have HK := Lib.hid hbk
  have HO := Lib.hid hown
  have HN := Lib.hid hne
  clear hbk hown hne
  go_wp2_with (at_builtin; refine Lib.wpList_append_own_string _ rfl _ _ 22 9 rfl B 5 i0 Try.underlying22 Try.underlying9 HI.out.1 HI.out.2.1 HI.out.2.2.1 HI.out.2.2.2 _ _ _ rfl HO.out s rfl ?c3 ?c4 ?c5 ?_)
  case c3 => unfold maxLen; omega
  case c4 => omega
  case c5 => have := hb1.size; omega
  intro v' w2 hown' hgrow _
  have hlt : b < w1.heap.size := by
    rcases Nat.lt_or_ge b w1.heap.size with h' | h'
    · exact h'
    · have := HK.out
      simp [Array.getElem?_eq_none h'] at this
  have HK2 := Lib.hid (show w2.heap[b]? = some (.cells #[.pointer (some ⟨b, 0, none⟩), v] 111 (0, 0)) by
    rw [hgrow.block b hlt (fun e => HN.out e.symm)]
    exact HK.out)
  have d0 : w2.cell? ⟨b, 0, none⟩ = some (.pointer (some ⟨b, 0, none⟩)) := by rw [Lib.cell_of_heap HK2.out]; rfl
  have d1 : w2.cell? ⟨b, 1, none⟩ = some v := by rw [Lib.cell_of_heap HK2.out]; rfl
  have f1 : w2.frozen? ⟨b, 1, none⟩ = false := Lib.frozen_of_heap HK2.out 1
  have HO' := Lib.hid hown'
  have HG := Lib.hid hgrow
  clear hown' hgrow
  obtain ⟨ao, n', cap, rfl⟩ : ∃ ao n' cap, v' = .slice ao n' cap := by
    rcases HO'.out.2 with ⟨hv, _⟩ | ⟨g, cap, cur, hv, _⟩
    · exact ⟨_, _, _, hv⟩
    · exact ⟨_, _, _, hv⟩
  go_wp2
  go_ret2
  refine ⟨rfl, ?_, ?_⟩
  · exact Lib.BuilderAt.put (T := 111) (e := 5) hB HK2.out (bs' := bs ++ Lib.strCells s) (by simpa [Lib.strCells_length] using HO'.out) (by decide)
  · exact (hb1.grown HG.out (by have := hb1.size; omega) (fun k hk => (HO.out.lt k hk).1)).setCell (p := ⟨b, 1, none⟩) hB _

theorem bytes_snoc (l : List UInt8) (c : UInt8) : Lib.byteCells l ++ Lib.strCells ⟨#[c]⟩ = Lib.byteCells (l ++ [c]) := by
  rw [Lib.byteCells_append]
  rfl
theorem builder_keep {B b : Nat} {bs : List Value} {w w' : World} (h : Lib.IsBuilder 111 5 B b bs w) (hb : Below w.heap.size w w') : Lib.IsBuilder 111 5 B b bs w' := by
  have key : ∀ p, Lib.BuilderAt 111 5 B b p bs w → Lib.BuilderAt 111 5 B b p bs w' := by
    rintro p ⟨hB, v, hh, ho, hn⟩
    have hlt : b < w.heap.size := (Array.getElem?_eq_some_iff.1 hh).1
    exact ⟨hB, v, by rw [hb.block b hlt]; exact hh, own_below ho hb, hn⟩
  rcases h with h | h
  · exact .inl (key _ h)
  · exact .inr (key _ h)
theorem fmtL_yes {n : Nat} {zs : List Int} (h : zs.contains (n : Int) = true) : fmtL (n + 1) zs = fmtL n zs ++ [120] := by
  rw [fmtL_succ, show mark8 zs n = 120 by unfold mark8; rw [if_pos h]]
theorem fmtL_no {n : Nat} {zs : List Int} (h : zs.contains (n : Int) = false) : fmtL (n + 1) zs = fmtL n zs ++ [46] := by
  rw [fmtL_succ, show mark8 zs n = 46 by unfold mark8; rw [if_neg (by rw [h]; simp)]]

def TxtAt (k : Nat) (zs : List Int) (w1 wr : World) : Prop :=
  Lib.IsBuilder 111 5 w1.heap.size w1.heap.size (Lib.byteCells (fmtL k zs)) wr ∧ Below w1.heap.size w1 wr ∧ w1.heap.size ≤ wr.heap.size
theorem txt_start (zs : List Int) (w1 : World) : TxtAt 0 zs w1 (w1.alloc (.cells #[.pointer none, .slice none 0 0] 111)) :=
  ⟨.inl ⟨Nat.le_refl _, .slice none 0 0, heap_alloc_new w1 _, World.ownsRow_nil _ _ _ _, by simp [Value.ownBlock]⟩, bel1 w1 _, by simp⟩

set_option maxHeartbeats 1000000 in
theorem text_any (s : Int) (a : Option Addr) (len cap : Nat) (zs : List Int) (w : World) (h : IntsAt w a len zs) (hl : len ≤ 1048576) (ho : Ok s zs) :
    Calls Try.prog 65 #[rhy s a len cap] w fun e w' => e = .returned (.string (fmtT s.toNat zs)) ∧ Below w.heap.size w w' := by
  have HS := Lib.hid h
  clear h
  obtain ⟨w1, hW⟩ : ∃ w1, w1 = w.alloc (.cells #[.int .i64 s, .slice a len cap] 25) := ⟨_, rfl⟩
  have HW := Lib.hid hW
  have B1 := Lib.hid (show Below w.heap.size w w1 by rw [hW]; exact bel1 w _)
  have T1 := Lib.hid (show Two w1 w.heap.size (.int .i64 s) (.slice a len cap) by rw [hW]; exact two_new w _ _ _)
  have HSZ := Lib.hid (show w1.heap.size = w.heap.size + 1 by rw [hW]; simp)
  clear hW
  obtain ⟨n, hn⟩ : ∃ n : Nat, s = n := ⟨s.toNat, by have := ho.1; omega⟩
  have hn24 : n ≤ 24 := by have := ho.1; omega
  have hs1 := ho.1.1
  have hs2 := ho.1.2
  have HN := Lib.hid hn
  clear ho hn
  go_enter Try.func65, Try.ntmps65
  go_wp2
  rw [← HW.out, ← HSZ.out]
  go_loopw [7] (fun i wr => ∃ k : Nat, k ≤ n ∧ i = .int .i64 k ∧ TxtAt k zs w1 wr) (fun i _ => n - (intOf i).toNat)
  case atStart => exact ⟨0, by omega, rfl, txt_start zs w1⟩
  case round =>
    obtain ⟨k, hk, rfl, hib, hnx, hsz⟩ := hrel
    have HIB := Lib.hid hib
    have HX := Lib.hid hnx
    obtain ⟨x1, x1a, x1b⟩ := (T1.out.keep hnx)
    have HI : Hid (IntsAt wr a len zs) := Lib.hid (HS.out.below (B1.out.trans (HX.out.mono (by have := B1.out.size; omega))))
    clear hib hnx
    by_cases hlt : k < n
    · have hks : decide ((k : Int) < s) = true := by have := HN.out; simp; omega
      have HR := Lib.hid (remB_self (k := (k : Int)) (n := s) (by omega) (by have := HN.out; omega))
      cases hc : zs.contains (k : Int)
      · have HC' := Lib.hid hc
        clear hc
        go_wp2_with fail
        refine (hasBeat_any s a len cap zs k wr HI.out hl hs1 hs2 (by omega) (by omega)).mono ?_
        rintro e w2 ⟨rfl, hb2⟩
        rw [HR.out, show hasB zs (k : Int) = false from HC'.out]
        have HY := Lib.hid (HX.out.trans (hb2.mono (by omega)))
        have HIB2 := Lib.hid (builder_keep HIB.out hb2)
        have hz2 : w1.heap.size ≤ w2.heap.size := by have := hb2.size; omega
        clear hb2
        go_wp2_with fail
        refine (write_any _ _ _ ⟨#[46]⟩ w2 HIB2.out (by rw [Lib.byteCells_length, fmtL_len]; show k + 1 ≤ _; omega) hz2).mono ?_
        rintro e w3 ⟨rfl, hib3, hb3⟩
        have H3 := Lib.hid (show TxtAt (k + 1) zs w1 w3 from ⟨.inr (by rw [fmtL_no HC'.out, ← bytes_snoc]; exact hib3), HY.out.trans hb3, by have := hb3.size; omega⟩)
        clear hib3 hb3
        go_wp2
        go_roundw
        case rel => exact ⟨k + 1, by omega, by go_num, H3.out⟩
        case measure => simp [intOf]; omega
      · have HC' := Lib.hid hc
        clear hc
        go_wp2_with fail
        refine (hasBeat_any s a len cap zs k wr HI.out hl hs1 hs2 (by omega) (by omega)).mono ?_
        rintro e w2 ⟨rfl, hb2⟩
        rw [HR.out, show hasB zs (k : Int) = true from HC'.out]
        have HY := Lib.hid (HX.out.trans (hb2.mono (by omega)))
        have HIB2 := Lib.hid (builder_keep HIB.out hb2)
        have hz2 : w1.heap.size ≤ w2.heap.size := by have := hb2.size; omega
        clear hb2
        go_wp2_with fail
        refine (write_any _ _ _ ⟨#[120]⟩ w2 HIB2.out (by rw [Lib.byteCells_length, fmtL_len]; show k + 1 ≤ _; omega) hz2).mono ?_
        rintro e w3 ⟨rfl, hib3, hb3⟩
        have H3 := Lib.hid (show TxtAt (k + 1) zs w1 w3 from ⟨.inr (by rw [fmtL_yes HC'.out, ← bytes_snoc]; exact hib3), HY.out.trans hb3, by have := hb3.size; omega⟩)
        clear hib3 hb3
        go_wp2
        go_roundw
        case rel => exact ⟨k + 1, by omega, by go_num, H3.out⟩
        case measure => simp [intOf]; omega
    · have hks : decide ((k : Int) < s) = false := by have := HN.out; simp; omega
      have e : k = s.toNat := by have := HN.out; omega
      go_wp2_with fail
      refine (Try.Builder_String_any _ _ (fmtL k zs) wr HIB.out hsz).mono ?_
      rintro e2 w2 ⟨rfl, hb2⟩
      have HB2 := Lib.hid hb2
      clear hb2
      go_wp2
      go_ret
      exact ⟨ret_str rfl, B1.out.trans ((HX.out.trans HB2.out).mono (by have := B1.out.size; omega))⟩

theorem fmt_impl (s : Int) (a : Option Addr) (len cap : Nat) (zs : List Int) (w : World) (h : IntsAt w a len zs) (hm : zs.length ≤ 1048576) :
    Calls Try.prog 26 #[rhy s a len cap] w fun e w' => e = .returned (.string (fmtB s zs)) ∧ Below w.heap.size w w' := by
  have HS := Lib.hid h
  have hl : len ≤ 1048576 := by have := h.1; omega
  clear h
  by_cases ho : Ok s zs
  · have HO := Lib.hid ho
    have HE := Lib.hid (fmtB_yes ho)
    clear ho
    go_enter Try.func26, Try.ntmps26
    go_wp2_with fail
    refine (valid_yes s a len cap zs _ (HS.out.below (bel1 w _)) hl HO.out).mono ?_
    rintro e w1 ⟨rfl, hb⟩
    have HB := Lib.hid ((bel1 w (.cells #[.int .i64 s, .slice a len cap] 25)).trans (hb.mono (by simp)))
    have T1 := Lib.hid ((two_new w (.int .i64 s) (.slice a len cap) 25).keep hb)
    obtain ⟨t1, t1a, t1b⟩ := T1.out
    clear hb
    go_wp2_with fail
    refine (text_any s a len cap zs w1 (HS.out.below HB.out) hl HO.out).mono ?_
    rintro e w2 ⟨rfl, hb2⟩
    have HB2 := Lib.hid hb2
    clear hb2
    go_wp2
    go_ret
    exact ⟨ret_str HE.out.symm, HB.out.trans (HB2.out.mono HB.out.size)⟩
  · have HO := Lib.hid ho
    have HE := Lib.hid (fmtB_no ho)
    clear ho
    go_enter Try.func26, Try.ntmps26
    go_wp2_with fail
    refine (valid_no s a len cap zs _ (HS.out.below (bel1 w _)) hl HO.out).mono ?_
    rintro e w1 ⟨rfl, hb⟩
    have HB := Lib.hid ((bel1 w (.cells #[.int .i64 s, .slice a len cap] 25)).trans (hb.mono (by simp)))
    clear hb
    go_wp2
    go_ret
    exact ⟨ret_str HE.out.symm, HB.out⟩
end Go.Proofs.Ytldpikcgeijkpaa.Rhy
