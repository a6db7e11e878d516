/-
  Helpers of the claims beside this text: the model's periods, axes and turns.
-/
import Derived.Test.YtpgolnkhbnancaaMoves
import Derived.Test.YtpgolnkhbnancaaSame
import Derived.Test.YtpgolnkhbnancaaVec
import Derived.Deep.RegionHeld3
namespace Go.Proofs.Ytpgolnkhbnancaa.Rhy
open Go.RowKit
set_option linter.unusedVariables false

/-- The first number from k on at which p holds, of f numbers; behind them if there is none. -/
def firstFrom (p : Nat → Bool) (k : Nat) : Nat → Nat
  | 0 => k
  | f + 1 => if p k then k else firstFrom p (k + 1) f
theorem first_yes {p : Nat → Bool} {k n : Nat} (hk : k < n) (h : p k = true) : firstFrom p k (n - k) = k := by
  obtain ⟨f, hf⟩ : ∃ f, n - k = f + 1 := ⟨n - k - 1, by omega⟩
  rw [hf]; simp [firstFrom, h]
theorem first_no {p : Nat → Bool} {k n : Nat} (hk : k < n) (h : p k = false) : firstFrom p k (n - k) = firstFrom p (k + 1) (n - (k + 1)) := by
  obtain ⟨f, hf⟩ : ∃ f, n - k = f + 1 := ⟨n - k - 1, by omega⟩
  rw [hf, show n - (k + 1) = f by omega]; simp [firstFrom, h]
theorem first_le (p : Nat → Bool) (f : Nat) : ∀ k, k ≤ firstFrom p k f ∧ firstFrom p k f ≤ k + f := by
  induction f with
  | zero => intro k; simp [firstFrom]
  | succ f ih =>
    intro k
    have := ih (k + 1)
    simp only [firstFrom]
    split <;> omega

def rotZ (s : Int) (zs : List Int) (u k : Int) : List Int := ofZ s.toNat (mapL s zs u k)
theorem rotZ_int {s : Int} {zs : List Int} {u k : Int} (h : s ≤ 24) : AllInt (rotZ s zs u k) := ofZ_int (by omega)
theorem rotZ_len {s : Int} {zs : List Int} {u k : Int} (h : s ≤ 24) : (rotZ s zs u k).length ≤ 24 := Nat.le_trans (ofZ_len _ _) (by omega)
/-- The turn by k, or the mirror turned by k, is ys. -/
def isRot (s : Int) (zs ys : List Int) (u : Int) (k : Nat) : Bool := eqB (rotZ s zs u k) ys
def perZ (s : Int) (zs : List Int) : Nat := firstFrom (isRot s zs zs 1) 1 (s.toNat - 1)
noncomputable def perB (s : Int) (zs : List Int) : Int := cS (Ok s zs) (perZ s zs)
theorem fieldsR : (Try.prog.fieldsOf 26).toList.map (fun f => (f.type, f.offset)) = [(3, 0), (24, 1)] := by kernel_rfl
theorem underR : Try.prog.underlying 26 = some (.struct (Try.prog.fieldsOf 26)) := by kernel_rfl
/-- The beats of a rhythm that is a value. -/
theorem run_beats (s : Int) (a : Option Addr) (n c : Nat) (w : World) : (Instr.field 26 (rhy s a n c) 1).run Try.prog w = .ok (.slice a n c) w := by
  have hf := fieldsR
  have hu := underR
  obtain ⟨F, hF⟩ : ∃ F, F = Try.prog.fieldsOf 26 := ⟨_, rfl⟩
  rw [← hF] at hf hu
  have h1 : ∃ g : Field, F[1]? = some g ∧ g.type = 24 ∧ g.offset = 1 := by
    have h2 : (F.toList.map (fun f => (f.type, f.offset)))[1]? = some (24, 1) := by rw [hf]; rfl
    rw [List.getElem?_map, Option.map_eq_some_iff] at h2
    obtain ⟨g, hg, he⟩ := h2
    simp only [Prod.mk.injEq] at he
    exact ⟨g, by simpa using hg, he.1, he.2⟩
  obtain ⟨g, hg, g1, g2⟩ := h1
  unfold Instr.field rhy
  simp only [Sem.run_bind, run_underlying hu, Result.andThen_ok, hg, g1, g2]
  simp [asAgg, part]

set_option maxHeartbeats 1000000 in
theorem period0_spec (n : Nat) (a : Option Addr) (len cap : Nat) (zs : List Int) (w : World) (h : IntsAt w a len zs) (hm : len ≤ 1048576) (ho : Ok n zs) :
    Calls Try.prog 89 #[rhy n a len cap] w fun e w' => e = .returned (.int .i64 (perZ n zs)) ∧ Below w.heap.size w w' := by
  have HS := Lib.hid h
  have HOK := Lib.hid ho
  have hn1 : 1 ≤ n := by have := ho.1.1; omega
  have hn2 : n ≤ 24 := by have := ho.1.2; omega
  have HP := Lib.hid (show perZ n zs = firstFrom (isRot n zs zs 1) 1 (n - 1) by unfold perZ; rw [Int.toNat_natCast])
  clear h ho
  obtain ⟨W0, hW⟩ : ∃ W0, W0 = w.alloc (.cells #[.int .i64 n, .slice a len cap] 26) := ⟨_, rfl⟩
  have HW := Lib.hid hW
  have HB := Lib.hid (show Below w.heap.size w W0 by rw [hW]; exact bel1 w _)
  have T0 := Lib.hid (show Two W0 w.heap.size (.int .i64 n) (.slice a len cap) by rw [hW]; exact two_new w _ _ _)
  clear hW
  go_enter Try.func89, Try.ntmps89
  go_wp2
  rw [← HW.out]
  go_loopw [3] (fun i wr => ∃ k : Nat, 1 ≤ k ∧ k ≤ n ∧ i = .int .i64 k ∧ firstFrom (isRot n zs zs 1) 1 (n - 1) = firstFrom (isRot n zs zs 1) k (n - k) ∧ Below W0.heap.size W0 wr) (fun i _ => n - (intOf i).toNat)
  case atStart => exact ⟨1, by omega, hn1, rfl, rfl, Below.refl _ _⟩
  case round =>
    obtain ⟨k, hk1, hk, rfl, hf, hnx⟩ := hrel
    have HF := Lib.hid hf
    have HX := Lib.hid hnx
    have T1 := Lib.hid (T0.out.keep hnx)
    have HI : Hid (IntsAt wr a len zs) := Lib.hid (HS.out.below (HB.out.trans (hnx.mono HB.out.size)))
    have hsz := hnx.size
    clear hf hnx
    obtain ⟨x0, x1, x2⟩ := T1.out
    by_cases hlt : k < n
    · have HK : Hid (∀ W, Below wr.heap.size wr W → W.cell? ⟨w.heap.size, 0, none⟩ = some (.int .i64 n) ∧ W.cell? ⟨w.heap.size, 1, none⟩ = some (.slice a len cap) ∧ Below wr.heap.size wr W) :=
        Lib.hid (fun W hW => ⟨(T1.out.keep hW).2.1, (T1.out.keep hW).2.2, hW⟩)
      have HRI := Lib.hid (rotZ_int (s := n) (zs := zs) (u := 1) (k := k) (by omega))
      have hrl := rotZ_len (s := n) (zs := zs) (u := 1) (k := k) (by omega)
      go_wp2
      go_region_held3 (fun w' => w'.cell? ⟨w.heap.size, 0, none⟩ = some (.int .i64 n) ∧ w'.cell? ⟨w.heap.size, 1, none⟩ = some (.slice a len cap) ∧ Below wr.heap.size wr w')
        (first | exact HK.out _ (Below.refl _ _).drew | exact HK.out _ hb1)
        ((first
          | (go_at_call 99; refine (map_any n a len cap zs 1 k _ (HI.out.below (Below.refl _ _).drew) hm HOK.out (by omega) (by omega) (by omega) (by omega)).mono ?_; rintro e w1 ⟨b1, c1, rfl, hown1, hc1⟩; have hb1 := (Below.refl wr.heap.size wr).drew.trans hc1; have hr1 := intsAt_own hown1 HRI.out; have hfd := fun L W => run_beats n b1 L c1 W; clear hown1 hc1)
          | (go_at_call 98; refine (same_spec0 b1 a _ len c1 cap _ zs w1 hr1 (HI.out.below hb1) (Nat.le_trans hrl (by omega)) hm).mono ?_; rintro e w2 ⟨rfl, rfl⟩)))
      rename_i hh
      have hb := hh.2.2
      have hx := hh.1
      have hx' := hh.2.1
      clear hh HK
      have HBB := Lib.hid (HB.out.trans ((HX.out.trans (hb.mono hsz)).mono HB.out.size))
      have HXX := Lib.hid (HX.out.trans (hb.mono hsz))
      cases hc : eqB (ofZ n (mapL n zs 1 k)) zs
      · have HN := Lib.hid (HF.out.trans (first_no hlt (show isRot n zs zs 1 k = false by unfold isRot rotZ; rw [Int.toNat_natCast]; exact hc)))
        go_wp2
        go_roundw
        case rel => exact ⟨k + 1, by omega, by omega, by go_num, HN.out, HXX.out⟩
        case measure => simp [intOf]; omega
      · have HN := Lib.hid (HF.out.trans (first_yes hlt (show isRot n zs zs 1 k = true by unfold isRot rotZ; rw [Int.toNat_natCast]; exact hc)))
        go_wp2
        go_ret
        exact ⟨ret_int (by rw [HP.out, HN.out]), HBB.out⟩
    · have e : k = n := by omega
      subst e
      have HN : Hid (perZ k zs = k) := Lib.hid (by rw [HP.out, HF.out, Nat.sub_self]; rfl)
      go_wp2
      go_ret
      exact ⟨ret_int (by rw [HN.out]), HB.out.trans (HX.out.mono HB.out.size)⟩

theorem perB_yes {s : Int} {zs : List Int} (h : Ok s zs) : perB s zs = perZ s zs := cS_yes h
theorem perB_no {s : Int} {zs : List Int} (h : ¬ Ok s zs) : perB s zs = 0 := cS_no h


end Go.Proofs.Ytpgolnkhbnancaa.Rhy
