/-
  Helpers of the claims beside this text: the program's chain: firstLink, chain.
-/
import Derived.Test.YthcmpkhfimapgaaGpi
import Derived.Test.YthcmpkhfimapgaaGpm
namespace Go.Proofs.Ythcmpkhfimapgaa.Rhy
open Go.RowKit
set_option linter.unusedVariables false
set_option linter.unusedSimpArgs false

/-- What is behind a link, the chain being open at its first beat. -/
def beh (B : Int → Nat) (zs : List Int) (n g s z : Int) : Option Addr := if (z + g) % n = s then none else lkO B zs ((z + g) % n)
/-- What firstLink hands back. -/
def FstPost (n : Int) (zs : List Int) (g s : Int) (w : World) (e : Ending) (w' : World) : Prop :=
  ∃ B : Int → Nat, e = .returned (.pointer (some ⟨B s, 0, none⟩)) ∧ (∀ z ∈ zs, w.heap.size ≤ B z ∧ ∃ p, Lnk w' (B z) z p (beh B zs n g s z)) ∧ Below w.heap.size w w'
theorem fst_here {n : Nat} {B : Int → Nat} {zs : List Int} {g z : Int} {w w' : World} (hr : ∀ x ∈ zs, 0 ≤ x ∧ x < n) (hz : z ∈ zs) (hn : (z - g) % n ∉ zs)
    (h : ∀ z ∈ zs, w.heap.size ≤ B z ∧ Lnk w' (B z) z (lkO B zs ((z - g) % n)) (lkO B zs ((z + g) % n))) (hb : Below w.heap.size w w') : FstPost n zs g z w (.returned (.pointer (some ⟨B z, 0, none⟩))) w' := by
  refine ⟨B, rfl, fun x hx => ⟨(h x hx).1, lkO B zs ((x - g) % n), ?_⟩, hb⟩
  have hne : ¬ (x + g) % n = z := fun e => hn (by rw [(back_iff (hr z hz) (hr x hx)).2 e.symm]; exact hx)
  unfold beh
  rw [if_neg hne]
  exact (h x hx).2
theorem fst_open {n : Nat} {B : Int → Nat} {zs : List Int} {g z c : Int} {w w' : World} (hr : ∀ x ∈ zs, 0 ≤ x ∧ x < n) (hz : z ∈ zs) (hc : c ∈ zs) (hcz : (z - g) % n = c) (hne : c ≠ z)
    (h : ∀ z ∈ zs, w.heap.size ≤ B z ∧ Lnk w' (B z) z (lkO B zs ((z - g) % n)) (lkO B zs ((z + g) % n))) (hb : Below w.heap.size w w') :
    FstPost n zs g z w (.returned (.pointer (some ⟨B z, 0, none⟩))) ((w'.setCell ⟨B c, 2, none⟩ (.pointer none)).setCell ⟨B z, 1, none⟩ (.pointer none)) := by
  have hinj : ∀ x ∈ zs, ∀ x' ∈ zs, x ≠ x' → B x ≠ B x' := fun x hx x' hx' hxx e => by
    have h1 := (h x hx).2
    rw [e] at h1
    exact hxx (lnk_inj h1 (h x' hx').2)
  refine ⟨B, rfl, fun x hx => ⟨(h x hx).1, ?_⟩, (hb.setCell (by have := (h c hc).1; exact this) _).setCell (by have := (h z hz).1; exact this) _⟩
  have hl := (h x hx).2
  by_cases e : x = c
  · subst e
    have he : (x + g) % n = z := ((back_iff (hr z hz) (hr x hx)).1 hcz).symm
    unfold beh
    rw [if_pos he]
    exact ⟨_, (hl.set2 none).other _ (hinj z hz x hx (fun q => hne q.symm))⟩
  · have he : ¬ (x + g) % n = z := fun q => e (by rw [← hcz]; exact ((back_iff (hr z hz) (hr x hx)).2 q.symm).symm)
    unfold beh
    rw [if_neg he]
    have h1 := hl.other (o := 2) (.pointer none) (hinj c hc x hx (fun q => e q.symm))
    by_cases e2 : x = z
    · subst e2
      exact ⟨_, h1.set1 none⟩
    · exact ⟨_, h1.other _ (hinj z hz x hx (fun q => e2 q.symm))⟩

theorem shift_ne {n g z : Int} (hz : 0 ≤ z ∧ z < n) (hg : 1 ≤ g ∧ g < n) : (z - g) % n ≠ z := by
  intro e
  rcases Int.lt_or_le (z - g) 0 with q | q
  · have : (z - g) % n = z - g + n := by
      rw [← Int.add_emod_right, Int.emod_eq_of_lt (by omega) (by omega)]
    omega
  · rw [Int.emod_eq_of_lt q (by omega)] at e
    omega

set_option maxHeartbeats 1000000 in
theorem first_any (n : Nat) (a : Option Addr) (cap : Nat) (zs : List Int) (g : Int) (w : World) (h : IntsAt w a zs.length zs) (ho : Ok n zs) (hg1 : 1 ≤ g) (hg2 : g < n) (h0 : 0 < zs.length) :
    Calls Try.prog 83 #[rhy n a zs.length cap, .int .i64 g] w (FstPost n zs g (chF n zs g) w) := by
  have HS := Lib.hid h
  have HOK := Lib.hid ho
  have hl24 := ok_len ho
  have HRNG := Lib.hid (ok_range ho)
  have he0 : ((zs.length : Int) == 0) = false := by simp; rintro rfl; simp at h0
  obtain ⟨s, hsf⟩ : ∃ s, chF n zs g = s := ⟨_, rfl⟩
  rw [hsf]
  have HSF := Lib.hid hsf
  clear h ho hsf
  go_enter Try.func83, Try.ntmps83
  go_wp2_with fail
  refine (links_any n a cap zs g _ (HS.out.below (bel1 w _)) HOK.out hg1 hg2 h0).mono ?_
  rintro e w1 hp
  obtain ⟨B, gb, cv, rfl, hcv, hrow, hlk, hb⟩ := hp
  have HROW := Lib.hid hrow
  have HB := Lib.hid ((bel1 w (.cells #[.int .i64 n, .slice a zs.length cap] 26)).trans (hb.mono (by simp)))
  have HLK : Hid (∀ z ∈ zs, w.heap.size ≤ B z ∧ Lnk w1 (B z) z (lkO B zs ((z - g) % n)) (lkO B zs ((z + g) % n))) := Lib.hid (fun z hz => ⟨by have := (hlk z hz).1; simp at this; omega, (hlk z hz).2⟩)
  clear hrow hlk hb
  go_wp2
  go_loop [17] (fun i => ∃ j : Nat, j ≤ zs.length ∧ i = .int .i64 j ∧ Hid (s = chG n zs g (zs.length - j) j) ∧ Hid (∀ (k : Nat) (z : Int), k < j → zs[k]? = some z → (z - g) % n ∈ zs)) (fun i => zs.length - (intOf i).toNat)
  case atStart => exact ⟨0, by omega, rfl, Lib.hid HSF.out.symm, Lib.hid (fun k z hk => by omega)⟩
  case round =>
    obtain ⟨j, hj, rfl, HF, HALL⟩ := hrel
    by_cases hlt : j < zs.length
    · obtain ⟨z, hs⟩ : ∃ z, zs[j]? = some z := ⟨_, List.getElem?_eq_getElem hlt⟩
      have hzm := List.mem_of_getElem? hs
      have hc := HROW.out j z hs
      have hzd : zs[j]?.getD 0 = z := by rw [hs]; rfl
      have hfl := (HLK.out z hzm).2.facts
      obtain ⟨⟨_, l1, _⟩, _⟩ := hfl
      by_cases hm : (z - g) % n ∈ zs
      · rw [lkO_yes hm] at l1
        have HF2 : Hid (s = chG n zs g (zs.length - (j + 1)) (j + 1)) := Lib.hid (by rw [HF.out, chG_skip hlt (by rw [hzd]; exact (beat_at HOK.out).2 hm)])
        have HALL2 : Hid (∀ (k : Nat) (z : Int), k < j + 1 → zs[k]? = some z → (z - g) % n ∈ zs) := Lib.hid (fun k x hk hx => by
          by_cases e : k = j
          · subst e; rw [hs] at hx; cases hx; exact hm
          · exact HALL.out k x (by omega) hx)
        clear hs hzd
        go_wp2
        go_round
        case rel => exact ⟨j + 1, by omega, by go_num, HF2, HALL2⟩
        case measure => simp [intOf]; omega
      · rw [lkO_no hm] at l1
        have HF2 : Hid (s = z) := Lib.hid (by
          rw [HF.out, chG_here hlt, hzd]
          rw [hzd]
          cases hq : beatB n zs (z - g)
          · rfl
          · exact absurd ((beat_at HOK.out).1 hq) hm)
        have HP := Lib.hid (fst_here HRNG.out hzm hm HLK.out HB.out)
        clear hs hzd
        go_wp2
        go_ret
        rw [HF2.out]
        exact HP.out
    · have e : j = zs.length := by omega
      obtain ⟨z, hs⟩ : ∃ z, zs[0]? = some z := ⟨_, List.getElem?_eq_getElem h0⟩
      have hzm := List.mem_of_getElem? hs
      have hc := HROW.out 0 z hs
      have hm := HALL.out 0 z (by omega) hs
      have HF2 : Hid (s = z) := Lib.hid (by
        rw [HF.out, e, Nat.sub_self]
        simp only [chG]
        rw [hs]; rfl)
      obtain ⟨c, hcc⟩ : ∃ c, (z - g) % n = c := ⟨_, rfl⟩
      have hne : c ≠ z := by rw [← hcc]; exact shift_ne (HRNG.out z hzm) ⟨hg1, hg2⟩
      rw [hcc] at hm
      have HLz := Lib.hid (HLK.out z hzm).2
      rw [hcc, lkO_yes hm] at HLz
      have HLc := Lib.hid (HLK.out c hm).2
      have HNE : Hid (B c ≠ B z) := Lib.hid (fun q => by
        have h1 := HLc.out
        rw [q] at h1
        exact hne (lnk_inj h1 HLz.out))
      have HP := Lib.hid (fst_open HRNG.out hzm hm hcc hne HLK.out HB.out)
      clear hs hcc e hne
      go_wp2_with fail
      refine (opened_any (B z) (B c) _ _ _ _ _ _ HLz.out HLc.out HNE.out).mono ?_
      rintro e w2 ⟨rfl, rfl⟩
      go_wp2
      go_ret
      rw [HF2.out]
      exact HP.out
def lenV : Value → Nat
  | .slice _ n _ => n
  | _ => 0

set_option maxHeartbeats 1000000 in
theorem chain_any (n : Nat) (a : Option Addr) (cap : Nat) (zs : List Int) (g : Int) (m : Nat) (w : World) (h : IntsAt w a zs.length zs) (ho : Ok n zs) (hg1 : 1 ≤ g) (hg2 : g < n) (h0 : 0 < zs.length) (hM : ChM n zs (chF n zs g) g m) :
    Calls Try.prog 61 #[rhy n a zs.length cap, .int .i64 g] w (IPost (chP n (chF n zs g) g m) w) := by
  have HS := Lib.hid h
  have HOK := Lib.hid ho
  have hn1 : 1 ≤ n := by have := ho.1.1; omega
  have hn24 : n ≤ 24 := by have := ho.1.2; omega
  have HRNG := Lib.hid (ok_range ho)
  have HFI := Lib.hid (chF_in (n := n) (zs := zs) g h0)
  obtain ⟨s, hsf⟩ : ∃ s, chF n zs g = s := ⟨_, rfl⟩
  rw [hsf] at hM HFI ⊢
  have HSF := Lib.hid hsf
  have HM := Lib.hid hM
  have hm1 := hM.1.1
  have hmn : m ≤ n := by have := hM.1.2; omega
  have hsr := HRNG.out s HFI.out
  clear h ho hsf hM
  go_enter Try.func61, Try.ntmps61
  go_wp2_with fail
  refine (first_any n a cap zs g _ (HS.out.below (bel1 w _)) HOK.out hg1 hg2 h0).mono ?_
  rintro e w1 hp
  rw [HSF.out] at hp
  obtain ⟨B, rfl, hlk, hb⟩ := hp
  have HLK : Hid (∀ z ∈ zs, ∃ p, Lnk w1 (B z) z p (beh B zs n g s z)) := Lib.hid (fun z hz => (hlk z hz).2)
  have HB := Lib.hid ((bel1 w (.cells #[.int .i64 n, .slice a zs.length cap] 26)).trans (hb.mono (by simp)))
  clear hlk hb
  go_wp2
  go_loopw [5, 6] (fun v p wr => ∃ j : Nat, j ≤ m ∧ VecAt (chP n s g j) w1 wr v ∧ Hid ((j < m ∧ p = .pointer (some ⟨B (chX n s g j), 0, none⟩)) ∨ (j = m ∧ p = .pointer none))) (fun v _ _ => m - lenV v)
  case atStart => exact ⟨0, by omega, vec_nil w1, Lib.hid (.inl ⟨by omega, by rw [chX_zero g hsr]⟩)⟩
  case round =>
    obtain ⟨j, hj, ⟨av, cv, rfl, hown, hnx, hsz⟩, HPT⟩ := hrel
    rcases HPT.out with ⟨hlt, rfl⟩ | ⟨hjm, rfl⟩
    · obtain ⟨L, hL⟩ : ∃ L, chP n s g j = L := ⟨_, rfl⟩
      have HSN := Lib.hid (chP_next n s g j)
      obtain ⟨x, hx⟩ : ∃ x, chX n s g j = x := ⟨_, rfl⟩
      have hxm : x ∈ zs := by rw [← hx]; exact HM.out.2.1 j hlt
      have hLl : Hid (L.length = j) := Lib.hid (by rw [← hL, chP_len])
      have hml : L.length ≤ 1048577 := by have := hLl.out; omega
      have HNX := Lib.hid (chX_next n s g j)
      rw [hL, hx] at HSN
      rw [hx] at HNX
      rw [hL] at hown ⊢
      obtain ⟨p, hp⟩ := HLK.out x hxm
      have HO := Lib.hid hown
      have HX := Lib.hid hnx
      have HZ := Lib.hid hsz
      have hxr := HRNG.out x hxm
      have HLr := Lib.hid (hp.keep hnx hp.lt)
      have hBx := hp.lt
      obtain ⟨⟨c0, _, c2⟩, _⟩ := HLr.out.facts
      rw [hx]
      clear hown hnx hsz hL hp HPT
      have HNXT : Hid ((j + 1 < m ∧ beh B zs n g s x = some ⟨B (chX n s g (j + 1)), 0, none⟩) ∨ (j + 1 = m ∧ beh B zs n g s x = none)) := Lib.hid (by
        unfold beh
        rw [HNX.out]
        by_cases e1 : chX n s g (j + 1) = s
        · right
          rw [if_pos e1]
          refine ⟨?_, rfl⟩
          rcases Nat.lt_or_ge (j + 1) m with q | q
          · exact absurd e1 (HM.out.2.2.1 (j + 1) (by omega) q)
          · omega
        · rw [if_neg e1]
          by_cases e2 : chX n s g (j + 1) ∈ zs
          · left
            rw [lkO_yes e2]
            refine ⟨?_, rfl⟩
            rcases Nat.lt_or_ge (j + 1) m with q | q
            · exact q
            · have e3 : j + 1 = m := by omega
              rw [e3] at e1 e2
              rcases HM.out.2.2.2 with w' | w'
              · exact absurd e2 w'
              · exact absurd w' e1
          · right
            rw [lkO_no e2]
            refine ⟨?_, rfl⟩
            rcases Nat.lt_or_ge (j + 1) m with q | q
            · exact absurd (HM.out.2.1 (j + 1) q) e2
            · omega)
      obtain ⟨nx, hnx⟩ : ∃ nx, beh B zs n g s x = nx := ⟨_, rfl⟩
      rw [hnx] at HNXT HLr c2
      have HXX := Lib.hid hx
      clear hnx hx
      go_wp2_with (at_builtin; refine append_int rfl _ _ rfl w1.heap.size _ L _ _ HO.out hml HZ.out _ rfl rfl rfl ?_; intro a' c' w2 hown' hb'; have HO2 := Lib.hid hown'; have HX2 := Lib.hid hb'; have c2' := (HLr.out.keep hb' hBx).facts.1.2.2; clear hown' hb')
      go_roundw
      case rel =>
        refine ⟨j + 1, by omega, ?_, ?_⟩
        · rw [HSN.out]
          have := vec_snoc HX.out HZ.out HO2.out HX2.out
          simpa using this
        · rcases HNXT.out with ⟨q1, q2⟩ | ⟨q1, q2⟩
          · exact Lib.hid (.inl ⟨q1, by rw [q2]⟩)
          · exact Lib.hid (.inr ⟨q1, by rw [q2]⟩)
      case measure => have := hLl.out; simp [lenV]; omega
    · subst hjm
      have HO := Lib.hid hown
      have HX := Lib.hid hnx
      have hzw := HB.out.size
      clear hown hnx HPT
      go_wp2
      go_ret
      exact ⟨av, cv, rfl, own_base HO.out hzw, HB.out.trans (HX.out.mono hzw)⟩
theorem chain_none (n : Nat) (a : Option Addr) (cap : Nat) (g : Int) (w : World) :
    Calls Try.prog 61 #[rhy n a 0 cap, .int .i64 g] w (IPost [] w) := by
  go_enter Try.func61, Try.ntmps61
  have HF : Hid (∀ W : World, Calls Try.prog 83 #[rhy n a 0 cap, .int .i64 g] W fun e w' => e = .returned (.pointer none) ∧ Below W.heap.size W w') := Lib.hid (fun W => by
    go_enter Try.func83, Try.ntmps83
    go_wp2
    go_ret
    exact ⟨rfl, bel1 W _⟩)
  go_wp2_with fail
  refine (HF.out _).mono ?_
  rintro e w1 ⟨rfl, hb⟩
  have HB := Lib.hid ((bel1 w (.cells #[.int .i64 n, .slice a 0 cap] 26)).trans (hb.mono (by simp)))
  clear hb HF
  go_wp2
  go_loopw [5, 6] (fun v p wr => v = .slice none 0 0 ∧ p = .pointer none ∧ wr = w1) (fun _ _ _ => 0)
  case atStart => exact ⟨rfl, rfl, rfl⟩
  case round =>
    obtain ⟨rfl, rfl, rfl⟩ := hrel
    go_wp2
    go_ret
    exact ⟨none, 0, rfl, World.ownsRow_nil _ _ _ _, HB.out⟩
end Go.Proofs.Ythcmpkhfimapgaa.Rhy
