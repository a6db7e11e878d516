/-
  Helpers of the claims beside this text: patterns on a line: the program's answers.
-/
import Derived.Test.YtldpikcgeijkpaaLng
namespace Go.Proofs.Ytldpikcgeijkpaa.Rhy
open Go.RowKit Go.Maps
set_option linter.unusedVariables false
set_option linter.unusedSimpArgs false
set_option maxRecDepth 100000
set_option maxHeartbeats 400000

theorem run_crs (a : Option Addr) (n c : Nat) (t : Int) (g : Bool) (w : World) :
    (Instr.field 85 (.agg #[.slice a n c, .int .i64 t, .bool g]) 0).run Try.prog w = .ok (.slice a n c) w ∧
    (Instr.field 85 (.agg #[.slice a n c, .int .i64 t, .bool g]) 1).run Try.prog w = .ok (.int .i64 t) w ∧
    (Instr.field 85 (.agg #[.slice a n c, .int .i64 t, .bool g]) 2).run Try.prog w = .ok (.bool g) w := by
  refine ⟨?_, ?_, ?_⟩ <;> kernel_rfl

theorem lgo_impl (a : Option Addr) (len cap : Nat) (zs : List Int) (w : World) (h : IntsAt w a len zs) (hm0 : zs.length ≤ 1048576) (hcap : len ≤ cap) :
    Calls Try.prog 38 #[.slice a len cap] w (fun e w' => e = .returned (.bool (cB (GoC zs))) ∧ Below w.heap.size w w') := by
  have HS := Lib.hid h
  have hm : len ≤ 1048576 := by have := h.1; omega
  clear h
  by_cases hp : PatC zs
  · obtain ⟨xs, es, t, g, C⟩ := crs_of hp
    have HC := Lib.hid C
    have HP := Lib.hid hp
    have HCR := Lib.hid (fun (w : World) (hI : IntsAt w a len zs) => lcrs_impl a len cap zs xs es t g w hI hm hp C)
    have hone := C.one
    have hfew := C.few
    have htl := C.tle
    clear C hp
    have HE : Hid (cB (GoC zs) = g) := Lib.hid (by
      cases g with
      | true => exact cB_yes (goC_of HP.out HC.out rfl)
      | false => exact cB_no (goC_no HC.out rfl))
    go_enter Try.func38, Try.ntmps38
    go_wp2_with (first
      | (go_at_call 31; refine (pok_impl a len cap zs _ HS.out hm hcap true ⟨fun _ => rfl, fun h => absurd HP.out h⟩).mono ?_; rintro e w' ⟨rfl, rfl⟩)
      | (go_at_call 72; refine (HCR.out _ HS.out).mono ?_; rintro e w1 ⟨b, c, rfl, hown, hb1⟩; have HO := Lib.hid hown; have HB := Lib.hid hb1; have hf0 := fun W => (run_crs b es.length c (t : Nat) g W).1; have hf1 := fun W => (run_crs b es.length c (t : Nat) g W).2.1; have hf2 := fun W => (run_crs b es.length c (t : Nat) g W).2.2; clear hown hb1))
    go_ret
    exact ⟨ret_q HE.out.symm, HB.out⟩
  · have HP := Lib.hid hp
    have HNG : Hid (¬ GoC zs) := Lib.hid (fun h => hp h.1)
    clear hp
    go_enter Try.func38, Try.ntmps38
    go_wp2_with (go_at_call 31; refine (pok_impl a len cap zs _ HS.out hm hcap false ⟨fun h => absurd h HP.out, fun _ => rfl⟩).mono ?_; rintro e w' ⟨rfl, rfl⟩)
    go_ret
    exact ⟨ret_q (cB_no HNG.out).symm, Below.refl _ _⟩
theorem llp_impl (a : Option Addr) (len cap : Nat) (zs : List Int) (w : World) (h : IntsAt w a len zs) (hm0 : zs.length ≤ 1048576) (hcap : len ≤ cap) :
    Calls Try.prog 40 #[.slice a len cap] w (fun e w' => e = .returned (.int .i64 (linS zs)) ∧ Below w.heap.size w w') := by
  have HS := Lib.hid h
  have hm : len ≤ 1048576 := by have := h.1; omega
  clear h
  have HG := Lib.hid (lgo_impl a len cap zs w HS.out hm0 hcap)
  by_cases hg : GoC zs
  · obtain ⟨xs, es, t, g, C⟩ := crs_of hg.1
    have hgt : g = true := by
      cases g with
      | true => rfl
      | false => exact absurd hg (goC_no C rfl)
    subst hgt
    have HC := Lib.hid C
    have HP := Lib.hid hg.1
    have HCR := Lib.hid (fun (w : World) (hI : IntsAt w a len zs) => lcrs_impl a len cap zs xs es t true w hI hm HP.out C)
    rw [cB_yes hg] at HG
    clear C hg
    go_enter Try.func40, Try.ntmps40
    go_wp2_with fail
    refine HG.out.mono ?_
    rintro e w1 ⟨rfl, hb1⟩
    have HB := Lib.hid hb1
    have HI := Lib.hid (HS.out.below hb1)
    clear hb1
    go_wp2_with fail
    refine (HCR.out _ HI.out).mono ?_
    rintro e w2 ⟨b, c, rfl, hown, hb2⟩
    have HO := Lib.hid (own_base hown HB.out.size)
    have HB2 := Lib.hid (HB.out.trans (hb2.mono HB.out.size))
    have hf0 := fun W => (run_crs b es.length c (t : Nat) true W).1
    have hf1 := fun W => (run_crs b es.length c (t : Nat) true W).2.1
    clear hown hb2
    go_wp2
    go_ret
    exact ⟨ret_n (linS_yes HP.out HC.out rfl).symm, HB2.out⟩
  · have HN := Lib.hid hg
    rw [cB_no hg] at HG
    clear hg
    go_enter Try.func40, Try.ntmps40
    go_wp2_with fail
    refine HG.out.mono ?_
    rintro e w1 ⟨rfl, hb1⟩
    have HB := Lib.hid hb1
    clear hb1
    go_wp2
    go_ret
    exact ⟨ret_n (linS_no HN.out).symm, HB.out⟩
theorem lpe_impl (a : Option Addr) (len cap : Nat) (zs : List Int) (w : World) (h : IntsAt w a len zs) (hm0 : zs.length ≤ 1048576) (hcap : len ≤ cap) :
    Calls Try.prog 42 #[.slice a len cap] w (IPost (perL zs) w) := by
  have HS := Lib.hid h
  have hm : len ≤ 1048576 := by have := h.1; omega
  clear h
  have HG := Lib.hid (lgo_impl a len cap zs w HS.out hm0 hcap)
  by_cases hg : GoC zs
  · obtain ⟨xs, es, t, g, C⟩ := crs_of hg.1
    have hgt : g = true := by
      cases g with
      | true => rfl
      | false => exact absurd hg (goC_no C rfl)
    subst hgt
    have HC := Lib.hid C
    have HP := Lib.hid hg.1
    have HCR := Lib.hid (fun (w : World) (hI : IntsAt w a len zs) => lcrs_impl a len cap zs xs es t true w hI hm HP.out C)
    rw [cB_yes hg] at HG
    clear C hg
    go_enter Try.func42, Try.ntmps42
    go_wp2_with fail
    refine HG.out.mono ?_
    rintro e w1 ⟨rfl, hb1⟩
    have HB := Lib.hid hb1
    have HI := Lib.hid (HS.out.below hb1)
    clear hb1
    go_wp2_with fail
    refine (HCR.out _ HI.out).mono ?_
    rintro e w2 ⟨b, c, rfl, hown, hb2⟩
    have HO := Lib.hid (own_base hown HB.out.size)
    have HB2 := Lib.hid (HB.out.trans (hb2.mono HB.out.size))
    have hf0 := fun W => (run_crs b es.length c (t : Nat) true W).1
    have hf1 := fun W => (run_crs b es.length c (t : Nat) true W).2.1
    clear hown hb2
    go_wp2
    go_ret
    exact ipost_some (perL_yes HP.out HC.out rfl) (zsN_len es) HO.out HB2.out
  · have HN := Lib.hid hg
    rw [cB_no hg] at HG
    clear hg
    go_enter Try.func42, Try.ntmps42
    go_wp2_with fail
    refine HG.out.mono ?_
    rintro e w1 ⟨rfl, hb1⟩
    have HB := Lib.hid hb1
    clear hb1
    go_wp2
    go_ret
    exact ipost_nought (perL_no HN.out) HB.out
theorem lft_impl (a : Option Addr) (len cap : Nat) (zs : List Int) (w : World) (h : IntsAt w a len zs) (hm0 : zs.length ≤ 1048576) (hcap : len ≤ cap) :
    Calls Try.prog 49 #[.slice a len cap] w (fun e w' => e = .returned (.int .i64 (failN zs)) ∧ Below w.heap.size w w') := by
  have HS := Lib.hid h
  have hm : len ≤ 1048576 := by have := h.1; omega
  clear h
  have HG := Lib.hid (lgo_impl a len cap zs w HS.out hm0 hcap)
  by_cases hp : PatC zs
  · obtain ⟨xs, es, t, g, C⟩ := crs_of hp
    have HC := Lib.hid C
    have HP := Lib.hid hp
    have HCR := Lib.hid (fun (w : World) (hI : IntsAt w a len zs) => lcrs_impl a len cap zs xs es t g w hI hm hp C)
    have hone := C.one
    have hfew := C.few
    have htl := C.tle
    clear C hp
    cases g with
    | true =>
      have HNF := Lib.hid (failC_no HC.out rfl)
      rw [cB_yes (goC_of HP.out HC.out rfl)] at HG
      go_enter Try.func49, Try.ntmps49
      go_wp2_with (first
        | (go_at_call 31; refine (pok_impl a len cap zs _ HS.out hm hcap true ⟨fun _ => rfl, fun h => absurd HP.out h⟩).mono ?_; rintro e w' ⟨rfl, rfl⟩)
        | (go_at_call 38; refine (HG.out).mono ?_; rintro e w1 ⟨rfl, hb1⟩; have HB := Lib.hid hb1; clear hb1))
      go_ret
      exact ⟨ret_n (failN_no HNF.out).symm, HB.out⟩
    | false =>
      rw [cB_no (goC_no HC.out rfl)] at HG
      go_enter Try.func49, Try.ntmps49
      go_wp2_with (first
        | (go_at_call 31; refine (pok_impl a len cap zs _ HS.out hm hcap true ⟨fun _ => rfl, fun h => absurd HP.out h⟩).mono ?_; rintro e w' ⟨rfl, rfl⟩)
        | (go_at_call 38; refine (HG.out).mono ?_; rintro e w1 ⟨rfl, hb1⟩; have HB := Lib.hid hb1; have HI := Lib.hid (HS.out.below hb1); clear hb1)
        | (go_at_call 72; refine (HCR.out _ HI.out).mono ?_; rintro e w2 ⟨b, c, rfl, hown, hb2⟩; have HB2 := Lib.hid (HB.out.trans (hb2.mono HB.out.size)); have hf1 := fun W => (run_crs b es.length c (t : Nat) false W).2.1; clear hown hb2))
      go_ret
      exact ⟨ret_n (failN_yes HP.out HC.out rfl).symm, HB2.out⟩
  · have HP := Lib.hid hp
    have HNF : Hid (¬ FailC zs) := Lib.hid (fun h => hp h.1)
    clear hp
    go_enter Try.func49, Try.ntmps49
    go_wp2_with (go_at_call 31; refine (pok_impl a len cap zs _ HS.out hm hcap false ⟨fun h => absurd h HP.out, fun _ => rfl⟩).mono ?_; rintro e w' ⟨rfl, rfl⟩)
    go_ret
    exact ⟨ret_n (failN_no HNF.out).symm, Below.refl _ _⟩
theorem linS_bd (zs : List Int) : 0 ≤ linS zs ∧ linS zs ≤ 24 := by
  by_cases h : GoC zs
  · obtain ⟨xs, es, t, g, C⟩ := crs_of h.1
    cases g with
    | true => rw [linS_yes h.1 C rfl]; have := C.tle; omega
    | false => exact absurd h (goC_no C rfl)
  · rw [linS_no h]; omega
theorem lbl_impl (a : Option Addr) (len cap : Nat) (zs : List Int) (w : World) (h : IntsAt w a len zs) (hm0 : zs.length ≤ 1048576) (hcap : len ≤ cap) :
    Calls Try.prog 51 #[.slice a len cap] w (fun e w' => e = .returned (.int .i64 (linS zs)) ∧ Below w.heap.size w w') := by
  have HS := Lib.hid h
  have hm : len ≤ 1048576 := by have := h.1; omega
  clear h
  have HG := Lib.hid (llp_impl a len cap zs w HS.out hm0 hcap)
  have hbd := linS_bd zs
  obtain ⟨S, hS⟩ : ∃ S, linS zs = S := ⟨_, rfl⟩
  rw [hS] at HG hbd ⊢
  clear hS
  go_enter Try.func51, Try.ntmps51
  go_wp2_with fail
  refine HG.out.mono ?_
  rintro e w1 ⟨rfl, hb1⟩
  have HB := Lib.hid hb1
  clear hb1
  go_wp2
  go_ret
  exact ⟨rfl, HB.out⟩
theorem lent_impl (a : Option Addr) (len cap : Nat) (zs : List Int) (c : Int) (w : World) (h : IntsAt w a len zs) (hm0 : zs.length ≤ 1048576) (hcap : len ≤ cap) (h3 : -9223372036854775808 ≤ c) (h4 : c ≤ 9223372036854775807) :
    Calls Try.prog 34 #[.slice a len cap, .int .i64 c] w (EntPost (entB zs c) (entQ zs c) w) := by
  have HS := Lib.hid h
  have hm : len ≤ 1048576 := by have := h.1; omega
  clear h
  by_cases hp : PatC zs
  · obtain ⟨xs, es, t, g, C⟩ := crs_of hp
    have HC := Lib.hid C
    have HP := Lib.hid hp
    have HCR := Lib.hid (fun (w : World) (hI : IntsAt w a len zs) => lcrs_impl a len cap zs xs es t g w hI hm hp C)
    have hone := C.one
    have hfew := C.few
    have htl := C.tle
    clear C hp
    by_cases hn0 : c < 0
    · have HN := Lib.hid (show ¬ EntC zs c from fun h => by have := h.2.1; omega)
      go_enter Try.func34, Try.ntmps34
      go_wp2_with (go_at_call 31; refine (pok_impl a len cap zs _ HS.out hm hcap true ⟨fun _ => rfl, fun h => absurd HP.out h⟩).mono ?_; rintro e w' ⟨rfl, rfl⟩)
      go_ret2
      exact entpost_no HN.out (Below.refl _ _)
    · by_cases h40 : 40 < c
      · have HN := Lib.hid (show ¬ EntC zs c from fun h => by have := h.2.2.1; omega)
        go_enter Try.func34, Try.ntmps34
        go_wp2_with (go_at_call 31; refine (pok_impl a len cap zs _ HS.out hm hcap true ⟨fun _ => rfl, fun h => absurd HP.out h⟩).mono ?_; rintro e w' ⟨rfl, rfl⟩)
        go_ret2
        exact entpost_no HN.out (Below.refl _ _)
      · obtain ⟨N, rfl⟩ : ∃ N : Nat, c = N := ⟨c.toNat, by omega⟩
        have hN : N ≤ 40 := by omega
        by_cases hg : g = true ∨ N ≤ es.length
        · have HG := Lib.hid hg
          have HF := Lib.hid (fun (b : Option Addr) (c : Nat) (w : World) (hI : IntsAt w b es.length (zsN es)) => lfst_impl es b c t g N w hI hone hfew HC.out.mem htl hN)
          cases g with
          | true =>
            clear hg
            go_enter Try.func34, Try.ntmps34
            go_wp2_with (first
              | (go_at_call 31; refine (pok_impl a len cap zs _ HS.out hm hcap true ⟨fun _ => rfl, fun h => absurd HP.out h⟩).mono ?_; rintro e w' ⟨rfl, rfl⟩)
              | (go_at_call 72; refine (HCR.out _ HS.out).mono ?_; rintro e w1 ⟨b, cc, rfl, hown, hb1⟩; have HO := Lib.hid hown; have HB := Lib.hid hb1; have HI := Lib.hid (intsAt_own HO.out (zsN_int HC.out.mem)); clear hown hb1)
              | (go_at_call 73; refine (HF.out _ _ _ (HI.out.below (bel1 _ _))).mono ?_; rintro e w2 ⟨b2, c2, rfl, hown2, hb2⟩; have HO2 := Lib.hid hown2; have HB2 := Lib.hid hb2; clear hown2 hb2))
            go_ret2
            have HGG : true = true ∨ N ≤ es.length := .inl rfl
            exact entpost_yes HP.out HC.out hN HGG rfl (by rw [zsN_len, fst_len]) (own_base HO2.out (Nat.le_trans HB.out.size (by simp))) (HB.out.trans (((bel1 _ _).trans (HB2.out.mono (by simp))).mono HB.out.size))
          | false =>
            have hle : N ≤ es.length := by rcases hg with h | h; cases h; exact h
            clear hg
            go_enter Try.func34, Try.ntmps34
            go_wp2_with (first
              | (go_at_call 31; refine (pok_impl a len cap zs _ HS.out hm hcap true ⟨fun _ => rfl, fun h => absurd HP.out h⟩).mono ?_; rintro e w' ⟨rfl, rfl⟩)
              | (go_at_call 72; refine (HCR.out _ HS.out).mono ?_; rintro e w1 ⟨b, cc, rfl, hown, hb1⟩; have HO := Lib.hid hown; have HB := Lib.hid hb1; have HI := Lib.hid (intsAt_own HO.out (zsN_int HC.out.mem)); clear hown hb1)
              | (go_at_call 73; refine (HF.out _ _ _ (HI.out.below (bel1 _ _))).mono ?_; rintro e w2 ⟨b2, c2, rfl, hown2, hb2⟩; have HO2 := Lib.hid hown2; have HB2 := Lib.hid hb2; clear hown2 hb2))
            go_ret2
            have HGG : false = true ∨ N ≤ es.length := .inr hle
            exact entpost_yes HP.out HC.out hN HGG rfl (by rw [zsN_len, fst_len]) (own_base HO2.out (Nat.le_trans HB.out.size (by simp))) (HB.out.trans (((bel1 _ _).trans (HB2.out.mono (by simp))).mono HB.out.size))
        · have hgf : g = false := by
            cases g with
            | true => exact absurd (.inl rfl) hg
            | false => rfl
          subst hgf
          have hgt : es.length < N := by
            rcases Nat.lt_or_ge es.length N with h | h
            · exact h
            · exact absurd (.inr h) hg
          have HN := Lib.hid (entC_no HC.out rfl (show (es.length : Int) < (N : Int) by omega))
          clear hg
          go_enter Try.func34, Try.ntmps34
          go_wp2_with (first
            | (go_at_call 31; refine (pok_impl a len cap zs _ HS.out hm hcap true ⟨fun _ => rfl, fun h => absurd HP.out h⟩).mono ?_; rintro e w' ⟨rfl, rfl⟩)
            | (go_at_call 72; refine (HCR.out _ HS.out).mono ?_; rintro e w1 ⟨b, cc, rfl, hown, hb1⟩; have HO := Lib.hid hown; have HB := Lib.hid hb1; clear hown hb1))
          go_ret2
          exact entpost_no HN.out (HB.out.trans ((bel1 _ _).mono HB.out.size))
  · have HN := Lib.hid (show ¬ EntC zs c from fun h => hp h.1)
    have HP := Lib.hid hp
    clear hp
    go_enter Try.func34, Try.ntmps34
    go_wp2_with (go_at_call 31; refine (pok_impl a len cap zs _ HS.out hm hcap false ⟨fun h => absurd h HP.out, fun _ => rfl⟩).mono ?_; rintro e w' ⟨rfl, rfl⟩)
    go_ret2
    exact entpost_no HN.out (Below.refl _ _)
theorem lok_spec (a : Option Addr) (len cap : Nat) (zs : List Int) (w : World) (h : IntsAt w a len zs) (hm0 : zs.length ≤ 1048576) :
    Calls Try.prog 29 #[.slice a len cap] w (fun e w' => e = .returned (.bool (cB (PatC zs))) ∧ Below w.heap.size w w') :=
  (pok_spec a len cap zs w h (by have := h.1; omega) (cB (PatC zs)) ⟨cB_yes, cB_no⟩).mono fun e w' ⟨h1, h2⟩ => ⟨h1, by rw [← h2]; exact Below.refl _ _⟩
theorem lok_impl (a : Option Addr) (len cap : Nat) (zs : List Int) (w : World) (h : IntsAt w a len zs) (hm0 : zs.length ≤ 1048576) (hcap : len ≤ cap) :
    Calls Try.prog 31 #[.slice a len cap] w (fun e w' => e = .returned (.bool (cB (PatC zs))) ∧ Below w.heap.size w w') :=
  (pok_impl a len cap zs w h (by have := h.1; omega) hcap (cB (PatC zs)) ⟨cB_yes, cB_no⟩).mono fun e w' ⟨h1, h2⟩ => ⟨h1, by rw [← h2]; exact Below.refl _ _⟩
end Go.Proofs.Ytldpikcgeijkpaa.Rhy
