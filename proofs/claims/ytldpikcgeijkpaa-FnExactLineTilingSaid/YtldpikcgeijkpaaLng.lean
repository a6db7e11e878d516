/-
  Helpers of the claims beside this text: patterns on a line: the answers of both sides.
-/
import Derived.Test.YtldpikcgeijkpaaLnf
import Derived.Test.YtldpikcgeijkpaaMoves
namespace Go.Proofs.Ytldpikcgeijkpaa.Rhy
open Go.RowKit Go.Maps
set_option linter.unusedVariables false
set_option linter.unusedSimpArgs false
set_option maxRecDepth 100000

/-! ### the answers -/
def GoC (zs : List Int) : Prop := PatC zs ∧ (crsD (natL zs)).2.2 = true
def FailC (zs : List Int) : Prop := PatC zs ∧ (crsD (natL zs)).2.2 = false
noncomputable def linS (zs : List Int) : Int := cS (GoC zs) ((crsD (natL zs)).2.1 : Int)
noncomputable def perL (zs : List Int) : List Int := cZ (GoC zs) (zsN (crsD (natL zs)).1)
noncomputable def failN (zs : List Int) : Int := cS (FailC zs) ((crsD (natL zs)).2.1 + 1 : Int) - 1
theorem goC_of {zs : List Int} {xs es : List Nat} {t : Nat} {g : Bool} (hp : PatC zs) (C : Crs zs xs es t g) (hg : g = true) : GoC zs := ⟨hp, by rw [C.data]; exact hg⟩
theorem goC_no {zs : List Int} {xs es : List Nat} {t : Nat} {g : Bool} (C : Crs zs xs es t g) (hg : g = false) : ¬ GoC zs := fun h => by
  have := h.2
  rw [C.data] at this
  change g = true at this
  rw [hg] at this
  cases this
theorem failC_of {zs : List Int} {xs es : List Nat} {t : Nat} {g : Bool} (hp : PatC zs) (C : Crs zs xs es t g) (hg : g = false) : FailC zs := ⟨hp, by rw [C.data]; exact hg⟩
theorem failC_no {zs : List Int} {xs es : List Nat} {t : Nat} {g : Bool} (C : Crs zs xs es t g) (hg : g = true) : ¬ FailC zs := fun h => by
  have := h.2
  rw [C.data] at this
  change g = false at this
  rw [hg] at this
  cases this
theorem linS_yes {zs : List Int} {xs es : List Nat} {t : Nat} {g : Bool} (hp : PatC zs) (C : Crs zs xs es t g) (hg : g = true) : linS zs = (t : Int) := by
  unfold linS
  rw [cS_yes (goC_of hp C hg), C.data]
theorem cS_nought {c : Prop} {s : Int} (h : ¬ c) : cS c s = 0 := by simp [cS, h]
theorem linS_no {zs : List Int} (h : ¬ GoC zs) : linS zs = 0 := by
  unfold linS
  rw [cS_nought h]
theorem perL_yes {zs : List Int} {xs es : List Nat} {t : Nat} {g : Bool} (hp : PatC zs) (C : Crs zs xs es t g) (hg : g = true) : perL zs = zsN es := by
  unfold perL
  rw [cZ_yes (goC_of hp C hg), C.data]
theorem perL_no {zs : List Int} (h : ¬ GoC zs) : perL zs = [] := by
  unfold perL
  rw [cZ_no h]
theorem failN_yes {zs : List Int} {xs es : List Nat} {t : Nat} {g : Bool} (hp : PatC zs) (C : Crs zs xs es t g) (hg : g = false) : failN zs = (t : Int) := by
  unfold failN
  rw [cS_yes (failC_of hp C hg), C.data]
  show (t : Int) + 1 - 1 = t
  omega
theorem failN_no {zs : List Int} (h : ¬ FailC zs) : failN zs = -1 := by
  unfold failN
  rw [cS_nought h]
  rfl
theorem zsN_int {es : List Nat} (h : ∀ e ∈ es, e ≤ 24) : AllInt (zsN es) := fun z hz => by
  obtain ⟨n, h1, h2⟩ := zsN_mem hz
  have := h n h1
  omega
theorem perL_fact (zs : List Int) : AllInt (perL zs) ∧ (perL zs).length ≤ 12 := by
  by_cases h : GoC zs
  · obtain ⟨xs, es, t, g, C⟩ := crs_of h.1
    cases g with
    | true => rw [perL_yes h.1 C rfl]; exact ⟨zsN_int C.mem, by rw [zsN_len]; exact C.few⟩
    | false => exact absurd h (goC_no C rfl)
  · rw [perL_no h]
    exact ⟨(fun z hz => by cases hz), by simp⟩
theorem entB_fact (zs : List Int) (c : Int) : AllInt (entB zs c) ∧ (entB zs c).length ≤ 40 := by
  by_cases h : EntC zs c
  · obtain ⟨xs, es, t, g, C⟩ := crs_of h.1
    obtain ⟨n, rfl⟩ : ∃ n : Nat, c = n := ⟨c.toNat, by have := h.2.1; omega⟩
    have hg : g = true ∨ n ≤ es.length := by
      have := h.2.2.2
      rw [C.data] at this
      exact this.imp id (fun h => by change (n : Int) ≤ (es.length : Int) at h; omega)
    have hn : n ≤ 40 := by have := h.2.2.1; omega
    rw [(entB_yes h.1 C hn hg).1]
    refine ⟨fun z hz => ?_, by rw [zsN_len, fst_len]; exact hn⟩
    obtain ⟨m, h1, rfl⟩ := zsN_mem hz
    unfold fstN at h1
    rw [List.mem_map] at h1
    obtain ⟨i, hi, rfl⟩ := h1
    have hi := List.mem_range.1 hi
    have h2 : i / es.length ≤ 40 := Nat.le_trans (Nat.div_le_self _ _) (by omega)
    have h3 : i / es.length * t ≤ 960 := Nat.le_trans (Nat.mul_le_mul h2 C.tle) (by omega)
    have h4 : es[i % es.length]?.getD 0 ≤ 24 := by
      cases he : es[i % es.length]? with
      | none => simp
      | some e => exact C.mem e (List.mem_of_getElem? he)
    omega
  · rw [(entB_no h).1]
    exact ⟨(fun z hz => by cases hz), by simp⟩
theorem ret_n {k : IntKind} {a b : Int} (h : a = b) : Ending.returned (.int k a) = .returned (.int k b) := by rw [h]
theorem lperY {es : List Nat} {t : Nat} {g : Bool} {w : World} {e : Ending} {w' : World} (h : PerPost es t g w e w') (hg : g = true) :
    ∃ b c, e = .returned (.tuple #[.int .i64 (t : Nat), .slice b es.length c, .int .i64 (-1)]) ∧ w'.ownsRow w.heap.size 3 1 (.slice b es.length c) es.length (ints (zsN es)) ∧ Below w.heap.size w w' := by
  obtain ⟨⟨_, b, c, h1, h2⟩ | ⟨h1, _⟩, hb⟩ := h
  · exact ⟨b, c, h1, h2, hb⟩
  · rw [hg] at h1; cases h1
theorem lperN {es : List Nat} {t : Nat} {g : Bool} {w : World} {e : Ending} {w' : World} (h : PerPost es t g w e w') (hg : g = false) :
    e = .returned (.tuple #[.int .i64 0, .slice none 0 0, .int .i64 (t : Nat)]) ∧ Below w.heap.size w w' := by
  obtain ⟨⟨h1, _⟩ | ⟨_, h1⟩, hb⟩ := h
  · rw [hg] at h1; cases h1
  · exact ⟨h1, hb⟩

theorem ipost_nought {l : List Int} {w w' : World} (h : l = []) (hb : Below w.heap.size w w') : IPost l w (.returned (.slice none 0 0)) w' := by
  rw [h]
  exact ⟨none, 0, rfl, World.ownsRow_nil _ _ _ _, hb⟩
theorem ipost_some {l m : List Int} {n : Nat} {w w' : World} {b : Option Addr} {c : Nat} (h : l = m) (hn : m.length = n) (ho : w'.ownsRow w.heap.size 3 1 (.slice b n c) n (ints m)) (hb : Below w.heap.size w w') : IPost l w (.returned (.slice b n c)) w' := by
  subst h hn
  exact ⟨b, c, rfl, ho, hb⟩
set_option maxHeartbeats 400000
theorem lgo_spec (a : Option Addr) (len cap : Nat) (zs : List Int) (w : World) (h : IntsAt w a len zs) (hm0 : zs.length ≤ 1048576) :
    Calls Try.prog 37 #[.slice a len cap] w (fun e w' => e = .returned (.bool (cB (GoC zs))) ∧ Below w.heap.size w w') := by
  have HS := Lib.hid h
  have hm : len ≤ 1048576 := by have := h.1; omega
  clear h
  by_cases hp : PatC zs
  · obtain ⟨xs, es, t, g, C⟩ := crs_of hp
    have HC := Lib.hid C
    have HP := Lib.hid hp
    have HPR := Lib.hid (lper_spec a len cap zs xs es t g w HS.out hm hp C)
    have hone := C.one
    have hfew := C.few
    have htl := C.tle
    clear C hp
    cases g with
    | true =>
      have ht0 : 0 < t := by obtain ⟨s, _, h1, _⟩ := HC.out.fin; exact (h1 rfl).2
      have ht0' : ((t : Int) == 0) = false := by simp; omega
      go_enter Try.func37, Try.ntmps37
      go_wp2_with fail
      refine (pok_spec a len cap zs _ HS.out hm true ⟨fun _ => rfl, fun h => absurd HP.out h⟩).mono ?_
      rintro e w' ⟨rfl, rfl⟩
      go_wp2_with fail
      refine (HPR.out).mono ?_
      intro e w1 hpp
      obtain ⟨b, c, rfl, hown, hb1⟩ := lperY hpp rfl
      have HO := Lib.hid hown
      have HB := Lib.hid hb1
      have HI : Hid (IntsAt w1 b es.length (zsN es)) := Lib.hid (intsAt_own HO.out (zsN_int HC.out.mem))
      clear hpp hown hb1
      go_wp2
      go_ret
      exact ⟨ret_q (cB_yes (goC_of HP.out HC.out rfl)).symm, HB.out⟩
    | false =>
      have HNG := Lib.hid (goC_no HC.out rfl)
      go_enter Try.func37, Try.ntmps37
      go_wp2_with fail
      refine (pok_spec a len cap zs _ HS.out hm true ⟨fun _ => rfl, fun h => absurd HP.out h⟩).mono ?_
      rintro e w' ⟨rfl, rfl⟩
      go_wp2_with fail
      refine (HPR.out).mono ?_
      intro e w1 hpp
      obtain ⟨rfl, hb1⟩ := lperN hpp rfl
      have HB := Lib.hid hb1
      clear hpp hb1
      go_wp2
      go_ret
      exact ⟨ret_q (cB_no HNG.out).symm, HB.out⟩
  · have HP := Lib.hid hp
    have HNG : Hid (¬ GoC zs) := Lib.hid (fun h => hp h.1)
    have HNF : Hid (¬ FailC zs) := Lib.hid (fun h => hp h.1)
    clear hp
    go_enter Try.func37, Try.ntmps37
    go_wp2_with fail
    refine (pok_spec a len cap zs _ HS.out hm false ⟨fun h => absurd h HP.out, fun _ => rfl⟩).mono ?_
    rintro e w' ⟨rfl, rfl⟩
    go_wp2
    go_ret
    exact ⟨ret_q (cB_no HNG.out).symm, Below.refl _ _⟩
theorem llp_spec (a : Option Addr) (len cap : Nat) (zs : List Int) (w : World) (h : IntsAt w a len zs) (hm0 : zs.length ≤ 1048576) :
    Calls Try.prog 39 #[.slice a len cap] w (fun e w' => e = .returned (.int .i64 (linS zs)) ∧ Below w.heap.size w w') := by
  have HS := Lib.hid h
  have hm : len ≤ 1048576 := by have := h.1; omega
  clear h
  by_cases hp : PatC zs
  · obtain ⟨xs, es, t, g, C⟩ := crs_of hp
    have HC := Lib.hid C
    have HP := Lib.hid hp
    have HPR := Lib.hid (lper_spec a len cap zs xs es t g w HS.out hm hp C)
    have hone := C.one
    have hfew := C.few
    have htl := C.tle
    clear C hp
    cases g with
    | true =>
      have ht0 : 0 < t := by obtain ⟨s, _, h1, _⟩ := HC.out.fin; exact (h1 rfl).2
      have ht0' : ((t : Int) == 0) = false := by simp; omega
      go_enter Try.func39, Try.ntmps39
      go_wp2_with fail
      refine (pok_spec a len cap zs _ HS.out hm true ⟨fun _ => rfl, fun h => absurd HP.out h⟩).mono ?_
      rintro e w' ⟨rfl, rfl⟩
      go_wp2_with fail
      refine (HPR.out).mono ?_
      intro e w1 hpp
      obtain ⟨b, c, rfl, hown, hb1⟩ := lperY hpp rfl
      have HO := Lib.hid hown
      have HB := Lib.hid hb1
      have HI : Hid (IntsAt w1 b es.length (zsN es)) := Lib.hid (intsAt_own HO.out (zsN_int HC.out.mem))
      clear hpp hown hb1
      go_wp2_with fail
      refine (lls_spec es t b es.length c _ HI.out hfew HC.out.mem htl (HC.out.least rfl)).mono ?_
      rintro e w2 ⟨rfl, hb2⟩
      have HB2 := Lib.hid hb2
      clear hb2
      go_wp2
      go_ret
      exact ⟨ret_n (linS_yes HP.out HC.out rfl).symm, HB.out.trans (HB2.out.mono HB.out.size)⟩
    | false =>
      have HNG := Lib.hid (goC_no HC.out rfl)
      go_enter Try.func39, Try.ntmps39
      go_wp2_with fail
      refine (pok_spec a len cap zs _ HS.out hm true ⟨fun _ => rfl, fun h => absurd HP.out h⟩).mono ?_
      rintro e w' ⟨rfl, rfl⟩
      go_wp2_with fail
      refine (HPR.out).mono ?_
      intro e w1 hpp
      obtain ⟨rfl, hb1⟩ := lperN hpp rfl
      have HB := Lib.hid hb1
      clear hpp hb1
      go_wp2_with fail
      refine (lls_spec [] 0 none 0 0 _ ⟨rfl, (fun z hz => by cases hz), fun h => by omega⟩ (by omega) (fun e he => by cases he) (by omega) (fun q h1 h2 => by omega)).mono ?_
      rintro e w2 ⟨rfl, hb2⟩
      have HB2 := Lib.hid hb2
      clear hb2
      go_wp2
      go_ret
      exact ⟨ret_n (linS_no HNG.out).symm, HB.out.trans (HB2.out.mono HB.out.size)⟩
  · have HP := Lib.hid hp
    have HNG : Hid (¬ GoC zs) := Lib.hid (fun h => hp h.1)
    have HNF : Hid (¬ FailC zs) := Lib.hid (fun h => hp h.1)
    clear hp
    go_enter Try.func39, Try.ntmps39
    go_wp2_with fail
    refine (pok_spec a len cap zs _ HS.out hm false ⟨fun h => absurd h HP.out, fun _ => rfl⟩).mono ?_
    rintro e w' ⟨rfl, rfl⟩
    go_wp2
    go_ret
    exact ⟨ret_n (linS_no HNG.out).symm, Below.refl _ _⟩
theorem lpe_spec (a : Option Addr) (len cap : Nat) (zs : List Int) (w : World) (h : IntsAt w a len zs) (hm0 : zs.length ≤ 1048576) :
    Calls Try.prog 41 #[.slice a len cap] w (IPost (perL zs) w) := by
  have HS := Lib.hid h
  have hm : len ≤ 1048576 := by have := h.1; omega
  clear h
  by_cases hp : PatC zs
  · obtain ⟨xs, es, t, g, C⟩ := crs_of hp
    have HC := Lib.hid C
    have HP := Lib.hid hp
    have HPR := Lib.hid (lper_spec a len cap zs xs es t g w HS.out hm hp C)
    have hone := C.one
    have hfew := C.few
    have htl := C.tle
    clear C hp
    cases g with
    | true =>
      have ht0 : 0 < t := by obtain ⟨s, _, h1, _⟩ := HC.out.fin; exact (h1 rfl).2
      have ht0' : ((t : Int) == 0) = false := by simp; omega
      go_enter Try.func41, Try.ntmps41
      go_wp2_with fail
      refine (pok_spec a len cap zs _ HS.out hm true ⟨fun _ => rfl, fun h => absurd HP.out h⟩).mono ?_
      rintro e w' ⟨rfl, rfl⟩
      go_wp2_with fail
      refine (HPR.out).mono ?_
      intro e w1 hpp
      obtain ⟨b, c, rfl, hown, hb1⟩ := lperY hpp rfl
      have HO := Lib.hid hown
      have HB := Lib.hid hb1
      have HI : Hid (IntsAt w1 b es.length (zsN es)) := Lib.hid (intsAt_own HO.out (zsN_int HC.out.mem))
      clear hpp hown hb1
      go_wp2_with fail
      refine (lls_spec es t b es.length c _ HI.out hfew HC.out.mem htl (HC.out.least rfl)).mono ?_
      rintro e w2 ⟨rfl, hb2⟩
      have HB2 := Lib.hid hb2
      clear hb2
      go_wp2
      go_ret
      exact ipost_some (perL_yes HP.out HC.out rfl) (zsN_len es) (own_below HO.out HB2.out) (HB.out.trans (HB2.out.mono HB.out.size))
    | false =>
      have HNG := Lib.hid (goC_no HC.out rfl)
      go_enter Try.func41, Try.ntmps41
      go_wp2_with fail
      refine (pok_spec a len cap zs _ HS.out hm true ⟨fun _ => rfl, fun h => absurd HP.out h⟩).mono ?_
      rintro e w' ⟨rfl, rfl⟩
      go_wp2_with fail
      refine (HPR.out).mono ?_
      intro e w1 hpp
      obtain ⟨rfl, hb1⟩ := lperN hpp rfl
      have HB := Lib.hid hb1
      clear hpp hb1
      go_wp2
      go_ret
      exact ipost_nought (perL_no HNG.out) HB.out
  · have HP := Lib.hid hp
    have HNG : Hid (¬ GoC zs) := Lib.hid (fun h => hp h.1)
    have HNF : Hid (¬ FailC zs) := Lib.hid (fun h => hp h.1)
    clear hp
    go_enter Try.func41, Try.ntmps41
    go_wp2_with fail
    refine (pok_spec a len cap zs _ HS.out hm false ⟨fun h => absurd h HP.out, fun _ => rfl⟩).mono ?_
    rintro e w' ⟨rfl, rfl⟩
    go_wp2
    go_ret
    exact ipost_nought (perL_no HNG.out) (Below.refl _ _)
theorem lft_spec (a : Option Addr) (len cap : Nat) (zs : List Int) (w : World) (h : IntsAt w a len zs) (hm0 : zs.length ≤ 1048576) :
    Calls Try.prog 48 #[.slice a len cap] w (fun e w' => e = .returned (.int .i64 (failN zs)) ∧ Below w.heap.size w w') := by
  have HS := Lib.hid h
  have hm : len ≤ 1048576 := by have := h.1; omega
  clear h
  by_cases hp : PatC zs
  · obtain ⟨xs, es, t, g, C⟩ := crs_of hp
    have HC := Lib.hid C
    have HP := Lib.hid hp
    have HPR := Lib.hid (lper_spec a len cap zs xs es t g w HS.out hm hp C)
    have hone := C.one
    have hfew := C.few
    have htl := C.tle
    clear C hp
    cases g with
    | true =>
      have ht0 : 0 < t := by obtain ⟨s, _, h1, _⟩ := HC.out.fin; exact (h1 rfl).2
      have ht0' : ((t : Int) == 0) = false := by simp; omega
      go_enter Try.func48, Try.ntmps48
      go_wp2_with fail
      refine (pok_spec a len cap zs _ HS.out hm true ⟨fun _ => rfl, fun h => absurd HP.out h⟩).mono ?_
      rintro e w' ⟨rfl, rfl⟩
      go_wp2_with fail
      refine (HPR.out).mono ?_
      intro e w1 hpp
      obtain ⟨b, c, rfl, hown, hb1⟩ := lperY hpp rfl
      have HO := Lib.hid hown
      have HB := Lib.hid hb1
      have HI : Hid (IntsAt w1 b es.length (zsN es)) := Lib.hid (intsAt_own HO.out (zsN_int HC.out.mem))
      clear hpp hown hb1
      go_wp2
      go_ret
      exact ⟨ret_n (failN_no (failC_no HC.out rfl)).symm, HB.out⟩
    | false =>
      have HNG := Lib.hid (goC_no HC.out rfl)
      go_enter Try.func48, Try.ntmps48
      go_wp2_with fail
      refine (pok_spec a len cap zs _ HS.out hm true ⟨fun _ => rfl, fun h => absurd HP.out h⟩).mono ?_
      rintro e w' ⟨rfl, rfl⟩
      go_wp2_with fail
      refine (HPR.out).mono ?_
      intro e w1 hpp
      obtain ⟨rfl, hb1⟩ := lperN hpp rfl
      have HB := Lib.hid hb1
      clear hpp hb1
      go_wp2
      go_ret
      exact ⟨ret_n (failN_yes HP.out HC.out rfl).symm, HB.out⟩
  · have HP := Lib.hid hp
    have HNG : Hid (¬ GoC zs) := Lib.hid (fun h => hp h.1)
    have HNF : Hid (¬ FailC zs) := Lib.hid (fun h => hp h.1)
    clear hp
    go_enter Try.func48, Try.ntmps48
    go_wp2_with fail
    refine (pok_spec a len cap zs _ HS.out hm false ⟨fun h => absurd h HP.out, fun _ => rfl⟩).mono ?_
    rintro e w' ⟨rfl, rfl⟩
    go_wp2
    go_ret
    exact ⟨ret_n (failN_no HNF.out).symm, Below.refl _ _⟩
theorem lbl_spec (a : Option Addr) (len cap : Nat) (zs : List Int) (w : World) (h : IntsAt w a len zs) (hm0 : zs.length ≤ 1048576) :
    Calls Try.prog 50 #[.slice a len cap] w (fun e w' => e = .returned (.int .i64 (linS zs)) ∧ Below w.heap.size w w') := by
  have HS := Lib.hid h
  have hm : len ≤ 1048576 := by have := h.1; omega
  clear h
  by_cases hp : PatC zs
  · obtain ⟨xs, es, t, g, C⟩ := crs_of hp
    have HC := Lib.hid C
    have HP := Lib.hid hp
    have HPR := Lib.hid (lper_spec a len cap zs xs es t g w HS.out hm hp C)
    have hone := C.one
    have hfew := C.few
    have htl := C.tle
    clear C hp
    cases g with
    | true =>
      have ht0 : 0 < t := by obtain ⟨s, _, h1, _⟩ := HC.out.fin; exact (h1 rfl).2
      have ht0' : ((t : Int) == 0) = false := by simp; omega
      go_enter Try.func50, Try.ntmps50
      go_wp2_with fail
      refine (pok_spec a len cap zs _ HS.out hm true ⟨fun _ => rfl, fun h => absurd HP.out h⟩).mono ?_
      rintro e w' ⟨rfl, rfl⟩
      go_wp2_with fail
      refine (HPR.out).mono ?_
      intro e w1 hpp
      obtain ⟨b, c, rfl, hown, hb1⟩ := lperY hpp rfl
      have HO := Lib.hid hown
      have HB := Lib.hid hb1
      have HI : Hid (IntsAt w1 b es.length (zsN es)) := Lib.hid (intsAt_own HO.out (zsN_int HC.out.mem))
      clear hpp hown hb1
      go_wp2
      go_ret
      exact ⟨ret_n (linS_yes HP.out HC.out rfl).symm, HB.out⟩
    | false =>
      have HNG := Lib.hid (goC_no HC.out rfl)
      go_enter Try.func50, Try.ntmps50
      go_wp2_with fail
      refine (pok_spec a len cap zs _ HS.out hm true ⟨fun _ => rfl, fun h => absurd HP.out h⟩).mono ?_
      rintro e w' ⟨rfl, rfl⟩
      go_wp2_with fail
      refine (HPR.out).mono ?_
      intro e w1 hpp
      obtain ⟨rfl, hb1⟩ := lperN hpp rfl
      have HB := Lib.hid hb1
      clear hpp hb1
      go_wp2
      go_ret
      exact ⟨ret_n (linS_no HNG.out).symm, HB.out⟩
  · have HP := Lib.hid hp
    have HNG : Hid (¬ GoC zs) := Lib.hid (fun h => hp h.1)
    have HNF : Hid (¬ FailC zs) := Lib.hid (fun h => hp h.1)
    clear hp
    go_enter Try.func50, Try.ntmps50
    go_wp2_with fail
    refine (pok_spec a len cap zs _ HS.out hm false ⟨fun h => absurd h HP.out, fun _ => rfl⟩).mono ?_
    rintro e w' ⟨rfl, rfl⟩
    go_wp2
    go_ret
    exact ⟨ret_n (linS_no HNG.out).symm, Below.refl _ _⟩
end Go.Proofs.Ytldpikcgeijkpaa.Rhy
