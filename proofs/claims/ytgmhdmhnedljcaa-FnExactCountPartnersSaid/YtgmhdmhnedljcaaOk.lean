/-
  Helpers of the claims beside this text: when a rhythm is valid, and that the model's and the program's test say so.
-/
import Derived.Test.YtgmhdmhnedljcaaRhythm
namespace Go.Proofs.Ytgmhdmhnedljcaa.Rhy
open Go.RowKit
set_option linter.unusedVariables false

/-- The beat at place j is in range and behind the one ahead of it. -/
def Fit (s : Int) (zs : List Int) (j : Nat) : Prop := ∀ z, zs[j]? = some z → 0 ≤ z ∧ z < s ∧ ∀ y, 0 < j → zs[j - 1]? = some y → y < z
/-- A valid rhythm. -/
def Ok (s : Int) (zs : List Int) : Prop := (1 ≤ s ∧ s ≤ 24) ∧ ∀ j, j < zs.length → Fit s zs j
/-- The beat ahead of place k, or -1. -/
def LastIs (zs : List Int) (k : Nat) (L : Int) : Prop := (k = 0 ∧ L = -1) ∨ (0 < k ∧ zs[k - 1]? = some L)

theorem valid_yes (s : Int) (a : Option Addr) (len cap : Nat) (zs : List Int) (w : World) (h : IntsAt w a len zs) (hm : len ≤ 1048576) (ho : Ok s zs) :
    Calls Try.prog 29 #[rhy s a len cap] w fun e w' => e = .returned (.bool true) ∧ Below w.heap.size w w' := by
  obtain ⟨⟨h1, h2⟩, hg⟩ := ho
  have HS := Lib.hid h
  have HG := Lib.hid hg
  clear h hg
  have hgt : decide (24 < s) = false := by simp; omega
  have hlt : decide (s < 1) = false := by simp; omega
  go_enter Try.func29, Try.ntmps29
  go_wp2
  go_loop [3, 17] (fun l i => ∃ (k : Nat) (L : Int), k ≤ len ∧ i = .int .i64 k ∧ l = .int .i64 L ∧ Hid (LastIs zs k L)) (fun _ i => len - (intOf i).toNat)
  case atStart => exact ⟨0, -1, by omega, rfl, rfl, Lib.hid (.inl ⟨rfl, rfl⟩)⟩
  case round =>
    obtain ⟨k, L, hk, rfl, rfl, HL⟩ := hrel
    by_cases hlt : k < len
    · obtain ⟨b, off, z, rfl, hb, hs, hc, hz1, hz2⟩ := HS.out.at hlt
      have hf := HG.out k (by rw [HS.out.1]; exact hlt) z hs
      have hz0 : 0 ≤ z := hf.1
      have hzs : z < s := hf.2.1
      have hL : L < z := by
        rcases HL.out with ⟨_, rfl⟩ | ⟨hp, hq⟩
        · omega
        · exact hf.2.2 L hp hq
      have HN : Hid (LastIs zs (k + 1) z) := Lib.hid (.inr ⟨by omega, by simpa using hs⟩)
      clear hf hs
      have hle : decide (z ≤ L) = false := by simp; omega
      have hge : decide (s ≤ z) = false := by simp; omega
      go_wp2
      go_round
      case rel => exact ⟨k + 1, z, by omega, by go_num, rfl, HN⟩
      case measure => simp [intOf]; omega
    · go_wp2
      go_ret
      exact ⟨rfl, bel1 w _⟩

theorem last_lo {s : Int} {zs : List Int} {k : Nat} {L : Int} (hl : LastIs zs k L) (hg : ∀ j, j < k → Fit s zs j) : -1 ≤ L := by
  rcases hl with ⟨_, rfl⟩ | ⟨hp, hq⟩
  · omega
  · have := (hg (k - 1) (by omega) L hq).1
    omega
theorem fit_of {s : Int} {zs : List Int} {k : Nat} {L z : Int} (hl : LastIs zs k L) (hg : ∀ j, j < k → Fit s zs j) (hs : zs[k]? = some z) (h1 : L < z) (h2 : z < s) : Fit s zs k := by
  have hlo := last_lo hl hg
  intro z' hz'
  rw [hs] at hz'
  obtain rfl := Option.some.inj hz'
  refine ⟨by omega, h2, fun y hp hy => ?_⟩
  rcases hl with ⟨rfl, _⟩ | ⟨_, hq⟩
  · omega
  · rw [hq] at hy
    obtain rfl := Option.some.inj hy
    exact h1
theorem fit_snoc {s : Int} {zs : List Int} {k : Nat} (hg : ∀ j, j < k → Fit s zs j) (hf : Fit s zs k) : ∀ j, j < k + 1 → Fit s zs j := by
  intro j hj
  by_cases e : j = k
  · subst e; exact hf
  · exact hg j (by omega)

theorem valid_no (s : Int) (a : Option Addr) (len cap : Nat) (zs : List Int) (w : World) (h : IntsAt w a len zs) (hm : len ≤ 1048576) (ho : ¬ Ok s zs) :
    Calls Try.prog 29 #[rhy s a len cap] w fun e w' => e = .returned (.bool false) ∧ Below w.heap.size w w' := by
  have HS := Lib.hid h
  clear h
  by_cases hr : 1 ≤ s ∧ s ≤ 24
  · have HN := Lib.hid ho
    obtain ⟨h1, h2⟩ := hr
    clear ho
    have hgt : decide (24 < s) = false := by simp; omega
    have hlt : decide (s < 1) = false := by simp; omega
    go_enter Try.func29, Try.ntmps29
    go_wp2
    go_loop [3, 17] (fun l i => ∃ (k : Nat) (L : Int), k ≤ len ∧ i = .int .i64 k ∧ l = .int .i64 L ∧ Hid (LastIs zs k L) ∧ Hid (∀ j, j < k → Fit s zs j)) (fun _ i => len - (intOf i).toNat)
    case atStart => exact ⟨0, -1, by omega, rfl, rfl, Lib.hid (.inl ⟨rfl, rfl⟩), Lib.hid (fun j hj => by omega)⟩
    case round =>
      obtain ⟨k, L, hk, rfl, rfl, HL, HG⟩ := hrel
      by_cases hlt : k < len
      · obtain ⟨b, off, z, rfl, hb, hs, hc, hz1, hz2⟩ := HS.out.at hlt
        by_cases hL : L < z
        · have hle : decide (z ≤ L) = false := by simp; omega
          by_cases hzs : z < s
          · have hge : decide (s ≤ z) = false := by simp; omega
            have HN : Hid (LastIs zs (k + 1) z) := Lib.hid (.inr ⟨by omega, by simpa using hs⟩)
            have HF := Lib.hid (fit_snoc HG.out (fit_of HL.out HG.out hs hL hzs))
            clear hs
            go_wp2
            go_round
            case rel => exact ⟨k + 1, z, by omega, by go_num, rfl, HN, HF⟩
            case measure => simp [intOf]; omega
          · have hge : decide (s ≤ z) = true := by simp; omega
            clear hs
            go_wp2
            go_ret
            exact ⟨rfl, bel1 w _⟩
        · have hle : decide (z ≤ L) = true := by simp; omega
          clear hs
          go_wp2
          go_ret
          exact ⟨rfl, bel1 w _⟩
      · exact absurd ⟨⟨h1, h2⟩, fun j hj => HG.out j (by have := HS.out.1; omega)⟩ HN.out
  · clear ho
    by_cases h1 : s < 1
    · go_enter Try.func29, Try.ntmps29
      go_wp2
      go_ret
      exact ⟨rfl, bel1 w _⟩
    · have h2 : 24 < s := by omega
      clear hr
      go_enter Try.func29, Try.ntmps29
      go_wp2
      go_ret
      exact ⟨rfl, bel1 w _⟩

theorem in_yes (n a b : Int) (w : World) (h1 : a ≤ n) (h2 : n ≤ b) :
    Calls Try.prog 30 #[.int .i64 n, .int .i64 a, .int .i64 b] w fun e w' => e = .returned (.bool true) ∧ w = w' := by
  go_enter Try.func30, Try.ntmps30
  go_wp2
  go_ret
  exact ⟨rfl, rfl⟩
theorem in_no (n a b : Int) (w : World) (h : ¬ (a ≤ n ∧ n ≤ b)) :
    Calls Try.prog 30 #[.int .i64 n, .int .i64 a, .int .i64 b] w fun e w' => e = .returned (.bool false) ∧ w = w' := by
  by_cases h1 : a ≤ n
  · have h2 : decide (n ≤ b) = false := by simp; omega
    clear h
    go_enter Try.func30, Try.ntmps30
    go_wp2
    go_ret
    exact ⟨rfl, rfl⟩
  · clear h
    go_enter Try.func30, Try.ntmps30
    go_wp2
    go_ret
    exact ⟨rfl, rfl⟩

theorem ok_yes (s : Int) (a : Option Addr) (len cap : Nat) (zs : List Int) (w : World) (h : IntsAt w a len zs) (hm : len ≤ 1048576) (ho : Ok s zs) :
    Calls Try.prog 21 #[rhy s a len cap] w fun e w' => e = .returned (.bool true) ∧ Below w.heap.size w w' := by
  obtain ⟨⟨h1, h2⟩, hg⟩ := ho
  have HS := Lib.hid h
  have HG := Lib.hid hg
  clear h hg
  go_enter Try.func21, Try.ntmps21
  go_wp2_with (go_at_call 30; refine (in_yes _ _ _ _ (by omega) (by omega)).mono ?_; rintro e w' ⟨rfl, rfl⟩)
  go_loop [12] (fun i => ∃ (k : Nat), k ≤ len ∧ i = .int .i64 k) (fun i => len - (intOf i).toNat)
  case atStart => exact ⟨0, by omega, rfl⟩
  case round =>
    obtain ⟨k, hk, rfl⟩ := hrel
    by_cases hlt : k < len
    · obtain ⟨b, off, z, rfl, hb, hs, hc, hz1, hz2⟩ := HS.out.at hlt
      have hf := HG.out k (by rw [HS.out.1]; exact hlt) z hs
      have hz0 : 0 ≤ z := hf.1
      have hzs : z ≤ s - 1 := by have := hf.2.1; omega
      by_cases h0 : 0 < k
      · obtain ⟨b', off', y, he, hb', hs', hc', hy1, hy2⟩ := HS.out.at (k := k - 1) (by omega)
        obtain ⟨rfl, rfl⟩ : b = b' ∧ off = off' := by simpa using he
        have hy : y < z := hf.2.2 y h0 hs'
        have hle : decide (z ≤ y) = false := by simp; omega
        have hi : ((k : Int) - 1) = ((k - 1 : Nat) : Int) := by omega
        clear hf hs hs' he hb'
        go_wp2_with (go_at_call 30; refine (in_yes _ _ _ _ (by omega) (by omega)).mono ?_; rintro e w' ⟨rfl, rfl⟩)
        go_round
        case rel => exact ⟨k + 1, by omega, by go_num⟩
        case measure => simp [intOf]; omega
      · have e0 : k = 0 := by omega
        subst e0
        rw [Nat.add_zero] at hc
        clear hf hs
        go_wp2_with (go_at_call 30; refine (in_yes _ _ _ _ (by omega) (by omega)).mono ?_; rintro e w' ⟨rfl, rfl⟩)
        go_round
        case rel => exact ⟨1, by omega, by go_num⟩
        case measure => simp [intOf]; omega
    · go_wp2
      go_ret
      exact ⟨rfl, bel1 w _⟩

theorem ok_no (s : Int) (a : Option Addr) (len cap : Nat) (zs : List Int) (w : World) (h : IntsAt w a len zs) (hm : len ≤ 1048576) (ho : ¬ Ok s zs) :
    Calls Try.prog 21 #[rhy s a len cap] w fun e w' => e = .returned (.bool false) ∧ Below w.heap.size w w' := by
  have HS := Lib.hid h
  clear h
  by_cases hr : 1 ≤ s ∧ s ≤ 24
  · have HN := Lib.hid ho
    obtain ⟨h1, h2⟩ := hr
    clear ho
    go_enter Try.func21, Try.ntmps21
    go_wp2_with (go_at_call 30; refine (in_yes _ _ _ _ (by omega) (by omega)).mono ?_; rintro e w' ⟨rfl, rfl⟩)
    go_loop [12] (fun i => ∃ (k : Nat), k ≤ len ∧ i = .int .i64 k ∧ Hid (∀ j, j < k → Fit s zs j)) (fun i => len - (intOf i).toNat)
    case atStart => exact ⟨0, by omega, rfl, Lib.hid (fun j hj => by omega)⟩
    case round =>
      obtain ⟨k, hk, rfl, HG⟩ := hrel
      by_cases hlt : k < len
      · obtain ⟨b, off, z, rfl, hb, hs, hc, hz1, hz2⟩ := HS.out.at hlt
        by_cases hin : 0 ≤ z ∧ z ≤ s - 1
        · by_cases h0 : 0 < k
          · obtain ⟨b', off', y, he, hb', hs', hc', hy1, hy2⟩ := HS.out.at (k := k - 1) (by omega)
            obtain ⟨rfl, rfl⟩ : b = b' ∧ off = off' := by simpa using he
            have hi : ((k : Int) - 1) = ((k - 1 : Nat) : Int) := by omega
            obtain ⟨hi1, hi2⟩ := hin
            by_cases hy : y < z
            · have hle : decide (z ≤ y) = false := by simp; omega
              have HF := Lib.hid (fit_snoc HG.out (fit_of (.inr ⟨h0, hs'⟩) HG.out hs hy (by omega)))
              clear hs hs' he hb'
              go_wp2_with (go_at_call 30; refine (in_yes _ _ _ _ (by omega) (by omega)).mono ?_; rintro e w' ⟨rfl, rfl⟩)
              go_round
              case rel => exact ⟨k + 1, by omega, by go_num, HF⟩
              case measure => simp [intOf]; omega
            · have hle : decide (z ≤ y) = true := by simp; omega
              clear hs hs' he hb'
              go_wp2_with (go_at_call 30; refine (in_yes _ _ _ _ (by omega) (by omega)).mono ?_; rintro e w' ⟨rfl, rfl⟩)
              go_ret
              exact ⟨rfl, bel1 w _⟩
          · have e0 : k = 0 := by omega
            subst e0
            rw [Nat.add_zero] at hc
            have HF := Lib.hid (fit_snoc HG.out (fit_of (.inl ⟨rfl, rfl⟩) HG.out hs (by omega) (by omega)))
            obtain ⟨hi1, hi2⟩ := hin
            clear hs
            go_wp2_with (go_at_call 30; refine (in_yes _ _ _ _ (by omega) (by omega)).mono ?_; rintro e w' ⟨rfl, rfl⟩)
            go_round
            case rel => exact ⟨1, by omega, by go_num, HF⟩
            case measure => simp [intOf]; omega
        · have HI := Lib.hid hin
          clear hin hs
          go_wp2_with (go_at_call 30; refine (in_no _ _ _ _ HI.out).mono ?_; rintro e w' ⟨rfl, rfl⟩)
          go_ret
          exact ⟨rfl, bel1 w _⟩
      · exact absurd ⟨⟨h1, h2⟩, fun j hj => HG.out j (by have := HS.out.1; omega)⟩ HN.out
  · have HR := Lib.hid hr
    clear ho hr
    go_enter Try.func21, Try.ntmps21
    go_wp2_with (go_at_call 30; refine (in_no _ _ _ _ HR.out).mono ?_; rintro e w' ⟨rfl, rfl⟩)
    go_ret
    exact ⟨rfl, bel1 w _⟩
end Go.Proofs.Ytgmhdmhnedljcaa.Rhy
