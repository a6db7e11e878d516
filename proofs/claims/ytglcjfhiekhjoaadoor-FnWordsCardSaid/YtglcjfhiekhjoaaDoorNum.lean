/-
  Helpers of the claims beside this text: decimal texts, their values, and what the library's parse makes of them. Plain mathematics, no program.
-/
import Derived.Lib.AtoiAll
import Derived.Lib.AtoiAllCases
import Derived.Lib.ItoaNum
namespace Go.Proofs.YtglcjfhiekhjoaaDoor
open Go

def valF (acc : Nat) (l : List UInt8) : Nat := l.foldl (fun a c => a * 10 + (c.toNat - 48)) acc
def AllD (l : List UInt8) : Prop := ∀ c ∈ l, 48 ≤ c.toNat ∧ c.toNat ≤ 57

theorem valF_append (acc : Nat) (a b : List UInt8) : valF acc (a ++ b) = valF (valF acc a) b := by simp [valF, List.foldl_append]
theorem valF_ge : ∀ (l : List UInt8) (acc : Nat), acc ≤ valF acc l
  | [], _ => Nat.le_refl _
  | c :: r, acc => by
    have := valF_ge r (acc * 10 + (c.toNat - 48))
    show acc ≤ valF (acc * 10 + (c.toNat - 48)) r
    omega
theorem valF_take (l : List UInt8) (k : Nat) : valF 0 (l.take k) ≤ valF 0 l := by
  conv => rhs; rw [← List.take_append_drop k l, valF_append]
  exact valF_ge _ _
theorem valF_snoc (l : List UInt8) (k : Nat) (c : UInt8) (h : l[k]? = some c) : valF 0 (l.take (k + 1)) = valF 0 (l.take k) * 10 + (c.toNat - 48) := by
  rw [List.take_add_one, h, Option.toList_some, valF_append]
  rfl

theorem dec_one (u : Nat) (h : u < 10) : Lib.decDigits u = [UInt8.ofNat (48 + u)] := by rw [Lib.decDigits, dif_pos h]
theorem dec_more (u : Nat) (h : 10 ≤ u) : Lib.decDigits u = Lib.decDigits (u / 10) ++ [UInt8.ofNat (48 + u % 10)] := by rw [Lib.decDigits, dif_neg (by omega)]
theorem byte_of (k : Nat) (h : k < 10) : (UInt8.ofNat (48 + k)).toNat = 48 + k := by
  rw [UInt8.toNat_ofNat']
  omega
theorem dec_all (k : Nat) : ∀ u, u ≤ k → AllD (Lib.decDigits u) := by
  induction k with
  | zero =>
    intro u hu c hc
    rw [dec_one u (by omega)] at hc
    simp only [List.mem_singleton] at hc
    rw [hc, byte_of u (by omega)]
    omega
  | succ k ih =>
    intro u hu
    by_cases h : u < 10
    · intro c hc
      rw [dec_one u h] at hc
      simp only [List.mem_singleton] at hc
      rw [hc, byte_of u h]
      omega
    · intro c hc
      rw [dec_more u (by omega), List.mem_append] at hc
      rcases hc with hc | hc
      · exact ih (u / 10) (by omega) c hc
      · simp only [List.mem_singleton] at hc
        rw [hc, byte_of _ (by omega)]
        omega
theorem dec_val (k : Nat) : ∀ u, u ≤ k → valF 0 (Lib.decDigits u) = u := by
  induction k with
  | zero =>
    intro u hu
    rw [dec_one u (by omega)]
    show 0 * 10 + ((UInt8.ofNat (48 + u)).toNat - 48) = u
    rw [byte_of u (by omega)]
    omega
  | succ k ih =>
    intro u hu
    by_cases h : u < 10
    · rw [dec_one u h]
      show 0 * 10 + ((UInt8.ofNat (48 + u)).toNat - 48) = u
      rw [byte_of u h]
      omega
    · rw [dec_more u (by omega), valF_append, ih (u / 10) (by omega)]
      show u / 10 * 10 + ((UInt8.ofNat (48 + u % 10)).toNat - 48) = u
      rw [byte_of _ (by omega)]
      omega
theorem dec_ne (u : Nat) : Lib.decDigits u ≠ [] := by
  by_cases h : u < 10
  · rw [dec_one u h]; simp
  · rw [dec_more u (by omega)]; simp
theorem dec_short (k : Nat) : ∀ u, u < 10 ^ (k + 1) → (Lib.decDigits u).length ≤ k + 1 := by
  induction k with
  | zero => intro u h; rw [dec_one u (by simpa using h)]; simp
  | succ k ih =>
    intro u h
    by_cases hs : u < 10
    · rw [dec_one u hs]; simp
    · rw [dec_more u (by omega), List.length_append]
      have := ih (u / 10) (by rw [Nat.pow_succ] at h; omega)
      simp
      omega

theorem parse_ok : ∀ (l : List UInt8) (acc : Nat), AllD l → valF acc l < 18446744073709551616 → Lib.parseUint10 acc l = .ok (valF acc l)
  | [], acc, _, _ => rfl
  | c :: r, acc, hd, hv => by
    have hc := hd c (by simp)
    have hv' : valF (acc * 10 + (c.toNat - 48)) r < 18446744073709551616 := hv
    have hge := valF_ge r (acc * 10 + (c.toNat - 48))
    rw [Lib.parseUint10, if_pos hc, if_neg (by omega), if_neg (by omega)]
    exact parse_ok r _ (fun x hx => hd x (by simp [hx])) hv'

theorem mag_dec (u : Nat) (h : u < 18446744073709551616) : Lib.parseMag (Lib.decDigits u) = .ok u := by
  unfold Lib.parseMag
  rw [if_neg (dec_ne u)]
  have hv := dec_val u u (Nat.le_refl u)
  rw [parse_ok _ 0 (dec_all u u (Nat.le_refl u)) (by omega), hv]

/-- The library's parse takes every decimal text back. -/
theorem atoi_itoa (v : Int) (h1 : -9223372036854775808 ≤ v) (h2 : v ≤ 9223372036854775807) : Lib.atoiAll (Lib.itoa v) = .ok v := by
  unfold Lib.itoa
  by_cases hn : v < 0
  · rw [if_pos hn, Lib.atoiAll_minus, mag_dec _ (by omega)]
    simp only [Lib.signed]
    rw [if_neg (by omega)]
    congr 1
    omega
  · rw [if_neg hn]
    have hm := mag_dec v.toNat (by omega)
    have ha := dec_all v.toNat v.toNat (Nat.le_refl _)
    cases hd : Lib.decDigits v.toNat with
    | nil => exact absurd hd (dec_ne _)
    | cons c r =>
      rw [hd] at hm ha
      have hc := ha c (by simp)
      rw [Lib.atoiAll_plain c r (by omega) (by omega), hm]
      simp only [Lib.signless]
      rw [if_neg (by omega)]
      congr 1
      omega
theorem itoa_inj (v v' : Int) (h1 : -9223372036854775808 ≤ v) (h2 : v ≤ 9223372036854775807) (h3 : -9223372036854775808 ≤ v') (h4 : v' ≤ 9223372036854775807) (h : Lib.itoa v = Lib.itoa v') : v = v' := by
  have := atoi_itoa v h1 h2
  rw [h, atoi_itoa v' h3 h4] at this
  injection this with this
  exact this.symm
end Go.Proofs.YtglcjfhiekhjoaaDoor
