/-
  The law on words holds of the program: at every code, an integer is recovered from its text and a string from its parts. The card is tied: that the tables and errors of the library's which it lists hold what their initialisers lay is the program's own text; that nothing else writes them is the translator's report.
-/
import Derived.Test.YtglcjfhiekhjoaaDoorCur
import Derived.Test.YtglcjfhiekhjoaaDoorUtil
import Derived.Test.YtglcjfhiekhjoaaDoorParse
import Derived.Test.YtglcjfhiekhjoaaDoorFormat
import Derived.Test.YtglcjfhiekhjoaaDoorNum
import Derived.Test.YtglcjfhiekhjoaaDoorRows
import Derived.Test.YtglcjfhiekhjoaaDoorCards
import Derived.Test.YtglcjfhiekhjoaaDoorTie
import Derived.WalkKit
import Derived.WalkSpells
import Derived.WalkLawsBesides
import Derived.WalkSmall
import Derived.ProofKit
import Derived.LaidMore
import Derived.OpenShut
import Derived.ShutString
import Derived.Stop.Joined
import Derived.LaidSub
import Derived.SevenTiedAt
import Derived.Lib.Strings
import Derived.Lib.Join
import Derived.Lib.Hide
namespace Go.Proofs.YtglcjfhiekhjoaaDoor.fnWords
open Go.ChangeShapes Go.WideShapes Go.ChangeAt Go.RowKit
open Go.ChangeMaps (open_string shut_string)
open Go.Proofs.YtglcjfhiekhjoaaDoor.Cur Go.Proofs.YtglcjfhiekhjoaaDoor.Util
set_option linter.unusedVariables false

theorem own : ownKnob Tryd.prog.godebug = none := by kernel_rfl
theorem laidOut : laidOutB Tryd.prog = true := by kernel_rfl
theorem fact_of {W : World} (h : laidMet Tryd.prog Rows.fnWordsRow.laid W) : Facts W := facts_of h

/-! ### a string is its parts, joined -/
theorem join_cons2 (y z : List UInt8) (r : List (List UInt8)) (sep : List UInt8) : Lib.join (y :: z :: r) sep = y ++ sep ++ Lib.join (z :: r) sep := by
  rw [Lib.join_cons, Lib.join_cons]
  simp [Lib.joinTail]
theorem join_flat (sep x : List UInt8) : ∀ l : List (List UInt8), Lib.join (l ++ [x]) sep = (l.map (· ++ sep)).flatten ++ x
  | [] => by simp [Lib.join_one]
  | [y] => by
    show Lib.join [y, x] sep = _
    rw [join_cons2, Lib.join_one]
    simp
  | y :: z :: r => by
    have ih := join_flat sep x (z :: r)
    show Lib.join (y :: z :: (r ++ [x])) sep = _
    rw [join_cons2]
    have e : z :: (r ++ [x]) = (z :: r) ++ [x] := rfl
    rw [e, ih]
    simp
theorem flat_tot (sep : List UInt8) : ∀ l : List ByteArray, tot l ≤ ((l.map (·.data.toList)).map (· ++ sep)).flatten.length
  | [] => by simp [tot]
  | y :: r => by
    have ih := flat_tot sep r
    have e : y.data.toList.length = y.size := rfl
    simp only [tot, List.map_cons, List.sum_cons, List.flatten_cons, List.length_append] at ih ⊢
    omega

def sp : ByteArray := ⟨#[32]⟩
theorem among_sp (c : UInt8) (h : among sp c = true) : c = 32 := by
  unfold among at h
  rw [show sp.data.toList = [32] from rfl] at h
  simpa using h

theorem cut_whole (s : ByteArray) : ∀ k, k ≤ s.size → (((cut s (among sp) k).1.map (·.data.toList)).map (· ++ [32])).flatten ++ (s.data.toList.take k).drop (cut s (among sp) k).2 = s.data.toList.take k
  | 0, _ => by simp [cut]
  | k + 1, hk => by
    have ih := cut_whole s k (by omega)
    have hle := (cut_len s (among sp) k).2
    have hlen : s.data.toList.length = s.size := rfl
    have hs : s.data.toList.take (k + 1) = s.data.toList.take k ++ [s[k]] := by
      rw [List.take_add_one, List.getElem?_eq_getElem (by rw [hlen]; omega)]
      rfl
    by_cases hp : among sp s[k] = true
    · rw [cut_hit s (among sp) k (by omega) hp]
      have hc := among_sp _ hp
      have hx : (s.extract (cut s (among sp) k).2 k).data.toList = (s.data.toList.take k).drop (cut s (among sp) k).2 := by
        rw [Lib.extract_data, List.drop_take]
      rw [List.map_append, List.map_append, List.flatten_append, List.drop_of_length_le (by rw [List.length_take]; omega), List.append_nil]
      simp only [List.map_cons, List.map_nil, List.flatten_cons, List.flatten_nil, List.append_nil]
      rw [hx, ← List.append_assoc, ih, hs, hc]
    · have hp' : among sp s[k] = false := by simpa using hp
      rw [cut_miss s (among sp) k (by omega) hp', hs, List.drop_append_of_le_length (by rw [List.length_take, hlen]; omega), ← List.append_assoc, ih]

theorem parts_whole (s : ByteArray) : joined (parts s (among sp)) sp = s.data.toList := by
  have h := cut_whole s s.size (Nat.le_refl _)
  have hlen : s.data.toList.length = s.size := rfl
  unfold joined parts
  rw [List.map_append, List.map_cons, List.map_nil, show sp.data.toList = [32] from rfl, join_flat, Lib.extract_data]
  rw [List.take_of_length_le (by rw [hlen]; exact Nat.le_refl _)] at h
  rw [List.take_of_length_le (by rw [List.length_drop, hlen]; exact Nat.le_refl _)]
  exact h
theorem parts_tot (s : ByteArray) : tot (parts s (among sp)) ≤ s.size := by
  have h := parts_whole s
  have hlen : s.data.toList.length = s.size := rfl
  rw [← hlen, ← h]
  unfold joined parts
  rw [List.map_append, List.map_cons, List.map_nil, show sp.data.toList = [32] from rfl, join_flat, List.length_append]
  have h1 := flat_tot [32] (cut s (among sp) s.size).1
  have h2 : tot ((cut s (among sp) s.size).1 ++ [s.extract (cut s (among sp) s.size).2 s.size]) = tot (cut s (among sp) s.size).1 + (s.extract (cut s (among sp) s.size).2 s.size).size := by simp [tot]
  have h3 : ∀ x : ByteArray, x.data.toList.length = x.size := fun _ => rfl
  rw [h2, h3]
  omega

def x1 : ByteArray := ⟨#[120, 49]⟩
theorem name_x1 : nameB x1 = true := by
  refine name_yes x1 (by decide) (by decide) fun i hi _ => ?_
  have : i = 0 ∨ i = 1 := by
    have h2 : x1.size = 2 := rfl
    omega
  rcases this with rfl | rfl
  · have e : x1[0].toNat = 120 := rfl
    exact .inl ⟨by rw [e]; omega, by rw [e]; omega⟩
  · have e : x1[1].toNat = 49 := rfl
    exact .inr ⟨by omega, by rw [e]; omega, by rw [e]; omega⟩
def ab : ByteArray := ⟨#[97, 10, 98, 10]⟩
theorem lines_ab : (lines ab).length = 2 := by decide +kernel

def Opened (w : World) (a : Option Addr) (len : Nat) (_ : Unit) : Prop := len ≤ 1048576 → BytesAt w.heap.size w a len

theorem walk (a : Option Addr) (len cap : Nat) (u : Unit) (w : World) (w0 : Opened w a len u) (hL : Facts w) :
    Calls Tryd.prog 3 #[.slice a len cap] w fun e w' => e = .returned (.bool true) ∧ Below w.heap.size w w' := by
  have HL := Lib.hid hL
  clear hL
  by_cases hl : 1048576 < len
  · go_enter Tryd.func3, Tryd.ntmps3
    go_wp2
    go_ret
    exact ⟨rfl, Below.refl _ _⟩
  · have hbt := w0 (by omega)
    have HBT := Lib.hid hbt
    clear w0 hbt
    go_enter Tryd.func3, Tryd.ntmps3
    go_wp2_with fail
    refine (num_any a len cap 1 w HBT.out (by omega)).mono ?_
    rintro e w1 ⟨n, rfl, hn0, hn1, hb1⟩
    have HB1 := Lib.hid hb1
    clear hb1
    go_wp2_with fail
    refine (program_format (n - 30000) w1 (by omega) (by omega) (HL.out.below HB1.out).pow).mono ?_
    rintro e w2 ⟨rfl, hb2⟩
    have HB2 := Lib.hid (HB1.out.trans (hb2.mono HB1.out.size))
    clear hb2
    go_wp2_with fail
    have hts := text_size (n - 30000) (by omega) (by omega)
    refine (program_parse (text (n - 30000)) w2 (by omega) (HL.out.below HB2.out)).mono ?_
    rintro e w3 ⟨hE, hb3⟩
    have HB3 := Lib.hid (HB2.out.trans (hb3.mono HB2.out.size))
    clear hb3 hts
    rcases hE with ⟨v, hv, ht, rfl⟩ | ⟨hno, rfl⟩
    · have hvn : v = n - 30000 := itoa_inj v (n - 30000) hv.1 hv.2 (by omega) (by omega) (by rw [text_bytes v _ ht]; rfl)
      subst hvn
      clear hv ht
      go_wp2_with fail
      refine (text_any a len cap w3 ⟨HBT.out.1, fun hp => by
        obtain ⟨b, off, h1, h2, h3⟩ := (HBT.out.below HB3.out).2 hp
        exact ⟨b, off, h1, Nat.lt_of_lt_of_le h2 HB3.out.size, h3⟩⟩).mono ?_
      rintro e w4 ⟨s, rfl, hs, hb4⟩
      have HB4 := Lib.hid (HB3.out.trans (hb4.mono HB3.out.size))
      clear hb4
      have hq : ((n - 30000 : Int) == n - 30000) = true := by simp
      go_wp2_with fail
      refine (split_any s sp w4 (by omega) (by decide)).mono ?_
      rintro e w5 ⟨p, rfl, hown, hb5⟩
      have HB5 := Lib.hid (HB4.out.trans (hb5.mono HB4.out.size))
      have hlen := parts_len s (among sp)
      have htot := parts_tot s
      have hwhole := parts_whole s
      obtain ⟨_, pa, pc, rfl, _⟩ := own_shape hown
      have HC := Lib.hid (join_any pa _ pc _ sp w5 (strsAt_own hown) (own_cap hown) (by omega) (by omega) (by decide))
      rw [hwhole] at HC
      clear hb5 hown hlen htot hwhole
      go_wp2_with fail
      refine HC.out.mono ?_
      rintro e w6 ⟨rfl, hb6⟩
      have HB6 := Lib.hid (HB5.out.trans (hb6.mono HB5.out.size))
      clear hb6
      have hss : (str s.data.toList) = s := rfl
      rw [hss]
      have heq : (s.toList == s.toList) = true := by simp
      go_wp2_with fail
      refine (is_name x1 w6 (by decide)).mono ?_
      rintro e w7 ⟨rfl, hI⟩
      have HB7 := Lib.hid (HB6.out.trans ((below_iter hI).mono HB6.out.size))
      clear hI
      rw [name_x1]
      go_wp2_with fail
      refine (split_lines ab w7 (by decide)).mono ?_
      rintro e w8 ⟨p2, rfl, hown2, hb8⟩
      have HB8 := Lib.hid (HB7.out.trans (hb8.mono HB7.out.size))
      rw [lines_ab] at hown2
      obtain ⟨_, pa2, pc2, rfl, _⟩ := own_shape hown2
      clear hown2 hb8
      go_wp2
      go_ret
      exact ⟨rfl, HB8.out⟩
    · exact absurd rfl (hno (n - 30000) ⟨by omega, by omega⟩)

theorem opened {W : World} {H : Type} {enc : TypeId × Value → H} {a : Option Addr} {len cap : Nat} {fuel : Nat} {x : DataW H × List MemPlace}
    (hf : DataW.trod enc Tryd.prog W 0 (fun _ => true) true fuel 22 (Value.cells (.slice a len cap)).toList = some x) :
    ∃ u, Opened W a len u := by
  refine ⟨(), fun hl => ⟨hl, fun hp => ?_⟩⟩
  rcases open_ints Tryd.underlying22 Tryd.underlying5 (by kernel_rfl) hf with ⟨hcs, _⟩ | ⟨x, l, c, zs, hcs, _, hl2, hm, hz, _, hcell, hwz⟩
  · simp [Value.cells] at hcs
    omega
  · simp [Value.cells] at hcs
    obtain ⟨rfl, rfl, rfl⟩ := hcs
    have hz' : zs.length = cap := by simpa using hz
    obtain ⟨b, off, rfl, hc⟩ := ints_at hcell (by omega)
    refine ⟨b, off, rfl, ?_, fun j hj => ?_⟩
    · exact block_lt_of_cell (hc 0 (by omega))
    · refine ⟨zs.getD j 0, hc j (by omega), ?_⟩
      have hmem : zs.getD j 0 ∈ zs := by
        rw [List.getD, List.getElem?_eq_getElem (by omega)]
        exact List.getElem_mem _
      exact bounds_u8 (hwz _ hmem)

theorem door_met (os : Os) (args : Array Value) : laidMetH Tryd.prog Rows.fnWordsRow.laid ((World.doorLaid Tryd.prog 62 os).forCall (fun _ _ => 0) ⟨#[], args, []⟩).memory :=
  laidMetH_of_parts3 (fuel := 8) (laidMet_of_run' 8 (by kernel_rfl) (by kernel_rfl)) (by kernel_rfl) (by kernel_rfl)

set_option maxRecDepth 100000 in
theorem lifted (os : Os) (started : os.Started) (H : Type) (enc : TypeId × Value → H) :
    ReturnsInHanded {} Tryd.checked os 3 .any (fun w args => (Rows.fnWordsSpec.pre enc Tryd.prog Tryd.f3 [] false w args ∧ laidMetH Tryd.prog Rows.fnWordsRow.laid w) ∧ sizedMet enc Tryd.prog Tryd.f3 (OpenSpec.ofChange Rows.fnWordsSpec) false w args)
      (Rows.fnWordsSpec.post enc Tryd.prog Tryd.f3 false true false false) := by
  refine returnsInHanded_of_change_and (C := Tryd.checked) (X := fun w _ => laidMetH Tryd.prog Rows.fnWordsRow.laid w) (fun _ _ _ hh h => h.of_heap hh) own started (by kernel_rfl) Tryd.func3
    (ChangeSpec.witness_shaped (enc := enc) (C := Tryd.checked) (os := os) (X := fun w _ => laidMetH Tryd.prog Rows.fnWordsRow.laid w) false (World.doorLaid Tryd.prog 62 os) #[.slice none 0 0] 8 rfl (World.shaped_of_RefB (by kernel_rfl) (by kernel_rfl)) (by kernel_rfl) (by kernel_rfl) (by kernel_rfl) (door_met os _)) ?_
  intro W base args ds gs before hval0 hW _ _ hL0 _
  have hL := fact_of ((MakeChecks.laidMetH_plain _ _ _ (by kernel_rfl)).mp hL0)
  have hval : ∀ (j : Nat) t v, Tryd.f3.params[j]? = some t → args[j]? = some v → Value.okWide Tryd.prog W .any base t v := hval0
  have hW' := hW
  obtain ⟨p, q, hA0, hV, rfl, hfz, hnd⟩ := hW
  have hA : DataW.TrodAll enc Tryd.prog W 0 (fun _ => true) true Tryd.f3.params.toList args.toList ds p := hA0
  rw [Tryd.params3] at hA hval
  obtain ⟨v0, vs0, d0, ds0, p0, q0, hargs, rfl, rfl, h0, r0⟩ := trodAll_cons hA
  obtain ⟨rfl, rfl, rfl⟩ := trodAll_nil r0
  obtain rfl : args = #[v0] := by cases args; simp_all
  obtain ⟨rfl, rfl⟩ := trodVars_none hV
  obtain ⟨a0, len0, cap0, rfl⟩ := okWide_slice Tryd.underlying22 (hval 0 22 v0 rfl rfl)
  have k0 := h0
  have lt0 : ∀ x ∈ p0, x.block < W.heap.size := by obtain ⟨m, hm⟩ := k0; exact DataW.trod_lt m _ _ _ hm
  obtain ⟨fuel0, hf0⟩ := h0
  obtain ⟨z0, w0⟩ := opened hf0
  clear hA0 hval0
  refine (walk a0 len0 cap0 z0 W w0 hL).mono fun e W' ⟨he, bel⟩ => ?_
  subst he
  exact ⟨_, rfl, _, _, _, [], _, [], hW', trodAll_mk1 (shut_bool Tryd.underlying4 _), (trodAll_cons_mk (Below.trod laidOut (by kernel_rfl) (of_decide_eq_true (by kernel_rfl)) k0 bel lt0) trodAll_mk0), rfl, bel.frame _, fun h => by cases h⟩

theorem row_holds : Rows.FnWordsSaid :=
  OpenClaim.holds_of_wide 3 Tryd.f3 rfl rfl rfl rfl rfl rfl rfl ⟨rfl, rfl, rfl, rfl, rfl⟩ rfl rfl rfl rfl rfl (by kernel_rfl) Tryd.func3 (by kernel_rfl)
    (of_decide_eq_true (by kernel_rfl)) (by unfold Func.isWrapper; rw [if_neg (of_decide_eq_false (by kernel_rfl))]; exact ⟨rfl, rfl⟩)
    (fun os started H enc _ => lifted os started H enc)

theorem proved : Rows.FnWordsCardSaid :=
  Claim7.holds_tied_plain_at .later [] [.data, .data, .data, .sentinel, .sentinel] true (true, "875f5b9c48d781f4b88a7e71c82023eb82d7f32844ddee665cfa5ce5a8d15f5b") true
    row_holds (fun _ h => by cases h) (by kernel_rfl) (fun _ h => by cases h) fnWords_row_tie rfl ⟨rfl, rfl⟩ (by kernel_rfl) rfl
    (fun f fn hf hfn => by
      obtain rfl : f = 3 := Option.some.inj ((show Tryd.prog.funcNamed Rows.fnWordsRow.func = some 3 by kernel_rfl).symm.trans hf) |>.symm
      obtain rfl : fn = Tryd.f3 := (Option.some.inj (Tryd.func3.symm.trans hfn)).symm
      exact ⟨by kernel_rfl, fun j t ht => by
        rw [Tryd.params3] at ht
        have hm : t ∈ [22] := by simpa using Array.mem_of_getElem? ht
        have hall : ([22].all fun u => !Tryd.prog.wantsStandIn u) = true := by kernel_rfl
        exact (show Tryd.prog.wantsStandIn t = false by simpa using List.all_eq_true.1 hall t hm)⟩)
    (by kernel_rfl)
#print axioms proved
end Go.Proofs.YtglcjfhiekhjoaaDoor.fnWords
