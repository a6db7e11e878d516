/-
  Helpers of the claims beside this text: the law on canons: two of its regions.
-/
import Derived.Test.YtldpikcgeijkpaaCns
import Derived.Test.YtldpikcgeijkpaaReg
import Derived.IntWalk
namespace Go.Proofs.Ytldpikcgeijkpaa.Rhy
open Go.RowKit Cur
set_option linter.unusedVariables false
set_option linter.unusedSimpArgs false
set_option maxRecDepth 100000

theorem wp_sure {P : Program} {c : Code} {K : Act → World → Prop} {Q : Exit → Act → World → Prop} {a : Act} {w : World} (h : Code.wp P c (Exit.then K fun _ _ _ => False) a w) : Code.wp P c (Exit.then K Q) a w :=
  Code.wp_mono (fun e a w h => by cases e <;> first | exact h | exact (h : False).elim) h
theorem at_one {n : Nat} {xs ys : List Int} (ho : Ok (n : Int) xs) (ht : tilC n xs ys) {k : Nat} (hk : k < n) :
    ∃ z : Nat, atL n xs ys k = [(z : Int)] ∧ z < ys.length ∧ (linL n xs ys n)[k]? = some (z : Int) := by
  have h1 := (tight_iff ho).1 ht k hk
  obtain ⟨z, hz⟩ := List.length_eq_one_iff.1 h1
  have h3 : z ∈ atL n xs ys k := by rw [hz]; simp
  have h2 := atK_mem (show z ∈ atK n xs ys k ys.length from h3)
  obtain ⟨m, rfl⟩ : ∃ m : Nat, z = m := ⟨z.toNat, by omega⟩
  refine ⟨m, hz, by omega, ?_⟩
  unfold linL
  rw [List.getElem?_map, List.getElem?_range hk]
  show some (lineN (atL n xs ys k)) = _
  rw [hz]
  rfl
theorem v_vat1 (n : Nat) (a : Option Addr) (ca : Nat) (xs : List Int) (b : Option Addr) (cb : Nat) (ys : List Int) (p : Int) (w : World) (ha : IntsAt w a xs.length xs) (hb : IntsAt w b ys.length ys) (h : CC n xs n ys) (h1 : -1000 ≤ p) (h2 : p ≤ 1000) (z : Int) (hl : atL n xs ys p = [z]) :
    Calls Try.prog 20 #[can n a xs.length ca n b ys.length cb, .int .i64 p] w fun e w' => ∃ c d, e = .returned (.slice c 1 d) ∧ IntsAt w' c 1 [z] ∧ Below w.heap.size w w' := v_vat n a ca xs b cb ys p w ha hb h h1 h2 [z] hl
theorem below_set2C {B N o p : Nat} {w w' : World} {u v : Value} (h : Below B w w') (hN : B ≤ N) : Below B w ((w'.setCell ⟨N, o, none⟩ u).setCell ⟨N, p, none⟩ v) := (h.setCell hN _).setCell hN _
theorem Row.setN {w : World} {lo hi : Nat} {a : Option Addr} {n cap : Nat} {l : List Int} (h : Row w lo hi a n cap l) {N : Nat} (hN : N < lo) (o : Nat) (v : Value) : Row (w.setCell ⟨N, o, none⟩ v) lo hi a n cap l :=
  ⟨ownsRow_setCell_below h.1 (by show N < lo; exact hN) _, h.2.1, by simpa using h.2.2⟩
theorem Box.twoB {w : World} {b : Nat} {v0 v1 : Value} {t : TypeId} (h : Box w b v0 v1 t) : Two w b v0 v1 := ⟨h.lt, h.facts.1, h.facts.2.1⟩
set_option maxHeartbeats 4000000 in
set_option maxRecDepth 100000 in
theorem reg15 (W : World) (bb cb n : Nat) (pa : Option Addr) (ca : Nat) (xs : List Int) (pb : Option Addr) (cp : Nat) (ys : List Int) (p1 : Option Addr) (d1 : Nat) (v1 : Option Addr) (e1 k z : Nat) {K : Act → World → Prop} {u0 u1 u2 u3 u7 u8 u9 u10 u14 u15 u16 u17 u18 u19 u20 u21 u22 u23 u24 u25 u26 u27 u28 u29 u30 u31 u32 u33 u34 u35 u36 u37 u38 u39 u40 u41 u42 u43 u44 u45 u46 u47 u48 u49 u50 u51 u52 u53 u54 u55 u56 u57 u58 u59 u60 u61 u62 u63 u64 u65 u66 u67 u68 u69 u70 u71 u72 u73 u74 u75 u76 u77 u78 u79 u80 u81 u82 u83 u84 u85 u86 u87 u88 u89 u90 u91 u92 u93 u94 u95 u96 u97 u98 u99 u100 u101 u102 u103 u104 u105 u106 u107 u108 u109 u110 u111 u112 u113 u114 u115 u116 u117 u118 u119 u120 u121 u122 u123 u124 u125 u126 u127 u128 u129 u130 u131 u132 u133 u134 u135 u136 u137 u138 u139 u140 u141 u142 u143 u144 u145 u146 u147 u148 u149 u150 u151 u152 u153 u154 u155 u156 u157 u158 u159 u160 u161 u162 u163 u164 u165 u166 u167 u168 u169 u170 u171 u172 u173 u174 u175 u176 u177 u178 u179 u180 u181 u182 u183 u184 u185 u186 u187 u188 u189 u190 u191 u192 u193 u194 u195 u196 u197 u198 u199 u200 u201 u202 u203 u204 u205 u206 u207 u208 u209 u210 u211 u212 u213 u214 u215 u216 u217 u218 u219 u220 u221 u222 u223 u224 u225 u226 u227 u228 u229 u230 u231 u232 u233 u234 u235 u236 u237 u238 u239 u240 u241 u242 u243 u244 u245 u246 u247 u248 u249 u250 u251 u252 u253 u254 u255 u256 u257 u258 u259 : Value}
    (hK : ∀ (x104 x105 x106 x107 x108 x109 x110 x111 x112 x113 x114 x115 x116 x117 x118 x119 x120 x121 x122 x123 x124 x125 x126 x127 x128 x129 x130 x131 x132 x133 x134 x135 x136 x137 x138 x139 x140 : Value) (w' : World), Below W.heap.size W w' → K ({ tmps := #[u0, u1, u2, u3, .pointer (some ⟨bb, 0, none⟩), .int .i64 (n : Nat), .pointer (some ⟨cb, 0, none⟩), u7, u8, u9, u10, .slice p1 n d1, .int .i64 (k : Nat), .slice v1 1 e1, u14, u15, u16, u17, u18, u19, u20, u21, u22, u23, u24, u25, u26, u27, u28, u29, u30, u31, u32, u33, u34, u35, u36, u37, u38, u39, u40, u41, u42, u43, u44, u45, u46, u47, u48, u49, u50, u51, u52, u53, u54, u55, u56, u57, u58, u59, u60, u61, u62, u63, u64, u65, u66, u67, u68, u69, u70, u71, u72, u73, u74, u75, u76, u77, u78, u79, u80, u81, u82, u83, u84, u85, u86, u87, u88, u89, u90, u91, u92, u93, u94, u95, u96, u97, u98, u99, u100, u101, u102, u103, x104, x105, x106, x107, x108, x109, x110, x111, x112, x113, x114, x115, x116, x117, x118, x119, x120, x121, x122, x123, x124, x125, x126, x127, x128, x129, x130, x131, x132, x133, x134, x135, x136, x137, x138, x139, x140, .bool false, u142, u143, u144, u145, u146, u147, u148, u149, u150, u151, u152, u153, u154, u155, u156, u157, u158, u159, u160, u161, u162, u163, u164, u165, u166, u167, u168, u169, u170, u171, u172, u173, u174, u175, u176, u177, u178, u179, u180, u181, u182, u183, u184, u185, u186, u187, u188, u189, u190, u191, u192, u193, u194, u195, u196, u197, u198, u199, u200, u201, u202, u203, u204, u205, u206, u207, u208, u209, u210, u211, u212, u213, u214, u215, u216, u217, u218, u219, u220, u221, u222, u223, u224, u225, u226, u227, u228, u229, u230, u231, u232, u233, u234, u235, u236, u237, u238, u239, u240, u241, u242, u243, u244, u245, u246, u247, u248, u249, u250, u251, u252, u253, u254, u255, u256, u257, u258, u259], defers := [] } : Act) w')
    (htb : Two W bb (.int .i64 (n : Nat)) (.slice pb ys.length cp)) (htc : Four W cb (.int .i64 (n : Nat)) (.slice pa xs.length ca) (.int .i64 (n : Nat)) (.slice pb ys.length cp)) (hix : IntsAt W pa xs.length xs) (hiy : IntsAt W pb ys.length ys) (hcc : CC n xs n ys)
    (hl : IntsAt W p1 n (linL n xs ys n)) (hlk : (linL n xs ys n)[k]? = some (z : Int)) (hv : IntsAt W v1 1 [(z : Int)]) (hat : atL n xs ys k = [(z : Int)]) (hk : k < n) (hz : z < ys.length) :
    Code.wp Try.prog (rgOf Try.f3 15) (Exit.then K (fun _ _ _ => False)) ({ tmps := #[u0, u1, u2, u3, .pointer (some ⟨bb, 0, none⟩), .int .i64 (n : Nat), .pointer (some ⟨cb, 0, none⟩), u7, u8, u9, u10, .slice p1 n d1, .int .i64 (k : Nat), .slice v1 1 e1, u14, u15, u16, u17, u18, u19, u20, u21, u22, u23, u24, u25, u26, u27, u28, u29, u30, u31, u32, u33, u34, u35, u36, u37, u38, u39, u40, u41, u42, u43, u44, u45, u46, u47, u48, u49, u50, u51, u52, u53, u54, u55, u56, u57, u58, u59, u60, u61, u62, u63, u64, u65, u66, u67, u68, u69, u70, u71, u72, u73, u74, u75, u76, u77, u78, u79, u80, u81, u82, u83, u84, u85, u86, u87, u88, u89, u90, u91, u92, u93, u94, u95, u96, u97, u98, u99, u100, u101, u102, u103, u104, u105, u106, u107, u108, u109, u110, u111, u112, u113, u114, u115, u116, u117, u118, u119, u120, u121, u122, u123, u124, u125, u126, u127, u128, u129, u130, u131, u132, u133, u134, u135, u136, u137, u138, u139, u140, u141, u142, u143, u144, u145, u146, u147, u148, u149, u150, u151, u152, u153, u154, u155, u156, u157, u158, u159, u160, u161, u162, u163, u164, u165, u166, u167, u168, u169, u170, u171, u172, u173, u174, u175, u176, u177, u178, u179, u180, u181, u182, u183, u184, u185, u186, u187, u188, u189, u190, u191, u192, u193, u194, u195, u196, u197, u198, u199, u200, u201, u202, u203, u204, u205, u206, u207, u208, u209, u210, u211, u212, u213, u214, u215, u216, u217, u218, u219, u220, u221, u222, u223, u224, u225, u226, u227, u228, u229, u230, u231, u232, u233, u234, u235, u236, u237, u238, u239, u240, u241, u242, u243, u244, u245, u246, u247, u248, u249, u250, u251, u252, u253, u254, u255, u256, u257, u258, u259], defers := [] } : Act) W := by
  have HK0 := Lib.hid hK
  have hn24 : n ≤ 24 := by have := hcc.1.1.1; omega
  have hyl : ys.length ≤ 24 := (cc_len hcc).2
  obtain ⟨lb, lo, q, rfl, hlb, hq, hlc, -, -⟩ := hl.at hk
  obtain rfl : q = (z : Int) := by rw [hq] at hlk; injection hlk
  obtain ⟨vb, vo, q, rfl, hvb, hq2, hvc, -, -⟩ := hv.at (k := 0) (by omega)
  obtain rfl : q = (z : Int) := by simp at hq2; exact hq2.symm
  rw [Nat.add_zero] at hvc
  have HV := Lib.hid hv
  have HT2 : Hid (atL n xs ys ((k : Int) + (n : Int)) = [(z : Int)]) := Lib.hid (by rw [atL_turn]; exact hat)
  have HVA := Lib.hid (fun (W' : World) (h : Below W.heap.size W W') => v_vat1 n pa ca xs pb cp ys ((k : Int) + (n : Int)) W' (hix.below h) (hiy.below h) hcc (by omega) (by omega) (z : Int) HT2.out)
  have HK : Hid (∀ W' : World, Below W.heap.size W W' → W'.cell? ⟨cb, 0, none⟩ = some (.int .i64 n) ∧ W'.cell? ⟨cb, 1, none⟩ = some (.slice pa xs.length ca) ∧ W'.cell? ⟨cb, 2, none⟩ = some (.int .i64 n) ∧ W'.cell? ⟨cb, 3, none⟩ = some (.slice pb ys.length cp) ∧ W'.cell? ⟨bb, 1, none⟩ = some (.slice pb ys.length cp) ∧ W'.cell? ⟨lb, lo + k, none⟩ = some (.int .i64 z) ∧ W'.cell? ⟨vb, vo, none⟩ = some (.int .i64 z) ∧ Below W.heap.size W W') := Lib.hid (fun W' h => by
    have h1 := htb.keep h
    have h2 := htc.keep h
    exact ⟨h2.2.1, h2.2.2.1, h2.2.2.2.1, h2.2.2.2.2, h1.2.2, by rw [h.cell (p := ⟨lb, lo + k, none⟩) hlb]; exact hlc, by rw [h.cell (p := ⟨vb, vo, none⟩) hvb]; exact hvc, h⟩)
  have hd1 : decide (ys.length ≤ z) = false := by simp; omega
  have hd2 : decide ((ys.length : Int) ≤ (z : Int)) = false := by simp; omega
  have hd3 : decide ((z : Int) < 0) = false := by first | (simp; done) | (simp; omega)
  have hd4 : ¬ (ys.length ≤ z) := by omega
  have hw1 : IntKind.i64.wrap ((k : Int) + (n : Int)) = (k : Int) + (n : Int) := IntWalk.i64_in _ ⟨by omega, by omega⟩
  clear hK htb htc hix hiy hcc hl hq hv hq2 hlc hvc hlk hat
  conv => enter [2]; whnf
  go_region_held3 (fun W' => W'.cell? ⟨cb, 0, none⟩ = some (.int .i64 n) ∧ W'.cell? ⟨cb, 1, none⟩ = some (.slice pa xs.length ca) ∧ W'.cell? ⟨cb, 2, none⟩ = some (.int .i64 n) ∧ W'.cell? ⟨cb, 3, none⟩ = some (.slice pb ys.length cp) ∧ W'.cell? ⟨bb, 1, none⟩ = some (.slice pb ys.length cp) ∧ W'.cell? ⟨lb, lo + k, none⟩ = some (.int .i64 z) ∧ W'.cell? ⟨vb, vo, none⟩ = some (.int .i64 z) ∧ Below W.heap.size W W')
    (first | exact HK.out _ (Below.refl _ _).drew | exact HK.out _ hb4)
    ((first
      | (go_at_call 20; refine (HVA.out _ (Below.refl _ _).drew).mono ?_; rintro e w4 ⟨c4, d4, rfl, hi4, hc4⟩; have HI4 := Lib.hid hi4; have hb4 := (Below.refl W.heap.size W).drew.trans hc4; clear hc4 hi4)
      | (go_at_call 21; refine (same_law c4 (some ⟨vb, vo, none⟩) 1 d4 e1 [(z : Int)] _ HI4.out (HV.out.below hb4) (by omega)).mono ?_; rintro e w5 ⟨rfl, rfl⟩)))
  all_goals
    show K _ _
    exact HK0.out _ _ _ _ _ _ _ _ _ _ _ _ _ _ _ _ _ _ _ _ _ _ _ _ _ _ _ _ _ _ _ _ _ _ _ _ _ _ hb4
set_option maxHeartbeats 4000000 in
set_option maxRecDepth 100000 in
theorem reg17 (W : World) (cb n : Nat) (pa : Option Addr) (ca : Nat) (xs : List Int) (pb : Option Addr) (cp : Nat) (ys : List Int) (v1 : Option Addr) (e1 z : Nat) (VL : List Int) {K : Act → World → Prop} {u0 u1 u2 u3 u4 u5 u7 u8 u9 u10 u11 u12 u14 u15 u16 u17 u18 u19 u20 u21 u22 u23 u24 u25 u26 u27 u28 u29 u30 u31 u32 u33 u34 u35 u36 u37 u38 u39 u40 u41 u42 u43 u44 u45 u46 u47 u48 u49 u50 u51 u52 u53 u54 u55 u56 u57 u58 u59 u60 u61 u62 u63 u64 u65 u66 u67 u68 u69 u70 u71 u72 u73 u74 u75 u76 u77 u78 u79 u80 u81 u82 u83 u84 u85 u86 u87 u88 u89 u90 u91 u92 u93 u94 u95 u96 u97 u98 u99 u100 u101 u102 u103 u104 u105 u106 u107 u108 u109 u110 u111 u112 u113 u114 u115 u116 u117 u118 u119 u120 u121 u122 u123 u124 u125 u126 u127 u128 u129 u130 u131 u132 u133 u134 u135 u136 u137 u138 u139 u140 u141 u142 u143 u144 u145 u146 u147 u148 u149 u150 u151 u152 u153 u154 u155 u156 u157 u158 u159 u160 u161 u162 u163 u164 u165 u166 u167 u168 u169 u170 u171 u172 u173 u174 u175 u176 u177 u178 u179 u180 u181 u182 u183 u184 u185 u186 u187 u188 u189 u190 u191 u192 u193 u194 u195 u196 u197 u198 u199 u200 u201 u202 u203 u204 u205 u206 u207 u208 u209 u210 u211 u212 u213 u214 u215 u216 u217 u218 u219 u220 u221 u222 u223 u224 u225 u226 u227 u228 u229 u230 u231 u232 u233 u234 u235 u236 u237 u238 u239 u240 u241 u242 u243 u244 u245 u246 u247 u248 u249 u250 u251 u252 u253 u254 u255 u256 u257 u258 u259 : Value}
    (hK : ∀ (x142 x143 x144 x145 x146 x147 x148 x149 : Value) (g : Nat) (b4 : Option Addr) (c4 : Nat) (w' : World), Two w' g (.int .i64 (n : Nat)) (.slice b4 VL.length c4) → IntsAt w' b4 VL.length VL → Below W.heap.size W w' → K ({ tmps := #[u0, u1, u2, u3, u4, u5, .pointer (some ⟨cb, 0, none⟩), u7, u8, u9, u10, u11, u12, .slice v1 1 e1, .pointer (some ⟨g, 0, none⟩), .bool true, u16, u17, u18, u19, u20, u21, u22, u23, u24, u25, u26, u27, u28, u29, u30, u31, u32, u33, u34, u35, u36, u37, u38, u39, u40, u41, u42, u43, u44, u45, u46, u47, u48, u49, u50, u51, u52, u53, u54, u55, u56, u57, u58, u59, u60, u61, u62, u63, u64, u65, u66, u67, u68, u69, u70, u71, u72, u73, u74, u75, u76, u77, u78, u79, u80, u81, u82, u83, u84, u85, u86, u87, u88, u89, u90, u91, u92, u93, u94, u95, u96, u97, u98, u99, u100, u101, u102, u103, u104, u105, u106, u107, u108, u109, u110, u111, u112, u113, u114, u115, u116, u117, u118, u119, u120, u121, u122, u123, u124, u125, u126, u127, u128, u129, u130, u131, u132, u133, u134, u135, u136, u137, u138, u139, u140, u141, x142, x143, x144, x145, x146, x147, x148, x149, u150, u151, u152, u153, u154, u155, u156, u157, u158, u159, u160, u161, u162, u163, u164, u165, u166, u167, u168, u169, u170, u171, u172, u173, u174, u175, u176, u177, u178, u179, u180, u181, u182, u183, u184, u185, u186, u187, u188, u189, u190, u191, u192, u193, u194, u195, u196, u197, u198, u199, u200, u201, u202, u203, u204, u205, u206, u207, u208, u209, u210, u211, u212, u213, u214, u215, u216, u217, u218, u219, u220, u221, u222, u223, u224, u225, u226, u227, u228, u229, u230, u231, u232, u233, u234, u235, u236, u237, u238, u239, u240, u241, u242, u243, u244, u245, u246, u247, u248, u249, u250, u251, u252, u253, u254, u255, u256, u257, u258, u259], defers := [] } : Act) w')
    (htc : Four W cb (.int .i64 (n : Nat)) (.slice pa xs.length ca) (.int .i64 (n : Nat)) (.slice pb ys.length cp)) (hix : IntsAt W pa xs.length xs) (hiy : IntsAt W pb ys.length ys) (hcc : CC n xs n ys)
    (hv : IntsAt W v1 1 [(z : Int)]) (hz : z < ys.length) (hVL : voiZ n xs ys z = VL) :
    Code.wp Try.prog (rgOf Try.f3 17) (Exit.then K (fun _ _ _ => False)) ({ tmps := #[u0, u1, u2, u3, u4, u5, .pointer (some ⟨cb, 0, none⟩), u7, u8, u9, u10, u11, u12, .slice v1 1 e1, u14, u15, u16, u17, u18, u19, u20, u21, u22, u23, u24, u25, u26, u27, u28, u29, u30, u31, u32, u33, u34, u35, u36, u37, u38, u39, u40, u41, u42, u43, u44, u45, u46, u47, u48, u49, u50, u51, u52, u53, u54, u55, u56, u57, u58, u59, u60, u61, u62, u63, u64, u65, u66, u67, u68, u69, u70, u71, u72, u73, u74, u75, u76, u77, u78, u79, u80, u81, u82, u83, u84, u85, u86, u87, u88, u89, u90, u91, u92, u93, u94, u95, u96, u97, u98, u99, u100, u101, u102, u103, u104, u105, u106, u107, u108, u109, u110, u111, u112, u113, u114, u115, u116, u117, u118, u119, u120, u121, u122, u123, u124, u125, u126, u127, u128, u129, u130, u131, u132, u133, u134, u135, u136, u137, u138, u139, u140, u141, u142, u143, u144, u145, u146, u147, u148, u149, u150, u151, u152, u153, u154, u155, u156, u157, u158, u159, u160, u161, u162, u163, u164, u165, u166, u167, u168, u169, u170, u171, u172, u173, u174, u175, u176, u177, u178, u179, u180, u181, u182, u183, u184, u185, u186, u187, u188, u189, u190, u191, u192, u193, u194, u195, u196, u197, u198, u199, u200, u201, u202, u203, u204, u205, u206, u207, u208, u209, u210, u211, u212, u213, u214, u215, u216, u217, u218, u219, u220, u221, u222, u223, u224, u225, u226, u227, u228, u229, u230, u231, u232, u233, u234, u235, u236, u237, u238, u239, u240, u241, u242, u243, u244, u245, u246, u247, u248, u249, u250, u251, u252, u253, u254, u255, u256, u257, u258, u259], defers := [] } : Act) W := by
  have HK0 := Lib.hid hK
  obtain ⟨vb, vo, q, rfl, hvb, hq2, hvc, -, -⟩ := hv.at (k := 0) (by omega)
  obtain rfl : q = (z : Int) := by simp at hq2; exact hq2.symm
  rw [Nat.add_zero] at hvc
  have HVI : Hid (AllInt VL) := Lib.hid (by rw [← hVL]; exact ok_intC (voiZ_ok hcc.1.1.1))
  have HVO := Lib.hid (fun (W' : World) (h : Below W.heap.size W W') => v_voi n pa ca xs pb cp ys z W' (hix.below h) (hiy.below h) hcc hz)
  rw [hVL] at HVO
  have HK : Hid (∀ W' : World, Below W.heap.size W W' → W'.cell? ⟨cb, 0, none⟩ = some (.int .i64 n) ∧ W'.cell? ⟨cb, 1, none⟩ = some (.slice pa xs.length ca) ∧ W'.cell? ⟨cb, 2, none⟩ = some (.int .i64 n) ∧ W'.cell? ⟨cb, 3, none⟩ = some (.slice pb ys.length cp) ∧ W'.cell? ⟨vb, vo, none⟩ = some (.int .i64 z) ∧ Below W.heap.size W W') := Lib.hid (fun W' h => by
    have h2 := htc.keep h
    exact ⟨h2.2.1, h2.2.2.1, h2.2.2.2.1, h2.2.2.2.2, by rw [h.cell (p := ⟨vb, vo, none⟩) hvb]; exact hvc, h⟩)
  have HBB : Hid (∀ W' : World, (W'.cell? ⟨cb, 0, none⟩ = some (.int .i64 n) ∧ W'.cell? ⟨cb, 1, none⟩ = some (.slice pa xs.length ca) ∧ W'.cell? ⟨cb, 2, none⟩ = some (.int .i64 n) ∧ W'.cell? ⟨cb, 3, none⟩ = some (.slice pb ys.length cp) ∧ W'.cell? ⟨vb, vo, none⟩ = some (.int .i64 z) ∧ Below W.heap.size W W') → Below W.heap.size W W') := Lib.hid (fun W' h => h.2.2.2.2.2)
  have HVO2 : Hid (∀ W' : World, (W'.cell? ⟨cb, 0, none⟩ = some (.int .i64 n) ∧ W'.cell? ⟨cb, 1, none⟩ = some (.slice pa xs.length ca) ∧ W'.cell? ⟨cb, 2, none⟩ = some (.int .i64 n) ∧ W'.cell? ⟨cb, 3, none⟩ = some (.slice pb ys.length cp) ∧ W'.cell? ⟨vb, vo, none⟩ = some (.int .i64 z) ∧ Below W.heap.size W W') → Calls Try.prog 22 #[can n pa xs.length ca n pb ys.length cp, .int .i64 z] W' (RetPost n VL true W')) := Lib.hid (fun W' h => HVO.out W' h.2.2.2.2.2)
  clear hK htc hix hiy hcc hv hq2 hvc HVO
  conv => enter [2]; whnf
  go_region_held3 (fun W' => W'.cell? ⟨cb, 0, none⟩ = some (.int .i64 n) ∧ W'.cell? ⟨cb, 1, none⟩ = some (.slice pa xs.length ca) ∧ W'.cell? ⟨cb, 2, none⟩ = some (.int .i64 n) ∧ W'.cell? ⟨cb, 3, none⟩ = some (.slice pb ys.length cp) ∧ W'.cell? ⟨vb, vo, none⟩ = some (.int .i64 z) ∧ Below W.heap.size W W')
    (first | exact HK.out _ (Below.refl _ _).drew | exact HK.out _ ((Below.refl _ _).drew.alloc (Nat.le_refl _) _) | exact HK.out _ hb4 | exact HK.out _ (hb4.alloc hb4.size _) | exact HK.out _ (below_set2C hb4 hN))
    ((first
      | (go_at_call 22; ((with_reducible refine (HVO2.out _ (by assumption)).mono ?_); rintro e w4 ⟨b4, c4, rfl, hown4, hc4⟩); have hb4 := bel_up hc4 (HBB.out _ (by assumption)) (HBB.out _ (by assumption)).size; (first | (have bx : Box w4 W.heap.size (.int .i64 0) (.slice none 0 0) 25 := kept_boxD hc4; have hR : Row w4 (W.heap.size + 1) w4.heap.size b4 VL.length c4 VL := row_of (own_base hown4 (by first | simp | (show _ ≤ (W.alloc _).heap.size; simp))); have hN := Nat.le_refl W.heap.size; obtain ⟨q0, q1, q2, q3⟩ := bx.facts; have q4 := bx.lt) | (have bx : Box w4 W.heap.size (.int .i64 0) (.slice none 0 0) 25 := kept_box hc4; have hR : Row w4 (W.heap.size + 1) w4.heap.size b4 VL.length c4 VL := row_of (own_base hown4 (by simp)); have hN := Nat.le_refl W.heap.size; obtain ⟨q0, q1, q2, q3⟩ := bx.facts; have q4 := bx.lt) | (have hR := row_of hown4)))))
  all_goals
    show K _ _
    first
    | exact HK0.out _ _ _ _ _ _ _ _ _ b4 c4 _ (two_new _ _ _ _) ((hR.at HVI.out).below (bel1 _ _)) (hb4.alloc hb4.size _)
    | exact HK0.out _ _ _ _ _ _ _ _ _ b4 c4 _ (((bx.set0 _).set1 _).twoB) (((hR.setN (Nat.lt_succ_self _) _ _).setN (Nat.lt_succ_self _) _ _).at HVI.out) (below_set2C hb4 hN)
end Go.Proofs.Ytldpikcgeijkpaa.Rhy
