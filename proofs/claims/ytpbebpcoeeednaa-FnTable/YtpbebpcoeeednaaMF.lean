/-
  Tables: a round of the law's run.
-/
import Derived.Test.YtpbebpcoeeednaaMT
import Derived.Test.YtpbebpcoeeednaaTabZ3
import Derived.Test.YtpbebpcoeeednaaTabR
import Derived.Deep.DeepCutAuto
namespace Go.Proofs.Ytpbebpcoeeednaa
open Go.RowKit

set_option maxRecDepth 1000000 in
set_option maxHeartbeats 8000000 in
theorem caseFin (w : World) (ao : Option Addr) (n c N x1 x2 : Nat) (cap : Int) (c1 c30 c31 c32 c33 c34 c35 c36 c37 c38 c39 c40 c41 c42 c258 c259 : Value) (b o : Nat) (C : Nat → Int) (HC : Hid (∀ W, Below w.heap.size w W → BytesAt W ao b o n C)) (wr : World) (k m : Nat) (rv : Int) (D : Nat → SD) (HF : Hid (FT w wr x1 x2 m D)) (HD : Hid (DI m D cap)) (hr1 : 1 ≤ rv) (hr2 : rv ≤ k + 1)  (hN : N ≤ 80) (hNn : N ≤ n) (hk : k < N)
    (x y : Int) (hx : Hid (C (k % n) = x)) (hy : Hid (C ((k * 5 + 2) % n) = y)) (hx0 : 0 ≤ x) (hx1 : x ≤ 255) (hy0 : 0 ≤ y) (hy1 : y ≤ 255) (hw3 : 3 ≤ (x + y) % 8) (hw5 : (x + y) % 8 < 5) (Q0 : Exit → Act → World → Prop) (u2 u9 u10 u11 u12 u13 u14 u15 u16 u17 u18 u19 u20 u21 u22 u23 u24 u25 u26 u27 u28 u29 u43 u44 u45 u46 u47 u48 u49 u50 u51 u52 u53 u54 u55 u56 u57 u58 u59 u60 u61 u62 u63 u64 u65 u66 u67 u68 u69 u70 u71 u72 u73 u74 u75 u76 u77 u78 u79 u80 u81 u82 u83 u84 u85 u86 u87 u88 u89 u90 u91 u92 u93 u94 u95 u96 u97 u98 u99 u100 u101 u102 u103 u104 u105 u106 u107 u108 u109 u110 u111 u112 u113 u114 u115 u116 u117 u118 u119 u120 u121 u122 u123 u124 u125 u126 u127 u128 u129 u130 u131 u132 u133 u134 u135 u136 u137 u138 u139 u140 u141 u142 u143 u144 u145 u146 u147 u148 u149 u150 u151 u152 u153 u154 u155 u156 u157 u158 u159 u160 u161 u162 u163 u164 u165 u166 u167 u168 u169 u170 u171 u172 u173 u174 u175 u176 u177 u178 u179 u180 u181 u182 u183 u184 u185 u186 u187 u188 u189 u190 u191 u192 u193 u194 u195 u196 u197 u198 u199 u200 u201 u202 u203 u204 u205 u206 u207 u208 u209 u210 u211 u212 u213 u214 u215 u216 u217 u218 u219 u220 u221 u222 u223 u224 u225 u226 u227 u228 u229 u230 u231 u232 u233 u234 u235 u236 u237 u238 u239 u240 u241 u242 u243 u244 u245 u246 u247 u248 u249 u250 u251 u252 u253 u254 u255 u256 u257 : Value) :
    Code.wp Try.prog runBody (Exit.then (fun a' w'' => WI w ao n c N x1 x2 cap c1 c30 c31 c32 c33 c34 c35 c36 c37 c38 c39 c40 c41 c42 c258 c259 a' w'' ∧ Wmu N a' w'' < Wmu N ⟨#[.slice ao n c, c1, u2, .pointer (some ⟨x1, 0, none⟩), .pointer (some ⟨x2, 0, none⟩), .int .i64 rv, .int .i64 cap, .int .i64 (N : Int), .int .i64 (k : Int), u9, u10, u11, u12, u13, u14, u15, u16, u17, u18, u19, u20, u21, u22, u23, u24, u25, u26, u27, u28, u29, c30, c31, c32, c33, c34, c35, c36, c37, c38, c39, c40, c41, c42, u43, u44, u45, u46, u47, u48, u49, u50, u51, u52, u53, u54, u55, u56, u57, u58, u59, u60, u61, u62, u63, u64, u65, u66, u67, u68, u69, u70, u71, u72, u73, u74, u75, u76, u77, u78, u79, u80, u81, u82, u83, u84, u85, u86, u87, u88, u89, u90, u91, u92, u93, u94, u95, u96, u97, u98, u99, u100, u101, u102, u103, u104, u105, u106, u107, u108, u109, u110, u111, u112, u113, u114, u115, u116, u117, u118, u119, u120, u121, u122, u123, u124, u125, u126, u127, u128, u129, u130, u131, u132, u133, u134, u135, u136, u137, u138, u139, u140, u141, u142, u143, u144, u145, u146, u147, u148, u149, u150, u151, u152, u153, u154, u155, u156, u157, u158, u159, u160, u161, u162, u163, u164, u165, u166, u167, u168, u169, u170, u171, u172, u173, u174, u175, u176, u177, u178, u179, u180, u181, u182, u183, u184, u185, u186, u187, u188, u189, u190, u191, u192, u193, u194, u195, u196, u197, u198, u199, u200, u201, u202, u203, u204, u205, u206, u207, u208, u209, u210, u211, u212, u213, u214, u215, u216, u217, u218, u219, u220, u221, u222, u223, u224, u225, u226, u227, u228, u229, u230, u231, u232, u233, u234, u235, u236, u237, u238, u239, u240, u241, u242, u243, u244, u245, u246, u247, u248, u249, u250, u251, u252, u253, u254, u255, u256, u257, c258, c259], []⟩ wr) Q0) ⟨#[.slice ao n c, c1, u2, .pointer (some ⟨x1, 0, none⟩), .pointer (some ⟨x2, 0, none⟩), .int .i64 rv, .int .i64 cap, .int .i64 (N : Int), .int .i64 (k : Int), u9, u10, u11, u12, u13, u14, u15, u16, u17, u18, u19, u20, u21, u22, u23, u24, u25, u26, u27, u28, u29, c30, c31, c32, c33, c34, c35, c36, c37, c38, c39, c40, c41, c42, u43, u44, u45, u46, u47, u48, u49, u50, u51, u52, u53, u54, u55, u56, u57, u58, u59, u60, u61, u62, u63, u64, u65, u66, u67, u68, u69, u70, u71, u72, u73, u74, u75, u76, u77, u78, u79, u80, u81, u82, u83, u84, u85, u86, u87, u88, u89, u90, u91, u92, u93, u94, u95, u96, u97, u98, u99, u100, u101, u102, u103, u104, u105, u106, u107, u108, u109, u110, u111, u112, u113, u114, u115, u116, u117, u118, u119, u120, u121, u122, u123, u124, u125, u126, u127, u128, u129, u130, u131, u132, u133, u134, u135, u136, u137, u138, u139, u140, u141, u142, u143, u144, u145, u146, u147, u148, u149, u150, u151, u152, u153, u154, u155, u156, u157, u158, u159, u160, u161, u162, u163, u164, u165, u166, u167, u168, u169, u170, u171, u172, u173, u174, u175, u176, u177, u178, u179, u180, u181, u182, u183, u184, u185, u186, u187, u188, u189, u190, u191, u192, u193, u194, u195, u196, u197, u198, u199, u200, u201, u202, u203, u204, u205, u206, u207, u208, u209, u210, u211, u212, u213, u214, u215, u216, u217, u218, u219, u220, u221, u222, u223, u224, u225, u226, u227, u228, u229, u230, u231, u232, u233, u234, u235, u236, u237, u238, u239, u240, u241, u242, u243, u244, u245, u246, u247, u248, u249, u250, u251, u252, u253, u254, u255, u256, u257, c258, c259], []⟩ wr := by
  obtain ⟨ta, tb, tc, lo, hi, tq, hv1⟩ := HF.out.v1
  obtain ⟨ta2, tb2, tc2, lo2, hi2, tq2, hv2⟩ := HF.out.v2
  have HVV : Hid (V1 wr x1 x1 x2 m D ta tb tc lo hi tq ∧ V1 wr x2 x1 x2 m D ta2 tb2 tc2 lo2 hi2 tq2) := ⟨hv1, hv2⟩
  clear hv1 hv2
  have hlen := HD.out.len
  have hw5 : IntKind.i64.wrap ((k : Int) * 5) = (k : Int) * 5 := by rw [IntKind.wrap_i64]; omega
  have hw6 : IntKind.i64.wrap ((k : Int) * 5 + 2) = (k : Int) * 5 + 2 := by rw [IntKind.wrap_i64]; omega
  have CK1 : Hid (Calls Try.prog 33 #[.slice ao n c, .int .i64 (k : Int)] wr fun e w' => e = .returned (.int .i64 x) ∧ wr = w') := (t_pk ao b o n c k C wr (HC.out _ HF.out.b) (by omega) x hx.out).mono fun e w' ⟨he, hw⟩ => ⟨he, hw.symm⟩
  have CK2 : Hid (Calls Try.prog 33 #[.slice ao n c, .int .i64 ((k : Int) * 5 + 2)] wr fun e w' => e = .returned (.int .i64 y) ∧ wr = w') := by
    have := t_pk ao b o n c (k * 5 + 2) C wr (HC.out _ HF.out.b) (by omega) y hy.out
    rw [show ((k * 5 + 2 : Nat) : Int) = (k : Int) * 5 + 2 by omega] at this
    exact this.mono fun e w' ⟨he, hw⟩ => ⟨he, hw.symm⟩
  have hkN : (k : Int) < (N : Int) := by omega
  conv => arg 2; whnf
  go_wp2_with fail
  refine CK1.out.mono ?_
  rintro e wA ⟨rfl, hwA⟩
  subst hwA
  go_wp2_with fail
  refine CK2.out.mono ?_
  rintro e wB ⟨rfl, hwB⟩
  subst hwB
  go_upto_region 18 with fail
  obtain ⟨k1, hk1⟩ : ∃ k1, k1 = 1 + x % 3 := ⟨_, rfl⟩
  obtain ⟨ms, hms⟩ : ∃ ms, ms = ({ data := #[97, 98, 99] } : ByteArray).extract (y % 3).toNat (y % 3 + 1).toNat := ⟨_, rfl⟩
  obtain ⟨wk, hwk⟩ : ∃ wk, wk = x / 8 % 3 := ⟨_, rfl⟩
  obtain ⟨X, hX⟩ : ∃ X, X = wr.alloc (.cells #[.int .i64 (1 + x % 3), .string (({ data := #[97, 98, 99] } : ByteArray).extract (y % 3).toNat (y % 3 + 1).toNat)] 37) := ⟨_, rfl⟩
  obtain ⟨kb, hkb⟩ : ∃ kb, kb = wr.heap.size := ⟨_, rfl⟩
  rw [← hX]
  rw [← hk1, ← hms, ← hwk, ← hkb]
  rw [← hk1, ← hms] at hX
  have HKV : Hid (kv k1 ms = true) := by rw [hk1, hms]; exact kv_drawn x y
  have hwk2 : 0 ≤ wk ∧ wk < 16 := by omega
  have HX : Hid (Below wr.heap.size wr X ∧ X.rowIs kb 37 2 (fun i => if i = 0 then .int .i64 k1 else .string ms)) := by
    rw [hX, hkb]; exact ⟨bel1 _ _, row2 wr _ _ _⟩
  have hxl : x1 < wr.heap.size ∧ x2 < wr.heap.size := ⟨HVV.out.1.row.lt, HVV.out.2.row.lt⟩
  have HWK : Hid (wk = x / 8 % 3) := hwk
  have HNK : Hid (kb ≠ x1 ∧ kb ≠ x2) := ⟨by omega, by omega⟩
  clear hk1 hms hX hkb CK1 CK2 hw5 hw6 hwk
  have HFX : Hid (FT w X x1 x2 m D) := HF.out.below HX.out.1
  have HVX : Hid (V1 X x1 x1 x2 m D ta tb tc lo hi tq ∧ V1 X x2 x1 x2 m D ta2 tb2 tc2 lo2 hi2 tq2) := ⟨HVV.out.1.below HX.out.1, HVV.out.2.below HX.out.1⟩
  have z2 := HVX.out.2.row.cell (i := 0) (by omega)
  have q0 : X.cell? ⟨kb, 0, none⟩ = some (.int .i64 k1) := HX.out.2.cell (i := 0) (by omega)
  have q1 : X.cell? ⟨kb, 1, none⟩ = some (.string ms) := HX.out.2.cell (i := 1) (by omega)
  obtain ⟨d, hd⟩ : ∃ d, d = fnd m D k1 ms := ⟨_, rfl⟩
  have HDD : Hid (d = fnd m D k1 ms) := hd
  have CF : Hid (Calls Try.prog 17 #[.agg #[.slice ta2 m tc2], .agg #[.int .i64 k1, .string ms]] X fun e w' => SlotPost X d e w') := by
    rw [hd]
    exact s_Find ta2 tb2 0 m tc2 tq2 D k1 ms X (HVX.out.2.tab.slots HD.out.fit (by omega)) (by omega) (fun i hi => (HD.out.small i hi).2.2.1)
  clear hd
  go_wp2_with fail
  refine CF.out.mono ?_
  rintro e w1 ⟨oa, cp, rfl, -, hb1⟩
  clear z2 q0 q1 CF
  unfold sdl
  have rX := row_sc w1 ⟨oa, 0, 0, cp⟩ d 40
  go_upto_region 19 with fail
  obtain ⟨Y, hY⟩ : ∃ Y, Y = w1.alloc (.cells #[.int .i64 d.k, .string d.m, .bool d.has, .string d.v, .slice oa d.n cp, .int .i64 d.ver, .int .i64 d.chg, .int .i64 d.own, .int .i64 d.sin] 40) := ⟨_, rfl⟩
  obtain ⟨hb, hhb⟩ : ∃ hb, hb = w1.heap.size := ⟨_, rfl⟩
  rw [← hY, ← hhb]
  have HXY : Hid (Below X.heap.size X Y) := by rw [hY]; exact hb1.alloc hb1.size _
  have HRH : Hid (Y.rowIs hb 40 9 (sc ⟨oa, 0, 0, cp⟩ d)) := by rw [hY, hhb]; exact rX
  have HNH : Hid (hb ≠ x1 ∧ hb ≠ x2 ∧ kb ≠ x1 ∧ kb ≠ x2) := by
    have a1 := HVX.out.1.row.lt
    have a2 := HVX.out.2.row.lt
    have a3 := hb1.size
    exact ⟨by omega, by omega, HNK.out.1, HNK.out.2⟩
  clear hY hhb rX hb1
  have HFY : Hid (FT w Y x1 x2 m D) := HFX.out.below HXY.out
  have HVY : Hid (V1 Y x1 x1 x2 m D ta tb tc lo hi tq ∧ V1 Y x2 x1 x2 m D ta2 tb2 tc2 lo2 hi2 tq2) := ⟨HVX.out.1.below HXY.out, HVX.out.2.below HXY.out⟩
  have HKY : Hid (Y.rowIs kb 37 2 (fun i => if i = 0 then .int .i64 k1 else .string ms)) := HX.out.2.of_block (HXY.out.block _ HX.out.2.lt)
  clear HXY HVX HFX HX HVV
  have z1 := HVY.out.1.row.cell (i := 0) (by omega)
  have q0 : Y.cell? ⟨kb, 0, none⟩ = some (.int .i64 k1) := HKY.out.cell (i := 0) (by omega)
  have q1 : Y.cell? ⟨kb, 1, none⟩ = some (.string ms) := HKY.out.cell (i := 1) (by omega)
  have hw3' : ¬ (x + y) % 8 < 3 := by omega
  have HOW : Hid (0 ≤ d.own ∧ d.own ≤ 16) := by rw [HDD.out]; exact fnd_own HD.out
  obtain ⟨h0, h1, h2, h3', h4, h5, h6, h7, h8⟩ := nine_sc HRH.out
  go_upto_if 120 with fail
  go_cut [12] from 43 to 257 (fun s wx => ∃ wk' : Int, s = .int .i64 wk' ∧ (0 ≤ wk' ∧ wk' < 16) ∧ Y = wx)
  case first =>
    have how := HOW.out
    by_cases ho : 0 < d.own
    · have hws : IntKind.i64.wrap (d.own - 1) = d.own - 1 := by rw [IntKind.wrap_i64]; omega
      go_wp2
      go_meet
      case rel => exact ⟨d.own - 1, rfl, by omega, rfl⟩
    · go_wp2
      go_meet
      case rel => exact ⟨wk, rfl, hwk2, rfl⟩
  obtain ⟨wk', rfl, hwk3, rfl⟩ := hcut
  clear h0 h1 h2 h3' h4 h5 h6 h7 h8
  go_upto_region 30 with fail
  obtain ⟨v, hv⟩ : ∃ v, v = ({ data := #[118, 119] } : ByteArray).extract (y % 2).toNat (y % 2 + 1).toNat := ⟨_, rfl⟩
  rw [← hv]
  have HVS : Hid (v.size = 1) := by rw [hv]; exact val_drawn y
  clear hv
  have HDV : Hid (dv 1 (fun _ => k1) (fun _ => ms) = true) := dv_one HKV.out
  have e1 : (okA m D k1 ms wk' rv && dv 1 (fun _ => k1) (fun _ => ms)) = true := by
    unfold okA
    rw [HD.out.vt, HKV.out, decide_eq_true hwk3, decide_eq_true hr1, HDV.out]; rfl
  obtain ⟨m', hm'⟩ : ∃ m', m' = m := ⟨_, rfl⟩
  obtain ⟨E, hE⟩ : ∃ E, E = finD m D k1 ms wk' rv v 1 (fun _ => k1) (fun _ => ms) := ⟨_, rfl⟩
  obtain ⟨cd, hcd⟩ : ∃ cd, cd = finC m D k1 ms wk' rv := ⟨_, rfl⟩
  have hms := kv_size HKV.out
  have hvs : v.size ≤ 1 := by have := HVS.out; omega
  have HDE : Hid (DI m' E cap) := by rw [hm', hE]; exact di_fin HD.out hr1 HDV.out hvs
  have HFN : Hid (cd = 0 → fnd m' E k1 ms = fin d rv v 1 (fun _ => k1) (fun _ => ms)) := fun h0 => by
    rw [hm', hE, HDD.out]
    exact fin_found HD.out hr1 HDV.out hvs (by rw [← hcd]; exact h0)
  have CI : Hid (∀ (W0 : World) (gk : Nat) (hgk : W0.heap.size = gk), Below Y.heap.size Y W0 → Calls Try.prog 28 #[.agg #[.slice ta m tc], .agg #[.int .i64 k1, .string ms], .int .i64 wk', .int .i64 rv, .string v, .slice (some ⟨gk, 0, none⟩) 1 1] (W0.alloc (.cells #[.int .i64 k1, .string ms] 37)) fun e w' => ∃ sa sb sd sq, e = .returned (.tuple #[.agg #[.slice sa m' sd], .int .i64 cd]) ∧ TabNew w' Y.heap.size w'.heap.size sa sb m' sq E ∧ Below Y.heap.size Y w' ∧ Below W0.heap.size W0 w') := fun W0 gk hgk hW0 => by
    subst hgk
    have hW : Below Y.heap.size Y (W0.alloc (.cells #[.int .i64 k1, .string ms] 37)) := hW0.alloc hW0.size _
    have h1 := (HVY.out.1.below hW).tab.slots HD.out.fit (by omega)
    have hs := HD.out.small
    have := t_Finish ta tb 0 m tc tq D k1 ms wk' rv v ⟨some ⟨W0.heap.size, 0, none⟩, W0.heap.size, 0, 1⟩ 1 (fun _ => k1) (fun _ => ms) _ h1 (by omega) hs (keys_one W0 k1 ms (by omega)) (by omega) ⟨by omega, fun j _ => by show ms.size ≤ _; omega⟩
    rw [e1, if_pos rfl, if_pos rfl, ← hE, ← hcd] at this
    rw [hm']
    exact this.mono fun e w' ⟨sa, sb, sd, sq, he, hT, hb⟩ => ⟨sa, sb, sd, sq, he, hT.wide hW.size (Nat.le_refl _), hW.trans (hb.mono hW.size), (bel1 W0 _).trans (hb.mono (by simp))⟩
  have CS : Hid (∀ (W0 : World) (gk : Nat) (hgk : W0.heap.size = gk), Below Y.heap.size Y W0 → Calls Try.prog 26 #[.agg #[.slice ta2 m tc2], .agg #[.int .i64 k1, .string ms], .int .i64 wk', .int .i64 rv, .string v, .slice (some ⟨gk, 0, none⟩) 1 1] (W0.alloc (.cells #[.int .i64 k1, .string ms] 37)) fun e w' => ∃ sa sb sd sq, e = .returned (.tuple #[.agg #[.slice sa m' sd], .int .i64 cd]) ∧ TabNew w' Y.heap.size w'.heap.size sa sb m' sq E ∧ Below Y.heap.size Y w' ∧ Below W0.heap.size W0 w') := fun W0 gk hgk hW0 => by
    subst hgk
    have hW : Below Y.heap.size Y (W0.alloc (.cells #[.int .i64 k1, .string ms] 37)) := hW0.alloc hW0.size _
    have h1 := (HVY.out.2.below hW).tab.slots HD.out.fit (by omega)
    have hs := HD.out.small
    have := s_Finish ta2 tb2 0 m tc2 tq2 D k1 ms wk' rv v ⟨some ⟨W0.heap.size, 0, none⟩, W0.heap.size, 0, 1⟩ 1 (fun _ => k1) (fun _ => ms) _ h1 (by omega) (by omega) hs (keys_one W0 k1 ms (by omega)) (by omega) ⟨by omega, fun j _ => by show ms.size ≤ _; omega⟩
    rw [e1, if_pos rfl, if_pos rfl, ← hE, ← hcd] at this
    rw [hm']
    exact this.mono fun e w' ⟨sa, sb, sd, sq, he, hT, hb⟩ => ⟨sa, sb, sd, sq, he, hT.wide hW.size (Nat.le_refl _), hW.trans (hb.mono hW.size), (bel1 W0 _).trans (hb.mono (by simp))⟩
  clear e1 hm' hE hcd
  go_wp2_with fail
  refine (CI.out Y _ rfl (Below.refl _ _)).mono ?_
  rintro e w2 ⟨sa, sb, sd, sq, rfl, T2, B2, -⟩
  have hbY2 : Hid (Below Y.heap.size Y (w2.alloc (.cells #[.slice sa m' sd] 28))) := B2.alloc B2.size _
  have z2 : (w2.alloc (.cells #[.slice sa m' sd] 28)).cell? ⟨x2, 0, none⟩ = some (.slice ta2 m tc2) := (HVY.out.2.below hbY2.out).row.cell (i := 0) (by omega)
  have q2 : (w2.alloc (.cells #[.slice sa m' sd] 28)).cell? ⟨kb, 0, none⟩ = some (.int .i64 k1) := (HKY.out.of_block (hbY2.out.block _ HKY.out.lt)).cell (i := 0) (by omega)
  have q3 : (w2.alloc (.cells #[.slice sa m' sd] 28)).cell? ⟨kb, 1, none⟩ = some (.string ms) := (HKY.out.of_block (hbY2.out.block _ HKY.out.lt)).cell (i := 1) (by omega)
  have HT2 : Hid (TabNew w2 Y.heap.size w2.heap.size sa sb m' sq E ∧ Below Y.heap.size Y w2) := ⟨T2, B2⟩
  clear T2 B2 CI z1 q0 q1
  go_wp2_with fail
  refine (CS.out (w2.alloc (.cells #[.slice sa m' sd] 28)) (w2.heap.size + 1) (by simp) hbY2.out).mono ?_
  rintro e w3 ⟨sa3, sb3, sd3, sq3, rfl, T3, B3, B3'⟩
  clear CS z2 q2 q3
  go_upto_region 32 with fail
  obtain ⟨Z, hZ⟩ : ∃ Z, Z = w3.alloc (.cells #[.slice sa3 m' sd3] 28) := ⟨_, rfl⟩
  obtain ⟨b5, hb5⟩ : ∃ b5, b5 = w2.heap.size := ⟨_, rfl⟩
  obtain ⟨b7, hb7⟩ : ∃ b7, b7 = w3.heap.size := ⟨_, rfl⟩
  rw [← hZ, ← hb5, ← hb7]
  have B23 : Below w2.heap.size w2 Z := by
    rw [hZ]
    have h2 : Below w2.heap.size w2 w3 := (bel1 w2 (.cells #[.slice sa m' sd] 28)).trans (B3'.mono (by simp))
    exact h2.alloc h2.size _
  have HBZ : Hid (Below Y.heap.size Y Z) := HT2.out.2.trans (B23.mono HT2.out.2.size)
  have HR5 : Hid (Z.rowIs b5 28 1 (fun _ => .slice sa m' sd)) := by
    rw [hb5]
    have h2 : Below (w2.alloc (.cells #[.slice sa m' sd] 28)).heap.size (w2.alloc (.cells #[.slice sa m' sd] 28)) Z := by rw [hZ]; exact B3'.alloc B3'.size _
    exact (row1 w2 _ _).of_block (h2.block _ (by simp))
  have HR7 : Hid (Z.rowIs b7 28 1 (fun _ => .slice sa3 m' sd3)) := by rw [hZ, hb7]; exact row1 w3 _ _
  have HTZ : Hid (TabNew Z Y.heap.size w2.heap.size sa sb m' sq E ∧ ∃ l3 h3, Y.heap.size ≤ l3 ∧ TabNew Z l3 h3 sa3 sb3 m' sq3 E) := by
    refine ⟨HT2.out.1.below B23, Y.heap.size, w3.heap.size, Nat.le_refl _, ?_⟩
    rw [hZ]; exact T3.below (bel1 _ _)
  have HNB : Hid (hb ≠ x1 ∧ hb ≠ x2 ∧ kb ≠ x1 ∧ kb ≠ x2) := ⟨HNH.out.1, HNH.out.2.1, HNH.out.2.2.1, HNH.out.2.2.2⟩
  have hyl : x1 < Y.heap.size ∧ x2 < Y.heap.size := ⟨HVY.out.1.row.lt, HVY.out.2.row.lt⟩
  have ho5 : Y.heap.size ≤ b5 := by rw [hb5]; exact HT2.out.2.size
  have ho7 : Y.heap.size ≤ b7 := by rw [hb7]; exact B3.size
  have HRZ : Hid (Z.rowIs hb 40 9 (sc ⟨oa, 0, 0, cp⟩ d)) := HRH.out.of_block (HBZ.out.block _ HRH.out.lt)
  have HKZ : Hid (Z.rowIs kb 37 2 (fun i => if i = 0 then .int .i64 k1 else .string ms)) := HKY.out.of_block (HBZ.out.block _ HKY.out.lt)
  clear hZ hb5 hb7 B23 B3 B3' T3 hbY2
  clear hms hvs
  obtain ⟨l3, h3, hl3, T3⟩ := HTZ.out.2
  have HFZ : Hid (FT w ((Z.setCell ⟨x1, 0, none⟩ (.slice sa m' sd)).setCell ⟨x2, 0, none⟩ (.slice sa3 m' sd3)) x1 x2 m' E) := HFY.out.put HBZ.out HTZ.out.1 T3 (Nat.le_refl _) hl3
  clear T3
  have e5 := HR5.out.cell (i := 0) (by omega)
  have e7 := HR7.out.cell (i := 0) (by omega)
  have g1 := (HVY.out.1.row.of_block (HBZ.out.block _ HVY.out.1.row.lt)).cell (i := 0) (by omega)
  have g2 := (HVY.out.2.row.of_block (HBZ.out.block _ HVY.out.2.row.lt)).cell (i := 0) (by omega)
  have f1 := (HVY.out.1.row.of_block (HBZ.out.block _ HVY.out.1.row.lt)).frozen 0
  have f2 := (HVY.out.2.row.of_block (HBZ.out.block _ HVY.out.2.row.lt)).frozen 0
  have n1 : x1 ≠ x2 := HFY.out.ne
  have n2 : x2 ≠ x1 := fun e => n1 e.symm
  have n3 : b7 ≠ x1 := by omega
  have n4 : x1 ≠ b7 := by omega
  go_upto_if 158 with fail
  obtain ⟨ZY, hZY⟩ : ∃ ZY, ZY = ((Z.setCell ⟨x1, 0, none⟩ (.slice sa m' sd)).setCell ⟨x2, 0, none⟩ (.slice sa3 m' sd3)) := ⟨_, rfl⟩
  rw [← hZY]
  rw [← hZY] at HFZ
  have HRZ2 : Hid (ZY.rowIs hb 40 9 (sc ⟨oa, 0, 0, cp⟩ d)) := by
    have a1 := HNB.out
    rw [hZY]; exact (HRZ.out.setOther (a := ⟨x1, 0, none⟩) (by show hb ≠ x1; omega) _).setOther (a := ⟨x2, 0, none⟩) (by show hb ≠ x2; omega) _
  have HKZ2 : Hid (ZY.rowIs kb 37 2 (fun i => if i = 0 then .int .i64 k1 else .string ms)) := by
    have a1 := HNB.out
    rw [hZY]; exact (HKZ.out.setOther (a := ⟨x1, 0, none⟩) (by show kb ≠ x1; omega) _).setOther (a := ⟨x2, 0, none⟩) (by show kb ≠ x2; omega) _
  clear hZY e5 e7 g1 g2 f1 f2 n1 n2 n3 n4 HRZ HKZ
  go_cut [24, 25] from 43 to 257 (fun s24 s25 wx => Hid (FT w wx x1 x2 m' E))
  case first =>
    by_cases v0 : cd = 0
    · have HV0 : Hid (cd = 0) := v0
      have v3 : (cd == 0) = true := by rw [beq_iff_eq]; exact v0
      clear v0
      obtain ⟨va, vb, vc, vlo, vhi, vq, vv1⟩ := HFZ.out.v1
      have HVZ : Hid (V1 ZY x1 x1 x2 m' E va vb vc vlo vhi vq) := vv1
      clear vv1
      have s1 := HVZ.out.row.cell (i := 0) (by omega)
      have q0 : ZY.cell? ⟨kb, 0, none⟩ = some (.int .i64 k1) := HKZ2.out.cell (i := 0) (by omega)
      have q1 : ZY.cell? ⟨kb, 1, none⟩ = some (.string ms) := HKZ2.out.cell (i := 1) (by omega)
      have hle := HDE.out.len
      obtain ⟨chg, hchg⟩ : ∃ chg, chg = (fin d rv v 1 (fun _ => k1) (fun _ => ms)).chg := ⟨_, rfl⟩
      have HCH : Hid (chg = if d.has && (d.v.toList == v.toList) then d.chg else rv) := hchg
      have CF : Hid (Calls Try.prog 19 #[.agg #[.slice va m' vc], .agg #[.int .i64 k1, .string ms]] ZY fun e w' => ∃ oa5 cp5, e = .returned (.agg #[.int .i64 d.k, .string d.m, .bool true, .string v, .slice oa5 1 cp5, .int .i64 rv, .int .i64 chg, .int .i64 0, .int .i64 0]) ∧ Hid (Below ZY.heap.size ZY w')) := by
        have := t_Find va vb 0 m' vc vq E k1 ms ZY (HVZ.out.tab.slots HDE.out.fit (by omega)) HDE.out.small
        rw [HFN.out HV0.out] at this
        rw [hchg]
        exact this.mono fun e w' ⟨oa5, cp5, he, _, hb⟩ => ⟨oa5, cp5, he, hb⟩
      clear hchg
      go_wp2_with fail
      refine CF.out.mono ?_
      rintro e w5 ⟨oa5, cp5, rfl, HB5⟩
      clear s1 q0 q1 CF
      have HB6 : Hid (Below ZY.heap.size ZY (w5.alloc (.cells #[.int .i64 d.k, .string d.m, .bool true, .string v, .slice oa5 1 cp5, .int .i64 rv, .int .i64 chg, .int .i64 0, .int .i64 0] 40))) := HB5.out.alloc HB5.out.size _
      obtain ⟨h0, h1, h2, h3', h4, h5, h6, h7, h8⟩ := nine_sc (HRZ2.out.of_block (HB6.out.block _ HRZ2.out.lt))
      have HFE : Hid (FT w (w5.alloc (.cells #[.int .i64 d.k, .string d.m, .bool true, .string v, .slice oa5 1 cp5, .int .i64 rv, .int .i64 chg, .int .i64 0, .int .i64 0] 40)) x1 x2 m' E) := HFZ.out.below HB6.out
      obtain ⟨hh, hhe⟩ : ∃ hh, d.has = hh := ⟨_, rfl⟩
      obtain ⟨se, hse⟩ : ∃ se, (d.v.toList == v.toList) = se := ⟨_, rfl⟩
      have HHE : Hid (d.has = hh ∧ (d.v.toList == v.toList) = se) := ⟨hhe, hse⟩
      rw [hhe] at h2
      clear hhe
      cases hh
      · have hc9 : (chg == rv) = true := by rw [HCH.out, HHE.out.1]; simp
        have hc8 : (chg != rv) = false := by rw [bne, hc9]; rfl
        go_wp2
        go_meet
        case rel => exact HFE
      · cases se
        · have hc9 : (chg == rv) = true := by rw [HCH.out, HHE.out.1, HHE.out.2]; simp
          have hc8 : (chg != rv) = false := by rw [bne, hc9]; rfl
          go_wp2
          go_meet
          case rel => exact HFE
        · have hc9 : (chg == d.chg) = true := by rw [HCH.out, HHE.out.1, HHE.out.2]; simp
          have hc8 : (chg != d.chg) = false := by rw [bne, hc9]; rfl
          go_wp2
          go_meet
          case rel => exact HFE
    · have v3 : (cd == 0) = false := beq_eq_false_iff_ne.2 v0
      clear v0
      go_wp2
      go_meet
      case rel => exact HFZ
  have HFZ := hcut
  clear HRZ2 HKZ2
  go_upto_region 55 with fail
  obtain ⟨ZZ, hZZ⟩ : ∃ ZZ, ZZ = wc := ⟨_, rfl⟩
  rw [← hZZ]
  rw [← hZZ] at HFZ
  clear hZZ
  obtain ⟨va, vb, vc, vlo, vhi, vq, vv1⟩ := HFZ.out.v1
  obtain ⟨va2, vb2, vc2, vlo2, vhi2, vq2, vv2⟩ := HFZ.out.v2
  have HVZ : Hid (V1 ZZ x1 x1 x2 m' E va vb vc vlo vhi vq ∧ V1 ZZ x2 x1 x2 m' E va2 vb2 vc2 vlo2 vhi2 vq2) := ⟨vv1, vv2⟩
  clear vv1 vv2
  have s1 := HVZ.out.1.row.cell (i := 0) (by omega)
  have hle := HDE.out.len
  have hce := HDE.out.cap
  have CV : Hid (Calls Try.prog 34 #[.agg #[.slice va m' vc]] ZZ fun e w' => e = .returned (.bool true) ∧ Hid (Below ZZ.heap.size ZZ w')) := by
    have := c7 va vb 0 m' vc vq E ZZ (HVZ.out.1.tab.slots HDE.out.fit (by omega))
    rw [HDE.out.vt] at this
    exact this.mono fun e w' ⟨he, hb⟩ => ⟨he, hb⟩
  go_wp2_with fail
  refine CV.out.mono ?_
  rintro e w9 ⟨rfl, HB9⟩
  clear s1 CV
  have s1 := (HVZ.out.1.below HB9.out).row.cell (i := 0) (by omega)
  have s2 := (HVZ.out.2.below HB9.out).row.cell (i := 0) (by omega)
  have hcn : ¬ cap < (m' : Int) := by omega
  have hw1 : IntKind.i64.wrap ((k : Int) + 1) = (k : Int) + 1 := by rw [IntKind.wrap_i64]; omega
  go_wp2
  refine ⟨?_, by simp [Wmu, intOf]; omega⟩
  unfold WI
  refine ⟨_, _, _, _, _, _, _, _, _, _, _, _, _, _, _, _, _, _, _, _, _, _, _, _, _, _, _, _, _, _, _, _, _, _, _, _, _, _, _, _, _, _, _, _, _, _, _, _, _, _, _, _, _, _, _, _, _, _, _, _, _, _, _, _, _, _, _, _, _, _, _, _, _, _, _, _, _, _, _, _, _, _, _, _, _, _, _, _, _, _, _, _, _, _, _, _, _, _, _, _, _, _, _, _, _, _, _, _, _, _, _, _, _, _, _, _, _, _, _, _, _, _, _, _, _, _, _, _, _, _, _, _, _, _, _, _, _, _, _, _, _, _, _, _, _, _, _, _, _, _, _, _, _, _, _, _, _, _, _, _, _, _, _, _, _, _, _, _, _, _, _, _, _, _, _, _, _, _, _, _, _, _, _, _, _, _, _, _, _, _, _, _, _, _, _, _, _, _, _, _, _, _, _, _, _, _, _, _, _, _, _, _, _, _, _, _, _, _, _, _, _, _, _, _, _, _, _, _, _, _, _, _, _, _, _, _, _, _, _, ?_, rfl⟩
  exact ⟨k + 1, m', rv, E, by omega, by first | rfl | (congr 1), rfl, hr1, by omega, HFZ.out.below HB9.out, HDE.out⟩

end Go.Proofs.Ytpbebpcoeeednaa

