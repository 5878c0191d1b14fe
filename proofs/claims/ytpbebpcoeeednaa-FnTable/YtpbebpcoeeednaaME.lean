/-
  Tables: the loop of the law's run.
-/
import Derived.Test.YtpbebpcoeeednaaMA
import Derived.Test.YtpbebpcoeeednaaMC
import Derived.Test.YtpbebpcoeeednaaMF
import Derived.Test.YtpbebpcoeeednaaTabR
import Derived.Deep.DeepCutAuto
import Derived.Test.YtpbebpcoeeednaaRows
import Derived.WalkKit
import Derived.ProofKit
import Derived.OpenShut
import Derived.ChangeOld
import Derived.Below
import Derived.Deep.Slices
namespace Go.Proofs.Ytpbebpcoeeednaa
open Go.RowKit

set_option maxRecDepth 1000000 in
set_option maxHeartbeats 8000000 in
theorem caseExit (w : World) (ao : Option Addr) (n c N x1 x2 : Nat) (cap : Int) (c1 c30 c31 c32 c33 c34 c35 c36 c37 c38 c39 c40 c41 c42 c258 c259 : Value) (wr : World) (k m : Nat) (rv : Int) (D : Nat → SD) (HF : Hid (FT w wr x1 x2 m D)) (HD : Hid (DI m D cap)) (hr1 : 1 ≤ rv) (hr2 : rv ≤ k + 1) (hk : k ≤ N) (hk2 : ¬ k < N) (Q0 : Exit → Act → World → Prop) (hexit : ∀ a' w'', WI w ao n c N x1 x2 cap c1 c30 c31 c32 c33 c34 c35 c36 c37 c38 c39 c40 c41 c42 c258 c259 a' w'' → Q0 (.exit 0) a' w'') (u2 u9 u10 u11 u12 u13 u14 u15 u16 u17 u18 u19 u20 u21 u22 u23 u24 u25 u26 u27 u28 u29 u43 u44 u45 u46 u47 u48 u49 u50 u51 u52 u53 u54 u55 u56 u57 u58 u59 u60 u61 u62 u63 u64 u65 u66 u67 u68 u69 u70 u71 u72 u73 u74 u75 u76 u77 u78 u79 u80 u81 u82 u83 u84 u85 u86 u87 u88 u89 u90 u91 u92 u93 u94 u95 u96 u97 u98 u99 u100 u101 u102 u103 u104 u105 u106 u107 u108 u109 u110 u111 u112 u113 u114 u115 u116 u117 u118 u119 u120 u121 u122 u123 u124 u125 u126 u127 u128 u129 u130 u131 u132 u133 u134 u135 u136 u137 u138 u139 u140 u141 u142 u143 u144 u145 u146 u147 u148 u149 u150 u151 u152 u153 u154 u155 u156 u157 u158 u159 u160 u161 u162 u163 u164 u165 u166 u167 u168 u169 u170 u171 u172 u173 u174 u175 u176 u177 u178 u179 u180 u181 u182 u183 u184 u185 u186 u187 u188 u189 u190 u191 u192 u193 u194 u195 u196 u197 u198 u199 u200 u201 u202 u203 u204 u205 u206 u207 u208 u209 u210 u211 u212 u213 u214 u215 u216 u217 u218 u219 u220 u221 u222 u223 u224 u225 u226 u227 u228 u229 u230 u231 u232 u233 u234 u235 u236 u237 u238 u239 u240 u241 u242 u243 u244 u245 u246 u247 u248 u249 u250 u251 u252 u253 u254 u255 u256 u257 : Value) :
    Code.wp Try.prog runBody (Exit.then (fun a' w'' => WI w ao n c N x1 x2 cap c1 c30 c31 c32 c33 c34 c35 c36 c37 c38 c39 c40 c41 c42 c258 c259 a' w'' ∧ Wmu N a' w'' < Wmu N ⟨#[.slice ao n c, c1, u2, .pointer (some ⟨x1, 0, none⟩), .pointer (some ⟨x2, 0, none⟩), .int .i64 rv, .int .i64 cap, .int .i64 (N : Int), .int .i64 (k : Int), u9, u10, u11, u12, u13, u14, u15, u16, u17, u18, u19, u20, u21, u22, u23, u24, u25, u26, u27, u28, u29, c30, c31, c32, c33, c34, c35, c36, c37, c38, c39, c40, c41, c42, u43, u44, u45, u46, u47, u48, u49, u50, u51, u52, u53, u54, u55, u56, u57, u58, u59, u60, u61, u62, u63, u64, u65, u66, u67, u68, u69, u70, u71, u72, u73, u74, u75, u76, u77, u78, u79, u80, u81, u82, u83, u84, u85, u86, u87, u88, u89, u90, u91, u92, u93, u94, u95, u96, u97, u98, u99, u100, u101, u102, u103, u104, u105, u106, u107, u108, u109, u110, u111, u112, u113, u114, u115, u116, u117, u118, u119, u120, u121, u122, u123, u124, u125, u126, u127, u128, u129, u130, u131, u132, u133, u134, u135, u136, u137, u138, u139, u140, u141, u142, u143, u144, u145, u146, u147, u148, u149, u150, u151, u152, u153, u154, u155, u156, u157, u158, u159, u160, u161, u162, u163, u164, u165, u166, u167, u168, u169, u170, u171, u172, u173, u174, u175, u176, u177, u178, u179, u180, u181, u182, u183, u184, u185, u186, u187, u188, u189, u190, u191, u192, u193, u194, u195, u196, u197, u198, u199, u200, u201, u202, u203, u204, u205, u206, u207, u208, u209, u210, u211, u212, u213, u214, u215, u216, u217, u218, u219, u220, u221, u222, u223, u224, u225, u226, u227, u228, u229, u230, u231, u232, u233, u234, u235, u236, u237, u238, u239, u240, u241, u242, u243, u244, u245, u246, u247, u248, u249, u250, u251, u252, u253, u254, u255, u256, u257, c258, c259], []⟩ wr) Q0) ⟨#[.slice ao n c, c1, u2, .pointer (some ⟨x1, 0, none⟩), .pointer (some ⟨x2, 0, none⟩), .int .i64 rv, .int .i64 cap, .int .i64 (N : Int), .int .i64 (k : Int), u9, u10, u11, u12, u13, u14, u15, u16, u17, u18, u19, u20, u21, u22, u23, u24, u25, u26, u27, u28, u29, c30, c31, c32, c33, c34, c35, c36, c37, c38, c39, c40, c41, c42, u43, u44, u45, u46, u47, u48, u49, u50, u51, u52, u53, u54, u55, u56, u57, u58, u59, u60, u61, u62, u63, u64, u65, u66, u67, u68, u69, u70, u71, u72, u73, u74, u75, u76, u77, u78, u79, u80, u81, u82, u83, u84, u85, u86, u87, u88, u89, u90, u91, u92, u93, u94, u95, u96, u97, u98, u99, u100, u101, u102, u103, u104, u105, u106, u107, u108, u109, u110, u111, u112, u113, u114, u115, u116, u117, u118, u119, u120, u121, u122, u123, u124, u125, u126, u127, u128, u129, u130, u131, u132, u133, u134, u135, u136, u137, u138, u139, u140, u141, u142, u143, u144, u145, u146, u147, u148, u149, u150, u151, u152, u153, u154, u155, u156, u157, u158, u159, u160, u161, u162, u163, u164, u165, u166, u167, u168, u169, u170, u171, u172, u173, u174, u175, u176, u177, u178, u179, u180, u181, u182, u183, u184, u185, u186, u187, u188, u189, u190, u191, u192, u193, u194, u195, u196, u197, u198, u199, u200, u201, u202, u203, u204, u205, u206, u207, u208, u209, u210, u211, u212, u213, u214, u215, u216, u217, u218, u219, u220, u221, u222, u223, u224, u225, u226, u227, u228, u229, u230, u231, u232, u233, u234, u235, u236, u237, u238, u239, u240, u241, u242, u243, u244, u245, u246, u247, u248, u249, u250, u251, u252, u253, u254, u255, u256, u257, c258, c259], []⟩ wr := by
  have hkN : ¬ (k : Int) < (N : Int) := by omega
  conv => arg 2; whnf
  go_wp2
  unfold WI
  refine ⟨_, _, _, _, _, _, _, _, _, _, _, _, _, _, _, _, _, _, _, _, _, _, _, _, _, _, _, _, _, _, _, _, _, _, _, _, _, _, _, _, _, _, _, _, _, _, _, _, _, _, _, _, _, _, _, _, _, _, _, _, _, _, _, _, _, _, _, _, _, _, _, _, _, _, _, _, _, _, _, _, _, _, _, _, _, _, _, _, _, _, _, _, _, _, _, _, _, _, _, _, _, _, _, _, _, _, _, _, _, _, _, _, _, _, _, _, _, _, _, _, _, _, _, _, _, _, _, _, _, _, _, _, _, _, _, _, _, _, _, _, _, _, _, _, _, _, _, _, _, _, _, _, _, _, _, _, _, _, _, _, _, _, _, _, _, _, _, _, _, _, _, _, _, _, _, _, _, _, _, _, _, _, _, _, _, _, _, _, _, _, _, _, _, _, _, _, _, _, _, _, _, _, _, _, _, _, _, _, _, _, _, _, _, _, _, _, _, _, _, _, _, _, _, _, _, _, _, _, _, _, _, _, _, _, _, _, _, _, _, ?_, rfl⟩
  exact ⟨k, m, rv, D, hk, rfl, rfl, hr1, hr2, HF.out, HD.out⟩

set_option maxRecDepth 1000000 in
set_option maxHeartbeats 8000000 in
theorem runRound (w : World) (ao : Option Addr) (n c N x1 x2 : Nat) (cap : Int) (c1 c30 c31 c32 c33 c34 c35 c36 c37 c38 c39 c40 c41 c42 c258 c259 : Value) (b o : Nat) (C : Nat → Int) (HC : Hid (∀ W, Below w.heap.size w W → BytesAt W ao b o n C)) (hc1 : 3 ≤ cap) (hc2 : cap ≤ 6) (hN : N ≤ 80) (hNn : N ≤ n) (Q0 : Exit → Act → World → Prop) (hexit : ∀ a' w'', WI w ao n c N x1 x2 cap c1 c30 c31 c32 c33 c34 c35 c36 c37 c38 c39 c40 c41 c42 c258 c259 a' w'' → Q0 (.exit 0) a' w'') (a : Act) (w' : World) (hI : WI w ao n c N x1 x2 cap c1 c30 c31 c32 c33 c34 c35 c36 c37 c38 c39 c40 c41 c42 c258 c259 a w') :
    Code.wp Try.prog runBody (Exit.then (fun a' w'' => WI w ao n c N x1 x2 cap c1 c30 c31 c32 c33 c34 c35 c36 c37 c38 c39 c40 c41 c42 c258 c259 a' w'' ∧ Wmu N a' w'' < Wmu N a w') Q0) a w' := by
  unfold WI at hI
  obtain ⟨u2, hI⟩ := hI
  obtain ⟨u5, hI⟩ := hI
  obtain ⟨u8, hI⟩ := hI
  obtain ⟨u9, hI⟩ := hI
  obtain ⟨u10, hI⟩ := hI
  obtain ⟨u11, hI⟩ := hI
  obtain ⟨u12, hI⟩ := hI
  obtain ⟨u13, hI⟩ := hI
  obtain ⟨u14, hI⟩ := hI
  obtain ⟨u15, hI⟩ := hI
  obtain ⟨u16, hI⟩ := hI
  obtain ⟨u17, hI⟩ := hI
  obtain ⟨u18, hI⟩ := hI
  obtain ⟨u19, hI⟩ := hI
  obtain ⟨u20, hI⟩ := hI
  obtain ⟨u21, hI⟩ := hI
  obtain ⟨u22, hI⟩ := hI
  obtain ⟨u23, hI⟩ := hI
  obtain ⟨u24, hI⟩ := hI
  obtain ⟨u25, hI⟩ := hI
  obtain ⟨u26, hI⟩ := hI
  obtain ⟨u27, hI⟩ := hI
  obtain ⟨u28, hI⟩ := hI
  obtain ⟨u29, hI⟩ := hI
  obtain ⟨u43, hI⟩ := hI
  obtain ⟨u44, hI⟩ := hI
  obtain ⟨u45, hI⟩ := hI
  obtain ⟨u46, hI⟩ := hI
  obtain ⟨u47, hI⟩ := hI
  obtain ⟨u48, hI⟩ := hI
  obtain ⟨u49, hI⟩ := hI
  obtain ⟨u50, hI⟩ := hI
  obtain ⟨u51, hI⟩ := hI
  obtain ⟨u52, hI⟩ := hI
  obtain ⟨u53, hI⟩ := hI
  obtain ⟨u54, hI⟩ := hI
  obtain ⟨u55, hI⟩ := hI
  obtain ⟨u56, hI⟩ := hI
  obtain ⟨u57, hI⟩ := hI
  obtain ⟨u58, hI⟩ := hI
  obtain ⟨u59, hI⟩ := hI
  obtain ⟨u60, hI⟩ := hI
  obtain ⟨u61, hI⟩ := hI
  obtain ⟨u62, hI⟩ := hI
  obtain ⟨u63, hI⟩ := hI
  obtain ⟨u64, hI⟩ := hI
  obtain ⟨u65, hI⟩ := hI
  obtain ⟨u66, hI⟩ := hI
  obtain ⟨u67, hI⟩ := hI
  obtain ⟨u68, hI⟩ := hI
  obtain ⟨u69, hI⟩ := hI
  obtain ⟨u70, hI⟩ := hI
  obtain ⟨u71, hI⟩ := hI
  obtain ⟨u72, hI⟩ := hI
  obtain ⟨u73, hI⟩ := hI
  obtain ⟨u74, hI⟩ := hI
  obtain ⟨u75, hI⟩ := hI
  obtain ⟨u76, hI⟩ := hI
  obtain ⟨u77, hI⟩ := hI
  obtain ⟨u78, hI⟩ := hI
  obtain ⟨u79, hI⟩ := hI
  obtain ⟨u80, hI⟩ := hI
  obtain ⟨u81, hI⟩ := hI
  obtain ⟨u82, hI⟩ := hI
  obtain ⟨u83, hI⟩ := hI
  obtain ⟨u84, hI⟩ := hI
  obtain ⟨u85, hI⟩ := hI
  obtain ⟨u86, hI⟩ := hI
  obtain ⟨u87, hI⟩ := hI
  obtain ⟨u88, hI⟩ := hI
  obtain ⟨u89, hI⟩ := hI
  obtain ⟨u90, hI⟩ := hI
  obtain ⟨u91, hI⟩ := hI
  obtain ⟨u92, hI⟩ := hI
  obtain ⟨u93, hI⟩ := hI
  obtain ⟨u94, hI⟩ := hI
  obtain ⟨u95, hI⟩ := hI
  obtain ⟨u96, hI⟩ := hI
  obtain ⟨u97, hI⟩ := hI
  obtain ⟨u98, hI⟩ := hI
  obtain ⟨u99, hI⟩ := hI
  obtain ⟨u100, hI⟩ := hI
  obtain ⟨u101, hI⟩ := hI
  obtain ⟨u102, hI⟩ := hI
  obtain ⟨u103, hI⟩ := hI
  obtain ⟨u104, hI⟩ := hI
  obtain ⟨u105, hI⟩ := hI
  obtain ⟨u106, hI⟩ := hI
  obtain ⟨u107, hI⟩ := hI
  obtain ⟨u108, hI⟩ := hI
  obtain ⟨u109, hI⟩ := hI
  obtain ⟨u110, hI⟩ := hI
  obtain ⟨u111, hI⟩ := hI
  obtain ⟨u112, hI⟩ := hI
  obtain ⟨u113, hI⟩ := hI
  obtain ⟨u114, hI⟩ := hI
  obtain ⟨u115, hI⟩ := hI
  obtain ⟨u116, hI⟩ := hI
  obtain ⟨u117, hI⟩ := hI
  obtain ⟨u118, hI⟩ := hI
  obtain ⟨u119, hI⟩ := hI
  obtain ⟨u120, hI⟩ := hI
  obtain ⟨u121, hI⟩ := hI
  obtain ⟨u122, hI⟩ := hI
  obtain ⟨u123, hI⟩ := hI
  obtain ⟨u124, hI⟩ := hI
  obtain ⟨u125, hI⟩ := hI
  obtain ⟨u126, hI⟩ := hI
  obtain ⟨u127, hI⟩ := hI
  obtain ⟨u128, hI⟩ := hI
  obtain ⟨u129, hI⟩ := hI
  obtain ⟨u130, hI⟩ := hI
  obtain ⟨u131, hI⟩ := hI
  obtain ⟨u132, hI⟩ := hI
  obtain ⟨u133, hI⟩ := hI
  obtain ⟨u134, hI⟩ := hI
  obtain ⟨u135, hI⟩ := hI
  obtain ⟨u136, hI⟩ := hI
  obtain ⟨u137, hI⟩ := hI
  obtain ⟨u138, hI⟩ := hI
  obtain ⟨u139, hI⟩ := hI
  obtain ⟨u140, hI⟩ := hI
  obtain ⟨u141, hI⟩ := hI
  obtain ⟨u142, hI⟩ := hI
  obtain ⟨u143, hI⟩ := hI
  obtain ⟨u144, hI⟩ := hI
  obtain ⟨u145, hI⟩ := hI
  obtain ⟨u146, hI⟩ := hI
  obtain ⟨u147, hI⟩ := hI
  obtain ⟨u148, hI⟩ := hI
  obtain ⟨u149, hI⟩ := hI
  obtain ⟨u150, hI⟩ := hI
  obtain ⟨u151, hI⟩ := hI
  obtain ⟨u152, hI⟩ := hI
  obtain ⟨u153, hI⟩ := hI
  obtain ⟨u154, hI⟩ := hI
  obtain ⟨u155, hI⟩ := hI
  obtain ⟨u156, hI⟩ := hI
  obtain ⟨u157, hI⟩ := hI
  obtain ⟨u158, hI⟩ := hI
  obtain ⟨u159, hI⟩ := hI
  obtain ⟨u160, hI⟩ := hI
  obtain ⟨u161, hI⟩ := hI
  obtain ⟨u162, hI⟩ := hI
  obtain ⟨u163, hI⟩ := hI
  obtain ⟨u164, hI⟩ := hI
  obtain ⟨u165, hI⟩ := hI
  obtain ⟨u166, hI⟩ := hI
  obtain ⟨u167, hI⟩ := hI
  obtain ⟨u168, hI⟩ := hI
  obtain ⟨u169, hI⟩ := hI
  obtain ⟨u170, hI⟩ := hI
  obtain ⟨u171, hI⟩ := hI
  obtain ⟨u172, hI⟩ := hI
  obtain ⟨u173, hI⟩ := hI
  obtain ⟨u174, hI⟩ := hI
  obtain ⟨u175, hI⟩ := hI
  obtain ⟨u176, hI⟩ := hI
  obtain ⟨u177, hI⟩ := hI
  obtain ⟨u178, hI⟩ := hI
  obtain ⟨u179, hI⟩ := hI
  obtain ⟨u180, hI⟩ := hI
  obtain ⟨u181, hI⟩ := hI
  obtain ⟨u182, hI⟩ := hI
  obtain ⟨u183, hI⟩ := hI
  obtain ⟨u184, hI⟩ := hI
  obtain ⟨u185, hI⟩ := hI
  obtain ⟨u186, hI⟩ := hI
  obtain ⟨u187, hI⟩ := hI
  obtain ⟨u188, hI⟩ := hI
  obtain ⟨u189, hI⟩ := hI
  obtain ⟨u190, hI⟩ := hI
  obtain ⟨u191, hI⟩ := hI
  obtain ⟨u192, hI⟩ := hI
  obtain ⟨u193, hI⟩ := hI
  obtain ⟨u194, hI⟩ := hI
  obtain ⟨u195, hI⟩ := hI
  obtain ⟨u196, hI⟩ := hI
  obtain ⟨u197, hI⟩ := hI
  obtain ⟨u198, hI⟩ := hI
  obtain ⟨u199, hI⟩ := hI
  obtain ⟨u200, hI⟩ := hI
  obtain ⟨u201, hI⟩ := hI
  obtain ⟨u202, hI⟩ := hI
  obtain ⟨u203, hI⟩ := hI
  obtain ⟨u204, hI⟩ := hI
  obtain ⟨u205, hI⟩ := hI
  obtain ⟨u206, hI⟩ := hI
  obtain ⟨u207, hI⟩ := hI
  obtain ⟨u208, hI⟩ := hI
  obtain ⟨u209, hI⟩ := hI
  obtain ⟨u210, hI⟩ := hI
  obtain ⟨u211, hI⟩ := hI
  obtain ⟨u212, hI⟩ := hI
  obtain ⟨u213, hI⟩ := hI
  obtain ⟨u214, hI⟩ := hI
  obtain ⟨u215, hI⟩ := hI
  obtain ⟨u216, hI⟩ := hI
  obtain ⟨u217, hI⟩ := hI
  obtain ⟨u218, hI⟩ := hI
  obtain ⟨u219, hI⟩ := hI
  obtain ⟨u220, hI⟩ := hI
  obtain ⟨u221, hI⟩ := hI
  obtain ⟨u222, hI⟩ := hI
  obtain ⟨u223, hI⟩ := hI
  obtain ⟨u224, hI⟩ := hI
  obtain ⟨u225, hI⟩ := hI
  obtain ⟨u226, hI⟩ := hI
  obtain ⟨u227, hI⟩ := hI
  obtain ⟨u228, hI⟩ := hI
  obtain ⟨u229, hI⟩ := hI
  obtain ⟨u230, hI⟩ := hI
  obtain ⟨u231, hI⟩ := hI
  obtain ⟨u232, hI⟩ := hI
  obtain ⟨u233, hI⟩ := hI
  obtain ⟨u234, hI⟩ := hI
  obtain ⟨u235, hI⟩ := hI
  obtain ⟨u236, hI⟩ := hI
  obtain ⟨u237, hI⟩ := hI
  obtain ⟨u238, hI⟩ := hI
  obtain ⟨u239, hI⟩ := hI
  obtain ⟨u240, hI⟩ := hI
  obtain ⟨u241, hI⟩ := hI
  obtain ⟨u242, hI⟩ := hI
  obtain ⟨u243, hI⟩ := hI
  obtain ⟨u244, hI⟩ := hI
  obtain ⟨u245, hI⟩ := hI
  obtain ⟨u246, hI⟩ := hI
  obtain ⟨u247, hI⟩ := hI
  obtain ⟨u248, hI⟩ := hI
  obtain ⟨u249, hI⟩ := hI
  obtain ⟨u250, hI⟩ := hI
  obtain ⟨u251, hI⟩ := hI
  obtain ⟨u252, hI⟩ := hI
  obtain ⟨u253, hI⟩ := hI
  obtain ⟨u254, hI⟩ := hI
  obtain ⟨u255, hI⟩ := hI
  obtain ⟨u256, hI⟩ := hI
  obtain ⟨u257, hI⟩ := hI
  obtain ⟨hrel, rfl⟩ := hI
  obtain ⟨k, m, rv, D, hk, rfl, rfl, hr1, hr2, hF, hD⟩ := hrel
  by_cases hlt : k < N
  · have hrng := (HC.out w (Below.refl _ _)).rng
    obtain ⟨x, hx⟩ : ∃ x, C (k % n) = x := ⟨_, rfl⟩
    obtain ⟨y, hy⟩ : ∃ y, C ((k * 5 + 2) % n) = y := ⟨_, rfl⟩
    have h1 := hrng (k % n) (Nat.mod_lt _ (by omega))
    have h2 := hrng ((k * 5 + 2) % n) (Nat.mod_lt _ (by omega))
    rw [hx] at h1
    rw [hy] at h2
    clear hrng
    by_cases c3 : (x + y) % 8 < 3
    · exact caseClaim w ao n c N x1 x2 cap c1 c30 c31 c32 c33 c34 c35 c36 c37 c38 c39 c40 c41 c42 c258 c259 b o C HC w' k m rv D hF hD hr1 hr2 hc1 hc2 hN hNn hlt x y hx hy h1.1 h1.2 h2.1 h2.2 c3 Q0 u2 u9 u10 u11 u12 u13 u14 u15 u16 u17 u18 u19 u20 u21 u22 u23 u24 u25 u26 u27 u28 u29 u43 u44 u45 u46 u47 u48 u49 u50 u51 u52 u53 u54 u55 u56 u57 u58 u59 u60 u61 u62 u63 u64 u65 u66 u67 u68 u69 u70 u71 u72 u73 u74 u75 u76 u77 u78 u79 u80 u81 u82 u83 u84 u85 u86 u87 u88 u89 u90 u91 u92 u93 u94 u95 u96 u97 u98 u99 u100 u101 u102 u103 u104 u105 u106 u107 u108 u109 u110 u111 u112 u113 u114 u115 u116 u117 u118 u119 u120 u121 u122 u123 u124 u125 u126 u127 u128 u129 u130 u131 u132 u133 u134 u135 u136 u137 u138 u139 u140 u141 u142 u143 u144 u145 u146 u147 u148 u149 u150 u151 u152 u153 u154 u155 u156 u157 u158 u159 u160 u161 u162 u163 u164 u165 u166 u167 u168 u169 u170 u171 u172 u173 u174 u175 u176 u177 u178 u179 u180 u181 u182 u183 u184 u185 u186 u187 u188 u189 u190 u191 u192 u193 u194 u195 u196 u197 u198 u199 u200 u201 u202 u203 u204 u205 u206 u207 u208 u209 u210 u211 u212 u213 u214 u215 u216 u217 u218 u219 u220 u221 u222 u223 u224 u225 u226 u227 u228 u229 u230 u231 u232 u233 u234 u235 u236 u237 u238 u239 u240 u241 u242 u243 u244 u245 u246 u247 u248 u249 u250 u251 u252 u253 u254 u255 u256 u257
    · by_cases c5 : (x + y) % 8 < 5
      · exact caseFin w ao n c N x1 x2 cap c1 c30 c31 c32 c33 c34 c35 c36 c37 c38 c39 c40 c41 c42 c258 c259 b o C HC w' k m rv D hF hD hr1 hr2 hN hNn hlt x y hx hy h1.1 h1.2 h2.1 h2.2 (by omega) c5 Q0 u2 u9 u10 u11 u12 u13 u14 u15 u16 u17 u18 u19 u20 u21 u22 u23 u24 u25 u26 u27 u28 u29 u43 u44 u45 u46 u47 u48 u49 u50 u51 u52 u53 u54 u55 u56 u57 u58 u59 u60 u61 u62 u63 u64 u65 u66 u67 u68 u69 u70 u71 u72 u73 u74 u75 u76 u77 u78 u79 u80 u81 u82 u83 u84 u85 u86 u87 u88 u89 u90 u91 u92 u93 u94 u95 u96 u97 u98 u99 u100 u101 u102 u103 u104 u105 u106 u107 u108 u109 u110 u111 u112 u113 u114 u115 u116 u117 u118 u119 u120 u121 u122 u123 u124 u125 u126 u127 u128 u129 u130 u131 u132 u133 u134 u135 u136 u137 u138 u139 u140 u141 u142 u143 u144 u145 u146 u147 u148 u149 u150 u151 u152 u153 u154 u155 u156 u157 u158 u159 u160 u161 u162 u163 u164 u165 u166 u167 u168 u169 u170 u171 u172 u173 u174 u175 u176 u177 u178 u179 u180 u181 u182 u183 u184 u185 u186 u187 u188 u189 u190 u191 u192 u193 u194 u195 u196 u197 u198 u199 u200 u201 u202 u203 u204 u205 u206 u207 u208 u209 u210 u211 u212 u213 u214 u215 u216 u217 u218 u219 u220 u221 u222 u223 u224 u225 u226 u227 u228 u229 u230 u231 u232 u233 u234 u235 u236 u237 u238 u239 u240 u241 u242 u243 u244 u245 u246 u247 u248 u249 u250 u251 u252 u253 u254 u255 u256 u257
      · by_cases e5 : (x + y) % 8 = 5
        · exact caseConf w ao n c N x1 x2 cap c1 c30 c31 c32 c33 c34 c35 c36 c37 c38 c39 c40 c41 c42 c258 c259 b o C HC w' k m rv D hF hD hr1 hr2 hN hNn hlt x y hx hy h1.1 h1.2 h2.1 h2.2 e5 Q0 u2 u9 u10 u11 u12 u13 u14 u15 u16 u17 u18 u19 u20 u21 u22 u23 u24 u25 u26 u27 u28 u29 u43 u44 u45 u46 u47 u48 u49 u50 u51 u52 u53 u54 u55 u56 u57 u58 u59 u60 u61 u62 u63 u64 u65 u66 u67 u68 u69 u70 u71 u72 u73 u74 u75 u76 u77 u78 u79 u80 u81 u82 u83 u84 u85 u86 u87 u88 u89 u90 u91 u92 u93 u94 u95 u96 u97 u98 u99 u100 u101 u102 u103 u104 u105 u106 u107 u108 u109 u110 u111 u112 u113 u114 u115 u116 u117 u118 u119 u120 u121 u122 u123 u124 u125 u126 u127 u128 u129 u130 u131 u132 u133 u134 u135 u136 u137 u138 u139 u140 u141 u142 u143 u144 u145 u146 u147 u148 u149 u150 u151 u152 u153 u154 u155 u156 u157 u158 u159 u160 u161 u162 u163 u164 u165 u166 u167 u168 u169 u170 u171 u172 u173 u174 u175 u176 u177 u178 u179 u180 u181 u182 u183 u184 u185 u186 u187 u188 u189 u190 u191 u192 u193 u194 u195 u196 u197 u198 u199 u200 u201 u202 u203 u204 u205 u206 u207 u208 u209 u210 u211 u212 u213 u214 u215 u216 u217 u218 u219 u220 u221 u222 u223 u224 u225 u226 u227 u228 u229 u230 u231 u232 u233 u234 u235 u236 u237 u238 u239 u240 u241 u242 u243 u244 u245 u246 u247 u248 u249 u250 u251 u252 u253 u254 u255 u256 u257
        · by_cases e6 : (x + y) % 8 = 6
          · by_cases e4 : y % 4 = 0
            · exact caseRel w ao n c N x1 x2 cap c1 c30 c31 c32 c33 c34 c35 c36 c37 c38 c39 c40 c41 c42 c258 c259 b o C HC w' k m rv D hF hD hr1 hr2 hN hNn hlt x y hx hy h1.1 h1.2 h2.1 h2.2 e6 e4 Q0 u2 u9 u10 u11 u12 u13 u14 u15 u16 u17 u18 u19 u20 u21 u22 u23 u24 u25 u26 u27 u28 u29 u43 u44 u45 u46 u47 u48 u49 u50 u51 u52 u53 u54 u55 u56 u57 u58 u59 u60 u61 u62 u63 u64 u65 u66 u67 u68 u69 u70 u71 u72 u73 u74 u75 u76 u77 u78 u79 u80 u81 u82 u83 u84 u85 u86 u87 u88 u89 u90 u91 u92 u93 u94 u95 u96 u97 u98 u99 u100 u101 u102 u103 u104 u105 u106 u107 u108 u109 u110 u111 u112 u113 u114 u115 u116 u117 u118 u119 u120 u121 u122 u123 u124 u125 u126 u127 u128 u129 u130 u131 u132 u133 u134 u135 u136 u137 u138 u139 u140 u141 u142 u143 u144 u145 u146 u147 u148 u149 u150 u151 u152 u153 u154 u155 u156 u157 u158 u159 u160 u161 u162 u163 u164 u165 u166 u167 u168 u169 u170 u171 u172 u173 u174 u175 u176 u177 u178 u179 u180 u181 u182 u183 u184 u185 u186 u187 u188 u189 u190 u191 u192 u193 u194 u195 u196 u197 u198 u199 u200 u201 u202 u203 u204 u205 u206 u207 u208 u209 u210 u211 u212 u213 u214 u215 u216 u217 u218 u219 u220 u221 u222 u223 u224 u225 u226 u227 u228 u229 u230 u231 u232 u233 u234 u235 u236 u237 u238 u239 u240 u241 u242 u243 u244 u245 u246 u247 u248 u249 u250 u251 u252 u253 u254 u255 u256 u257
            · exact caseNone w ao n c N x1 x2 cap c1 c30 c31 c32 c33 c34 c35 c36 c37 c38 c39 c40 c41 c42 c258 c259 b o C HC w' k m rv D hF hD hr1 hr2 hN hNn hlt x y hx hy h1.1 h1.2 h2.1 h2.2 e6 e4 Q0 u2 u9 u10 u11 u12 u13 u14 u15 u16 u17 u18 u19 u20 u21 u22 u23 u24 u25 u26 u27 u28 u29 u43 u44 u45 u46 u47 u48 u49 u50 u51 u52 u53 u54 u55 u56 u57 u58 u59 u60 u61 u62 u63 u64 u65 u66 u67 u68 u69 u70 u71 u72 u73 u74 u75 u76 u77 u78 u79 u80 u81 u82 u83 u84 u85 u86 u87 u88 u89 u90 u91 u92 u93 u94 u95 u96 u97 u98 u99 u100 u101 u102 u103 u104 u105 u106 u107 u108 u109 u110 u111 u112 u113 u114 u115 u116 u117 u118 u119 u120 u121 u122 u123 u124 u125 u126 u127 u128 u129 u130 u131 u132 u133 u134 u135 u136 u137 u138 u139 u140 u141 u142 u143 u144 u145 u146 u147 u148 u149 u150 u151 u152 u153 u154 u155 u156 u157 u158 u159 u160 u161 u162 u163 u164 u165 u166 u167 u168 u169 u170 u171 u172 u173 u174 u175 u176 u177 u178 u179 u180 u181 u182 u183 u184 u185 u186 u187 u188 u189 u190 u191 u192 u193 u194 u195 u196 u197 u198 u199 u200 u201 u202 u203 u204 u205 u206 u207 u208 u209 u210 u211 u212 u213 u214 u215 u216 u217 u218 u219 u220 u221 u222 u223 u224 u225 u226 u227 u228 u229 u230 u231 u232 u233 u234 u235 u236 u237 u238 u239 u240 u241 u242 u243 u244 u245 u246 u247 u248 u249 u250 u251 u252 u253 u254 u255 u256 u257
          · exact caseRev w ao n c N x1 x2 cap c1 c30 c31 c32 c33 c34 c35 c36 c37 c38 c39 c40 c41 c42 c258 c259 b o C HC w' k m rv D hF hD hr1 hr2 hN hNn hlt x y hx hy h1.1 h1.2 h2.1 h2.2 (by omega) Q0 u2 u9 u10 u11 u12 u13 u14 u15 u16 u17 u18 u19 u20 u21 u22 u23 u24 u25 u26 u27 u28 u29 u43 u44 u45 u46 u47 u48 u49 u50 u51 u52 u53 u54 u55 u56 u57 u58 u59 u60 u61 u62 u63 u64 u65 u66 u67 u68 u69 u70 u71 u72 u73 u74 u75 u76 u77 u78 u79 u80 u81 u82 u83 u84 u85 u86 u87 u88 u89 u90 u91 u92 u93 u94 u95 u96 u97 u98 u99 u100 u101 u102 u103 u104 u105 u106 u107 u108 u109 u110 u111 u112 u113 u114 u115 u116 u117 u118 u119 u120 u121 u122 u123 u124 u125 u126 u127 u128 u129 u130 u131 u132 u133 u134 u135 u136 u137 u138 u139 u140 u141 u142 u143 u144 u145 u146 u147 u148 u149 u150 u151 u152 u153 u154 u155 u156 u157 u158 u159 u160 u161 u162 u163 u164 u165 u166 u167 u168 u169 u170 u171 u172 u173 u174 u175 u176 u177 u178 u179 u180 u181 u182 u183 u184 u185 u186 u187 u188 u189 u190 u191 u192 u193 u194 u195 u196 u197 u198 u199 u200 u201 u202 u203 u204 u205 u206 u207 u208 u209 u210 u211 u212 u213 u214 u215 u216 u217 u218 u219 u220 u221 u222 u223 u224 u225 u226 u227 u228 u229 u230 u231 u232 u233 u234 u235 u236 u237 u238 u239 u240 u241 u242 u243 u244 u245 u246 u247 u248 u249 u250 u251 u252 u253 u254 u255 u256 u257
  · exact caseExit w ao n c N x1 x2 cap c1 c30 c31 c32 c33 c34 c35 c36 c37 c38 c39 c40 c41 c42 c258 c259 w' k m rv D hF hD hr1 hr2 hk hlt Q0 hexit u2 u9 u10 u11 u12 u13 u14 u15 u16 u17 u18 u19 u20 u21 u22 u23 u24 u25 u26 u27 u28 u29 u43 u44 u45 u46 u47 u48 u49 u50 u51 u52 u53 u54 u55 u56 u57 u58 u59 u60 u61 u62 u63 u64 u65 u66 u67 u68 u69 u70 u71 u72 u73 u74 u75 u76 u77 u78 u79 u80 u81 u82 u83 u84 u85 u86 u87 u88 u89 u90 u91 u92 u93 u94 u95 u96 u97 u98 u99 u100 u101 u102 u103 u104 u105 u106 u107 u108 u109 u110 u111 u112 u113 u114 u115 u116 u117 u118 u119 u120 u121 u122 u123 u124 u125 u126 u127 u128 u129 u130 u131 u132 u133 u134 u135 u136 u137 u138 u139 u140 u141 u142 u143 u144 u145 u146 u147 u148 u149 u150 u151 u152 u153 u154 u155 u156 u157 u158 u159 u160 u161 u162 u163 u164 u165 u166 u167 u168 u169 u170 u171 u172 u173 u174 u175 u176 u177 u178 u179 u180 u181 u182 u183 u184 u185 u186 u187 u188 u189 u190 u191 u192 u193 u194 u195 u196 u197 u198 u199 u200 u201 u202 u203 u204 u205 u206 u207 u208 u209 u210 u211 u212 u213 u214 u215 u216 u217 u218 u219 u220 u221 u222 u223 u224 u225 u226 u227 u228 u229 u230 u231 u232 u233 u234 u235 u236 u237 u238 u239 u240 u241 u242 u243 u244 u245 u246 u247 u248 u249 u250 u251 u252 u253 u254 u255 u256 u257

set_option maxRecDepth 1000000 in
theorem runLoop (w : World) (ao : Option Addr) (n c N x1 x2 : Nat) (cap : Int) (c1 c30 c31 c32 c33 c34 c35 c36 c37 c38 c39 c40 c41 c42 c258 c259 : Value) (b o : Nat) (C : Nat → Int) (HC : Hid (∀ W, Below w.heap.size w W → BytesAt W ao b o n C)) (hc1 : 3 ≤ cap) (hc2 : cap ≤ 6) (hN : N ≤ 80) (hNn : N ≤ n) (Q0 : Exit → Act → World → Prop) (hexit : ∀ a' w'', WI w ao n c N x1 x2 cap c1 c30 c31 c32 c33 c34 c35 c36 c37 c38 c39 c40 c41 c42 c258 c259 a' w'' → Q0 (.exit 0) a' w'') (u2 u5 u8 u9 u10 u11 u12 u13 u14 u15 u16 u17 u18 u19 u20 u21 u22 u23 u24 u25 u26 u27 u28 u29 u43 u44 u45 u46 u47 u48 u49 u50 u51 u52 u53 u54 u55 u56 u57 u58 u59 u60 u61 u62 u63 u64 u65 u66 u67 u68 u69 u70 u71 u72 u73 u74 u75 u76 u77 u78 u79 u80 u81 u82 u83 u84 u85 u86 u87 u88 u89 u90 u91 u92 u93 u94 u95 u96 u97 u98 u99 u100 u101 u102 u103 u104 u105 u106 u107 u108 u109 u110 u111 u112 u113 u114 u115 u116 u117 u118 u119 u120 u121 u122 u123 u124 u125 u126 u127 u128 u129 u130 u131 u132 u133 u134 u135 u136 u137 u138 u139 u140 u141 u142 u143 u144 u145 u146 u147 u148 u149 u150 u151 u152 u153 u154 u155 u156 u157 u158 u159 u160 u161 u162 u163 u164 u165 u166 u167 u168 u169 u170 u171 u172 u173 u174 u175 u176 u177 u178 u179 u180 u181 u182 u183 u184 u185 u186 u187 u188 u189 u190 u191 u192 u193 u194 u195 u196 u197 u198 u199 u200 u201 u202 u203 u204 u205 u206 u207 u208 u209 u210 u211 u212 u213 u214 u215 u216 u217 u218 u219 u220 u221 u222 u223 u224 u225 u226 u227 u228 u229 u230 u231 u232 u233 u234 u235 u236 u237 u238 u239 u240 u241 u242 u243 u244 u245 u246 u247 u248 u249 u250 u251 u252 u253 u254 u255 u256 u257 : Value) (w' : World) (hrel : RelT w N x1 x2 cap u5 u8 w') :
    Code.wp Try.prog (Code.loop runBody) Q0 ⟨#[.slice ao n c, c1, u2, .pointer (some ⟨x1, 0, none⟩), .pointer (some ⟨x2, 0, none⟩), u5, .int .i64 cap, .int .i64 (N : Int), u8, u9, u10, u11, u12, u13, u14, u15, u16, u17, u18, u19, u20, u21, u22, u23, u24, u25, u26, u27, u28, u29, c30, c31, c32, c33, c34, c35, c36, c37, c38, c39, c40, c41, c42, u43, u44, u45, u46, u47, u48, u49, u50, u51, u52, u53, u54, u55, u56, u57, u58, u59, u60, u61, u62, u63, u64, u65, u66, u67, u68, u69, u70, u71, u72, u73, u74, u75, u76, u77, u78, u79, u80, u81, u82, u83, u84, u85, u86, u87, u88, u89, u90, u91, u92, u93, u94, u95, u96, u97, u98, u99, u100, u101, u102, u103, u104, u105, u106, u107, u108, u109, u110, u111, u112, u113, u114, u115, u116, u117, u118, u119, u120, u121, u122, u123, u124, u125, u126, u127, u128, u129, u130, u131, u132, u133, u134, u135, u136, u137, u138, u139, u140, u141, u142, u143, u144, u145, u146, u147, u148, u149, u150, u151, u152, u153, u154, u155, u156, u157, u158, u159, u160, u161, u162, u163, u164, u165, u166, u167, u168, u169, u170, u171, u172, u173, u174, u175, u176, u177, u178, u179, u180, u181, u182, u183, u184, u185, u186, u187, u188, u189, u190, u191, u192, u193, u194, u195, u196, u197, u198, u199, u200, u201, u202, u203, u204, u205, u206, u207, u208, u209, u210, u211, u212, u213, u214, u215, u216, u217, u218, u219, u220, u221, u222, u223, u224, u225, u226, u227, u228, u229, u230, u231, u232, u233, u234, u235, u236, u237, u238, u239, u240, u241, u242, u243, u244, u245, u246, u247, u248, u249, u250, u251, u252, u253, u254, u255, u256, u257, c258, c259], []⟩ w' := by
  refine wp_loop (WI w ao n c N x1 x2 cap c1 c30 c31 c32 c33 c34 c35 c36 c37 c38 c39 c40 c41 c42 c258 c259) (Wmu N) ?_ (fun a w'' hI => runRound w ao n c N x1 x2 cap c1 c30 c31 c32 c33 c34 c35 c36 c37 c38 c39 c40 c41 c42 c258 c259 b o C HC hc1 hc2 hN hNn Q0 hexit a w'' hI)
  unfold WI
  exact ⟨u2, u5, u8, u9, u10, u11, u12, u13, u14, u15, u16, u17, u18, u19, u20, u21, u22, u23, u24, u25, u26, u27, u28, u29, u43, u44, u45, u46, u47, u48, u49, u50, u51, u52, u53, u54, u55, u56, u57, u58, u59, u60, u61, u62, u63, u64, u65, u66, u67, u68, u69, u70, u71, u72, u73, u74, u75, u76, u77, u78, u79, u80, u81, u82, u83, u84, u85, u86, u87, u88, u89, u90, u91, u92, u93, u94, u95, u96, u97, u98, u99, u100, u101, u102, u103, u104, u105, u106, u107, u108, u109, u110, u111, u112, u113, u114, u115, u116, u117, u118, u119, u120, u121, u122, u123, u124, u125, u126, u127, u128, u129, u130, u131, u132, u133, u134, u135, u136, u137, u138, u139, u140, u141, u142, u143, u144, u145, u146, u147, u148, u149, u150, u151, u152, u153, u154, u155, u156, u157, u158, u159, u160, u161, u162, u163, u164, u165, u166, u167, u168, u169, u170, u171, u172, u173, u174, u175, u176, u177, u178, u179, u180, u181, u182, u183, u184, u185, u186, u187, u188, u189, u190, u191, u192, u193, u194, u195, u196, u197, u198, u199, u200, u201, u202, u203, u204, u205, u206, u207, u208, u209, u210, u211, u212, u213, u214, u215, u216, u217, u218, u219, u220, u221, u222, u223, u224, u225, u226, u227, u228, u229, u230, u231, u232, u233, u234, u235, u236, u237, u238, u239, u240, u241, u242, u243, u244, u245, u246, u247, u248, u249, u250, u251, u252, u253, u254, u255, u256, u257, hrel, rfl⟩

end Go.Proofs.Ytpbebpcoeeednaa

/-
  Tables: the program's ValidTable.
-/
namespace Go.Proofs.Ytpbebpcoeeednaa
open Go.RowKit

set_option maxHeartbeats 1000000 in
theorem c9 (ao : Option Addr) (b o n c : Nat) (p : Nat → SP) (D : Nat → SD) (w : World) (h1 : SlotsAt w ao b o n p D) :
    Calls Try.prog 35 #[.agg #[.slice ao n c]] w fun e w' => e = .returned (.bool (vt n D)) ∧ Below w.heap.size w w' := by
  have HB : Hid (∀ w', Below w.heap.size w w' → SlotsAt w' ao b o n p D) := fun w' hb => h1.below hb
  clear h1
  go_enter Try.func35, Try.ntmps35
  go_wp2_with fail
  refine (c28 ao b o n c p D _ (by exact HB.out _ (bel1 _ _))).mono ?_
  rintro e w1 ⟨ptr, rfl, hb1, _⟩
  go_wp2
  go_ret
  exact ⟨rfl, (bel1 w _).trans (hb1.mono (by simp))⟩

end Go.Proofs.Ytpbebpcoeeednaa

/-
  Tables: the law on runs of the operations.
-/
namespace Go.Proofs.Ytpbebpcoeeednaa
open Go.RowKit

theorem di_zero (D : Nat → SD) {cap : Int} (h : 0 ≤ cap) : DI 0 D cap :=
  ⟨vt_mk (by omega) (fun i hi => absurd hi (Nat.not_lt_zero _)) (fun _ j _ hj => absurd hj (Nat.not_lt_zero j)), fun i hi => absurd hi (Nat.not_lt_zero _), h⟩

set_option maxRecDepth 1000000 in
set_option maxHeartbeats 8000000 in
theorem l_Table (ao : Option Addr) (b o n c : Nat) (C : Nat → Int) (w : World) (h : BytesAt w ao b o n C) :
    Calls Try.prog 8 #[.slice ao n c] w fun e w' => e = .returned (.bool true) ∧ Below w.heap.size w w' := by
  have HC : Hid (∀ W, Below w.heap.size w W → BytesAt W ao b o n C) := fun W hW => h.below hW
  have hlen := h.len
  clear h
  by_cases hn : 1048576 < n
  · go_enter Try.func8, Try.ntmps8
    go_wp2
    go_ret
    exact ⟨rfl, Below.refl _ _⟩
  have F0 : Hid (FT w ((w.alloc (.cells #[.slice none 0 0] 28)).alloc (.cells #[.slice none 0 0] 28)) w.heap.size (w.heap.size + 1) 0 (fun _ => ⟨0, ByteArray.empty, false, ByteArray.empty, 0, fun _ => 0, fun _ => ByteArray.empty, 0, 0, 0, 0⟩)) := by
    have r2 := row1 (w.alloc (.cells #[.slice none 0 0] 28)) (.slice none 0 0) 28
    rw [World.size_alloc] at r2
    exact ⟨bel2 _ _ _, ⟨none, 0, 0, w.heap.size + 2, w.heap.size + 2, fun _ => ⟨none, 0, 0, 0⟩, (row1 w _ _).alloc _, tab_none _ _ _ _ _ _ _, by omega, by omega⟩, ⟨none, 0, 0, w.heap.size + 2, w.heap.size + 2, fun _ => ⟨none, 0, 0, 0⟩, r2, tab_none _ _ _ _ _ _ _, by omega, by omega⟩, by omega, by omega, by omega⟩
  go_enter Try.func8, Try.ntmps8
  go_upto_region 6 with fail
  go_cut [6] (fun s wx => ∃ cap : Int, s = .int .i64 cap ∧ 3 ≤ cap ∧ cap ≤ 6 ∧ wx = ((w.alloc (.cells #[.slice none 0 0] 28)).alloc (.cells #[.slice none 0 0] 28)))
  case first =>
    go_wp2_with fail
    refine (t_pick ao b o n c 0 C _ (HC.out _ (bel2 _ _ _)) (by omega)).mono ?_
    rintro e wA ⟨x0, rfl, hwA, hx0, hx0'⟩
    have hx255 : x0 ≤ 255 := by
      rcases hx0' with h | ⟨_, h⟩
      · exact h
      · omega
    subst hwA
    go_wp2
    go_meet
    case rel => exact ⟨_, rfl, by omega, by omega, rfl⟩
  obtain ⟨cap, rfl, hc1, hc2, rfl⟩ := hcut
  go_upto_if 42 with fail
  go_cut [7] (fun s wx => ∃ N : Nat, s = .int .i64 (N : Int) ∧ N ≤ 80 ∧ N ≤ n ∧ wx = ((w.alloc (.cells #[.slice none 0 0] 28)).alloc (.cells #[.slice none 0 0] 28)))
  case first =>
    by_cases h80 : 80 < n
    · go_wp2
      go_meet
      case rel => exact ⟨80, rfl, by omega, by omega, rfl⟩
    · go_wp2
      go_meet
      case rel => exact ⟨n, rfl, by omega, by omega, rfl⟩
  obtain ⟨N, rfl, hN1, hN2, rfl⟩ := hcut
  go_wp2_with fail
  refine runLoop w ao n c N w.heap.size (w.heap.size + 1) cap _ _ _ _ _ _ _ _ _ _ _ _ _ _ _ _ b o C HC hc1 hc2 hN1 hN2 _ (fun a' w'' hWI => ?_) _ _ _ _ _ _ _ _ _ _ _ _ _ _ _ _ _ _ _ _ _ _ _ _ _ _ _ _ _ _ _ _ _ _ _ _ _ _ _ _ _ _ _ _ _ _ _ _ _ _ _ _ _ _ _ _ _ _ _ _ _ _ _ _ _ _ _ _ _ _ _ _ _ _ _ _ _ _ _ _ _ _ _ _ _ _ _ _ _ _ _ _ _ _ _ _ _ _ _ _ _ _ _ _ _ _ _ _ _ _ _ _ _ _ _ _ _ _ _ _ _ _ _ _ _ _ _ _ _ _ _ _ _ _ _ _ _ _ _ _ _ _ _ _ _ _ _ _ _ _ _ _ _ _ _ _ _ _ _ _ _ _ _ _ _ _ _ _ _ _ _ _ _ _ _ _ _ _ _ _ _ _ _ _ _ _ _ _ _ _ _ _ _ _ _ _ _ _ _ _ _ _ _ _ _ _ _ _ _ _ _ _ _ _ _ _ _ _ _ _ _ _ _ _ _ _ _ _ _ _ _ _ _ _ _ _ _ _ _ _ ⟨0, 0, 1, _, Nat.zero_le _, rfl, rfl, by omega, by omega, F0.out, di_zero _ (by omega)⟩
  unfold WI at hWI
  obtain ⟨u2, hWI⟩ := hWI
  obtain ⟨u5, hWI⟩ := hWI
  obtain ⟨u8, hWI⟩ := hWI
  obtain ⟨u9, hWI⟩ := hWI
  obtain ⟨u10, hWI⟩ := hWI
  obtain ⟨u11, hWI⟩ := hWI
  obtain ⟨u12, hWI⟩ := hWI
  obtain ⟨u13, hWI⟩ := hWI
  obtain ⟨u14, hWI⟩ := hWI
  obtain ⟨u15, hWI⟩ := hWI
  obtain ⟨u16, hWI⟩ := hWI
  obtain ⟨u17, hWI⟩ := hWI
  obtain ⟨u18, hWI⟩ := hWI
  obtain ⟨u19, hWI⟩ := hWI
  obtain ⟨u20, hWI⟩ := hWI
  obtain ⟨u21, hWI⟩ := hWI
  obtain ⟨u22, hWI⟩ := hWI
  obtain ⟨u23, hWI⟩ := hWI
  obtain ⟨u24, hWI⟩ := hWI
  obtain ⟨u25, hWI⟩ := hWI
  obtain ⟨u26, hWI⟩ := hWI
  obtain ⟨u27, hWI⟩ := hWI
  obtain ⟨u28, hWI⟩ := hWI
  obtain ⟨u29, hWI⟩ := hWI
  obtain ⟨u43, hWI⟩ := hWI
  obtain ⟨u44, hWI⟩ := hWI
  obtain ⟨u45, hWI⟩ := hWI
  obtain ⟨u46, hWI⟩ := hWI
  obtain ⟨u47, hWI⟩ := hWI
  obtain ⟨u48, hWI⟩ := hWI
  obtain ⟨u49, hWI⟩ := hWI
  obtain ⟨u50, hWI⟩ := hWI
  obtain ⟨u51, hWI⟩ := hWI
  obtain ⟨u52, hWI⟩ := hWI
  obtain ⟨u53, hWI⟩ := hWI
  obtain ⟨u54, hWI⟩ := hWI
  obtain ⟨u55, hWI⟩ := hWI
  obtain ⟨u56, hWI⟩ := hWI
  obtain ⟨u57, hWI⟩ := hWI
  obtain ⟨u58, hWI⟩ := hWI
  obtain ⟨u59, hWI⟩ := hWI
  obtain ⟨u60, hWI⟩ := hWI
  obtain ⟨u61, hWI⟩ := hWI
  obtain ⟨u62, hWI⟩ := hWI
  obtain ⟨u63, hWI⟩ := hWI
  obtain ⟨u64, hWI⟩ := hWI
  obtain ⟨u65, hWI⟩ := hWI
  obtain ⟨u66, hWI⟩ := hWI
  obtain ⟨u67, hWI⟩ := hWI
  obtain ⟨u68, hWI⟩ := hWI
  obtain ⟨u69, hWI⟩ := hWI
  obtain ⟨u70, hWI⟩ := hWI
  obtain ⟨u71, hWI⟩ := hWI
  obtain ⟨u72, hWI⟩ := hWI
  obtain ⟨u73, hWI⟩ := hWI
  obtain ⟨u74, hWI⟩ := hWI
  obtain ⟨u75, hWI⟩ := hWI
  obtain ⟨u76, hWI⟩ := hWI
  obtain ⟨u77, hWI⟩ := hWI
  obtain ⟨u78, hWI⟩ := hWI
  obtain ⟨u79, hWI⟩ := hWI
  obtain ⟨u80, hWI⟩ := hWI
  obtain ⟨u81, hWI⟩ := hWI
  obtain ⟨u82, hWI⟩ := hWI
  obtain ⟨u83, hWI⟩ := hWI
  obtain ⟨u84, hWI⟩ := hWI
  obtain ⟨u85, hWI⟩ := hWI
  obtain ⟨u86, hWI⟩ := hWI
  obtain ⟨u87, hWI⟩ := hWI
  obtain ⟨u88, hWI⟩ := hWI
  obtain ⟨u89, hWI⟩ := hWI
  obtain ⟨u90, hWI⟩ := hWI
  obtain ⟨u91, hWI⟩ := hWI
  obtain ⟨u92, hWI⟩ := hWI
  obtain ⟨u93, hWI⟩ := hWI
  obtain ⟨u94, hWI⟩ := hWI
  obtain ⟨u95, hWI⟩ := hWI
  obtain ⟨u96, hWI⟩ := hWI
  obtain ⟨u97, hWI⟩ := hWI
  obtain ⟨u98, hWI⟩ := hWI
  obtain ⟨u99, hWI⟩ := hWI
  obtain ⟨u100, hWI⟩ := hWI
  obtain ⟨u101, hWI⟩ := hWI
  obtain ⟨u102, hWI⟩ := hWI
  obtain ⟨u103, hWI⟩ := hWI
  obtain ⟨u104, hWI⟩ := hWI
  obtain ⟨u105, hWI⟩ := hWI
  obtain ⟨u106, hWI⟩ := hWI
  obtain ⟨u107, hWI⟩ := hWI
  obtain ⟨u108, hWI⟩ := hWI
  obtain ⟨u109, hWI⟩ := hWI
  obtain ⟨u110, hWI⟩ := hWI
  obtain ⟨u111, hWI⟩ := hWI
  obtain ⟨u112, hWI⟩ := hWI
  obtain ⟨u113, hWI⟩ := hWI
  obtain ⟨u114, hWI⟩ := hWI
  obtain ⟨u115, hWI⟩ := hWI
  obtain ⟨u116, hWI⟩ := hWI
  obtain ⟨u117, hWI⟩ := hWI
  obtain ⟨u118, hWI⟩ := hWI
  obtain ⟨u119, hWI⟩ := hWI
  obtain ⟨u120, hWI⟩ := hWI
  obtain ⟨u121, hWI⟩ := hWI
  obtain ⟨u122, hWI⟩ := hWI
  obtain ⟨u123, hWI⟩ := hWI
  obtain ⟨u124, hWI⟩ := hWI
  obtain ⟨u125, hWI⟩ := hWI
  obtain ⟨u126, hWI⟩ := hWI
  obtain ⟨u127, hWI⟩ := hWI
  obtain ⟨u128, hWI⟩ := hWI
  obtain ⟨u129, hWI⟩ := hWI
  obtain ⟨u130, hWI⟩ := hWI
  obtain ⟨u131, hWI⟩ := hWI
  obtain ⟨u132, hWI⟩ := hWI
  obtain ⟨u133, hWI⟩ := hWI
  obtain ⟨u134, hWI⟩ := hWI
  obtain ⟨u135, hWI⟩ := hWI
  obtain ⟨u136, hWI⟩ := hWI
  obtain ⟨u137, hWI⟩ := hWI
  obtain ⟨u138, hWI⟩ := hWI
  obtain ⟨u139, hWI⟩ := hWI
  obtain ⟨u140, hWI⟩ := hWI
  obtain ⟨u141, hWI⟩ := hWI
  obtain ⟨u142, hWI⟩ := hWI
  obtain ⟨u143, hWI⟩ := hWI
  obtain ⟨u144, hWI⟩ := hWI
  obtain ⟨u145, hWI⟩ := hWI
  obtain ⟨u146, hWI⟩ := hWI
  obtain ⟨u147, hWI⟩ := hWI
  obtain ⟨u148, hWI⟩ := hWI
  obtain ⟨u149, hWI⟩ := hWI
  obtain ⟨u150, hWI⟩ := hWI
  obtain ⟨u151, hWI⟩ := hWI
  obtain ⟨u152, hWI⟩ := hWI
  obtain ⟨u153, hWI⟩ := hWI
  obtain ⟨u154, hWI⟩ := hWI
  obtain ⟨u155, hWI⟩ := hWI
  obtain ⟨u156, hWI⟩ := hWI
  obtain ⟨u157, hWI⟩ := hWI
  obtain ⟨u158, hWI⟩ := hWI
  obtain ⟨u159, hWI⟩ := hWI
  obtain ⟨u160, hWI⟩ := hWI
  obtain ⟨u161, hWI⟩ := hWI
  obtain ⟨u162, hWI⟩ := hWI
  obtain ⟨u163, hWI⟩ := hWI
  obtain ⟨u164, hWI⟩ := hWI
  obtain ⟨u165, hWI⟩ := hWI
  obtain ⟨u166, hWI⟩ := hWI
  obtain ⟨u167, hWI⟩ := hWI
  obtain ⟨u168, hWI⟩ := hWI
  obtain ⟨u169, hWI⟩ := hWI
  obtain ⟨u170, hWI⟩ := hWI
  obtain ⟨u171, hWI⟩ := hWI
  obtain ⟨u172, hWI⟩ := hWI
  obtain ⟨u173, hWI⟩ := hWI
  obtain ⟨u174, hWI⟩ := hWI
  obtain ⟨u175, hWI⟩ := hWI
  obtain ⟨u176, hWI⟩ := hWI
  obtain ⟨u177, hWI⟩ := hWI
  obtain ⟨u178, hWI⟩ := hWI
  obtain ⟨u179, hWI⟩ := hWI
  obtain ⟨u180, hWI⟩ := hWI
  obtain ⟨u181, hWI⟩ := hWI
  obtain ⟨u182, hWI⟩ := hWI
  obtain ⟨u183, hWI⟩ := hWI
  obtain ⟨u184, hWI⟩ := hWI
  obtain ⟨u185, hWI⟩ := hWI
  obtain ⟨u186, hWI⟩ := hWI
  obtain ⟨u187, hWI⟩ := hWI
  obtain ⟨u188, hWI⟩ := hWI
  obtain ⟨u189, hWI⟩ := hWI
  obtain ⟨u190, hWI⟩ := hWI
  obtain ⟨u191, hWI⟩ := hWI
  obtain ⟨u192, hWI⟩ := hWI
  obtain ⟨u193, hWI⟩ := hWI
  obtain ⟨u194, hWI⟩ := hWI
  obtain ⟨u195, hWI⟩ := hWI
  obtain ⟨u196, hWI⟩ := hWI
  obtain ⟨u197, hWI⟩ := hWI
  obtain ⟨u198, hWI⟩ := hWI
  obtain ⟨u199, hWI⟩ := hWI
  obtain ⟨u200, hWI⟩ := hWI
  obtain ⟨u201, hWI⟩ := hWI
  obtain ⟨u202, hWI⟩ := hWI
  obtain ⟨u203, hWI⟩ := hWI
  obtain ⟨u204, hWI⟩ := hWI
  obtain ⟨u205, hWI⟩ := hWI
  obtain ⟨u206, hWI⟩ := hWI
  obtain ⟨u207, hWI⟩ := hWI
  obtain ⟨u208, hWI⟩ := hWI
  obtain ⟨u209, hWI⟩ := hWI
  obtain ⟨u210, hWI⟩ := hWI
  obtain ⟨u211, hWI⟩ := hWI
  obtain ⟨u212, hWI⟩ := hWI
  obtain ⟨u213, hWI⟩ := hWI
  obtain ⟨u214, hWI⟩ := hWI
  obtain ⟨u215, hWI⟩ := hWI
  obtain ⟨u216, hWI⟩ := hWI
  obtain ⟨u217, hWI⟩ := hWI
  obtain ⟨u218, hWI⟩ := hWI
  obtain ⟨u219, hWI⟩ := hWI
  obtain ⟨u220, hWI⟩ := hWI
  obtain ⟨u221, hWI⟩ := hWI
  obtain ⟨u222, hWI⟩ := hWI
  obtain ⟨u223, hWI⟩ := hWI
  obtain ⟨u224, hWI⟩ := hWI
  obtain ⟨u225, hWI⟩ := hWI
  obtain ⟨u226, hWI⟩ := hWI
  obtain ⟨u227, hWI⟩ := hWI
  obtain ⟨u228, hWI⟩ := hWI
  obtain ⟨u229, hWI⟩ := hWI
  obtain ⟨u230, hWI⟩ := hWI
  obtain ⟨u231, hWI⟩ := hWI
  obtain ⟨u232, hWI⟩ := hWI
  obtain ⟨u233, hWI⟩ := hWI
  obtain ⟨u234, hWI⟩ := hWI
  obtain ⟨u235, hWI⟩ := hWI
  obtain ⟨u236, hWI⟩ := hWI
  obtain ⟨u237, hWI⟩ := hWI
  obtain ⟨u238, hWI⟩ := hWI
  obtain ⟨u239, hWI⟩ := hWI
  obtain ⟨u240, hWI⟩ := hWI
  obtain ⟨u241, hWI⟩ := hWI
  obtain ⟨u242, hWI⟩ := hWI
  obtain ⟨u243, hWI⟩ := hWI
  obtain ⟨u244, hWI⟩ := hWI
  obtain ⟨u245, hWI⟩ := hWI
  obtain ⟨u246, hWI⟩ := hWI
  obtain ⟨u247, hWI⟩ := hWI
  obtain ⟨u248, hWI⟩ := hWI
  obtain ⟨u249, hWI⟩ := hWI
  obtain ⟨u250, hWI⟩ := hWI
  obtain ⟨u251, hWI⟩ := hWI
  obtain ⟨u252, hWI⟩ := hWI
  obtain ⟨u253, hWI⟩ := hWI
  obtain ⟨u254, hWI⟩ := hWI
  obtain ⟨u255, hWI⟩ := hWI
  obtain ⟨u256, hWI⟩ := hWI
  obtain ⟨u257, hWI⟩ := hWI
  obtain ⟨hrel, rfl⟩ := hWI
  obtain ⟨k, m, rv, D, hk, rfl, rfl, hr1, hr2, hF, hD⟩ := hrel
  obtain ⟨ta, tb, tc, lo, hi, tq, hv1⟩ := hF.v1
  have s1 := hv1.row.cell (i := 0) (by omega)
  have HB : Hid (Below w.heap.size w w'') := hF.b
  have CV : Hid (Calls Try.prog 35 #[.agg #[.slice ta m tc]] w'' fun e w' => e = .returned (.bool true) ∧ Hid (Below w''.heap.size w'' w')) := by
    have := c9 ta tb 0 m tc tq D w'' (hv1.tab.slots hD.fit (by have := hD.len; omega))
    rw [hD.vt] at this
    exact this.mono fun e w' ⟨he, hb⟩ => ⟨he, hb⟩
  clear hF hv1 hD F0 hr1 hr2 hk
  go_wp2_with fail
  refine CV.out.mono ?_
  rintro e w9 ⟨rfl, HB9⟩
  clear s1 CV
  go_wp2
  go_ret
  exact ⟨rfl, HB.out.trans (HB9.out.mono HB.out.size)⟩

end Go.Proofs.Ytpbebpcoeeednaa

/-
  The statement on runs of table operations, proved.
-/
namespace Go.Proofs.Ytpbebpcoeeednaa
open Go.ChangeShapes Go.WideShapes Go.ChangeAt Go.RowKit Go.Deep

theorem Try.own : ownKnob Try.prog.godebug = none := by kernel_rfl
theorem Try.laidOut : laidOutB Try.prog = true := by kernel_rfl
theorem Try.cells5 : Try.prog.cellsOf 5 = 1 := by kernel_rfl

theorem plain_addr {w : World} {a : Addr} {v : Value} (h : w.cell? (a.add 0) = some v) : a = ⟨a.block, a.off, none⟩ := by
  obtain ⟨b, o, s⟩ := a
  have hs : s = none := by simpa [Addr.add] using World.cell?_spot h
  subst hs; rfl
theorem plain_at {w : World} {a : Addr} {v : Value} {i : Nat} (hp : a = ⟨a.block, a.off, none⟩) (h : w.cell? (a.add i) = some v) : w.cell? ⟨a.block, a.off + i, none⟩ = some v := by
  rw [hp, add_plain] at h; exact h

theorem byte_range {n : Int} (h : (Lit.int .u8 n).wf = true) : 0 ≤ n ∧ n ≤ 255 := by
  unfold Lit.wf at h
  rw [Bool.and_eq_true, decide_eq_true_iff, decide_eq_true_iff] at h
  exact h

theorem bytes_open {H : Type} {enc : TypeId × Value → H} {W : World} {held : Bool} {fuel : Nat} {cs : List Value} {x : DataW H × List MemPlace} (h : DataW.trod enc Try.prog W 0 (fun _ => true) held fuel 58 cs = some x) :
    ∃ ao b o n c C, cs = [.slice ao n c] ∧ BytesAt W ao b o n C := by
  rcases open_slice1 Try.underlying58 Try.cells5 h with ⟨rfl, _⟩ | ⟨a, len, cap, m, n, V, D, Pl, rfl, _, hl, hm, hmm, _, hx⟩
  · exact ⟨none, 0, 0, 0, 0, fun _ => 0, rfl, ⟨fun h => absurd h (Nat.lt_irrefl _), fun i h => absurd h (Nat.not_lt_zero _), fun i h => absurd h (Nat.not_lt_zero _), by omega⟩⟩
  · simp only [if_true] at hmm
    subst hmm
    have each : ∀ i, i < m → ∃ y : Int, W.cell? (a.add i) = some (.int .u8 y) ∧ 0 ≤ y ∧ y ≤ 255 := by
      intro i hi
      obtain ⟨h1, h2⟩ := hx i hi
      obtain ⟨y, hy, _, hw⟩ := DataW.trod_int Try.underlying5 h2
      simp only [List.cons.injEq, and_true] at hy
      rw [hy] at h1
      exact ⟨y, h1, byte_range hw⟩
    obtain ⟨y, hy⟩ := choose_lt each
    unfold maxLen at hm
    have hp : 0 < len → a = ⟨a.block, a.off, none⟩ := fun hp => plain_addr (hy 0 (by omega)).1
    exact ⟨some a, a.block, a.off, len, m, y, rfl, ⟨fun h => congrArg some (hp h), fun i hi => plain_at (hp (by omega)) (hy i (by omega)).1, fun i hi => (hy i (by omega)).2, by omega⟩⟩

set_option maxRecDepth 100000 in
theorem bytes_arg {H : Type} {enc : TypeId × Value → H} {W : World} {held : Bool} {r : Reach} {b0 : Nat} {v : Value} {d : DataW H} {q : List MemPlace}
    (hv : Value.okWide Try.prog W r b0 58 v) (h : DataW.Trod enc Try.prog W 0 (fun _ => true) held 58 v d q) :
    ∃ ao b o n c C, v = .slice ao n c ∧ BytesAt W ao b o n C := by
  obtain ⟨a, l, c', rfl⟩ := okWide_slice Try.underlying58 hv
  obtain ⟨fuel, hf⟩ := h
  obtain ⟨ao, b, o, n, c, C, hcs, hN⟩ := bytes_open hf
  simp [Value.cells] at hcs
  obtain ⟨rfl, rfl, rfl⟩ := hcs
  exact ⟨_, b, o, _, _, C, rfl, hN⟩

set_option maxRecDepth 100000 in
theorem table_lifted (os : Os) (started : os.Started) (H : Type) (enc : TypeId × Value → H) :
    ReturnsInHanded {} Try.checked os 8 .any (Rows.fnTableSpec.pre6 enc Try.prog Try.f8 Rows.fnTableRow.domain false) (Rows.fnTableSpec.post enc Try.prog Try.f8 false true false false) := by
  refine returnsInHanded_of_change (C := Try.checked) Try.own started (by kernel_rfl) Try.func8
    (ChangeSpec.witness6 (enc := enc) (C := Try.checked) false ⟨#[], #[.slice none 0 0], []⟩ 8 (by kernel_rfl) (by kernel_rfl) (by kernel_rfl) (by kernel_rfl)) ?_
  intro W base args ds gs before hval0 hW hcnd _
  have hval : ∀ (j : Nat) t v, Try.f8.params[j]? = some t → args[j]? = some v → Value.okWide Try.prog W .any base t v := hval0
  have hW' := hW
  obtain ⟨p, q, hA0, hV, rfl, hfz, hnd⟩ := hW
  have hA : DataW.TrodAll enc Try.prog W 0 (fun _ => true) true Try.f8.params.toList args.toList ds p := hA0
  rw [Try.params8] at hA hval
  obtain ⟨v0, vs0, d0, ds0, p0, q0, hargs, rfl, rfl, h0, r0⟩ := trodAll_cons hA
  obtain ⟨rfl, rfl, rfl⟩ := trodAll_nil r0
  obtain rfl : args = #[v0] := by cases args; simp_all
  obtain ⟨rfl, rfl⟩ := trodVars_none hV
  have k0 := h0
  have lt0 : ∀ x ∈ p0, x.block < W.heap.size := by obtain ⟨m, hm⟩ := k0; exact DataW.trod_lt m _ _ _ hm
  obtain ⟨ao, b, o, n, c, C, rfl, hN⟩ := bytes_arg (hval 0 58 v0 rfl rfl) h0
  clear hA0 hval0
  refine (l_Table ao b o n c C W hN).mono fun e W' ⟨he, bel⟩ => ?_
  subst he
  exact ⟨_, rfl, _, _, _, [], _, [], hW', trodAll_mk1 (shut_bool Try.underlying4 _), (trodAll_cons_mk (Below.trod Try.laidOut (by kernel_rfl) (of_decide_eq_true (by kernel_rfl)) k0 bel lt0) trodAll_mk0), rfl, bel.frame _, fun h => by cases h⟩

theorem table_holds : Rows.FnTableSaid :=
  OpenClaim.holds_of_wide 8 Try.f8 rfl rfl rfl rfl rfl rfl rfl ⟨rfl, rfl, rfl, rfl, rfl⟩ rfl rfl rfl rfl rfl (by kernel_rfl) Try.func8 (by kernel_rfl)
    (of_decide_eq_true (by kernel_rfl)) (by unfold Func.isWrapper; first | (rw [if_pos (by decide +kernel)]; kernel_rfl) | (rw [if_neg (by decide +kernel)]; exact ⟨rfl, rfl⟩))
    (fun os started H enc _ => table_lifted os started H enc)

#print axioms table_holds
end Go.Proofs.Ytpbebpcoeeednaa

