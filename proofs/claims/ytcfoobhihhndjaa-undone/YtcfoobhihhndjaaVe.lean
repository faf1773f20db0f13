/- Undone: the end; the change; the order comes. -/
import Derived.Test.YtcfoobhihhndjaaVa
import Derived.Test.YtcfoobhihhndjaaVd
import Derived.Test.YtcfoobhihhndjaaUk
import Derived.Test.YtcfoobhihhndjaaVbu
import Derived.Test.YtcfoobhihhndjaaUd
import Derived.Test.YtcfoobhihhndjaaUe
namespace Go.Proofs.Ytcfoobhihhndjaa

section
open Go.RowKit Go.Sort

/-- a body behind its first statements -/
def dropC : Nat → Code → Code
  | 0, c => c
  | n + 1, .seq _ b => dropC n b
  | _ + 1, c => c

set_option maxRecDepth 1000000 in
set_option maxHeartbeats 16000000 in
theorem und_r4 {W : World} {g0 g1 : List Lv} {va ua vb ub : Option Addr} {vc uc vd ud : Nat} (hl0 : g0.length ≤ 60) (hl1 : g1.length ≤ 60)
    (ra : ∀ i, i < g0.length → ∃ b, va = some ⟨b, 0, none⟩ ∧ ∀ i (hi : i < g0.length) j u, g0[i].cells[j]? = some u → W.cell? ⟨b, i * 3 + j, none⟩ = some u) (rb : ∀ i, i < g0.length → ∃ b, vb = some ⟨b, 0, none⟩ ∧ ∀ i (hi : i < g0.length) j u, g0[i].cells[j]? = some u → W.cell? ⟨b, i * 3 + j, none⟩ = some u) (sa : ∀ i, i < g1.length → ∃ b, ua = some ⟨b, 0, none⟩ ∧ ∀ i (hi : i < g1.length) j u, g1[i].cells[j]? = some u → W.cell? ⟨b, i * 3 + j, none⟩ = some u) (sb : ∀ i, i < g1.length → ∃ b, ub = some ⟨b, 0, none⟩ ∧ ∀ i (hi : i < g1.length) j u, g1[i].cells[j]? = some u → W.cell? ⟨b, i * 3 + j, none⟩ = some u)
    (Post : Ending → World → Prop) (hP : ∀ W', Kep non W W' → Post (.returned (.bool true)) W') (u0 u1 u2 u3 u4 u5 u6 u7 u8 u9 u10 u11 u14 u15 u16 u17 u18 u19 u20 u21 u22 u23 u24 u25 u26 u27 u28 u29 u30 u31 u32 u33 u34 u35 u36 u39 u40 u41 u42 u43 u44 u45 u46 u47 u48 u49 u50 u51 u52 u53 u54 u55 u56 u57 u58 u59 u60 u61 u62 u63 u64 u65 u66 u67 u68 u69 u70 u71 u72 u73 u74 u75 u76 u77 u78 u79 u80 u81 u82 u83 u84 u85 u86 u87 u88 u89 u90 u91 u92 u93 u94 u95 u96 u97 u98 u99 u100 u101 u102 u103 u104 u105 u106 u107 u108 u109 u110 u111 u112 u113 u114 u115 u116 u117 u118 u119 u120 u121 u122 u123 u124 u125 u126 u127 u128 u129 u130 u131 u132 u133 u134 u135 u136 u137 u138 u139 u140 u141 u142 u143 u144 u145 u146 u147 u148 u149 u150 u151 u152 u153 u154 u155 u156 u157 u158 u159 u160 u161 u162 u163 u164 u165 u166 u167 u168 u169 u170 u171 u172 u173 u174 u175 u176 u177 u178 u179 u180 u181 u182 u183 u184 u185 u186 u187 u188 u189 u190 u191 u192 u193 u194 u195 u196 u197 u198 u199 u200 u201 u202 u203 u204 u205 u206 u207 u208 u209 u210 u211 u212 u213 u214 u215 u216 u217 u218 u219 u220 u221 u222 u223 u224 u225 u226 u227 u228 u229 u230 u231 u232 u233 u234 u235 u236 u237 u238 u239 u240 u241 u242 u243 u244 u245 u246 u247 u248 u249 u250 u251 u252 u253 u254 u255 u256 u257 u258 u259 u260 u261 u262 u263 u264 u265 u266 u267 u268 u269 u270 u271 u272 u273 u274 u275 u276 u277 u278 u279 u280 u281 u282 u283 u284 u285 u286 u287 u288 u289 u290 u291 u292 u293 u294 u295 u296 u297 u298 u299 u300 u301 u302 u303 u304 u305 u306 u307 u308 u309 u310 u311 u312 u313 u314 u315 u316 u317 u318 u319 u320 u321 u322 u323 u324 u325 u326 u327 u328 u329 u330 u331 u332 u333 u334 u335 u336 u337 u338 u339 u340 u341 u342 u343 u344 u345 u346 u347 u348 u349 u350 u351 u352 u353 u354 u355 u356 u357 u358 u359 u360 u361 u362 u363 u364 u365 u366 u367 u368 u369 u370 u371 u372 u373 u374 u375 u376 u377 u378 u379 : Value) :
    Code.wp Try.prog (((((Try.f8.body.bind afterLoop).bind afterLoop).bind afterLoop).bind afterLoop).getD .skip) (bodyPost Try.prog Try.f8 Post) ⟨#[u0, u1, u2, u3, u4, u5, u6, u7, u8, u9, u10, u11, .slice va g0.length vc, .slice ua g1.length uc, u14, u15, u16, u17, u18, u19, u20, u21, u22, u23, u24, u25, u26, u27, u28, u29, u30, u31, u32, u33, u34, u35, u36, .slice vb g0.length vd, .slice ub g1.length ud, u39, u40, u41, u42, u43, u44, u45, u46, u47, u48, u49, u50, u51, u52, u53, u54, u55, u56, u57, u58, u59, u60, u61, u62, u63, u64, u65, u66, u67, u68, u69, u70, u71, u72, u73, u74, u75, u76, u77, u78, u79, u80, u81, u82, u83, u84, u85, u86, u87, u88, u89, u90, u91, u92, u93, u94, u95, u96, u97, u98, u99, u100, u101, u102, u103, u104, u105, u106, u107, u108, u109, u110, u111, u112, u113, u114, u115, u116, u117, u118, u119, u120, u121, u122, u123, u124, u125, u126, u127, u128, u129, u130, u131, u132, u133, u134, u135, u136, u137, u138, u139, u140, u141, u142, u143, u144, u145, u146, u147, u148, u149, u150, u151, u152, u153, u154, u155, u156, u157, u158, u159, u160, u161, u162, u163, u164, u165, u166, u167, u168, u169, u170, u171, u172, u173, u174, u175, u176, u177, u178, u179, u180, u181, u182, u183, u184, u185, u186, u187, u188, u189, u190, u191, u192, u193, u194, u195, u196, u197, u198, u199, u200, u201, u202, u203, u204, u205, u206, u207, u208, u209, u210, u211, u212, u213, u214, u215, u216, u217, u218, u219, u220, u221, u222, u223, u224, u225, u226, u227, u228, u229, u230, u231, u232, u233, u234, u235, u236, u237, u238, u239, u240, u241, u242, u243, u244, u245, u246, u247, u248, u249, u250, u251, u252, u253, u254, u255, u256, u257, u258, u259, u260, u261, u262, u263, u264, u265, u266, u267, u268, u269, u270, u271, u272, u273, u274, u275, u276, u277, u278, u279, u280, u281, u282, u283, u284, u285, u286, u287, u288, u289, u290, u291, u292, u293, u294, u295, u296, u297, u298, u299, u300, u301, u302, u303, u304, u305, u306, u307, u308, u309, u310, u311, u312, u313, u314, u315, u316, u317, u318, u319, u320, u321, u322, u323, u324, u325, u326, u327, u328, u329, u330, u331, u332, u333, u334, u335, u336, u337, u338, u339, u340, u341, u342, u343, u344, u345, u346, u347, u348, u349, u350, u351, u352, u353, u354, u355, u356, u357, u358, u359, u360, u361, u362, u363, u364, u365, u366, u367, u368, u369, u370, u371, u372, u373, u374, u375, u376, u377, u378, u379], []⟩ W := by
  have HP := hide hP
  have HSa := hide sa
  have HSb := hide sb
  have HRa := hide ra
  have HRb := hide rb
  clear hP sa sb ra rb
  conv => arg 2; whnf
  go_wp2
  refine und_l5 hl0 HRa.out HRb.out _ _ _ _ _ _ _ _ _ _ _ _ _ _ _ _ _ _ _ _ _ _ _ _ _ _ _ _ _ _ _ _ _ _ _ _ _ _ _ _ _ _ _ _ _ _ _ _ _ _ _ _ _ _ _ _ _ _ _ _ _ _ _ _ _ _ _ _ _ _ _ _ _ _ _ _ _ _ _ _ _ _ _ _ _ _ _ _ _ _ _ _ _ _ _ _ _ _ _ _ _ _ _ _ _ _ _ _ _ _ _ _ _ _ _ _ _ _ _ _ _ _ _ _ _ _ _ _ _ _ _ _ _ _ _ _ _ _ _ _ _ _ _ _ _ _ _ _ _ _ _ _ _ _ _ _ _ _ _ _ _ _ _ _ _ _ _ _ _ _ _ _ _ _ _ _ _ _ _ _ _ _ _ _ _ _ _ _ _ _ _ _ _ _ _ _ _ _ _ _ _ _ _ _ _ _ _ _ _ _ _ _ _ _ _ _ _ _ _ _ _ _ _ _ _ _ _ _ _ _ _ _ _ _ _ _ _ _ _ _ _ _ _ _ _ _ _ _ _ _ _ _ _ _ _ _ _ _ _ _ _ _ _ _ _ _ _ _ _ _ _ _ _ _ _ _ _ _ _ _ _ _ _ _ _ _ _ _ _ _ _ _ _ _ _ _ _ _ _ _ _ _ _ _ _ _ _ _ _ _ _ _ _ _ _ _ _ _ _ _ _ _ _ _ _ _ _ _ _ _ _ _ _ _ _ _ _ _ _ _ _ _ _ _ _ _ _ _ _ _ _ _ _ _ _ _ _ _ _ _ _ _ _ _ _ _ _ _ _ _ _ _ _ _ _ _ _ _ ?_
  intro n6 n350 n351 n352 n353 n354 n355 n356 n357 n358 n359 n360 n361 n362 n363 n364 W1 k1
  have HK1 := hide k1
  have HA := hide (show ∀ i, i < g1.length → ∃ b, ua = some ⟨b, 0, none⟩ ∧ ∀ i (hi : i < g1.length) j u, g1[i].cells[j]? = some u → W1.cell? ⟨b, i * 3 + j, none⟩ = some u from fun i hi => by
    obtain ⟨b, h1, h2⟩ := HSa.out i hi
    exact ⟨b, h1, fun i hi j u hu => k1.cell (h2 i hi j u hu) (fun f => f)⟩)
  have HB := hide (show ∀ i, i < g1.length → ∃ b, ub = some ⟨b, 0, none⟩ ∧ ∀ i (hi : i < g1.length) j u, g1[i].cells[j]? = some u → W1.cell? ⟨b, i * 3 + j, none⟩ = some u from fun i hi => by
    obtain ⟨b, h1, h2⟩ := HSb.out i hi
    exact ⟨b, h1, fun i hi j u hu => k1.cell (h2 i hi j u hu) (fun f => f)⟩)
  clear k1 HSa HSb HRa HRb
  go_wp2
  refine und_l6 hl1 HA.out HB.out _ _ _ _ _ _ _ _ _ _ _ _ _ _ _ _ _ _ _ _ _ _ _ _ _ _ _ _ _ _ _ _ _ _ _ _ _ _ _ _ _ _ _ _ _ _ _ _ _ _ _ _ _ _ _ _ _ _ _ _ _ _ _ _ _ _ _ _ _ _ _ _ _ _ _ _ _ _ _ _ _ _ _ _ _ _ _ _ _ _ _ _ _ _ _ _ _ _ _ _ _ _ _ _ _ _ _ _ _ _ _ _ _ _ _ _ _ _ _ _ _ _ _ _ _ _ _ _ _ _ _ _ _ _ _ _ _ _ _ _ _ _ _ _ _ _ _ _ _ _ _ _ _ _ _ _ _ _ _ _ _ _ _ _ _ _ _ _ _ _ _ _ _ _ _ _ _ _ _ _ _ _ _ _ _ _ _ _ _ _ _ _ _ _ _ _ _ _ _ _ _ _ _ _ _ _ _ _ _ _ _ _ _ _ _ _ _ _ _ _ _ _ _ _ _ _ _ _ _ _ _ _ _ _ _ _ _ _ _ _ _ _ _ _ _ _ _ _ _ _ _ _ _ _ _ _ _ _ _ _ _ _ _ _ _ _ _ _ _ _ _ _ _ _ _ _ _ _ _ _ _ _ _ _ _ _ _ _ _ _ _ _ _ _ _ _ _ _ _ _ _ _ _ _ _ _ _ _ _ _ _ _ _ _ _ _ _ _ _ _ _ _ _ _ _ _ _ _ _ _ _ _ _ _ _ _ _ _ _ _ _ _ _ _ _ _ _ _ _ _ _ _ _ _ _ _ _ _ _ _ _ _ _ _ _ _ _ _ _ _ _ _ _ _ _ _ _ _ ?_
  intro m6 m365 m366 m367 m368 m369 m370 m371 m372 m373 m374 m375 m376 m377 m378 m379 W2 k2
  have HK2 := hide (HK1.out.trans k2)
  clear k2 HA HB HK1
  go_wp2
  exact HP.out _ HK2.out

set_option maxRecDepth 1000000 in
set_option maxHeartbeats 16000000 in
theorem und_r3c {W : World} {aa ab vc uc vd ud yc xc : Nat} {p q : Int} {g0 g1 : List Lv} {sk : List Sk} {va ua vb ub ya xa : Option Addr} (hl0 : g0.length ≤ 60) (hl1 : g1.length ≤ 60) (hlA : sk.length ≤ 60)
    (hA : W.heap[aa]? = some (.cells #[.int .i64 p, .int .i64 q, .slice ya sk.length yc] 62 (0, 0))) (hB : W.heap[ab]? = some (.cells #[.int .i64 p, .int .i64 q, .slice xa sk.length xc] 62 (0, 0)))
    (rA : ∀ i, i < sk.length → ∃ b, ya = some ⟨b, 0, none⟩ ∧ ∀ i (hi : i < sk.length) j u, sk[i].cells[j]? = some u → W.cell? ⟨b, i * 5 + j, none⟩ = some u) (rB : ∀ i, i < sk.length → ∃ b, xa = some ⟨b, 0, none⟩ ∧ ∀ i (hi : i < sk.length) j u, sk[i].cells[j]? = some u → W.cell? ⟨b, i * 5 + j, none⟩ = some u)
    (r0 : ∀ i, i < g0.length → ∃ b, va = some ⟨b, 0, none⟩ ∧ ∀ i (hi : i < g0.length) j u, g0[i].cells[j]? = some u → W.cell? ⟨b, i * 3 + j, none⟩ = some u) (s0 : ∀ i, i < g0.length → ∃ b, vb = some ⟨b, 0, none⟩ ∧ ∀ i (hi : i < g0.length) j u, g0[i].cells[j]? = some u → W.cell? ⟨b, i * 3 + j, none⟩ = some u) (r1 : ∀ i, i < g1.length → ∃ b, ua = some ⟨b, 0, none⟩ ∧ ∀ i (hi : i < g1.length) j u, g1[i].cells[j]? = some u → W.cell? ⟨b, i * 3 + j, none⟩ = some u) (s1 : ∀ i, i < g1.length → ∃ b, ub = some ⟨b, 0, none⟩ ∧ ∀ i (hi : i < g1.length) j u, g1[i].cells[j]? = some u → W.cell? ⟨b, i * 3 + j, none⟩ = some u)
    (Post : Ending → World → Prop) (hP : ∀ W', Kep non W W' → Post (.returned (.bool true)) W') (u0 u1 u2 u3 u4 u5 u6 u7 u8 u9 u11 u14 u15 u16 u17 u18 u19 u20 u21 u22 u23 u24 u25 u26 u27 u28 u29 u30 u31 u32 u36 u39 u40 u41 u42 u43 u44 u45 u46 u47 u48 u49 u50 u51 u52 u53 u54 u55 u56 u57 u58 u59 u60 u61 u62 u63 u64 u65 u66 u67 u68 u69 u70 u71 u72 u73 u74 u75 u76 u77 u78 u79 u80 u81 u82 u83 u84 u85 u86 u87 u88 u89 u90 u91 u92 u93 u94 u95 u96 u97 u98 u99 u100 u101 u102 u103 u104 u105 u106 u107 u108 u109 u110 u111 u112 u113 u114 u115 u116 u117 u118 u119 u120 u121 u122 u123 u124 u125 u126 u127 u128 u129 u130 u131 u132 u133 u134 u135 u136 u137 u138 u139 u140 u141 u142 u143 u144 u145 u146 u147 u148 u149 u150 u151 u152 u153 u154 u155 u156 u157 u158 u159 u160 u161 u162 u163 u164 u165 u166 u167 u168 u169 u170 u171 u172 u173 u174 u175 u176 u177 u178 u179 u180 u181 u182 u183 u184 u185 u186 u187 u188 u189 u190 u191 u192 u193 u194 u195 u196 u197 u198 u199 u200 u201 u202 u203 u204 u205 u206 u207 u208 u209 u210 u211 u212 u213 u214 u215 u216 u217 u218 u219 u220 u221 u222 u223 u224 u225 u226 u227 u228 u229 u230 u231 u232 u233 u234 u235 u236 u237 u238 u239 u240 u241 u242 u243 u244 u245 u246 u247 u248 u249 u250 u251 u252 u253 u254 u255 u256 u257 u258 u259 u260 u261 u262 u263 u264 u265 u266 u267 u268 u269 u270 u271 u272 u273 u274 u275 u276 u277 u278 u279 u280 u281 u282 u283 u284 u285 u286 u287 u288 u289 u290 u291 u292 u293 u294 u295 u296 u297 u298 u299 u300 u301 u302 u303 u304 u305 u306 u307 u308 u309 u310 u311 u312 u313 u314 u315 u316 u317 u318 u319 u320 u321 u322 u323 u324 u325 u326 u327 u328 u329 u330 u331 u332 u333 u334 u335 u336 u337 u338 u339 u340 u341 u342 u343 u344 u345 u346 u347 u348 u349 u350 u351 u352 u353 u354 u355 u356 u357 u358 u359 u360 u361 u362 u363 u364 u365 u366 u367 u368 u369 u370 u371 u372 u373 u374 u375 u376 u377 u378 u379 : Value) :
    Code.wp Try.prog (dropC 4 ((((Try.f8.body.bind afterLoop).bind afterLoop).bind afterLoop).getD .skip)) (bodyPost Try.prog Try.f8 Post) ⟨#[u0, u1, u2, u3, u4, u5, u6, u7, u8, u9, .pointer (some ⟨aa, 0, none⟩), u11, .slice va g0.length vc, .slice ua g1.length uc, u14, u15, u16, u17, u18, u19, u20, u21, u22, u23, u24, u25, u26, u27, u28, u29, u30, u31, u32, .int .i64 0, .int .i64 9, .pointer (some ⟨ab, 0, none⟩), u36, .slice vb g0.length vd, .slice ub g1.length ud, u39, u40, u41, u42, u43, u44, u45, u46, u47, u48, u49, u50, u51, u52, u53, u54, u55, u56, u57, u58, u59, u60, u61, u62, u63, u64, u65, u66, u67, u68, u69, u70, u71, u72, u73, u74, u75, u76, u77, u78, u79, u80, u81, u82, u83, u84, u85, u86, u87, u88, u89, u90, u91, u92, u93, u94, u95, u96, u97, u98, u99, u100, u101, u102, u103, u104, u105, u106, u107, u108, u109, u110, u111, u112, u113, u114, u115, u116, u117, u118, u119, u120, u121, u122, u123, u124, u125, u126, u127, u128, u129, u130, u131, u132, u133, u134, u135, u136, u137, u138, u139, u140, u141, u142, u143, u144, u145, u146, u147, u148, u149, u150, u151, u152, u153, u154, u155, u156, u157, u158, u159, u160, u161, u162, u163, u164, u165, u166, u167, u168, u169, u170, u171, u172, u173, u174, u175, u176, u177, u178, u179, u180, u181, u182, u183, u184, u185, u186, u187, u188, u189, u190, u191, u192, u193, u194, u195, u196, u197, u198, u199, u200, u201, u202, u203, u204, u205, u206, u207, u208, u209, u210, u211, u212, u213, u214, u215, u216, u217, u218, u219, u220, u221, u222, u223, u224, u225, u226, u227, u228, u229, u230, u231, u232, u233, u234, u235, u236, u237, u238, u239, u240, u241, u242, u243, u244, u245, u246, u247, u248, u249, u250, u251, u252, u253, u254, u255, u256, u257, u258, u259, u260, u261, u262, u263, u264, u265, u266, u267, u268, u269, u270, u271, u272, u273, u274, u275, u276, u277, u278, u279, u280, u281, u282, u283, u284, u285, u286, u287, u288, u289, u290, u291, u292, u293, u294, u295, u296, u297, u298, u299, u300, u301, u302, u303, u304, u305, u306, u307, u308, u309, u310, u311, u312, u313, u314, u315, u316, u317, u318, u319, u320, u321, u322, u323, u324, u325, u326, u327, u328, u329, u330, u331, u332, u333, u334, u335, u336, u337, u338, u339, u340, u341, u342, u343, u344, u345, u346, u347, u348, u349, u350, u351, u352, u353, u354, u355, u356, u357, u358, u359, u360, u361, u362, u363, u364, u365, u366, u367, u368, u369, u370, u371, u372, u373, u374, u375, u376, u377, u378, u379], []⟩ W := by
  have a0 := cell_of_row _ _ 0 _ _ _ hA
  have a1 := cell_of_row _ _ 1 _ _ _ hA
  have a2 := cell_of_row _ _ 2 _ _ _ hA
  have d0 := cell_of_row _ _ 0 _ _ _ hB
  have d1 := cell_of_row _ _ 1 _ _ _ hB
  have d2 := cell_of_row _ _ 2 _ _ _ hB
  have Ha2 := hide (show W.cell? ⟨aa, 2, none⟩ = some (.slice ya sk.length yc) from a2)
  have Hd2 := hide (show W.cell? ⟨ab, 2, none⟩ = some (.slice xa sk.length xc) from d2)
  have HP := hide hP
  have HrA := hide rA
  have HrB := hide rB
  have Hr0 := hide r0
  have Hs0 := hide s0
  have Hr1 := hide r1
  have Hs1 := hide s1
  clear hP rA rB r0 s0 r1 s1 hA hB
  conv => arg 2; whnf
  go_wp2
  rename_i Kx hKx
  have HKx := hide hKx
  clear hKx a0 a1 a2 d0 d1 d2
  refine und_l4 hlA Ha2.out Hd2.out HrA.out HrB.out _ _ _ _ _ _ _ _ _ _ _ _ _ _ _ _ _ _ _ _ _ _ _ _ _ _ _ _ _ _ _ _ _ _ _ _ _ _ _ _ _ _ _ _ _ _ _ _ _ _ _ _ _ _ _ _ _ _ _ _ _ _ _ _ _ _ _ _ _ _ _ _ _ _ _ _ _ _ _ _ _ _ _ _ _ _ _ _ _ _ _ _ _ _ _ _ _ _ _ _ _ _ _ _ _ _ _ _ _ _ _ _ _ _ _ _ _ _ _ _ _ _ _ _ _ _ _ _ _ _ _ _ _ _ _ _ _ _ _ _ _ _ _ _ _ _ _ _ _ _ _ _ _ _ _ _ _ _ _ _ _ _ _ _ _ _ _ _ _ _ _ _ _ _ _ _ _ _ _ _ _ _ _ _ _ _ _ _ _ _ _ _ _ _ _ _ _ _ _ _ _ _ _ _ _ _ _ _ _ _ _ _ _ _ _ _ _ _ _ _ _ _ _ _ _ _ _ _ _ _ _ _ _ _ _ _ _ _ _ _ _ _ _ _ _ _ _ _ _ _ _ _ _ _ _ _ _ _ _ _ _ _ _ _ _ _ _ _ _ _ _ _ _ _ _ _ _ _ _ _ _ _ _ _ _ _ _ _ _ _ _ _ _ _ _ _ _ _ _ _ _ _ _ _ _ _ _ _ _ _ _ _ _ _ _ _ _ _ _ _ _ _ _ _ _ _ _ _ _ _ _ _ _ _ _ _ _ _ _ _ _ _ _ _ _ _ _ _ _ _ _ _ _ _ _ _ _ _ _ _ _ _ _ _ _ _ _ _ _ _ _ _ _ _ _ _ _ _ ?_
  intro q6 q332 q333 q334 q335 q336 q337 q338 q339 q340 q341 q342 q343 q344 q345 q346 q347 q348 q349 w5 k5
  refine HKx.out _ _ ?_
  exact und_r4 hl0 hl1 (rowK (cs := Lv.cells) k5 Hr0.out) (rowK (cs := Lv.cells) k5 Hs0.out) (rowK (cs := Lv.cells) k5 Hr1.out) (rowK (cs := Lv.cells) k5 Hs1.out) Post (fun W' k6 => HP.out W' (k5.trans k6)) _ _ _ _ _ _ _ _ _ _ _ _ _ _ _ _ _ _ _ _ _ _ _ _ _ _ _ _ _ _ _ _ _ _ _ _ _ _ _ _ _ _ _ _ _ _ _ _ _ _ _ _ _ _ _ _ _ _ _ _ _ _ _ _ _ _ _ _ _ _ _ _ _ _ _ _ _ _ _ _ _ _ _ _ _ _ _ _ _ _ _ _ _ _ _ _ _ _ _ _ _ _ _ _ _ _ _ _ _ _ _ _ _ _ _ _ _ _ _ _ _ _ _ _ _ _ _ _ _ _ _ _ _ _ _ _ _ _ _ _ _ _ _ _ _ _ _ _ _ _ _ _ _ _ _ _ _ _ _ _ _ _ _ _ _ _ _ _ _ _ _ _ _ _ _ _ _ _ _ _ _ _ _ _ _ _ _ _ _ _ _ _ _ _ _ _ _ _ _ _ _ _ _ _ _ _ _ _ _ _ _ _ _ _ _ _ _ _ _ _ _ _ _ _ _ _ _ _ _ _ _ _ _ _ _ _ _ _ _ _ _ _ _ _ _ _ _ _ _ _ _ _ _ _ _ _ _ _ _ _ _ _ _ _ _ _ _ _ _ _ _ _ _ _ _ _ _ _ _ _ _ _ _ _ _ _ _ _ _ _ _ _ _ _ _ _ _ _ _ _ _ _ _ _ _ _ _ _ _ _ _ _ _ _ _ _ _ _ _ _ _ _ _ _ _ _ _ _ _ _ _ _ _ _ _ _ _ _ _ _ _ _ _ _ _ _ _ _ _ _ _ _ _ _ _ _ _ _ _ _ _ _ _ _ _ _ _ _ _ _ _ _ _ _ _ _

set_option maxRecDepth 1000000 in
set_option maxHeartbeats 16000000 in
theorem und_r3b {w : World} {rs : List Int} {X XB aa t h g k vc uc yc : Nat} {m : Mt} {x : Od} {W : World} {va ua ya : Option Addr} (D : DeskB w rs X m.up W) (I : m.up.Inv 2000000) (St : Stood rs k m) (et : x.t = t) (ht : t < 4) (eh : x.h = h) (eg : x.g = g) (hh : h < m.H) (hg : g < m.G)
    (lX : XB < W.heap.size) (hX : ∀ j u, x.cells[j]? = some u → W.cell? ⟨XB, j, none⟩ = some u) (hA : W.heap[aa]? = some (.cells #[.int .i64 (m.mo t), .int .i64 (m.held t), .slice ya (stkTo m t m.H).length yc] 62 (0, 0)))
    (rA : ∀ i, i < (stkTo m t m.H).length → ∃ b, ya = some ⟨b, 0, none⟩ ∧ ∀ i (hi : i < (stkTo m t m.H).length) j u, (stkTo m t m.H)[i].cells[j]? = some u → W.cell? ⟨b, i * 5 + j, none⟩ = some u) (r0 : ∀ i, i < (lvL (m.bk h g 0)).length → ∃ b, va = some ⟨b, 0, none⟩ ∧ ∀ i (hi : i < (lvL (m.bk h g 0)).length) j u, (lvL (m.bk h g 0))[i].cells[j]? = some u → W.cell? ⟨b, i * 3 + j, none⟩ = some u) (r1 : ∀ i, i < (lvL (m.bk h g 1)).length → ∃ b, ua = some ⟨b, 0, none⟩ ∧ ∀ i (hi : i < (lvL (m.bk h g 1)).length) j u, (lvL (m.bk h g 1))[i].cells[j]? = some u → W.cell? ⟨b, i * 3 + j, none⟩ = some u)
    (Post : Ending → World → Prop) (hP : ∀ W', Kep non w W' → Post (.returned (.bool true)) W') (u0 u1 u2 u3 u4 u5 u6 u8 u11 u14 u15 u16 u17 u18 u19 u20 u21 u22 u23 u24 u25 u26 u27 u28 u29 u30 u31 u32 u35 u36 u37 u38 u39 u40 u41 u42 u43 u44 u45 u46 u47 u48 u49 u50 u51 u52 u53 u54 u55 u56 u57 u58 u59 u60 u61 u62 u63 u64 u65 u66 u67 u68 u69 u70 u71 u72 u73 u74 u75 u76 u77 u78 u79 u80 u81 u82 u83 u84 u85 u86 u87 u88 u89 u90 u91 u92 u93 u94 u95 u96 u97 u98 u99 u100 u101 u102 u103 u104 u105 u106 u107 u108 u109 u110 u111 u112 u113 u114 u115 u116 u117 u118 u119 u120 u121 u122 u123 u124 u125 u126 u127 u128 u129 u130 u131 u132 u133 u134 u135 u136 u137 u138 u139 u140 u141 u142 u143 u144 u145 u146 u147 u148 u149 u150 u151 u152 u153 u154 u155 u156 u157 u158 u159 u160 u161 u162 u163 u164 u165 u166 u167 u168 u169 u170 u171 u172 u173 u174 u175 u176 u177 u178 u179 u180 u181 u182 u183 u184 u185 u186 u187 u188 u189 u190 u191 u192 u193 u194 u195 u196 u197 u198 u199 u200 u201 u202 u203 u204 u205 u206 u207 u208 u209 u210 u211 u212 u213 u214 u215 u216 u217 u218 u219 u220 u221 u222 u223 u224 u225 u226 u227 u228 u229 u230 u231 u232 u233 u234 u235 u236 u237 u238 u239 u240 u241 u242 u243 u244 u245 u246 u247 u248 u249 u250 u251 u252 u253 u254 u255 u256 u257 u258 u259 u260 u261 u262 u263 u264 u265 u266 u267 u268 u269 u270 u271 u272 u273 u274 u275 u276 u277 u278 u279 u280 u281 u282 u283 u284 u285 u286 u287 u288 u289 u290 u291 u292 u293 u294 u295 u296 u297 u298 u299 u300 u301 u302 u303 u304 u305 u306 u307 u308 u309 u310 u311 u312 u313 u314 u315 u316 u317 u318 u319 u320 u321 u322 u323 u324 u325 u326 u327 u328 u329 u330 u331 u332 u333 u334 u335 u336 u337 u338 u339 u340 u341 u342 u343 u344 u345 u346 u347 u348 u349 u350 u351 u352 u353 u354 u355 u356 u357 u358 u359 u360 u361 u362 u363 u364 u365 u366 u367 u368 u369 u370 u371 u372 u373 u374 u375 u376 u377 u378 u379 : Value) :
    Code.wp Try.prog (dropC 2 ((((Try.f8.body.bind afterLoop).bind afterLoop).bind afterLoop).getD .skip)) (bodyPost Try.prog Try.f8 Post) ⟨#[u0, u1, u2, u3, u4, u5, u6, .pointer (some ⟨w.heap.size, 0, none⟩), u8, .pointer (some ⟨XB, 0, none⟩), .pointer (some ⟨aa, 0, none⟩), u11, .slice va (lvL (m.bk h g 0)).length vc, .slice ua (lvL (m.bk h g 1)).length uc, u14, u15, u16, u17, u18, u19, u20, u21, u22, u23, u24, u25, u26, u27, u28, u29, u30, u31, u32, .int .i64 0, .int .i64 9, u35, u36, u37, u38, u39, u40, u41, u42, u43, u44, u45, u46, u47, u48, u49, u50, u51, u52, u53, u54, u55, u56, u57, u58, u59, u60, u61, u62, u63, u64, u65, u66, u67, u68, u69, u70, u71, u72, u73, u74, u75, u76, u77, u78, u79, u80, u81, u82, u83, u84, u85, u86, u87, u88, u89, u90, u91, u92, u93, u94, u95, u96, u97, u98, u99, u100, u101, u102, u103, u104, u105, u106, u107, u108, u109, u110, u111, u112, u113, u114, u115, u116, u117, u118, u119, u120, u121, u122, u123, u124, u125, u126, u127, u128, u129, u130, u131, u132, u133, u134, u135, u136, u137, u138, u139, u140, u141, u142, u143, u144, u145, u146, u147, u148, u149, u150, u151, u152, u153, u154, u155, u156, u157, u158, u159, u160, u161, u162, u163, u164, u165, u166, u167, u168, u169, u170, u171, u172, u173, u174, u175, u176, u177, u178, u179, u180, u181, u182, u183, u184, u185, u186, u187, u188, u189, u190, u191, u192, u193, u194, u195, u196, u197, u198, u199, u200, u201, u202, u203, u204, u205, u206, u207, u208, u209, u210, u211, u212, u213, u214, u215, u216, u217, u218, u219, u220, u221, u222, u223, u224, u225, u226, u227, u228, u229, u230, u231, u232, u233, u234, u235, u236, u237, u238, u239, u240, u241, u242, u243, u244, u245, u246, u247, u248, u249, u250, u251, u252, u253, u254, u255, u256, u257, u258, u259, u260, u261, u262, u263, u264, u265, u266, u267, u268, u269, u270, u271, u272, u273, u274, u275, u276, u277, u278, u279, u280, u281, u282, u283, u284, u285, u286, u287, u288, u289, u290, u291, u292, u293, u294, u295, u296, u297, u298, u299, u300, u301, u302, u303, u304, u305, u306, u307, u308, u309, u310, u311, u312, u313, u314, u315, u316, u317, u318, u319, u320, u321, u322, u323, u324, u325, u326, u327, u328, u329, u330, u331, u332, u333, u334, u335, u336, u337, u338, u339, u340, u341, u342, u343, u344, u345, u346, u347, u348, u349, u350, u351, u352, u353, u354, u355, u356, u357, u358, u359, u360, u361, u362, u363, u364, u365, u366, u367, u368, u369, u370, u371, u372, u373, u374, u375, u376, u377, u378, u379], []⟩ W := by
  have q0 : at3 m h g 0 := ⟨hh, hg, by decide⟩
  have q1 : at3 m h g 1 := ⟨hh, hg, by decide⟩
  have lv60 : ∀ s', at3 m h g s' → (lvL (m.bk h g s')).length ≤ 60 := fun s' q => by
    have h1 := (lvL_bd (m.bk h g s') (fun o ho => (St.inv.od h g s' o q.1 q.2.1 q.2.2 ho).q)).2
    have h2 := len_bk q
    have h3 := St.inv.a60
    omega
  have hl0 := lv60 0 q0
  have hl1 := lv60 1 q1
  have hlA : (stkTo m t m.H).length ≤ 60 := by have := stkTo_len m t m.H (by rw [St.G]; decide); have := St.inv.H4; omega
  have cp := Desk.ptr D
  have x1 := hX 1 _ rfl
  have ld : w.heap.size < W.heap.size := World.block_lt_of_cell? W _ cp
  have HP := hide hP
  have HX := hide hX
  have HA := hide hA
  have HrA := hide rA
  have Hr0 := hide r0
  have Hr1 := hide r1
  have HD := hide D
  have HI := hide I
  have HSt := hide St
  clear hP hX hA rA r0 r1 D I St lv60
  conv => arg 2; whnf
  go_wp2_with fail
  rename_i K1 hK1
  have HK1 := hide hK1
  clear hK1
  refine und_g41 (gs := stkTo m t m.H) (p := m.mo t) (q := m.held t) (t := x.t) cp x1 ld lX (fun V kV => ?_) _ _ _ _ _ _ _ _ _ _ _ _ _ _ _ _ _ _ _ _ _ _ _ _ _ _ _ _ _ _ _ _ _ _ _ _ _ _ _ _ _ _ _ _ _ _ _ _ _ _ _ _ _ _ _ _ _ _ _ _ _ _ _ _ _ _ _ _ _ _ _ _ _ _ _ _ _ _ _ _ _ _ _ _ _ _ _ _ _ _ _ _ _ _ _ _ _ _ _ _ _ _ _ _ _ _ _ _ _ _ _ _ _ _ _ _ _ _ _ _ _ _ _ _ _ _ _ _ _ _ _ _ _ _ _ _ _ _ _ _ _ _ _ _ _ _ _ _ _ _ _ _ _ _ _ _ _ _ _ _ _ _ _ _ _ _ _ _ _ _ _ _ _ _ _ _ _ _ _ _ _ _ _ _ _ _ _ _ _ _ _ _ _ _ _ _ _ _ _ _ _ _ _ _ _ _ _ _ _ _ _ _ _ _ _ _ _ _ _ _ _ _ _ _ _ _ _ _ _ _ _ _ _ _ _ _ _ _ _ _ _ _ _ _ _ _ _ _ _ _ _ _ _ _ _ _ _ _ _ _ _ _ _ _ _ _ _ _ _ _ _ _ _ _ _ _ _ _ _ _ _ _ _ _ _ _ _ _ _ _ _ _ _ _ _ _ _ _ _ _ _ _ _ _ _ _ _ _ _ _ _ _ _ _ _ _ _ _ _ _ _ _ _ _ _ _ _ _ _ _ _ _ _ _ _ _ _ _ _ _ _ _ _ _ _ _ _ _ _ _ _ _ _ _ _ _ _ _ _ _ _ _ _ _ _ _ _ _ _ _ _ _ _ _ _ _ _ _ _ ?_
  · rw [et]
    refine (Desk.account (Desk.later HD.out kV) HI.out (t := t) (by show t < m.T; rw [HSt.out.T]; exact ht)).mono fun e w3 ⟨k3, v, h1, h2⟩ => ?_
    have es : stkTo m.up t m.up.H = stkTo m t m.H := stkTo_up m t m.H
    rw [es] at h2
    obtain ⟨va', vc', rfl⟩ := row_form h2
    exact ⟨va', vc', h1, k3, h2⟩
  intro n266 n267 n268 n269 n270 n271 n272 n273 n274 n275 ab xa xc w3 k3 hab hB3 rB3
  refine HK1.out _ _ ?_
  have HRB3 := hide (show ∀ i, i < (stkTo m t m.H).length → ∃ b, xa = some ⟨b, 0, none⟩ ∧ ∀ i (hi : i < (stkTo m t m.H).length) j u, (stkTo m t m.H)[i].cells[j]? = some u → w3.cell? ⟨b, i * 5 + j, none⟩ = some u from fun i hi => by
    obtain ⟨b, h1, _, h3⟩ := srow_at rB3 i hi
    exact ⟨b, h1, h3⟩)
  have cp3 := k3.cell cp (fun f => f)
  have y2 := k3.cell (HX.out 2 _ rfl) (fun f => f)
  have y3 := k3.cell (HX.out 3 _ rfl) (fun f => f)
  rw [eh] at y2
  rw [eg] at y3
  have HK3 := hide k3
  have HB3 := hide hB3
  clear k3 hB3 rB3 cp x1 hab HK1
  go_wp2_with fail
  rename_i K2 hK2
  have HK2 := hide hK2
  clear hK2
  refine und_g42 (fun va1 n1 vc1 ua1 k1 uc1 wx => BookPost w3.drew m.up h g (.returned (.tuple #[.slice va1 n1 vc1, .slice ua1 k1 uc1, .int .i64 0])) wx) cp3 y2 y3 ?_ _ _ _ _ _ _ _ _ _ _ _ _ _ _ _ _ _ _ _ _ _ _ _ _ _ _ _ _ _ _ _ _ _ _ _ _ _ _ _ _ _ _ _ _ _ _ _ _ _ _ _ _ _ _ _ _ _ _ _ _ _ _ _ _ _ _ _ _ _ _ _ _ _ _ _ _ _ _ _ _ _ _ _ _ _ _ _ _ _ _ _ _ _ _ _ _ _ _ _ _ _ _ _ _ _ _ _ _ _ _ _ _ _ _ _ _ _ _ _ _ _ _ _ _ _ _ _ _ _ _ _ _ _ _ _ _ _ _ _ _ _ _ _ _ _ _ _ _ _ _ _ _ _ _ _ _ _ _ _ _ _ _ _ _ _ _ _ _ _ _ _ _ _ _ _ _ _ _ _ _ _ _ _ _ _ _ _ _ _ _ _ _ _ _ _ _ _ _ _ _ _ _ _ _ _ _ _ _ _ _ _ _ _ _ _ _ _ _ _ _ _ _ _ _ _ _ _ _ _ _ _ _ _ _ _ _ _ _ _ _ _ _ _ _ _ _ _ _ _ _ _ _ _ _ _ _ _ _ _ _ _ _ _ _ _ _ _ _ _ _ _ _ _ _ _ _ _ _ _ _ _ _ _ _ _ _ _ _ _ _ _ _ _ _ _ _ _ _ _ _ _ _ _ _ _ _ _ _ _ _ _ _ _ _ _ _ _ _ _ _ _ _ _ _ _ _ _ _ _ _ _ _ _ _ _ _ _ _ _ _ _ _ _ _ _ _ _ _ _ _ _ _ _ _ _ _ _ _ _ _ _ _ _ _ _ _ _ _ _ _ _ _ _ _ _ _ _ _ _ ?_
  · refine (Desk.bookU (Desk.later HD.out (HK3.out.drew)) HI.out (h := h) (g := g) hh hg).mono fun e w4 hb => ?_
    obtain ⟨v, u, B, h1, h2, h3, h4⟩ := hb
    obtain ⟨va', vc', rfl⟩ := row_form h2
    obtain ⟨ua', uc', rfl⟩ := row_form h3
    exact ⟨_, _, _, _, _, _, h1, _, _, B, rfl, h2, h3, h4⟩
  intro p276 p277 p278 p279 p280 p281 p282 p283 p284 p285 p286 p287 p288 vb n1 vd ub k1 ud w4 hb
  refine HK2.out _ _ ?_
  obtain ⟨v', u', B, ev, b1, b2, b3, b4, b5, b6⟩ := hb
  have ev' : Value.slice vb n1 vd = v' ∧ Value.slice ub k1 ud = u' := by simpa using ev
  obtain ⟨rfl, rfl⟩ := ev'
  obtain ⟨_, _, e1⟩ := row_form b1
  obtain ⟨_, _, e2⟩ := row_form b2
  have e1' : n1 = (lvL (m.bk h g 0)).length := by injection e1
  have e2' : k1 = (lvL (m.bk h g 1)).length := by injection e2
  subst e1'
  subst e2'
  have k4 : Kep non w3 w4 := ((Kep.refl non w3).drew).trans (Kep.of_below b6)
  have K4 := HK3.out.trans k4
  exact und_r3c hl0 hl1 hlA ((K4.block aa (Array.getElem?_eq_some_iff.1 HA.out).1 (fun f => f)).trans HA.out) ((k4.block ab (Array.getElem?_eq_some_iff.1 HB3.out).1 (fun f => f)).trans HB3.out) (rowK (cs := Sk.cells) K4 HrA.out) (rowK (cs := Sk.cells) k4 HRB3.out) (rowK (cs := Lv.cells) K4 Hr0.out) (fun i hi => by obtain ⟨b, h1, _, h3⟩ := lvrow b1 i hi; exact ⟨b, h1, h3⟩) (rowK (cs := Lv.cells) K4 Hr1.out) (fun i hi => by obtain ⟨b, h1, _, h3⟩ := lvrow b2 i hi; exact ⟨b, h1, h3⟩) Post (fun W' kk => HP.out W' ((Desk.kp HD.out).trans (K4.trans kk))) _ _ _ _ _ _ _ _ _ _ _ _ _ _ _ _ _ _ _ _ _ _ _ _ _ _ _ _ _ _ _ _ _ _ _ _ _ _ _ _ _ _ _ _ _ _ _ _ _ _ _ _ _ _ _ _ _ _ _ _ _ _ _ _ _ _ _ _ _ _ _ _ _ _ _ _ _ _ _ _ _ _ _ _ _ _ _ _ _ _ _ _ _ _ _ _ _ _ _ _ _ _ _ _ _ _ _ _ _ _ _ _ _ _ _ _ _ _ _ _ _ _ _ _ _ _ _ _ _ _ _ _ _ _ _ _ _ _ _ _ _ _ _ _ _ _ _ _ _ _ _ _ _ _ _ _ _ _ _ _ _ _ _ _ _ _ _ _ _ _ _ _ _ _ _ _ _ _ _ _ _ _ _ _ _ _ _ _ _ _ _ _ _ _ _ _ _ _ _ _ _ _ _ _ _ _ _ _ _ _ _ _ _ _ _ _ _ _ _ _ _ _ _ _ _ _ _ _ _ _ _ _ _ _ _ _ _ _ _ _ _ _ _ _ _ _ _ _ _ _ _ _ _ _ _ _ _ _ _ _ _ _ _ _ _ _ _ _ _ _ _ _ _ _ _ _ _ _ _ _ _ _ _ _ _ _ _ _ _ _ _ _ _ _ _ _ _ _ _ _ _ _ _ _ _ _ _ _ _ _ _ _ _ _ _ _ _ _ _ _ _ _ _ _ _ _ _ _ _ _ _ _ _ _ _ _ _ _ _ _ _ _ _ _ _ _ _ _ _ _ _ _ _ _ _ _ _ _ _ _ _ _ _ _ _ _ _ _ _ _ _ _

set_option maxRecDepth 1000000 in
set_option maxHeartbeats 16000000 in
theorem und_r3 {w : World} {rs : List Int} {X XB aa h g s k vc uc yc : Nat} {m : Mt} {x : Od} {W : World} {Z : Nat → Prop} {va ua ya : Option Addr} (D : DeskZ w rs X (placeM m x) W Z) (L : Lone m x h g s) (St : Stood rs k m) (hk : k ≤ 100) {t : Nat} (et : x.t = t) (ht : t < 4)
    (zX : Z XB) (hX : ∀ j u, x.cells[j]? = some u → W.cell? ⟨XB, j, none⟩ = some u) (zA : Z aa) (hA : W.heap[aa]? = some (.cells #[.int .i64 (m.mo t), .int .i64 (m.held t), .slice ya (stkTo m t m.H).length yc] 62 (0, 0)))
    (rA : ∀ i, i < (stkTo m t m.H).length → ∃ b, ya = some ⟨b, 0, none⟩ ∧ Z b ∧ ∀ i (hi : i < (stkTo m t m.H).length) j u, (stkTo m t m.H)[i].cells[j]? = some u → W.cell? ⟨b, i * 5 + j, none⟩ = some u) (r0 : ∀ i, i < (lvL (m.bk h g 0)).length → ∃ b, va = some ⟨b, 0, none⟩ ∧ Z b ∧ ∀ i (hi : i < (lvL (m.bk h g 0)).length) j u, (lvL (m.bk h g 0))[i].cells[j]? = some u → W.cell? ⟨b, i * 3 + j, none⟩ = some u) (r1 : ∀ i, i < (lvL (m.bk h g 1)).length → ∃ b, ua = some ⟨b, 0, none⟩ ∧ Z b ∧ ∀ i (hi : i < (lvL (m.bk h g 1)).length) j u, (lvL (m.bk h g 1))[i].cells[j]? = some u → W.cell? ⟨b, i * 3 + j, none⟩ = some u)
    (Post : Ending → World → Prop) (hP : ∀ W', Kep non w W' → Post (.returned (.bool true)) W') (u0 u1 u2 u3 u4 u5 u6 u8 u11 u14 u15 u16 u17 u18 u19 u20 u22 u23 u24 u25 u26 u27 u28 u29 u30 u31 u32 u33 u34 u35 u36 u37 u38 u39 u40 u41 u42 u43 u44 u45 u46 u47 u48 u49 u50 u51 u52 u53 u54 u55 u56 u57 u58 u59 u60 u61 u62 u63 u64 u65 u66 u67 u68 u69 u70 u71 u72 u73 u74 u75 u76 u77 u78 u79 u80 u81 u82 u83 u84 u85 u86 u87 u88 u89 u90 u91 u92 u93 u94 u95 u96 u97 u98 u99 u100 u101 u102 u103 u104 u105 u106 u107 u108 u109 u110 u111 u112 u113 u114 u115 u116 u117 u118 u119 u120 u121 u122 u123 u124 u125 u126 u127 u128 u129 u130 u131 u132 u133 u134 u135 u136 u137 u138 u139 u140 u141 u142 u143 u144 u145 u146 u147 u148 u149 u150 u151 u152 u153 u154 u155 u156 u157 u158 u159 u160 u161 u162 u163 u164 u165 u166 u167 u168 u169 u170 u171 u172 u173 u174 u175 u176 u177 u178 u179 u180 u181 u182 u183 u184 u185 u186 u187 u188 u189 u190 u191 u192 u193 u194 u195 u196 u197 u198 u199 u200 u201 u202 u203 u204 u205 u206 u207 u208 u209 u210 u211 u212 u213 u214 u215 u216 u217 u218 u219 u220 u221 u222 u223 u224 u225 u226 u227 u228 u229 u230 u231 u232 u233 u234 u235 u236 u237 u238 u239 u240 u241 u242 u243 u244 u245 u246 u247 u248 u249 u250 u251 u252 u253 u254 u255 u256 u257 u258 u259 u260 u261 u262 u263 u264 u265 u266 u267 u268 u269 u270 u271 u272 u273 u274 u275 u276 u277 u278 u279 u280 u281 u282 u283 u284 u285 u286 u287 u288 u289 u290 u291 u292 u293 u294 u295 u296 u297 u298 u299 u300 u301 u302 u303 u304 u305 u306 u307 u308 u309 u310 u311 u312 u313 u314 u315 u316 u317 u318 u319 u320 u321 u322 u323 u324 u325 u326 u327 u328 u329 u330 u331 u332 u333 u334 u335 u336 u337 u338 u339 u340 u341 u342 u343 u344 u345 u346 u347 u348 u349 u350 u351 u352 u353 u354 u355 u356 u357 u358 u359 u360 u361 u362 u363 u364 u365 u366 u367 u368 u369 u370 u371 u372 u373 u374 u375 u376 u377 u378 u379 : Value) :
    Code.wp Try.prog ((((Try.f8.body.bind afterLoop).bind afterLoop).bind afterLoop).getD .skip) (bodyPost Try.prog Try.f8 Post) ⟨#[u0, u1, u2, u3, u4, u5, u6, .pointer (some ⟨w.heap.size, 0, none⟩), u8, .pointer (some ⟨XB, 0, none⟩), .pointer (some ⟨aa, 0, none⟩), u11, .slice va (lvL (m.bk h g 0)).length vc, .slice ua (lvL (m.bk h g 1)).length uc, u14, u15, u16, u17, u18, u19, u20, .int .i64 (m.nu + 1), u22, u23, u24, u25, u26, u27, u28, u29, u30, u31, u32, u33, u34, u35, u36, u37, u38, u39, u40, u41, u42, u43, u44, u45, u46, u47, u48, u49, u50, u51, u52, u53, u54, u55, u56, u57, u58, u59, u60, u61, u62, u63, u64, u65, u66, u67, u68, u69, u70, u71, u72, u73, u74, u75, u76, u77, u78, u79, u80, u81, u82, u83, u84, u85, u86, u87, u88, u89, u90, u91, u92, u93, u94, u95, u96, u97, u98, u99, u100, u101, u102, u103, u104, u105, u106, u107, u108, u109, u110, u111, u112, u113, u114, u115, u116, u117, u118, u119, u120, u121, u122, u123, u124, u125, u126, u127, u128, u129, u130, u131, u132, u133, u134, u135, u136, u137, u138, u139, u140, u141, u142, u143, u144, u145, u146, u147, u148, u149, u150, u151, u152, u153, u154, u155, u156, u157, u158, u159, u160, u161, u162, u163, u164, u165, u166, u167, u168, u169, u170, u171, u172, u173, u174, u175, u176, u177, u178, u179, u180, u181, u182, u183, u184, u185, u186, u187, u188, u189, u190, u191, u192, u193, u194, u195, u196, u197, u198, u199, u200, u201, u202, u203, u204, u205, u206, u207, u208, u209, u210, u211, u212, u213, u214, u215, u216, u217, u218, u219, u220, u221, u222, u223, u224, u225, u226, u227, u228, u229, u230, u231, u232, u233, u234, u235, u236, u237, u238, u239, u240, u241, u242, u243, u244, u245, u246, u247, u248, u249, u250, u251, u252, u253, u254, u255, u256, u257, u258, u259, u260, u261, u262, u263, u264, u265, u266, u267, u268, u269, u270, u271, u272, u273, u274, u275, u276, u277, u278, u279, u280, u281, u282, u283, u284, u285, u286, u287, u288, u289, u290, u291, u292, u293, u294, u295, u296, u297, u298, u299, u300, u301, u302, u303, u304, u305, u306, u307, u308, u309, u310, u311, u312, u313, u314, u315, u316, u317, u318, u319, u320, u321, u322, u323, u324, u325, u326, u327, u328, u329, u330, u331, u332, u333, u334, u335, u336, u337, u338, u339, u340, u341, u342, u343, u344, u345, u346, u347, u348, u349, u350, u351, u352, u353, u354, u355, u356, u357, u358, u359, u360, u361, u362, u363, u364, u365, u366, u367, u368, u369, u370, u371, u372, u373, u374, u375, u376, u377, u378, u379], []⟩ W := by
  have hn : m.nu + 1 ≤ 2000000 := by have := St.nu; omega
  have I1 := St.inv.place hn x
  have kV : Kep non W W.drew := (Kep.refl _ _).drew
  have DV := D.later kV
  have kzV : KZ Z W W.drew := KZ.of kV (fun b hb => D.lt hb)
  have HCa := hide (show Calls Try.prog 26 #[.pointer (some ⟨X, 0, none⟩), .int .i64 x.t, .int .i64 (m.nu + 1)] W.drew fun e w' => e = .returned (.int .i64 0) ∧ DeskZ w rs X m.up w' Z ∧ KZ Z W w' ∧ m.up.Inv 2000000 from (DV.cancel I1 x.t (m.nu + 1)).mono fun e w' ⟨c, m', C, h1, h2, h3⟩ => by
    have Iu := (C.keeps I1).1
    obtain ⟨rfl, rfl⟩ := L.cancel St.inv C
    exact ⟨h1, h2, kzV.trans h3, Iu⟩)
  have HCb := hide (fun w1 (D1 : DeskZ w rs X m.up w1 Z) (K1 : KZ Z W w1) (Iu : m.up.Inv 2000000) => show Calls Try.prog 26 #[.pointer (some ⟨X, 0, none⟩), .int .i64 x.t, .int .i64 (m.nu + 1)] w1.drew fun e w' => e = .returned (.int .i64 9) ∧ DeskZ w rs X m.up w' Z ∧ KZ Z W w' from by
    have kd : Kep non w1 w1.drew := (Kep.refl _ _).drew
    refine ((D1.later kd).cancel Iu x.t (m.nu + 1)).mono fun e w' ⟨c, m', C, h1, h2, h3⟩ => ?_
    obtain ⟨rfl, rfl⟩ := L.gone St.inv C
    exact ⟨h1, h2, (K1.trans (KZ.of kd (fun b hb => D1.lt hb))).trans h3⟩)
  have cp := Desk.ptr D.desk
  have x1 := hX 1 _ rfl
  have HP := hide hP
  have HX := hide hX
  have HA := hide hA
  have HrA := hide rA
  have Hr0 := hide r0
  have Hr1 := hide r1
  have HL := hide L
  have HSt := hide St
  clear hP D DV hX hA rA r0 r1 kzV L St I1 kV
  conv => arg 2; whnf
  go_wp2_with fail
  rename_i K1 hK1
  have HKa := hide hK1
  clear hK1
  refine und_g39 (c := 0) (fun w1 => DeskZ w rs X m.up w1 Z ∧ KZ Z W w1 ∧ m.up.Inv 2000000) cp x1 HCa.out _ _ _ _ _ _ _ _ _ _ _ _ _ _ _ _ _ _ _ _ _ _ _ _ _ _ _ _ _ _ _ _ _ _ _ _ _ _ _ _ _ _ _ _ _ _ _ _ _ _ _ _ _ _ _ _ _ _ _ _ _ _ _ _ _ _ _ _ _ _ _ _ _ _ _ _ _ _ _ _ _ _ _ _ _ _ _ _ _ _ _ _ _ _ _ _ _ _ _ _ _ _ _ _ _ _ _ _ _ _ _ _ _ _ _ _ _ _ _ _ _ _ _ _ _ _ _ _ _ _ _ _ _ _ _ _ _ _ _ _ _ _ _ _ _ _ _ _ _ _ _ _ _ _ _ _ _ _ _ _ _ _ _ _ _ _ _ _ _ _ _ _ _ _ _ _ _ _ _ _ _ _ _ _ _ _ _ _ _ _ _ _ _ _ _ _ _ _ _ _ _ _ _ _ _ _ _ _ _ _ _ _ _ _ _ _ _ _ _ _ _ _ _ _ _ _ _ _ _ _ _ _ _ _ _ _ _ _ _ _ _ _ _ _ _ _ _ _ _ _ _ _ _ _ _ _ _ _ _ _ _ _ _ _ _ _ _ _ _ _ _ _ _ _ _ _ _ _ _ _ _ _ _ _ _ _ _ _ _ _ _ _ _ _ _ _ _ _ _ _ _ _ _ _ _ _ _ _ _ _ _ _ _ _ _ _ _ _ _ _ _ _ _ _ _ _ _ _ _ _ _ _ _ _ _ _ _ _ _ _ _ _ _ _ _ _ _ _ _ _ _ _ _ _ _ _ _ _ _ _ _ _ _ _ _ _ _ _ _ _ _ _ _ _ _ _ _ _ ?_
  intro n250 n251 n252 n253 n254 n255 n256 n257 w1 ⟨D1, kz1, Iu⟩
  refine HKa.out _ _ ?_
  have HCc := hide (HCb.out w1 D1 kz1 Iu)
  have cp1 := Desk.ptr D1.desk
  have y1 := kz1.cell (HX.out 1 _ rfl) zX
  have HIu := hide Iu
  clear D1 kz1 HCa HCb cp x1 Iu HKa
  go_wp2_with fail
  rename_i K2 hK2
  have HKb := hide hK2
  clear hK2
  refine und_g40 (c := 9) (fun w2 => DeskZ w rs X m.up w2 Z ∧ KZ Z W w2) cp1 y1 HCc.out _ _ _ _ _ _ _ _ _ _ _ _ _ _ _ _ _ _ _ _ _ _ _ _ _ _ _ _ _ _ _ _ _ _ _ _ _ _ _ _ _ _ _ _ _ _ _ _ _ _ _ _ _ _ _ _ _ _ _ _ _ _ _ _ _ _ _ _ _ _ _ _ _ _ _ _ _ _ _ _ _ _ _ _ _ _ _ _ _ _ _ _ _ _ _ _ _ _ _ _ _ _ _ _ _ _ _ _ _ _ _ _ _ _ _ _ _ _ _ _ _ _ _ _ _ _ _ _ _ _ _ _ _ _ _ _ _ _ _ _ _ _ _ _ _ _ _ _ _ _ _ _ _ _ _ _ _ _ _ _ _ _ _ _ _ _ _ _ _ _ _ _ _ _ _ _ _ _ _ _ _ _ _ _ _ _ _ _ _ _ _ _ _ _ _ _ _ _ _ _ _ _ _ _ _ _ _ _ _ _ _ _ _ _ _ _ _ _ _ _ _ _ _ _ _ _ _ _ _ _ _ _ _ _ _ _ _ _ _ _ _ _ _ _ _ _ _ _ _ _ _ _ _ _ _ _ _ _ _ _ _ _ _ _ _ _ _ _ _ _ _ _ _ _ _ _ _ _ _ _ _ _ _ _ _ _ _ _ _ _ _ _ _ _ _ _ _ _ _ _ _ _ _ _ _ _ _ _ _ _ _ _ _ _ _ _ _ _ _ _ _ _ _ _ _ _ _ _ _ _ _ _ _ _ _ _ _ _ _ _ _ _ _ _ _ _ _ _ _ _ _ _ _ _ _ _ _ _ _ _ _ _ _ _ _ _ _ _ _ _ _ _ _ _ _ _ _ _ ?_
  intro p258 p259 p260 p261 p262 p263 p264 p265 w2 ⟨D2, K2⟩
  have HD2 := hide D2
  have HK2 := hide K2
  refine HKb.out _ _ ?_
  exact und_r3b HD2.out.desk HIu.out HSt.out et ht HL.out.eh HL.out.eg HL.out.q.1 HL.out.q.2.1 (HD2.out.lt zX) (fun j u h => HK2.out.cell (HX.out j u h) zX) ((HK2.out.2 aa zA).trans HA.out) (rowD (rowZ (cs := Sk.cells) HK2.out HrA.out)) (rowD (rowZ (cs := Lv.cells) HK2.out Hr0.out)) (rowD (rowZ (cs := Lv.cells) HK2.out Hr1.out)) Post HP.out _ _ _ _ _ _ _ _ _ _ _ _ _ _ _ _ _ _ _ _ _ _ _ _ _ _ _ _ _ _ _ _ _ _ _ _ _ _ _ _ _ _ _ _ _ _ _ _ _ _ _ _ _ _ _ _ _ _ _ _ _ _ _ _ _ _ _ _ _ _ _ _ _ _ _ _ _ _ _ _ _ _ _ _ _ _ _ _ _ _ _ _ _ _ _ _ _ _ _ _ _ _ _ _ _ _ _ _ _ _ _ _ _ _ _ _ _ _ _ _ _ _ _ _ _ _ _ _ _ _ _ _ _ _ _ _ _ _ _ _ _ _ _ _ _ _ _ _ _ _ _ _ _ _ _ _ _ _ _ _ _ _ _ _ _ _ _ _ _ _ _ _ _ _ _ _ _ _ _ _ _ _ _ _ _ _ _ _ _ _ _ _ _ _ _ _ _ _ _ _ _ _ _ _ _ _ _ _ _ _ _ _ _ _ _ _ _ _ _ _ _ _ _ _ _ _ _ _ _ _ _ _ _ _ _ _ _ _ _ _ _ _ _ _ _ _ _ _ _ _ _ _ _ _ _ _ _ _ _ _ _ _ _ _ _ _ _ _ _ _ _ _ _ _ _ _ _ _ _ _ _ _ _ _ _ _ _ _ _ _ _ _ _ _ _ _ _ _ _ _ _ _ _ _ _ _ _ _ _ _ _ _ _ _ _ _ _ _ _ _ _ _ _ _ _ _ _ _ _ _ _ _ _ _ _ _ _ _ _ _ _ _ _ _ _ _ _ _ _ _ _ _ _ _ _ _ _ _ _ _ _ _ _ _ _ _ _ _ _ _ _ _ _

end

section
open Go.RowKit Go.Sort

set_option maxRecDepth 1000000 in
set_option maxHeartbeats 16000000 in
theorem und_r2b {w : World} {rs : List Int} {X XB aa h g s k vc uc yc wc : Nat} {m : Mt} {x : Od} {W : World} {Z : Nat → Prop} {va ua ya wa : Option Addr} {l : List Od} (D : DeskZ w rs X (placeM m x) W Z) (L : Lone m x h g s) (St : Stood rs k m) (hk : k ≤ 100) {t : Nat} (et : x.t = t) (ht : t < 4)
    (zX : Z XB) (hX : ∀ j u, x.cells[j]? = some u → W.cell? ⟨XB, j, none⟩ = some u) (zA : Z aa) (hA : W.heap[aa]? = some (.cells #[.int .i64 (m.mo t), .int .i64 (m.held t), .slice ya (stkTo m t m.H).length yc] 62 (0, 0)))
    (rA : ∀ i, i < (stkTo m t m.H).length → ∃ b, ya = some ⟨b, 0, none⟩ ∧ Z b ∧ ∀ i (hi : i < (stkTo m t m.H).length) j u, (stkTo m t m.H)[i].cells[j]? = some u → W.cell? ⟨b, i * 5 + j, none⟩ = some u) (r0 : ∀ i, i < (lvL (m.bk h g 0)).length → ∃ b, va = some ⟨b, 0, none⟩ ∧ Z b ∧ ∀ i (hi : i < (lvL (m.bk h g 0)).length) j u, (lvL (m.bk h g 0))[i].cells[j]? = some u → W.cell? ⟨b, i * 3 + j, none⟩ = some u) (r1 : ∀ i, i < (lvL (m.bk h g 1)).length → ∃ b, ua = some ⟨b, 0, none⟩ ∧ Z b ∧ ∀ i (hi : i < (lvL (m.bk h g 1)).length) j u, (lvL (m.bk h g 1))[i].cells[j]? = some u → W.cell? ⟨b, i * 3 + j, none⟩ = some u)
    (rich : m.mo t < 1000000000) (few : m.pc t h g < 10000) (T : Told (placeM m x) x.t l) (rW : ∀ i, i < l.length → ∃ b, wa = some ⟨b, 0, none⟩ ∧ Z b ∧ ∀ i (hi : i < l.length) j u, l[i].cells[j]? = some u → W.cell? ⟨b, i * 8 + j, none⟩ = some u)
    (Post : Ending → World → Prop) (hP : ∀ W', Kep non w W' → Post (.returned (.bool true)) W') (u0 u1 u2 u3 u4 u5 u6 u8 u11 u14 u15 u16 u17 u18 u19 u20 u22 u23 u25 u26 u27 u28 u29 u30 u31 u32 u33 u34 u35 u36 u37 u38 u39 u40 u41 u42 u43 u44 u45 u46 u47 u48 u49 u50 u51 u52 u53 u54 u55 u56 u57 u58 u59 u60 u61 u62 u63 u64 u65 u66 u67 u68 u69 u70 u71 u72 u73 u74 u75 u76 u77 u78 u79 u80 u81 u82 u83 u84 u85 u86 u87 u88 u89 u90 u91 u92 u93 u94 u95 u96 u97 u98 u99 u100 u101 u102 u103 u104 u105 u106 u107 u108 u109 u110 u111 u112 u113 u114 u115 u116 u117 u118 u119 u120 u121 u122 u123 u124 u125 u126 u127 u128 u129 u130 u131 u132 u133 u134 u135 u136 u137 u138 u139 u140 u141 u142 u143 u144 u145 u146 u147 u148 u149 u150 u151 u152 u153 u154 u155 u156 u157 u158 u159 u160 u161 u162 u163 u164 u165 u166 u167 u168 u169 u170 u171 u172 u173 u174 u175 u176 u177 u178 u179 u180 u181 u182 u183 u184 u185 u186 u187 u188 u189 u190 u191 u192 u193 u194 u195 u196 u197 u198 u199 u200 u201 u202 u203 u204 u205 u206 u207 u208 u209 u210 u211 u212 u213 u214 u215 u216 u217 u218 u219 u220 u221 u222 u223 u224 u225 u226 u227 u228 u229 u230 u231 u232 u233 u234 u235 u236 u237 u238 u239 u240 u241 u242 u243 u244 u245 u246 u247 u248 u249 u250 u251 u252 u253 u254 u255 u256 u257 u258 u259 u260 u261 u262 u263 u264 u265 u266 u267 u268 u269 u270 u271 u272 u273 u274 u275 u276 u277 u278 u279 u280 u281 u282 u283 u284 u285 u286 u287 u288 u289 u290 u291 u292 u293 u294 u295 u296 u297 u298 u299 u300 u301 u302 u303 u304 u305 u306 u307 u308 u309 u310 u311 u312 u313 u314 u315 u316 u317 u318 u319 u320 u321 u322 u323 u324 u325 u326 u327 u328 u329 u330 u331 u332 u333 u334 u335 u336 u337 u338 u339 u340 u341 u342 u343 u344 u345 u346 u347 u348 u349 u350 u351 u352 u353 u354 u355 u356 u357 u358 u359 u360 u361 u362 u363 u364 u365 u366 u367 u368 u369 u370 u371 u372 u373 u374 u375 u376 u377 u378 u379 : Value) :
    Code.wp Try.prog (dropC 5 (((Try.f8.body.bind afterLoop).bind afterLoop).getD .skip)) (bodyPost Try.prog Try.f8 Post) ⟨#[u0, u1, u2, u3, u4, u5, u6, .pointer (some ⟨w.heap.size, 0, none⟩), u8, .pointer (some ⟨XB, 0, none⟩), .pointer (some ⟨aa, 0, none⟩), u11, .slice va (lvL (m.bk h g 0)).length vc, .slice ua (lvL (m.bk h g 1)).length uc, u14, u15, u16, u17, u18, u19, u20, .int .i64 (m.nu + 1), u22, u23, .slice wa l.length wc, u25, u26, u27, u28, u29, u30, u31, u32, u33, u34, u35, u36, u37, u38, u39, u40, u41, u42, u43, u44, u45, u46, u47, u48, u49, u50, u51, u52, u53, u54, u55, u56, u57, u58, u59, u60, u61, u62, u63, u64, u65, u66, u67, u68, u69, u70, u71, u72, u73, u74, u75, u76, u77, u78, u79, u80, u81, u82, u83, u84, u85, u86, u87, u88, u89, u90, u91, u92, u93, u94, u95, u96, u97, u98, u99, u100, u101, u102, u103, u104, u105, u106, u107, u108, u109, u110, u111, u112, u113, u114, u115, u116, u117, u118, u119, u120, u121, u122, u123, u124, u125, u126, u127, u128, u129, u130, u131, u132, u133, u134, u135, u136, u137, u138, u139, u140, u141, u142, u143, u144, u145, u146, u147, u148, u149, u150, u151, u152, u153, u154, u155, u156, u157, u158, u159, u160, u161, u162, u163, u164, u165, u166, u167, u168, u169, u170, u171, u172, u173, u174, u175, u176, u177, u178, u179, u180, u181, u182, u183, u184, u185, u186, u187, u188, u189, u190, u191, u192, u193, u194, u195, u196, u197, u198, u199, u200, u201, u202, u203, u204, u205, u206, u207, u208, u209, u210, u211, u212, u213, u214, u215, u216, u217, u218, u219, u220, u221, u222, u223, u224, u225, u226, u227, u228, u229, u230, u231, u232, u233, u234, u235, u236, u237, u238, u239, u240, u241, u242, u243, u244, u245, u246, u247, u248, u249, u250, u251, u252, u253, u254, u255, u256, u257, u258, u259, u260, u261, u262, u263, u264, u265, u266, u267, u268, u269, u270, u271, u272, u273, u274, u275, u276, u277, u278, u279, u280, u281, u282, u283, u284, u285, u286, u287, u288, u289, u290, u291, u292, u293, u294, u295, u296, u297, u298, u299, u300, u301, u302, u303, u304, u305, u306, u307, u308, u309, u310, u311, u312, u313, u314, u315, u316, u317, u318, u319, u320, u321, u322, u323, u324, u325, u326, u327, u328, u329, u330, u331, u332, u333, u334, u335, u336, u337, u338, u339, u340, u341, u342, u343, u344, u345, u346, u347, u348, u349, u350, u351, u352, u353, u354, u355, u356, u357, u358, u359, u360, u361, u362, u363, u364, u365, u366, u367, u368, u369, u370, u371, u372, u373, u374, u375, u376, u377, u378, u379], []⟩ W := by
  have hn : m.nu + 1 ≤ 2000000 := by have := St.nu; omega
  have I1 := St.inv.place hn x
  have J1 : (placeM m x).Jn := St.jn.place St.inv x
  have n1 : (placeM m x).nu + 1 ≤ 2000000 := by have h1 := (Does.place (mon := 0) (p0 := 0) (p1 := 0) St.inv hn x).nu; have := St.nu; omega
  have dT : (placeM m x).T = m.T := (Moves.dims (m := m) (m' := placeM m x) (.inr (.inr (.inr (.inr (.inr (.inr (.inr (.inr (.inr ⟨x, rfl⟩)))))))))).T
  have okt : okI (placeM m x).T x.t := ⟨by omega, by rw [dT, St.T, et]; omega⟩
  have hl60 := told_len T I1
  have kd : Kep non W W.drew := (Kep.refl _ _).drew
  have HCh := hide (show Calls Try.prog 25 #[.pointer (some ⟨X, 0, none⟩), .int .i64 x.t, .int .i64 (m.nu + 1), .int .i64 100000, .int .i64 10000] W.drew fun e w3 => ∃ (a : Int) (v : Value) (b : Int), e = .returned (.tuple #[.int .i64 a, v, .int .i64 b]) ∧ (b = (if x.s = 0 then 6 else 7) ∧ DeskZ w rs X (placeM m x) w3 Z ∧ KZ Z W w3) from ((D.later kd).change I1 n1 x.t (m.nu + 1) 100000 10000).mono fun e w3 ⟨n, v, c, ts, m', C, h1, h2, h3⟩ => by
    obtain ⟨e1, e2⟩ := L.change St.inv St.jn (by rw [et]; exact rich) (by rw [et]; exact few) C
    rw [e2] at h2
    exact ⟨n, v, c, h1, e1, h2, (KZ.of kd (fun b hb => D.lt hb)).trans h3⟩)
  have cp := Desk.ptr D.desk
  have x1 := hX 1 _ rfl
  have HOr := hide (fun V (DV : DeskB w rs X (placeM m x) V) => DeskB.ords DV I1 J1 okt)
  have HP := hide hP
  have HX := hide hX
  have HA := hide hA
  have HrA := hide rA
  have Hr0 := hide r0
  have Hr1 := hide r1
  have HrW := hide rW
  have HL := hide L
  have HSt := hide St
  have HT := hide T
  have hs : x.s = 0 ∨ x.s = 1 := by have := L.es; have := L.q.2.2; omega
  have HS := hide hs
  clear hP hX hA rA r0 r1 rW L St T I1 J1 kd hs D
  conv => arg 2; whnf
  go_wp2_with fail
  refine und_g27 (fun a v b wx => b = (if x.s = 0 then 6 else 7) ∧ DeskZ w rs X (placeM m x) wx Z ∧ KZ Z W wx) cp x1 HCh.out _ _ _ _ _ _ _ _ _ _ _ _ _ _ _ _ _ _ _ _ _ _ _ _ _ _ _ _ _ _ _ _ _ _ _ _ _ _ _ _ _ _ _ _ _ _ _ _ _ _ _ _ _ _ _ _ _ _ _ _ _ _ _ _ _ _ _ _ _ _ _ _ _ _ _ _ _ _ _ _ _ _ _ _ _ _ _ _ _ _ _ _ _ _ _ _ _ _ _ _ _ _ _ _ _ _ _ _ _ _ _ _ _ _ _ _ _ _ _ _ _ _ _ _ _ _ _ _ _ _ _ _ _ _ _ _ _ _ _ _ _ _ _ _ _ _ _ _ _ _ _ _ _ _ _ _ _ _ _ _ _ _ _ _ _ _ _ _ _ _ _ _ _ _ _ _ _ _ _ _ _ _ _ _ _ _ _ _ _ _ _ _ _ _ _ _ _ _ _ _ _ _ _ _ _ _ _ _ _ _ _ _ _ _ _ _ _ _ _ _ _ _ _ _ _ _ _ _ _ _ _ _ _ _ _ _ _ _ _ _ _ _ _ _ _ _ _ _ _ _ _ _ _ _ _ _ _ _ _ _ _ _ _ _ _ _ _ _ _ _ _ _ _ _ _ _ _ _ _ _ _ _ _ _ _ _ _ _ _ _ _ _ _ _ _ _ _ _ _ _ _ _ _ _ _ _ _ _ _ _ _ _ _ _ _ _ _ _ _ _ _ _ _ _ _ _ _ _ _ _ _ _ _ _ _ _ _ _ _ _ _ _ _ _ _ _ _ _ _ _ _ _ _ _ _ _ _ _ _ _ _ _ _ _ _ _ _ _ _ _ _ _ _ _ _ _ _ _ ?_
  intro n197 n198 n199 n200 n201 n202 n203 n204 n205 n206 n207 n208 a v b w3 ⟨eb, D3, kz3⟩
  have cp3 := Desk.ptr D3.desk
  have y1 := kz3.cell (HX.out 1 _ rfl) zX
  have HO3 := hide (HOr.out w3.drew (Desk.later D3.desk ((Kep.refl _ _).drew)))
  have HD3 := hide D3
  have HK3 := hide kz3
  have HEb := hide eb
  clear eb D3 kz3 HCh cp x1
  go_wp2_with fail
  refine und_g28 (fun l2 va2 wx => OrdIn (placeM m x) x.t w3.drew l2 va2 wx) cp3 y1 HO3.out _ _ _ _ _ _ _ _ _ _ _ _ _ _ _ _ _ _ _ _ _ _ _ _ _ _ _ _ _ _ _ _ _ _ _ _ _ _ _ _ _ _ _ _ _ _ _ _ _ _ _ _ _ _ _ _ _ _ _ _ _ _ _ _ _ _ _ _ _ _ _ _ _ _ _ _ _ _ _ _ _ _ _ _ _ _ _ _ _ _ _ _ _ _ _ _ _ _ _ _ _ _ _ _ _ _ _ _ _ _ _ _ _ _ _ _ _ _ _ _ _ _ _ _ _ _ _ _ _ _ _ _ _ _ _ _ _ _ _ _ _ _ _ _ _ _ _ _ _ _ _ _ _ _ _ _ _ _ _ _ _ _ _ _ _ _ _ _ _ _ _ _ _ _ _ _ _ _ _ _ _ _ _ _ _ _ _ _ _ _ _ _ _ _ _ _ _ _ _ _ _ _ _ _ _ _ _ _ _ _ _ _ _ _ _ _ _ _ _ _ _ _ _ _ _ _ _ _ _ _ _ _ _ _ _ _ _ _ _ _ _ _ _ _ _ _ _ _ _ _ _ _ _ _ _ _ _ _ _ _ _ _ _ _ _ _ _ _ _ _ _ _ _ _ _ _ _ _ _ _ _ _ _ _ _ _ _ _ _ _ _ _ _ _ _ _ _ _ _ _ _ _ _ _ _ _ _ _ _ _ _ _ _ _ _ _ _ _ _ _ _ _ _ _ _ _ _ _ _ _ _ _ _ _ _ _ _ _ _ _ _ _ _ _ _ _ _ _ _ _ _ _ _ _ _ _ _ _ _ _ _ _ _ _ _ _ _ _ _ _ _ _ _ _ _ _ _ _ _ ?_
  intro p209 p210 p211 p212 p213 p214 p215 p216 p217 p218 xa l2 xc w4 ⟨T2, k4, rV⟩
  have e2 : l2 = l := T2.one HT.out
  have k34 : Kep non w3 w4 := ((Kep.refl non w3).drew).trans k4
  have KZ4 := HK3.out.trans (KZ.of k34 (fun b hb => HD3.out.lt hb))
  have HD4 := hide (HD3.out.later k34)
  have HK4 := hide KZ4
  have y4 := KZ4.cell (HX.out 4 _ rfl) zX
  have HRa := hide (rowD (rowZ (cs := Od.cells) KZ4 HrW.out))
  have HRb := hide (show ∀ i, i < l2.length → ∃ b, xa = some ⟨b, 0, none⟩ ∧ ∀ i (hi : i < l2.length) j u, l2[i].cells[j]? = some u → w4.cell? ⟨b, i * 8 + j, none⟩ = some u from fun i hi => by
    obtain ⟨b, h1, _, h3⟩ := rV i hi
    exact ⟨b, h1, h3⟩)
  clear T2 k4 rV k34 KZ4 HO3 cp3 y1 HD3 HK3 HOr
  subst e2
  rcases HS.out with hs | hs
  all_goals
    have hb := HEb.out
    rw [hs] at y4 hb
    first | rw [if_pos rfl] at hb | rw [if_neg (by decide)] at hb
    subst hb
    go_wp2
    rename_i Kx hKx
    have HKx := hide hKx
    clear hKx
    refine und_l3 hl60 HRa.out HRb.out _ _ _ _ _ _ _ _ _ _ _ _ _ _ _ _ _ _ _ _ _ _ _ _ _ _ _ _ _ _ _ _ _ _ _ _ _ _ _ _ _ _ _ _ _ _ _ _ _ _ _ _ _ _ _ _ _ _ _ _ _ _ _ _ _ _ _ _ _ _ _ _ _ _ _ _ _ _ _ _ _ _ _ _ _ _ _ _ _ _ _ _ _ _ _ _ _ _ _ _ _ _ _ _ _ _ _ _ _ _ _ _ _ _ _ _ _ _ _ _ _ _ _ _ _ _ _ _ _ _ _ _ _ _ _ _ _ _ _ _ _ _ _ _ _ _ _ _ _ _ _ _ _ _ _ _ _ _ _ _ _ _ _ _ _ _ _ _ _ _ _ _ _ _ _ _ _ _ _ _ _ _ _ _ _ _ _ _ _ _ _ _ _ _ _ _ _ _ _ _ _ _ _ _ _ _ _ _ _ _ _ _ _ _ _ _ _ _ _ _ _ _ _ _ _ _ _ _ _ _ _ _ _ _ _ _ _ _ _ _ _ _ _ _ _ _ _ _ _ _ _ _ _ _ _ _ _ _ _ _ _ _ _ _ _ _ _ _ _ _ _ _ _ _ _ _ _ _ _ _ _ _ _ _ _ _ _ _ _ _ _ _ _ _ _ _ _ _ _ _ _ _ _ _ _ _ _ _ _ _ _ _ _ _ _ _ _ _ _ _ _ _ _ _ _ _ _ _ _ _ _ _ _ _ _ _ _ _ _ _ _ _ _ _ _ _ _ _ _ _ _ _ _ _ _ _ _ _ _ _ _ _ _ _ _ _ _ _ _ _ _ _ _ _ _ _ _ _ ?_
    intro q6 q235 q236 q237 q238 q239 q240 q241 q242 q243 q244 q245 q246 q247 q248 q249 w5 k5
    have K5 := HK4.out.trans (KZ.of k5 (fun b hb => HD4.out.lt hb))
    refine HKx.out _ _ ?_
    exact und_r3 (HD4.out.later k5) HL.out HSt.out hk et ht zX (fun j u h => K5.cell (HX.out j u h) zX) zA ((K5.2 aa zA).trans HA.out) (rowZ (cs := Sk.cells) K5 HrA.out) (rowZ (cs := Lv.cells) K5 Hr0.out) (rowZ (cs := Lv.cells) K5 Hr1.out) Post HP.out _ _ _ _ _ _ _ _ _ _ _ _ _ _ _ _ _ _ _ _ _ _ _ _ _ _ _ _ _ _ _ _ _ _ _ _ _ _ _ _ _ _ _ _ _ _ _ _ _ _ _ _ _ _ _ _ _ _ _ _ _ _ _ _ _ _ _ _ _ _ _ _ _ _ _ _ _ _ _ _ _ _ _ _ _ _ _ _ _ _ _ _ _ _ _ _ _ _ _ _ _ _ _ _ _ _ _ _ _ _ _ _ _ _ _ _ _ _ _ _ _ _ _ _ _ _ _ _ _ _ _ _ _ _ _ _ _ _ _ _ _ _ _ _ _ _ _ _ _ _ _ _ _ _ _ _ _ _ _ _ _ _ _ _ _ _ _ _ _ _ _ _ _ _ _ _ _ _ _ _ _ _ _ _ _ _ _ _ _ _ _ _ _ _ _ _ _ _ _ _ _ _ _ _ _ _ _ _ _ _ _ _ _ _ _ _ _ _ _ _ _ _ _ _ _ _ _ _ _ _ _ _ _ _ _ _ _ _ _ _ _ _ _ _ _ _ _ _ _ _ _ _ _ _ _ _ _ _ _ _ _ _ _ _ _ _ _ _ _ _ _ _ _ _ _ _ _ _ _ _ _ _ _ _ _ _ _ _ _ _ _ _ _ _ _ _ _ _ _ _ _ _ _ _ _ _ _ _ _ _ _ _ _ _ _ _ _ _ _ _ _ _ _ _ _ _ _ _ _ _ _ _ _ _ _ _ _ _ _ _ _ _ _ _ _ _ _ _ _ _ _ _ _ _ _ _ _ _ _ _ _ _ _ _ _ _ _ _ _ _ _ _ _ _

end

section
open Go.RowKit Go.Sort

/-- an order, as Undone asks one -/
structure XU (x : Od) (t h g s n : Nat) : Prop where
  et : x.t = t
  lt : t < 4
  eh : x.h = h
  lh : h < n
  eg : x.g = g
  lg : g < 2
  es : x.s = s
  ls : s < 2
  q : 1 ≤ x.q ∧ x.q ≤ 300
  w : x.w = 3

theorem kept_nn {m : Mt} {N : Int} (I : m.Inv N) {h g : Nat} (hh : h < m.H) (hg : g < m.G) (t : Int) : 0 ≤ m.kept t h g ∧ m.kept t h g ≤ 10000 * 60 := by
  have q : at3 m h g 1 := ⟨hh, hg, by decide⟩
  have gen : ∀ l : List Od, (∀ o ∈ l, 1 ≤ o.q ∧ o.q ≤ 10000) → 0 ≤ keptL t l ∧ keptL t l ≤ 10000 * (l.length : Int) := fun l => by
    induction l with
    | nil => intro _; simp [keptL]
    | cons o r ih =>
      intro h
      have h1 := ih fun y hy => h y (List.mem_cons_of_mem _ hy)
      have h2 := h o (List.mem_cons_self ..)
      simp only [keptL, List.length_cons]
      split <;> omega
  have h1 := gen (m.bk h g 1) fun o ho => (I.od h g 1 o q.1 q.2.1 q.2.2 ho).q
  have h2 := len_bk q
  have h3 := I.a60
  unfold Mt.kept
  omega

theorem place_not {m : Mt} {x : Od} (hE : placeE m x ≠ 0) : placeT m x = [] ∧ placeI m x = 0 := by
  unfold placeT placeI
  rw [if_neg hE, if_neg hE]
  exact ⟨rfl, rfl⟩

set_option maxRecDepth 1000000 in
set_option maxHeartbeats 16000000 in
theorem und_r2 {w : World} {rs : List Int} {X XB aa t h g s k vc uc yc : Nat} {m : Mt} {x : Od} {W1 W : World} {va ua ya : Option Addr} (D : DeskB w rs X m W1) (St : Stood rs k m) (hk : k ≤ 100) (k0 : Kep non W1 W) (ox : XU x t h g s rs.length) (rich : m.mo t < 1000000000) (own : ∀ z ∈ m.bk h g (otherS s), z.t = x.t → pfits x z = false)
    (zX : W1.heap.size ≤ XB ∧ XB < W.heap.size) (hX : ∀ j u, x.cells[j]? = some u → W.cell? ⟨XB, j, none⟩ = some u) (zA : W1.heap.size ≤ aa ∧ aa < W.heap.size) (hA : W.heap[aa]? = some (.cells #[.int .i64 (m.mo t), .int .i64 (m.held t), .slice ya (stkTo m t m.H).length yc] 62 (0, 0)))
    (rA : ∀ i, i < (stkTo m t m.H).length → ∃ b, ya = some ⟨b, 0, none⟩ ∧ (W1.heap.size ≤ b ∧ b < W.heap.size) ∧ ∀ i (hi : i < (stkTo m t m.H).length) j u, (stkTo m t m.H)[i].cells[j]? = some u → W.cell? ⟨b, i * 5 + j, none⟩ = some u) (r0 : ∀ i, i < (lvL (m.bk h g 0)).length → ∃ b, va = some ⟨b, 0, none⟩ ∧ (W1.heap.size ≤ b ∧ b < W.heap.size) ∧ ∀ i (hi : i < (lvL (m.bk h g 0)).length) j u, (lvL (m.bk h g 0))[i].cells[j]? = some u → W.cell? ⟨b, i * 3 + j, none⟩ = some u) (r1 : ∀ i, i < (lvL (m.bk h g 1)).length → ∃ b, ua = some ⟨b, 0, none⟩ ∧ (W1.heap.size ≤ b ∧ b < W.heap.size) ∧ ∀ i (hi : i < (lvL (m.bk h g 1)).length) j u, (lvL (m.bk h g 1))[i].cells[j]? = some u → W.cell? ⟨b, i * 3 + j, none⟩ = some u)
    (Post : Ending → World → Prop) (hP : ∀ W', Kep non w W' → Post (.returned (.bool true)) W') (u0 u1 u2 u3 u4 u5 u6 u8 u11 u14 u15 u16 u17 u18 u19 u20 u21 u22 u23 u24 u25 u26 u27 u28 u29 u30 u31 u32 u33 u34 u35 u36 u37 u38 u39 u40 u41 u42 u43 u44 u45 u46 u47 u48 u49 u50 u51 u52 u53 u54 u55 u56 u57 u58 u59 u60 u61 u62 u63 u64 u65 u66 u67 u68 u69 u70 u71 u72 u73 u74 u75 u76 u77 u78 u79 u80 u81 u82 u83 u84 u85 u86 u87 u88 u89 u90 u91 u92 u93 u94 u95 u96 u97 u98 u99 u100 u101 u102 u103 u104 u105 u106 u107 u108 u109 u110 u111 u112 u113 u114 u115 u116 u117 u118 u119 u120 u121 u122 u123 u124 u125 u126 u127 u128 u129 u130 u131 u132 u133 u134 u135 u136 u137 u138 u139 u140 u141 u142 u143 u144 u145 u146 u147 u148 u149 u150 u151 u152 u153 u154 u155 u156 u157 u158 u159 u160 u161 u162 u163 u164 u165 u166 u167 u168 u169 u170 u171 u172 u173 u174 u175 u176 u177 u178 u179 u180 u181 u182 u183 u184 u185 u186 u187 u188 u189 u190 u191 u192 u193 u194 u195 u196 u197 u198 u199 u200 u201 u202 u203 u204 u205 u206 u207 u208 u209 u210 u211 u212 u213 u214 u215 u216 u217 u218 u219 u220 u221 u222 u223 u224 u225 u226 u227 u228 u229 u230 u231 u232 u233 u234 u235 u236 u237 u238 u239 u240 u241 u242 u243 u244 u245 u246 u247 u248 u249 u250 u251 u252 u253 u254 u255 u256 u257 u258 u259 u260 u261 u262 u263 u264 u265 u266 u267 u268 u269 u270 u271 u272 u273 u274 u275 u276 u277 u278 u279 u280 u281 u282 u283 u284 u285 u286 u287 u288 u289 u290 u291 u292 u293 u294 u295 u296 u297 u298 u299 u300 u301 u302 u303 u304 u305 u306 u307 u308 u309 u310 u311 u312 u313 u314 u315 u316 u317 u318 u319 u320 u321 u322 u323 u324 u325 u326 u327 u328 u329 u330 u331 u332 u333 u334 u335 u336 u337 u338 u339 u340 u341 u342 u343 u344 u345 u346 u347 u348 u349 u350 u351 u352 u353 u354 u355 u356 u357 u358 u359 u360 u361 u362 u363 u364 u365 u366 u367 u368 u369 u370 u371 u372 u373 u374 u375 u376 u377 u378 u379 : Value) :
    Code.wp Try.prog (((Try.f8.body.bind afterLoop).bind afterLoop).getD .skip) (bodyPost Try.prog Try.f8 Post) ⟨#[u0, u1, u2, u3, u4, u5, u6, .pointer (some ⟨w.heap.size, 0, none⟩), u8, .pointer (some ⟨XB, 0, none⟩), .pointer (some ⟨aa, 0, none⟩), u11, .slice va (lvL (m.bk h g 0)).length vc, .slice ua (lvL (m.bk h g 1)).length uc, u14, u15, u16, u17, u18, u19, u20, u21, u22, u23, u24, u25, u26, u27, u28, u29, u30, u31, u32, u33, u34, u35, u36, u37, u38, u39, u40, u41, u42, u43, u44, u45, u46, u47, u48, u49, u50, u51, u52, u53, u54, u55, u56, u57, u58, u59, u60, u61, u62, u63, u64, u65, u66, u67, u68, u69, u70, u71, u72, u73, u74, u75, u76, u77, u78, u79, u80, u81, u82, u83, u84, u85, u86, u87, u88, u89, u90, u91, u92, u93, u94, u95, u96, u97, u98, u99, u100, u101, u102, u103, u104, u105, u106, u107, u108, u109, u110, u111, u112, u113, u114, u115, u116, u117, u118, u119, u120, u121, u122, u123, u124, u125, u126, u127, u128, u129, u130, u131, u132, u133, u134, u135, u136, u137, u138, u139, u140, u141, u142, u143, u144, u145, u146, u147, u148, u149, u150, u151, u152, u153, u154, u155, u156, u157, u158, u159, u160, u161, u162, u163, u164, u165, u166, u167, u168, u169, u170, u171, u172, u173, u174, u175, u176, u177, u178, u179, u180, u181, u182, u183, u184, u185, u186, u187, u188, u189, u190, u191, u192, u193, u194, u195, u196, u197, u198, u199, u200, u201, u202, u203, u204, u205, u206, u207, u208, u209, u210, u211, u212, u213, u214, u215, u216, u217, u218, u219, u220, u221, u222, u223, u224, u225, u226, u227, u228, u229, u230, u231, u232, u233, u234, u235, u236, u237, u238, u239, u240, u241, u242, u243, u244, u245, u246, u247, u248, u249, u250, u251, u252, u253, u254, u255, u256, u257, u258, u259, u260, u261, u262, u263, u264, u265, u266, u267, u268, u269, u270, u271, u272, u273, u274, u275, u276, u277, u278, u279, u280, u281, u282, u283, u284, u285, u286, u287, u288, u289, u290, u291, u292, u293, u294, u295, u296, u297, u298, u299, u300, u301, u302, u303, u304, u305, u306, u307, u308, u309, u310, u311, u312, u313, u314, u315, u316, u317, u318, u319, u320, u321, u322, u323, u324, u325, u326, u327, u328, u329, u330, u331, u332, u333, u334, u335, u336, u337, u338, u339, u340, u341, u342, u343, u344, u345, u346, u347, u348, u349, u350, u351, u352, u353, u354, u355, u356, u357, u358, u359, u360, u361, u362, u363, u364, u365, u366, u367, u368, u369, u370, u371, u372, u373, u374, u375, u376, u377, u378, u379], []⟩ W := by
  have hn : m.nu + 1 ≤ 2000000 := by have := St.nu; omega
  have hhH : h < m.H := by rw [St.H]; exact ox.lh
  have hgG : g < m.G := by rw [St.G]; exact ox.lg
  have htT : t < m.T := by rw [St.T]; exact ox.lt
  have q : at3 m h g s := ⟨hhH, hgG, ox.ls⟩
  have hkp := kept_nn St.inv hhH hgG (t : Int)
  have hpc := St.inv.ok.pc t h g htT hhH hgG
  have bN := St.inv.bN
  have D0 := Desk.later D k0
  have HStk := hide (show Calls Try.prog 13 #[.pointer (some ⟨w.heap.size, 0, none⟩), .int .i64 x.t, .int .i64 x.h, .int .i64 x.g] W fun e w' => ∃ a b : Int, e = .returned (.agg #[.int .i64 a, .int .i64 b, .int .i64 (m.pc t h g), .int .i64 (m.kept t h g), .int .i64 (m.come t h g)]) ∧ Kep non W w' from by
    rw [ox.et, ox.eh, ox.eg]
    obtain ⟨L, rv, pb, _, D'⟩ := D0
    exact dstock_any W w.heap.size L m _ D'.R St.inv.ok D'.c0 t h g htT hhH hgG)
  have HLo := hide (fun hE => show Lone m x h g s from ⟨q, ox.eh, ox.eg, ox.es, hE, ox.w, ox.q, own⟩)
  have HPl := hide (fun V (kV : Kep non W V) => show Calls Try.prog 19 #[.pointer (some ⟨X, 0, none⟩), x.agg] V fun e w3 => ∃ (a : Int) (v : Value) (b : Int), e = .returned (.tuple #[.int .i64 a, v, .int .i64 b]) ∧ ∃ va' vc', a = placeI m x ∧ v = .slice va' (placeT m x).length vc' ∧ b = placeE m x ∧ DeskZ w rs X (placeM m x) w3 (fun b => W1.heap.size ≤ b ∧ b < W.heap.size) ∧ KZ (fun b => W1.heap.size ≤ b ∧ b < W.heap.size) W w3 from by
    have DZ : DeskZ w rs X m V (fun b => W1.heap.size ≤ b ∧ b < W.heap.size) := (DeskZ.start D St.inv (k0.trans kV)).weak fun b hb => ⟨hb.1, by have := kV.size; omega⟩
    refine (DZ.place St.inv hn x).mono fun e w3 ⟨va', vc', h1, h2, h3⟩ => ⟨_, _, _, h1, va', vc', rfl, rfl, rfl, h2, (KZ.of kV (fun b hb => hb.2)).trans h3⟩)
  have dT : (placeM m x).T = m.T := (Moves.dims (m := m) (m' := placeM m x) (.inr (.inr (.inr (.inr (.inr (.inr (.inr (.inr (.inr ⟨x, rfl⟩)))))))))).T
  have okt : okI (placeM m x).T x.t := ⟨by have := ox.et; omega, by rw [dT, St.T, ox.et]; have := ox.lt; omega⟩
  have HOr := hide (fun V (DV : DeskB w rs X (placeM m x) V) => DeskB.ords DV (St.inv.place hn x) (St.jn.place St.inv x) okt)
  have HKp := hide (fun V (kV : Kep non W V) => (Desk.kp D0).trans kV)
  have HPt := hide (fun V (kV : Kep non W V) => Desk.ptr (Desk.later D0 kV))
  have x1 := hX 1 _ rfl
  have x2 := hX 2 _ rfl
  have x3 := hX 3 _ rfl
  have HP := hide hP
  have HX := hide hX
  have HA := hide hA
  have HrA := hide rA
  have Hr0 := hide r0
  have Hr1 := hide r1
  have HSt := hide St
  have HOx := hide ox
  clear hP hX hA rA r0 r1 St ox D D0 own okt dT
  conv => arg 2; whnf
  go_wp2_with fail
  refine HStk.out.mono ?_
  rintro e' w2 ⟨a, b, rfl, k2⟩
  have hb := heap_alloc_new w2 (.cells #[.int .i64 a, .int .i64 b, .int .i64 (m.pc t h g), .int .i64 (m.kept t h g), .int .i64 (m.come t h g)] 33)
  have c2 := cell_of_row _ _ 2 _ _ _ hb
  have c3 := cell_of_row _ _ 3 _ _ _ hb
  have HK3 := hide (show Kep non W (w2.alloc (.cells #[.int .i64 a, .int .i64 b, .int .i64 (m.pc t h g), .int .i64 (m.kept t h g), .int .i64 (m.come t h g)] 33)) from k2.alloc _)
  clear hb k2 HStk x1 x2 x3
  generalize hpv : m.pc t h g = pv at *
  generalize hkv : m.kept t h g = kv at *
  by_cases hge : 10000 ≤ pv + kv
  · clear HPl HOr HLo
    go_wp2
    exact HP.out _ (HKp.out _ HK3.out)
  · have few : m.pc t h g < 10000 := by omega
    have hge' : decide (10000 ≤ pv + kv) = false := decide_eq_false hge
    have HFew := hide few
    have hsum : IntKind.i64.wrap (pv + kv) = pv + kv := by rw [IntKind.wrap_i64]; omega
    clear few
    go_wp2_with fail
    generalize w2.alloc (.cells #[.int .i64 a, .int .i64 b, .int .i64 pv, .int .i64 kv, .int .i64 (m.come t h g)] 33) = W3 at *
    have cp3 := HPt.out W3 HK3.out
    have HX3 := hide (fun j u h => HK3.out.cell (HX.out j u h) (fun f => f))
    have HPl3 := hide (HPl.out W3.drew HK3.out.drew)
    clear c2 c3 hge hge' hsum HPl
    refine und_g23 (x := x) (fun a v b wx => ∃ va' vc', a = placeI m x ∧ v = .slice va' (placeT m x).length vc' ∧ b = placeE m x ∧ DeskZ w rs X (placeM m x) wx (fun b => W1.heap.size ≤ b ∧ b < W.heap.size) ∧ KZ (fun b => W1.heap.size ≤ b ∧ b < W.heap.size) W wx) cp3 HX3.out HPl3.out _ _ _ _ _ _ _ _ _ _ _ _ _ _ _ _ _ _ _ _ _ _ _ _ _ _ _ _ _ _ _ _ _ _ _ _ _ _ _ _ _ _ _ _ _ _ _ _ _ _ _ _ _ _ _ _ _ _ _ _ _ _ _ _ _ _ _ _ _ _ _ _ _ _ _ _ _ _ _ _ _ _ _ _ _ _ _ _ _ _ _ _ _ _ _ _ _ _ _ _ _ _ _ _ _ _ _ _ _ _ _ _ _ _ _ _ _ _ _ _ _ _ _ _ _ _ _ _ _ _ _ _ _ _ _ _ _ _ _ _ _ _ _ _ _ _ _ _ _ _ _ _ _ _ _ _ _ _ _ _ _ _ _ _ _ _ _ _ _ _ _ _ _ _ _ _ _ _ _ _ _ _ _ _ _ _ _ _ _ _ _ _ _ _ _ _ _ _ _ _ _ _ _ _ _ _ _ _ _ _ _ _ _ _ _ _ _ _ _ _ _ _ _ _ _ _ _ _ _ _ _ _ _ _ _ _ _ _ _ _ _ _ _ _ _ _ _ _ _ _ _ _ _ _ _ _ _ _ _ _ _ _ _ _ _ _ _ _ _ _ _ _ _ _ _ _ _ _ _ _ _ _ _ _ _ _ _ _ _ _ _ _ _ _ _ _ _ _ _ _ _ _ _ _ _ _ _ _ _ _ _ _ _ _ _ _ _ _ _ _ _ _ _ _ _ _ _ _ _ _ _ _ _ _ _ _ _ _ _ _ _ _ _ _ _ _ _ _ _ _ _ _ _ _ _ _ _ _ _ _ _ _ _ _ _ _ _ _ _ _ _ _ _ _ _ _ _ _ _ ?_
    intro n168 n169 n170 n171 n172 n173 n174 n175 n176 n177 a1 v1 b1 w4 ⟨va', vc', ea, ev, eb, D4, kz4⟩
    have HD4 := hide D4
    have HK4 := hide kz4
    subst ea
    subst ev
    subst eb
    clear D4 kz4 cp3 HX3 HPl3
    by_cases hE : placeE m x = 0
    · obtain ⟨t1, t2⟩ := (HLo.out hE).told HSt.out.inv
      rw [hE, t1, t2]
      have cp4 := Desk.ptr HD4.out.desk
      have y1 := HK4.out.cell (HX.out 1 _ rfl) zX
      have HO4 := hide (HOr.out w4.drew (Desk.later HD4.out.desk ((Kep.refl _ _).drew)))
      have HLn := hide (HLo.out hE)
      clear t1 t2 HLo HOr
      go_wp2_with fail
      rename_i Kx hKx
      refine und_g26 (fun l2 va2 wx => OrdIn (placeM m x) x.t w4.drew l2 va2 wx) cp4 y1 HO4.out _ _ _ _ _ _ _ _ _ _ _ _ _ _ _ _ _ _ _ _ _ _ _ _ _ _ _ _ _ _ _ _ _ _ _ _ _ _ _ _ _ _ _ _ _ _ _ _ _ _ _ _ _ _ _ _ _ _ _ _ _ _ _ _ _ _ _ _ _ _ _ _ _ _ _ _ _ _ _ _ _ _ _ _ _ _ _ _ _ _ _ _ _ _ _ _ _ _ _ _ _ _ _ _ _ _ _ _ _ _ _ _ _ _ _ _ _ _ _ _ _ _ _ _ _ _ _ _ _ _ _ _ _ _ _ _ _ _ _ _ _ _ _ _ _ _ _ _ _ _ _ _ _ _ _ _ _ _ _ _ _ _ _ _ _ _ _ _ _ _ _ _ _ _ _ _ _ _ _ _ _ _ _ _ _ _ _ _ _ _ _ _ _ _ _ _ _ _ _ _ _ _ _ _ _ _ _ _ _ _ _ _ _ _ _ _ _ _ _ _ _ _ _ _ _ _ _ _ _ _ _ _ _ _ _ _ _ _ _ _ _ _ _ _ _ _ _ _ _ _ _ _ _ _ _ _ _ _ _ _ _ _ _ _ _ _ _ _ _ _ _ _ _ _ _ _ _ _ _ _ _ _ _ _ _ _ _ _ _ _ _ _ _ _ _ _ _ _ _ _ _ _ _ _ _ _ _ _ _ _ _ _ _ _ _ _ _ _ _ _ _ _ _ _ _ _ _ _ _ _ _ _ _ _ _ _ _ _ _ _ _ _ _ _ _ _ _ _ _ _ _ _ _ _ _ _ _ _ _ _ _ _ _ _ _ _ _ _ _ _ _ _ _ _ _ _ _ _ _ ?_
      intro p187 p188 p189 p190 p191 p192 p193 p194 p195 p196 wa l wc w5 ⟨T, k5, rW⟩
      refine hKx _ _ ?_
      have k45 : Kep non w4 w5 := ((Kep.refl non w4).drew).trans k5
      have s45 := k45.size
      have hn' : m.nu + 1 ≤ 2000000 := hn
      have DZ := HD4.out.more (HSt.out.inv.place hn' x) k45
      have K5 : KZ (fun b => W1.heap.size ≤ b ∧ b < W.heap.size) W w5 := HK4.out.trans (KZ.of k45 (fun b hb => HD4.out.lt hb))
      exact und_r2b DZ HLn.out HSt.out hk HOx.out.et HOx.out.lt (.inl zX) (fun j u h => K5.cell (HX.out j u h) zX) (.inl zA) ((K5.2 aa zA).trans HA.out)
        (fun i hi => by obtain ⟨b, h1, h2, h3⟩ := rowZ (cs := Sk.cells) K5 HrA.out i hi; exact ⟨b, h1, .inl h2, h3⟩)
        (fun i hi => by obtain ⟨b, h1, h2, h3⟩ := rowZ (cs := Lv.cells) K5 Hr0.out i hi; exact ⟨b, h1, .inl h2, h3⟩)
        (fun i hi => by obtain ⟨b, h1, h2, h3⟩ := rowZ (cs := Lv.cells) K5 Hr1.out i hi; exact ⟨b, h1, .inl h2, h3⟩)
        rich HFew.out T (fun i hi => by obtain ⟨b, h1, h2, h3⟩ := rW i hi; exact ⟨b, h1, .inr ⟨h2.1, h2.2⟩, h3⟩) Post HP.out _ _ _ _ _ _ _ _ _ _ _ _ _ _ _ _ _ _ _ _ _ _ _ _ _ _ _ _ _ _ _ _ _ _ _ _ _ _ _ _ _ _ _ _ _ _ _ _ _ _ _ _ _ _ _ _ _ _ _ _ _ _ _ _ _ _ _ _ _ _ _ _ _ _ _ _ _ _ _ _ _ _ _ _ _ _ _ _ _ _ _ _ _ _ _ _ _ _ _ _ _ _ _ _ _ _ _ _ _ _ _ _ _ _ _ _ _ _ _ _ _ _ _ _ _ _ _ _ _ _ _ _ _ _ _ _ _ _ _ _ _ _ _ _ _ _ _ _ _ _ _ _ _ _ _ _ _ _ _ _ _ _ _ _ _ _ _ _ _ _ _ _ _ _ _ _ _ _ _ _ _ _ _ _ _ _ _ _ _ _ _ _ _ _ _ _ _ _ _ _ _ _ _ _ _ _ _ _ _ _ _ _ _ _ _ _ _ _ _ _ _ _ _ _ _ _ _ _ _ _ _ _ _ _ _ _ _ _ _ _ _ _ _ _ _ _ _ _ _ _ _ _ _ _ _ _ _ _ _ _ _ _ _ _ _ _ _ _ _ _ _ _ _ _ _ _ _ _ _ _ _ _ _ _ _ _ _ _ _ _ _ _ _ _ _ _ _ _ _ _ _ _ _ _ _ _ _ _ _ _ _ _ _ _ _ _ _ _ _ _ _ _ _ _ _ _ _ _ _ _ _ _ _ _ _ _ _ _ _ _ _ _ _ _ _ _ _ _ _ _ _ _ _ _ _ _ _ _ _ _ _ _ _ _ _ _ _ _ _ _ _ _ _
    · obtain ⟨t1, t2⟩ := place_not hE
      rw [t1, t2]
      have hE' : (placeE m x != 0) = true := by simpa using hE
      have HKe := hide (Desk.kp HD4.out.desk)
      clear HLo HOr HD4 t1 t2
      generalize placeE m x = ee at *
      simp only [List.length_nil]
      go_wp2
      exact HP.out _ HKe.out

end

end Go.Proofs.Ytcfoobhihhndjaa
