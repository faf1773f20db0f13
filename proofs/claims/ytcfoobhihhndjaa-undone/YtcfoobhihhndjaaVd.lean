/- Undone: the loops. -/
import Derived.Test.YtcfoobhihhndjaaVa
import Derived.Test.YtcfoobhihhndjaaWu
namespace Go.Proofs.Ytcfoobhihhndjaa

section
open Go.RowKit Go.Sort

set_option maxRecDepth 1000000 in
set_option maxHeartbeats 16000000 in
theorem und_l5 {W : World} {l : List Lv} {va ua : Option Addr} {vc uc : Nat} (hl60 : l.length ≤ 60) (hRa : ∀ i, i < l.length → ∃ b, va = some ⟨b, 0, none⟩ ∧ ∀ i (hi : i < l.length) j u, l[i].cells[j]? = some u → W.cell? ⟨b, i * 3 + j, none⟩ = some u) (hRb : ∀ i, i < l.length → ∃ b, ua = some ⟨b, 0, none⟩ ∧ ∀ i (hi : i < l.length) j u, l[i].cells[j]? = some u → W.cell? ⟨b, i * 3 + j, none⟩ = some u)
    (Q : Exit → Act → World → Prop) (u0 u1 u2 u3 u4 u5 u6 u7 u8 u9 u10 u11 u13 u14 u15 u16 u17 u18 u19 u20 u21 u22 u23 u24 u25 u26 u27 u28 u29 u30 u31 u32 u33 u34 u35 u36 u38 u39 u40 u42 u43 u44 u45 u46 u47 u48 u49 u50 u51 u52 u53 u54 u55 u56 u57 u58 u59 u60 u61 u62 u63 u64 u65 u66 u67 u68 u69 u70 u71 u72 u73 u74 u75 u76 u77 u78 u79 u80 u81 u82 u83 u84 u85 u86 u87 u88 u89 u90 u91 u92 u93 u94 u95 u96 u97 u98 u99 u100 u101 u102 u103 u104 u105 u106 u107 u108 u109 u110 u111 u112 u113 u114 u115 u116 u117 u118 u119 u120 u121 u122 u123 u124 u125 u126 u127 u128 u129 u130 u131 u132 u133 u134 u135 u136 u137 u138 u139 u140 u141 u142 u143 u144 u145 u146 u147 u148 u149 u150 u151 u152 u153 u154 u155 u156 u157 u158 u159 u160 u161 u162 u163 u164 u165 u166 u167 u168 u169 u170 u171 u172 u173 u174 u175 u176 u177 u178 u179 u180 u181 u182 u183 u184 u185 u186 u187 u188 u189 u190 u191 u192 u193 u194 u195 u196 u197 u198 u199 u200 u201 u202 u203 u204 u205 u206 u207 u208 u209 u210 u211 u212 u213 u214 u215 u216 u217 u218 u219 u220 u221 u222 u223 u224 u225 u226 u227 u228 u229 u230 u231 u232 u233 u234 u235 u236 u237 u238 u239 u240 u241 u242 u243 u244 u245 u246 u247 u248 u249 u250 u251 u252 u253 u254 u255 u256 u257 u258 u259 u260 u261 u262 u263 u264 u265 u266 u267 u268 u269 u270 u271 u272 u273 u274 u275 u276 u277 u278 u279 u280 u281 u282 u283 u284 u285 u286 u287 u288 u289 u290 u291 u292 u293 u294 u295 u296 u297 u298 u299 u300 u301 u302 u303 u304 u305 u306 u307 u308 u309 u310 u311 u312 u313 u314 u315 u316 u317 u318 u319 u320 u321 u322 u323 u324 u325 u326 u327 u328 u329 u330 u331 u332 u333 u334 u335 u336 u337 u338 u339 u340 u341 u342 u343 u344 u345 u346 u347 u348 u349 u350 u351 u352 u353 u354 u355 u356 u357 u358 u359 u360 u361 u362 u363 u364 u365 u366 u367 u368 u369 u370 u371 u372 u373 u374 u375 u376 u377 u378 u379 : Value)
    (hE : ∀ (n6 n350 n351 n352 n353 n354 n355 n356 n357 n358 n359 n360 n361 n362 n363 n364 : Value) (W' : World), Kep non W W' → Q (.exit 8) ⟨#[u0, u1, u2, u3, u4, u5, n6, u7, u8, u9, u10, u11, .slice va l.length vc, u13, u14, u15, u16, u17, u18, u19, u20, u21, u22, u23, u24, u25, u26, u27, u28, u29, u30, u31, u32, u33, u34, u35, u36, .slice ua l.length uc, u38, u39, u40, .int .i64 l.length, u42, u43, u44, u45, u46, u47, u48, u49, u50, u51, u52, u53, u54, u55, u56, u57, u58, u59, u60, u61, u62, u63, u64, u65, u66, u67, u68, u69, u70, u71, u72, u73, u74, u75, u76, u77, u78, u79, u80, u81, u82, u83, u84, u85, u86, u87, u88, u89, u90, u91, u92, u93, u94, u95, u96, u97, u98, u99, u100, u101, u102, u103, u104, u105, u106, u107, u108, u109, u110, u111, u112, u113, u114, u115, u116, u117, u118, u119, u120, u121, u122, u123, u124, u125, u126, u127, u128, u129, u130, u131, u132, u133, u134, u135, u136, u137, u138, u139, u140, u141, u142, u143, u144, u145, u146, u147, u148, u149, u150, u151, u152, u153, u154, u155, u156, u157, u158, u159, u160, u161, u162, u163, u164, u165, u166, u167, u168, u169, u170, u171, u172, u173, u174, u175, u176, u177, u178, u179, u180, u181, u182, u183, u184, u185, u186, u187, u188, u189, u190, u191, u192, u193, u194, u195, u196, u197, u198, u199, u200, u201, u202, u203, u204, u205, u206, u207, u208, u209, u210, u211, u212, u213, u214, u215, u216, u217, u218, u219, u220, u221, u222, u223, u224, u225, u226, u227, u228, u229, u230, u231, u232, u233, u234, u235, u236, u237, u238, u239, u240, u241, u242, u243, u244, u245, u246, u247, u248, u249, u250, u251, u252, u253, u254, u255, u256, u257, u258, u259, u260, u261, u262, u263, u264, u265, u266, u267, u268, u269, u270, u271, u272, u273, u274, u275, u276, u277, u278, u279, u280, u281, u282, u283, u284, u285, u286, u287, u288, u289, u290, u291, u292, u293, u294, u295, u296, u297, u298, u299, u300, u301, u302, u303, u304, u305, u306, u307, u308, u309, u310, u311, u312, u313, u314, u315, u316, u317, u318, u319, u320, u321, u322, u323, u324, u325, u326, u327, u328, u329, u330, u331, u332, u333, u334, u335, u336, u337, u338, u339, u340, u341, u342, u343, u344, u345, u346, u347, u348, u349, n350, n351, n352, n353, n354, n355, n356, n357, n358, n359, n360, n361, n362, n363, n364, u365, u366, u367, u368, u369, u370, u371, u372, u373, u374, u375, u376, u377, u378, u379], []⟩ W') :
    Code.wp Try.prog (Code.loop (loopAt Try.f8 4)) Q ⟨#[u0, u1, u2, u3, u4, u5, u6, u7, u8, u9, u10, u11, .slice va l.length vc, u13, u14, u15, u16, u17, u18, u19, u20, u21, u22, u23, u24, u25, u26, u27, u28, u29, u30, u31, u32, u33, u34, u35, u36, .slice ua l.length uc, u38, u39, u40, .int .i64 0, u42, u43, u44, u45, u46, u47, u48, u49, u50, u51, u52, u53, u54, u55, u56, u57, u58, u59, u60, u61, u62, u63, u64, u65, u66, u67, u68, u69, u70, u71, u72, u73, u74, u75, u76, u77, u78, u79, u80, u81, u82, u83, u84, u85, u86, u87, u88, u89, u90, u91, u92, u93, u94, u95, u96, u97, u98, u99, u100, u101, u102, u103, u104, u105, u106, u107, u108, u109, u110, u111, u112, u113, u114, u115, u116, u117, u118, u119, u120, u121, u122, u123, u124, u125, u126, u127, u128, u129, u130, u131, u132, u133, u134, u135, u136, u137, u138, u139, u140, u141, u142, u143, u144, u145, u146, u147, u148, u149, u150, u151, u152, u153, u154, u155, u156, u157, u158, u159, u160, u161, u162, u163, u164, u165, u166, u167, u168, u169, u170, u171, u172, u173, u174, u175, u176, u177, u178, u179, u180, u181, u182, u183, u184, u185, u186, u187, u188, u189, u190, u191, u192, u193, u194, u195, u196, u197, u198, u199, u200, u201, u202, u203, u204, u205, u206, u207, u208, u209, u210, u211, u212, u213, u214, u215, u216, u217, u218, u219, u220, u221, u222, u223, u224, u225, u226, u227, u228, u229, u230, u231, u232, u233, u234, u235, u236, u237, u238, u239, u240, u241, u242, u243, u244, u245, u246, u247, u248, u249, u250, u251, u252, u253, u254, u255, u256, u257, u258, u259, u260, u261, u262, u263, u264, u265, u266, u267, u268, u269, u270, u271, u272, u273, u274, u275, u276, u277, u278, u279, u280, u281, u282, u283, u284, u285, u286, u287, u288, u289, u290, u291, u292, u293, u294, u295, u296, u297, u298, u299, u300, u301, u302, u303, u304, u305, u306, u307, u308, u309, u310, u311, u312, u313, u314, u315, u316, u317, u318, u319, u320, u321, u322, u323, u324, u325, u326, u327, u328, u329, u330, u331, u332, u333, u334, u335, u336, u337, u338, u339, u340, u341, u342, u343, u344, u345, u346, u347, u348, u349, u350, u351, u352, u353, u354, u355, u356, u357, u358, u359, u360, u361, u362, u363, u364, u365, u366, u367, u368, u369, u370, u371, u372, u373, u374, u375, u376, u377, u378, u379], []⟩ W := by
  have HRa := hide hRa
  have HRb := hide hRb
  have HE := hide hE
  clear hRa hRb hE
  conv => arg 2; arg 1; whnf
  dsimp only
  go_loopw [41] (fun j wr => ∃ k : Nat, k ≤ l.length ∧ j = .int .i64 k ∧ Kep non W wr) (fun j _ => l.length - (intOf j).toNat)
  case atStart => exact ⟨0, Nat.zero_le _, rfl, Kep.refl _ _⟩
  case round =>
    obtain ⟨k, hk, rfl, K⟩ := hrel
    by_cases hlk : k < l.length
    · obtain ⟨ba, rfl, ha⟩ := HRa.out k hlk
      obtain ⟨bb, rfl, hb⟩ := HRb.out k hlk
      have a0 := K.cell (ha k hlk 0 _ rfl) (fun f => f)
      have b0 := K.cell (hb k hlk 0 _ rfl) (fun f => f)
      have a1 := K.cell (ha k hlk 1 _ rfl) (fun f => f)
      have b1 := K.cell (hb k hlk 1 _ rfl) (fun f => f)
      have a2 := K.cell (ha k hlk 2 _ rfl) (fun f => f)
      have b2 := K.cell (hb k hlk 2 _ rfl) (fun f => f)
      simp only [Nat.add_zero] at a0 b0
      have hlk' : (k : Int) < (l.length : Int) := by omega
      have HK := hide K
      clear K ha hb
      generalize l[k] = z at *
      go_wp2_with fail
      go_cut [364] from 356 to 364 (fun v wx => v = .bool false ∧ Kep non wr wx)
      case first =>
        clear HE HRa HRb HK
        go_quiet (fail)
        go_wp2
        go_meet
        exact ⟨by simp, by (repeat (first | apply Kep.drewN | apply Kep.drew)); exact Kep.refl _ _⟩
      case rest =>
        obtain ⟨rfl, kc⟩ := hcut
        have HKc := hide (HK.out.trans kc)
        clear HK kc a0 b0 a1 b1 a2 b2
        go_wp2
        exact ⟨⟨k + 1, by omega, by go_num, HKc.out⟩, by simp [intOf]; omega⟩
    · have hkl : k = l.length := by omega
      have hlk' : ¬ (k : Int) < (l.length : Int) := by omega
      have HK := hide K
      rw [hkl] at hlk'
      rw [hkl]
      clear K hlk hk hkl
      go_wp2
      exact HE.out _ _ _ _ _ _ _ _ _ _ _ _ _ _ _ _ wr HK.out

set_option maxRecDepth 1000000 in
set_option maxHeartbeats 16000000 in
theorem und_l6 {W : World} {l : List Lv} {va ua : Option Addr} {vc uc : Nat} (hl60 : l.length ≤ 60) (hRa : ∀ i, i < l.length → ∃ b, va = some ⟨b, 0, none⟩ ∧ ∀ i (hi : i < l.length) j u, l[i].cells[j]? = some u → W.cell? ⟨b, i * 3 + j, none⟩ = some u) (hRb : ∀ i, i < l.length → ∃ b, ua = some ⟨b, 0, none⟩ ∧ ∀ i (hi : i < l.length) j u, l[i].cells[j]? = some u → W.cell? ⟨b, i * 3 + j, none⟩ = some u)
    (Q : Exit → Act → World → Prop) (u0 u1 u2 u3 u4 u5 u6 u7 u8 u9 u10 u11 u12 u14 u15 u16 u17 u18 u19 u20 u21 u22 u23 u24 u25 u26 u27 u28 u29 u30 u31 u32 u33 u34 u35 u36 u37 u39 u40 u41 u43 u44 u45 u46 u47 u48 u49 u50 u51 u52 u53 u54 u55 u56 u57 u58 u59 u60 u61 u62 u63 u64 u65 u66 u67 u68 u69 u70 u71 u72 u73 u74 u75 u76 u77 u78 u79 u80 u81 u82 u83 u84 u85 u86 u87 u88 u89 u90 u91 u92 u93 u94 u95 u96 u97 u98 u99 u100 u101 u102 u103 u104 u105 u106 u107 u108 u109 u110 u111 u112 u113 u114 u115 u116 u117 u118 u119 u120 u121 u122 u123 u124 u125 u126 u127 u128 u129 u130 u131 u132 u133 u134 u135 u136 u137 u138 u139 u140 u141 u142 u143 u144 u145 u146 u147 u148 u149 u150 u151 u152 u153 u154 u155 u156 u157 u158 u159 u160 u161 u162 u163 u164 u165 u166 u167 u168 u169 u170 u171 u172 u173 u174 u175 u176 u177 u178 u179 u180 u181 u182 u183 u184 u185 u186 u187 u188 u189 u190 u191 u192 u193 u194 u195 u196 u197 u198 u199 u200 u201 u202 u203 u204 u205 u206 u207 u208 u209 u210 u211 u212 u213 u214 u215 u216 u217 u218 u219 u220 u221 u222 u223 u224 u225 u226 u227 u228 u229 u230 u231 u232 u233 u234 u235 u236 u237 u238 u239 u240 u241 u242 u243 u244 u245 u246 u247 u248 u249 u250 u251 u252 u253 u254 u255 u256 u257 u258 u259 u260 u261 u262 u263 u264 u265 u266 u267 u268 u269 u270 u271 u272 u273 u274 u275 u276 u277 u278 u279 u280 u281 u282 u283 u284 u285 u286 u287 u288 u289 u290 u291 u292 u293 u294 u295 u296 u297 u298 u299 u300 u301 u302 u303 u304 u305 u306 u307 u308 u309 u310 u311 u312 u313 u314 u315 u316 u317 u318 u319 u320 u321 u322 u323 u324 u325 u326 u327 u328 u329 u330 u331 u332 u333 u334 u335 u336 u337 u338 u339 u340 u341 u342 u343 u344 u345 u346 u347 u348 u349 u350 u351 u352 u353 u354 u355 u356 u357 u358 u359 u360 u361 u362 u363 u364 u365 u366 u367 u368 u369 u370 u371 u372 u373 u374 u375 u376 u377 u378 u379 : Value)
    (hE : ∀ (n6 n365 n366 n367 n368 n369 n370 n371 n372 n373 n374 n375 n376 n377 n378 n379 : Value) (W' : World), Kep non W W' → Q (.exit 10) ⟨#[u0, u1, u2, u3, u4, u5, n6, u7, u8, u9, u10, u11, u12, .slice va l.length vc, u14, u15, u16, u17, u18, u19, u20, u21, u22, u23, u24, u25, u26, u27, u28, u29, u30, u31, u32, u33, u34, u35, u36, u37, .slice ua l.length uc, u39, u40, u41, .int .i64 l.length, u43, u44, u45, u46, u47, u48, u49, u50, u51, u52, u53, u54, u55, u56, u57, u58, u59, u60, u61, u62, u63, u64, u65, u66, u67, u68, u69, u70, u71, u72, u73, u74, u75, u76, u77, u78, u79, u80, u81, u82, u83, u84, u85, u86, u87, u88, u89, u90, u91, u92, u93, u94, u95, u96, u97, u98, u99, u100, u101, u102, u103, u104, u105, u106, u107, u108, u109, u110, u111, u112, u113, u114, u115, u116, u117, u118, u119, u120, u121, u122, u123, u124, u125, u126, u127, u128, u129, u130, u131, u132, u133, u134, u135, u136, u137, u138, u139, u140, u141, u142, u143, u144, u145, u146, u147, u148, u149, u150, u151, u152, u153, u154, u155, u156, u157, u158, u159, u160, u161, u162, u163, u164, u165, u166, u167, u168, u169, u170, u171, u172, u173, u174, u175, u176, u177, u178, u179, u180, u181, u182, u183, u184, u185, u186, u187, u188, u189, u190, u191, u192, u193, u194, u195, u196, u197, u198, u199, u200, u201, u202, u203, u204, u205, u206, u207, u208, u209, u210, u211, u212, u213, u214, u215, u216, u217, u218, u219, u220, u221, u222, u223, u224, u225, u226, u227, u228, u229, u230, u231, u232, u233, u234, u235, u236, u237, u238, u239, u240, u241, u242, u243, u244, u245, u246, u247, u248, u249, u250, u251, u252, u253, u254, u255, u256, u257, u258, u259, u260, u261, u262, u263, u264, u265, u266, u267, u268, u269, u270, u271, u272, u273, u274, u275, u276, u277, u278, u279, u280, u281, u282, u283, u284, u285, u286, u287, u288, u289, u290, u291, u292, u293, u294, u295, u296, u297, u298, u299, u300, u301, u302, u303, u304, u305, u306, u307, u308, u309, u310, u311, u312, u313, u314, u315, u316, u317, u318, u319, u320, u321, u322, u323, u324, u325, u326, u327, u328, u329, u330, u331, u332, u333, u334, u335, u336, u337, u338, u339, u340, u341, u342, u343, u344, u345, u346, u347, u348, u349, u350, u351, u352, u353, u354, u355, u356, u357, u358, u359, u360, u361, u362, u363, u364, n365, n366, n367, n368, n369, n370, n371, n372, n373, n374, n375, n376, n377, n378, n379], []⟩ W') :
    Code.wp Try.prog (Code.loop (loopAt Try.f8 5)) Q ⟨#[u0, u1, u2, u3, u4, u5, u6, u7, u8, u9, u10, u11, u12, .slice va l.length vc, u14, u15, u16, u17, u18, u19, u20, u21, u22, u23, u24, u25, u26, u27, u28, u29, u30, u31, u32, u33, u34, u35, u36, u37, .slice ua l.length uc, u39, u40, u41, .int .i64 0, u43, u44, u45, u46, u47, u48, u49, u50, u51, u52, u53, u54, u55, u56, u57, u58, u59, u60, u61, u62, u63, u64, u65, u66, u67, u68, u69, u70, u71, u72, u73, u74, u75, u76, u77, u78, u79, u80, u81, u82, u83, u84, u85, u86, u87, u88, u89, u90, u91, u92, u93, u94, u95, u96, u97, u98, u99, u100, u101, u102, u103, u104, u105, u106, u107, u108, u109, u110, u111, u112, u113, u114, u115, u116, u117, u118, u119, u120, u121, u122, u123, u124, u125, u126, u127, u128, u129, u130, u131, u132, u133, u134, u135, u136, u137, u138, u139, u140, u141, u142, u143, u144, u145, u146, u147, u148, u149, u150, u151, u152, u153, u154, u155, u156, u157, u158, u159, u160, u161, u162, u163, u164, u165, u166, u167, u168, u169, u170, u171, u172, u173, u174, u175, u176, u177, u178, u179, u180, u181, u182, u183, u184, u185, u186, u187, u188, u189, u190, u191, u192, u193, u194, u195, u196, u197, u198, u199, u200, u201, u202, u203, u204, u205, u206, u207, u208, u209, u210, u211, u212, u213, u214, u215, u216, u217, u218, u219, u220, u221, u222, u223, u224, u225, u226, u227, u228, u229, u230, u231, u232, u233, u234, u235, u236, u237, u238, u239, u240, u241, u242, u243, u244, u245, u246, u247, u248, u249, u250, u251, u252, u253, u254, u255, u256, u257, u258, u259, u260, u261, u262, u263, u264, u265, u266, u267, u268, u269, u270, u271, u272, u273, u274, u275, u276, u277, u278, u279, u280, u281, u282, u283, u284, u285, u286, u287, u288, u289, u290, u291, u292, u293, u294, u295, u296, u297, u298, u299, u300, u301, u302, u303, u304, u305, u306, u307, u308, u309, u310, u311, u312, u313, u314, u315, u316, u317, u318, u319, u320, u321, u322, u323, u324, u325, u326, u327, u328, u329, u330, u331, u332, u333, u334, u335, u336, u337, u338, u339, u340, u341, u342, u343, u344, u345, u346, u347, u348, u349, u350, u351, u352, u353, u354, u355, u356, u357, u358, u359, u360, u361, u362, u363, u364, u365, u366, u367, u368, u369, u370, u371, u372, u373, u374, u375, u376, u377, u378, u379], []⟩ W := by
  have HRa := hide hRa
  have HRb := hide hRb
  have HE := hide hE
  clear hRa hRb hE
  conv => arg 2; arg 1; whnf
  dsimp only
  go_loopw [42] (fun j wr => ∃ k : Nat, k ≤ l.length ∧ j = .int .i64 k ∧ Kep non W wr) (fun j _ => l.length - (intOf j).toNat)
  case atStart => exact ⟨0, Nat.zero_le _, rfl, Kep.refl _ _⟩
  case round =>
    obtain ⟨k, hk, rfl, K⟩ := hrel
    by_cases hlk : k < l.length
    · obtain ⟨ba, rfl, ha⟩ := HRa.out k hlk
      obtain ⟨bb, rfl, hb⟩ := HRb.out k hlk
      have a0 := K.cell (ha k hlk 0 _ rfl) (fun f => f)
      have b0 := K.cell (hb k hlk 0 _ rfl) (fun f => f)
      have a1 := K.cell (ha k hlk 1 _ rfl) (fun f => f)
      have b1 := K.cell (hb k hlk 1 _ rfl) (fun f => f)
      have a2 := K.cell (ha k hlk 2 _ rfl) (fun f => f)
      have b2 := K.cell (hb k hlk 2 _ rfl) (fun f => f)
      simp only [Nat.add_zero] at a0 b0
      have hlk' : (k : Int) < (l.length : Int) := by omega
      have HK := hide K
      clear K ha hb
      generalize l[k] = z at *
      go_wp2_with fail
      go_cut [379] from 371 to 379 (fun v wx => v = .bool false ∧ Kep non wr wx)
      case first =>
        clear HE HRa HRb HK
        go_quiet (fail)
        go_wp2
        go_meet
        exact ⟨by simp, by (repeat (first | apply Kep.drewN | apply Kep.drew)); exact Kep.refl _ _⟩
      case rest =>
        obtain ⟨rfl, kc⟩ := hcut
        have HKc := hide (HK.out.trans kc)
        clear HK kc a0 b0 a1 b1 a2 b2
        go_wp2
        exact ⟨⟨k + 1, by omega, by go_num, HKc.out⟩, by simp [intOf]; omega⟩
    · have hkl : k = l.length := by omega
      have hlk' : ¬ (k : Int) < (l.length : Int) := by omega
      have HK := hide K
      rw [hkl] at hlk'
      rw [hkl]
      clear K hlk hk hkl
      go_wp2
      exact HE.out _ _ _ _ _ _ _ _ _ _ _ _ _ _ _ _ wr HK.out

end

section
open Go.RowKit Go.Sort

set_option maxRecDepth 1000000 in
set_option maxHeartbeats 16000000 in
theorem und_l3 {W : World} {l : List Od} {va ua : Option Addr} {vc uc : Nat} (hl60 : l.length ≤ 60) (hRa : ∀ i, i < l.length → ∃ b, va = some ⟨b, 0, none⟩ ∧ ∀ i (hi : i < l.length) j u, l[i].cells[j]? = some u → W.cell? ⟨b, i * 8 + j, none⟩ = some u) (hRb : ∀ i, i < l.length → ∃ b, ua = some ⟨b, 0, none⟩ ∧ ∀ i (hi : i < l.length) j u, l[i].cells[j]? = some u → W.cell? ⟨b, i * 8 + j, none⟩ = some u)
    (Q : Exit → Act → World → Prop) (u0 u1 u2 u3 u4 u5 u6 u7 u8 u9 u10 u11 u12 u13 u14 u15 u16 u17 u18 u19 u20 u21 u22 u23 u25 u26 u27 u28 u30 u31 u33 u34 u35 u36 u37 u38 u39 u40 u41 u42 u43 u44 u45 u46 u47 u48 u49 u50 u51 u52 u53 u54 u55 u56 u57 u58 u59 u60 u61 u62 u63 u64 u65 u66 u67 u68 u69 u70 u71 u72 u73 u74 u75 u76 u77 u78 u79 u80 u81 u82 u83 u84 u85 u86 u87 u88 u89 u90 u91 u92 u93 u94 u95 u96 u97 u98 u99 u100 u101 u102 u103 u104 u105 u106 u107 u108 u109 u110 u111 u112 u113 u114 u115 u116 u117 u118 u119 u120 u121 u122 u123 u124 u125 u126 u127 u128 u129 u130 u131 u132 u133 u134 u135 u136 u137 u138 u139 u140 u141 u142 u143 u144 u145 u146 u147 u148 u149 u150 u151 u152 u153 u154 u155 u156 u157 u158 u159 u160 u161 u162 u163 u164 u165 u166 u167 u168 u169 u170 u171 u172 u173 u174 u175 u176 u177 u178 u179 u180 u181 u182 u183 u184 u185 u186 u187 u188 u189 u190 u191 u192 u193 u194 u195 u196 u197 u198 u199 u200 u201 u202 u203 u204 u205 u206 u207 u208 u209 u210 u211 u212 u213 u214 u215 u216 u217 u218 u219 u220 u221 u222 u223 u224 u225 u226 u227 u228 u229 u230 u231 u232 u233 u234 u235 u236 u237 u238 u239 u240 u241 u242 u243 u244 u245 u246 u247 u248 u249 u250 u251 u252 u253 u254 u255 u256 u257 u258 u259 u260 u261 u262 u263 u264 u265 u266 u267 u268 u269 u270 u271 u272 u273 u274 u275 u276 u277 u278 u279 u280 u281 u282 u283 u284 u285 u286 u287 u288 u289 u290 u291 u292 u293 u294 u295 u296 u297 u298 u299 u300 u301 u302 u303 u304 u305 u306 u307 u308 u309 u310 u311 u312 u313 u314 u315 u316 u317 u318 u319 u320 u321 u322 u323 u324 u325 u326 u327 u328 u329 u330 u331 u332 u333 u334 u335 u336 u337 u338 u339 u340 u341 u342 u343 u344 u345 u346 u347 u348 u349 u350 u351 u352 u353 u354 u355 u356 u357 u358 u359 u360 u361 u362 u363 u364 u365 u366 u367 u368 u369 u370 u371 u372 u373 u374 u375 u376 u377 u378 u379 : Value)
    (hE : ∀ (n6 n235 n236 n237 n238 n239 n240 n241 n242 n243 n244 n245 n246 n247 n248 n249 : Value) (W' : World), Kep non W W' → Q (.exit 4) ⟨#[u0, u1, u2, u3, u4, u5, n6, u7, u8, u9, u10, u11, u12, u13, u14, u15, u16, u17, u18, u19, u20, u21, u22, u23, .slice va l.length vc, u25, u26, u27, u28, .slice ua l.length uc, u30, u31, .int .i64 l.length, u33, u34, u35, u36, u37, u38, u39, u40, u41, u42, u43, u44, u45, u46, u47, u48, u49, u50, u51, u52, u53, u54, u55, u56, u57, u58, u59, u60, u61, u62, u63, u64, u65, u66, u67, u68, u69, u70, u71, u72, u73, u74, u75, u76, u77, u78, u79, u80, u81, u82, u83, u84, u85, u86, u87, u88, u89, u90, u91, u92, u93, u94, u95, u96, u97, u98, u99, u100, u101, u102, u103, u104, u105, u106, u107, u108, u109, u110, u111, u112, u113, u114, u115, u116, u117, u118, u119, u120, u121, u122, u123, u124, u125, u126, u127, u128, u129, u130, u131, u132, u133, u134, u135, u136, u137, u138, u139, u140, u141, u142, u143, u144, u145, u146, u147, u148, u149, u150, u151, u152, u153, u154, u155, u156, u157, u158, u159, u160, u161, u162, u163, u164, u165, u166, u167, u168, u169, u170, u171, u172, u173, u174, u175, u176, u177, u178, u179, u180, u181, u182, u183, u184, u185, u186, u187, u188, u189, u190, u191, u192, u193, u194, u195, u196, u197, u198, u199, u200, u201, u202, u203, u204, u205, u206, u207, u208, u209, u210, u211, u212, u213, u214, u215, u216, u217, u218, u219, u220, u221, u222, u223, u224, u225, u226, u227, u228, u229, u230, u231, u232, u233, u234, n235, n236, n237, n238, n239, n240, n241, n242, n243, n244, n245, n246, n247, n248, n249, u250, u251, u252, u253, u254, u255, u256, u257, u258, u259, u260, u261, u262, u263, u264, u265, u266, u267, u268, u269, u270, u271, u272, u273, u274, u275, u276, u277, u278, u279, u280, u281, u282, u283, u284, u285, u286, u287, u288, u289, u290, u291, u292, u293, u294, u295, u296, u297, u298, u299, u300, u301, u302, u303, u304, u305, u306, u307, u308, u309, u310, u311, u312, u313, u314, u315, u316, u317, u318, u319, u320, u321, u322, u323, u324, u325, u326, u327, u328, u329, u330, u331, u332, u333, u334, u335, u336, u337, u338, u339, u340, u341, u342, u343, u344, u345, u346, u347, u348, u349, u350, u351, u352, u353, u354, u355, u356, u357, u358, u359, u360, u361, u362, u363, u364, u365, u366, u367, u368, u369, u370, u371, u372, u373, u374, u375, u376, u377, u378, u379], []⟩ W') :
    Code.wp Try.prog (Code.loop (loopAt Try.f8 2)) Q ⟨#[u0, u1, u2, u3, u4, u5, u6, u7, u8, u9, u10, u11, u12, u13, u14, u15, u16, u17, u18, u19, u20, u21, u22, u23, .slice va l.length vc, u25, u26, u27, u28, .slice ua l.length uc, u30, u31, .int .i64 0, u33, u34, u35, u36, u37, u38, u39, u40, u41, u42, u43, u44, u45, u46, u47, u48, u49, u50, u51, u52, u53, u54, u55, u56, u57, u58, u59, u60, u61, u62, u63, u64, u65, u66, u67, u68, u69, u70, u71, u72, u73, u74, u75, u76, u77, u78, u79, u80, u81, u82, u83, u84, u85, u86, u87, u88, u89, u90, u91, u92, u93, u94, u95, u96, u97, u98, u99, u100, u101, u102, u103, u104, u105, u106, u107, u108, u109, u110, u111, u112, u113, u114, u115, u116, u117, u118, u119, u120, u121, u122, u123, u124, u125, u126, u127, u128, u129, u130, u131, u132, u133, u134, u135, u136, u137, u138, u139, u140, u141, u142, u143, u144, u145, u146, u147, u148, u149, u150, u151, u152, u153, u154, u155, u156, u157, u158, u159, u160, u161, u162, u163, u164, u165, u166, u167, u168, u169, u170, u171, u172, u173, u174, u175, u176, u177, u178, u179, u180, u181, u182, u183, u184, u185, u186, u187, u188, u189, u190, u191, u192, u193, u194, u195, u196, u197, u198, u199, u200, u201, u202, u203, u204, u205, u206, u207, u208, u209, u210, u211, u212, u213, u214, u215, u216, u217, u218, u219, u220, u221, u222, u223, u224, u225, u226, u227, u228, u229, u230, u231, u232, u233, u234, u235, u236, u237, u238, u239, u240, u241, u242, u243, u244, u245, u246, u247, u248, u249, u250, u251, u252, u253, u254, u255, u256, u257, u258, u259, u260, u261, u262, u263, u264, u265, u266, u267, u268, u269, u270, u271, u272, u273, u274, u275, u276, u277, u278, u279, u280, u281, u282, u283, u284, u285, u286, u287, u288, u289, u290, u291, u292, u293, u294, u295, u296, u297, u298, u299, u300, u301, u302, u303, u304, u305, u306, u307, u308, u309, u310, u311, u312, u313, u314, u315, u316, u317, u318, u319, u320, u321, u322, u323, u324, u325, u326, u327, u328, u329, u330, u331, u332, u333, u334, u335, u336, u337, u338, u339, u340, u341, u342, u343, u344, u345, u346, u347, u348, u349, u350, u351, u352, u353, u354, u355, u356, u357, u358, u359, u360, u361, u362, u363, u364, u365, u366, u367, u368, u369, u370, u371, u372, u373, u374, u375, u376, u377, u378, u379], []⟩ W := by
  have HRa := hide hRa
  have HRb := hide hRb
  have HE := hide hE
  clear hRa hRb hE
  conv => arg 2; arg 1; whnf
  dsimp only
  go_loopw [32] (fun j wr => ∃ k : Nat, k ≤ l.length ∧ j = .int .i64 k ∧ Kep non W wr) (fun j _ => l.length - (intOf j).toNat)
  case atStart => exact ⟨0, Nat.zero_le _, rfl, Kep.refl _ _⟩
  case round =>
    obtain ⟨k, hk, rfl, K⟩ := hrel
    by_cases hlk : k < l.length
    · obtain ⟨ba, rfl, ha⟩ := HRa.out k hlk
      obtain ⟨bb, rfl, hb⟩ := HRb.out k hlk
      have a0 := K.cell (ha k hlk 0 _ rfl) (fun f => f)
      have b0 := K.cell (hb k hlk 0 _ rfl) (fun f => f)
      have a1 := K.cell (ha k hlk 1 _ rfl) (fun f => f)
      have b1 := K.cell (hb k hlk 1 _ rfl) (fun f => f)
      have a2 := K.cell (ha k hlk 2 _ rfl) (fun f => f)
      have b2 := K.cell (hb k hlk 2 _ rfl) (fun f => f)
      have a3 := K.cell (ha k hlk 3 _ rfl) (fun f => f)
      have b3 := K.cell (hb k hlk 3 _ rfl) (fun f => f)
      have a4 := K.cell (ha k hlk 4 _ rfl) (fun f => f)
      have b4 := K.cell (hb k hlk 4 _ rfl) (fun f => f)
      have a5 := K.cell (ha k hlk 5 _ rfl) (fun f => f)
      have b5 := K.cell (hb k hlk 5 _ rfl) (fun f => f)
      have a6 := K.cell (ha k hlk 6 _ rfl) (fun f => f)
      have b6 := K.cell (hb k hlk 6 _ rfl) (fun f => f)
      have a7 := K.cell (ha k hlk 7 _ rfl) (fun f => f)
      have b7 := K.cell (hb k hlk 7 _ rfl) (fun f => f)
      simp only [Nat.add_zero] at a0 b0
      have hlk' : (k : Int) < (l.length : Int) := by omega
      have HK := hide K
      clear K ha hb
      generalize l[k] = z at *
      go_wp2_with fail
      go_cut [249] from 241 to 249 (fun v wx => v = .bool false ∧ Kep non wr wx)
      case first =>
        clear HE HRa HRb HK
        go_quiet (fail)
        go_wp2
        go_meet
        exact ⟨by simp, by (repeat (first | apply Kep.drewN | apply Kep.drew)); exact Kep.refl _ _⟩
      case rest =>
        obtain ⟨rfl, kc⟩ := hcut
        have HKc := hide (HK.out.trans kc)
        clear HK kc a0 b0 a1 b1 a2 b2 a3 b3 a4 b4 a5 b5 a6 b6 a7 b7
        go_wp2
        exact ⟨⟨k + 1, by omega, by go_num, HKc.out⟩, by simp [intOf]; omega⟩
    · have hkl : k = l.length := by omega
      have hlk' : ¬ (k : Int) < (l.length : Int) := by omega
      have HK := hide K
      rw [hkl] at hlk'
      rw [hkl]
      clear K hlk hk hkl
      go_wp2
      exact HE.out _ _ _ _ _ _ _ _ _ _ _ _ _ _ _ _ wr HK.out

end

section
open Go.RowKit Go.Sort

set_option maxRecDepth 1000000 in
set_option maxHeartbeats 16000000 in
theorem und_l4 {W : World} {aa ab : Nat} {l : List Sk} {va ua : Option Addr} {vc uc : Nat} (hl60 : l.length ≤ 60) (ca : W.cell? ⟨aa, 2, none⟩ = some (.slice va l.length vc)) (cb : W.cell? ⟨ab, 2, none⟩ = some (.slice ua l.length uc)) (hRa : ∀ i, i < l.length → ∃ b, va = some ⟨b, 0, none⟩ ∧ ∀ i (hi : i < l.length) j u, l[i].cells[j]? = some u → W.cell? ⟨b, i * 5 + j, none⟩ = some u) (hRb : ∀ i, i < l.length → ∃ b, ua = some ⟨b, 0, none⟩ ∧ ∀ i (hi : i < l.length) j u, l[i].cells[j]? = some u → W.cell? ⟨b, i * 5 + j, none⟩ = some u)
    (Q : Exit → Act → World → Prop) (u0 u1 u2 u3 u4 u5 u6 u7 u8 u9 u11 u12 u13 u14 u15 u16 u17 u18 u19 u20 u21 u22 u23 u24 u25 u26 u27 u28 u29 u30 u31 u32 u33 u34 u36 u37 u38 u39 u41 u42 u43 u44 u45 u46 u47 u48 u49 u50 u51 u52 u53 u54 u55 u56 u57 u58 u59 u60 u61 u62 u63 u64 u65 u66 u67 u68 u69 u70 u71 u72 u73 u74 u75 u76 u77 u78 u79 u80 u81 u82 u83 u84 u85 u86 u87 u88 u89 u90 u91 u92 u93 u94 u95 u96 u97 u98 u99 u100 u101 u102 u103 u104 u105 u106 u107 u108 u109 u110 u111 u112 u113 u114 u115 u116 u117 u118 u119 u120 u121 u122 u123 u124 u125 u126 u127 u128 u129 u130 u131 u132 u133 u134 u135 u136 u137 u138 u139 u140 u141 u142 u143 u144 u145 u146 u147 u148 u149 u150 u151 u152 u153 u154 u155 u156 u157 u158 u159 u160 u161 u162 u163 u164 u165 u166 u167 u168 u169 u170 u171 u172 u173 u174 u175 u176 u177 u178 u179 u180 u181 u182 u183 u184 u185 u186 u187 u188 u189 u190 u191 u192 u193 u194 u195 u196 u197 u198 u199 u200 u201 u202 u203 u204 u205 u206 u207 u208 u209 u210 u211 u212 u213 u214 u215 u216 u217 u218 u219 u220 u221 u222 u223 u224 u225 u226 u227 u228 u229 u230 u231 u232 u233 u234 u235 u236 u237 u238 u239 u240 u241 u242 u243 u244 u245 u246 u247 u248 u249 u250 u251 u252 u253 u254 u255 u256 u257 u258 u259 u260 u261 u262 u263 u264 u265 u266 u267 u268 u269 u270 u271 u272 u273 u274 u275 u276 u277 u278 u279 u280 u281 u282 u283 u284 u285 u286 u287 u288 u289 u290 u291 u292 u293 u294 u295 u296 u297 u298 u299 u300 u301 u302 u303 u304 u305 u306 u307 u308 u309 u310 u311 u312 u313 u314 u315 u316 u317 u318 u319 u320 u321 u322 u323 u324 u325 u326 u327 u328 u329 u330 u331 u332 u333 u334 u335 u336 u337 u338 u339 u340 u341 u342 u343 u344 u345 u346 u347 u348 u349 u350 u351 u352 u353 u354 u355 u356 u357 u358 u359 u360 u361 u362 u363 u364 u365 u366 u367 u368 u369 u370 u371 u372 u373 u374 u375 u376 u377 u378 u379 : Value)
    (hE : ∀ (n6 n332 n333 n334 n335 n336 n337 n338 n339 n340 n341 n342 n343 n344 n345 n346 n347 n348 n349 : Value) (W' : World), Kep non W W' → Q (.exit 6) ⟨#[u0, u1, u2, u3, u4, u5, n6, u7, u8, u9, .pointer (some ⟨aa, 0, none⟩), u11, u12, u13, u14, u15, u16, u17, u18, u19, u20, u21, u22, u23, u24, u25, u26, u27, u28, u29, u30, u31, u32, u33, u34, .pointer (some ⟨ab, 0, none⟩), u36, u37, u38, u39, .int .i64 l.length, u41, u42, u43, u44, u45, u46, u47, u48, u49, u50, u51, u52, u53, u54, u55, u56, u57, u58, u59, u60, u61, u62, u63, u64, u65, u66, u67, u68, u69, u70, u71, u72, u73, u74, u75, u76, u77, u78, u79, u80, u81, u82, u83, u84, u85, u86, u87, u88, u89, u90, u91, u92, u93, u94, u95, u96, u97, u98, u99, u100, u101, u102, u103, u104, u105, u106, u107, u108, u109, u110, u111, u112, u113, u114, u115, u116, u117, u118, u119, u120, u121, u122, u123, u124, u125, u126, u127, u128, u129, u130, u131, u132, u133, u134, u135, u136, u137, u138, u139, u140, u141, u142, u143, u144, u145, u146, u147, u148, u149, u150, u151, u152, u153, u154, u155, u156, u157, u158, u159, u160, u161, u162, u163, u164, u165, u166, u167, u168, u169, u170, u171, u172, u173, u174, u175, u176, u177, u178, u179, u180, u181, u182, u183, u184, u185, u186, u187, u188, u189, u190, u191, u192, u193, u194, u195, u196, u197, u198, u199, u200, u201, u202, u203, u204, u205, u206, u207, u208, u209, u210, u211, u212, u213, u214, u215, u216, u217, u218, u219, u220, u221, u222, u223, u224, u225, u226, u227, u228, u229, u230, u231, u232, u233, u234, u235, u236, u237, u238, u239, u240, u241, u242, u243, u244, u245, u246, u247, u248, u249, u250, u251, u252, u253, u254, u255, u256, u257, u258, u259, u260, u261, u262, u263, u264, u265, u266, u267, u268, u269, u270, u271, u272, u273, u274, u275, u276, u277, u278, u279, u280, u281, u282, u283, u284, u285, u286, u287, u288, u289, u290, u291, u292, u293, u294, u295, u296, u297, u298, u299, u300, u301, u302, u303, u304, u305, u306, u307, u308, u309, u310, u311, u312, u313, u314, u315, u316, u317, u318, u319, u320, u321, u322, u323, u324, u325, u326, u327, u328, u329, u330, u331, n332, n333, n334, n335, n336, n337, n338, n339, n340, n341, n342, n343, n344, n345, n346, n347, n348, n349, u350, u351, u352, u353, u354, u355, u356, u357, u358, u359, u360, u361, u362, u363, u364, u365, u366, u367, u368, u369, u370, u371, u372, u373, u374, u375, u376, u377, u378, u379], []⟩ W') :
    Code.wp Try.prog (Code.loop (loopAt Try.f8 3)) Q ⟨#[u0, u1, u2, u3, u4, u5, u6, u7, u8, u9, .pointer (some ⟨aa, 0, none⟩), u11, u12, u13, u14, u15, u16, u17, u18, u19, u20, u21, u22, u23, u24, u25, u26, u27, u28, u29, u30, u31, u32, u33, u34, .pointer (some ⟨ab, 0, none⟩), u36, u37, u38, u39, .int .i64 0, u41, u42, u43, u44, u45, u46, u47, u48, u49, u50, u51, u52, u53, u54, u55, u56, u57, u58, u59, u60, u61, u62, u63, u64, u65, u66, u67, u68, u69, u70, u71, u72, u73, u74, u75, u76, u77, u78, u79, u80, u81, u82, u83, u84, u85, u86, u87, u88, u89, u90, u91, u92, u93, u94, u95, u96, u97, u98, u99, u100, u101, u102, u103, u104, u105, u106, u107, u108, u109, u110, u111, u112, u113, u114, u115, u116, u117, u118, u119, u120, u121, u122, u123, u124, u125, u126, u127, u128, u129, u130, u131, u132, u133, u134, u135, u136, u137, u138, u139, u140, u141, u142, u143, u144, u145, u146, u147, u148, u149, u150, u151, u152, u153, u154, u155, u156, u157, u158, u159, u160, u161, u162, u163, u164, u165, u166, u167, u168, u169, u170, u171, u172, u173, u174, u175, u176, u177, u178, u179, u180, u181, u182, u183, u184, u185, u186, u187, u188, u189, u190, u191, u192, u193, u194, u195, u196, u197, u198, u199, u200, u201, u202, u203, u204, u205, u206, u207, u208, u209, u210, u211, u212, u213, u214, u215, u216, u217, u218, u219, u220, u221, u222, u223, u224, u225, u226, u227, u228, u229, u230, u231, u232, u233, u234, u235, u236, u237, u238, u239, u240, u241, u242, u243, u244, u245, u246, u247, u248, u249, u250, u251, u252, u253, u254, u255, u256, u257, u258, u259, u260, u261, u262, u263, u264, u265, u266, u267, u268, u269, u270, u271, u272, u273, u274, u275, u276, u277, u278, u279, u280, u281, u282, u283, u284, u285, u286, u287, u288, u289, u290, u291, u292, u293, u294, u295, u296, u297, u298, u299, u300, u301, u302, u303, u304, u305, u306, u307, u308, u309, u310, u311, u312, u313, u314, u315, u316, u317, u318, u319, u320, u321, u322, u323, u324, u325, u326, u327, u328, u329, u330, u331, u332, u333, u334, u335, u336, u337, u338, u339, u340, u341, u342, u343, u344, u345, u346, u347, u348, u349, u350, u351, u352, u353, u354, u355, u356, u357, u358, u359, u360, u361, u362, u363, u364, u365, u366, u367, u368, u369, u370, u371, u372, u373, u374, u375, u376, u377, u378, u379], []⟩ W := by
  have HRa := hide hRa
  have HRb := hide hRb
  have HCa := hide ca
  have HCb := hide cb
  have HE := hide hE
  clear hRa hRb hE ca cb
  conv => arg 2; arg 1; whnf
  dsimp only
  go_loopw [40] (fun j wr => ∃ k : Nat, k ≤ l.length ∧ j = .int .i64 k ∧ Kep non W wr) (fun j _ => l.length - (intOf j).toNat)
  case atStart => exact ⟨0, Nat.zero_le _, rfl, Kep.refl _ _⟩
  case round =>
    obtain ⟨k, hk, rfl, K⟩ := hrel
    have ca := K.cell HCa.out (fun f => f)
    have cb := K.cell HCb.out (fun f => f)
    by_cases hlk : k < l.length
    · obtain ⟨ba, rfl, ha⟩ := HRa.out k hlk
      obtain ⟨bb, rfl, hb⟩ := HRb.out k hlk
      have a0 := K.cell (ha k hlk 0 _ rfl) (fun f => f)
      have b0 := K.cell (hb k hlk 0 _ rfl) (fun f => f)
      have a1 := K.cell (ha k hlk 1 _ rfl) (fun f => f)
      have b1 := K.cell (hb k hlk 1 _ rfl) (fun f => f)
      have a2 := K.cell (ha k hlk 2 _ rfl) (fun f => f)
      have b2 := K.cell (hb k hlk 2 _ rfl) (fun f => f)
      have a3 := K.cell (ha k hlk 3 _ rfl) (fun f => f)
      have b3 := K.cell (hb k hlk 3 _ rfl) (fun f => f)
      have a4 := K.cell (ha k hlk 4 _ rfl) (fun f => f)
      have b4 := K.cell (hb k hlk 4 _ rfl) (fun f => f)
      simp only [Nat.add_zero] at a0 b0
      have hlk' : (k : Int) < (l.length : Int) := by omega
      have HK := hide K
      clear K ha hb
      generalize l[k] = z at *
      go_wp2_with fail
      go_cut [349] from 339 to 349 (fun v wx => v = .bool false ∧ Kep non wr wx)
      case first =>
        clear HE HRa HRb HK HCa HCb
        go_quiet (fail)
        go_wp2
        go_meet
        exact ⟨by simp, by (repeat (first | apply Kep.drewN | apply Kep.drew)); exact Kep.refl _ _⟩
      case rest =>
        obtain ⟨rfl, kc⟩ := hcut
        have HKc := hide (HK.out.trans kc)
        clear HK kc ca cb a0 b0 a1 b1 a2 b2 a3 b3 a4 b4
        go_wp2
        exact ⟨⟨k + 1, by omega, by go_num, HKc.out⟩, by simp [intOf]; omega⟩
    · have hkl : k = l.length := by omega
      have hlk' : ¬ (k : Int) < (l.length : Int) := by omega
      have HK := hide K
      rw [hkl] at hlk'
      rw [hkl]
      clear K hlk hk hkl
      go_wp2
      exact HE.out _ _ _ _ _ _ _ _ _ _ _ _ _ _ _ _ _ _ _ wr HK.out

end

section
open Go.RowKit Go.Sort

/-- an order of the other side, that fits -/
def crossB (x z : Od) : Bool := pfits x z && decide (z.h = x.h) && decide (z.g = x.g) && decide (z.s ≠ x.s)

set_option maxRecDepth 1000000 in
set_option maxHeartbeats 16000000 in
theorem und_l2 {W : World} {XB : Nat} {x : Od} {l : List Od} {va : Option Addr} {vc : Nat} (xs : x.s = 0 ∨ x.s = 1) (hl60 : l.length ≤ 60) (hX : ∀ j u, x.cells[j]? = some u → W.cell? ⟨XB, j, none⟩ = some u) (hRa : ∀ i, i < l.length → ∃ b, va = some ⟨b, 0, none⟩ ∧ ∀ i (hi : i < l.length) j u, l[i].cells[j]? = some u → W.cell? ⟨b, i * 8 + j, none⟩ = some u)
    (Q : Exit → Act → World → Prop) (u0 u1 u2 u3 u4 u5 u6 u7 u8 u10 u11 u12 u13 u14 u16 u18 u19 u20 u21 u22 u23 u24 u25 u26 u27 u28 u29 u30 u31 u32 u33 u34 u35 u36 u37 u38 u39 u40 u41 u42 u43 u44 u45 u46 u47 u48 u49 u50 u51 u52 u53 u54 u55 u56 u57 u58 u59 u60 u61 u62 u63 u64 u65 u66 u67 u68 u69 u70 u71 u72 u73 u74 u75 u76 u77 u78 u79 u80 u81 u82 u83 u84 u85 u86 u87 u88 u89 u90 u91 u92 u93 u94 u95 u96 u97 u98 u99 u100 u101 u102 u103 u104 u105 u106 u107 u108 u109 u110 u111 u112 u113 u114 u115 u116 u117 u118 u119 u120 u121 u122 u123 u124 u125 u126 u127 u128 u129 u130 u131 u132 u133 u134 u135 u136 u137 u138 u139 u140 u141 u142 u143 u144 u145 u146 u147 u148 u149 u150 u151 u152 u153 u154 u155 u156 u157 u158 u159 u160 u161 u162 u163 u164 u165 u166 u167 u168 u169 u170 u171 u172 u173 u174 u175 u176 u177 u178 u179 u180 u181 u182 u183 u184 u185 u186 u187 u188 u189 u190 u191 u192 u193 u194 u195 u196 u197 u198 u199 u200 u201 u202 u203 u204 u205 u206 u207 u208 u209 u210 u211 u212 u213 u214 u215 u216 u217 u218 u219 u220 u221 u222 u223 u224 u225 u226 u227 u228 u229 u230 u231 u232 u233 u234 u235 u236 u237 u238 u239 u240 u241 u242 u243 u244 u245 u246 u247 u248 u249 u250 u251 u252 u253 u254 u255 u256 u257 u258 u259 u260 u261 u262 u263 u264 u265 u266 u267 u268 u269 u270 u271 u272 u273 u274 u275 u276 u277 u278 u279 u280 u281 u282 u283 u284 u285 u286 u287 u288 u289 u290 u291 u292 u293 u294 u295 u296 u297 u298 u299 u300 u301 u302 u303 u304 u305 u306 u307 u308 u309 u310 u311 u312 u313 u314 u315 u316 u317 u318 u319 u320 u321 u322 u323 u324 u325 u326 u327 u328 u329 u330 u331 u332 u333 u334 u335 u336 u337 u338 u339 u340 u341 u342 u343 u344 u345 u346 u347 u348 u349 u350 u351 u352 u353 u354 u355 u356 u357 u358 u359 u360 u361 u362 u363 u364 u365 u366 u367 u368 u369 u370 u371 u372 u373 u374 u375 u376 u377 u378 u379 : Value)
    (hE : ∀ (n6 n18 n19 n100 n101 n102 n103 n104 n105 n106 n107 n108 n109 n110 n111 n112 n113 n114 n115 n116 n117 n118 n119 n120 n121 n122 n123 n124 n125 n126 n127 n128 n129 n130 n131 n132 n133 n134 n135 n136 n137 n138 n139 n140 n141 n142 n143 n144 n145 n146 n147 n148 n149 n150 n151 n152 n153 : Value) (W' : World), (∀ o ∈ l, crossB x o = false) → Kep non W W' → Q (.exit 2) ⟨#[u0, u1, u2, u3, u4, u5, n6, u7, u8, .pointer (some ⟨XB, 0, none⟩), u10, u11, u12, u13, u14, .slice va l.length vc, u16, .int .i64 l.length, n18, n19, u20, u21, u22, u23, u24, u25, u26, u27, u28, u29, u30, u31, u32, u33, u34, u35, u36, u37, u38, u39, u40, u41, u42, u43, u44, u45, u46, u47, u48, u49, u50, u51, u52, u53, u54, u55, u56, u57, u58, u59, u60, u61, u62, u63, u64, u65, u66, u67, u68, u69, u70, u71, u72, u73, u74, u75, u76, u77, u78, u79, u80, u81, u82, u83, u84, u85, u86, u87, u88, u89, u90, u91, u92, u93, u94, u95, u96, u97, u98, u99, n100, n101, n102, n103, n104, n105, n106, n107, n108, n109, n110, n111, n112, n113, n114, n115, n116, n117, n118, n119, n120, n121, n122, n123, n124, n125, n126, n127, n128, n129, n130, n131, n132, n133, n134, n135, n136, n137, n138, n139, n140, n141, n142, n143, n144, n145, n146, n147, n148, n149, n150, n151, n152, n153, u154, u155, u156, u157, u158, u159, u160, u161, u162, u163, u164, u165, u166, u167, u168, u169, u170, u171, u172, u173, u174, u175, u176, u177, u178, u179, u180, u181, u182, u183, u184, u185, u186, u187, u188, u189, u190, u191, u192, u193, u194, u195, u196, u197, u198, u199, u200, u201, u202, u203, u204, u205, u206, u207, u208, u209, u210, u211, u212, u213, u214, u215, u216, u217, u218, u219, u220, u221, u222, u223, u224, u225, u226, u227, u228, u229, u230, u231, u232, u233, u234, u235, u236, u237, u238, u239, u240, u241, u242, u243, u244, u245, u246, u247, u248, u249, u250, u251, u252, u253, u254, u255, u256, u257, u258, u259, u260, u261, u262, u263, u264, u265, u266, u267, u268, u269, u270, u271, u272, u273, u274, u275, u276, u277, u278, u279, u280, u281, u282, u283, u284, u285, u286, u287, u288, u289, u290, u291, u292, u293, u294, u295, u296, u297, u298, u299, u300, u301, u302, u303, u304, u305, u306, u307, u308, u309, u310, u311, u312, u313, u314, u315, u316, u317, u318, u319, u320, u321, u322, u323, u324, u325, u326, u327, u328, u329, u330, u331, u332, u333, u334, u335, u336, u337, u338, u339, u340, u341, u342, u343, u344, u345, u346, u347, u348, u349, u350, u351, u352, u353, u354, u355, u356, u357, u358, u359, u360, u361, u362, u363, u364, u365, u366, u367, u368, u369, u370, u371, u372, u373, u374, u375, u376, u377, u378, u379], []⟩ W')
    (hR : ∀ (n18 n19 n100 n101 n102 n103 n104 n105 n106 n107 n108 n109 n110 n111 n112 n113 n114 n115 n116 n117 n118 n119 n120 n121 n122 n123 n124 n125 n126 n127 n128 n129 n130 n131 n132 n133 n134 n135 n136 n137 n138 n139 n140 n141 n142 n143 n144 n145 n146 n147 n148 n149 n150 n151 n152 n153 n17 : Value) (W' : World), Kep non W W' → Q .ret ⟨#[u0, u1, u2, u3, u4, u5, .bool true, u7, u8, .pointer (some ⟨XB, 0, none⟩), u10, u11, u12, u13, u14, .slice va l.length vc, u16, n17, n18, n19, u20, u21, u22, u23, u24, u25, u26, u27, u28, u29, u30, u31, u32, u33, u34, u35, u36, u37, u38, u39, u40, u41, u42, u43, u44, u45, u46, u47, u48, u49, u50, u51, u52, u53, u54, u55, u56, u57, u58, u59, u60, u61, u62, u63, u64, u65, u66, u67, u68, u69, u70, u71, u72, u73, u74, u75, u76, u77, u78, u79, u80, u81, u82, u83, u84, u85, u86, u87, u88, u89, u90, u91, u92, u93, u94, u95, u96, u97, u98, u99, n100, n101, n102, n103, n104, n105, n106, n107, n108, n109, n110, n111, n112, n113, n114, n115, n116, n117, n118, n119, n120, n121, n122, n123, n124, n125, n126, n127, n128, n129, n130, n131, n132, n133, n134, n135, n136, n137, n138, n139, n140, n141, n142, n143, n144, n145, n146, n147, n148, n149, n150, n151, n152, n153, u154, u155, u156, u157, u158, u159, u160, u161, u162, u163, u164, u165, u166, u167, u168, u169, u170, u171, u172, u173, u174, u175, u176, u177, u178, u179, u180, u181, u182, u183, u184, u185, u186, u187, u188, u189, u190, u191, u192, u193, u194, u195, u196, u197, u198, u199, u200, u201, u202, u203, u204, u205, u206, u207, u208, u209, u210, u211, u212, u213, u214, u215, u216, u217, u218, u219, u220, u221, u222, u223, u224, u225, u226, u227, u228, u229, u230, u231, u232, u233, u234, u235, u236, u237, u238, u239, u240, u241, u242, u243, u244, u245, u246, u247, u248, u249, u250, u251, u252, u253, u254, u255, u256, u257, u258, u259, u260, u261, u262, u263, u264, u265, u266, u267, u268, u269, u270, u271, u272, u273, u274, u275, u276, u277, u278, u279, u280, u281, u282, u283, u284, u285, u286, u287, u288, u289, u290, u291, u292, u293, u294, u295, u296, u297, u298, u299, u300, u301, u302, u303, u304, u305, u306, u307, u308, u309, u310, u311, u312, u313, u314, u315, u316, u317, u318, u319, u320, u321, u322, u323, u324, u325, u326, u327, u328, u329, u330, u331, u332, u333, u334, u335, u336, u337, u338, u339, u340, u341, u342, u343, u344, u345, u346, u347, u348, u349, u350, u351, u352, u353, u354, u355, u356, u357, u358, u359, u360, u361, u362, u363, u364, u365, u366, u367, u368, u369, u370, u371, u372, u373, u374, u375, u376, u377, u378, u379], []⟩ W') :
    Code.wp Try.prog (Code.loop (loopAt Try.f8 1)) Q ⟨#[u0, u1, u2, u3, u4, u5, u6, u7, u8, .pointer (some ⟨XB, 0, none⟩), u10, u11, u12, u13, u14, .slice va l.length vc, u16, .int .i64 0, u18, u19, u20, u21, u22, u23, u24, u25, u26, u27, u28, u29, u30, u31, u32, u33, u34, u35, u36, u37, u38, u39, u40, u41, u42, u43, u44, u45, u46, u47, u48, u49, u50, u51, u52, u53, u54, u55, u56, u57, u58, u59, u60, u61, u62, u63, u64, u65, u66, u67, u68, u69, u70, u71, u72, u73, u74, u75, u76, u77, u78, u79, u80, u81, u82, u83, u84, u85, u86, u87, u88, u89, u90, u91, u92, u93, u94, u95, u96, u97, u98, u99, u100, u101, u102, u103, u104, u105, u106, u107, u108, u109, u110, u111, u112, u113, u114, u115, u116, u117, u118, u119, u120, u121, u122, u123, u124, u125, u126, u127, u128, u129, u130, u131, u132, u133, u134, u135, u136, u137, u138, u139, u140, u141, u142, u143, u144, u145, u146, u147, u148, u149, u150, u151, u152, u153, u154, u155, u156, u157, u158, u159, u160, u161, u162, u163, u164, u165, u166, u167, u168, u169, u170, u171, u172, u173, u174, u175, u176, u177, u178, u179, u180, u181, u182, u183, u184, u185, u186, u187, u188, u189, u190, u191, u192, u193, u194, u195, u196, u197, u198, u199, u200, u201, u202, u203, u204, u205, u206, u207, u208, u209, u210, u211, u212, u213, u214, u215, u216, u217, u218, u219, u220, u221, u222, u223, u224, u225, u226, u227, u228, u229, u230, u231, u232, u233, u234, u235, u236, u237, u238, u239, u240, u241, u242, u243, u244, u245, u246, u247, u248, u249, u250, u251, u252, u253, u254, u255, u256, u257, u258, u259, u260, u261, u262, u263, u264, u265, u266, u267, u268, u269, u270, u271, u272, u273, u274, u275, u276, u277, u278, u279, u280, u281, u282, u283, u284, u285, u286, u287, u288, u289, u290, u291, u292, u293, u294, u295, u296, u297, u298, u299, u300, u301, u302, u303, u304, u305, u306, u307, u308, u309, u310, u311, u312, u313, u314, u315, u316, u317, u318, u319, u320, u321, u322, u323, u324, u325, u326, u327, u328, u329, u330, u331, u332, u333, u334, u335, u336, u337, u338, u339, u340, u341, u342, u343, u344, u345, u346, u347, u348, u349, u350, u351, u352, u353, u354, u355, u356, u357, u358, u359, u360, u361, u362, u363, u364, u365, u366, u367, u368, u369, u370, u371, u372, u373, u374, u375, u376, u377, u378, u379], []⟩ W := by
  have HRa := hide hRa
  have HX := hide hX
  have HE := hide hE
  have HR := hide hR
  have HXs := hide xs
  clear hRa hX hE hR xs
  conv => arg 2; arg 1; whnf
  dsimp only
  go_loopw [17] (fun j wr => ∃ k : Nat, k ≤ l.length ∧ j = .int .i64 k ∧ (∀ o ∈ l.take k, crossB x o = false) ∧ Kep non W wr) (fun j _ => l.length - (intOf j).toNat)
  case atStart => exact ⟨0, Nat.zero_le _, rfl, fun o ho => by simp at ho, Kep.refl _ _⟩
  case round =>
    obtain ⟨k, hk, rfl, hno, K⟩ := hrel
    by_cases hlk : k < l.length
    · obtain ⟨ba, rfl, ha⟩ := HRa.out k hlk
      have y0 := K.cell (ha k hlk 0 _ rfl) (fun f => f)
      have y1 := K.cell (ha k hlk 1 _ rfl) (fun f => f)
      have y2 := K.cell (ha k hlk 2 _ rfl) (fun f => f)
      have y3 := K.cell (ha k hlk 3 _ rfl) (fun f => f)
      have y4 := K.cell (ha k hlk 4 _ rfl) (fun f => f)
      have y5 := K.cell (ha k hlk 5 _ rfl) (fun f => f)
      have y6 := K.cell (ha k hlk 6 _ rfl) (fun f => f)
      have y7 := K.cell (ha k hlk 7 _ rfl) (fun f => f)
      simp only [Nat.add_zero] at y0
      have hlk' : (k : Int) < (l.length : Int) := by omega
      have HNo := hide (show crossB x l[k] = false → ∀ o ∈ l.take (k + 1), crossB x o = false from fun hc o ho => by
        rw [List.take_add_one, List.getElem?_eq_getElem hlk, Option.toList_some] at ho
        rcases List.mem_append.1 ho with ho | ho
        · exact hno o ho
        · rw [List.mem_singleton.1 ho]; exact hc)
      clear ha hno
      generalize l[k] = z at *
      have hb := heap_alloc_new wr (.cells #[.int .i64 z.id, .int .i64 z.t, .int .i64 z.h, .int .i64 z.g, .int .i64 z.s, .int .i64 z.p, .int .i64 z.q, .int .i64 z.w] 42)
      have kz : Kep non wr (wr.alloc (.cells #[.int .i64 z.id, .int .i64 z.t, .int .i64 z.h, .int .i64 z.g, .int .i64 z.s, .int .i64 z.p, .int .i64 z.q, .int .i64 z.w] 42)) := (Kep.refl _ _).alloc _
      have z2 := cell_of_row _ _ 2 _ _ _ hb
      have z3 := cell_of_row _ _ 3 _ _ _ hb
      have z4 := cell_of_row _ _ 4 _ _ _ hb
      have z5 := cell_of_row _ _ 5 _ _ _ hb
      have x2 := kz.cell (K.cell (HX.out 2 _ rfl) (fun f => f)) (fun f => f)
      have x3 := kz.cell (K.cell (HX.out 3 _ rfl) (fun f => f)) (fun f => f)
      have x4 := kz.cell (K.cell (HX.out 4 _ rfl) (fun f => f)) (fun f => f)
      have x5 := kz.cell (K.cell (HX.out 5 _ rfl) (fun f => f)) (fun f => f)
      have HKz := hide (K.trans kz)
      clear hb kz K HE
      rcases HXs.out with hs | hs
      · rw [hs] at x4
        by_cases hp : z.p ≤ x.p
        · by_cases e1 : z.h = x.h
          · have e1' : (z.h == x.h) = true := beq_iff_eq.2 e1
            by_cases e2 : z.g = x.g
            · have e2' : (z.g == x.g) = true := beq_iff_eq.2 e2
              by_cases e3 : z.s = x.s
              · have e3' : (z.s != 0) = false := by rw [e3, hs]; rfl
                have HC := hide (show crossB x z = false by unfold crossB; simp [e3])
                clear e1 e2 e3 hs
                go_wp2
                exact ⟨⟨k + 1, by omega, by go_num, HNo.out HC.out, HKz.out⟩, by simp [intOf]; omega⟩
              · have e3' : (z.s != 0) = true := by rw [← hs]; simpa using e3
                clear e1 e2 e3 hs HNo
                go_wp2
                exact HR.out _ _ _ _ _ _ _ _ _ _ _ _ _ _ _ _ _ _ _ _ _ _ _ _ _ _ _ _ _ _ _ _ _ _ _ _ _ _ _ _ _ _ _ _ _ _ _ _ _ _ _ _ _ _ _ _ _ _ HKz.out
            · have e2' : (z.g == x.g) = false := beq_eq_false_iff_ne.2 e2
              have HC := hide (show crossB x z = false by unfold crossB; simp [e2])
              clear e1 e2 hs
              go_wp2
              exact ⟨⟨k + 1, by omega, by go_num, HNo.out HC.out, HKz.out⟩, by simp [intOf]; omega⟩
          · have e1' : (z.h == x.h) = false := beq_eq_false_iff_ne.2 e1
            have HC := hide (show crossB x z = false by unfold crossB; simp [e1])
            clear e1 hs
            go_wp2
            exact ⟨⟨k + 1, by omega, by go_num, HNo.out HC.out, HKz.out⟩, by simp [intOf]; omega⟩
        · have HC := hide (show crossB x z = false by unfold crossB pfits; simp [hs, hp])
          clear hs
          have hp' : decide (z.p ≤ x.p) = false := decide_eq_false hp
          go_wp2
          exact ⟨⟨k + 1, by omega, by go_num, HNo.out HC.out, HKz.out⟩, by simp [intOf]; omega⟩
      · rw [hs] at x4
        by_cases hp : x.p ≤ z.p
        · by_cases e1 : z.h = x.h
          · have e1' : (z.h == x.h) = true := beq_iff_eq.2 e1
            by_cases e2 : z.g = x.g
            · have e2' : (z.g == x.g) = true := beq_iff_eq.2 e2
              by_cases e3 : z.s = x.s
              · have e3' : (z.s != 1) = false := by rw [e3, hs]; rfl
                have HC := hide (show crossB x z = false by unfold crossB; simp [e3])
                clear e1 e2 e3 hs
                go_wp2
                exact ⟨⟨k + 1, by omega, by go_num, HNo.out HC.out, HKz.out⟩, by simp [intOf]; omega⟩
              · have e3' : (z.s != 1) = true := by rw [← hs]; simpa using e3
                clear e1 e2 e3 hs HNo
                go_wp2
                exact HR.out _ _ _ _ _ _ _ _ _ _ _ _ _ _ _ _ _ _ _ _ _ _ _ _ _ _ _ _ _ _ _ _ _ _ _ _ _ _ _ _ _ _ _ _ _ _ _ _ _ _ _ _ _ _ _ _ _ _ HKz.out
            · have e2' : (z.g == x.g) = false := beq_eq_false_iff_ne.2 e2
              have HC := hide (show crossB x z = false by unfold crossB; simp [e2])
              clear e1 e2 hs
              go_wp2
              exact ⟨⟨k + 1, by omega, by go_num, HNo.out HC.out, HKz.out⟩, by simp [intOf]; omega⟩
          · have e1' : (z.h == x.h) = false := beq_eq_false_iff_ne.2 e1
            have HC := hide (show crossB x z = false by unfold crossB; simp [e1])
            clear e1 hs
            go_wp2
            exact ⟨⟨k + 1, by omega, by go_num, HNo.out HC.out, HKz.out⟩, by simp [intOf]; omega⟩
        · have HC := hide (show crossB x z = false by unfold crossB pfits; simp [hs, hp])
          clear hs
          have hp' : decide (x.p ≤ z.p) = false := decide_eq_false hp
          go_wp2
          exact ⟨⟨k + 1, by omega, by go_num, HNo.out HC.out, HKz.out⟩, by simp [intOf]; omega⟩
    · have hkl : k = l.length := by omega
      have hlk' : ¬ (k : Int) < (l.length : Int) := by omega
      have HK := hide K
      rw [hkl] at hlk' hno
      rw [List.take_length] at hno
      have HN := hide hno
      rw [hkl]
      clear K hlk hk hkl hno
      go_wp2
      exact HE.out _ _ _ _ _ _ _ _ _ _ _ _ _ _ _ _ _ _ _ _ _ _ _ _ _ _ _ _ _ _ _ _ _ _ _ _ _ _ _ _ _ _ _ _ _ _ _ _ _ _ _ _ _ _ _ _ _ wr HN.out HK.out

end

end Go.Proofs.Ytcfoobhihhndjaa
