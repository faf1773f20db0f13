/- Best: the end. -/
import Derived.Test.YtcfoobhihhndjaaBde
import Derived.Test.YtcfoobhihhndjaaBb
import Derived.Test.YtcfoobhihhndjaaBj
namespace Go.Proofs.Ytcfoobhihhndjaa

section
open Go.RowKit Go.Sort

set_option maxRecDepth 1000000 in
set_option maxHeartbeats 16000000 in
theorem best_l5 {W : World} {id : Int} {l : List Od} {va : Option Addr} {vc : Nat} (hl60 : l.length ≤ 60) (hRow : ∀ i, i < l.length → ∃ b, va = some ⟨b, 0, none⟩ ∧ ∀ i (hi : i < l.length) j u, l[i].cells[j]? = some u → W.cell? ⟨b, i * 8 + j, none⟩ = some u)
    (Q : Exit → Act → World → Prop) (u0 u1 u2 u3 u4 u5 u6 u7 u8 u9 u10 u11 u12 u13 u14 u15 u16 u18 u19 u20 u21 u22 u23 u24 u25 u28 u30 u31 u32 u33 u34 u35 u36 u37 u38 u39 u40 u41 u42 u43 u44 u45 u46 u47 u48 u49 u50 u51 u52 u53 u54 u55 u56 u57 u58 u59 u60 u61 u62 u63 u64 u65 u66 u67 u68 u69 u70 u71 u72 u73 u74 u75 u76 u77 u78 u79 u80 u81 u82 u83 u84 u85 u86 u87 u88 u89 u90 u91 u92 u93 u94 u95 u96 u97 u98 u99 u100 u101 u102 u103 u104 u105 u106 u107 u108 u109 u110 u111 u112 u113 u114 u115 u116 u117 u118 u119 u120 u121 u122 u123 u124 u125 u126 u127 u128 u129 u130 u131 u132 u133 u134 u135 u136 u137 u138 u139 u140 u141 u142 u143 u144 u145 u146 u147 u148 u149 u150 u151 u152 u153 u154 u155 u156 u157 u158 u159 u160 u161 u162 u163 u164 u165 u166 u167 u168 u169 u170 u171 u172 u173 u174 u175 u176 u177 u178 u179 u180 u181 u182 u183 u184 u185 u186 u187 u188 u189 u190 u191 u192 u193 u194 u195 u196 u197 u198 u199 u200 u201 u202 u203 u204 u205 u206 u207 u208 u209 u210 u211 u212 u213 u214 u215 u216 u217 u218 u219 u220 u221 u222 u223 u224 u225 u226 u227 u228 u229 u230 u231 u232 u233 u234 u235 u236 u237 u238 u239 u240 u241 u242 u243 u244 u245 u246 u247 u248 u249 u250 u251 u252 u253 u254 u255 u256 u257 u258 u259 u260 u261 u262 u263 u264 u265 u266 u267 u268 u269 u270 u271 u272 u273 u274 u275 u276 u277 u278 u279 u280 u281 u282 u283 u284 u285 u286 u287 u288 u289 u290 u291 u292 u293 u294 u295 u296 u297 u298 u299 u300 u301 u302 u303 u304 u305 u306 u307 u308 u309 u310 u311 u312 u313 u314 u315 u316 u317 u318 u319 u320 u321 u322 u323 u324 u325 u326 u327 u328 u329 u330 u331 u332 u333 u334 u335 u336 u337 u338 u339 u340 u341 u342 u343 u344 u345 u346 u347 u348 u349 u350 u351 u352 u353 u354 u355 u356 u357 u358 u359 u360 u361 u362 u363 u364 u365 u366 u367 u368 u369 u370 u371 u372 u373 u374 u375 u376 u377 u378 u379 u380 u381 u382 u383 u384 u385 u386 u387 u388 u389 u390 u391 u392 u393 u394 : Value)
    (hE : ∀ (n323 n324 n325 n326 n327 n328 n329 n330 n331 n332 n333 n334 n335 n336 n337 n338 n339 n340 : Value), Q (.exit 8) ⟨#[u0, u1, u2, u3, u4, u5, u6, u7, u8, u9, u10, u11, u12, u13, u14, u15, u16, .int .i64 id, u18, u19, u20, u21, u22, u23, u24, u25, .int .i64 (waitL id l), .slice va l.length vc, u28, .int .i64 l.length, u30, u31, u32, u33, u34, u35, u36, u37, u38, u39, u40, u41, u42, u43, u44, u45, u46, u47, u48, u49, u50, u51, u52, u53, u54, u55, u56, u57, u58, u59, u60, u61, u62, u63, u64, u65, u66, u67, u68, u69, u70, u71, u72, u73, u74, u75, u76, u77, u78, u79, u80, u81, u82, u83, u84, u85, u86, u87, u88, u89, u90, u91, u92, u93, u94, u95, u96, u97, u98, u99, u100, u101, u102, u103, u104, u105, u106, u107, u108, u109, u110, u111, u112, u113, u114, u115, u116, u117, u118, u119, u120, u121, u122, u123, u124, u125, u126, u127, u128, u129, u130, u131, u132, u133, u134, u135, u136, u137, u138, u139, u140, u141, u142, u143, u144, u145, u146, u147, u148, u149, u150, u151, u152, u153, u154, u155, u156, u157, u158, u159, u160, u161, u162, u163, u164, u165, u166, u167, u168, u169, u170, u171, u172, u173, u174, u175, u176, u177, u178, u179, u180, u181, u182, u183, u184, u185, u186, u187, u188, u189, u190, u191, u192, u193, u194, u195, u196, u197, u198, u199, u200, u201, u202, u203, u204, u205, u206, u207, u208, u209, u210, u211, u212, u213, u214, u215, u216, u217, u218, u219, u220, u221, u222, u223, u224, u225, u226, u227, u228, u229, u230, u231, u232, u233, u234, u235, u236, u237, u238, u239, u240, u241, u242, u243, u244, u245, u246, u247, u248, u249, u250, u251, u252, u253, u254, u255, u256, u257, u258, u259, u260, u261, u262, u263, u264, u265, u266, u267, u268, u269, u270, u271, u272, u273, u274, u275, u276, u277, u278, u279, u280, u281, u282, u283, u284, u285, u286, u287, u288, u289, u290, u291, u292, u293, u294, u295, u296, u297, u298, u299, u300, u301, u302, u303, u304, u305, u306, u307, u308, u309, u310, u311, u312, u313, u314, u315, u316, u317, u318, u319, u320, u321, u322, n323, n324, n325, n326, n327, n328, n329, n330, n331, n332, n333, n334, n335, n336, n337, n338, n339, n340, u341, u342, u343, u344, u345, u346, u347, u348, u349, u350, u351, u352, u353, u354, u355, u356, u357, u358, u359, u360, u361, u362, u363, u364, u365, u366, u367, u368, u369, u370, u371, u372, u373, u374, u375, u376, u377, u378, u379, u380, u381, u382, u383, u384, u385, u386, u387, u388, u389, u390, u391, u392, u393, u394], []⟩ W) :
    Code.wp Try.prog (Code.loop (loopAt Try.f4 4)) Q ⟨#[u0, u1, u2, u3, u4, u5, u6, u7, u8, u9, u10, u11, u12, u13, u14, u15, u16, .int .i64 id, u18, u19, u20, u21, u22, u23, u24, u25, .int .i64 0, .slice va l.length vc, u28, .int .i64 0, u30, u31, u32, u33, u34, u35, u36, u37, u38, u39, u40, u41, u42, u43, u44, u45, u46, u47, u48, u49, u50, u51, u52, u53, u54, u55, u56, u57, u58, u59, u60, u61, u62, u63, u64, u65, u66, u67, u68, u69, u70, u71, u72, u73, u74, u75, u76, u77, u78, u79, u80, u81, u82, u83, u84, u85, u86, u87, u88, u89, u90, u91, u92, u93, u94, u95, u96, u97, u98, u99, u100, u101, u102, u103, u104, u105, u106, u107, u108, u109, u110, u111, u112, u113, u114, u115, u116, u117, u118, u119, u120, u121, u122, u123, u124, u125, u126, u127, u128, u129, u130, u131, u132, u133, u134, u135, u136, u137, u138, u139, u140, u141, u142, u143, u144, u145, u146, u147, u148, u149, u150, u151, u152, u153, u154, u155, u156, u157, u158, u159, u160, u161, u162, u163, u164, u165, u166, u167, u168, u169, u170, u171, u172, u173, u174, u175, u176, u177, u178, u179, u180, u181, u182, u183, u184, u185, u186, u187, u188, u189, u190, u191, u192, u193, u194, u195, u196, u197, u198, u199, u200, u201, u202, u203, u204, u205, u206, u207, u208, u209, u210, u211, u212, u213, u214, u215, u216, u217, u218, u219, u220, u221, u222, u223, u224, u225, u226, u227, u228, u229, u230, u231, u232, u233, u234, u235, u236, u237, u238, u239, u240, u241, u242, u243, u244, u245, u246, u247, u248, u249, u250, u251, u252, u253, u254, u255, u256, u257, u258, u259, u260, u261, u262, u263, u264, u265, u266, u267, u268, u269, u270, u271, u272, u273, u274, u275, u276, u277, u278, u279, u280, u281, u282, u283, u284, u285, u286, u287, u288, u289, u290, u291, u292, u293, u294, u295, u296, u297, u298, u299, u300, u301, u302, u303, u304, u305, u306, u307, u308, u309, u310, u311, u312, u313, u314, u315, u316, u317, u318, u319, u320, u321, u322, u323, u324, u325, u326, u327, u328, u329, u330, u331, u332, u333, u334, u335, u336, u337, u338, u339, u340, u341, u342, u343, u344, u345, u346, u347, u348, u349, u350, u351, u352, u353, u354, u355, u356, u357, u358, u359, u360, u361, u362, u363, u364, u365, u366, u367, u368, u369, u370, u371, u372, u373, u374, u375, u376, u377, u378, u379, u380, u381, u382, u383, u384, u385, u386, u387, u388, u389, u390, u391, u392, u393, u394], []⟩ W := by
  have HRow := hide hRow
  have HEx := hide hE
  clear hRow hE
  conv => arg 2; arg 1; whnf
  dsimp only
  go_loopw [26, 29] (fun a i wr => ∃ k : Nat, k ≤ l.length ∧ a = .int .i64 (waitL id (l.take k)) ∧ i = .int .i64 k ∧ wr = W) (fun _ i _ => l.length - (intOf i).toNat)
  case atStart => exact ⟨0, Nat.zero_le _, rfl, rfl, rfl⟩
  case round =>
    obtain ⟨j, hj, rfl, rfl, rfl⟩ := hrel
    by_cases hlj : j < l.length
    · obtain ⟨b, rfl, hc⟩ := HRow.out j hlj
      have y0 := hc j hlj 0 _ rfl
      have y6 := hc j hlj 6 _ rfl
      simp only [Nat.add_zero] at y0
      have hlj' : (j : Int) < (l.length : Int) := by omega
      have HNx := hide (waitL_next id l j hlj)
      clear hc
      generalize l[j] = z at *
      generalize waitL id (l.take j) = wt at *
      by_cases e : z.id = id
      · have hN := HNx.out
        rw [if_pos e] at hN
        have HN := hide hN
        rw [e] at y0
        clear hN HNx
        go_wp2
        exact ⟨⟨j + 1, by omega, by rw [HN.out], by go_num, trivial⟩, by simp [intOf]; omega⟩
      · have hN := HNx.out
        rw [if_neg e] at hN
        have HN := hide hN
        have e' : (z.id == id) = false := beq_eq_false_iff_ne.2 e
        clear hN HNx
        go_wp2
        exact ⟨⟨j + 1, by omega, by rw [HN.out], by go_num, trivial⟩, by simp [intOf]; omega⟩
    · have hjl : j = l.length := by omega
      have hlj' : ¬ (j : Int) < (l.length : Int) := by omega
      rw [hjl, List.take_length]
      rw [hjl] at hlj'
      clear hjl hlj hj
      go_wp2
      exact HEx.out _ _ _ _ _ _ _ _ _ _ _ _ _ _ _ _ _ _

set_option maxRecDepth 1000000 in
set_option maxHeartbeats 16000000 in
theorem best_r4 {W : World} {XB n tc : Nat} {ta : Option Addr} {x : Od} {e left wt : Int} (xw : 0 ≤ x.w ∧ x.w ≤ 3) (x6 : W.cell? ⟨XB, 6, none⟩ = some (.int .i64 x.q)) (x7 : W.cell? ⟨XB, 7, none⟩ = some (.int .i64 x.w)) (he0 : e ≠ 0 → (e = 10 → x.w = 3) ∧ (e = 11 → x.w = 2)) (he1 : e = 0 → BEnd x left n wt)
    (Post : Ending → World → Prop) (hP : ∀ W', Kep non W W' → Post (.returned (.bool true)) W') {u0 u1 u2 u3 u4 u5 u6 u7 u8 u10 u11 u12 u13 u14 u15 u16 u17 u21 u22 u23 u24 u25 u27 u28 u29 u30 u31 u32 u33 u34 u35 u36 u37 u38 u39 u40 u41 u42 u43 u44 u45 u46 u47 u48 u49 u50 u51 u52 u53 u54 u55 u56 u57 u58 u59 u60 u61 u62 u63 u64 u65 u66 u67 u68 u69 u70 u71 u72 u73 u74 u75 u76 u77 u78 u79 u80 u81 u82 u83 u84 u85 u86 u87 u88 u89 u90 u91 u92 u93 u94 u95 u96 u97 u98 u99 u100 u101 u102 u103 u104 u105 u106 u107 u108 u109 u110 u111 u112 u113 u114 u115 u116 u117 u118 u119 u120 u121 u122 u123 u124 u125 u126 u127 u128 u129 u130 u131 u132 u133 u134 u135 u136 u137 u138 u139 u140 u141 u142 u143 u144 u145 u146 u147 u148 u149 u150 u151 u152 u153 u154 u155 u156 u157 u158 u159 u160 u161 u162 u163 u164 u165 u166 u167 u168 u169 u170 u171 u172 u173 u174 u175 u176 u177 u178 u179 u180 u181 u182 u183 u184 u185 u186 u187 u188 u189 u190 u191 u192 u193 u194 u195 u196 u197 u198 u199 u200 u201 u202 u203 u204 u205 u206 u207 u208 u209 u210 u211 u212 u213 u214 u215 u216 u217 u218 u219 u220 u221 u222 u223 u224 u225 u226 u227 u228 u229 u230 u231 u232 u233 u234 u235 u236 u237 u238 u239 u240 u241 u242 u243 u244 u245 u246 u247 u248 u249 u250 u251 u252 u253 u254 u255 u256 u257 u258 u259 u260 u261 u262 u263 u264 u265 u266 u267 u268 u269 u270 u271 u272 u273 u274 u275 u276 u277 u278 u279 u280 u281 u282 u283 u284 u285 u286 u287 u288 u289 u290 u291 u292 u293 u294 u295 u296 u297 u298 u299 u300 u301 u302 u303 u304 u305 u306 u307 u308 u309 u310 u311 u312 u313 u314 u315 u316 u317 u318 u319 u320 u321 u322 u323 u324 u325 u326 u327 u328 u329 u330 u331 u332 u333 u334 u335 u336 u337 u338 u339 u340 u341 u342 u343 u344 u345 u346 u347 u348 u349 u350 u351 u352 u353 u354 u355 u356 u357 u358 u359 u360 u361 u362 u363 u364 u365 u366 u367 u368 u369 u370 u371 u372 u373 u374 u375 u376 u377 u378 u379 u380 u381 u382 u383 u384 u385 u386 u387 u388 u389 u390 u391 u392 u393 u394 : Value} :
    Code.wp Try.prog (((((Try.f4.body.bind afterLoop).bind afterLoop).bind afterLoop).bind afterLoop).getD .skip) (bodyPost Try.prog Try.f4 Post) ⟨#[u0, u1, u2, u3, u4, u5, u6, u7, u8, .pointer (some ⟨XB, 0, none⟩), u10, u11, u12, u13, u14, u15, u16, u17, .slice ta n tc, .int .i64 e, .int .i64 left, u21, u22, u23, u24, u25, .int .i64 wt, u27, u28, u29, u30, u31, u32, u33, u34, u35, u36, u37, u38, u39, u40, u41, u42, u43, u44, u45, u46, u47, u48, u49, u50, u51, u52, u53, u54, u55, u56, u57, u58, u59, u60, u61, u62, u63, u64, u65, u66, u67, u68, u69, u70, u71, u72, u73, u74, u75, u76, u77, u78, u79, u80, u81, u82, u83, u84, u85, u86, u87, u88, u89, u90, u91, u92, u93, u94, u95, u96, u97, u98, u99, u100, u101, u102, u103, u104, u105, u106, u107, u108, u109, u110, u111, u112, u113, u114, u115, u116, u117, u118, u119, u120, u121, u122, u123, u124, u125, u126, u127, u128, u129, u130, u131, u132, u133, u134, u135, u136, u137, u138, u139, u140, u141, u142, u143, u144, u145, u146, u147, u148, u149, u150, u151, u152, u153, u154, u155, u156, u157, u158, u159, u160, u161, u162, u163, u164, u165, u166, u167, u168, u169, u170, u171, u172, u173, u174, u175, u176, u177, u178, u179, u180, u181, u182, u183, u184, u185, u186, u187, u188, u189, u190, u191, u192, u193, u194, u195, u196, u197, u198, u199, u200, u201, u202, u203, u204, u205, u206, u207, u208, u209, u210, u211, u212, u213, u214, u215, u216, u217, u218, u219, u220, u221, u222, u223, u224, u225, u226, u227, u228, u229, u230, u231, u232, u233, u234, u235, u236, u237, u238, u239, u240, u241, u242, u243, u244, u245, u246, u247, u248, u249, u250, u251, u252, u253, u254, u255, u256, u257, u258, u259, u260, u261, u262, u263, u264, u265, u266, u267, u268, u269, u270, u271, u272, u273, u274, u275, u276, u277, u278, u279, u280, u281, u282, u283, u284, u285, u286, u287, u288, u289, u290, u291, u292, u293, u294, u295, u296, u297, u298, u299, u300, u301, u302, u303, u304, u305, u306, u307, u308, u309, u310, u311, u312, u313, u314, u315, u316, u317, u318, u319, u320, u321, u322, u323, u324, u325, u326, u327, u328, u329, u330, u331, u332, u333, u334, u335, u336, u337, u338, u339, u340, u341, u342, u343, u344, u345, u346, u347, u348, u349, u350, u351, u352, u353, u354, u355, u356, u357, u358, u359, u360, u361, u362, u363, u364, u365, u366, u367, u368, u369, u370, u371, u372, u373, u374, u375, u376, u377, u378, u379, u380, u381, u382, u383, u384, u385, u386, u387, u388, u389, u390, u391, u392, u393, u394], []⟩ W := by
  have HPost := hide hP
  clear hP
  conv => arg 2; whnf
  by_cases hz : e = 0
  · obtain ⟨b0, b3, b2, b1⟩ := he1 hz
    clear he0 he1
    subst hz
    have hw : x.w = 0 ∨ x.w = 1 ∨ x.w = 2 ∨ x.w = 3 := by omega
    rcases hw with hw | hw | hw | hw
    · have q := b0 hw
      rw [hw] at x7
      subst q
      clear b0 b1 b2 b3 xw hw
      go_wp2
      exact HPost.out _ (Kep.refl _ _)
    · have q := b1 hw
      rw [hw] at x7
      subst q
      clear b0 b1 b2 b3 xw hw
      go_wp2
      exact HPost.out _ (Kep.refl _ _)
    · obtain ⟨q1, q2⟩ := b2 hw
      rw [hw] at x7
      subst q1
      subst q2
      clear b0 b1 b2 b3 xw hw
      go_wp2
      exact HPost.out _ (Kep.refl _ _)
    · obtain ⟨q1, q2⟩ := b3 hw
      rw [hw] at x7
      subst q1
      subst q2
      clear b0 b1 b2 b3 xw hw
      go_wp2
      exact HPost.out _ (Kep.refl _ _)
  · obtain ⟨a1, a2⟩ := he0 hz
    have hz' : (e != 0) = true := by simpa using hz
    clear he0 he1
    by_cases h10 : e = 10
    · have q := a1 h10
      rw [q] at x7
      subst h10
      clear a1 a2 hz hz' xw q
      go_wp2
      exact HPost.out _ (Kep.refl _ _)
    · have h10' : (e == 10) = false := beq_eq_false_iff_ne.2 h10
      by_cases h11 : e = 11
      · have q := a2 h11
        rw [q] at x7
        subst h11
        clear a1 a2 hz hz' xw q h10 h10'
        go_wp2
        exact HPost.out _ (Kep.refl _ _)
      · have h11' : (e != 11) = true := by simpa using h11
        by_cases h3 : x.w = 3
        · rw [h3] at x7
          clear a1 a2 hz xw h3 h10 h11
          go_wp2
          exact HPost.out _ (Kep.refl _ _)
        · have h3' : (x.w == 3) = false := beq_eq_false_iff_ne.2 h3
          clear a1 a2 hz xw h3 h10 h11
          go_wp2
          exact HPost.out _ (Kep.refl _ _)

set_option maxRecDepth 1000000 in
set_option maxHeartbeats 16000000 in
theorem best_r3 {w : World} {rs : List Int} {X : Nat} {m : Mt} {N : Int} {W : World} {XB s n vc tc : Nat} {x : Od} {TH : List Od} {va ta : Option Addr} {id e left : Int} (D : DeskB w rs X m W) (I : m.Inv N) (J : m.Jn) (okt : okI m.T x.t) (hlen : TH.length ≤ 300) (hsd : ∀ o ∈ TH, o.s = otherS s) (hid : TH.Pairwise fun a b => a.id ≠ b.id) (hRow : ∀ i, i < TH.length → ∃ b, va = some ⟨b, 0, none⟩ ∧ ∀ i (hi : i < TH.length) j u, TH[i].cells[j]? = some u → W.cell? ⟨b, i * 8 + j, none⟩ = some u)
    (xw : 0 ≤ x.w ∧ x.w ≤ 3) (hX : ∀ j u, x.cells[j]? = some u → W.cell? ⟨XB, j, none⟩ = some u) (he0 : e ≠ 0 → id = 0 ∧ n = 0 ∧ (e = 10 → x.w = 3) ∧ (e = 11 → x.w = 2)) (he1 : e = 0 → (∀ r, BestOf (otherS s) TH r → 0 < left → r = -1) ∧ ∀ l, Told m x.t l → BEnd x left n (waitL id l))
    (Post : Ending → World → Prop) (hP : ∀ W', Kep non W W' → Post (.returned (.bool true)) W') (u0 u1 u2 u3 u4 u5 u6 u8 u11 u12 u13 u14 u15 u21 u22 u23 u24 u25 u26 u27 u28 u29 u30 u31 u32 u33 u34 u35 u36 u37 u38 u39 u40 u41 u42 u43 u44 u45 u46 u47 u48 u49 u50 u51 u52 u53 u54 u55 u56 u57 u58 u59 u60 u61 u62 u63 u64 u65 u66 u67 u68 u69 u70 u71 u72 u73 u74 u75 u76 u77 u78 u79 u80 u81 u82 u83 u84 u85 u86 u87 u88 u89 u90 u91 u92 u93 u94 u95 u96 u97 u98 u99 u100 u101 u102 u103 u104 u105 u106 u107 u108 u109 u110 u111 u112 u113 u114 u115 u116 u117 u118 u119 u120 u121 u122 u123 u124 u125 u126 u127 u128 u129 u130 u131 u132 u133 u134 u135 u136 u137 u138 u139 u140 u141 u142 u143 u144 u145 u146 u147 u148 u149 u150 u151 u152 u153 u154 u155 u156 u157 u158 u159 u160 u161 u162 u163 u164 u165 u166 u167 u168 u169 u170 u171 u172 u173 u174 u175 u176 u177 u178 u179 u180 u181 u182 u183 u184 u185 u186 u187 u188 u189 u190 u191 u192 u193 u194 u195 u196 u197 u198 u199 u200 u201 u202 u203 u204 u205 u206 u207 u208 u209 u210 u211 u212 u213 u214 u215 u216 u217 u218 u219 u220 u221 u222 u223 u224 u225 u226 u227 u228 u229 u230 u231 u232 u233 u234 u235 u236 u237 u238 u239 u240 u241 u242 u243 u244 u245 u246 u247 u248 u249 u250 u251 u252 u253 u254 u255 u256 u257 u258 u259 u260 u261 u262 u263 u264 u265 u266 u267 u268 u269 u270 u271 u272 u273 u274 u275 u276 u277 u278 u279 u280 u281 u282 u283 u284 u285 u286 u287 u288 u289 u290 u291 u292 u293 u294 u295 u296 u297 u298 u299 u300 u301 u302 u303 u304 u305 u306 u307 u308 u309 u310 u311 u312 u313 u314 u315 u316 u317 u318 u319 u320 u321 u322 u323 u324 u325 u326 u327 u328 u329 u330 u331 u332 u333 u334 u335 u336 u337 u338 u339 u340 u341 u342 u343 u344 u345 u346 u347 u348 u349 u350 u351 u352 u353 u354 u355 u356 u357 u358 u359 u360 u361 u362 u363 u364 u365 u366 u367 u368 u369 u370 u371 u372 u373 u374 u375 u376 u377 u378 u379 u380 u381 u382 u383 u384 u385 u386 u387 u388 u389 u390 u391 u392 u393 u394 : Value) :
    Code.wp Try.prog ((((Try.f4.body.bind afterLoop).bind afterLoop).bind afterLoop).getD .skip) (bodyPost Try.prog Try.f4 Post) ⟨#[u0, u1, u2, u3, u4, u5, u6, .pointer (some ⟨w.heap.size, 0, none⟩), u8, .pointer (some ⟨XB, 0, none⟩), .slice va TH.length vc, u11, u12, u13, u14, u15, .int .i64 m.ho, .int .i64 id, .slice ta n tc, .int .i64 e, .int .i64 left, u21, u22, u23, u24, u25, u26, u27, u28, u29, u30, u31, u32, u33, u34, u35, u36, u37, u38, u39, u40, u41, u42, u43, u44, u45, u46, u47, u48, u49, u50, u51, u52, u53, u54, u55, u56, u57, u58, u59, u60, u61, u62, u63, u64, u65, u66, u67, u68, u69, u70, u71, u72, u73, u74, u75, u76, u77, u78, u79, u80, u81, u82, u83, u84, u85, u86, u87, u88, u89, u90, u91, u92, u93, u94, u95, u96, u97, u98, u99, u100, u101, u102, u103, u104, u105, u106, u107, u108, u109, u110, u111, u112, u113, u114, u115, u116, u117, u118, u119, u120, u121, u122, u123, u124, u125, u126, u127, u128, u129, u130, u131, u132, u133, u134, u135, u136, u137, u138, u139, u140, u141, u142, u143, u144, u145, u146, u147, u148, u149, u150, u151, u152, u153, u154, u155, u156, u157, u158, u159, u160, u161, u162, u163, u164, u165, u166, u167, u168, u169, u170, u171, u172, u173, u174, u175, u176, u177, u178, u179, u180, u181, u182, u183, u184, u185, u186, u187, u188, u189, u190, u191, u192, u193, u194, u195, u196, u197, u198, u199, u200, u201, u202, u203, u204, u205, u206, u207, u208, u209, u210, u211, u212, u213, u214, u215, u216, u217, u218, u219, u220, u221, u222, u223, u224, u225, u226, u227, u228, u229, u230, u231, u232, u233, u234, u235, u236, u237, u238, u239, u240, u241, u242, u243, u244, u245, u246, u247, u248, u249, u250, u251, u252, u253, u254, u255, u256, u257, u258, u259, u260, u261, u262, u263, u264, u265, u266, u267, u268, u269, u270, u271, u272, u273, u274, u275, u276, u277, u278, u279, u280, u281, u282, u283, u284, u285, u286, u287, u288, u289, u290, u291, u292, u293, u294, u295, u296, u297, u298, u299, u300, u301, u302, u303, u304, u305, u306, u307, u308, u309, u310, u311, u312, u313, u314, u315, u316, u317, u318, u319, u320, u321, u322, u323, u324, u325, u326, u327, u328, u329, u330, u331, u332, u333, u334, u335, u336, u337, u338, u339, u340, u341, u342, u343, u344, u345, u346, u347, u348, u349, u350, u351, u352, u353, u354, u355, u356, u357, u358, u359, u360, u361, u362, u363, u364, u365, u366, u367, u368, u369, u370, u371, u372, u373, u374, u375, u376, u377, u378, u379, u380, u381, u382, u383, u384, u385, u386, u387, u388, u389, u390, u391, u392, u393, u394], []⟩ W := by
  have HPost := hide hP
  have HE0 := hide he0
  have HE1 := hide he1
  have HX := hide hX
  have HHo := hide (show Calls Try.prog 18 #[.pointer (some ⟨X, 0, none⟩)] W fun e w' => e = .returned (.int .i64 m.ho) ∧ w' = W from by
    obtain ⟨L, rv, pb, rfl, D⟩ := D
    exact house_any W L m D.R)
  have HBt := hide (better_any W (otherS s) (by unfold otherS; split <;> omega) TH va vc (by omega) hsd hid hRow)
  have cp := Desk.ptr D
  have HD := hide D
  clear hP he0 he1 hX D hRow hsd hid
  conv => arg 2; whnf
  go_wp2_with fail
  refine HHo.out.mono ?_
  rintro e' w' ⟨rfl, rfl⟩
  clear HHo
  go_wp2_with fail
  refine HBt.out.mono ?_
  rintro e' w2 ⟨r, hB, rfl, nn, hw2⟩
  have k2 : Kep non w' w2 := by rw [hw2]; exact (Kep.refl _ _).drewN nn
  have HB := hide hB
  have HK2 := hide k2
  have HOr := hide (show Calls Try.prog 17 #[.pointer (some ⟨X, 0, none⟩), .int .i64 x.t] w2.drew fun e w3 => ∃ (va' : Option Addr) (l : List Od) (vc' : Nat), e = .returned (.tuple #[.slice va' l.length vc', .int .i64 0]) ∧ Told m x.t l ∧ Kep non w' w3 ∧ ∀ i, i < l.length → ∃ b, va' = some ⟨b, 0, none⟩ ∧ ∀ i (hi : i < l.length) j u, l[i].cells[j]? = some u → w3.cell? ⟨b, i * 8 + j, none⟩ = some u from
    (Desk.orders (Desk.later HD.out k2.drew) I x.t).mono fun e w3 ⟨⟨k3, hO⟩, _⟩ => by
      rcases hO with ⟨f, _⟩ | ⟨_, v', l, hperm, hsort, hrow, rfl⟩
      · exact absurd okt f
      · obtain ⟨va', vc', rfl⟩ := row_form hrow
        refine ⟨va', l, vc', rfl, J.told hperm hsort, k2.drew.trans k3, fun i hi => ?_⟩
        obtain ⟨b, h1, _, h3⟩ := row_at hrow i hi
        exact ⟨b, h1, h3⟩)
  have cp2 := k2.cell cp (fun f => f)
  have x1 := k2.cell (HX.out 1 _ rfl) (fun f => f)
  clear hB hw2 k2 cp HBt
  have hc : (e = 0 ∧ 0 < left ∧ r = -1) ∨ (e = 0 ∧ ¬ 0 < left) ∨ (e ≠ 0 ∧ id = 0 ∧ n = 0) := by
    by_cases hz : e = 0
    · by_cases hl : 0 < left
      · exact .inl ⟨hz, hl, (HE1.out hz).1 r HB.out hl⟩
      · exact .inr (.inl ⟨hz, hl⟩)
    · exact .inr (.inr ⟨hz, (HE0.out hz).1, (HE0.out hz).2.1⟩)
  clear HB
  rcases hc with ⟨rfl, hl, rfl⟩ | ⟨rfl, hl⟩ | ⟨hz, rfl, rfl⟩
  case' inr.inr =>
    have hz' : (e != 0) = true := by simpa using hz
    have hz2 : (e == 0) = false := beq_eq_false_iff_ne.2 hz
    clear hz
  all_goals
    go_wp2_with fail
    refine best_g42 (fun l va' wx => Told m x.t l ∧ Kep non w' wx ∧ ∀ i, i < l.length → ∃ b, va' = some ⟨b, 0, none⟩ ∧ ∀ i (hi : i < l.length) j u, l[i].cells[j]? = some u → wx.cell? ⟨b, i * 8 + j, none⟩ = some u) cp2 x1 HOr.out _ _ _ _ _ _ _ _ _ _ _ _ _ _ _ _ _ _ _ _ _ _ _ _ _ _ _ _ _ _ _ _ _ _ _ _ _ _ _ _ _ _ _ _ _ _ _ _ _ _ _ _ _ _ _ _ _ _ _ _ _ _ _ _ _ _ _ _ _ _ _ _ _ _ _ _ _ _ _ _ _ _ _ _ _ _ _ _ _ _ _ _ _ _ _ _ _ _ _ _ _ _ _ _ _ _ _ _ _ _ _ _ _ _ _ _ _ _ _ _ _ _ _ _ _ _ _ _ _ _ _ _ _ _ _ _ _ _ _ _ _ _ _ _ _ _ _ _ _ _ _ _ _ _ _ _ _ _ _ _ _ _ _ _ _ _ _ _ _ _ _ _ _ _ _ _ _ _ _ _ _ _ _ _ _ _ _ _ _ _ _ _ _ _ _ _ _ _ _ _ _ _ _ _ _ _ _ _ _ _ _ _ _ _ _ _ _ _ _ _ _ _ _ _ _ _ _ _ _ _ _ _ _ _ _ _ _ _ _ _ _ _ _ _ _ _ _ _ _ _ _ _ _ _ _ _ _ _ _ _ _ _ _ _ _ _ _ _ _ _ _ _ _ _ _ _ _ _ _ _ _ _ _ _ _ _ _ _ _ _ _ _ _ _ _ _ _ _ _ _ _ _ _ _ _ _ _ _ _ _ _ _ _ _ _ _ _ _ _ _ _ _ _ _ _ _ _ _ _ _ _ _ _ _ _ _ _ _ _ _ _ _ _ _ _ _ _ _ _ _ _ _ _ _ _ _ _ _ _ _ _ _ _ _ _ _ _ _ _ _ _ _ _ _ _ _ _ _ _ _ _ _ _ _ _ _ _ _ _ _ _ _ _ _ ?_
    · intro n313 n314 n315 n316 n317 n318 n319 n320 n321 n322 va' l vc' w3 ⟨T, k3, hRow⟩
      have hl60 := told_len T I
      have HT := hide T
      have HK3 := hide k3
      have HRow := hide hRow
      clear hRow k3 T HOr x1 cp2 HD
      go_wp2
      rename_i Kx hKx
      have HKx := hide hKx
      clear hKx
      refine best_l5 hl60 HRow.out _ _ _ _ _ _ _ _ _ _ _ _ _ _ _ _ _ _ _ _ _ _ _ _ _ _ _ _ _ _ _ _ _ _ _ _ _ _ _ _ _ _ _ _ _ _ _ _ _ _ _ _ _ _ _ _ _ _ _ _ _ _ _ _ _ _ _ _ _ _ _ _ _ _ _ _ _ _ _ _ _ _ _ _ _ _ _ _ _ _ _ _ _ _ _ _ _ _ _ _ _ _ _ _ _ _ _ _ _ _ _ _ _ _ _ _ _ _ _ _ _ _ _ _ _ _ _ _ _ _ _ _ _ _ _ _ _ _ _ _ _ _ _ _ _ _ _ _ _ _ _ _ _ _ _ _ _ _ _ _ _ _ _ _ _ _ _ _ _ _ _ _ _ _ _ _ _ _ _ _ _ _ _ _ _ _ _ _ _ _ _ _ _ _ _ _ _ _ _ _ _ _ _ _ _ _ _ _ _ _ _ _ _ _ _ _ _ _ _ _ _ _ _ _ _ _ _ _ _ _ _ _ _ _ _ _ _ _ _ _ _ _ _ _ _ _ _ _ _ _ _ _ _ _ _ _ _ _ _ _ _ _ _ _ _ _ _ _ _ _ _ _ _ _ _ _ _ _ _ _ _ _ _ _ _ _ _ _ _ _ _ _ _ _ _ _ _ _ _ _ _ _ _ _ _ _ _ _ _ _ _ _ _ _ _ _ _ _ _ _ _ _ _ _ _ _ _ _ _ _ _ _ _ _ _ _ _ _ _ _ _ _ _ _ _ _ _ _ _ _ _ _ _ _ _ _ _ _ _ _ _ _ _ _ _ _ _ _ _ _ _ _ _ _ _ _ _ _ _ _ _ _ _ _ _ _ _ _ _ _ _ _ ?_
      intro n323 n324 n325 n326 n327 n328 n329 n330 n331 n332 n333 n334 n335 n336 n337 n338 n339 n340
      have x6 := HK3.out.cell (HX.out 6 _ rfl) (fun f => f)
      have x7 := HK3.out.cell (HX.out 7 _ rfl) (fun f => f)
      refine HKx.out _ _ ?_
      exact best_r4 xw x6 x7 (fun h => by first | exact (HE0.out h).2.2 | exact absurd rfl h) (fun h => by first | exact (HE1.out h).2 l HT.out | exact (HE1.out trivial).2 l HT.out) Post (fun W' k => HPost.out W' (HK3.out.trans k))

end

end Go.Proofs.Ytcfoobhihhndjaa
