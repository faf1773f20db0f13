/- Best: the loop that collects. -/
import Derived.Test.YtcfoobhihhndjaaWb
namespace Go.Proofs.Ytcfoobhihhndjaa

section
open Go.RowKit Go.Sort

/-- one that an order may trade with, its trader aside -/
def cand (x z : Od) : Bool := pfits x z && decide (z.h = x.h) && decide (z.g = x.g) && decide (z.s ≠ x.s)

set_option maxRecDepth 1000000 in
set_option maxHeartbeats 16000000 in
theorem best_l3 {w1 : World} {XB B0 : Nat} {t : Nat} {x : Od} {l TH : List Od} {va sa : Option Addr} {vc sc : Nat} (xs : x.s = 0 ∨ x.s = 1) (xt : x.t ≠ t) (hl60 : l.length ≤ 60) (hT60 : TH.length ≤ 240) (hX : ∀ j u, x.cells[j]? = some u → w1.cell? ⟨XB, j, none⟩ = some u)
    (hB : B0 ≤ w1.heap.size) (hnX : (Value.slice sa TH.length sc).ownBlock ≠ some XB) (R0 : w1.ownsRow B0 42 8 (.slice sa TH.length sc) TH.length (odCells TH))
    (hRow : ∀ i, i < l.length → ∃ b, va = some ⟨b, 0, none⟩ ∧ (Value.slice sa TH.length sc).ownBlock ≠ some b ∧ ∀ i (hi : i < l.length) j u, l[i].cells[j]? = some u → w1.cell? ⟨b, i * 8 + j, none⟩ = some u)
    (Q : Exit → Act → World → Prop) (u0 u1 u2 u3 u4 u5 u6 u7 u8 u13 u15 u16 u17 u18 u19 u20 u21 u22 u23 u24 u25 u26 u27 u28 u29 u30 u31 u32 u33 u34 u35 u36 u37 u38 u39 u40 u41 u42 u43 u44 u45 u46 u47 u48 u49 u50 u51 u52 u53 u54 u55 u56 u57 u58 u59 u60 u61 u62 u63 u64 u65 u66 u67 u68 u69 u70 u71 u72 u73 u74 u75 u76 u77 u78 u79 u80 u81 u82 u83 u84 u85 u86 u87 u88 u89 u90 u91 u92 u93 u94 u95 u96 u97 u98 u99 u100 u101 u102 u103 u104 u105 u106 u107 u108 u109 u110 u111 u112 u113 u114 u115 u116 u117 u118 u119 u120 u121 u122 u123 u124 u125 u126 u127 u128 u129 u130 u131 u132 u133 u134 u135 u136 u137 u138 u139 u140 u141 u142 u143 u144 u145 u146 u147 u148 u149 u150 u151 u152 u153 u154 u155 u156 u157 u158 u159 u160 u161 u162 u163 u164 u165 u166 u167 u168 u169 u170 u171 u172 u173 u174 u175 u176 u177 u178 u179 u180 u181 u182 u183 u184 u185 u186 u187 u188 u189 u190 u191 u192 u193 u194 u195 u196 u197 u198 u199 u200 u201 u202 u203 u204 u205 u206 u207 u208 u209 u210 u211 u212 u213 u214 u215 u216 u217 u218 u219 u220 u221 u222 u223 u224 u225 u226 u227 u228 u229 u230 u231 u232 u233 u234 u235 u236 u237 u238 u239 u240 u241 u242 u243 u244 u245 u246 u247 u248 u249 u250 u251 u252 u253 u254 u255 u256 u257 u258 u259 u260 u261 u262 u263 u264 u265 u266 u267 u268 u269 u270 u271 u272 u273 u274 u275 u276 u277 u278 u279 u280 u281 u282 u283 u284 u285 u286 u287 u288 u289 u290 u291 u292 u293 u294 u295 u296 u297 u298 u299 u300 u301 u302 u303 u304 u305 u306 u307 u308 u309 u310 u311 u312 u313 u314 u315 u316 u317 u318 u319 u320 u321 u322 u323 u324 u325 u326 u327 u328 u329 u330 u331 u332 u333 u334 u335 u336 u337 u338 u339 u340 u341 u342 u343 u344 u345 u346 u347 u348 u349 u350 u351 u352 u353 u354 u355 u356 u357 u358 u359 u360 u361 u362 u363 u364 u365 u366 u367 u368 u369 u370 u371 u372 u373 u374 u375 u376 u377 u378 u379 u380 u381 u382 u383 u384 u385 u386 u387 u388 u389 u390 u391 u392 u393 u394 : Value)
    (hE : ∀ (n15 n66 n67 n68 n69 n70 n71 n72 n73 n74 n75 n76 n77 n78 n79 n80 n81 n82 n83 n84 n85 n86 n87 n88 n89 n90 n91 n92 n93 n94 n95 n96 n97 n98 n99 n100 n101 n102 n103 n104 n105 n106 n107 n108 n109 n110 n111 n112 n113 n114 n115 n116 n117 n118 n119 n120 n121 n122 n123 n124 n125 n126 n127 n128 n129 n130 n131 n132 n133 n134 v' : Value) (W' : World), W'.ownsRow B0 42 8 v' (TH ++ l.filter (cand x)).length (odCells (TH ++ l.filter (cand x))) → Kep (fun b => (Value.slice sa TH.length sc).ownBlock = some b) w1 W' → (∀ b, v'.ownBlock = some b → (Value.slice sa TH.length sc).ownBlock = some b ∨ w1.heap.size ≤ b) → Q (.exit 4) ⟨#[u0, u1, u2, u3, u4, u5, u6, u7, u8, .pointer (some ⟨XB, 0, none⟩), v', .int .i64 t, .slice va l.length vc, u13, .int .i64 l.length, n15, u16, u17, u18, u19, u20, u21, u22, u23, u24, u25, u26, u27, u28, u29, u30, u31, u32, u33, u34, u35, u36, u37, u38, u39, u40, u41, u42, u43, u44, u45, u46, u47, u48, u49, u50, u51, u52, u53, u54, u55, u56, u57, u58, u59, u60, u61, u62, u63, u64, u65, n66, n67, n68, n69, n70, n71, n72, n73, n74, n75, n76, n77, n78, n79, n80, n81, n82, n83, n84, n85, n86, n87, n88, n89, n90, n91, n92, n93, n94, n95, n96, n97, n98, n99, n100, n101, n102, n103, n104, n105, n106, n107, n108, n109, n110, n111, n112, n113, n114, n115, n116, n117, n118, n119, n120, n121, n122, n123, n124, n125, n126, n127, n128, n129, n130, n131, n132, n133, n134, u135, u136, u137, u138, u139, u140, u141, u142, u143, u144, u145, u146, u147, u148, u149, u150, u151, u152, u153, u154, u155, u156, u157, u158, u159, u160, u161, u162, u163, u164, u165, u166, u167, u168, u169, u170, u171, u172, u173, u174, u175, u176, u177, u178, u179, u180, u181, u182, u183, u184, u185, u186, u187, u188, u189, u190, u191, u192, u193, u194, u195, u196, u197, u198, u199, u200, u201, u202, u203, u204, u205, u206, u207, u208, u209, u210, u211, u212, u213, u214, u215, u216, u217, u218, u219, u220, u221, u222, u223, u224, u225, u226, u227, u228, u229, u230, u231, u232, u233, u234, u235, u236, u237, u238, u239, u240, u241, u242, u243, u244, u245, u246, u247, u248, u249, u250, u251, u252, u253, u254, u255, u256, u257, u258, u259, u260, u261, u262, u263, u264, u265, u266, u267, u268, u269, u270, u271, u272, u273, u274, u275, u276, u277, u278, u279, u280, u281, u282, u283, u284, u285, u286, u287, u288, u289, u290, u291, u292, u293, u294, u295, u296, u297, u298, u299, u300, u301, u302, u303, u304, u305, u306, u307, u308, u309, u310, u311, u312, u313, u314, u315, u316, u317, u318, u319, u320, u321, u322, u323, u324, u325, u326, u327, u328, u329, u330, u331, u332, u333, u334, u335, u336, u337, u338, u339, u340, u341, u342, u343, u344, u345, u346, u347, u348, u349, u350, u351, u352, u353, u354, u355, u356, u357, u358, u359, u360, u361, u362, u363, u364, u365, u366, u367, u368, u369, u370, u371, u372, u373, u374, u375, u376, u377, u378, u379, u380, u381, u382, u383, u384, u385, u386, u387, u388, u389, u390, u391, u392, u393, u394], []⟩ W') :
    Code.wp Try.prog (Code.loop (loopAt Try.f4 2)) Q ⟨#[u0, u1, u2, u3, u4, u5, u6, u7, u8, .pointer (some ⟨XB, 0, none⟩), .slice sa TH.length sc, .int .i64 t, .slice va l.length vc, u13, .int .i64 0, u15, u16, u17, u18, u19, u20, u21, u22, u23, u24, u25, u26, u27, u28, u29, u30, u31, u32, u33, u34, u35, u36, u37, u38, u39, u40, u41, u42, u43, u44, u45, u46, u47, u48, u49, u50, u51, u52, u53, u54, u55, u56, u57, u58, u59, u60, u61, u62, u63, u64, u65, u66, u67, u68, u69, u70, u71, u72, u73, u74, u75, u76, u77, u78, u79, u80, u81, u82, u83, u84, u85, u86, u87, u88, u89, u90, u91, u92, u93, u94, u95, u96, u97, u98, u99, u100, u101, u102, u103, u104, u105, u106, u107, u108, u109, u110, u111, u112, u113, u114, u115, u116, u117, u118, u119, u120, u121, u122, u123, u124, u125, u126, u127, u128, u129, u130, u131, u132, u133, u134, u135, u136, u137, u138, u139, u140, u141, u142, u143, u144, u145, u146, u147, u148, u149, u150, u151, u152, u153, u154, u155, u156, u157, u158, u159, u160, u161, u162, u163, u164, u165, u166, u167, u168, u169, u170, u171, u172, u173, u174, u175, u176, u177, u178, u179, u180, u181, u182, u183, u184, u185, u186, u187, u188, u189, u190, u191, u192, u193, u194, u195, u196, u197, u198, u199, u200, u201, u202, u203, u204, u205, u206, u207, u208, u209, u210, u211, u212, u213, u214, u215, u216, u217, u218, u219, u220, u221, u222, u223, u224, u225, u226, u227, u228, u229, u230, u231, u232, u233, u234, u235, u236, u237, u238, u239, u240, u241, u242, u243, u244, u245, u246, u247, u248, u249, u250, u251, u252, u253, u254, u255, u256, u257, u258, u259, u260, u261, u262, u263, u264, u265, u266, u267, u268, u269, u270, u271, u272, u273, u274, u275, u276, u277, u278, u279, u280, u281, u282, u283, u284, u285, u286, u287, u288, u289, u290, u291, u292, u293, u294, u295, u296, u297, u298, u299, u300, u301, u302, u303, u304, u305, u306, u307, u308, u309, u310, u311, u312, u313, u314, u315, u316, u317, u318, u319, u320, u321, u322, u323, u324, u325, u326, u327, u328, u329, u330, u331, u332, u333, u334, u335, u336, u337, u338, u339, u340, u341, u342, u343, u344, u345, u346, u347, u348, u349, u350, u351, u352, u353, u354, u355, u356, u357, u358, u359, u360, u361, u362, u363, u364, u365, u366, u367, u368, u369, u370, u371, u372, u373, u374, u375, u376, u377, u378, u379, u380, u381, u382, u383, u384, u385, u386, u387, u388, u389, u390, u391, u392, u393, u394], []⟩ w1 := by
  have HRow := hide hRow
  have HX := hide hX
  have HR0 := hide R0
  have HEx := hide hE
  have HXs := hide xs
  have xt' : ((t : Int) != x.t) = true := by simp; omega
  obtain ⟨i0, hi0, hz0, hz1, hz2⟩ := info_parts infoOrder
  clear hX R0 hRow hE xs xt
  conv => arg 2; arg 1; whnf
  dsimp only
  go_loopw [10, 14] (fun v i wr => ∃ k : Nat, k ≤ l.length ∧ i = .int .i64 k ∧ wr.ownsRow B0 42 8 v (TH ++ (l.take k).filter (cand x)).length (odCells (TH ++ (l.take k).filter (cand x))) ∧ Kep (fun b => (Value.slice sa TH.length sc).ownBlock = some b) w1 wr ∧ ∀ b, v.ownBlock = some b → (Value.slice sa TH.length sc).ownBlock = some b ∨ w1.heap.size ≤ b) (fun _ i _ => l.length - (intOf i).toNat)
  case atStart => exact ⟨0, Nat.zero_le _, rfl, by simpa using HR0.out, Kep.refl _ _, fun b h => .inl h⟩
  case round =>
    clear HR0
    obtain ⟨j, hj, rfl, R, K, hv⟩ := hrel
    obtain ⟨ra, rc, rfl⟩ := row_form R
    have x1 := K.cell (HX.out 1 _ rfl) hnX
    have x2 := K.cell (HX.out 2 _ rfl) hnX
    have x3 := K.cell (HX.out 3 _ rfl) hnX
    have x4 := K.cell (HX.out 4 _ rfl) hnX
    have x5 := K.cell (HX.out 5 _ rfl) hnX
    by_cases hlj : j < l.length
    · obtain ⟨b', rfl, hbn, hc⟩ := HRow.out j hlj
      have y0 := K.cell (hc j hlj 0 _ rfl) hbn
      have y1 := K.cell (hc j hlj 1 _ rfl) hbn
      have y2 := K.cell (hc j hlj 2 _ rfl) hbn
      have y3 := K.cell (hc j hlj 3 _ rfl) hbn
      have y4 := K.cell (hc j hlj 4 _ rfl) hbn
      have y5 := K.cell (hc j hlj 5 _ rfl) hbn
      have y6 := K.cell (hc j hlj 6 _ rfl) hbn
      have y7 := K.cell (hc j hlj 7 _ rfl) hbn
      simp only [Nat.add_zero] at y0
      have hlj' : (j : Int) < (l.length : Int) := by omega
      have HTk := hide (show (l.take (j + 1)).filter (cand x) = (l.take j).filter (cand x) ++ if cand x l[j] = true then [l[j]] else [] by
        rw [List.take_add_one, List.getElem?_eq_getElem hlj, List.filter_append]
        congr 1
        by_cases e : cand x l[j] = true
        · rw [if_pos e]; simp [e]
        · rw [if_neg e]; simp [e])
      have gl : (TH ++ (l.take j).filter (cand x)).length ≤ 300 := by
        have := List.length_filter_le (cand x) (l.take j)
        have := List.length_take_le j l
        rw [List.length_append]
        omega
      have HR := hide R
      have HK := hide K
      have HV := hide hv
      clear hc R K hv
      generalize l[j] = z at *
      generalize hgs : TH ++ (l.take j).filter (cand x) = gs at *
      have HGs := hide hgs
      clear hgs
      go_wp2_with fail
      rcases HXs.out with hs | hs
      · rw [hs] at x4
        go_quiet (fail)
        go_wp2_with fail
        generalize hfb : decide (z.p ≤ x.p) = fb
        go_cut [127] from 97 to 127 (fun v127 wx => v127 = .bool (cand x z) ∧ Kep non wr wx)
        case first =>
          clear HEx HRow HX HR HK HV HTk HGs y0 y1 y6 y7 x1 xt' hi0 hz0 hz1 hz2
          by_cases f1 : z.p ≤ x.p
          · have d1 : fb = true := by rw [← hfb]; exact decide_eq_true f1
            subst d1
            by_cases f2 : z.h = x.h
            · rw [f2] at y2
              by_cases f3 : z.g = x.g
              · rw [f3] at y3
                by_cases f4 : z.s = 0
                · rw [f4] at y4
                  have HC := hide (show cand x z = false by unfold cand; rw [hs, f4]; simp)
                  clear f1 f2 f3 f4 hs
                  go_quiet (fail)
                  go_wp2
                  go_meet
                  exact ⟨by rw [HC.out], by (repeat (first | apply Kep.drewN | apply Kep.drew)); exact Kep.refl _ _⟩
                · have d4 : (z.s != 0) = true := by simpa using f4
                  have HC := hide (show cand x z = true by unfold cand pfits; simp [hs, f1, f2, f3, f4])
                  clear f1 f2 f3 f4 hs
                  go_quiet (fail)
                  go_wp2
                  go_meet
                  exact ⟨by rw [HC.out], by (repeat (first | apply Kep.drewN | apply Kep.drew)); exact Kep.refl _ _⟩
              · have d3 : (z.g == x.g) = false := beq_eq_false_iff_ne.2 f3
                have HC := hide (show cand x z = false by unfold cand; simp [f3])
                clear f1 f2 f3 hs
                go_quiet (fail)
                go_wp2
                go_meet
                exact ⟨by rw [HC.out], by (repeat (first | apply Kep.drewN | apply Kep.drew)); exact Kep.refl _ _⟩
            · have d2 : (z.h == x.h) = false := beq_eq_false_iff_ne.2 f2
              have HC := hide (show cand x z = false by unfold cand; simp [f2])
              clear f1 f2 hs
              go_quiet (fail)
              go_wp2
              go_meet
              exact ⟨by rw [HC.out], by (repeat (first | apply Kep.drewN | apply Kep.drew)); exact Kep.refl _ _⟩
          · have d1 : fb = false := by rw [← hfb]; exact decide_eq_false f1
            subst d1
            have HC := hide (show cand x z = false by unfold cand pfits; simp [hs, f1])
            clear f1 hs
            go_quiet (fail)
            go_wp2
            go_meet
            exact ⟨by rw [HC.out], by (repeat (first | apply Kep.drewN | apply Kep.drew)); exact Kep.refl _ _⟩
        case rest =>
          obtain ⟨rfl, k5⟩ := hcut
          have n0 : ∀ b, ¬ non b := fun _ f => f
          have R5 := hide (ownsRow_kep HR.out k5 (fun _ _ => n0 _))
          have K5 := hide (HK.out.trans k5.none)
          have q0 := k5.cell y0 (n0 _)
          have q1 := k5.cell y1 (n0 _)
          have q2 := k5.cell y2 (n0 _)
          have q3 := k5.cell y3 (n0 _)
          have q4 := k5.cell y4 (n0 _)
          have q5 := k5.cell y5 (n0 _)
          have q6 := k5.cell y6 (n0 _)
          have q7 := k5.cell y7 (n0 _)
          clear y0 y1 y2 y3 y4 y5 y6 y7 x1 x2 x3 x4 x5 HR HK k5 HX HRow
          by_cases hcd : cand x z = true
          · have HE3 : Hid (gs ++ [z] = TH ++ (l.take (j + 1)).filter (cand x)) := hide (by rw [HTk.out, if_pos hcd, ← List.append_assoc, HGs.out])
            have lW := K5.out.size
            rw [hcd]
            clear HTk HGs hcd HEx
            go_wp2_with (at_builtin; refine wpList_append_lies _ rfl _ _ _ rfl B0 42 i0 _ 8 64 Try.underlying44 hi0 hz0 hz1 hz2 rfl (by omega) _ gs.length (odCells gs) rfl (by exact R5.out.alloc _) ⟨wc.heap.size, 0, none⟩ 1 1 (Od.cells z) rfl rfl (by exact news_of_last' #[_, _, _, _, _, _, _, _] 42 (by simp)) (Od.oneCell' _) (by omega) (by simp only [maxLen]; omega) (by omega) (by simp; omega) (wc.heap.size + 1) (by simp) ?_)
            intro gg cap w2 hown1 hgrow hat hlt1
            have HK1 := hide ((K5.out.alloc _).grown hgrow (fun b hb => HV.out b hb))
            have HR1 := hide hown1
            have HV1 := hide (show ∀ b, (Value.slice (some ⟨gg, 0, none⟩) (gs.length + 1) cap).ownBlock = some b → (Value.slice sa TH.length sc).ownBlock = some b ∨ w1.heap.size ≤ b from fun b hb => by
              have e : gg = b := by simpa [Value.ownBlock] using hb
              subst e
              rcases hat with h | h
              · exact HV.out _ h
              · exact .inr (by omega))
            clear hown1 hgrow hat
            go_wp2
            exact ⟨⟨j + 1, by omega, by go_num, by rw [← HE3.out, odCells_append]; simpa [odCells] using HR1.out, HK1.out, by simpa using HV1.out⟩, by simp [intOf]; omega⟩
          · have hcf : cand x z = false := by simpa using hcd
            have HE3 : Hid (gs = TH ++ (l.take (j + 1)).filter (cand x)) := hide (by rw [HTk.out, if_neg hcd, List.append_nil, HGs.out])
            rw [hcf]
            clear HTk HGs hcd hcf HEx
            go_wp2
            exact ⟨⟨j + 1, by omega, by go_num, by rw [← HE3.out]; exact R5.out, K5.out, HV.out⟩, by simp [intOf]; omega⟩
      · rw [hs] at x4
        go_quiet (fail)
        go_wp2_with fail
        go_quiet (fail)
        go_wp2_with fail
        generalize hfb : decide (x.p ≤ z.p) = fb
        go_cut [127] from 97 to 127 (fun v127 wx => v127 = .bool (cand x z) ∧ Kep non wr wx)
        case first =>
          clear HEx HRow HX HR HK HV HTk HGs y0 y1 y6 y7 x1 xt' hi0 hz0 hz1 hz2
          by_cases f1 : x.p ≤ z.p
          · have d1 : fb = true := by rw [← hfb]; exact decide_eq_true f1
            subst d1
            by_cases f2 : z.h = x.h
            · rw [f2] at y2
              by_cases f3 : z.g = x.g
              · rw [f3] at y3
                by_cases f4 : z.s = 1
                · rw [f4] at y4
                  have HC := hide (show cand x z = false by unfold cand; rw [hs, f4]; simp)
                  clear f1 f2 f3 f4 hs
                  go_quiet (fail)
                  go_wp2
                  go_meet
                  exact ⟨by rw [HC.out], by (repeat (first | apply Kep.drewN | apply Kep.drew)); exact Kep.refl _ _⟩
                · have d4 : (z.s != 1) = true := by simpa using f4
                  have HC := hide (show cand x z = true by unfold cand pfits; simp [hs, f1, f2, f3, f4])
                  clear f1 f2 f3 f4 hs
                  go_quiet (fail)
                  go_wp2
                  go_meet
                  exact ⟨by rw [HC.out], by (repeat (first | apply Kep.drewN | apply Kep.drew)); exact Kep.refl _ _⟩
              · have d3 : (z.g == x.g) = false := beq_eq_false_iff_ne.2 f3
                have HC := hide (show cand x z = false by unfold cand; simp [f3])
                clear f1 f2 f3 hs
                go_quiet (fail)
                go_wp2
                go_meet
                exact ⟨by rw [HC.out], by (repeat (first | apply Kep.drewN | apply Kep.drew)); exact Kep.refl _ _⟩
            · have d2 : (z.h == x.h) = false := beq_eq_false_iff_ne.2 f2
              have HC := hide (show cand x z = false by unfold cand; simp [f2])
              clear f1 f2 hs
              go_quiet (fail)
              go_wp2
              go_meet
              exact ⟨by rw [HC.out], by (repeat (first | apply Kep.drewN | apply Kep.drew)); exact Kep.refl _ _⟩
          · have d1 : fb = false := by rw [← hfb]; exact decide_eq_false f1
            subst d1
            have HC := hide (show cand x z = false by unfold cand pfits; simp [hs, f1])
            clear f1 hs
            go_quiet (fail)
            go_wp2
            go_meet
            exact ⟨by rw [HC.out], by (repeat (first | apply Kep.drewN | apply Kep.drew)); exact Kep.refl _ _⟩
        case rest =>
          obtain ⟨rfl, k5⟩ := hcut
          have n0 : ∀ b, ¬ non b := fun _ f => f
          have R5 := hide (ownsRow_kep HR.out k5 (fun _ _ => n0 _))
          have K5 := hide (HK.out.trans k5.none)
          have q0 := k5.cell y0 (n0 _)
          have q1 := k5.cell y1 (n0 _)
          have q2 := k5.cell y2 (n0 _)
          have q3 := k5.cell y3 (n0 _)
          have q4 := k5.cell y4 (n0 _)
          have q5 := k5.cell y5 (n0 _)
          have q6 := k5.cell y6 (n0 _)
          have q7 := k5.cell y7 (n0 _)
          clear y0 y1 y2 y3 y4 y5 y6 y7 x1 x2 x3 x4 x5 HR HK k5 HX HRow
          by_cases hcd : cand x z = true
          · have HE3 : Hid (gs ++ [z] = TH ++ (l.take (j + 1)).filter (cand x)) := hide (by rw [HTk.out, if_pos hcd, ← List.append_assoc, HGs.out])
            have lW := K5.out.size
            rw [hcd]
            clear HTk HGs hcd HEx
            go_wp2_with (at_builtin; refine wpList_append_lies _ rfl _ _ _ rfl B0 42 i0 _ 8 64 Try.underlying44 hi0 hz0 hz1 hz2 rfl (by omega) _ gs.length (odCells gs) rfl (by exact R5.out.alloc _) ⟨wc.heap.size, 0, none⟩ 1 1 (Od.cells z) rfl rfl (by exact news_of_last' #[_, _, _, _, _, _, _, _] 42 (by simp)) (Od.oneCell' _) (by omega) (by simp only [maxLen]; omega) (by omega) (by simp; omega) (wc.heap.size + 1) (by simp) ?_)
            intro gg cap w2 hown1 hgrow hat hlt1
            have HK1 := hide ((K5.out.alloc _).grown hgrow (fun b hb => HV.out b hb))
            have HR1 := hide hown1
            have HV1 := hide (show ∀ b, (Value.slice (some ⟨gg, 0, none⟩) (gs.length + 1) cap).ownBlock = some b → (Value.slice sa TH.length sc).ownBlock = some b ∨ w1.heap.size ≤ b from fun b hb => by
              have e : gg = b := by simpa [Value.ownBlock] using hb
              subst e
              rcases hat with h | h
              · exact HV.out _ h
              · exact .inr (by omega))
            clear hown1 hgrow hat
            go_wp2
            exact ⟨⟨j + 1, by omega, by go_num, by rw [← HE3.out, odCells_append]; simpa [odCells] using HR1.out, HK1.out, by simpa using HV1.out⟩, by simp [intOf]; omega⟩
          · have hcf : cand x z = false := by simpa using hcd
            have HE3 : Hid (gs = TH ++ (l.take (j + 1)).filter (cand x)) := hide (by rw [HTk.out, if_neg hcd, List.append_nil, HGs.out])
            rw [hcf]
            clear HTk HGs hcd hcf HEx
            go_wp2
            exact ⟨⟨j + 1, by omega, by go_num, by rw [← HE3.out]; exact R5.out, K5.out, HV.out⟩, by simp [intOf]; omega⟩
    · have hjl : j = l.length := by omega
      have HR := hide R
      have HK := hide K
      have HV := hide hv
      have hge : TH ++ (l.take j).filter (cand x) = TH ++ l.filter (cand x) := by rw [hjl, List.take_length]
      rw [hge] at HR HV
      rw [hge]
      generalize hgs : TH ++ l.filter (cand x) = gs at *
      have HGs := hide hgs
      clear hgs hge
      have hlj' : ¬ (j : Int) < (l.length : Int) := by omega
      clear R K hv HRow HX x2 x3 x4 x5
      go_wp2
      (try rw [hjl])
      exact HEx.out _ _ _ _ _ _ _ _ _ _ _ _ _ _ _ _ _ _ _ _ _ _ _ _ _ _ _ _ _ _ _ _ _ _ _ _ _ _ _ _ _ _ _ _ _ _ _ _ _ _ _ _ _ _ _ _ _ _ _ _ _ _ _ _ _ _ _ _ _ _ _ _ HR.out HK.out HV.out

end

end Go.Proofs.Ytcfoobhihhndjaa
