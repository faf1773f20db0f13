import Derived.Test.YtcfoobhihhndjaaBb
/- Best: the loop over trades. -/
namespace Go.Proofs.Ytcfoobhihhndjaa

section
open Go.RowKit Go.Sort

def feeOf (rt : Int) (a : Int) : Int := a * rt / 10000

set_option maxRecDepth 1000000 in
set_option maxHeartbeats 16000000 in
theorem best_l4 {W0 : World} {d XB TB rb h s nr cr : Nat} {x : Od} {id ho rt : Int} {ts : List Td} {TH : List Od} {va ta : Option Addr} {vc tc : Nat} (s2 : s < 2) (es : x.s = s) (hh : h < nr) (hrt : 0 ≤ rt ∧ rt ≤ 100) (hho : 0 ≤ ho ∧ ho ≤ 1000000000000) (hxq : 0 ≤ x.q ∧ x.q ≤ 10000)
    (hts : ts.length ≤ 60) (hTH : TH.length ≤ 300) (hsd : ∀ o ∈ TH, o.s = otherS s) (hid : TH.Pairwise fun a b => a.id ≠ b.id) (hbd : ∀ o ∈ TH, (1 ≤ o.p ∧ o.p ≤ 100000) ∧ (1 ≤ o.q ∧ o.q ≤ 10000))
    (hva : 0 < TH.length → va = some ⟨TB, 0, none⟩) (A0 : ThAt W0 TB TH W0) (S0 : BSim (feeOf rt) s x id ts 0 TH x.q ho ho)
    (hX : W0.cell? ⟨XB, 2, none⟩ = some (.int .i64 h)) (hnX : XB ≠ TB) (hr : W0.cell? ⟨d, 3, none⟩ = some (.slice (some ⟨rb, 0, none⟩) nr cr)) (hnd : d ≠ TB) (hrr : W0.cell? ⟨rb, h, none⟩ = some (.int .i64 rt)) (hnr : rb ≠ TB)
    (hTr : ∀ i, i < ts.length → ∃ b, ta = some ⟨b, 0, none⟩ ∧ b ≠ TB ∧ ∀ i (hi : i < ts.length) j u, ts[i].cells[j]? = some u → W0.cell? ⟨b, i * 6 + j, none⟩ = some u)
    (Q : Exit → Act → World → Prop) (u0 u1 u2 u3 u4 u5 u6 u8 u11 u12 u13 u14 u15 u19 u22 u23 u24 u25 u26 u27 u28 u29 u30 u31 u32 u33 u34 u35 u36 u37 u38 u39 u40 u41 u42 u43 u44 u45 u46 u47 u48 u49 u50 u51 u52 u53 u54 u55 u56 u57 u58 u59 u60 u61 u62 u63 u64 u65 u66 u67 u68 u69 u70 u71 u72 u73 u74 u75 u76 u77 u78 u79 u80 u81 u82 u83 u84 u85 u86 u87 u88 u89 u90 u91 u92 u93 u94 u95 u96 u97 u98 u99 u100 u101 u102 u103 u104 u105 u106 u107 u108 u109 u110 u111 u112 u113 u114 u115 u116 u117 u118 u119 u120 u121 u122 u123 u124 u125 u126 u127 u128 u129 u130 u131 u132 u133 u134 u135 u136 u137 u138 u139 u140 u141 u142 u143 u144 u145 u146 u147 u148 u149 u150 u151 u152 u153 u154 u155 u156 u157 u158 u159 u160 u161 u162 u163 u164 u165 u166 u167 u168 u169 u170 u171 u172 u173 u174 u175 u176 u177 u178 u179 u180 u181 u182 u183 u184 u185 u186 u187 u188 u189 u190 u191 u192 u193 u194 u195 u196 u197 u198 u199 u200 u201 u202 u203 u204 u205 u206 u207 u208 u209 u210 u211 u212 u213 u214 u215 u216 u217 u218 u219 u220 u221 u222 u223 u224 u225 u226 u227 u228 u229 u230 u231 u232 u233 u234 u235 u236 u237 u238 u239 u240 u241 u242 u243 u244 u245 u246 u247 u248 u249 u250 u251 u252 u253 u254 u255 u256 u257 u258 u259 u260 u261 u262 u263 u264 u265 u266 u267 u268 u269 u270 u271 u272 u273 u274 u275 u276 u277 u278 u279 u280 u281 u282 u283 u284 u285 u286 u287 u288 u289 u290 u291 u292 u293 u294 u295 u296 u297 u298 u299 u300 u301 u302 u303 u304 u305 u306 u307 u308 u309 u310 u311 u312 u313 u314 u315 u316 u317 u318 u319 u320 u321 u322 u323 u324 u325 u326 u327 u328 u329 u330 u331 u332 u333 u334 u335 u336 u337 u338 u339 u340 u341 u342 u343 u344 u345 u346 u347 u348 u349 u350 u351 u352 u353 u354 u355 u356 u357 u358 u359 u360 u361 u362 u363 u364 u365 u366 u367 u368 u369 u370 u371 u372 u373 u374 u375 u376 u377 u378 u379 u380 u381 u382 u383 u384 u385 u386 u387 u388 u389 u390 u391 u392 u393 u394 : Value)
    (hE : ∀ (n6 n22 n23 n152 n153 n154 n155 n156 n157 n158 n159 n160 n161 n162 n163 n164 n165 n166 n167 n168 n169 n170 n171 n172 n173 n174 n175 n176 n177 n178 n179 n180 n181 n182 n183 n184 n185 n186 n187 n188 n189 n190 n191 n192 n193 n194 n195 n196 n197 n198 n199 n200 n201 n202 n203 n204 n205 n206 n207 n208 n209 n210 n211 n212 n213 n214 n215 n216 n217 n218 n219 n220 n221 n222 n223 n224 n225 n226 n227 n228 n229 n230 n231 n232 n233 n234 n235 n236 n237 n238 n239 n240 n241 n242 n243 n244 n245 n246 n247 n248 n249 n250 n251 n252 n253 n254 n255 n256 n257 n258 n259 n260 n261 n262 n263 n264 n265 n266 n267 n268 n269 n270 n271 n272 n273 n274 n275 n276 n277 : Value) (fees left : Int) (TH' : List Od) (W' : World), TH'.length = TH.length → TH'.map Od.key = TH.map Od.key → ThAt W0 TB TH' W' → BSim (feeOf rt) s x id ts ts.length TH' left fees ho → Q (.exit 6) ⟨#[u0, u1, u2, u3, u4, u5, n6, .pointer (some ⟨d, 0, none⟩), u8, .pointer (some ⟨XB, 0, none⟩), .slice va TH.length vc, u11, u12, u13, u14, u15, .int .i64 fees, .int .i64 id, .slice ta ts.length tc, u19, .int .i64 left, .int .i64 ts.length, n22, n23, u24, u25, u26, u27, u28, u29, u30, u31, u32, u33, u34, u35, u36, u37, u38, u39, u40, u41, u42, u43, u44, u45, u46, u47, u48, u49, u50, u51, u52, u53, u54, u55, u56, u57, u58, u59, u60, u61, u62, u63, u64, u65, u66, u67, u68, u69, u70, u71, u72, u73, u74, u75, u76, u77, u78, u79, u80, u81, u82, u83, u84, u85, u86, u87, u88, u89, u90, u91, u92, u93, u94, u95, u96, u97, u98, u99, u100, u101, u102, u103, u104, u105, u106, u107, u108, u109, u110, u111, u112, u113, u114, u115, u116, u117, u118, u119, u120, u121, u122, u123, u124, u125, u126, u127, u128, u129, u130, u131, u132, u133, u134, u135, u136, u137, u138, u139, u140, u141, u142, u143, u144, u145, u146, u147, u148, u149, u150, u151, n152, n153, n154, n155, n156, n157, n158, n159, n160, n161, n162, n163, n164, n165, n166, n167, n168, n169, n170, n171, n172, n173, n174, n175, n176, n177, n178, n179, n180, n181, n182, n183, n184, n185, n186, n187, n188, n189, n190, n191, n192, n193, n194, n195, n196, n197, n198, n199, n200, n201, n202, n203, n204, n205, n206, n207, n208, n209, n210, n211, n212, n213, n214, n215, n216, n217, n218, n219, n220, n221, n222, n223, n224, n225, n226, n227, n228, n229, n230, n231, n232, n233, n234, n235, n236, n237, n238, n239, n240, n241, n242, n243, n244, n245, n246, n247, n248, n249, n250, n251, n252, n253, n254, n255, n256, n257, n258, n259, n260, n261, n262, n263, n264, n265, n266, n267, n268, n269, n270, n271, n272, n273, n274, n275, n276, n277, u278, u279, u280, u281, u282, u283, u284, u285, u286, u287, u288, u289, u290, u291, u292, u293, u294, u295, u296, u297, u298, u299, u300, u301, u302, u303, u304, u305, u306, u307, u308, u309, u310, u311, u312, u313, u314, u315, u316, u317, u318, u319, u320, u321, u322, u323, u324, u325, u326, u327, u328, u329, u330, u331, u332, u333, u334, u335, u336, u337, u338, u339, u340, u341, u342, u343, u344, u345, u346, u347, u348, u349, u350, u351, u352, u353, u354, u355, u356, u357, u358, u359, u360, u361, u362, u363, u364, u365, u366, u367, u368, u369, u370, u371, u372, u373, u374, u375, u376, u377, u378, u379, u380, u381, u382, u383, u384, u385, u386, u387, u388, u389, u390, u391, u392, u393, u394], []⟩ W') :
    Code.wp Try.prog (Code.loop (loopAt Try.f4 3)) Q ⟨#[u0, u1, u2, u3, u4, u5, u6, .pointer (some ⟨d, 0, none⟩), u8, .pointer (some ⟨XB, 0, none⟩), .slice va TH.length vc, u11, u12, u13, u14, u15, .int .i64 ho, .int .i64 id, .slice ta ts.length tc, u19, .int .i64 x.q, .int .i64 0, u22, u23, u24, u25, u26, u27, u28, u29, u30, u31, u32, u33, u34, u35, u36, u37, u38, u39, u40, u41, u42, u43, u44, u45, u46, u47, u48, u49, u50, u51, u52, u53, u54, u55, u56, u57, u58, u59, u60, u61, u62, u63, u64, u65, u66, u67, u68, u69, u70, u71, u72, u73, u74, u75, u76, u77, u78, u79, u80, u81, u82, u83, u84, u85, u86, u87, u88, u89, u90, u91, u92, u93, u94, u95, u96, u97, u98, u99, u100, u101, u102, u103, u104, u105, u106, u107, u108, u109, u110, u111, u112, u113, u114, u115, u116, u117, u118, u119, u120, u121, u122, u123, u124, u125, u126, u127, u128, u129, u130, u131, u132, u133, u134, u135, u136, u137, u138, u139, u140, u141, u142, u143, u144, u145, u146, u147, u148, u149, u150, u151, u152, u153, u154, u155, u156, u157, u158, u159, u160, u161, u162, u163, u164, u165, u166, u167, u168, u169, u170, u171, u172, u173, u174, u175, u176, u177, u178, u179, u180, u181, u182, u183, u184, u185, u186, u187, u188, u189, u190, u191, u192, u193, u194, u195, u196, u197, u198, u199, u200, u201, u202, u203, u204, u205, u206, u207, u208, u209, u210, u211, u212, u213, u214, u215, u216, u217, u218, u219, u220, u221, u222, u223, u224, u225, u226, u227, u228, u229, u230, u231, u232, u233, u234, u235, u236, u237, u238, u239, u240, u241, u242, u243, u244, u245, u246, u247, u248, u249, u250, u251, u252, u253, u254, u255, u256, u257, u258, u259, u260, u261, u262, u263, u264, u265, u266, u267, u268, u269, u270, u271, u272, u273, u274, u275, u276, u277, u278, u279, u280, u281, u282, u283, u284, u285, u286, u287, u288, u289, u290, u291, u292, u293, u294, u295, u296, u297, u298, u299, u300, u301, u302, u303, u304, u305, u306, u307, u308, u309, u310, u311, u312, u313, u314, u315, u316, u317, u318, u319, u320, u321, u322, u323, u324, u325, u326, u327, u328, u329, u330, u331, u332, u333, u334, u335, u336, u337, u338, u339, u340, u341, u342, u343, u344, u345, u346, u347, u348, u349, u350, u351, u352, u353, u354, u355, u356, u357, u358, u359, u360, u361, u362, u363, u364, u365, u366, u367, u368, u369, u370, u371, u372, u373, u374, u375, u376, u377, u378, u379, u380, u381, u382, u383, u384, u385, u386, u387, u388, u389, u390, u391, u392, u393, u394], []⟩ W0 := by
  have HTr := hide hTr
  have HA0 := hide A0
  have HS0 := hide S0
  have HEx := hide hE
  have HSd := hide hsd
  have HId := hide hid
  have HBd := hide hbd
  have HX := hide hX
  have HRt := hide hr
  have HRr := hide hrr
  have HVa := hide hva
  clear hTr A0 S0 hE hsd hid hbd hX hr hrr hva
  conv => arg 2; arg 1; whnf
  dsimp only
  go_loopw [16, 20, 21] (fun f lf i wr => ∃ (k : Nat) (fees left : Int) (TH' : List Od), k ≤ ts.length ∧ f = .int .i64 fees ∧ lf = .int .i64 left ∧ i = .int .i64 k ∧ (0 ≤ left ∧ left ≤ 10000) ∧ (0 ≤ fees ∧ fees ≤ 1000000000000 + 100000000 * (k : Int)) ∧ TH'.length = TH.length ∧ TH'.map Od.key = TH.map Od.key ∧ (∀ o ∈ TH', (1 ≤ o.p ∧ o.p ≤ 100000) ∧ (0 ≤ o.q ∧ o.q ≤ 10000)) ∧ ThAt W0 TB TH' wr ∧ BSim (feeOf rt) s x id ts k TH' left fees ho) (fun _ _ i _ => ts.length - (intOf i).toNat)
  case atStart => exact ⟨0, ho, x.q, TH, Nat.zero_le _, rfl, rfl, rfl, hxq, by omega, rfl, rfl, fun o hm => ⟨(HBd.out o hm).1, by have := (HBd.out o hm).2; omega⟩, HA0.out, HS0.out⟩
  case round =>
    clear HA0 HS0
    obtain ⟨j, fees, left, TH', hj, rfl, rfl, rfl, ⟨bl1, bl2⟩, ⟨bf1, bf2⟩, hlen, hkey, hbd', A, S⟩ := hrel
    by_cases hlj : j < ts.length
    · have hlj' : (j : Int) < (ts.length : Int) := by omega
      have hBt := hide (better_any wr (otherS s) (by unfold otherS; split <;> omega) TH' va vc (by omega) (keys_sides hkey HSd.out) (keys_ids hkey HId.out) (fun i hi => ⟨TB, HVa.out (by omega), fun i hi j u hu => (A.row i hi j u hu).cell⟩))
      rw [hlen] at hBt
      have HA := hide A
      have HS := hide S
      have HBd' := hide hbd'
      clear A S hbd'
      go_wp2_with fail
      refine hBt.out.mono ?_
      rintro e w2 ⟨r, hB, rfl, nn, hw2⟩
      obtain ⟨k, z, rfl, hz, hzq, hl0, htd, S'⟩ := HS.out.step s2 es hlj hB
      have k2 : Kep non wr w2 := by rw [hw2]; exact (Kep.refl _ _).drewN nn
      have A2 := HA.out.later k2
      obtain ⟨hk, ez⟩ := List.getElem?_eq_some_iff.1 hz
      obtain ⟨⟨bp1, bp2⟩, ⟨bq1, bq2⟩⟩ := HBd'.out z (List.mem_of_getElem? hz)
      obtain ⟨tb, hta, htn, hcT⟩ := HTr.out j hlj
      subst hta
      have nn0 : ∀ b, ¬ non b := fun _ f => f
      have t0 := k2.cell (HA.out.kp.cell (hcT j hlj 0 (.int .i64 id) (by rw [htd]; rfl)) htn) (nn0 _)
      have t1 := k2.cell (HA.out.kp.cell (hcT j hlj 1 (.int .i64 z.id) (by rw [htd]; rfl)) htn) (nn0 _)
      have t2 := k2.cell (HA.out.kp.cell (hcT j hlj 2 (.int .i64 z.t) (by rw [htd]; rfl)) htn) (nn0 _)
      have t3 := k2.cell (HA.out.kp.cell (hcT j hlj 3 (.int .i64 z.p) (by rw [htd]; rfl)) htn) (nn0 _)
      have t4 := k2.cell (HA.out.kp.cell (hcT j hlj 4 (.int .i64 (min left z.q)) (by rw [htd]; rfl)) htn) (nn0 _)
      have t5 := k2.cell (HA.out.kp.cell (hcT j hlj 5 (.int .i64 (feeOf rt (z.p * min left z.q))) (by rw [htd]; rfl)) htn) (nn0 _)
      simp only [Nat.add_zero] at t0
      have a0 := (A2.row k hk 0 (.int .i64 z.id) (by rw [ez]; rfl)).cell
      have a1 := (A2.row k hk 1 (.int .i64 z.t) (by rw [ez]; rfl)).cell
      have a5 := (A2.row k hk 5 (.int .i64 z.p) (by rw [ez]; rfl)).cell
      have a6 := A2.row k hk 6 (.int .i64 z.q) (by rw [ez]; rfl)
      obtain ⟨a6c, a6f⟩ := a6
      simp only [Nat.add_zero] at a0
      have x2 := k2.cell (HA.out.kp.cell HX.out hnX) (nn0 _)
      have r3 := k2.cell (HA.out.kp.cell HRt.out hnd) (nn0 _)
      have rr := k2.cell (HA.out.kp.cell HRr.out hnr) (nn0 _)
      have hva := HVa.out (by omega)
      subst hva
      have hf : ts[j].f = feeOf rt (z.p * min left z.q) := by rw [htd]; rfl
      rw [hf] at S'
      have HA2 := hide (fun V (kV : Kep non w2 V) => (A2.later kV).put hz (z.q - min left z.q))
      have HKy := hide (keys_set hz (z.q - min left z.q))
      have HS' := hide S'
      have hk' : (k : Int) < (TH.length : Int) := by omega
      have dk : decide ((k : Int) < 0) = false := decide_eq_false (by omega)
      have hh' : (h : Int) < (nr : Int) := by omega
      obtain ⟨n, hn⟩ : ∃ n, min left z.q = n := ⟨_, rfl⟩
      have HMin : Hid ((left ≤ z.q ∧ left = n) ∨ (¬ left ≤ z.q ∧ z.q = n)) := hide (by omega)
      rw [hn] at t4 t5 HS' HA2 HKy
      have bn : 1 ≤ n ∧ n ≤ left ∧ n ≤ z.q := by omega
      have HMn := hide hn
      clear hn hf htd hcT A2 hz ez hk S' hB HA HS hBt hw2 hlj HTr HX HRt HRr HVa HSd HId HBd
      go_wp2_with fail
      simp only [List.append]
      go_cut [224] from 160 to 224 (fun v224 wx => v224 = .bool false ∧ Kep non w2 wx)
      case first =>
        clear HEx HS' HA2 HKy t5 r3 rr x2 a6f k2 HMin
        rw [← HMn.out] at t4
        clear HMn
        go_quiet (fail)
        go_wp2
        go_meet
        exact ⟨by simp, by (repeat (first | apply Kep.drewN | apply Kep.drew)); exact Kep.refl _ _⟩
      case rest =>
        obtain ⟨rfl, k3⟩ := hcut
        have y3 := k3.cell t3 (nn0 _)
        have y4 := k3.cell t4 (nn0 _)
        have y5 := k3.cell t5 (nn0 _)
        have yx := k3.cell x2 (nn0 _)
        have yr := k3.cell r3 (nn0 _)
        have yrr := k3.cell rr (nn0 _)
        have HA3 := hide (fun V (kV : Kep non wc V) => HA2.out V (k3.trans kV))
        have pq := mul_le' (a := z.p) (b := n) (A := 100000) (B := 10000) (by omega) bp2 (by omega) (by omega)
        obtain ⟨pq0, pq1⟩ := pq
        have pr := mul_le' (a := z.p * n) (b := rt) (A := 1000000000) (B := 100) pq0 (by omega) hrt.1 hrt.2
        obtain ⟨pr0, pr1⟩ := pr
        have HFee := hide (show (z.p * n * rt).tdiv 10000 = feeOf rt (z.p * n) by unfold feeOf; exact Int.tdiv_eq_ediv_of_nonneg pr0)
        have HFb := hide (show 0 ≤ feeOf rt (z.p * n) ∧ feeOf rt (z.p * n) ≤ 100000000 by unfold feeOf; omega)
        have a6w := (Own.mk a6c a6f).kep k3 (nn0 _)
        obtain ⟨b6c, b6f⟩ := a6w
        clear t0 t1 t2 t3 t4 t5 a0 a1 a5 x2 r3 rr k2 k3 HA2 a6c a6f HEx HMin dk HMn
        go_wp2_with fail
        go_quiet (fail)
        rw [show z.p * n * rt / 10000 = feeOf rt (z.p * n) from rfl]
        obtain ⟨V6, hV6, k6⟩ : ∃ V6, V6 = (wc.drewN nq).drew ∧ Kep non wc V6 := ⟨_, rfl, ((Kep.refl _ _).drewN nq).drew⟩
        obtain ⟨z6c, z6f⟩ := (Own.mk b6c b6f).kep k6 (nn0 _)
        have z4 := k6.cell y4 (nn0 _)
        have HA6 := hide (HA3.out V6 k6)
        have HV6 := hide hV6
        obtain ⟨fb0, fb1⟩ := HFb.out
        have HL := hide (show (TH'.set k { z with q := z.q - n }).length = TH.length by rw [List.length_set]; exact hlen)
        have HK2 := hide (HKy.out.trans hkey)
        have HB2 := hide (show ∀ o ∈ TH'.set k { z with q := z.q - n }, (1 ≤ o.p ∧ o.p ≤ 100000) ∧ (0 ≤ o.q ∧ o.q ≤ 10000) from fun o ho => by
          rcases List.mem_or_eq_of_mem_set ho with h1 | h1
          · exact HBd'.out o h1
          · subst h1
            exact ⟨⟨bp1, bp2⟩, by show 0 ≤ z.q - n ∧ z.q - n ≤ 10000; omega⟩)
        clear HFee HFb b6c b6f hV6 k6 HA3 HKy HBd' pr0 pr1 pq0 pq1 hkey hlen
        generalize feeOf rt (z.p * n) = fe at *
        go_wp2_with fail
        refine region_tail 15 (by kernel_rfl) (by kernel_rfl) V6 HV6.out ?_
        simp only [List.take_succ_cons, List.take_zero, List.drop_succ_cons, List.drop_zero]
        repeat still_step
        refine wpStill_nil ?_
        go_wp2
        exact ⟨⟨j + 1, fees + fe, left - n, _, by omega, rfl, rfl, by go_num, by omega, by rw [Int.natCast_add]; omega, HL.out, HK2.out, HB2.out, HA6.out, HS'.out⟩, by simp [intOf]; omega⟩
    · have hjl : j = ts.length := by omega
      have HA := hide A
      have HS := hide S
      rw [hjl] at HS
      have hlj' : ¬ (j : Int) < (ts.length : Int) := by omega
      clear A S
      go_wp2
      (try rw [hjl])
      exact HEx.out _ _ _ _ _ _ _ _ _ _ _ _ _ _ _ _ _ _ _ _ _ _ _ _ _ _ _ _ _ _ _ _ _ _ _ _ _ _ _ _ _ _ _ _ _ _ _ _ _ _ _ _ _ _ _ _ _ _ _ _ _ _ _ _ _ _ _ _ _ _ _ _ _ _ _ _ _ _ _ _ _ _ _ _ _ _ _ _ _ _ _ _ _ _ _ _ _ _ _ _ _ _ _ _ _ _ _ _ _ _ _ _ _ _ _ _ _ _ _ _ _ _ _ _ _ _ _ _ _ fees left TH' wr hlen hkey HA.out HS.out

end

end Go.Proofs.Ytcfoobhihhndjaa

/- Best: what waits behind Place. -/
namespace Go.Proofs.Ytcfoobhihhndjaa

section
open Go.RowKit Go.Sort

theorem matchT_none (fee : Int → Int) : ∀ (l : List Od) (o : Od), (∀ z ∈ l, ¬ (z.t ≠ o.t ∧ pfits o z = true)) → matchT fee l o = []
  | [], _, _ => rfl
  | z :: r, o, h => by
    unfold matchT
    by_cases h1 : o.q ≤ 0
    · rw [if_pos h1]
    · rw [if_neg h1]
      by_cases h2 : pfits o z = false
      · rw [if_pos h2]
      · rw [if_neg h2]
        by_cases h3 : z.t = o.t
        · rw [if_pos h3]
          exact matchT_none fee r o fun y hy => h y (List.mem_cons_of_mem _ hy)
        · exact absurd ⟨h3, by simpa using h2⟩ (h z (List.mem_cons_self ..))

theorem metL_none {o : Od} : ∀ l : List Od, (∀ z ∈ l, 1 ≤ z.q) → metL o l ≤ 0 → ∀ z ∈ l, ¬ (z.t ≠ o.t ∧ pfits o z = true)
  | [], _, _ => fun z hz => by cases hz
  | y :: r, hq, hm => fun z hz => by
    have nn : ∀ l : List Od, (∀ z ∈ l, 1 ≤ z.q) → 0 ≤ metL o l := fun l => by
      induction l with
      | nil => intro _; simp [metL]
      | cons a t ih =>
        intro h
        have h1 := ih fun z hz => h z (List.mem_cons_of_mem _ hz)
        have h2 := h a (List.mem_cons_self ..)
        simp only [metL]
        split <;> omega
    have h1 := nn r fun z hz => hq z (List.mem_cons_of_mem _ hz)
    have h2 := hq y (List.mem_cons_self ..)
    simp only [metL] at hm
    have h3 : ¬ (y.t ≠ o.t ∧ pfits o y = true) := fun f => by rw [if_pos f] at hm; omega
    rw [if_neg h3] at hm
    rcases List.mem_cons.1 hz with rfl | hz
    · exact h3
    · exact metL_none r (fun z hz => hq z (List.mem_cons_of_mem _ hz)) (by omega) z hz

theorem metL_q (o : Od) (n : Int) : ∀ l : List Od, metL { o with q := n } l = metL o l
  | [] => rfl
  | z :: r => by simp only [metL, metL_q o n r]; rfl

/-- enough is there: nothing is left -/
theorem matchL_full {s : Nat} (s2 : s < 2) : ∀ (l : List Od) (o : Od), o.s = s → l.Pairwise (Ahd (otherS s)) → (∀ z ∈ l, 1 ≤ z.q) → 0 ≤ o.q → o.q ≤ metL o l → (matchL l o).2 = 0
  | [], o, _, _, _, h0, hm => by simp only [metL] at hm; simp only [matchL]; omega
  | z :: r, o, es, hs, hq, h0, hm => by
    unfold matchL
    by_cases h1 : o.q ≤ 0
    · rw [if_pos h1]; simp only []; omega
    · rw [if_neg h1]
      by_cases h2 : pfits o z = false
      · exfalso
        have h3 := theirs_none s2 es hs rfl h2
        have h4 : metL o (z :: r) = 0 := by
          have h5 : ∀ y ∈ z :: r, ¬ (y.t ≠ o.t ∧ pfits o y = true) := fun y hy f => by
            have : y ∈ theirs o (z :: r) := List.mem_filter.2 ⟨hy, by simp [f.1, f.2]⟩
            rw [h3] at this
            cases this
          have gen : ∀ l : List Od, (∀ y ∈ l, ¬ (y.t ≠ o.t ∧ pfits o y = true)) → metL o l = 0 := fun l => by
            induction l with
            | nil => intro _; rfl
            | cons a t ih => intro h; simp only [metL, if_neg (h a (List.mem_cons_self ..)), ih fun y hy => h y (List.mem_cons_of_mem _ hy)]; omega
          exact gen _ h5
        omega
      · rw [if_neg h2]
        have h2' : pfits o z = true := by simpa using h2
        have hs' := (List.pairwise_cons.1 hs).2
        have hq' : ∀ y ∈ r, 1 ≤ y.q := fun y hy => hq y (List.mem_cons_of_mem _ hy)
        by_cases h3 : z.t = o.t
        · rw [if_pos h3]
          refine matchL_full s2 r o es hs' hq' h0 ?_
          simp only [metL, h3, ne_eq, not_true_eq_false, false_and, if_false] at hm
          omega
        · rw [if_neg h3]
          simp only [metL] at hm
          rw [if_pos ⟨h3, h2'⟩] at hm
          by_cases h4 : z.q - min o.q z.q = 0
          · rw [if_pos h4]
            refine matchL_full s2 r { o with q := o.q - min o.q z.q } es hs' hq' ?_ ?_
            · show 0 ≤ o.q - min o.q z.q; omega
            · rw [metL_q]
              show o.q - min o.q z.q ≤ metL o r
              omega
          · rw [if_neg h4]
            simp only []
            omega

end

section
open Go.RowKit Go.Sort

/-- behind Place: the new order's number belongs to what is left of it, if it waits; else to none -/
theorem place_waits {m : Mt} {N : Int} (I : m.Inv N) {x : Od} (hE : placeE m x = 0) {h g s : Nat} (q : at3 m h g s) (eh : x.h = h) (eg : x.g = g) (es : x.s = s) :
    (0 < x.q - qtyL (placeT m x) ∧ (x.w = 0 ∨ x.w = 3) → (∃ o ∈ (placeM m x).all, o.t = x.t ∧ o.id = m.nu + 1) ∧ ∀ o ∈ (placeM m x).all, o.id = m.nu + 1 → o.q = x.q - qtyL (placeT m x)) ∧
    (¬ (0 < x.q - qtyL (placeT m x) ∧ (x.w = 0 ∨ x.w = 3)) → ∀ o ∈ (placeM m x).all, o.id ≠ m.nu + 1) := by
  have hs' : otherS s < 2 := by unfold otherS; split <;> omega
  have eh' : x.h.toNat = h := by omega
  have eg' : x.g.toNat = g := by omega
  have es' : x.s.toNat = s := by omega
  have hb0 : (holdM { m with nu := m.nu + 1 } { x with id := m.nu + 1 }).bk = m.bk := bk_hold _ _
  obtain ⟨e1, e2⟩ := matchM_bk h g (otherS s) hs' (m.bk h g (otherS s)) (holdM { m with nu := m.nu + 1 } { x with id := m.nu + 1 }) { x with id := m.nu + 1 } (by rw [hb0])
  rw [setBk_bk hb0] at e1
  have D0 : Dims m (holdM { m with nu := m.nu + 1 } { x with id := m.nu + 1 }) := Dims.trans (b := { m with nu := m.nu + 1 }) ⟨rfl, rfl, rfl, rfl⟩ (same_hold _ _).dims
  have D1 := D0.trans (matchM_same (h := h) (g := g) (s := otherS s) (m.bk h g (otherS s)) (holdM { m with nu := m.nu + 1 } { x with id := m.nu + 1 }) { x with id := m.nu + 1 }).dims
  have hL := matchL_keys (m.bk h g (otherS s)) { x with id := m.nu + 1 }
  have hT : placeT m x = matchT ((holdM { m with nu := m.nu + 1 } { x with id := m.nu + 1 }).fee h) (m.bk h g (otherS s)) { x with id := m.nu + 1 } := by
    unfold placeT placed
    rw [if_pos hE, eh', eg', es', (matchM_t _ _ _ _ _ _).1]
  have hQ := matchL_qty ((holdM { m with nu := m.nu + 1 } { x with id := m.nu + 1 }).fee h) (m.bk h g (otherS s)) { x with id := m.nu + 1 }
  rw [← hT] at hQ
  have hM : placeM m x = settleM (matchM h g (otherS s) (m.bk h g (otherS s)) (holdM { m with nu := m.nu + 1 } { x with id := m.nu + 1 }) { x with id := m.nu + 1 }).1 (matchM h g (otherS s) (m.bk h g (otherS s)) (holdM { m with nu := m.nu + 1 } { x with id := m.nu + 1 }) { x with id := m.nu + 1 }).2.1 := by
    unfold placeM placed
    rw [if_pos hE, eh', eg', es']
  rw [hM]
  generalize matchL (m.bk h g (otherS s)) { x with id := m.nu + 1 } = ml at *
  generalize matchM h g (otherS s) (m.bk h g (otherS s)) (holdM { m with nu := m.nu + 1 } { x with id := m.nu + 1 }) { x with id := m.nu + 1 } = mm at *
  have hQ' : ml.2 = x.q - qtyL (placeT m x) := hQ
  rw [← hQ', e2]
  have old : ∀ a b c o, a < m.H → b < m.G → c < 2 → o ∈ mm.1.bk a b c → o.id ≠ m.nu + 1 := fun a b c o ha hb hc ho => by
    have h5 : o.key ∈ m.keys a b c := by
      have h4 : o.key ∈ mm.1.keys a b c := List.mem_map.2 ⟨o, ho, rfl⟩
      rw [keys_setBk e1] at h4
      unfold setB at h4
      split at h4
      · rename_i e; obtain ⟨rfl, rfl, rfl⟩ := e
        exact hL.subset h4
      · exact h4
    obtain ⟨y, hy, ey⟩ := List.mem_map.1 h5
    have h6 := (I.od a b c y ha hb hc hy).id
    have h7 : y.id = o.id := by
      have : y.key.id = o.key.id := by rw [ey]
      exact this
    omega
  unfold settleM
  constructor
  · intro hw
    rw [if_pos hw]
    generalize hx : ({ id := m.nu + 1, t := x.t, h := x.h, g := x.g, s := x.s, p := x.p, q := ml.2, w := x.w } : Od) = y
    have yi : y.id = m.nu + 1 := by rw [← hx]
    have yt : y.t = x.t := by rw [← hx]
    have yq : y.q = ml.2 := by rw [← hx]
    have yh : y.h.toNat = h := by rw [← hx]; exact eh'
    have yg : y.g.toNat = g := by rw [← hx]; exact eg'
    have ys : y.s.toNat = s := by rw [← hx]; exact es'
    have hbk : ∀ a b c, (waitM mm.1 y).bk a b c = if a = h ∧ b = g ∧ c = s then putAt (mm.1.bk h g s) (slot (ahAt (mm.1.bk h g s) s y) (mm.1.bk h g s).length) y else mm.1.bk a b c := fun a b c => by
      unfold waitM
      rw [yh, yg, ys]
      rfl
    have hH : (waitM mm.1 y).H = m.H := D1.H
    have hG : (waitM mm.1 y).G = m.G := D1.G
    refine ⟨⟨y, Mt.mem_all.2 ⟨h, g, s, by rw [hH]; exact q.1, by rw [hG]; exact q.2.1, q.2.2, ?_⟩, yt, yi⟩, fun o ho hid => ?_⟩
    · rw [hbk, if_pos ⟨rfl, rfl, rfl⟩]
      unfold putAt
      simp
    · obtain ⟨a, b, c, ha, hb, hc, hm⟩ := Mt.mem_all.1 ho
      rw [hH] at ha
      rw [hG] at hb
      rw [hbk] at hm
      split at hm
      · rcases mem_put hm with rfl | f
        · exact yq
        · exact absurd hid (old h g s o q.1 q.2.1 q.2.2 f)
      · exact absurd hid (old a b c o ha hb hc hm)
  · intro hw o ho
    rw [if_neg hw] at ho
    obtain ⟨a, b, c, ha, hb, hc, hm⟩ := Mt.mem_all.1 ho
    rw [release_bk] at hm
    rw [(dims_release _ _ _ _ _ _).H, D1.H] at ha
    rw [(dims_release _ _ _ _ _ _).G, D1.G] at hb
    exact old a b c o ha hb hc hm

theorem placeT_no {m : Mt} {x : Od} (hE : placeE m x ≠ 0) : placeT m x = [] ∧ placeI m x = 0 ∧ placeM m x = m := by
  unfold placeT placeI placeM
  rw [if_neg hE, if_neg hE, if_neg hE]
  exact ⟨rfl, rfl, rfl⟩

theorem placeE_ten {m : Mt} {x : Od} (hE : placeE m x = 10) : x.w = 3 := by
  unfold placeE at hE
  (repeat' split at hE) <;> first | omega | (rename_i h; exact h.1)

theorem placeE_eleven {m : Mt} {x : Od} (hE : placeE m x = 11) : x.w = 2 := by
  unfold placeE at hE
  (repeat' split at hE) <;> first | omega | (rename_i h; exact h.1)

/-- an order that is taken, by how it is done: to be whole, nothing is left; not to meet, nothing is traded -/
theorem placeE_how {m : Mt} {x : Od} (hE : placeE m x = 0) : (x.w = 3 → m.met x ≤ 0) ∧ (x.w = 2 → x.q ≤ m.met x) := by
  unfold placeE at hE
  (repeat' split at hE) <;> first | omega | (constructor <;> intro hw <;> omega)

end

section
open Go.RowKit Go.Sort

/-- what the last one of a number wants -/
def waitL (id : Int) (l : List Od) : Int := l.foldl (fun a o => if o.id = id then o.q else a) 0

theorem waitL_next (id : Int) (l : List Od) (k : Nat) (hk : k < l.length) : waitL id (l.take (k + 1)) = if l[k].id = id then l[k].q else waitL id (l.take k) := by
  unfold waitL
  rw [List.take_add_one, List.getElem?_eq_getElem hk, List.foldl_append]
  rfl

theorem waitL_none {id : Int} {l : List Od} (h : ∀ o ∈ l, o.id ≠ id) : waitL id l = 0 := by
  unfold waitL
  have gen : ∀ (l : List Od) (a : Int), (∀ o ∈ l, o.id ≠ id) → l.foldl (fun a o => if o.id = id then o.q else a) a = a := fun l => by
    induction l with
    | nil => intro a _; rfl
    | cons o r ih =>
      intro a h
      rw [List.foldl_cons, if_neg (h o (List.mem_cons_self ..))]
      exact ih a fun y hy => h y (List.mem_cons_of_mem _ hy)
  exact gen l 0 h

theorem waitL_all {id n : Int} {l : List Od} (h : ∃ o ∈ l, o.id = id) (hq : ∀ o ∈ l, o.id = id → o.q = n) : waitL id l = n := by
  unfold waitL
  have gen : ∀ (l : List Od) (a : Int), (a = n ∨ ∃ o ∈ l, o.id = id) → (∀ o ∈ l, o.id = id → o.q = n) → l.foldl (fun a o => if o.id = id then o.q else a) a = n := fun l => by
    induction l with
    | nil =>
      intro a h _
      rcases h with h | ⟨o, ho, _⟩
      · exact h
      · cases ho
    | cons o r ih =>
      intro a h hq
      rw [List.foldl_cons]
      refine ih _ ?_ fun y hy => hq y (List.mem_cons_of_mem _ hy)
      by_cases e : o.id = id
      · rw [if_pos e]
        exact .inl (hq o (List.mem_cons_self ..) e)
      · rw [if_neg e]
        rcases h with h | ⟨y, hy, e2⟩
        · exact .inl h
        · rcases List.mem_cons.1 hy with rfl | hy
          · exact absurd e2 e
          · exact .inr ⟨y, hy, e2⟩
  exact gen l 0 (.inr h) hq

theorem matchL_nn : ∀ (l : List Od) (o : Od), 0 ≤ o.q → 0 ≤ (matchL l o).2
  | [], o, h => h
  | z :: r, o, h => by
    unfold matchL
    by_cases h1 : o.q ≤ 0
    · rw [if_pos h1]; exact h
    · rw [if_neg h1]
      by_cases h2 : pfits o z = false
      · rw [if_pos h2]; exact h
      · rw [if_neg h2]
        by_cases h3 : z.t = o.t
        · rw [if_pos h3]; exact matchL_nn r o h
        · rw [if_neg h3]
          by_cases h4 : z.q - min o.q z.q = 0
          · rw [if_pos h4]
            exact matchL_nn r { o with q := o.q - min o.q z.q } (by show 0 ≤ o.q - min o.q z.q; omega)
          · rw [if_neg h4]
            show 0 ≤ o.q - min o.q z.q
            omega

theorem placeT_eq {m : Mt} {x : Od} (hE : placeE m x = 0) {h g s : Nat} (eh : x.h = h) (eg : x.g = g) (es : x.s = s) : placeT m x = matchT (m.fee h) (m.bk h g (otherS s)) { x with id := m.nu + 1 } := by
  unfold placeT placed
  rw [if_pos hE, show x.h.toNat = h by omega, show x.g.toNat = g by omega, show x.s.toNat = s by omega, (matchM_t _ _ _ _ _ _).1]
  rw [fee_rt (m := m) (show (holdM { m with nu := m.nu + 1 } { x with id := m.nu + 1 }).rt = m.rt by unfold holdM; split <;> rfl)]

theorem metL_id (o : Od) (n : Int) : ∀ l : List Od, metL { o with id := n } l = metL o l
  | [] => rfl
  | z :: r => by simp only [metL, metL_id o n r]; rfl

/-- what the end of Best asks of an order that was taken -/
structure BEnd (x : Od) (left : Int) (n : Nat) (wt : Int) : Prop where
  w0 : x.w = 0 → wt = left
  w3 : x.w = 3 → wt = x.q ∧ n = 0
  w2 : x.w = 2 → wt = 0 ∧ left = 0
  w1 : x.w = 1 → wt = 0

theorem best_end {m : Mt} {N : Int} (I : m.Inv N) (J : m.Jn) {x : Od} (hE : placeE m x = 0) {h g s : Nat} (q : at3 m h g s) (eh : x.h = h) (eg : x.g = g) (es : x.s = s) (hx : 1 ≤ x.q) {l : List Od} (T : Told (placeM m x) x.t l) :
    0 ≤ x.q - qtyL (placeT m x) ∧ BEnd x (x.q - qtyL (placeT m x)) (placeT m x).length (waitL (m.nu + 1) l) := by
  have hs' : otherS s < 2 := by unfold otherS; split <;> omega
  have hT := placeT_eq hE eh eg es
  have hq := matchL_qty (m.fee h) (m.bk h g (otherS s)) { x with id := m.nu + 1 }
  rw [← hT] at hq
  have nn := matchL_nn (m.bk h g (otherS s)) { x with id := m.nu + 1 } (by show 0 ≤ x.q; omega)
  rw [hq] at nn
  have nn' : 0 ≤ x.q - qtyL (placeT m x) := nn
  obtain ⟨p1, p2⟩ := place_waits I hE q eh eg es
  obtain ⟨c1, c2⟩ := placeE_how hE
  have hm : m.met x = metL x (m.bk h g (otherS s)) := by unfold Mt.met; rw [eh, eg, es]; simp
  have hq1 : ∀ z ∈ m.bk h g (otherS s), 1 ≤ z.q := fun z hz => (I.od h g (otherS s) z q.1 q.2.1 hs' hz).q.1
  have yes : 0 < x.q - qtyL (placeT m x) → (x.w = 0 ∨ x.w = 3) → waitL (m.nu + 1) l = x.q - qtyL (placeT m x) := fun a b => by
    obtain ⟨⟨o, h1, h2, h3⟩, h4⟩ := p1 ⟨a, b⟩
    exact waitL_all ⟨o, (T.mem o).2 ⟨h1, h2⟩, h3⟩ fun y hy e => h4 y ((T.mem y).1 hy).1 e
  have no : ¬ (0 < x.q - qtyL (placeT m x) ∧ (x.w = 0 ∨ x.w = 3)) → waitL (m.nu + 1) l = 0 := fun a => waitL_none fun o ho => p2 a o ((T.mem o).1 ho).1
  refine ⟨nn', fun e => ?_, fun e => ?_, fun e => ?_, fun e => no fun f => by omega⟩
  · by_cases h0 : 0 < x.q - qtyL (placeT m x)
    · exact yes h0 (.inl e)
    · rw [no fun f => h0 f.1]; omega
  · have h1 : placeT m x = [] := by
      rw [hT]
      refine matchT_none _ _ _ ?_
      have := metL_none _ hq1 (by rw [← hm]; exact c1 e)
      exact this
    have h2 : x.q - qtyL (placeT m x) = x.q := by rw [h1]; simp [qtyL]
    rw [h2] at yes
    exact ⟨yes (by omega) (.inr e), by rw [h1]; rfl⟩
  · refine ⟨no fun f => by omega, ?_⟩
    have h1 := matchL_full q.2.2 (m.bk h g (otherS s)) { x with id := m.nu + 1 } es (J.srt ⟨q.1, q.2.1, hs'⟩) hq1 (by show 0 ≤ x.q; omega) (by
      have h2 := c2 e
      rw [hm] at h2
      rw [metL_id]
      exact h2)
    rw [hq] at h1
    exact h1

end

end Go.Proofs.Ytcfoobhihhndjaa
