/- Best: the loop over trades. -/
import Derived.Test.YtcfoobhihhndjaaBb
namespace Go.Proofs.Ytcfoobhihhndjaa

section
open Go.RowKit Go.Sort

def feeOf (rt : Int) (a : Int) : Int := a * rt / 10000

set_option maxRecDepth 1000000 in
set_option maxHeartbeats 16000000 in
theorem best_l4 {W0 : World} {d XB TB rb h s nr cr : Nat} {x : Od} {id ho rt : Int} {ts : List Td} {TH : List Od} {va ta : Option Addr} {vc tc : Nat} (s2 : s < 2) (es : x.s = s) (hh : h < nr) (hrt : 0 ≤ rt ∧ rt ≤ 100) (hho : 0 ≤ ho ∧ ho ≤ 1000000000000) (hxq : 0 ≤ x.q ∧ x.q ≤ 10000)
    (hts : ts.length ≤ 60) (hTH : TH.length ≤ 300) (hsd : ∀ o ∈ TH, o.s = otherS s) (hid : TH.Pairwise fun a b => a.id ≠ b.id) (hbd : ∀ o ∈ TH, (1 ≤ o.p ∧ o.p ≤ 100000) ∧ (1 ≤ o.q ∧ o.q ≤ 10000))
    (hva : 0 < TH.length → va = some ⟨TB, 0, none⟩) (A0 : ThAt W0 TB TH W0) (S0 : BSim (feeOf rt) s x id ts 0 TH x.q ho ho)
    (hX : W0.cell? ⟨XB, 2, none⟩ = some (.int .i64 h)) (hnX : XB ≠ TB) (hr : W0.cell? ⟨d, 3, none⟩ = some (.slice (some ⟨rb, 0, none⟩) nr cr)) (hnd : d ≠ TB) (hrr : W0.cell? ⟨rb, h, none⟩ = some (.int .i64 rt)) (hnr : rb ≠ TB)
    (hTr : ∀ i, i < ts.length → ∃ b, ta = some ⟨b, 0, none⟩ ∧ b ≠ TB ∧ ∀ i (hi : i < ts.length) j u, ts[i].cells[j]? = some u → W0.cell? ⟨b, i * 6 + j, none⟩ = some u)
    (Q : Exit → Act → World → Prop) (u0 u1 u2 u3 u4 u5 u6 u8 u11 u12 u13 u14 u15 u19 u22 u23 u24 u25 u26 u27 u28 u29 u30 u31 u32 u33 u34 u35 u36 u37 u38 u39 u40 u41 u42 u43 u44 u45 u46 u47 u48 u49 u50 u51 u52 u53 u54 u55 u56 u57 u58 u59 u60 u61 u62 u63 u64 u65 u66 u67 u68 u69 u70 u71 u72 u73 u74 u75 u76 u77 u78 u79 u80 u81 u82 u83 u84 u85 u86 u87 u88 u89 u90 u91 u92 u93 u94 u95 u96 u97 u98 u99 u100 u101 u102 u103 u104 u105 u106 u107 u108 u109 u110 u111 u112 u113 u114 u115 u116 u117 u118 u119 u120 u121 u122 u123 u124 u125 u126 u127 u128 u129 u130 u131 u132 u133 u134 u135 u136 u137 u138 u139 u140 u141 u142 u143 u144 u145 u146 u147 u148 u149 u150 u151 u152 u153 u154 u155 u156 u157 u158 u159 u160 u161 u162 u163 u164 u165 u166 u167 u168 u169 u170 u171 u172 u173 u174 u175 u176 u177 u178 u179 u180 u181 u182 u183 u184 u185 u186 u187 u188 u189 u190 u191 u192 u193 u194 u195 u196 u197 u198 u199 u200 u201 u202 u203 u204 u205 u206 u207 u208 u209 u210 u211 u212 u213 u214 u215 u216 u217 u218 u219 u220 u221 u222 u223 u224 u225 u226 u227 u228 u229 u230 u231 u232 u233 u234 u235 u236 u237 u238 u239 u240 u241 u242 u243 u244 u245 u246 u247 u248 u249 u250 u251 u252 u253 u254 u255 u256 u257 u258 u259 u260 u261 u262 u263 u264 u265 u266 u267 u268 u269 u270 u271 u272 u273 u274 u275 u276 u277 u278 u279 u280 u281 u282 u283 u284 u285 u286 u287 u288 u289 u290 u291 u292 u293 u294 u295 u296 u297 u298 u299 u300 u301 u302 u303 u304 u305 u306 u307 u308 u309 u310 u311 u312 u313 u314 u315 u316 u317 u318 u319 u320 u321 u322 u323 u324 u325 u326 u327 u328 u329 u330 u331 u332 u333 u334 u335 u336 u337 u338 u339 u340 u341 u342 u343 u344 u345 u346 u347 u348 u349 u350 u351 u352 u353 u354 u355 u356 u357 u358 u359 u360 u361 u362 u363 u364 u365 u366 u367 u368 u369 u370 u371 u372 u373 u374 u375 u376 u377 u378 u379 u380 u381 u382 u383 u384 u385 u386 u387 u388 u389 u390 u391 u392 u393 u394 : Value)
    (hE : ∀ (n6 n22 n23 n152 n153 n154 n155 n156 n157 n158 n159 n160 n161 n162 n163 n164 n165 n166 n167 n168 n169 n170 n171 n172 n173 n174 n175 n176 n177 n178 n179 n180 n181 n182 n183 n184 n185 n186 n187 n188 n189 n190 n191 n192 n193 n194 n195 n196 n197 n198 n199 n200 n201 n202 n203 n204 n205 n206 n207 n208 n209 n210 n211 n212 n213 n214 n215 n216 n217 n218 n219 n220 n221 n222 n223 n224 n225 n226 n227 n228 n229 n230 n231 n232 n233 n234 n235 n236 n237 n238 n239 n240 n241 n242 n243 n244 n245 n246 n247 n248 n249 n250 n251 n252 n253 n254 n255 n256 n257 n258 n259 n260 n261 n262 n263 n264 n265 n266 n267 n268 n269 n270 n271 n272 n273 n274 n275 n276 n277 : Value) (fees left : Int) (TH' : List Od) (W' : World), TH'.length = TH.length → TH'.map Od.key = TH.map Od.key → ThAt W0 TB TH' W' → BSim (feeOf rt) s x id ts ts.length TH' left fees ho → Q (.exit 6) ⟨#[u0, u1, u2, u3, u4, u5, n6, .pointer (some ⟨d, 0, none⟩), u8, .pointer (some ⟨XB, 0, none⟩), .slice va TH.length vc, u11, u12, u13, u14, u15, .int .i64 fees, .int .i64 id, .slice ta ts.length tc, u19, .int .i64 left, .int .i64 ts.length, n22, n23, u24, u25, u26, u27, u28, u29, u30, u31, u32, u33, u34, u35, u36, u37, u38, u39, u40, u41, u42, u43, u44, u45, u46, u47, u48, u49, u50, u51, u52, u53, u54, u55, u56, u57, u58, u59, u60, u61, u62, u63, u64, u65, u66, u67, u68, u69, u70, u71, u72, u73, u74, u75, u76, u77, u78, u79, u80, u81, u82, u83, u84, u85, u86, u87, u88, u89, u90, u91, u92, u93, u94, u95, u96, u97, u98, u99, u100, u101, u102, u103, u104, u105, u106, u107, u108, u109, u110, u111, u112, u113, u114, u115, u116, u117, u118, u119, u120, u121, u122, u123, u124, u125, u126, u127, u128, u129, u130, u131, u132, u133, u134, u135, u136, u137, u138, u139, u140, u141, u142, u143, u144, u145, u146, u147, u148, u149, u150, u151, n152, n153, n154, n155, n156, n157, n158, n159, n160, n161, n162, n163, n164, n165, n166, n167, n168, n169, n170, n171, n172, n173, n174, n175, n176, n177, n178, n179, n180, n181, n182, n183, n184, n185, n186, n187, n188, n189, n190, n191, n192, n193, n194, n195, n196, n197, n198, n199, n200, n201, n202, n203, n204, n205, n206, n207, n208, n209, n210, n211, n212, n213, n214, n215, n216, n217, n218, n219, n220, n221, n222, n223, n224, n225, n226, n227, n228, n229, n230, n231, n232, n233, n234, n235, n236, n237, n238, n239, n240, n241, n242, n243, n244, n245, n246, n247, n248, n249, n250, n251, n252, n253, n254, n255, n256, n257, n258, n259, n260, n261, n262, n263, n264, n265, n266, n267, n268, n269, n270, n271, n272, n273, n274, n275, n276, n277, u278, u279, u280, u281, u282, u283, u284, u285, u286, u287, u288, u289, u290, u291, u292, u293, u294, u295, u296, u297, u298, u299, u300, u301, u302, u303, u304, u305, u306, u307, u308, u309, u310, u311, u312, u313, u314, u315, u316, u317, u318, u319, u320, u321, u322, u323, u324, u325, u326, u327, u328, u329, u330, u331, u332, u333, u334, u335, u336, u337, u338, u339, u340, u341, u342, u343, u344, u345, u346, u347, u348, u349, u350, u351, u352, u353, u354, u355, u356, u357, u358, u359, u360, u361, u362, u363, u364, u365, u366, u367, u368, u369, u370, u371, u372, u373, u374, u375, u376, u377, u378, u379, u380, u381, u382, u383, u384, u385, u386, u387, u388, u389, u390, u391, u392, u393, u394], []⟩ W') :
    Code.wp Try.prog (Code.loop (loopAt Try.f4 3)) Q ⟨#[u0, u1, u2, u3, u4, u5, u6, .pointer (some ⟨d, 0, none⟩), u8, .pointer (some ⟨XB, 0, none⟩), .slice va TH.length vc, u11, u12, u13, u14, u15, .int .i64 ho, .int .i64 id, .slice ta ts.length tc, u19, .int .i64 x.q, .int .i64 0, u22, u23, u24, u25, u26, u27, u28, u29, u30, u31, u32, u33, u34, u35, u36, u37, u38, u39, u40, u41, u42, u43, u44, u45, u46, u47, u48, u49, u50, u51, u52, u53, u54, u55, u56, u57, u58, u59, u60, u61, u62, u63, u64, u65, u66, u67, u68, u69, u70, u71, u72, u73, u74, u75, u76, u77, u78, u79, u80, u81, u82, u83, u84, u85, u86, u87, u88, u89, u90, u91, u92, u93, u94, u95, u96, u97, u98, u99, u100, u101, u102, u103, u104, u105, u106, u107, u108, u109, u110, u111, u112, u113, u114, u115, u116, u117, u118, u119, u120, u121, u122, u123, u124, u125, u126, u127, u128, u129, u130, u131, u132, u133, u134, u135, u136, u137, u138, u139, u140, u141, u142, u143, u144, u145, u146, u147, u148, u149, u150, u151, u152, u153, u154, u155, u156, u157, u158, u159, u160, u161, u162, u163, u164, u165, u166, u167, u168, u169, u170, u171, u172, u173, u174, u175, u176, u177, u178, u179, u180, u181, u182, u183, u184, u185, u186, u187, u188, u189, u190, u191, u192, u193, u194, u195, u196, u197, u198, u199, u200, u201, u202, u203, u204, u205, u206, u207, u208, u209, u210, u211, u212, u213, u214, u215, u216, u217, u218, u219, u220, u221, u222, u223, u224, u225, u226, u227, u228, u229, u230, u231, u232, u233, u234, u235, u236, u237, u238, u239, u240, u241, u242, u243, u244, u245, u246, u247, u248, u249, u250, u251, u252, u253, u254, u255, u256, u257, u258, u259, u260, u261, u262, u263, u264, u265, u266, u267, u268, u269, u270, u271, u272, u273, u274, u275, u276, u277, u278, u279, u280, u281, u282, u283, u284, u285, u286, u287, u288, u289, u290, u291, u292, u293, u294, u295, u296, u297, u298, u299, u300, u301, u302, u303, u304, u305, u306, u307, u308, u309, u310, u311, u312, u313, u314, u315, u316, u317, u318, u319, u320, u321, u322, u323, u324, u325, u326, u327, u328, u329, u330, u331, u332, u333, u334, u335, u336, u337, u338, u339, u340, u341, u342, u343, u344, u345, u346, u347, u348, u349, u350, u351, u352, u353, u354, u355, u356, u357, u358, u359, u360, u361, u362, u363, u364, u365, u366, u367, u368, u369, u370, u371, u372, u373, u374, u375, u376, u377, u378, u379, u380, u381, u382, u383, u384, u385, u386, u387, u388, u389, u390, u391, u392, u393, u394], []⟩ W0 := by
  have HTr := hide hTr
  have HA0 := hide A0
  have HS0 := hide S0
  have HEx := hide hE
  have HSd := hide hsd
  have HId := hide hid
  have HBd := hide hbd
  have HX := hide hX
  have HRt := hide hr
  have HRr := hide hrr
  have HVa := hide hva
  clear hTr A0 S0 hE hsd hid hbd hX hr hrr hva
  conv => arg 2; arg 1; whnf
  dsimp only
  go_loopw [16, 20, 21] (fun f lf i wr => ∃ (k : Nat) (fees left : Int) (TH' : List Od), k ≤ ts.length ∧ f = .int .i64 fees ∧ lf = .int .i64 left ∧ i = .int .i64 k ∧ (0 ≤ left ∧ left ≤ 10000) ∧ (0 ≤ fees ∧ fees ≤ 1000000000000 + 100000000 * (k : Int)) ∧ TH'.length = TH.length ∧ TH'.map Od.key = TH.map Od.key ∧ (∀ o ∈ TH', (1 ≤ o.p ∧ o.p ≤ 100000) ∧ (0 ≤ o.q ∧ o.q ≤ 10000)) ∧ ThAt W0 TB TH' wr ∧ BSim (feeOf rt) s x id ts k TH' left fees ho) (fun _ _ i _ => ts.length - (intOf i).toNat)
  case atStart => exact ⟨0, ho, x.q, TH, Nat.zero_le _, rfl, rfl, rfl, hxq, by omega, rfl, rfl, fun o hm => ⟨(HBd.out o hm).1, by have := (HBd.out o hm).2; omega⟩, HA0.out, HS0.out⟩
  case round =>
    clear HA0 HS0
    obtain ⟨j, fees, left, TH', hj, rfl, rfl, rfl, ⟨bl1, bl2⟩, ⟨bf1, bf2⟩, hlen, hkey, hbd', A, S⟩ := hrel
    by_cases hlj : j < ts.length
    · have hlj' : (j : Int) < (ts.length : Int) := by omega
      have hBt := hide (better_any wr (otherS s) (by unfold otherS; split <;> omega) TH' va vc (by omega) (keys_sides hkey HSd.out) (keys_ids hkey HId.out) (fun i hi => ⟨TB, HVa.out (by omega), fun i hi j u hu => (A.row i hi j u hu).cell⟩))
      rw [hlen] at hBt
      have HA := hide A
      have HS := hide S
      have HBd' := hide hbd'
      clear A S hbd'
      go_wp2_with fail
      refine hBt.out.mono ?_
      rintro e w2 ⟨r, hB, rfl, nn, hw2⟩
      obtain ⟨k, z, rfl, hz, hzq, hl0, htd, S'⟩ := HS.out.step s2 es hlj hB
      have k2 : Kep non wr w2 := by rw [hw2]; exact (Kep.refl _ _).drewN nn
      have A2 := HA.out.later k2
      obtain ⟨hk, ez⟩ := List.getElem?_eq_some_iff.1 hz
      obtain ⟨⟨bp1, bp2⟩, ⟨bq1, bq2⟩⟩ := HBd'.out z (List.mem_of_getElem? hz)
      obtain ⟨tb, hta, htn, hcT⟩ := HTr.out j hlj
      subst hta
      have nn0 : ∀ b, ¬ non b := fun _ f => f
      have t0 := k2.cell (HA.out.kp.cell (hcT j hlj 0 (.int .i64 id) (by rw [htd]; rfl)) htn) (nn0 _)
      have t1 := k2.cell (HA.out.kp.cell (hcT j hlj 1 (.int .i64 z.id) (by rw [htd]; rfl)) htn) (nn0 _)
      have t2 := k2.cell (HA.out.kp.cell (hcT j hlj 2 (.int .i64 z.t) (by rw [htd]; rfl)) htn) (nn0 _)
      have t3 := k2.cell (HA.out.kp.cell (hcT j hlj 3 (.int .i64 z.p) (by rw [htd]; rfl)) htn) (nn0 _)
      have t4 := k2.cell (HA.out.kp.cell (hcT j hlj 4 (.int .i64 (min left z.q)) (by rw [htd]; rfl)) htn) (nn0 _)
      have t5 := k2.cell (HA.out.kp.cell (hcT j hlj 5 (.int .i64 (feeOf rt (z.p * min left z.q))) (by rw [htd]; rfl)) htn) (nn0 _)
      simp only [Nat.add_zero] at t0
      have a0 := (A2.row k hk 0 (.int .i64 z.id) (by rw [ez]; rfl)).cell
      have a1 := (A2.row k hk 1 (.int .i64 z.t) (by rw [ez]; rfl)).cell
      have a5 := (A2.row k hk 5 (.int .i64 z.p) (by rw [ez]; rfl)).cell
      have a6 := A2.row k hk 6 (.int .i64 z.q) (by rw [ez]; rfl)
      obtain ⟨a6c, a6f⟩ := a6
      simp only [Nat.add_zero] at a0
      have x2 := k2.cell (HA.out.kp.cell HX.out hnX) (nn0 _)
      have r3 := k2.cell (HA.out.kp.cell HRt.out hnd) (nn0 _)
      have rr := k2.cell (HA.out.kp.cell HRr.out hnr) (nn0 _)
      have hva := HVa.out (by omega)
      subst hva
      have hf : ts[j].f = feeOf rt (z.p * min left z.q) := by rw [htd]; rfl
      rw [hf] at S'
      have HA2 := hide (fun V (kV : Kep non w2 V) => (A2.later kV).put hz (z.q - min left z.q))
      have HKy := hide (keys_set hz (z.q - min left z.q))
      have HS' := hide S'
      have hk' : (k : Int) < (TH.length : Int) := by omega
      have dk : decide ((k : Int) < 0) = false := decide_eq_false (by omega)
      have hh' : (h : Int) < (nr : Int) := by omega
      obtain ⟨n, hn⟩ : ∃ n, min left z.q = n := ⟨_, rfl⟩
      have HMin : Hid ((left ≤ z.q ∧ left = n) ∨ (¬ left ≤ z.q ∧ z.q = n)) := hide (by omega)
      rw [hn] at t4 t5 HS' HA2 HKy
      have bn : 1 ≤ n ∧ n ≤ left ∧ n ≤ z.q := by omega
      have HMn := hide hn
      clear hn hf htd hcT A2 hz ez hk S' hB HA HS hBt hw2 hlj HTr HX HRt HRr HVa HSd HId HBd
      go_wp2_with fail
      simp only [List.append]
      go_cut [224] from 160 to 224 (fun v224 wx => v224 = .bool false ∧ Kep non w2 wx)
      case first =>
        clear HEx HS' HA2 HKy t5 r3 rr x2 a6f k2 HMin
        rw [← HMn.out] at t4
        clear HMn
        go_quiet (fail)
        go_wp2
        go_meet
        exact ⟨by simp, by (repeat (first | apply Kep.drewN | apply Kep.drew)); exact Kep.refl _ _⟩
      case rest =>
        obtain ⟨rfl, k3⟩ := hcut
        have y3 := k3.cell t3 (nn0 _)
        have y4 := k3.cell t4 (nn0 _)
        have y5 := k3.cell t5 (nn0 _)
        have yx := k3.cell x2 (nn0 _)
        have yr := k3.cell r3 (nn0 _)
        have yrr := k3.cell rr (nn0 _)
        have HA3 := hide (fun V (kV : Kep non wc V) => HA2.out V (k3.trans kV))
        have pq := mul_le' (a := z.p) (b := n) (A := 100000) (B := 10000) (by omega) bp2 (by omega) (by omega)
        obtain ⟨pq0, pq1⟩ := pq
        have pr := mul_le' (a := z.p * n) (b := rt) (A := 1000000000) (B := 100) pq0 (by omega) hrt.1 hrt.2
        obtain ⟨pr0, pr1⟩ := pr
        have HFee := hide (show (z.p * n * rt).tdiv 10000 = feeOf rt (z.p * n) by unfold feeOf; exact Int.tdiv_eq_ediv_of_nonneg pr0)
        have HFb := hide (show 0 ≤ feeOf rt (z.p * n) ∧ feeOf rt (z.p * n) ≤ 100000000 by unfold feeOf; omega)
        have a6w := (Own.mk a6c a6f).kep k3 (nn0 _)
        obtain ⟨b6c, b6f⟩ := a6w
        clear t0 t1 t2 t3 t4 t5 a0 a1 a5 x2 r3 rr k2 k3 HA2 a6c a6f HEx HMin dk HMn
        go_wp2_with fail
        go_quiet (fail)
        rw [show z.p * n * rt / 10000 = feeOf rt (z.p * n) from rfl]
        obtain ⟨V6, hV6, k6⟩ : ∃ V6, V6 = (wc.drewN nq).drew ∧ Kep non wc V6 := ⟨_, rfl, ((Kep.refl _ _).drewN nq).drew⟩
        obtain ⟨z6c, z6f⟩ := (Own.mk b6c b6f).kep k6 (nn0 _)
        have z4 := k6.cell y4 (nn0 _)
        have HA6 := hide (HA3.out V6 k6)
        have HV6 := hide hV6
        obtain ⟨fb0, fb1⟩ := HFb.out
        have HL := hide (show (TH'.set k { z with q := z.q - n }).length = TH.length by rw [List.length_set]; exact hlen)
        have HK2 := hide (HKy.out.trans hkey)
        have HB2 := hide (show ∀ o ∈ TH'.set k { z with q := z.q - n }, (1 ≤ o.p ∧ o.p ≤ 100000) ∧ (0 ≤ o.q ∧ o.q ≤ 10000) from fun o ho => by
          rcases List.mem_or_eq_of_mem_set ho with h1 | h1
          · exact HBd'.out o h1
          · subst h1
            exact ⟨⟨bp1, bp2⟩, by show 0 ≤ z.q - n ∧ z.q - n ≤ 10000; omega⟩)
        clear HFee HFb b6c b6f hV6 k6 HA3 HKy HBd' pr0 pr1 pq0 pq1 hkey hlen
        generalize feeOf rt (z.p * n) = fe at *
        go_wp2_with fail
        refine region_tail 15 (by kernel_rfl) (by kernel_rfl) V6 HV6.out ?_
        simp only [List.take_succ_cons, List.take_zero, List.drop_succ_cons, List.drop_zero]
        repeat still_step
        refine wpStill_nil ?_
        go_wp2
        exact ⟨⟨j + 1, fees + fe, left - n, _, by omega, rfl, rfl, by go_num, by omega, by rw [Int.natCast_add]; omega, HL.out, HK2.out, HB2.out, HA6.out, HS'.out⟩, by simp [intOf]; omega⟩
    · have hjl : j = ts.length := by omega
      have HA := hide A
      have HS := hide S
      rw [hjl] at HS
      have hlj' : ¬ (j : Int) < (ts.length : Int) := by omega
      clear A S
      go_wp2
      (try rw [hjl])
      exact HEx.out _ _ _ _ _ _ _ _ _ _ _ _ _ _ _ _ _ _ _ _ _ _ _ _ _ _ _ _ _ _ _ _ _ _ _ _ _ _ _ _ _ _ _ _ _ _ _ _ _ _ _ _ _ _ _ _ _ _ _ _ _ _ _ _ _ _ _ _ _ _ _ _ _ _ _ _ _ _ _ _ _ _ _ _ _ _ _ _ _ _ _ _ _ _ _ _ _ _ _ _ _ _ _ _ _ _ _ _ _ _ _ _ _ _ _ _ _ _ _ _ _ _ _ _ _ _ _ _ _ fees left TH' wr hlen hkey HA.out HS.out

end

end Go.Proofs.Ytcfoobhihhndjaa
