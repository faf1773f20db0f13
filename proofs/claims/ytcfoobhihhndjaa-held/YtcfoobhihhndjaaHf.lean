/- Held: the loop over his account. -/
import Derived.Test.YtcfoobhihhndjaaHc
namespace Go.Proofs.Ytcfoobhihhndjaa
open Go.RowKit Go.Sort

set_option maxRecDepth 1000000 in
set_option maxHeartbeats 16000000 in
theorem held_l4 {w5 : World} {PB AB : Nat} {gs : List Sk} {f : Nat → Nat → Int} {va : Option Addr} {vc : Nat} (hl : gs.length ≤ 16) (hAB : AB ≠ PB) (hc2 : w5.cell? ⟨AB, 2, none⟩ = some (.slice va gs.length vc))
    (hEn : ∀ s ∈ gs, ∃ h g : Nat, s.h = h ∧ s.g = g ∧ h < 3 ∧ g < 2 ∧ s.k = f h g) (hp : gs.Pairwise fun a b => ¬ (a.h = b.h ∧ a.g = b.g)) (P0 : PcSt w5 PB (leftP f gs 0) w5)
    (hRow : ∀ i, i < gs.length → ∃ b, va = some ⟨b, 0, none⟩ ∧ PB < b ∧ ∀ i (hi : i < gs.length) j u, gs[i].cells[j]? = some u → w5.cell? ⟨b, i * 5 + j, none⟩ = some u)
    (Q : Exit → Act → World → Prop) (u0 u1 u2 u3 u4 u5 u6 u7 u8 u10 u11 u12 u13 u15 u17 u18 u19 u20 u21 u22 u23 u24 u25 u26 u27 u28 u29 u30 u31 u32 u33 u34 u35 u36 u37 u38 u39 u40 u41 u42 u43 u44 u45 u46 u47 u48 u49 u50 u51 u52 u53 u54 u55 u56 u57 u58 u59 u60 u61 u62 u63 u64 u65 u66 u67 u68 u69 u70 u71 u72 u73 u74 u75 u76 u77 u78 u79 u80 u81 u82 u83 u84 u85 u86 u87 u88 u89 u90 u91 u92 u93 u94 u95 u96 u97 u98 u99 u100 u101 u102 u103 u104 u105 u106 u107 u108 u109 u110 u111 u112 u113 u114 u115 u116 u117 u118 u119 u120 u121 u122 u123 u124 u125 u126 u127 u128 u129 u130 u131 u132 u133 u134 u135 u136 u137 u138 u139 u140 u141 u142 u143 u144 u145 u146 u147 u148 u149 u150 u151 u152 u153 u154 u155 u156 u157 u158 u159 u160 u161 u162 u163 u164 u165 u166 u167 u168 u169 u170 u171 u172 u173 u174 u175 u176 u177 u178 u179 u180 u181 u182 u183 u184 u185 u186 u187 u188 u189 u190 u191 u192 u193 u194 u195 u196 u197 u198 u199 u200 u201 u202 u203 u204 u205 u206 u207 u208 u209 u210 u211 u212 u213 u214 u215 u216 u217 u218 u219 u220 u221 u222 u223 u224 u225 u226 : Value)
    (hE : ∀ (n4 n17 n163 n164 n165 n166 n167 n168 n169 n170 n171 n172 n173 n174 n175 n176 n177 n178 n179 n180 n181 n182 n183 n184 n185 n186 n187 n188 n189 n190 n191 n192 n193 n194 n195 n196 n197 n198 n199 n200 n201 n202 n203 n204 n205 n206 n207 n208 n209 n210 : Value) (W' : World), PcSt w5 PB (fun _ _ => 0) W' → Q (.exit 6) ⟨#[u0, u1, u2, u3, n4, u5, u6, u7, u8, .pointer (some ⟨PB, 0, none⟩), u10, u11, u12, u13, .pointer (some ⟨AB, 0, none⟩), u15, .int .i64 gs.length, n17, u18, u19, u20, u21, u22, u23, u24, u25, u26, u27, u28, u29, u30, u31, u32, u33, u34, u35, u36, u37, u38, u39, u40, u41, u42, u43, u44, u45, u46, u47, u48, u49, u50, u51, u52, u53, u54, u55, u56, u57, u58, u59, u60, u61, u62, u63, u64, u65, u66, u67, u68, u69, u70, u71, u72, u73, u74, u75, u76, u77, u78, u79, u80, u81, u82, u83, u84, u85, u86, u87, u88, u89, u90, u91, u92, u93, u94, u95, u96, u97, u98, u99, u100, u101, u102, u103, u104, u105, u106, u107, u108, u109, u110, u111, u112, u113, u114, u115, u116, u117, u118, u119, u120, u121, u122, u123, u124, u125, u126, u127, u128, u129, u130, u131, u132, u133, u134, u135, u136, u137, u138, u139, u140, u141, u142, u143, u144, u145, u146, u147, u148, u149, u150, u151, u152, u153, u154, u155, u156, u157, u158, u159, u160, u161, u162, n163, n164, n165, n166, n167, n168, n169, n170, n171, n172, n173, n174, n175, n176, n177, n178, n179, n180, n181, n182, n183, n184, n185, n186, n187, n188, n189, n190, n191, n192, n193, n194, n195, n196, n197, n198, n199, n200, n201, n202, n203, n204, n205, n206, n207, n208, n209, n210, u211, u212, u213, u214, u215, u216, u217, u218, u219, u220, u221, u222, u223, u224, u225, u226], []⟩ W') :
    Code.wp Try.prog (Code.loop (loopAt Try.f6 3)) Q ⟨#[u0, u1, u2, u3, u4, u5, u6, u7, u8, .pointer (some ⟨PB, 0, none⟩), u10, u11, u12, u13, .pointer (some ⟨AB, 0, none⟩), u15, .int .i64 0, u17, u18, u19, u20, u21, u22, u23, u24, u25, u26, u27, u28, u29, u30, u31, u32, u33, u34, u35, u36, u37, u38, u39, u40, u41, u42, u43, u44, u45, u46, u47, u48, u49, u50, u51, u52, u53, u54, u55, u56, u57, u58, u59, u60, u61, u62, u63, u64, u65, u66, u67, u68, u69, u70, u71, u72, u73, u74, u75, u76, u77, u78, u79, u80, u81, u82, u83, u84, u85, u86, u87, u88, u89, u90, u91, u92, u93, u94, u95, u96, u97, u98, u99, u100, u101, u102, u103, u104, u105, u106, u107, u108, u109, u110, u111, u112, u113, u114, u115, u116, u117, u118, u119, u120, u121, u122, u123, u124, u125, u126, u127, u128, u129, u130, u131, u132, u133, u134, u135, u136, u137, u138, u139, u140, u141, u142, u143, u144, u145, u146, u147, u148, u149, u150, u151, u152, u153, u154, u155, u156, u157, u158, u159, u160, u161, u162, u163, u164, u165, u166, u167, u168, u169, u170, u171, u172, u173, u174, u175, u176, u177, u178, u179, u180, u181, u182, u183, u184, u185, u186, u187, u188, u189, u190, u191, u192, u193, u194, u195, u196, u197, u198, u199, u200, u201, u202, u203, u204, u205, u206, u207, u208, u209, u210, u211, u212, u213, u214, u215, u216, u217, u218, u219, u220, u221, u222, u223, u224, u225, u226], []⟩ w5 := by
  have HRow := hide hRow
  have HEn := hide hEn
  have HPw := hide hp
  have HP0 := hide P0
  have HEx := hide hE
  have HC2 := hide hc2
  clear hEn hp P0 hRow hE hc2
  conv => arg 2; arg 1; whnf
  dsimp only
  go_loopw [16] (fun i wr => ∃ k : Nat, k ≤ gs.length ∧ i = .int .i64 k ∧ PcSt w5 PB (leftP f gs k) wr) (fun i _ => gs.length - (intOf i).toNat)
  case atStart => exact ⟨0, Nat.zero_le _, rfl, HP0.out⟩
  case round =>
    clear HP0
    obtain ⟨j, hj, rfl, S⟩ := hrel
    have ca := S.kp.cell HC2.out hAB
    by_cases hlj : j < gs.length
    · obtain ⟨b', rfl, hbl, hc⟩ := HRow.out j hlj
      have ne : ¬ b' = PB := by omega
      have y0 := S.kp.cell (hc j hlj 0 _ rfl) ne
      have y1 := S.kp.cell (hc j hlj 1 _ rfl) ne
      have y2 := S.kp.cell (hc j hlj 2 _ rfl) ne
      have y3 := S.kp.cell (hc j hlj 3 _ rfl) ne
      have y4 := S.kp.cell (hc j hlj 4 _ rfl) ne
      simp only [Nat.add_zero] at y0
      have hlj' : (j : Int) < (gs.length : Int) := by omega
      obtain ⟨eh, eg, e1, e2, hh, hg, ek⟩ := HEn.out gs[j] (List.getElem_mem hlj)
      have HAt := hide (left_at (f := f) hlj e1 e2)
      have HNx := hide (left_next (f := f) HPw.out hlj e1 e2)
      have HSS := hide S
      clear hc S ne
      generalize gs[j] = s at *
      rw [e1] at y0
      rw [e2] at y1
      have HEk := hide ek
      clear e1 e2 ek
      go_wp2_with fail
      have hb4 := heap_alloc_new wr (.cells #[.int .i64 eh, .int .i64 eg, .int .i64 s.f, .int .i64 s.k, .int .i64 s.c] 33)
      have k4 : Kep non wr (wr.alloc (.cells #[.int .i64 eh, .int .i64 eg, .int .i64 s.f, .int .i64 s.k, .int .i64 s.c] 33)) := (Kep.refl _ _).alloc _
      have HS4 := hide (HSS.out.later k4)
      generalize hB : wr.heap.size = B at *
      generalize wr.alloc (.cells #[.int .i64 eh, .int .i64 eg, .int .i64 s.f, .int .i64 s.k, .int .i64 s.c] 33) = W4 at *
      have d1 : decide ((eh : Int) < 0) = false := decide_eq_false (by omega)
      have d2 : decide (2 < (eh : Int)) = false := decide_eq_false (by omega)
      have d2' : decide (2 < eh) = false := decide_eq_false (by omega)
      have d3 : decide ((eg : Int) < 0) = false := decide_eq_false (by omega)
      have d4 : decide (1 < (eg : Int)) = false := decide_eq_false (by omega)
      have d4' : decide (1 < eg) = false := decide_eq_false (by omega)
      have hh' : (eh : Int) < 3 := by omega
      have hg' : (eg : Int) < 2 := by omega
      have HEx2 := hide HEx
      have Hb4 := hide hb4
      clear hb4 k4 y0 y1 y2 y3 y4 HSS HEx HRow HEn HC2
      go_cut [204] from 175 to 204 (fun v204 wx => v204 = .bool false ∧ ∃ n, wx = W4.drewN n)
      case first =>
        have hb4 := Hb4.out
        have z0 := cell_of_row _ _ 0 _ _ _ hb4
        have z1 := cell_of_row _ _ 1 _ _ _ hb4
        have z3 := cell_of_row _ _ 3 _ _ _ hb4
        obtain ⟨tc, tf⟩ := HS4.out.pc eh eg hh hg
        rw [HAt.out, ← HEk.out] at tc
        clear HEx2 HNx HPw HS4 Hb4 HAt hB hb4
        generalize s.k = sk at *
        go_quiet (fail)
        go_wp2
        go_meet
        exact ⟨rfl, _, rfl⟩
      case rest =>
        obtain ⟨rfl, nq, rfl⟩ := hcut
        obtain ⟨V6, hV6, k6⟩ : ∃ V6, V6 = (W4.drewN nq).drew ∧ Kep non W4 V6 := ⟨_, rfl, ((Kep.refl _ _).drewN nq).drew⟩
        have S6 := HS4.out.later k6
        obtain ⟨tc6, tf6⟩ := S6.pc eh eg hh hg
        have x0 := k6.cell (cell_of_row _ _ 0 _ _ _ Hb4.out) (fun f => f)
        have x1 := k6.cell (cell_of_row _ _ 1 _ _ _ Hb4.out) (fun f => f)
        have HV6 := hide hV6
        have HG := hide (show ∃ k : Nat, k ≤ gs.length ∧ (k : Int) = (j : Int) + 1 ∧ PcSt w5 PB (leftP f gs k) (V6.setCell ⟨PB, eh * 2 + eg, none⟩ (.int .i64 0)) from ⟨j + 1, by omega, by simp, (S6.put hh hg 0).ext fun a b _ _ => HNx.out a b⟩)
        clear S6 HNx hV6 k6 d1 d2 d2' d3 d4 d4' HS4 Hb4 HAt HEx2 HPw
        go_wp2_with fail
        refine region_tail 6 (by kernel_rfl) (by kernel_rfl) V6 HV6.out ?_
        simp only [List.take_succ_cons, List.take_zero, List.drop_succ_cons, List.drop_zero]
        repeat still_step
        refine wpStill_nil ?_
        go_wp2
        obtain ⟨k', g1, g3, g4⟩ := HG.out
        exact ⟨⟨k', g1, by rw [g3], g4⟩, by simp [intOf]; omega⟩
    · have hjl : j = gs.length := by omega
      have HS5 := hide (show PcSt w5 PB (fun _ _ => 0) wr from S.ext fun a b _ _ => by rw [hjl, left_zero])
      have hlj' : ¬ (j : Int) < (gs.length : Int) := by omega
      clear S HEn HRow HPw
      go_wp2
      (try rw [hjl])
      exact HEx.out _ _ _ _ _ _ _ _ _ _ _ _ _ _ _ _ _ _ _ _ _ _ _ _ _ _ _ _ _ _ _ _ _ _ _ _ _ _ _ _ _ _ _ _ _ _ _ _ _ _ _ HS5.out

end Go.Proofs.Ytcfoobhihhndjaa
