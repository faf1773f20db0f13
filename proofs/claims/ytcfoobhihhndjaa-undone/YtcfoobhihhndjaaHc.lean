/- Held: the loop over orders. -/
import Derived.Test.YtcfoobhihhndjaaBa
namespace Go.Proofs.Ytcfoobhihhndjaa

section
open Go.RowKit Go.Sort

/-- the loops of a body, the outer ahead of the inner -/
def loopsIn : Code → List Code
  | .loop c => c :: loopsIn c
  | .seq a b => loopsIn a ++ loopsIn b
  | .block _ c => loopsIn c
  | .scope c => loopsIn c
  | .cond _ a b => loopsIn a ++ loopsIn b
  | _ => []
def loopAt (f : Func) (n : Nat) : Code := ((f.body.map loopsIn).getD []).getD n .skip

set_option maxRecDepth 1000000 in
set_option maxHeartbeats 16000000 in
theorem held_l3 {w3 : World} {PB : Nat} {t : Nat} {l : List Od} {va : Option Addr} {vc : Nat} {m : Mt} (T : Told m t l) (hl60 : l.length ≤ 60) (hSeen : ∀ o ∈ l, o.Seen t) (P0 : PcSt w3 PB (fun _ _ => 0) w3)
    (hRow : ∀ i, i < l.length → ∃ b, va = some ⟨b, 0, none⟩ ∧ PB + 1 ≤ b ∧ ∀ i (hi : i < l.length) j u, l[i].cells[j]? = some u → w3.cell? ⟨b, i * 8 + j, none⟩ = some u)
    (Q : Exit → Act → World → Prop) (u0 u1 u2 u3 u4 u5 u6 u11 u13 u14 u15 u16 u17 u18 u19 u20 u21 u22 u23 u24 u25 u26 u27 u28 u29 u30 u31 u32 u33 u34 u35 u36 u37 u38 u39 u40 u41 u42 u43 u44 u45 u46 u47 u48 u49 u50 u51 u52 u53 u54 u55 u56 u57 u58 u59 u60 u61 u62 u63 u64 u65 u66 u67 u68 u69 u70 u71 u72 u73 u74 u75 u76 u77 u78 u79 u80 u81 u82 u83 u84 u85 u86 u87 u88 u89 u90 u91 u92 u93 u94 u95 u96 u97 u98 u99 u100 u101 u102 u103 u104 u105 u106 u107 u108 u109 u110 u111 u112 u113 u114 u115 u116 u117 u118 u119 u120 u121 u122 u123 u124 u125 u126 u127 u128 u129 u130 u131 u132 u133 u134 u135 u136 u137 u138 u139 u140 u141 u142 u143 u144 u145 u146 u147 u148 u149 u150 u151 u152 u153 u154 u155 u156 u157 u158 u159 u160 u161 u162 u163 u164 u165 u166 u167 u168 u169 u170 u171 u172 u173 u174 u175 u176 u177 u178 u179 u180 u181 u182 u183 u184 u185 u186 u187 u188 u189 u190 u191 u192 u193 u194 u195 u196 u197 u198 u199 u200 u201 u202 u203 u204 u205 u206 u207 u208 u209 u210 u211 u212 u213 u214 u215 u216 u217 u218 u219 u220 u221 u222 u223 u224 u225 u226 : Value)
    (hE : ∀ (n4 n13 n52 n53 n54 n55 n56 n57 n58 n59 n60 n61 n62 n63 n64 n65 n66 n67 n68 n69 n70 n71 n72 n73 n74 n75 n76 n77 n78 n79 n80 n81 n82 n83 n84 n85 n86 n87 n88 n89 n90 n91 n92 n93 n94 n95 n96 n97 n98 n99 n100 n101 n102 n103 n104 n105 n106 n107 n108 n109 n110 n111 n112 n113 n114 n115 n116 n117 n118 n119 n120 n121 n122 n123 n124 n125 n126 n127 n128 n129 n130 n131 n132 n133 n134 n135 n136 n137 n138 n139 n140 n141 : Value) (W' : World), PcSt w3 PB (fun h g => wantP h g l) W' → Q (.exit 4) ⟨#[u0, u1, u2, u3, n4, u5, u6, .int .i64 t, .int .i64 (wantM l), .pointer (some ⟨PB, 0, none⟩), .slice va l.length vc, u11, .int .i64 l.length, n13, u14, u15, u16, u17, u18, u19, u20, u21, u22, u23, u24, u25, u26, u27, u28, u29, u30, u31, u32, u33, u34, u35, u36, u37, u38, u39, u40, u41, u42, u43, u44, u45, u46, u47, u48, u49, u50, u51, n52, n53, n54, n55, n56, n57, n58, n59, n60, n61, n62, n63, n64, n65, n66, n67, n68, n69, n70, n71, n72, n73, n74, n75, n76, n77, n78, n79, n80, n81, n82, n83, n84, n85, n86, n87, n88, n89, n90, n91, n92, n93, n94, n95, n96, n97, n98, n99, n100, n101, n102, n103, n104, n105, n106, n107, n108, n109, n110, n111, n112, n113, n114, n115, n116, n117, n118, n119, n120, n121, n122, n123, n124, n125, n126, n127, n128, n129, n130, n131, n132, n133, n134, n135, n136, n137, n138, n139, n140, n141, u142, u143, u144, u145, u146, u147, u148, u149, u150, u151, u152, u153, u154, u155, u156, u157, u158, u159, u160, u161, u162, u163, u164, u165, u166, u167, u168, u169, u170, u171, u172, u173, u174, u175, u176, u177, u178, u179, u180, u181, u182, u183, u184, u185, u186, u187, u188, u189, u190, u191, u192, u193, u194, u195, u196, u197, u198, u199, u200, u201, u202, u203, u204, u205, u206, u207, u208, u209, u210, u211, u212, u213, u214, u215, u216, u217, u218, u219, u220, u221, u222, u223, u224, u225, u226], []⟩ W') :
    Code.wp Try.prog (Code.loop (loopAt Try.f6 2)) Q ⟨#[u0, u1, u2, u3, u4, u5, u6, .int .i64 t, .int .i64 0, .pointer (some ⟨PB, 0, none⟩), .slice va l.length vc, u11, .int .i64 0, u13, u14, u15, u16, u17, u18, u19, u20, u21, u22, u23, u24, u25, u26, u27, u28, u29, u30, u31, u32, u33, u34, u35, u36, u37, u38, u39, u40, u41, u42, u43, u44, u45, u46, u47, u48, u49, u50, u51, u52, u53, u54, u55, u56, u57, u58, u59, u60, u61, u62, u63, u64, u65, u66, u67, u68, u69, u70, u71, u72, u73, u74, u75, u76, u77, u78, u79, u80, u81, u82, u83, u84, u85, u86, u87, u88, u89, u90, u91, u92, u93, u94, u95, u96, u97, u98, u99, u100, u101, u102, u103, u104, u105, u106, u107, u108, u109, u110, u111, u112, u113, u114, u115, u116, u117, u118, u119, u120, u121, u122, u123, u124, u125, u126, u127, u128, u129, u130, u131, u132, u133, u134, u135, u136, u137, u138, u139, u140, u141, u142, u143, u144, u145, u146, u147, u148, u149, u150, u151, u152, u153, u154, u155, u156, u157, u158, u159, u160, u161, u162, u163, u164, u165, u166, u167, u168, u169, u170, u171, u172, u173, u174, u175, u176, u177, u178, u179, u180, u181, u182, u183, u184, u185, u186, u187, u188, u189, u190, u191, u192, u193, u194, u195, u196, u197, u198, u199, u200, u201, u202, u203, u204, u205, u206, u207, u208, u209, u210, u211, u212, u213, u214, u215, u216, u217, u218, u219, u220, u221, u222, u223, u224, u225, u226], []⟩ w3 := by
  have HRow := hide hRow
  have HSeen := hide hSeen
  have HT := hide T
  have HP0 := hide P0
  have HEx := hide hE
  have HT0 := hide (show wantM (l.take 0) = 0 ∧ ∀ h g, wantP h g (l.take 0) = 0 from ⟨rfl, fun _ _ => rfl⟩)
  clear T hSeen P0 hRow hE
  conv => arg 2; arg 1; whnf
  dsimp only
  go_loopw [8, 12] (fun mo i wr => ∃ k : Nat, k ≤ l.length ∧ mo = .int .i64 (wantM (l.take k)) ∧ i = .int .i64 k ∧ PcSt w3 PB (fun h g => wantP h g (l.take k)) wr) (fun _ i _ => l.length - (intOf i).toNat)
  case atStart => exact ⟨0, Nat.zero_le _, by rw [HT0.out.1], rfl, HP0.out.ext fun a b _ _ => (HT0.out.2 a b).symm⟩
  case round =>
    clear HP0 HT0
    obtain ⟨j, hj, rfl, rfl, S⟩ := hrel
    by_cases hlj : j < l.length
    · obtain ⟨b', rfl, hbl, hc⟩ := HRow.out j hlj
      have ne : ¬ b' = PB := by omega
      have y0 := S.kp.cell (hc j hlj 0 _ rfl) ne
      have y1 := S.kp.cell (hc j hlj 1 _ rfl) ne
      have y2 := S.kp.cell (hc j hlj 2 _ rfl) ne
      have y3 := S.kp.cell (hc j hlj 3 _ rfl) ne
      have y4 := S.kp.cell (hc j hlj 4 _ rfl) ne
      have y5 := S.kp.cell (hc j hlj 5 _ rfl) ne
      have y6 := S.kp.cell (hc j hlj 6 _ rfl) ne
      have y7 := S.kp.cell (hc j hlj 7 _ rfl) ne
      simp only [Nat.add_zero] at y0
      have hlj' : (j : Int) < (l.length : Int) := by omega
      have Sn := HSeen.out l[j] (List.getElem_mem hlj)
      have bM := wantM_bd (l.take j) fun o ho => ⟨(HSeen.out o (List.mem_of_mem_take ho)).p, (HSeen.out o (List.mem_of_mem_take ho)).q⟩
      have bP := fun h g => wantP_bd h g (l.take j) fun o ho => (HSeen.out o (List.mem_of_mem_take ho)).q
      have hlen : (l.take j).length ≤ 60 := by rw [List.length_take]; omega
      have HNx := hide (And.intro (wantM_step hlj) (fun h g => wantP_step h g hlj))
      have HPr := hide (fun (h0 : 0 < j) => show ∃ pid : Int, pid < l[j].id ∧ wr.cell? ⟨b', (j - 1) * 8, none⟩ = some (.int .i64 pid) from by
        refine ⟨l[j - 1].id, List.pairwise_iff_getElem.1 HT.out.up (j - 1) j (by omega) hlj (by omega), ?_⟩
        have := S.kp.cell (hc (j - 1) (by omega) 0 _ rfl) ne
        simpa using this)
      have HSS := hide S
      have lb' : b' < wr.heap.size := World.block_lt_of_cell? wr _ y0
      clear hc S ne
      generalize l[j] = o at *
      generalize wantM (l.take j) = wm at *
      generalize hwp : (fun h g => wantP h g (l.take j)) = wp at *
      obtain ⟨et, ⟨oh, eh, hh⟩, ⟨og, eg, hg⟩, s01, ⟨p1, p2⟩, ⟨q1, q2⟩, w03⟩ := Sn
      rw [et] at y1
      rw [eh] at y2
      rw [eg] at y3
      have HFirst := hide (And.intro y0 (And.intro y1 (And.intro y2 (And.intro y3 (And.intro y4 (And.intro y5 (And.intro y6 y7)))))))
      have e2 : decide (o.q < 1) = false := decide_eq_false (by omega)
      have e3 : decide ((oh : Int) < 0) = false := decide_eq_false (by omega)
      have e4 : decide (2 < (oh : Int)) = false := decide_eq_false (by omega)
      have e4' : decide (2 < oh) = false := decide_eq_false (by omega)
      have e5 : decide ((og : Int) < 0) = false := decide_eq_false (by omega)
      have e6 : decide (1 < (og : Int)) = false := decide_eq_false (by omega)
      have e6' : decide (1 < og) = false := decide_eq_false (by omega)
      have HW : Hid (o.w = 0 ∨ o.w = 3) := hide w03
      have HS01 : Hid (o.s = 0 ∨ o.s = 1) := hide s01
      clear w03 s01
      go_wp2_with fail
      have hb4 := heap_alloc_new wr (.cells #[.int .i64 o.id, .int .i64 t, .int .i64 oh, .int .i64 og, .int .i64 o.s, .int .i64 o.p, .int .i64 o.q, .int .i64 o.w] 42)
      have k4 : Kep non wr (wr.alloc (.cells #[.int .i64 o.id, .int .i64 t, .int .i64 oh, .int .i64 og, .int .i64 o.s, .int .i64 o.p, .int .i64 o.q, .int .i64 o.w] 42)) := (Kep.refl _ _).alloc _
      have HS4 := hide (HSS.out.later k4)
      have HPr4 := hide (fun (h0 : 0 < j) => show ∃ pid : Int, pid < o.id ∧ (wr.alloc (.cells #[.int .i64 o.id, .int .i64 t, .int .i64 oh, .int .i64 og, .int .i64 o.s, .int .i64 o.p, .int .i64 o.q, .int .i64 o.w] 42)).cell? ⟨b', (j - 1) * 8, none⟩ = some (.int .i64 pid) from by
        obtain ⟨pid, h1, h2⟩ := HPr.out h0
        exact ⟨pid, h1, k4.cell h2 (fun f => f)⟩)
      generalize hB : wr.heap.size = B at *
      generalize wr.alloc (.cells #[.int .i64 o.id, .int .i64 t, .int .i64 oh, .int .i64 og, .int .i64 o.s, .int .i64 o.p, .int .i64 o.q, .int .i64 o.w] 42) = W4 at *
      have Hb4 := hide hb4
      clear hb4 k4 y0 y1 y2 y3 y4 y5 y6 y7 HSS HPr HFirst
      go_cut [115] from 62 to 115 (fun v115 wx => v115 = .bool false ∧ ∃ n, wx = W4.drewN n)
      case first =>
        clear HEx HNx bP hwp HT HSeen HRow HS01 HS4 lb' hB
        have hb4 := Hb4.out
        have z0 := cell_of_row _ _ 0 _ _ _ hb4
        have z1 := cell_of_row _ _ 1 _ _ _ hb4
        have z2 := cell_of_row _ _ 2 _ _ _ hb4
        have z3 := cell_of_row _ _ 3 _ _ _ hb4
        have z6 := cell_of_row _ _ 6 _ _ _ hb4
        have z7 := cell_of_row _ _ 7 _ _ _ hb4
        clear hb4 Hb4
        rcases Nat.eq_zero_or_pos j with hj0 | hj0
        · subst hj0
          clear HPr4
          rcases HW.out with hw | hw
          all_goals
            rw [hw] at z7
            go_quiet (fail)
            go_wp2
            go_meet
            exact ⟨rfl, _, rfl⟩
        · obtain ⟨i, rfl⟩ : ∃ i, j = i + 1 := ⟨j - 1, by omega⟩
          obtain ⟨pid, hpid, zp⟩ := HPr4.out hj0
          rw [Nat.add_sub_cancel] at zp
          have e7 : decide (o.id ≤ pid) = false := decide_eq_false (by omega)
          have e8 : decide (0 < ((i + 1 : Nat) : Int)) = true := decide_eq_true (by omega)
          have e8' : decide (0 < i + 1) = true := decide_eq_true (by omega)
          clear HPr4
          rcases HW.out with hw | hw
          all_goals
            rw [hw] at z7
            go_quiet (fail)
            go_wp2
            go_meet
            exact ⟨rfl, _, rfl⟩
      case rest =>
        obtain ⟨rfl, nq, rfl⟩ := hcut
        have S5 := HS4.out.later ((Kep.refl non W4).drewN nq)
        have hb5 := (((Kep.refl non W4).drewN nq).block B (Array.getElem?_eq_some_iff.1 Hb4.out).1 (fun f => f)).trans Hb4.out
        clear HS4 Hb4 HPr4 HT HSeen HRow HW
        generalize W4.drewN nq = W5 at *
        have z2 := cell_of_row _ _ 2 _ _ _ hb5
        have z3 := cell_of_row _ _ 3 _ _ _ hb5
        have z4 := cell_of_row _ _ 4 _ _ _ hb5
        have z5 := cell_of_row _ _ 5 _ _ _ hb5
        have z6 := cell_of_row _ _ 6 _ _ _ hb5
        have pq := mul_le' (a := o.p) (b := o.q) (A := 100000) (B := 10000) (by omega) p2 (by omega) q2
        obtain ⟨pq0, pq1⟩ := pq
        rcases HS01.out with hs | hs
        · rw [hs] at z4
          have HG := hide (show ∃ k : Nat, k ≤ l.length ∧ wm + o.p * o.q = wantM (l.take k) ∧ (k : Int) = (j : Int) + 1 ∧ PcSt w3 PB (fun h g => wantP h g (l.take k)) W5 from ⟨j + 1, by omega, by rw [HNx.out.1, if_pos hs], by simp, S5.ext fun a b _ _ => by rw [HNx.out.2, if_neg (fun f => f.1 hs), Int.add_zero, ← hwp]⟩)
          clear S5 HNx hwp bP HEx
          go_wp2
          obtain ⟨k', g1, g2, g3, g4⟩ := HG.out
          exact ⟨⟨k', g1, by rw [g2], by rw [g3], g4⟩, by simp [intOf]; omega⟩
        · rw [hs] at z4
          obtain ⟨V6, hV6, k6⟩ : ∃ V6, V6 = W5.drew ∧ Kep non W5 V6 := ⟨_, rfl, (Kep.refl _ _).drew⟩
          have S6 := S5.later k6
          obtain ⟨tc, tf⟩ := S6.pc oh og hh hg
          have x2 := k6.cell z2 (fun f => f)
          have x3 := k6.cell z3 (fun f => f)
          have x6 := k6.cell z6 (fun f => f)
          have HV6 := hide hV6
          have bq : 0 ≤ wp oh og ∧ wp oh og ≤ 600000 := by have := bP oh og; rw [← hwp]; simp only []; omega
          have hh' : (oh : Int) < 3 := by omega
          have hg' : (og : Int) < 2 := by omega
          have HG := hide (show ∃ k : Nat, k ≤ l.length ∧ wm = wantM (l.take k) ∧ (k : Int) = (j : Int) + 1 ∧ PcSt w3 PB (fun h g => wantP h g (l.take k)) (V6.setCell ⟨PB, oh * 2 + og, none⟩ (.int .i64 (wp oh og + o.q))) from ⟨j + 1, by omega, by rw [HNx.out.1, if_neg (by omega), Int.add_zero], by simp, (S6.put hh hg (wp oh og + o.q)).ext fun a b _ _ => by
            rw [HNx.out.2]
            by_cases e : a = oh ∧ b = og
            · obtain ⟨rfl, rfl⟩ := e
              rw [if_pos ⟨rfl, rfl⟩, if_pos ⟨by omega, eh, eg⟩, ← hwp]
            · rw [if_neg e, if_neg (fun f => e ⟨by have := f.2.1; omega, by have := f.2.2; omega⟩), Int.add_zero, ← hwp]⟩)
          clear S5 S6 HNx hwp bP HEx hV6 k6 e2 e3 e4 e4' e5 e6 e6' pq0 pq1 hlen bM
          go_wp2_with fail
          refine region_tail 16 (by kernel_rfl) (by kernel_rfl) V6 HV6.out ?_
          simp only [List.take_succ_cons, List.take_zero, List.drop_succ_cons, List.drop_zero]
          repeat still_step
          refine wpStill_nil ?_
          go_wp2
          obtain ⟨k', g1, g2, g3, g4⟩ := HG.out
          exact ⟨⟨k', g1, by rw [g2], by rw [g3], g4⟩, by simp [intOf]; omega⟩
    · have hjl : j = l.length := by omega
      have HS5 := hide S
      rw [hjl, List.take_length] at HS5
      have HM := hide (show wantM (l.take j) = wantM l by rw [hjl, List.take_length])
      have hlj' : ¬ (j : Int) < (l.length : Int) := by omega
      clear S HSeen HRow HT
      generalize wantM (l.take j) = wm at *
      go_wp2
      (try rw [HM.out])
      (try rw [hjl])
      exact HEx.out _ _ _ _ _ _ _ _ _ _ _ _ _ _ _ _ _ _ _ _ _ _ _ _ _ _ _ _ _ _ _ _ _ _ _ _ _ _ _ _ _ _ _ _ _ _ _ _ _ _ _ _ _ _ _ _ _ _ _ _ _ _ _ _ _ _ _ _ _ _ _ _ _ _ _ _ _ _ _ _ _ _ _ _ _ _ _ _ _ _ _ _ _ HS5.out

end

end Go.Proofs.Ytcfoobhihhndjaa
