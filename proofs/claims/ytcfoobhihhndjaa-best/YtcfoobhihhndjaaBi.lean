/- Best. -/
import Derived.Test.YtcfoobhihhndjaaBh
import Derived.Test.YtcfoobhihhndjaaBj
namespace Go.Proofs.Ytcfoobhihhndjaa

section
open Go.RowKit Go.Sort

theorem orderOf_ok (s : Stp) {n : Nat} (hn : 1 ≤ n) : ∃ h g sd, XOk (orderOf s n) h g sd n := by
  refine ⟨pk s.h n, pk s.g 2, pk s.p 2, ?_⟩
  have h1 := pk_lt s.t (n := 4) (by omega)
  have h2 := pk_lt s.h (n := n) (by omega)
  have h3 := pk_lt s.g (n := 2) (by omega)
  have h4 := pk_lt s.p (n := 2) (by omega)
  have h5 := pk_lt s.q (n := 300) (by omega)
  have h6 := pk_lt (s.q.tdiv 300) (n := 4) (by omega)
  exact ⟨⟨by simp only [orderOf]; omega, by simp only [orderOf]; omega⟩, rfl, h2, rfl, h3, rfl, h4, ⟨by simp only [orderOf]; omega, by simp only [orderOf]; omega⟩, ⟨by simp only [orderOf]; omega, by simp only [orderOf]; omega⟩⟩

set_option maxRecDepth 1000000 in
set_option maxHeartbeats 16000000 in
theorem best_r1 {w : World} {rs : List Int} {X k SB : Nat} {m : Mt} {W : World} {s : Stp} (D : DeskB w rs X m W) (St : Stood rs k m) (hk : k ≤ 100) (hr1 : 1 ≤ rs.length ∧ rs.length ≤ 3) (hR : ∀ y ∈ rs, 0 ≤ y ∧ y ≤ 100) (sok : s.ok) (hS : ∀ j u, s.cells[j]? = some u → W.cell? ⟨SB, j, none⟩ = some u)
    (Post : Ending → World → Prop) (hP : ∀ W', Kep non w W' → Post (.returned (.bool true)) W') (u0 u1 u2 u3 u4 u6 u8 u9 u10 u11 u12 u13 u14 u15 u16 u17 u18 u19 u20 u21 u22 u23 u24 u25 u26 u27 u28 u29 u30 u31 u32 u33 u34 u35 u36 u37 u38 u39 u40 u41 u42 u43 u44 u45 u46 u47 u48 u49 u50 u51 u52 u53 u54 u55 u56 u57 u58 u59 u60 u61 u62 u63 u64 u65 u66 u67 u68 u69 u70 u71 u72 u73 u74 u75 u76 u77 u78 u79 u80 u81 u82 u83 u84 u85 u86 u87 u88 u89 u90 u91 u92 u93 u94 u95 u96 u97 u98 u99 u100 u101 u102 u103 u104 u105 u106 u107 u108 u109 u110 u111 u112 u113 u114 u115 u116 u117 u118 u119 u120 u121 u122 u123 u124 u125 u126 u127 u128 u129 u130 u131 u132 u133 u134 u135 u136 u137 u138 u139 u140 u141 u142 u143 u144 u145 u146 u147 u148 u149 u150 u151 u152 u153 u154 u155 u156 u157 u158 u159 u160 u161 u162 u163 u164 u165 u166 u167 u168 u169 u170 u171 u172 u173 u174 u175 u176 u177 u178 u179 u180 u181 u182 u183 u184 u185 u186 u187 u188 u189 u190 u191 u192 u193 u194 u195 u196 u197 u198 u199 u200 u201 u202 u203 u204 u205 u206 u207 u208 u209 u210 u211 u212 u213 u214 u215 u216 u217 u218 u219 u220 u221 u222 u223 u224 u225 u226 u227 u228 u229 u230 u231 u232 u233 u234 u235 u236 u237 u238 u239 u240 u241 u242 u243 u244 u245 u246 u247 u248 u249 u250 u251 u252 u253 u254 u255 u256 u257 u258 u259 u260 u261 u262 u263 u264 u265 u266 u267 u268 u269 u270 u271 u272 u273 u274 u275 u276 u277 u278 u279 u280 u281 u282 u283 u284 u285 u286 u287 u288 u289 u290 u291 u292 u293 u294 u295 u296 u297 u298 u299 u300 u301 u302 u303 u304 u305 u306 u307 u308 u309 u310 u311 u312 u313 u314 u315 u316 u317 u318 u319 u320 u321 u322 u323 u324 u325 u326 u327 u328 u329 u330 u331 u332 u333 u334 u335 u336 u337 u338 u339 u340 u341 u342 u343 u344 u345 u346 u347 u348 u349 u350 u351 u352 u353 u354 u355 u356 u357 u358 u359 u360 u361 u362 u363 u364 u365 u366 u367 u368 u369 u370 u371 u372 u373 u374 u375 u376 u377 u378 u379 u380 u381 u382 u383 u384 u385 u386 u387 u388 u389 u390 u391 u392 u393 u394 : Value) :
    Code.wp Try.prog ((Try.f4.body.bind afterLoop).getD .skip) (bodyPost Try.prog Try.f4 Post) ⟨#[u0, u1, u2, u3, u4, .pointer (some ⟨SB, 0, none⟩), u6, .pointer (some ⟨w.heap.size, 0, none⟩), u8, u9, u10, u11, u12, u13, u14, u15, u16, u17, u18, u19, u20, u21, u22, u23, u24, u25, u26, u27, u28, u29, u30, u31, u32, u33, u34, u35, u36, u37, u38, u39, u40, u41, u42, u43, u44, u45, u46, u47, u48, u49, u50, u51, u52, u53, u54, u55, u56, u57, u58, u59, u60, u61, u62, u63, u64, u65, u66, u67, u68, u69, u70, u71, u72, u73, u74, u75, u76, u77, u78, u79, u80, u81, u82, u83, u84, u85, u86, u87, u88, u89, u90, u91, u92, u93, u94, u95, u96, u97, u98, u99, u100, u101, u102, u103, u104, u105, u106, u107, u108, u109, u110, u111, u112, u113, u114, u115, u116, u117, u118, u119, u120, u121, u122, u123, u124, u125, u126, u127, u128, u129, u130, u131, u132, u133, u134, u135, u136, u137, u138, u139, u140, u141, u142, u143, u144, u145, u146, u147, u148, u149, u150, u151, u152, u153, u154, u155, u156, u157, u158, u159, u160, u161, u162, u163, u164, u165, u166, u167, u168, u169, u170, u171, u172, u173, u174, u175, u176, u177, u178, u179, u180, u181, u182, u183, u184, u185, u186, u187, u188, u189, u190, u191, u192, u193, u194, u195, u196, u197, u198, u199, u200, u201, u202, u203, u204, u205, u206, u207, u208, u209, u210, u211, u212, u213, u214, u215, u216, u217, u218, u219, u220, u221, u222, u223, u224, u225, u226, u227, u228, u229, u230, u231, u232, u233, u234, u235, u236, u237, u238, u239, u240, u241, u242, u243, u244, u245, u246, u247, u248, u249, u250, u251, u252, u253, u254, u255, u256, u257, u258, u259, u260, u261, u262, u263, u264, u265, u266, u267, u268, u269, u270, u271, u272, u273, u274, u275, u276, u277, u278, u279, u280, u281, u282, u283, u284, u285, u286, u287, u288, u289, u290, u291, u292, u293, u294, u295, u296, u297, u298, u299, u300, u301, u302, u303, u304, u305, u306, u307, u308, u309, u310, u311, u312, u313, u314, u315, u316, u317, u318, u319, u320, u321, u322, u323, u324, u325, u326, u327, u328, u329, u330, u331, u332, u333, u334, u335, u336, u337, u338, u339, u340, u341, u342, u343, u344, u345, u346, u347, u348, u349, u350, u351, u352, u353, u354, u355, u356, u357, u358, u359, u360, u361, u362, u363, u364, u365, u366, u367, u368, u369, u370, u371, u372, u373, u374, u375, u376, u377, u378, u379, u380, u381, u382, u383, u384, u385, u386, u387, u388, u389, u390, u391, u392, u393, u394], []⟩ W := by
  have HPost := hide hP
  obtain ⟨h, g, sd, ox⟩ := orderOf_ok s hr1.1
  have HOx := hide ox
  have HOd := hide (show Calls Try.prog 16 #[.pointer (some ⟨w.heap.size, 0, none⟩), s.agg] W fun e w' => e = .returned (orderOf s rs.length).agg ∧ Kep non W w' from by
    obtain ⟨L, rv, pb, _, D'⟩ := D
    obtain ⟨rb, cap, er, _⟩ := D'.rr
    exact order_any W w.heap.size rb rs.length cap (by rw [← er]; exact D'.c3.cell) hr1 s sok)
  have b0 := hS 0 _ rfl
  have b1 := hS 1 _ rfl
  have b2 := hS 2 _ rfl
  have b3 := hS 3 _ rfl
  have b4 := hS 4 _ rfl
  have b5 := hS 5 _ rfl
  have HD := hide D
  have xs : (orderOf s rs.length).s = 0 ∨ (orderOf s rs.length).s = 1 := by have := ox.es; have := ox.ls; omega
  clear hP hS D ox
  generalize orderOf s rs.length = x at *
  unfold Stp.agg at HOd
  unfold Od.agg at HOd
  conv => arg 2; whnf
  go_wp2_with fail
  refine HOd.out.mono ?_
  rintro e' W1 ⟨rfl, k1⟩
  have D1 := Desk.later HD.out k1
  have HD1 := hide D1
  clear b0 b1 b2 b3 b4 b5 HOd HD k1 D1
  have hb := heap_alloc_new W1 (.cells #[.int .i64 x.id, .int .i64 x.t, .int .i64 x.h, .int .i64 x.g, .int .i64 x.s, .int .i64 x.p, .int .i64 x.q, .int .i64 x.w] 42)
  have k2 : Kep non W1 (W1.alloc (.cells #[.int .i64 x.id, .int .i64 x.t, .int .i64 x.h, .int .i64 x.g, .int .i64 x.s, .int .i64 x.p, .int .i64 x.q, .int .i64 x.w] 42)) := (Kep.refl _ _).alloc _
  have HXc := hide (show ∀ j u, x.cells[j]? = some u → (W1.alloc (.cells #[.int .i64 x.id, .int .i64 x.t, .int .i64 x.h, .int .i64 x.g, .int .i64 x.s, .int .i64 x.p, .int .i64 x.q, .int .i64 x.w] 42)).cell? ⟨W1.heap.size, j, none⟩ = some u from fun j u hu => by
    rw [cell_of_row _ _ j _ _ _ hb]
    simpa [Od.cells] using hu)
  have HK2 := hide k2
  clear hb k2
  go_wp2
  rename_i Kx hKx
  have HKx := hide hKx
  clear hKx
  generalize W1.alloc (.cells #[.int .i64 x.id, .int .i64 x.t, .int .i64 x.h, .int .i64 x.g, .int .i64 x.s, .int .i64 x.p, .int .i64 x.q, .int .i64 x.w] 42) = W2 at *
  refine best_l2 HD1.out St.inv St.jn St.T xs HK2.out HXc.out _ _ _ _ _ _ _ _ _ _ _ _ _ _ _ _ _ _ _ _ _ _ _ _ _ _ _ _ _ _ _ _ _ _ _ _ _ _ _ _ _ _ _ _ _ _ _ _ _ _ _ _ _ _ _ _ _ _ _ _ _ _ _ _ _ _ _ _ _ _ _ _ _ _ _ _ _ _ _ _ _ _ _ _ _ _ _ _ _ _ _ _ _ _ _ _ _ _ _ _ _ _ _ _ _ _ _ _ _ _ _ _ _ _ _ _ _ _ _ _ _ _ _ _ _ _ _ _ _ _ _ _ _ _ _ _ _ _ _ _ _ _ _ _ _ _ _ _ _ _ _ _ _ _ _ _ _ _ _ _ _ _ _ _ _ _ _ _ _ _ _ _ _ _ _ _ _ _ _ _ _ _ _ _ _ _ _ _ _ _ _ _ _ _ _ _ _ _ _ _ _ _ _ _ _ _ _ _ _ _ _ _ _ _ _ _ _ _ _ _ _ _ _ _ _ _ _ _ _ _ _ _ _ _ _ _ _ _ _ _ _ _ _ _ _ _ _ _ _ _ _ _ _ _ _ _ _ _ _ _ _ _ _ _ _ _ _ _ _ _ _ _ _ _ _ _ _ _ _ _ _ _ _ _ _ _ _ _ _ _ _ _ _ _ _ _ _ _ _ _ _ _ _ _ _ _ _ _ _ _ _ _ _ _ _ _ _ _ _ _ _ _ _ _ _ _ _ _ _ _ _ _ _ _ _ _ _ _ _ _ _ _ _ _ _ _ _ _ _ _ _ _ _ _ _ _ _ _ _ _ _ _ _ _ _ _ _ _ _ _ _ _ _ _ _ _ _ _ _ _ _ _ _ _ _ _ _ _ _ _ _ _ ?_
  intro n12 n13 n14 n15 n53 n54 n55 n56 n57 n58 n59 n60 n61 n62 n63 n64 n65 n66 n67 n68 n69 n70 n71 n72 n73 n74 n75 n76 n77 n78 n79 n80 n81 n82 n83 n84 n85 n86 n87 n88 n89 n90 n91 n92 n93 n94 n95 n96 n97 n98 n99 n100 n101 n102 n103 n104 n105 n106 n107 n108 n109 n110 n111 n112 n113 n114 n115 n116 n117 n118 n119 n120 n121 n122 n123 n124 n125 n126 n127 n128 n129 n130 n131 n132 n133 n134 v' TH W3 hp hrow K3
  obtain ⟨va, vc, rfl⟩ := row_form hrow
  refine HKx.out _ _ ?_
  exact best_r2 HD1.out St hk hR HOx.out HK2.out (Nat.le_refl _) HXc.out hp hrow K3 Post HPost.out _ _ _ _ _ _ _ _ _ _ _ _ _ _ _ _ _ _ _ _ _ _ _ _ _ _ _ _ _ _ _ _ _ _ _ _ _ _ _ _ _ _ _ _ _ _ _ _ _ _ _ _ _ _ _ _ _ _ _ _ _ _ _ _ _ _ _ _ _ _ _ _ _ _ _ _ _ _ _ _ _ _ _ _ _ _ _ _ _ _ _ _ _ _ _ _ _ _ _ _ _ _ _ _ _ _ _ _ _ _ _ _ _ _ _ _ _ _ _ _ _ _ _ _ _ _ _ _ _ _ _ _ _ _ _ _ _ _ _ _ _ _ _ _ _ _ _ _ _ _ _ _ _ _ _ _ _ _ _ _ _ _ _ _ _ _ _ _ _ _ _ _ _ _ _ _ _ _ _ _ _ _ _ _ _ _ _ _ _ _ _ _ _ _ _ _ _ _ _ _ _ _ _ _ _ _ _ _ _ _ _ _ _ _ _ _ _ _ _ _ _ _ _ _ _ _ _ _ _ _ _ _ _ _ _ _ _ _ _ _ _ _ _ _ _ _ _ _ _ _ _ _ _ _ _ _ _ _ _ _ _ _ _ _ _ _ _ _ _ _ _ _ _ _ _ _ _ _ _ _ _ _ _ _ _ _ _ _ _ _ _ _ _ _ _ _ _ _ _ _ _ _ _ _ _ _ _ _ _ _ _ _ _ _ _ _ _ _ _ _ _ _ _ _ _ _ _ _ _ _ _ _ _ _ _ _ _ _ _ _ _ _ _ _ _ _ _ _ _ _ _ _ _ _ _ _ _ _ _ _ _ _ _ _ _ _ _ _ _ _ _ _ _ _ _ _ _ _ _ _ _ _ _ _ _ _ _ _ _ _ _ _

set_option maxRecDepth 1000000 in
set_option maxHeartbeats 16000000 in
theorem best_any (w : World) (v : Value) (rs : List Int) (hr : IntsAt w v rs) (hi : ∀ x ∈ rs, i64R x) (a : Option Addr) (c : Nat) (ss : List Stp) (S : StepsAt w a ss) (s : Stp) (sok : s.ok) :
    Calls Try.prog 4 #[v, .slice a ss.length c, s.agg] w fun e w' => e = .returned (.bool true) ∧ Kep non w w' := by
  obtain ⟨wA, hwA⟩ : ∃ wA, wA = w.alloc (.cells #[.int .i64 s.k, .int .i64 s.t, .int .i64 s.h, .int .i64 s.g, .int .i64 s.p, .int .i64 s.q] 39) := ⟨_, rfl⟩
  have kA : Kep non w wA := by rw [hwA]; exact (Kep.refl _ _).alloc _
  have hb := heap_alloc_new w (.cells #[.int .i64 s.k, .int .i64 s.t, .int .i64 s.h, .int .i64 s.g, .int .i64 s.p, .int .i64 s.q] 39)
  rw [← hwA] at hb
  have HSB := hide (show ∀ j u, s.cells[j]? = some u → wA.cell? ⟨w.heap.size, j, none⟩ = some u from fun j u hu => by
    rw [cell_of_row _ _ j _ _ _ hb]
    simpa [Stp.cells] using hu)
  have hrA : IntsAt wA v rs := hr.kep kA
  have HO := hide (opened_any wA v rs hrA hi)
  have HS := hide (show StepsAt wA a ss from fun i s hs => by
    obtain ⟨h1, b, off, h2, h3⟩ := S i s hs
    exact ⟨h1, b, off, h2, fun j u hu => kA.cell (h3 j u hu) (fun f => f)⟩)
  obtain ⟨os1, os2⟩ := open_sums rs
  have HT := hide (show ∀ W x, Desk wA (openR rs) x 4000000 (4000 * (openR rs).length) (4000 * (openR rs).length) (openM (openR rs)) W → DeskB wA (openR rs) x (openM (openR rs)) W from fun W x D => by
    unfold DeskB
    rw [os1, os2 0 (by decide), os2 1 (by decide)]
    exact D)
  have HZ := hide (stood_open rs)
  have hR := (openR_ok rs)
  obtain ⟨hR1, hR2, hR3⟩ := hR
  have HR3 := hide hR3
  have HKA := hide kA
  have HwA := hide hwA
  clear hr hi S os1 os2 hrA hb kA hwA hR3
  generalize openR rs = ro at *
  generalize openM ro = m0 at *
  unfold Stp.agg
  go_enter Try.func4, Try.ntmps4
  go_wp2_with fail
  rw [← HwA.out]
  refine HO.out.mono ?_
  rintro e w1 ⟨rfl, x, D1⟩
  have HD1 := hide (HT.out w1 x D1)
  clear D1 HO HT HwA
  go_wp2
  rename_i Kx hKx
  have HKx := hide hKx
  clear hKx
  go_loopw [8] (fun i wr => ∃ k : Nat, k ≤ ss.length ∧ k ≤ 100 ∧ i = .int .i64 k ∧ ∃ m, DeskB wA ro x m wr ∧ Stood ro k m) (fun i _ => 100 - (intOf i).toNat)
  case atStart => exact ⟨0, by omega, by omega, rfl, m0, HD1.out, HZ.out⟩
  case round =>
    clear HD1 HZ
    obtain ⟨k, hk, hk2, rfl, m, D, S⟩ := hrel
    by_cases hlt : k < ss.length ∧ k < 100
    · obtain ⟨hlt1, hlt2⟩ := hlt
      obtain ⟨sok1, b, off, ha, hc⟩ := HS.out k ss[k] (by simp [hlt1])
      have nuk := S.nu
      have HDo := hide (does_any D S.inv (by omega) ⟨hR1, hR2⟩ S.T S.G ss[k] sok1)
      have hK := D.kp
      have x0 := hK.cell (hc 0 _ rfl) (fun f => f)
      have x1 := hK.cell (hc 1 _ rfl) (fun f => f)
      have x2 := hK.cell (hc 2 _ rfl) (fun f => f)
      have x3 := hK.cell (hc 3 _ rfl) (fun f => f)
      have x4 := hK.cell (hc 4 _ rfl) (fun f => f)
      have x5 := hK.cell (hc 5 _ rfl) (fun f => f)
      simp only [Nat.add_zero] at x0
      have HSt := hide S
      subst ha
      unfold Stp.agg at HDo
      clear D S hc hK sok1 HKx
      generalize ss[k] = s1 at *
      have hlt1' : (k : Int) < (ss.length : Int) := by omega
      have hlt2' : (k : Int) < 100 := by omega
      go_wp2_with fail
      refine HDo.out.mono ?_
      rintro e w2 ⟨rfl, m2, mv, I2, n2, D2⟩
      have HS2 := hide (HSt.out.step mv I2 n2)
      have HD2 := hide D2
      clear D2 mv I2 n2 HDo HSt x0 x1 x2 x3 x4 x5
      go_wp2
      exact ⟨⟨k + 1, by omega, by omega, by go_num, m2, HD2.out, HS2.out⟩, by simp [intOf]; omega⟩
    · have HD := hide D
      have HSt := hide S
      have HSc := hide (fun j u h => (Desk.kp D).cell (HSB.out j u h) (fun f => f))
      clear D S
      have hor : ¬ (k : Int) < (ss.length : Int) ∨ ((k : Int) < (ss.length : Int) ∧ ¬ (k : Int) < 100) := by omega
      clear hlt
      rcases hor with h1 | ⟨h1, h2⟩
      all_goals
        go_wp2
        refine HKx.out _ _ ?_
        exact best_r1 HD.out HSt.out hk2 ⟨hR1, hR2⟩ HR3.out sok HSc.out _ (fun W' kk => ⟨rfl, HKA.out.trans kk⟩) _ _ _ _ _ _ _ _ _ _ _ _ _ _ _ _ _ _ _ _ _ _ _ _ _ _ _ _ _ _ _ _ _ _ _ _ _ _ _ _ _ _ _ _ _ _ _ _ _ _ _ _ _ _ _ _ _ _ _ _ _ _ _ _ _ _ _ _ _ _ _ _ _ _ _ _ _ _ _ _ _ _ _ _ _ _ _ _ _ _ _ _ _ _ _ _ _ _ _ _ _ _ _ _ _ _ _ _ _ _ _ _ _ _ _ _ _ _ _ _ _ _ _ _ _ _ _ _ _ _ _ _ _ _ _ _ _ _ _ _ _ _ _ _ _ _ _ _ _ _ _ _ _ _ _ _ _ _ _ _ _ _ _ _ _ _ _ _ _ _ _ _ _ _ _ _ _ _ _ _ _ _ _ _ _ _ _ _ _ _ _ _ _ _ _ _ _ _ _ _ _ _ _ _ _ _ _ _ _ _ _ _ _ _ _ _ _ _ _ _ _ _ _ _ _ _ _ _ _ _ _ _ _ _ _ _ _ _ _ _ _ _ _ _ _ _ _ _ _ _ _ _ _ _ _ _ _ _ _ _ _ _ _ _ _ _ _ _ _ _ _ _ _ _ _ _ _ _ _ _ _ _ _ _ _ _ _ _ _ _ _ _ _ _ _ _ _ _ _ _ _ _ _ _ _ _ _ _ _ _ _ _ _ _ _ _ _ _ _ _ _ _ _ _ _ _ _ _ _ _ _ _ _ _ _ _ _ _ _ _ _ _ _ _ _ _ _ _ _ _ _ _ _ _ _ _ _ _ _ _ _ _ _ _ _ _ _ _ _ _ _ _ _ _ _ _ _ _ _ _ _ _ _ _ _ _ _ _ _ _ _ _ _

end

end Go.Proofs.Ytcfoobhihhndjaa
