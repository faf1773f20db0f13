/- Best: the loop over traders; the call of Orders. -/
import Derived.Test.YtcfoobhihhndjaaBc
import Derived.Test.YtcfoobhihhndjaaBb
import Derived.Test.YtcfoobhihhndjaaWb
namespace Go.Proofs.Ytcfoobhihhndjaa

section
open Go.RowKit Go.Sort

theorem collT_zero (x : Od) (m : Mt) {N : Int} (I : m.Inv N) : collT x m.all 0 = [] := by
  unfold collT
  refine List.filter_eq_nil_iff.2 fun o ho => ?_
  obtain ⟨a, b, c, ha, hb, hc, hm⟩ := mem_upH.1 ho
  have := (I.od a b c o ha hb hc hm).t
  simp
  omega

set_option maxRecDepth 1000000 in
set_option maxHeartbeats 16000000 in
theorem best_l2 {w : World} {rs : List Int} {X : Nat} {m : Mt} {N : Int} {W1 W : World} {XB : Nat} {x : Od} (D : DeskB w rs X m W1) (I : m.Inv N) (J : m.Jn) (hT : m.T = 4) (xs : x.s = 0 ∨ x.s = 1) (k0 : Kep non W1 W) (hX : ∀ j u, x.cells[j]? = some u → W.cell? ⟨XB, j, none⟩ = some u)
    (Q : Exit → Act → World → Prop) (u0 u1 u2 u3 u4 u5 u6 u8 u12 u13 u14 u15 u16 u17 u18 u19 u20 u21 u22 u23 u24 u25 u26 u27 u28 u29 u30 u31 u32 u33 u34 u35 u36 u37 u38 u39 u40 u41 u42 u43 u44 u45 u46 u47 u48 u49 u50 u51 u52 u53 u54 u55 u56 u57 u58 u59 u60 u61 u62 u63 u64 u65 u66 u67 u68 u69 u70 u71 u72 u73 u74 u75 u76 u77 u78 u79 u80 u81 u82 u83 u84 u85 u86 u87 u88 u89 u90 u91 u92 u93 u94 u95 u96 u97 u98 u99 u100 u101 u102 u103 u104 u105 u106 u107 u108 u109 u110 u111 u112 u113 u114 u115 u116 u117 u118 u119 u120 u121 u122 u123 u124 u125 u126 u127 u128 u129 u130 u131 u132 u133 u134 u135 u136 u137 u138 u139 u140 u141 u142 u143 u144 u145 u146 u147 u148 u149 u150 u151 u152 u153 u154 u155 u156 u157 u158 u159 u160 u161 u162 u163 u164 u165 u166 u167 u168 u169 u170 u171 u172 u173 u174 u175 u176 u177 u178 u179 u180 u181 u182 u183 u184 u185 u186 u187 u188 u189 u190 u191 u192 u193 u194 u195 u196 u197 u198 u199 u200 u201 u202 u203 u204 u205 u206 u207 u208 u209 u210 u211 u212 u213 u214 u215 u216 u217 u218 u219 u220 u221 u222 u223 u224 u225 u226 u227 u228 u229 u230 u231 u232 u233 u234 u235 u236 u237 u238 u239 u240 u241 u242 u243 u244 u245 u246 u247 u248 u249 u250 u251 u252 u253 u254 u255 u256 u257 u258 u259 u260 u261 u262 u263 u264 u265 u266 u267 u268 u269 u270 u271 u272 u273 u274 u275 u276 u277 u278 u279 u280 u281 u282 u283 u284 u285 u286 u287 u288 u289 u290 u291 u292 u293 u294 u295 u296 u297 u298 u299 u300 u301 u302 u303 u304 u305 u306 u307 u308 u309 u310 u311 u312 u313 u314 u315 u316 u317 u318 u319 u320 u321 u322 u323 u324 u325 u326 u327 u328 u329 u330 u331 u332 u333 u334 u335 u336 u337 u338 u339 u340 u341 u342 u343 u344 u345 u346 u347 u348 u349 u350 u351 u352 u353 u354 u355 u356 u357 u358 u359 u360 u361 u362 u363 u364 u365 u366 u367 u368 u369 u370 u371 u372 u373 u374 u375 u376 u377 u378 u379 u380 u381 u382 u383 u384 u385 u386 u387 u388 u389 u390 u391 u392 u393 u394 : Value)
    (hE : ∀ (n12 n13 n14 n15 n53 n54 n55 n56 n57 n58 n59 n60 n61 n62 n63 n64 n65 n66 n67 n68 n69 n70 n71 n72 n73 n74 n75 n76 n77 n78 n79 n80 n81 n82 n83 n84 n85 n86 n87 n88 n89 n90 n91 n92 n93 n94 n95 n96 n97 n98 n99 n100 n101 n102 n103 n104 n105 n106 n107 n108 n109 n110 n111 n112 n113 n114 n115 n116 n117 n118 n119 n120 n121 n122 n123 n124 n125 n126 n127 n128 n129 n130 n131 n132 n133 n134 v' : Value) (TH : List Od) (W' : World), TH.Perm (collT x m.all 4) → W'.ownsRow W.heap.size 42 8 v' TH.length (odCells TH) → Kep non W W' → Q (.exit 2) ⟨#[u0, u1, u2, u3, u4, u5, u6, .pointer (some ⟨w.heap.size, 0, none⟩), u8, .pointer (some ⟨XB, 0, none⟩), v', .int .i64 4, n12, n13, n14, n15, u16, u17, u18, u19, u20, u21, u22, u23, u24, u25, u26, u27, u28, u29, u30, u31, u32, u33, u34, u35, u36, u37, u38, u39, u40, u41, u42, u43, u44, u45, u46, u47, u48, u49, u50, u51, u52, n53, n54, n55, n56, n57, n58, n59, n60, n61, n62, n63, n64, n65, n66, n67, n68, n69, n70, n71, n72, n73, n74, n75, n76, n77, n78, n79, n80, n81, n82, n83, n84, n85, n86, n87, n88, n89, n90, n91, n92, n93, n94, n95, n96, n97, n98, n99, n100, n101, n102, n103, n104, n105, n106, n107, n108, n109, n110, n111, n112, n113, n114, n115, n116, n117, n118, n119, n120, n121, n122, n123, n124, n125, n126, n127, n128, n129, n130, n131, n132, n133, n134, u135, u136, u137, u138, u139, u140, u141, u142, u143, u144, u145, u146, u147, u148, u149, u150, u151, u152, u153, u154, u155, u156, u157, u158, u159, u160, u161, u162, u163, u164, u165, u166, u167, u168, u169, u170, u171, u172, u173, u174, u175, u176, u177, u178, u179, u180, u181, u182, u183, u184, u185, u186, u187, u188, u189, u190, u191, u192, u193, u194, u195, u196, u197, u198, u199, u200, u201, u202, u203, u204, u205, u206, u207, u208, u209, u210, u211, u212, u213, u214, u215, u216, u217, u218, u219, u220, u221, u222, u223, u224, u225, u226, u227, u228, u229, u230, u231, u232, u233, u234, u235, u236, u237, u238, u239, u240, u241, u242, u243, u244, u245, u246, u247, u248, u249, u250, u251, u252, u253, u254, u255, u256, u257, u258, u259, u260, u261, u262, u263, u264, u265, u266, u267, u268, u269, u270, u271, u272, u273, u274, u275, u276, u277, u278, u279, u280, u281, u282, u283, u284, u285, u286, u287, u288, u289, u290, u291, u292, u293, u294, u295, u296, u297, u298, u299, u300, u301, u302, u303, u304, u305, u306, u307, u308, u309, u310, u311, u312, u313, u314, u315, u316, u317, u318, u319, u320, u321, u322, u323, u324, u325, u326, u327, u328, u329, u330, u331, u332, u333, u334, u335, u336, u337, u338, u339, u340, u341, u342, u343, u344, u345, u346, u347, u348, u349, u350, u351, u352, u353, u354, u355, u356, u357, u358, u359, u360, u361, u362, u363, u364, u365, u366, u367, u368, u369, u370, u371, u372, u373, u374, u375, u376, u377, u378, u379, u380, u381, u382, u383, u384, u385, u386, u387, u388, u389, u390, u391, u392, u393, u394], []⟩ W') :
    Code.wp Try.prog (Code.loop (loopAt Try.f4 1)) Q ⟨#[u0, u1, u2, u3, u4, u5, u6, .pointer (some ⟨w.heap.size, 0, none⟩), u8, .pointer (some ⟨XB, 0, none⟩), .slice none 0 0, .int .i64 0, u12, u13, u14, u15, u16, u17, u18, u19, u20, u21, u22, u23, u24, u25, u26, u27, u28, u29, u30, u31, u32, u33, u34, u35, u36, u37, u38, u39, u40, u41, u42, u43, u44, u45, u46, u47, u48, u49, u50, u51, u52, u53, u54, u55, u56, u57, u58, u59, u60, u61, u62, u63, u64, u65, u66, u67, u68, u69, u70, u71, u72, u73, u74, u75, u76, u77, u78, u79, u80, u81, u82, u83, u84, u85, u86, u87, u88, u89, u90, u91, u92, u93, u94, u95, u96, u97, u98, u99, u100, u101, u102, u103, u104, u105, u106, u107, u108, u109, u110, u111, u112, u113, u114, u115, u116, u117, u118, u119, u120, u121, u122, u123, u124, u125, u126, u127, u128, u129, u130, u131, u132, u133, u134, u135, u136, u137, u138, u139, u140, u141, u142, u143, u144, u145, u146, u147, u148, u149, u150, u151, u152, u153, u154, u155, u156, u157, u158, u159, u160, u161, u162, u163, u164, u165, u166, u167, u168, u169, u170, u171, u172, u173, u174, u175, u176, u177, u178, u179, u180, u181, u182, u183, u184, u185, u186, u187, u188, u189, u190, u191, u192, u193, u194, u195, u196, u197, u198, u199, u200, u201, u202, u203, u204, u205, u206, u207, u208, u209, u210, u211, u212, u213, u214, u215, u216, u217, u218, u219, u220, u221, u222, u223, u224, u225, u226, u227, u228, u229, u230, u231, u232, u233, u234, u235, u236, u237, u238, u239, u240, u241, u242, u243, u244, u245, u246, u247, u248, u249, u250, u251, u252, u253, u254, u255, u256, u257, u258, u259, u260, u261, u262, u263, u264, u265, u266, u267, u268, u269, u270, u271, u272, u273, u274, u275, u276, u277, u278, u279, u280, u281, u282, u283, u284, u285, u286, u287, u288, u289, u290, u291, u292, u293, u294, u295, u296, u297, u298, u299, u300, u301, u302, u303, u304, u305, u306, u307, u308, u309, u310, u311, u312, u313, u314, u315, u316, u317, u318, u319, u320, u321, u322, u323, u324, u325, u326, u327, u328, u329, u330, u331, u332, u333, u334, u335, u336, u337, u338, u339, u340, u341, u342, u343, u344, u345, u346, u347, u348, u349, u350, u351, u352, u353, u354, u355, u356, u357, u358, u359, u360, u361, u362, u363, u364, u365, u366, u367, u368, u369, u370, u371, u372, u373, u374, u375, u376, u377, u378, u379, u380, u381, u382, u383, u384, u385, u386, u387, u388, u389, u390, u391, u392, u393, u394], []⟩ W := by
  have HX := hide hX
  have HEx := hide hE
  have HXs := hide xs
  have HD := hide (fun V (k : Kep non W V) => Desk.later D (k0.trans k))
  have HZ := hide (collT_zero x m I)
  have HI := hide I
  have HJ := hide J
  have lX : XB < W.heap.size := World.block_lt_of_cell? W _ (hX 0 _ rfl)
  clear hX hE D k0 xs I J
  conv => arg 2; arg 1; whnf
  dsimp only
  go_loopw [10, 11] (fun v i wr => ∃ (t : Nat) (TH : List Od), t ≤ 4 ∧ i = .int .i64 t ∧ TH.Perm (collT x m.all t) ∧ TH.length ≤ 60 * t ∧ wr.ownsRow W.heap.size 42 8 v TH.length (odCells TH) ∧ Kep non W wr) (fun _ i _ => 4 - (intOf i).toNat)
  case atStart => exact ⟨0, [], by omega, rfl, by rw [HZ.out], by simp, ⟨rfl, .inl ⟨rfl, rfl⟩⟩, Kep.refl _ _⟩
  case round =>
    clear HZ
    obtain ⟨t, TH, ht, rfl, hp, hlen, R, K⟩ := hrel
    obtain ⟨ra, rc, rfl⟩ := row_form R
    by_cases ht4 : t < 4
    · have ht4' : (t : Int) < 4 := by omega
      have okt : okI m.T t := ⟨by omega, by omega⟩
      have HOr := hide (Desk.orders (HD.out wr K) HI.out t)
      have cp := Desk.ptr (HD.out wr K)
      have HP := hide hp
      have HR := hide R
      have HK := hide K
      clear hp R K
      go_wp2_with fail
      refine HOr.out.mono ?_
      rintro e w3 ⟨⟨k3, hO⟩, D3⟩
      rcases hO with ⟨f, _⟩ | ⟨_, v', l, hperm, hsort, hrow, rfl⟩
      · exact absurd okt f
      · obtain ⟨va, vc, rfl⟩ := row_form hrow
        have T := HJ.out.told hperm hsort
        have hl60 := told_len T HI.out
        have HNx := hide (collT_next (x := x) T HP.out)
        have K3 := HK.out.trans k3
        have lR := HR.out.lt
        have HX3 := hide (fun j u h => K3.cell (HX.out j u h) (fun f => f))
        have HR3 := hide (ownsRow_kep HR.out k3 (fun _ _ f => f))
        have s3 := K3.size
        have HRow := hide (show ∀ i, i < l.length → ∃ b, va = some ⟨b, 0, none⟩ ∧ (Value.slice ra TH.length rc).ownBlock ≠ some b ∧ ∀ i (hi : i < l.length) j u, l[i].cells[j]? = some u → w3.cell? ⟨b, i * 8 + j, none⟩ = some u from fun i hi => by
          obtain ⟨b, h1, h2, h3⟩ := row_at hrow i hi
          exact ⟨b, h1, fun q => by have := (lR b q).2; omega, h3⟩)
        have hnX : (Value.slice ra TH.length rc).ownBlock ≠ some XB := fun q => by have := (lR XB q).1; omega
        have HLo := hide (fun b (q : (Value.slice ra TH.length rc).ownBlock = some b) => (lR b q).1)
        have HK3 := hide K3
        clear HOr D3 hperm hsort hrow T K3 k3 lR HR HK HP cp okt
        go_wp2
        by_cases hxt : x.t = t
        · have hN := HNx.out
          rw [if_pos hxt, List.append_nil] at hN
          have HN := hide hN
          have x1 := HX3.out 1 _ rfl
          rw [hxt] at x1
          clear hN HNx HRow HX3
          go_loopw [10, 14] (fun v i wr' => v = .slice ra TH.length rc ∧ i = .int .i64 0 ∧ wr' = w3) (fun _ _ _ => 0)
          case atStart => exact ⟨rfl, rfl, rfl⟩
          case round =>
            obtain ⟨rfl, rfl, rfl⟩ := hrel
            by_cases hl0 : (0 : Int) < (l.length : Int)
            all_goals
              go_wp2
              exact ⟨⟨t + 1, TH, by omega, by go_num, HN.out, by omega, HR3.out, HK3.out⟩, by simp [intOf]; omega⟩
        · have hN := HNx.out
          rw [if_neg hxt] at hN
          have HN := hide hN
          have hl240 : TH.length ≤ 240 := by omega
          have hfl : (l.filter (cand x)).length ≤ l.length := List.length_filter_le _ _
          clear hN HNx
          refine best_l3 HXs.out hxt hl60 hl240 HX3.out s3 hnX HR3.out HRow.out _ _ _ _ _ _ _ _ _ _ _ _ _ _ _ _ _ _ _ _ _ _ _ _ _ _ _ _ _ _ _ _ _ _ _ _ _ _ _ _ _ _ _ _ _ _ _ _ _ _ _ _ _ _ _ _ _ _ _ _ _ _ _ _ _ _ _ _ _ _ _ _ _ _ _ _ _ _ _ _ _ _ _ _ _ _ _ _ _ _ _ _ _ _ _ _ _ _ _ _ _ _ _ _ _ _ _ _ _ _ _ _ _ _ _ _ _ _ _ _ _ _ _ _ _ _ _ _ _ _ _ _ _ _ _ _ _ _ _ _ _ _ _ _ _ _ _ _ _ _ _ _ _ _ _ _ _ _ _ _ _ _ _ _ _ _ _ _ _ _ _ _ _ _ _ _ _ _ _ _ _ _ _ _ _ _ _ _ _ _ _ _ _ _ _ _ _ _ _ _ _ _ _ _ _ _ _ _ _ _ _ _ _ _ _ _ _ _ _ _ _ _ _ _ _ _ _ _ _ _ _ _ _ _ _ _ _ _ _ _ _ _ _ _ _ _ _ _ _ _ _ _ _ _ _ _ _ _ _ _ _ _ _ _ _ _ _ _ _ _ _ _ _ _ _ _ _ _ _ _ _ _ _ _ _ _ _ _ _ _ _ _ _ _ _ _ _ _ _ _ _ _ _ _ _ _ _ _ _ _ _ _ _ _ _ _ _ _ _ _ _ _ _ _ _ _ _ _ _ _ _ _ _ _ _ _ _ _ _ _ _ _ _ _ _ _ _ _ _ _ _ _ _ _ _ _ _ _ _ _ _ _ _ _ _ _ _ _ _ _ _ _ _ _ _ _ _ _ _ _ _ _ _ _ _ _ _ _ _ _ _ ?_
          intro n15 n66 n67 n68 n69 n70 n71 n72 n73 n74 n75 n76 n77 n78 n79 n80 n81 n82 n83 n84 n85 n86 n87 n88 n89 n90 n91 n92 n93 n94 n95 n96 n97 n98 n99 n100 n101 n102 n103 n104 n105 n106 n107 n108 n109 n110 n111 n112 n113 n114 n115 n116 n117 n118 n119 n120 n121 n122 n123 n124 n125 n126 n127 n128 n129 n130 n131 n132 n133 n134 v' W' R' K' hv
          have KW := hide (HK3.out.trans' K' (fun i hi => .inr (HLo.out i hi)))
          have HR' := hide R'
          have hlen' : (TH ++ l.filter (cand x)).length ≤ 60 * (t + 1) := by rw [List.length_append]; omega
          clear R' K' hv HRow HX3 HR3 HK3 HLo
          go_wp2
          exact ⟨⟨t + 1, TH ++ l.filter (cand x), by omega, by go_num, HN.out, hlen', HR'.out, KW.out⟩, by simp [intOf]; omega⟩
    · have e4 : t = 4 := by omega
      subst e4
      have HP := hide hp
      have HR := hide R
      have HK := hide K
      clear hp R K HD
      go_wp2
      exact HEx.out _ _ _ _ _ _ _ _ _ _ _ _ _ _ _ _ _ _ _ _ _ _ _ _ _ _ _ _ _ _ _ _ _ _ _ _ _ _ _ _ _ _ _ _ _ _ _ _ _ _ _ _ _ _ _ _ _ _ _ _ _ _ _ _ _ _ _ _ _ _ _ _ _ _ _ _ _ _ _ _ _ _ _ _ _ _ _ TH wr HP.out HR.out HK.out

end

section
open Go.RowKit Go.Sort

/-- an end that is no panic -/
def onlyN (Q : Exit → Act → World → Prop) : Exit → Act → World → Prop
  | .normal, a, w => Q .normal a w
  | _, _, _ => False
theorem onlyN_out (Q : Exit → Act → World → Prop) : ∀ e a w, onlyN Q e a w → Q e a w := fun e a w h => by
  cases e <;> first | exact h | exact h.elim

/-- a region of a body, by its number -/
def regIn (n : Nat) : Code → Option Code
  | .region id ops b => if id = n then some (.region id ops b) else none
  | .seq a b => match regIn n a with
    | some c => some c
    | none => regIn n b
  | .block _ c => regIn n c
  | .loop c => regIn n c
  | .scope c => regIn n c
  | .cond _ a b => match regIn n a with
    | some c => some c
    | none => regIn n b
  | _ => none
def regAt (f : Func) (n : Nat) : Code := ((f.body.bind (regIn n)).getD .skip)

set_option maxRecDepth 1000000 in
set_option maxHeartbeats 16000000 in
theorem best_g42 {W : World} {d XB X : Nat} {t : Int} (P : List Od → Option Addr → World → Prop) (cp : W.cell? ⟨d, 0, none⟩ = some (.pointer (some ⟨X, 0, none⟩))) (x1 : W.cell? ⟨XB, 1, none⟩ = some (.int .i64 t))
    (hO : Calls Try.prog 17 #[.pointer (some ⟨X, 0, none⟩), .int .i64 t] W.drew fun e w3 => ∃ (va : Option Addr) (l : List Od) (vc : Nat), e = .returned (.tuple #[.slice va l.length vc, .int .i64 0]) ∧ P l va w3)
    (Q : Exit → Act → World → Prop) (u0 u1 u2 u3 u4 u5 u6 u8 u10 u11 u12 u13 u14 u15 u16 u17 u18 u19 u20 u21 u22 u23 u24 u25 u26 u27 u28 u29 u30 u31 u32 u33 u34 u35 u36 u37 u38 u39 u40 u41 u42 u43 u44 u45 u46 u47 u48 u49 u50 u51 u52 u53 u54 u55 u56 u57 u58 u59 u60 u61 u62 u63 u64 u65 u66 u67 u68 u69 u70 u71 u72 u73 u74 u75 u76 u77 u78 u79 u80 u81 u82 u83 u84 u85 u86 u87 u88 u89 u90 u91 u92 u93 u94 u95 u96 u97 u98 u99 u100 u101 u102 u103 u104 u105 u106 u107 u108 u109 u110 u111 u112 u113 u114 u115 u116 u117 u118 u119 u120 u121 u122 u123 u124 u125 u126 u127 u128 u129 u130 u131 u132 u133 u134 u135 u136 u137 u138 u139 u140 u141 u142 u143 u144 u145 u146 u147 u148 u149 u150 u151 u152 u153 u154 u155 u156 u157 u158 u159 u160 u161 u162 u163 u164 u165 u166 u167 u168 u169 u170 u171 u172 u173 u174 u175 u176 u177 u178 u179 u180 u181 u182 u183 u184 u185 u186 u187 u188 u189 u190 u191 u192 u193 u194 u195 u196 u197 u198 u199 u200 u201 u202 u203 u204 u205 u206 u207 u208 u209 u210 u211 u212 u213 u214 u215 u216 u217 u218 u219 u220 u221 u222 u223 u224 u225 u226 u227 u228 u229 u230 u231 u232 u233 u234 u235 u236 u237 u238 u239 u240 u241 u242 u243 u244 u245 u246 u247 u248 u249 u250 u251 u252 u253 u254 u255 u256 u257 u258 u259 u260 u261 u262 u263 u264 u265 u266 u267 u268 u269 u270 u271 u272 u273 u274 u275 u276 u277 u278 u279 u280 u281 u282 u283 u284 u285 u286 u287 u288 u289 u290 u291 u292 u293 u294 u295 u296 u297 u298 u299 u300 u301 u302 u303 u304 u305 u306 u307 u308 u309 u310 u311 u312 u313 u314 u315 u316 u317 u318 u319 u320 u321 u322 u323 u324 u325 u326 u327 u328 u329 u330 u331 u332 u333 u334 u335 u336 u337 u338 u339 u340 u341 u342 u343 u344 u345 u346 u347 u348 u349 u350 u351 u352 u353 u354 u355 u356 u357 u358 u359 u360 u361 u362 u363 u364 u365 u366 u367 u368 u369 u370 u371 u372 u373 u374 u375 u376 u377 u378 u379 u380 u381 u382 u383 u384 u385 u386 u387 u388 u389 u390 u391 u392 u393 u394 : Value)
    (hE : ∀ (n313 n314 n315 n316 n317 n318 n319 n320 n321 n322 : Value) (va : Option Addr) (l : List Od) (vc : Nat) (W' : World), P l va W' → Q .normal ⟨#[u0, u1, u2, u3, u4, u5, u6, .pointer (some ⟨d, 0, none⟩), u8, .pointer (some ⟨XB, 0, none⟩), u10, u11, u12, u13, u14, u15, u16, u17, u18, u19, u20, u21, u22, u23, u24, u25, u26, .slice va l.length vc, .int .i64 0, u29, u30, u31, u32, u33, u34, u35, u36, u37, u38, u39, u40, u41, u42, u43, u44, u45, u46, u47, u48, u49, u50, u51, u52, u53, u54, u55, u56, u57, u58, u59, u60, u61, u62, u63, u64, u65, u66, u67, u68, u69, u70, u71, u72, u73, u74, u75, u76, u77, u78, u79, u80, u81, u82, u83, u84, u85, u86, u87, u88, u89, u90, u91, u92, u93, u94, u95, u96, u97, u98, u99, u100, u101, u102, u103, u104, u105, u106, u107, u108, u109, u110, u111, u112, u113, u114, u115, u116, u117, u118, u119, u120, u121, u122, u123, u124, u125, u126, u127, u128, u129, u130, u131, u132, u133, u134, u135, u136, u137, u138, u139, u140, u141, u142, u143, u144, u145, u146, u147, u148, u149, u150, u151, u152, u153, u154, u155, u156, u157, u158, u159, u160, u161, u162, u163, u164, u165, u166, u167, u168, u169, u170, u171, u172, u173, u174, u175, u176, u177, u178, u179, u180, u181, u182, u183, u184, u185, u186, u187, u188, u189, u190, u191, u192, u193, u194, u195, u196, u197, u198, u199, u200, u201, u202, u203, u204, u205, u206, u207, u208, u209, u210, u211, u212, u213, u214, u215, u216, u217, u218, u219, u220, u221, u222, u223, u224, u225, u226, u227, u228, u229, u230, u231, u232, u233, u234, u235, u236, u237, u238, u239, u240, u241, u242, u243, u244, u245, u246, u247, u248, u249, u250, u251, u252, u253, u254, u255, u256, u257, u258, u259, u260, u261, u262, u263, u264, u265, u266, u267, u268, u269, u270, u271, u272, u273, u274, u275, u276, u277, u278, u279, u280, u281, u282, u283, u284, u285, u286, u287, u288, u289, u290, u291, u292, u293, u294, u295, u296, u297, u298, u299, u300, u301, u302, u303, u304, u305, u306, u307, u308, u309, u310, u311, u312, n313, n314, n315, n316, n317, n318, n319, n320, n321, n322, u323, u324, u325, u326, u327, u328, u329, u330, u331, u332, u333, u334, u335, u336, u337, u338, u339, u340, u341, u342, u343, u344, u345, u346, u347, u348, u349, u350, u351, u352, u353, u354, u355, u356, u357, u358, u359, u360, u361, u362, u363, u364, u365, u366, u367, u368, u369, u370, u371, u372, u373, u374, u375, u376, u377, u378, u379, u380, u381, u382, u383, u384, u385, u386, u387, u388, u389, u390, u391, u392, u393, u394], []⟩ W') :
    Code.wp Try.prog (regAt Try.f4 42) Q ⟨#[u0, u1, u2, u3, u4, u5, u6, .pointer (some ⟨d, 0, none⟩), u8, .pointer (some ⟨XB, 0, none⟩), u10, u11, u12, u13, u14, u15, u16, u17, u18, u19, u20, u21, u22, u23, u24, u25, u26, u27, u28, u29, u30, u31, u32, u33, u34, u35, u36, u37, u38, u39, u40, u41, u42, u43, u44, u45, u46, u47, u48, u49, u50, u51, u52, u53, u54, u55, u56, u57, u58, u59, u60, u61, u62, u63, u64, u65, u66, u67, u68, u69, u70, u71, u72, u73, u74, u75, u76, u77, u78, u79, u80, u81, u82, u83, u84, u85, u86, u87, u88, u89, u90, u91, u92, u93, u94, u95, u96, u97, u98, u99, u100, u101, u102, u103, u104, u105, u106, u107, u108, u109, u110, u111, u112, u113, u114, u115, u116, u117, u118, u119, u120, u121, u122, u123, u124, u125, u126, u127, u128, u129, u130, u131, u132, u133, u134, u135, u136, u137, u138, u139, u140, u141, u142, u143, u144, u145, u146, u147, u148, u149, u150, u151, u152, u153, u154, u155, u156, u157, u158, u159, u160, u161, u162, u163, u164, u165, u166, u167, u168, u169, u170, u171, u172, u173, u174, u175, u176, u177, u178, u179, u180, u181, u182, u183, u184, u185, u186, u187, u188, u189, u190, u191, u192, u193, u194, u195, u196, u197, u198, u199, u200, u201, u202, u203, u204, u205, u206, u207, u208, u209, u210, u211, u212, u213, u214, u215, u216, u217, u218, u219, u220, u221, u222, u223, u224, u225, u226, u227, u228, u229, u230, u231, u232, u233, u234, u235, u236, u237, u238, u239, u240, u241, u242, u243, u244, u245, u246, u247, u248, u249, u250, u251, u252, u253, u254, u255, u256, u257, u258, u259, u260, u261, u262, u263, u264, u265, u266, u267, u268, u269, u270, u271, u272, u273, u274, u275, u276, u277, u278, u279, u280, u281, u282, u283, u284, u285, u286, u287, u288, u289, u290, u291, u292, u293, u294, u295, u296, u297, u298, u299, u300, u301, u302, u303, u304, u305, u306, u307, u308, u309, u310, u311, u312, u313, u314, u315, u316, u317, u318, u319, u320, u321, u322, u323, u324, u325, u326, u327, u328, u329, u330, u331, u332, u333, u334, u335, u336, u337, u338, u339, u340, u341, u342, u343, u344, u345, u346, u347, u348, u349, u350, u351, u352, u353, u354, u355, u356, u357, u358, u359, u360, u361, u362, u363, u364, u365, u366, u367, u368, u369, u370, u371, u372, u373, u374, u375, u376, u377, u378, u379, u380, u381, u382, u383, u384, u385, u386, u387, u388, u389, u390, u391, u392, u393, u394], []⟩ W := by
  have HO := hide hO
  have HE := hide hE
  clear hO hE
  refine Code.wp_mono (Q := onlyN Q) (onlyN_out Q) ?_
  conv => arg 2; whnf
  go_region_with (go_at_call 17; refine HO.out.mono ?_; rintro e' w3 ⟨va, l, vc, rfl, hP⟩)
  all_goals exact HE.out _ _ _ _ _ _ _ _ _ _ va l vc w3 hP

end

end Go.Proofs.Ytcfoobhihhndjaa
