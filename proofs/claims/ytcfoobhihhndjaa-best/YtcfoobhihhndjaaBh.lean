/- Best: Place, and the trades. -/
import Derived.Test.YtcfoobhihhndjaaBg
import Derived.Test.YtcfoobhihhndjaaByy
namespace Go.Proofs.Ytcfoobhihhndjaa

section
open Go.RowKit Go.Sort

/-- an order, as Best asks one -/
structure XOk (x : Od) (h g s n : Nat) : Prop where
  t : 0 ≤ x.t ∧ x.t < 4
  eh : x.h = h
  lh : h < n
  eg : x.g = g
  lg : g < 2
  es : x.s = s
  ls : s < 2
  q : 1 ≤ x.q ∧ x.q ≤ 10000
  w : 0 ≤ x.w ∧ x.w ≤ 3

theorem matchT_len (fee : Int → Int) : ∀ (l : List Od) (o : Od), (matchT fee l o).length ≤ l.length
  | [], o => Nat.le_refl _
  | z :: r, o => by
    unfold matchT
    have h0 := matchT_len fee r
    by_cases h1 : o.q ≤ 0
    · rw [if_pos h1]; simp
    · rw [if_neg h1]
      by_cases h2 : pfits o z = false
      · rw [if_pos h2]; simp
      · rw [if_neg h2]
        by_cases h3 : z.t = o.t
        · rw [if_pos h3]
          have := h0 o
          simp only [List.length_cons]
          omega
        · rw [if_neg h3]
          by_cases h4 : z.q - min o.q z.q = 0
          · rw [if_pos h4]
            have := h0 { o with q := o.q - min o.q z.q }
            simp only [List.length_cons]
            omega
          · rw [if_neg h4]
            simp

theorem tdCells_at : ∀ (l : List Td) (k j : Nat) (hk : k < l.length), j < 6 → (tdCells l)[k * 6 + j]? = l[k].cells[j]?
  | x :: r, 0, j, _, hj => by
    simp only [tdCells, List.flatMap_cons, Nat.zero_mul, Nat.zero_add, List.getElem_cons_zero]
    rw [List.getElem?_append_left (by simpa [Td.cells] using hj)]
  | x :: r, k + 1, j, hk, hj => by
    have ih := tdCells_at r k j (by simpa using hk) hj
    simp only [tdCells, List.flatMap_cons, List.getElem_cons_succ] at ih ⊢
    rw [List.getElem?_append_right (by simp [Td.cells]; omega)]
    rw [← ih]
    congr 1
    simp [Td.cells]
    omega

theorem trow_at {W : World} {B : Nat} {ts : List Td} {ta : Option Addr} {tc : Nat} (hrow : W.ownsRow B 53 6 (.slice ta ts.length tc) ts.length (tdCells ts)) (i : Nat) (hi : i < ts.length) : ∃ b, ta = some ⟨b, 0, none⟩ ∧ B ≤ b ∧ b < W.heap.size ∧ ∀ i (hi : i < ts.length) j u, ts[i].cells[j]? = some u → W.cell? ⟨b, i * 6 + j, none⟩ = some u := by
  obtain ⟨ob, oc, ov, _, _⟩ := hrow.form (by omega)
  simp only [Value.slice.injEq, true_and] at ov
  obtain ⟨rfl, rfl⟩ := ov
  refine ⟨ob, rfl, (hrow.lt ob rfl).1, (hrow.lt ob rfl).2, fun i hi j u hu => ?_⟩
  have hj : j < 6 := by have := (List.getElem?_eq_some_iff.1 hu).1; simpa [Td.cells] using this
  rw [hrow.cellAt _ (by omega), tdCells_at _ _ j hi hj]
  simpa using hu

set_option maxRecDepth 1000000 in
set_option maxHeartbeats 16000000 in
theorem best_r2 {w : World} {rs : List Int} {X k h g s : Nat} {m : Mt} {W1 W W2 : World} {XB vc : Nat} {x : Od} {TH : List Od} {va : Option Addr} (D : DeskB w rs X m W1) (St : Stood rs k m) (hk : k ≤ 100) (hR : ∀ y ∈ rs, 0 ≤ y ∧ y ≤ 100) (ox : XOk x h g s rs.length) (k0 : Kep non W1 W) (hXB : W1.heap.size ≤ XB) (hX : ∀ j u, x.cells[j]? = some u → W.cell? ⟨XB, j, none⟩ = some u)
    (hp : TH.Perm (collT x m.all 4)) (R : W2.ownsRow W.heap.size 42 8 (.slice va TH.length vc) TH.length (odCells TH)) (K : Kep non W W2)
    (Post : Ending → World → Prop) (hP : ∀ W', Kep non w W' → Post (.returned (.bool true)) W') (u0 u1 u2 u3 u4 u5 u6 u8 u11 u12 u13 u14 u15 u16 u17 u18 u19 u20 u21 u22 u23 u24 u25 u26 u27 u28 u29 u30 u31 u32 u33 u34 u35 u36 u37 u38 u39 u40 u41 u42 u43 u44 u45 u46 u47 u48 u49 u50 u51 u52 u53 u54 u55 u56 u57 u58 u59 u60 u61 u62 u63 u64 u65 u66 u67 u68 u69 u70 u71 u72 u73 u74 u75 u76 u77 u78 u79 u80 u81 u82 u83 u84 u85 u86 u87 u88 u89 u90 u91 u92 u93 u94 u95 u96 u97 u98 u99 u100 u101 u102 u103 u104 u105 u106 u107 u108 u109 u110 u111 u112 u113 u114 u115 u116 u117 u118 u119 u120 u121 u122 u123 u124 u125 u126 u127 u128 u129 u130 u131 u132 u133 u134 u135 u136 u137 u138 u139 u140 u141 u142 u143 u144 u145 u146 u147 u148 u149 u150 u151 u152 u153 u154 u155 u156 u157 u158 u159 u160 u161 u162 u163 u164 u165 u166 u167 u168 u169 u170 u171 u172 u173 u174 u175 u176 u177 u178 u179 u180 u181 u182 u183 u184 u185 u186 u187 u188 u189 u190 u191 u192 u193 u194 u195 u196 u197 u198 u199 u200 u201 u202 u203 u204 u205 u206 u207 u208 u209 u210 u211 u212 u213 u214 u215 u216 u217 u218 u219 u220 u221 u222 u223 u224 u225 u226 u227 u228 u229 u230 u231 u232 u233 u234 u235 u236 u237 u238 u239 u240 u241 u242 u243 u244 u245 u246 u247 u248 u249 u250 u251 u252 u253 u254 u255 u256 u257 u258 u259 u260 u261 u262 u263 u264 u265 u266 u267 u268 u269 u270 u271 u272 u273 u274 u275 u276 u277 u278 u279 u280 u281 u282 u283 u284 u285 u286 u287 u288 u289 u290 u291 u292 u293 u294 u295 u296 u297 u298 u299 u300 u301 u302 u303 u304 u305 u306 u307 u308 u309 u310 u311 u312 u313 u314 u315 u316 u317 u318 u319 u320 u321 u322 u323 u324 u325 u326 u327 u328 u329 u330 u331 u332 u333 u334 u335 u336 u337 u338 u339 u340 u341 u342 u343 u344 u345 u346 u347 u348 u349 u350 u351 u352 u353 u354 u355 u356 u357 u358 u359 u360 u361 u362 u363 u364 u365 u366 u367 u368 u369 u370 u371 u372 u373 u374 u375 u376 u377 u378 u379 u380 u381 u382 u383 u384 u385 u386 u387 u388 u389 u390 u391 u392 u393 u394 : Value) :
    Code.wp Try.prog (((Try.f4.body.bind afterLoop).bind afterLoop).getD .skip) (bodyPost Try.prog Try.f4 Post) ⟨#[u0, u1, u2, u3, u4, u5, u6, .pointer (some ⟨w.heap.size, 0, none⟩), u8, .pointer (some ⟨XB, 0, none⟩), .slice va TH.length vc, u11, u12, u13, u14, u15, u16, u17, u18, u19, u20, u21, u22, u23, u24, u25, u26, u27, u28, u29, u30, u31, u32, u33, u34, u35, u36, u37, u38, u39, u40, u41, u42, u43, u44, u45, u46, u47, u48, u49, u50, u51, u52, u53, u54, u55, u56, u57, u58, u59, u60, u61, u62, u63, u64, u65, u66, u67, u68, u69, u70, u71, u72, u73, u74, u75, u76, u77, u78, u79, u80, u81, u82, u83, u84, u85, u86, u87, u88, u89, u90, u91, u92, u93, u94, u95, u96, u97, u98, u99, u100, u101, u102, u103, u104, u105, u106, u107, u108, u109, u110, u111, u112, u113, u114, u115, u116, u117, u118, u119, u120, u121, u122, u123, u124, u125, u126, u127, u128, u129, u130, u131, u132, u133, u134, u135, u136, u137, u138, u139, u140, u141, u142, u143, u144, u145, u146, u147, u148, u149, u150, u151, u152, u153, u154, u155, u156, u157, u158, u159, u160, u161, u162, u163, u164, u165, u166, u167, u168, u169, u170, u171, u172, u173, u174, u175, u176, u177, u178, u179, u180, u181, u182, u183, u184, u185, u186, u187, u188, u189, u190, u191, u192, u193, u194, u195, u196, u197, u198, u199, u200, u201, u202, u203, u204, u205, u206, u207, u208, u209, u210, u211, u212, u213, u214, u215, u216, u217, u218, u219, u220, u221, u222, u223, u224, u225, u226, u227, u228, u229, u230, u231, u232, u233, u234, u235, u236, u237, u238, u239, u240, u241, u242, u243, u244, u245, u246, u247, u248, u249, u250, u251, u252, u253, u254, u255, u256, u257, u258, u259, u260, u261, u262, u263, u264, u265, u266, u267, u268, u269, u270, u271, u272, u273, u274, u275, u276, u277, u278, u279, u280, u281, u282, u283, u284, u285, u286, u287, u288, u289, u290, u291, u292, u293, u294, u295, u296, u297, u298, u299, u300, u301, u302, u303, u304, u305, u306, u307, u308, u309, u310, u311, u312, u313, u314, u315, u316, u317, u318, u319, u320, u321, u322, u323, u324, u325, u326, u327, u328, u329, u330, u331, u332, u333, u334, u335, u336, u337, u338, u339, u340, u341, u342, u343, u344, u345, u346, u347, u348, u349, u350, u351, u352, u353, u354, u355, u356, u357, u358, u359, u360, u361, u362, u363, u364, u365, u366, u367, u368, u369, u370, u371, u372, u373, u374, u375, u376, u377, u378, u379, u380, u381, u382, u383, u384, u385, u386, u387, u388, u389, u390, u391, u392, u393, u394], []⟩ W2 := by
  have HPost := hide hP
  have HX := hide hX
  have lX : XB < W.heap.size := World.block_lt_of_cell? W _ (hX 0 _ rfl)
  have ld : w.heap.size < W1.heap.size := World.block_lt_of_cell? W1 _ (Desk.ptr D)
  have s0 := k0.size
  have s1 := K.size
  have D2 := Desk.later D (k0.trans K)
  have q : at3 m h g s := ⟨by rw [St.H]; exact ox.lh, by rw [St.G]; exact ox.lg, ox.ls⟩
  have hs' : otherS s < 2 := by unfold otherS; split <;> omega
  have q' : at3 m h g (otherS s) := ⟨q.1, q.2.1, hs'⟩
  have hn : m.nu + 1 ≤ 2000000 := by have := St.nu; omega
  have hTH : TH.Perm (theirs x (m.bk h g (otherS s))) := by rw [← coll_theirs St.inv St.T q ox.eh ox.eg ox.es]; exact hp
  have hmem : ∀ o ∈ TH, o ∈ m.bk h g (otherS s) := fun o ho => (List.mem_filter.1 (hTH.subset ho)).1
  have hlb : (m.bk h g (otherS s)).length ≤ 60 := by
    have h1 := len_bk q'
    have h2 := St.inv.a60
    omega
  have hlen : TH.length ≤ 60 := by
    have h1 := hTH.length_eq
    have h2 := List.length_filter_le (fun z => decide (z.t ≠ x.t) && pfits x z) (m.bk h g (otherS s))
    unfold theirs at h1
    omega
  have hod := fun o ho => St.inv.od h g (otherS s) o q.1 q.2.1 hs' (hmem o ho)
  have HSd := hide (show ∀ o ∈ TH, o.s = otherS s from fun o ho => (hod o ho).s)
  have HId := hide (show TH.Pairwise fun a b => a.id ≠ b.id from pair_of_cnt fun n => by
    rw [cntI_perm hp]
    have h1 := cntI_sub n (show (collT x m.all 4).Sublist m.all from List.filter_sublist)
    have h2 := St.jn.ids n
    omega)
  have HBd := hide (show ∀ o ∈ TH, (1 ≤ o.p ∧ o.p ≤ 100000) ∧ (1 ≤ o.q ∧ o.q ≤ 10000) from fun o ho => ⟨(hod o ho).p, (hod o ho).q⟩)
  have hts : (placeT m x).length ≤ 60 := by
    by_cases hE : placeE m x = 0
    · rw [placeT_eq hE ox.eh ox.eg ox.es]
      have := matchT_len (m.fee h) (m.bk h g (otherS s)) { x with id := m.nu + 1 }
      omega
    · rw [(placeT_no hE).1]; simp
  have HHo := hide (show Calls Try.prog 18 #[.pointer (some ⟨X, 0, none⟩)] W2 fun e w' => e = .returned (.int .i64 m.ho) ∧ w' = W2 from by
    obtain ⟨L, rv, pb, eX, D'⟩ := D2
    have := house_any W2 L m D'.R
    rwa [eX] at this)
  obtain ⟨V, hV, kV⟩ : ∃ V, V = W2.drew ∧ Kep non W2 V := ⟨_, rfl, (Kep.refl _ _).drew⟩
  have sV := kV.size
  have HPl := hide (show Calls Try.prog 19 #[.pointer (some ⟨X, 0, none⟩), x.agg] W2.drew fun e w3 => ∃ (a : Int) (v : Value) (b : Int), e = .returned (.tuple #[.int .i64 a, v, .int .i64 b]) ∧ PlPost w rs X m x W1 V (.returned (.tuple #[.int .i64 a, v, .int .i64 b])) w3 from by
    rw [← hV]
    refine (DeskB.place D (k0.trans (K.trans kV)) St.inv hn x).mono fun e w3 ⟨v, S, e1, h⟩ => ⟨_, v, _, e1, v, S, rfl, h⟩)
  have HX2 := hide (fun j u h => K.cell (HX.out j u h) (fun f => f))
  have cp := Desk.ptr D2
  have HXV := hide (fun j u h => kV.cell (K.cell (HX.out j u h) (fun f => f)) (fun f => f))
  have HRV := hide (ownsRow_kep R kV (fun _ _ f => f))
  have lR := R.lt
  have HV := hide hV
  have HH := hide (show 0 ≤ m.ho ∧ m.ho ≤ 1000000000000 from St.inv.ok.ho)
  clear hX hP D D2 hV kV R hp hmem hod
  conv => arg 2; whnf
  go_wp2_with fail
  refine HHo.out.mono ?_
  rintro e' w' ⟨rfl, rfl⟩
  clear HHo
  go_wp2_with fail
  refine best_g23 (x := x) (fun a v b wx => PlPost w rs X m x W1 V (.returned (.tuple #[.int .i64 a, v, .int .i64 b])) wx) cp HX2.out HPl.out _ _ _ _ _ _ _ _ _ _ _ _ _ _ _ _ _ _ _ _ _ _ _ _ _ _ _ _ _ _ _ _ _ _ _ _ _ _ _ _ _ _ _ _ _ _ _ _ _ _ _ _ _ _ _ _ _ _ _ _ _ _ _ _ _ _ _ _ _ _ _ _ _ _ _ _ _ _ _ _ _ _ _ _ _ _ _ _ _ _ _ _ _ _ _ _ _ _ _ _ _ _ _ _ _ _ _ _ _ _ _ _ _ _ _ _ _ _ _ _ _ _ _ _ _ _ _ _ _ _ _ _ _ _ _ _ _ _ _ _ _ _ _ _ _ _ _ _ _ _ _ _ _ _ _ _ _ _ _ _ _ _ _ _ _ _ _ _ _ _ _ _ _ _ _ _ _ _ _ _ _ _ _ _ _ _ _ _ _ _ _ _ _ _ _ _ _ _ _ _ _ _ _ _ _ _ _ _ _ _ _ _ _ _ _ _ _ _ _ _ _ _ _ _ _ _ _ _ _ _ _ _ _ _ _ _ _ _ _ _ _ _ _ _ _ _ _ _ _ _ _ _ _ _ _ _ _ _ _ _ _ _ _ _ _ _ _ _ _ _ _ _ _ _ _ _ _ _ _ _ _ _ _ _ _ _ _ _ _ _ _ _ _ _ _ _ _ _ _ _ _ _ _ _ _ _ _ _ _ _ _ _ _ _ _ _ _ _ _ _ _ _ _ _ _ _ _ _ _ _ _ _ _ _ _ _ _ _ _ _ _ _ _ _ _ _ _ _ _ _ _ _ _ _ _ _ _ _ _ _ _ _ _ _ _ _ _ _ _ _ _ _ _ _ _ _ _ _ _ _ _ _ _ _ _ _ _ _ _ _ _ _ _ _ ?_
  intro n140 n141 n142 n143 n144 n145 n146 n147 n148 n149 a18 v18 b18 w3 hPl
  obtain ⟨v, S, ev, D3, HD3, ⟨rb, cap, c3, lrb, crb⟩, hrow, kS, hS⟩ := hPl
  have ev' : a18 = placeI m x ∧ v18 = v ∧ b18 = placeE m x := by simpa using ev
  obtain ⟨rfl, rfl, rfl⟩ := ev'
  clear ev
  obtain ⟨ta, tc, rfl⟩ := row_form hrow
  have s3 := kS.size
  have HX3 := hide (fun j u h => kS.cell (HXV.out j u h) (fun f => by have h1 : XB < W1.heap.size := hS _ f; omega))
  have R3 := ownsRow_kep HRV.out kS (fun b hb f => by have := (lR b hb).1; have := hS _ f; omega)
  have I3 := St.inv.place hn x
  have J3 := Moves.jn St.inv St.jn (m' := placeM m x) (.inr (.inr (.inr (.inr (.inr (.inr (.inr (.inr (.inr ⟨x, rfl⟩)))))))))
  have okt : okI (placeM m x).T x.t := by
    have := (Moves.dims (m := m) (m' := placeM m x) (.inr (.inr (.inr (.inr (.inr (.inr (.inr (.inr (.inr ⟨x, rfl⟩)))))))))).T
    have h2 := ox.t
    have h3 := St.T
    exact ⟨h2.1, by rw [this, h3]; exact h2.2⟩
  have HDk := hide D3
  have HD3' := hide HD3
  have HRb := hide crb
  have HC3 := hide c3
  have HTr := hide (fun i hi => trow_at hrow i hi)
  have xw := ox.w
  have x6' := HX3.out 6 _ rfl
  clear HPl HXV HX2 HRV cp D3 HD3 crb c3 hrow kS hS HV
  by_cases hE : placeE m x = 0
  · rw [hE]
    have hI : placeI m x = m.nu + 1 := by unfold placeI; rw [if_pos hE]
    rw [hI]
    obtain ⟨TB, hva, hTB, A0⟩ : ∃ TB, (0 < TH.length → va = some ⟨TB, 0, none⟩) ∧ ((W.heap.size ≤ TB ∧ TB < V.heap.size) ∨ w3.heap.size ≤ TB) ∧ ThAt w3 TB TH w3 := by
      by_cases h0 : 0 < TH.length
      · obtain ⟨ob, oc, ov, _, _⟩ := R3.form h0
        simp only [Value.slice.injEq, true_and] at ov
        obtain ⟨rfl, rfl⟩ := ov
        have l1 := lR ob rfl
        exact ⟨ob, fun _ => rfl, .inl ⟨l1.1, by omega⟩, ThAt.of R3 (Kep.refl _ _)⟩
      · exact ⟨w3.heap.size, fun f => absurd f h0, .inr (Nat.le_refl _), Kep.refl _ _, fun i hi => absurd hi (by omega)⟩
    have S0 := hide (show BSim (feeOf (m.rt h)) s x (m.nu + 1) (placeT m x) 0 TH x.q m.ho m.ho from bsim_start St.inv St.jn hE q ox.eh ox.eg ox.es hTH)
    have hrt : rs[h]? = some (m.rt h) := St.rt h ox.lh
    have hrt2 := hR _ (List.mem_of_getElem? hrt)
    have HEnd := hide (fun l (T : Told (placeM m x) x.t l) => (best_end St.inv St.jn hE q ox.eh ox.eg ox.es ox.q.1 T).2)
    have HFe := hide (place_ho m x)
    have x2' := HX3.out 2 (.int .i64 h) (by rw [← ox.eh]; rfl)
    have HTr' := hide (show ∀ i, i < (placeT m x).length → ∃ b, ta = some ⟨b, 0, none⟩ ∧ b ≠ TB ∧ ∀ i (hi : i < (placeT m x).length) j u, (placeT m x)[i].cells[j]? = some u → w3.cell? ⟨b, i * 6 + j, none⟩ = some u from fun i hi => by
      obtain ⟨b, h1, h2, h3, h4⟩ := HTr.out i hi
      exact ⟨b, h1, by omega, h4⟩)
    have hrr := HRb.out h _ hrt
    have hss := ox.es
    have hs1 := ox.ls
    have hq1 := ox.q
    have hh1 := ox.lh
    have HA0 := hide A0
    have ho2 := HH.out
    clear HTr HRb R3 A0 hTH HH
    generalize hts' : placeT m x = ts at *
    have HTs := hide hts'
    clear hts'
    go_wp2
    rename_i Kx hKx
    have HKx := hide hKx
    clear hKx
    refine best_l4 (rt := m.rt h) hs1 hss hh1 hrt2 ho2 (by omega) hts (by omega) HSd.out HId.out HBd.out hva HA0.out S0.out x2' (by omega) HC3.out (by omega) hrr (by omega) HTr'.out _ _ _ _ _ _ _ _ _ _ _ _ _ _ _ _ _ _ _ _ _ _ _ _ _ _ _ _ _ _ _ _ _ _ _ _ _ _ _ _ _ _ _ _ _ _ _ _ _ _ _ _ _ _ _ _ _ _ _ _ _ _ _ _ _ _ _ _ _ _ _ _ _ _ _ _ _ _ _ _ _ _ _ _ _ _ _ _ _ _ _ _ _ _ _ _ _ _ _ _ _ _ _ _ _ _ _ _ _ _ _ _ _ _ _ _ _ _ _ _ _ _ _ _ _ _ _ _ _ _ _ _ _ _ _ _ _ _ _ _ _ _ _ _ _ _ _ _ _ _ _ _ _ _ _ _ _ _ _ _ _ _ _ _ _ _ _ _ _ _ _ _ _ _ _ _ _ _ _ _ _ _ _ _ _ _ _ _ _ _ _ _ _ _ _ _ _ _ _ _ _ _ _ _ _ _ _ _ _ _ _ _ _ _ _ _ _ _ _ _ _ _ _ _ _ _ _ _ _ _ _ _ _ _ _ _ _ _ _ _ _ _ _ _ _ _ _ _ _ _ _ _ _ _ _ _ _ _ _ _ _ _ _ _ _ _ _ _ _ _ _ _ _ _ _ _ _ _ _ _ _ _ _ _ _ _ _ _ _ _ _ _ _ _ _ _ _ _ _ _ _ _ _ _ _ _ _ _ _ _ _ _ _ _ _ _ _ _ _ _ _ _ _ _ _ _ _ _ _ _ _ _ _ _ _ _ _ _ _ _ _ _ _ _ _ _ _ _ _ _ _ _ _ _ _ _ _ _ _ _ _ _ _ _ _ _ _ _ _ _ _ _ _ _ _ _ _ _ _ _ _ _ _ _ _ _ _ _ ?_
    intro n6 n22 n23 n152 n153 n154 n155 n156 n157 n158 n159 n160 n161 n162 n163 n164 n165 n166 n167 n168 n169 n170 n171 n172 n173 n174 n175 n176 n177 n178 n179 n180 n181 n182 n183 n184 n185 n186 n187 n188 n189 n190 n191 n192 n193 n194 n195 n196 n197 n198 n199 n200 n201 n202 n203 n204 n205 n206 n207 n208 n209 n210 n211 n212 n213 n214 n215 n216 n217 n218 n219 n220 n221 n222 n223 n224 n225 n226 n227 n228 n229 n230 n231 n232 n233 n234 n235 n236 n237 n238 n239 n240 n241 n242 n243 n244 n245 n246 n247 n248 n249 n250 n251 n252 n253 n254 n255 n256 n257 n258 n259 n260 n261 n262 n263 n264 n265 n266 n267 n268 n269 n270 n271 n272 n273 n274 n275 n276 n277 fees left TH' W4 hlen' hkey A4 S4
    have D4 : DeskB w rs X (placeM m x) W4 := by
      rcases hTB with ⟨t1, t2⟩ | t1
      · exact HD3'.out TB W4 (by omega) t2 A4.kp
      · exact Desk.later HDk.out ((Kep.refl non w3).trans' A4.kp (fun i hi => .inr (by omega)))
    obtain ⟨l4, _, _, _, hf, hq⟩ := id S4
    rw [List.take_length] at hf hq
    have e1 : fees = (placeM m x).ho := by rw [HFe.out]; exact hf
    have HOv := hide (fun r (B : BestOf (otherS s) TH' r) (hl : 0 < left) => S4.over hs1 hss hl B)
    have HEn := hide (show ∀ l, Told (placeM m x) x.t l → BEnd x left ts.length (waitL (m.nu + 1) l) from fun l T => by rw [hq]; exact HEnd.out l T)
    have HX4 := hide (fun j u h => A4.kp.cell (HX3.out j u h) (fun e => by have h1 : XB = TB := e; omega))
    have HRw := hide (show ∀ i, i < TH'.length → ∃ b, va = some ⟨b, 0, none⟩ ∧ ∀ i (hi : i < TH'.length) j u, TH'[i].cells[j]? = some u → W4.cell? ⟨b, i * 8 + j, none⟩ = some u from fun i hi => ⟨TB, hva (by omega), fun i hi j u hu => (A4.row i hi j u hu).cell⟩)
    have HD4 := hide D4
    have l300 : TH'.length ≤ 300 := by omega
    have Hsd' := hide (keys_sides hkey HSd.out)
    have Hid' := hide (keys_ids hkey HId.out)
    clear hf hq S4 A4 D4 S0 HFe HEnd HTr' HDk HD3' HX3 HC3 x2' x6' hrr HA0 HSd HId HBd
    subst e1
    rw [← hlen']
    go_wp2
    refine HKx.out _ _ ?_
    exact best_r3 HD4.out I3 J3 okt l300 Hsd'.out Hid'.out HRw.out xw HX4.out (fun f => absurd rfl f) (fun _ => ⟨HOv.out, HEn.out⟩) Post (fun W' kk => HPost.out W' ((Desk.kp HD4.out).trans kk)) _ _ _ _ _ _ _ _ _ _ _ _ _ _ _ _ _ _ _ _ _ _ _ _ _ _ _ _ _ _ _ _ _ _ _ _ _ _ _ _ _ _ _ _ _ _ _ _ _ _ _ _ _ _ _ _ _ _ _ _ _ _ _ _ _ _ _ _ _ _ _ _ _ _ _ _ _ _ _ _ _ _ _ _ _ _ _ _ _ _ _ _ _ _ _ _ _ _ _ _ _ _ _ _ _ _ _ _ _ _ _ _ _ _ _ _ _ _ _ _ _ _ _ _ _ _ _ _ _ _ _ _ _ _ _ _ _ _ _ _ _ _ _ _ _ _ _ _ _ _ _ _ _ _ _ _ _ _ _ _ _ _ _ _ _ _ _ _ _ _ _ _ _ _ _ _ _ _ _ _ _ _ _ _ _ _ _ _ _ _ _ _ _ _ _ _ _ _ _ _ _ _ _ _ _ _ _ _ _ _ _ _ _ _ _ _ _ _ _ _ _ _ _ _ _ _ _ _ _ _ _ _ _ _ _ _ _ _ _ _ _ _ _ _ _ _ _ _ _ _ _ _ _ _ _ _ _ _ _ _ _ _ _ _ _ _ _ _ _ _ _ _ _ _ _ _ _ _ _ _ _ _ _ _ _ _ _ _ _ _ _ _ _ _ _ _ _ _ _ _ _ _ _ _ _ _ _ _ _ _ _ _ _ _ _ _ _ _ _ _ _ _ _ _ _ _ _ _ _ _ _ _ _ _ _ _ _ _ _ _ _ _ _ _ _ _ _ _ _ _ _ _ _ _ _ _ _ _ _ _ _ _ _ _ _ _ _ _ _ _ _ _ _ _ _ _ _ _ _ _ _ _ _ _ _ _ _
  · obtain ⟨t1, t2, t3⟩ := placeT_no hE
    have HTen := hide (fun f => placeE_ten (m := m) (x := x) f)
    have HElv := hide (fun f => placeE_eleven (m := m) (x := x) f)
    rw [t1, t2]
    rw [t3] at HDk I3 J3 okt
    have HRw := hide (show ∀ i, i < TH.length → ∃ b, va = some ⟨b, 0, none⟩ ∧ ∀ i (hi : i < TH.length) j u, TH[i].cells[j]? = some u → w3.cell? ⟨b, i * 8 + j, none⟩ = some u from fun i hi => by
      obtain ⟨ob, oc, ov, _, _⟩ := R3.form (by omega)
      simp only [Value.slice.injEq, true_and] at ov
      obtain ⟨rfl, rfl⟩ := ov
      exact ⟨ob, rfl, fun i hi j u hu => ((ThAt.of R3 (Kep.refl _ _)).row i hi j u hu).cell⟩)
    have hs1 := ox.ls
    have l300 : TH.length ≤ 300 := by omega
    clear HTr HRb R3 HH HD3' HC3 hTH HBd
    generalize placeE m x = ee at *
    simp only [List.length_nil]
    go_wp2
    rename_i Kx hKx
    have HKx := hide hKx
    clear hKx
    go_loopw [16, 20, 21] (fun f lf i wr => f = .int .i64 m.ho ∧ lf = .int .i64 x.q ∧ i = .int .i64 0 ∧ wr = w3) (fun _ _ _ _ => 0)
    case atStart => exact ⟨rfl, rfl, rfl, rfl⟩
    case round =>
      obtain ⟨rfl, rfl, rfl, rfl⟩ := hrel
      go_wp2
      refine HKx.out _ _ ?_
      exact best_r3 (s := s) HDk.out I3 J3 okt l300 HSd.out HId.out HRw.out xw HX3.out (fun _ => ⟨rfl, rfl, HTen.out, HElv.out⟩) (fun f => absurd f hE) Post (fun W' kk => HPost.out W' ((Desk.kp HDk.out).trans kk)) _ _ _ _ _ _ _ _ _ _ _ _ _ _ _ _ _ _ _ _ _ _ _ _ _ _ _ _ _ _ _ _ _ _ _ _ _ _ _ _ _ _ _ _ _ _ _ _ _ _ _ _ _ _ _ _ _ _ _ _ _ _ _ _ _ _ _ _ _ _ _ _ _ _ _ _ _ _ _ _ _ _ _ _ _ _ _ _ _ _ _ _ _ _ _ _ _ _ _ _ _ _ _ _ _ _ _ _ _ _ _ _ _ _ _ _ _ _ _ _ _ _ _ _ _ _ _ _ _ _ _ _ _ _ _ _ _ _ _ _ _ _ _ _ _ _ _ _ _ _ _ _ _ _ _ _ _ _ _ _ _ _ _ _ _ _ _ _ _ _ _ _ _ _ _ _ _ _ _ _ _ _ _ _ _ _ _ _ _ _ _ _ _ _ _ _ _ _ _ _ _ _ _ _ _ _ _ _ _ _ _ _ _ _ _ _ _ _ _ _ _ _ _ _ _ _ _ _ _ _ _ _ _ _ _ _ _ _ _ _ _ _ _ _ _ _ _ _ _ _ _ _ _ _ _ _ _ _ _ _ _ _ _ _ _ _ _ _ _ _ _ _ _ _ _ _ _ _ _ _ _ _ _ _ _ _ _ _ _ _ _ _ _ _ _ _ _ _ _ _ _ _ _ _ _ _ _ _ _ _ _ _ _ _ _ _ _ _ _ _ _ _ _ _ _ _ _ _ _ _ _ _ _ _ _ _ _ _ _ _ _ _ _ _ _ _ _ _ _ _ _ _ _ _ _ _ _ _ _ _ _ _ _ _ _ _ _ _ _ _ _ _ _ _ _ _ _ _ _ _ _ _ _ _ _ _ _

end

end Go.Proofs.Ytcfoobhihhndjaa
