/- The statements' desk: a market that is opened: one trade is done. -/
import Derived.Test.YtcfoobhihhndjaaB30
import Derived.Test.YtcfoobhihhndjaaB31
namespace Go.Proofs.Ytcfoobhihhndjaa

section
open Go.RowKit Go.Sort

set_option maxRecDepth 1000000 in
def PFr (w : World) (x : Nat) (a : Act) : Prop := ∃ u0 u1 u2 u4 u6 u7 u8 u9 u10 u11 u12 u13 u14 u15 u16 u17 u18 u19 u20 u21 u22 u23 u24 u25 u26 u27 u28 u29 u30 u31 u32 u33 u34 u35 u36 u37 u38 u39 u40 u41 u42 u43 u44 u45 u46 u47 u48 u49 u50 u51 u52 u53 u54 u55 u56 u57 u58 u59 u60 u61 u62 u63 u64 u65 u66 u67 u68 u69 u70 u71 u72 u73 u74 u75 u76 u77 u78 u79 u80 u81 u82 u83 u84 u85 u86 u87 u88 u89 u90 u91 u92 u93 u94 u95 u96 u97 u98 u99 u100 u101 u102 u103 u104 u105 u106 u107 u108 u109 u110 u111 u112 u113 u114 u115 u116 u117 u118 u119 u120 u121 u122 u123 u124 u125 u126 u127 u128 u129 u130 u131 u132 u133 u134 u135 u136 u137 u138 u139 u140 u141 u142 u143 u144 u145 u146 u147 u148 u149 u150 u151 u152 u153 u154 u155 u156 u157 u158 u159 u160 u161 u162 u163 u164 u165 u166 u167 u168 u169 u170 u171 u172 u173 u174 u175 u176 u177 u178 u179 : Value, a = ⟨#[u0, u1, u2, .pointer (some ⟨w.heap.size, 0, none⟩), u4, .pointer (some ⟨x, 0, none⟩), u6, u7, u8, u9, u10, u11, u12, u13, u14, u15, u16, u17, u18, u19, u20, u21, u22, u23, u24, u25, u26, u27, u28, u29, u30, u31, u32, u33, u34, u35, u36, u37, u38, u39, u40, u41, u42, u43, u44, u45, u46, u47, u48, u49, u50, u51, u52, u53, u54, u55, u56, u57, u58, u59, u60, u61, u62, u63, u64, u65, u66, u67, u68, u69, u70, u71, u72, u73, u74, u75, u76, u77, u78, u79, u80, u81, u82, u83, u84, u85, u86, u87, u88, u89, u90, u91, u92, u93, u94, u95, u96, u97, u98, u99, u100, u101, u102, u103, u104, u105, u106, u107, u108, u109, u110, u111, u112, u113, u114, u115, u116, u117, u118, u119, u120, u121, u122, u123, u124, u125, u126, u127, u128, u129, u130, u131, u132, u133, u134, u135, u136, u137, u138, u139, u140, u141, u142, u143, u144, u145, u146, u147, u148, u149, u150, u151, u152, u153, u154, u155, u156, u157, u158, u159, u160, u161, u162, u163, u164, u165, u166, u167, u168, u169, u170, u171, u172, u173, u174, u175, u176, u177, u178, u179], []⟩

/-- a desk, its market somewhere in memory at x -/
def Desk (w : World) (rs : List Int) (x : Nat) (mon p0 p1 : Int) (m : Mt) (W : World) : Prop := ∃ L rv pb, L.x = x ∧ DRep w w.heap.size rs mon p0 p1 L rv pb m W

theorem row_len {w : World} {B : Nat} {e : TypeId} {z : Nat} {v : Value} {n : Nat} {xs : List Value} (h : w.ownsRow B e z v n xs) : ∃ a c, v = .slice a n c := by
  rcases h.2 with ⟨e1, e2⟩ | ⟨b, cap, cur, e1, _⟩
  · exact ⟨none, 0, by rw [e1, e2]⟩
  · exact ⟨_, _, e1⟩

theorem row_form1 {w : World} {B : Nat} {e : TypeId} {z : Nat} {v : Value} {n : Nat} {xs : List Value} (h : w.ownsRow B e z v n xs) (hn : 0 < n) : ∃ b c, v = .slice (some ⟨b, 0, none⟩) n c := by
  rcases h.2 with ⟨e1, e2⟩ | ⟨b, cap, cur, e1, _⟩
  · omega
  · exact ⟨b, cap, e1⟩

/-- what Place leaves of a desk -/
theorem Desk.td {w : World} {d : Nat} {rs : List Int} {mon p0 p1 : Int} {L : PL} {rv : Value} {pb : Nat} {m m' : Mt} {W W' : World} {v : Value} {ts : List Td} (D : DRep w d rs mon p0 p1 L rv pb m W) (P : TdPost W L m m' v ts W') : ∃ L', L'.x = L.x ∧ DRep w d rs mon p0 p1 L' rv pb m' W' := by
  obtain ⟨L', ex, sub, R', _⟩ := P.rep
  exact ⟨L', ex.1, D.turn P.kp ex sub R'⟩
theorem Desk.pp {w : World} {d : Nat} {rs : List Int} {mon p0 p1 : Int} {L : PL} {rv : Value} {pb : Nat} {m m' : Mt} {W W' : World} (D : DRep w d rs mon p0 p1 L rv pb m W) (P : PPost W L m m' W') : ∃ L', L'.x = L.x ∧ DRep w d rs mon p0 p1 L' rv pb m' W' := by
  obtain ⟨L', ex, sub, R'⟩ := P.rep
  exact ⟨L', ex.1, D.turn P.kp ex sub R'⟩

set_option maxHeartbeats 4000000 in
set_option maxRecDepth 1000000 in
theorem opened_end {w W : World} {rs : List Int} {x : Nat} {mon p0 p1 : Int} {N : Int} (h1 : 1 ≤ rs.length) (hr : ∀ x ∈ rs, 0 ≤ x ∧ x ≤ 100) (I : (fulM rs).Inv N) (D : Desk w rs x mon p0 p1 (fulM rs) W) {a : Act} (hf : PFr w x a) (Post : Ending → World → Prop) (hP : ∀ W', Desk w rs x mon p0 p1 (openM rs) W' → Post (.returned (.pointer (some ⟨w.heap.size, 0, none⟩))) W') :
    Code.wp Try.prog (((Try.f9.body.bind afterLoop).bind afterLoop).getD .skip) (bodyPost Try.prog Try.f9 Post) a W := by
  have bN := I.bN
  obtain ⟨s1, s2, s3, s4⟩ := sold h1
  obtain ⟨t1, t2, ⟨fe, t3⟩, _⟩ := bought h1 hr
  have I1 : (soldM rs).Inv N := by rw [← s4]; exact I.place (by show (0 : Int) + 1 ≤ N; omega) sellO
  obtain ⟨L, rv, pb, ex, D⟩ := D
  have HP1 := hide (place_any W L _ N D.R I (by show (0 : Int) + 1 ≤ N; omega) sellO)
  rw [s1, s2, s3, s4, ex] at HP1
  have HP2 := hide (fun W' L' (R : PRep W' L' (soldM rs)) => place_any W' L' _ N R I1 (by show (1 : Int) + 1 ≤ N; omega) buyO)
  rw [t1, t2, t3] at HP2
  have HD := hide D
  have HX := hide ex
  have HPo := hide hP
  clear s1 s2 s3 s4 t1 t2 t3 D I I1 ex hP
  unfold Od.agg sellO at HP1
  obtain ⟨u0, hf⟩ := hf
  obtain ⟨u1, hf⟩ := hf
  obtain ⟨u2, hf⟩ := hf
  obtain ⟨u4, hf⟩ := hf
  obtain ⟨u6, hf⟩ := hf
  obtain ⟨u7, hf⟩ := hf
  obtain ⟨u8, hf⟩ := hf
  obtain ⟨u9, hf⟩ := hf
  obtain ⟨u10, hf⟩ := hf
  obtain ⟨u11, hf⟩ := hf
  obtain ⟨u12, hf⟩ := hf
  obtain ⟨u13, hf⟩ := hf
  obtain ⟨u14, hf⟩ := hf
  obtain ⟨u15, hf⟩ := hf
  obtain ⟨u16, hf⟩ := hf
  obtain ⟨u17, hf⟩ := hf
  obtain ⟨u18, hf⟩ := hf
  obtain ⟨u19, hf⟩ := hf
  obtain ⟨u20, hf⟩ := hf
  obtain ⟨u21, hf⟩ := hf
  obtain ⟨u22, hf⟩ := hf
  obtain ⟨u23, hf⟩ := hf
  obtain ⟨u24, hf⟩ := hf
  obtain ⟨u25, hf⟩ := hf
  obtain ⟨u26, hf⟩ := hf
  obtain ⟨u27, hf⟩ := hf
  obtain ⟨u28, hf⟩ := hf
  obtain ⟨u29, hf⟩ := hf
  obtain ⟨u30, hf⟩ := hf
  obtain ⟨u31, hf⟩ := hf
  obtain ⟨u32, hf⟩ := hf
  obtain ⟨u33, hf⟩ := hf
  obtain ⟨u34, hf⟩ := hf
  obtain ⟨u35, hf⟩ := hf
  obtain ⟨u36, hf⟩ := hf
  obtain ⟨u37, hf⟩ := hf
  obtain ⟨u38, hf⟩ := hf
  obtain ⟨u39, hf⟩ := hf
  obtain ⟨u40, hf⟩ := hf
  obtain ⟨u41, hf⟩ := hf
  obtain ⟨u42, hf⟩ := hf
  obtain ⟨u43, hf⟩ := hf
  obtain ⟨u44, hf⟩ := hf
  obtain ⟨u45, hf⟩ := hf
  obtain ⟨u46, hf⟩ := hf
  obtain ⟨u47, hf⟩ := hf
  obtain ⟨u48, hf⟩ := hf
  obtain ⟨u49, hf⟩ := hf
  obtain ⟨u50, hf⟩ := hf
  obtain ⟨u51, hf⟩ := hf
  obtain ⟨u52, hf⟩ := hf
  obtain ⟨u53, hf⟩ := hf
  obtain ⟨u54, hf⟩ := hf
  obtain ⟨u55, hf⟩ := hf
  obtain ⟨u56, hf⟩ := hf
  obtain ⟨u57, hf⟩ := hf
  obtain ⟨u58, hf⟩ := hf
  obtain ⟨u59, hf⟩ := hf
  obtain ⟨u60, hf⟩ := hf
  obtain ⟨u61, hf⟩ := hf
  obtain ⟨u62, hf⟩ := hf
  obtain ⟨u63, hf⟩ := hf
  obtain ⟨u64, hf⟩ := hf
  obtain ⟨u65, hf⟩ := hf
  obtain ⟨u66, hf⟩ := hf
  obtain ⟨u67, hf⟩ := hf
  obtain ⟨u68, hf⟩ := hf
  obtain ⟨u69, hf⟩ := hf
  obtain ⟨u70, hf⟩ := hf
  obtain ⟨u71, hf⟩ := hf
  obtain ⟨u72, hf⟩ := hf
  obtain ⟨u73, hf⟩ := hf
  obtain ⟨u74, hf⟩ := hf
  obtain ⟨u75, hf⟩ := hf
  obtain ⟨u76, hf⟩ := hf
  obtain ⟨u77, hf⟩ := hf
  obtain ⟨u78, hf⟩ := hf
  obtain ⟨u79, hf⟩ := hf
  obtain ⟨u80, hf⟩ := hf
  obtain ⟨u81, hf⟩ := hf
  obtain ⟨u82, hf⟩ := hf
  obtain ⟨u83, hf⟩ := hf
  obtain ⟨u84, hf⟩ := hf
  obtain ⟨u85, hf⟩ := hf
  obtain ⟨u86, hf⟩ := hf
  obtain ⟨u87, hf⟩ := hf
  obtain ⟨u88, hf⟩ := hf
  obtain ⟨u89, hf⟩ := hf
  obtain ⟨u90, hf⟩ := hf
  obtain ⟨u91, hf⟩ := hf
  obtain ⟨u92, hf⟩ := hf
  obtain ⟨u93, hf⟩ := hf
  obtain ⟨u94, hf⟩ := hf
  obtain ⟨u95, hf⟩ := hf
  obtain ⟨u96, hf⟩ := hf
  obtain ⟨u97, hf⟩ := hf
  obtain ⟨u98, hf⟩ := hf
  obtain ⟨u99, hf⟩ := hf
  obtain ⟨u100, hf⟩ := hf
  obtain ⟨u101, hf⟩ := hf
  obtain ⟨u102, hf⟩ := hf
  obtain ⟨u103, hf⟩ := hf
  obtain ⟨u104, hf⟩ := hf
  obtain ⟨u105, hf⟩ := hf
  obtain ⟨u106, hf⟩ := hf
  obtain ⟨u107, hf⟩ := hf
  obtain ⟨u108, hf⟩ := hf
  obtain ⟨u109, hf⟩ := hf
  obtain ⟨u110, hf⟩ := hf
  obtain ⟨u111, hf⟩ := hf
  obtain ⟨u112, hf⟩ := hf
  obtain ⟨u113, hf⟩ := hf
  obtain ⟨u114, hf⟩ := hf
  obtain ⟨u115, hf⟩ := hf
  obtain ⟨u116, hf⟩ := hf
  obtain ⟨u117, hf⟩ := hf
  obtain ⟨u118, hf⟩ := hf
  obtain ⟨u119, hf⟩ := hf
  obtain ⟨u120, hf⟩ := hf
  obtain ⟨u121, hf⟩ := hf
  obtain ⟨u122, hf⟩ := hf
  obtain ⟨u123, hf⟩ := hf
  obtain ⟨u124, hf⟩ := hf
  obtain ⟨u125, hf⟩ := hf
  obtain ⟨u126, hf⟩ := hf
  obtain ⟨u127, hf⟩ := hf
  obtain ⟨u128, hf⟩ := hf
  obtain ⟨u129, hf⟩ := hf
  obtain ⟨u130, hf⟩ := hf
  obtain ⟨u131, hf⟩ := hf
  obtain ⟨u132, hf⟩ := hf
  obtain ⟨u133, hf⟩ := hf
  obtain ⟨u134, hf⟩ := hf
  obtain ⟨u135, hf⟩ := hf
  obtain ⟨u136, hf⟩ := hf
  obtain ⟨u137, hf⟩ := hf
  obtain ⟨u138, hf⟩ := hf
  obtain ⟨u139, hf⟩ := hf
  obtain ⟨u140, hf⟩ := hf
  obtain ⟨u141, hf⟩ := hf
  obtain ⟨u142, hf⟩ := hf
  obtain ⟨u143, hf⟩ := hf
  obtain ⟨u144, hf⟩ := hf
  obtain ⟨u145, hf⟩ := hf
  obtain ⟨u146, hf⟩ := hf
  obtain ⟨u147, hf⟩ := hf
  obtain ⟨u148, hf⟩ := hf
  obtain ⟨u149, hf⟩ := hf
  obtain ⟨u150, hf⟩ := hf
  obtain ⟨u151, hf⟩ := hf
  obtain ⟨u152, hf⟩ := hf
  obtain ⟨u153, hf⟩ := hf
  obtain ⟨u154, hf⟩ := hf
  obtain ⟨u155, hf⟩ := hf
  obtain ⟨u156, hf⟩ := hf
  obtain ⟨u157, hf⟩ := hf
  obtain ⟨u158, hf⟩ := hf
  obtain ⟨u159, hf⟩ := hf
  obtain ⟨u160, hf⟩ := hf
  obtain ⟨u161, hf⟩ := hf
  obtain ⟨u162, hf⟩ := hf
  obtain ⟨u163, hf⟩ := hf
  obtain ⟨u164, hf⟩ := hf
  obtain ⟨u165, hf⟩ := hf
  obtain ⟨u166, hf⟩ := hf
  obtain ⟨u167, hf⟩ := hf
  obtain ⟨u168, hf⟩ := hf
  obtain ⟨u169, hf⟩ := hf
  obtain ⟨u170, hf⟩ := hf
  obtain ⟨u171, hf⟩ := hf
  obtain ⟨u172, hf⟩ := hf
  obtain ⟨u173, hf⟩ := hf
  obtain ⟨u174, hf⟩ := hf
  obtain ⟨u175, hf⟩ := hf
  obtain ⟨u176, hf⟩ := hf
  obtain ⟨u177, hf⟩ := hf
  obtain ⟨u178, hf⟩ := hf
  obtain ⟨u179, hf⟩ := hf
  subst hf
  conv => arg 2; whnf
  go_wp2_with fail
  refine HP1.out.mono ?_
  rintro e w1 ⟨v, rfl, T1⟩
  obtain ⟨L1, e1, D1⟩ := Desk.td HD.out T1
  obtain ⟨va, vc, hv⟩ := row_len T1.tr
  simp only [List.length_nil] at hv
  subst hv
  have HP3 := hide (HP2.out w1 L1 D1.R)
  rw [e1, HX.out] at HP3
  unfold Od.agg buyO at HP3
  have HD1 := hide D1
  have HE1 := hide (e1.trans HX.out)
  clear T1 D1 e1
  go_wp2_with fail
  refine HP3.out.mono ?_
  rintro e w2 ⟨v, rfl, T2⟩
  obtain ⟨L2, e2, D2⟩ := Desk.td HD1.out T2
  obtain ⟨vb, vd, hv⟩ := row_form1 T2.tr (by simp)
  subst hv
  have tr := T2.tr
  simp only [List.length_singleton] at tr
  have r3 := tr.cellAt 3 (by decide)
  have r4 := tr.cellAt 4 (by decide)
  simp only [tdCells, Td.cells, List.flatMap_cons, List.flatMap_nil, List.append_nil] at r3 r4
  have r3' : w2.cell? ⟨vb, 3, none⟩ = some (.int .i64 50) := r3
  have r4' : w2.cell? ⟨vb, 4, none⟩ = some (.int .i64 3) := r4
  have HD2 := hide D2
  have HE2 := hide (e2.trans HE1.out)
  clear T2 D2 e2 tr r3 r4
  go_wp2
  exact HPo.out _ ⟨L2, rv, pb, HE2.out, HD2.out⟩
end

/- The statements' desk: a market that is opened. -/
section
open Go.RowKit Go.Sort

theorem openR_ok (rs : List Int) : 1 ≤ (openR rs).length ∧ (openR rs).length ≤ 3 ∧ ∀ x ∈ openR rs, 0 ≤ x ∧ x ≤ 100 := by
  unfold openR
  split
  · exact ⟨by decide, by decide, by decide⟩
  · rename_i h
    refine ⟨?_, ?_, fun x hx => ?_⟩
    · cases e : picks (rs.take 3) with
      | nil => exact absurd e h
      | cons a l => simp
    · simp [picks]; omega
    · obtain ⟨r, _, rfl⟩ := List.mem_map.1 hx
      have := pk_lt r (n := 101) (by decide)
      omega

/-- a desk with its rates -/
structure OpB (w : World) (rs : List Int) (W : World) : Prop where
  kp : Kep non w W
  c0 : Own W ⟨w.heap.size, 0, none⟩ (.pointer none)
  c4 : Own W ⟨w.heap.size, 4, none⟩ (.int .i64 0)
  c5 : Own W ⟨w.heap.size, 5, none⟩ (.slice none 0 0)
  rr : ∃ rb cap, Own W ⟨w.heap.size, 3, none⟩ (.slice (some ⟨rb, 0, none⟩) rs.length cap) ∧ w.heap.size < rb ∧ rb < W.heap.size ∧ ∀ i x, rs[i]? = some x → W.cell? ⟨rb, i, none⟩ = some (.int .i64 x)

theorem OpA.rates {w : World} {xs : List Int} {W : World} (S : OpA w xs W) (hx : xs ≠ []) : OpB w xs W := by
  have hl : 0 < xs.length := List.length_pos_iff.2 hx
  obtain ⟨a, c, h1, h2⟩ := S.v
  obtain ⟨b, cap, e⟩ := row_form1 h2 hl
  injection e with e _ e2
  subst e e2
  have lt := h2.lt b rfl
  refine ⟨S.kp, S.c0, S.c4, S.c5, b, c, h1, by omega, lt.2, fun i x hx => ?_⟩
  have hi : i < xs.length := (List.getElem?_eq_some_iff.1 hx).1
  rw [h2.cellAt i (by omega)]
  simp [hx]

theorem OpA.thirty {w : World} {W : World} (S : OpA w [] W) : OpB w [30] ((W.setCell ⟨w.heap.size, 3, none⟩ (.slice (some ⟨W.heap.size, 0, none⟩) 1 1)).alloc (.cells #[.int .i64 30] 3)) := by
  obtain ⟨a, c, h1, h2⟩ := S.v
  have lz := h1.lt
  have k1 : Kep (fun b => b = w.heap.size) W (W.setCell ⟨w.heap.size, 3, none⟩ (.slice (some ⟨W.heap.size, 0, none⟩) 1 1)) := (Kep.refl (fun b => b = w.heap.size) W).setCell (p := ⟨w.heap.size, 3, none⟩) (.inl rfl) _
  have k2 : Kep non (W.setCell ⟨w.heap.size, 3, none⟩ (.slice (some ⟨W.heap.size, 0, none⟩) 1 1)) ((W.setCell ⟨w.heap.size, 3, none⟩ (.slice (some ⟨W.heap.size, 0, none⟩) 1 1)).alloc (.cells #[.int .i64 30] 3)) := (Kep.refl _ _).alloc _
  have n : ∀ b, ¬ non b := fun _ f => f
  have oc : ∀ {j : Nat} {u : Value}, j ≠ 3 → Own W ⟨w.heap.size, j, none⟩ u → Own ((W.setCell ⟨w.heap.size, 3, none⟩ (.slice (some ⟨W.heap.size, 0, none⟩) 1 1)).alloc (.cells #[.int .i64 30] 3)) ⟨w.heap.size, j, none⟩ u := fun hj h => (h.set_other (q := ⟨w.heap.size, 3, none⟩) (by intro q; injection q with _ q _; exact hj q) rfl rfl _).kep k2 (n _)
  have hb := heap_alloc_new (W.setCell ⟨w.heap.size, 3, none⟩ (.slice (some ⟨W.heap.size, 0, none⟩) 1 1)) (.cells #[.int .i64 30] 3)
  have hz : (W.setCell ⟨w.heap.size, 3, none⟩ (.slice (some ⟨W.heap.size, 0, none⟩) 1 1)).heap.size = W.heap.size := by simp
  rw [hz] at hb
  refine ⟨(S.kp.setCell (p := ⟨w.heap.size, 3, none⟩) (.inr (Nat.le_refl _)) _).trans k2, oc (by decide) S.c0, oc (by decide) S.c4, oc (by decide) S.c5, W.heap.size, 1, ?_, lz, by simp, fun i x hx => ?_⟩
  · exact (h1.set rfl _).kep k2 (n _)
  · rcases i with _ | i
    · have : (30 : Int) = x := by simpa using hx
      subst this
      exact cell_of_row _ _ 0 _ _ _ hb
    · simp at hx

/-- the market is made, and the desk has it -/
theorem OpB.desk {w : World} {rs : List Int} {W W1 : World} (S : OpB w rs W) {L : PL} (R : PRep W1 L (newM 4 2 rs)) (k : Kep non W W1) (fr : ∀ b, L.S (newM 4 2 rs) b → W.heap.size ≤ b) (hrb : W.heap.size ≤ L.rb ∧ W.heap.size ≤ L.bb) (h1 : 1 ≤ rs.length) {W2 : World}
    (k2 : Kep (fun b => b = w.heap.size) W1 W2) (c0 : Own W2 ⟨w.heap.size, 0, none⟩ (.pointer (some ⟨L.x, 0, none⟩))) (c5 : Own W2 ⟨w.heap.size, 5, none⟩ (.slice (some ⟨W1.heap.size, 0, none⟩) 2 2)) (hc : ∀ j u, j ≠ 0 → j ≠ 5 → Own W1 ⟨w.heap.size, j, none⟩ u → Own W2 ⟨w.heap.size, j, none⟩ u) (hp : W2.heap[W1.heap.size]? = some (.cells #[.int .i64 0, .int .i64 0] 3 (0, 0))) : Desk w rs L.x 0 0 0 (newM 4 2 rs) W2 := by
  obtain ⟨rb, cap, r1, r2, r3, r4⟩ := S.rr
  have n : ∀ b, ¬ non b := fun _ f => f
  have lz := S.c0.lt
  have lW := k.size
  have lS := R.lt (by show 1 ≤ 4; decide) (by show 1 ≤ 2; decide)
  have lrb := R.rblt h1
  have nd : ¬ L.S (newM 4 2 rs) w.heap.size := fun f => by have := fr _ f; omega
  have np : ¬ L.S (newM 4 2 rs) W1.heap.size := fun f => by have := lS _ f; omega
  refine ⟨L, _, W1.heap.size, rfl, ⟨(S.kp.trans k).trans' k2 (fun i hi => .inr (by omega)), R.keep k2 (fun b hb e => nd (e ▸ hb)) (by omega) (by omega), c0, hc 3 _ (by decide) (by decide) (r1.kep k (n _)), hc 4 _ (by decide) (by decide) (S.c4.kep k (n _)), c5, ⟨cell_of_row _ _ 0 _ _ _ hp, frozen_of_row _ _ 0 _ _ hp⟩, ⟨cell_of_row _ _ 1 _ _ _ hp, frozen_of_row _ _ 1 _ _ hp⟩, ⟨rb, cap, rfl, by have := k2.size; omega, by omega, by omega, fun f => by have := fr _ f; omega, fun i x hx => k2.cell (k.cell (r4 i x hx) (n _)) (by show ¬ rb = w.heap.size; omega)⟩, nd, np, by omega, ⟨by omega, by omega, by omega, by omega⟩, fun b hb => by have := fr b hb; have := S.kp.size; omega, ⟨Nat.le_refl _, by have := S.kp.size; omega⟩⟩⟩
end

end Go.Proofs.Ytcfoobhihhndjaa
