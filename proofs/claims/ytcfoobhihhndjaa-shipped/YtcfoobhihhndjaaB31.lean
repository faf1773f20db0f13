/- The statements' desk: a market that is opened, its rates. -/
import Derived.Test.YtcfoobhihhndjaaB11
import Derived.Test.YtcfoobhihhndjaaB29
import Derived.Test.YtcfoobhihhndjaaB30
namespace Go.Proofs.Ytcfoobhihhndjaa

section
open Go.RowKit Go.Sort

theorem picks_snoc (rs : List Int) (k : Nat) (hk : k < rs.length) : picks (rs.take (k + 1)) = picks (rs.take k) ++ [(pk rs[k] 101 : Int)] := by
  rw [List.take_succ_eq_append_getElem hk]
  simp only [picks, List.map_append, List.map_cons, List.map_nil]
theorem picks_len (rs : List Int) (k : Nat) (hk : k ≤ rs.length) : (picks (rs.take k)).length = k := by simp [picks]; omega

set_option maxRecDepth 1000000 in
def OFr (w : World) (a : Act) : Prop := ∃ u0 u1 u4 u5 u6 u7 u8 u9 u10 u11 u12 u13 u14 u15 u16 u17 u18 u19 u20 u21 u22 u23 u24 u25 u26 u27 u28 u29 u30 u31 u32 u33 u34 u35 u36 u37 u38 u39 u40 u41 u42 u43 u44 u45 u46 u47 u48 u49 u50 u51 u52 u53 u54 u55 u56 u57 u58 u59 u60 u61 u62 u63 u64 u65 u66 u67 u68 u69 u70 u71 u72 u73 u74 u75 u76 u77 u78 u79 u80 u81 u82 u83 u84 u85 u86 u87 u88 u89 u90 u91 u92 u93 u94 u95 u96 u97 u98 u99 u100 u101 u102 u103 u104 u105 u106 u107 u108 u109 u110 u111 u112 u113 u114 u115 u116 u117 u118 u119 u120 u121 u122 u123 u124 u125 u126 u127 u128 u129 u130 u131 u132 u133 u134 u135 u136 u137 u138 u139 u140 u141 u142 u143 u144 u145 u146 u147 u148 u149 u150 u151 u152 u153 u154 u155 u156 u157 u158 u159 u160 u161 u162 u163 u164 u165 u166 u167 u168 u169 u170 u171 u172 u173 u174 u175 u176 u177 u178 u179 : Value, a = ⟨#[u0, u1, .pointer none, .pointer (some ⟨w.heap.size, 0, none⟩), u4, u5, u6, u7, u8, u9, u10, u11, u12, u13, u14, u15, u16, u17, u18, u19, u20, u21, u22, u23, u24, u25, u26, u27, u28, u29, u30, u31, u32, u33, u34, u35, u36, u37, u38, u39, u40, u41, u42, u43, u44, u45, u46, u47, u48, u49, u50, u51, u52, u53, u54, u55, u56, u57, u58, u59, u60, u61, u62, u63, u64, u65, u66, u67, u68, u69, u70, u71, u72, u73, u74, u75, u76, u77, u78, u79, u80, u81, u82, u83, u84, u85, u86, u87, u88, u89, u90, u91, u92, u93, u94, u95, u96, u97, u98, u99, u100, u101, u102, u103, u104, u105, u106, u107, u108, u109, u110, u111, u112, u113, u114, u115, u116, u117, u118, u119, u120, u121, u122, u123, u124, u125, u126, u127, u128, u129, u130, u131, u132, u133, u134, u135, u136, u137, u138, u139, u140, u141, u142, u143, u144, u145, u146, u147, u148, u149, u150, u151, u152, u153, u154, u155, u156, u157, u158, u159, u160, u161, u162, u163, u164, u165, u166, u167, u168, u169, u170, u171, u172, u173, u174, u175, u176, u177, u178, u179], []⟩

set_option maxHeartbeats 4000000 in
set_option maxRecDepth 1000000 in
theorem opened_head (w : World) (v : Value) (rs : List Int) (hr : IntsAt w v rs) (hi : ∀ x ∈ rs, i64R x) (Post : Ending → World → Prop)
    (hrest : ∀ a W, OFr w a → OpA w (picks (rs.take 3)) W → Code.wp Try.prog ((Try.f9.body.bind afterLoop).getD .skip) (bodyPost Try.prog Try.f9 Post) a W) :
    Calls Try.prog 9 #[v] w Post := by
  obtain ⟨va, vc, rfl⟩ := hr.form
  have HR := hide hr
  have HI := hide hi
  have HRest := hide hrest
  have A0 := OpA.start w
  obtain ⟨i0, hi0, hz0, hz1, hz2⟩ := info_parts infoInt
  clear hr hi hrest
  have H0 := hide A0
  clear A0
  go_enter Try.func9, Try.ntmps9
  go_wp2
  generalize w.alloc (.cells #[.pointer none, .int .i64 4, .int .i64 2, .slice none 0 0, .int .i64 0, .slice none 0 0] 29) = W0 at *
  rename_i Kx hKx
  have HK := hide (show ∀ a W, OFr w a → OpA w (picks (rs.take 3)) W → Kx a W from fun a W f S => hKx a W (HRest.out a W f S))
  clear hKx HRest
  go_loopw [4] (fun i wr => ∃ k : Nat, k ≤ rs.length ∧ k ≤ 3 ∧ i = .int .i64 k ∧ OpA w (picks (rs.take k)) wr) (fun i _ => 3 - (intOf i).toNat)
  case atStart => exact ⟨0, Nat.zero_le _, by omega, rfl, H0.out⟩
  case round =>
    clear H0
    obtain ⟨k, hk, hk3, rfl, A⟩ := hrel
    by_cases hlt : k < rs.length ∧ k < 3
    · obtain ⟨hl1, hl2⟩ := hlt
      have HS := hide (picks_snoc rs k hl1)
      have hpl : (picks (rs.take k)).length ≤ 3 := by rw [picks_len rs k hk]; omega
      rcases HR.out with ⟨_, h⟩ | ⟨rb, off, cap, h, hc⟩
      · exfalso; subst h; simp at hl1
      · simp only [Value.slice.injEq, true_and] at h
        obtain ⟨rfl, rfl⟩ := h
        have cr := A.kp.cell (hc k rs[k] (by simp [hl1])) (fun f => f)
        have HP := hide (pick_any rs[k] 101 (HI.out _ (List.getElem_mem hl1)) (by omega) (by omega))
        clear hc
        generalize rs[k] = x at *
        generalize picks (rs.take k) = xs at *
        have HA := hide A
        obtain ⟨sa, sc, hv, hown⟩ := A.v
        obtain ⟨c3, f3⟩ := hv
        have cr' : wr.drew.cell? ⟨rb, off + k, none⟩ = some (.int .i64 x) := cr
        have c3' : wr.drew.cell? ⟨w.heap.size, 3, none⟩ = some (.slice sa xs.length sc) := c3
        have f3' : wr.drew.frozen? ⟨w.heap.size, 3, none⟩ = false := f3
        have HO : ∀ o, (wr.drew.alloc o).ownsRow (w.heap.size + 1) 3 1 (.slice sa xs.length sc) xs.length (xs.map (.int .i64)) := fun o => ownsRow_kep hown (((Kep.refl non wr).drew).alloc o) (fun _ _ f => f)
        have lz : w.heap.size < wr.heap.size := World.block_lt_of_cell? wr _ c3
        have lr : rb < wr.heap.size := World.block_lt_of_cell? wr _ cr
        have nb : (Value.slice sa xs.length sc).ownBlock ≠ some w.heap.size := fun hb => by have := (hown.lt _ hb).1; omega
        have hl1' : (k : Int) < (rs.length : Int) := by omega
        clear A HK
        go_wp2
        go_region_law (first | (go_simp; go_at_call 10; refine (HP.out _).mono ?_; rintro e w' ⟨rfl, rfl⟩) | (refine step_append_lies _ rfl _ _ _ rfl (w.heap.size + 1) 3 i0 _ 1 8 Try.underlying24 hi0 hz0 hz1 hz2 rfl (by omega) (.slice sa xs.length sc) xs.length (xs.map (.int .i64)) rfl (by exact HO _) ⟨wr.heap.size, 0, none⟩ 1 1 [.int .i64 (pk x 101)] rfl rfl (by exact news_of_last' #[_] 3 rfl) (by simp [Value.oneCell']) (by omega) (by simp only [maxLen]; omega) (by omega) (by simp; omega) (wr.heap.size + 1) (by simp) ?_; intro gg cp w1 hown1 hgrow hat hlt1; have z6 : w1.cell? ⟨w.heap.size, 3, none⟩ = some (.slice sa xs.length sc) := (hgrow.cell_far ⟨w.heap.size, 3, none⟩ (by simp; omega) (Ne.symm nb)).trans (((Kep.refl non wr).drew.alloc _).cell c3 (fun f => f)); have z7 : w1.frozen? ⟨w.heap.size, 3, none⟩ = false := (hgrow.frozen_far ⟨w.heap.size, 3, none⟩ (by simp; omega) (Ne.symm nb)).trans ((((Own.mk c3 f3).kep ((Kep.refl non wr).drew.alloc _) (fun f => f))).free)))
        all_goals go_wp2
        all_goals refine ⟨⟨k + 1, by omega, by omega, by go_num, ?_⟩, by simp [intOf]; omega⟩
        all_goals rw [HS.out]
        all_goals exact HA.out.more (((Kep.refl non wr).drew).alloc _) ⟨c3, f3⟩ hown hgrow _ hown1
    · have HA := hide A
      have HE : Hid (picks (rs.take k) = picks (rs.take 3)) := hide (by
        by_cases e : k = 3
        · rw [e]
        · rw [List.take_of_length_le (by omega), List.take_of_length_le (by omega)])
      rw [HE.out] at HA
      clear A HE
      by_cases e : k < rs.length
      · have e1 : (k : Int) < (rs.length : Int) := by omega
        have e2 : ¬ (k : Int) < 3 := by omega
        clear hlt e
        go_wp2
        exact HK.out _ _ ⟨_, _, _, _, _, _, _, _, _, _, _, _, _, _, _, _, _, _, _, _, _, _, _, _, _, _, _, _, _, _, _, _, _, _, _, _, _, _, _, _, _, _, _, _, _, _, _, _, _, _, _, _, _, _, _, _, _, _, _, _, _, _, _, _, _, _, _, _, _, _, _, _, _, _, _, _, _, _, _, _, _, _, _, _, _, _, _, _, _, _, _, _, _, _, _, _, _, _, _, _, _, _, _, _, _, _, _, _, _, _, _, _, _, _, _, _, _, _, _, _, _, _, _, _, _, _, _, _, _, _, _, _, _, _, _, _, _, _, _, _, _, _, _, _, _, _, _, _, _, _, _, _, _, _, _, _, _, _, _, _, _, _, _, _, _, _, _, _, _, _, _, _, _, _, _, _, _, _, rfl⟩ HA.out
      · have e1 : ¬ (k : Int) < (rs.length : Int) := by omega
        clear hlt e
        go_wp2
        exact HK.out _ _ ⟨_, _, _, _, _, _, _, _, _, _, _, _, _, _, _, _, _, _, _, _, _, _, _, _, _, _, _, _, _, _, _, _, _, _, _, _, _, _, _, _, _, _, _, _, _, _, _, _, _, _, _, _, _, _, _, _, _, _, _, _, _, _, _, _, _, _, _, _, _, _, _, _, _, _, _, _, _, _, _, _, _, _, _, _, _, _, _, _, _, _, _, _, _, _, _, _, _, _, _, _, _, _, _, _, _, _, _, _, _, _, _, _, _, _, _, _, _, _, _, _, _, _, _, _, _, _, _, _, _, _, _, _, _, _, _, _, _, _, _, _, _, _, _, _, _, _, _, _, _, _, _, _, _, _, _, _, _, _, _, _, _, _, _, _, _, _, _, _, _, _, _, _, _, _, _, _, _, _, rfl⟩ HA.out
end

/- The statements' desk: a market that is opened: one trade is done. -/
section
open Go.RowKit Go.Sort

set_option maxRecDepth 1000000 in
def PFr (w : World) (x : Nat) (a : Act) : Prop := ∃ u0 u1 u2 u4 u6 u7 u8 u9 u10 u11 u12 u13 u14 u15 u16 u17 u18 u19 u20 u21 u22 u23 u24 u25 u26 u27 u28 u29 u30 u31 u32 u33 u34 u35 u36 u37 u38 u39 u40 u41 u42 u43 u44 u45 u46 u47 u48 u49 u50 u51 u52 u53 u54 u55 u56 u57 u58 u59 u60 u61 u62 u63 u64 u65 u66 u67 u68 u69 u70 u71 u72 u73 u74 u75 u76 u77 u78 u79 u80 u81 u82 u83 u84 u85 u86 u87 u88 u89 u90 u91 u92 u93 u94 u95 u96 u97 u98 u99 u100 u101 u102 u103 u104 u105 u106 u107 u108 u109 u110 u111 u112 u113 u114 u115 u116 u117 u118 u119 u120 u121 u122 u123 u124 u125 u126 u127 u128 u129 u130 u131 u132 u133 u134 u135 u136 u137 u138 u139 u140 u141 u142 u143 u144 u145 u146 u147 u148 u149 u150 u151 u152 u153 u154 u155 u156 u157 u158 u159 u160 u161 u162 u163 u164 u165 u166 u167 u168 u169 u170 u171 u172 u173 u174 u175 u176 u177 u178 u179 : Value, a = ⟨#[u0, u1, u2, .pointer (some ⟨w.heap.size, 0, none⟩), u4, .pointer (some ⟨x, 0, none⟩), u6, u7, u8, u9, u10, u11, u12, u13, u14, u15, u16, u17, u18, u19, u20, u21, u22, u23, u24, u25, u26, u27, u28, u29, u30, u31, u32, u33, u34, u35, u36, u37, u38, u39, u40, u41, u42, u43, u44, u45, u46, u47, u48, u49, u50, u51, u52, u53, u54, u55, u56, u57, u58, u59, u60, u61, u62, u63, u64, u65, u66, u67, u68, u69, u70, u71, u72, u73, u74, u75, u76, u77, u78, u79, u80, u81, u82, u83, u84, u85, u86, u87, u88, u89, u90, u91, u92, u93, u94, u95, u96, u97, u98, u99, u100, u101, u102, u103, u104, u105, u106, u107, u108, u109, u110, u111, u112, u113, u114, u115, u116, u117, u118, u119, u120, u121, u122, u123, u124, u125, u126, u127, u128, u129, u130, u131, u132, u133, u134, u135, u136, u137, u138, u139, u140, u141, u142, u143, u144, u145, u146, u147, u148, u149, u150, u151, u152, u153, u154, u155, u156, u157, u158, u159, u160, u161, u162, u163, u164, u165, u166, u167, u168, u169, u170, u171, u172, u173, u174, u175, u176, u177, u178, u179], []⟩

/-- a desk, its market somewhere in memory at x -/
def Desk (w : World) (rs : List Int) (x : Nat) (mon p0 p1 : Int) (m : Mt) (W : World) : Prop := ∃ L rv pb, L.x = x ∧ DRep w w.heap.size rs mon p0 p1 L rv pb m W

theorem row_len {w : World} {B : Nat} {e : TypeId} {z : Nat} {v : Value} {n : Nat} {xs : List Value} (h : w.ownsRow B e z v n xs) : ∃ a c, v = .slice a n c := by
  rcases h.2 with ⟨e1, e2⟩ | ⟨b, cap, cur, e1, _⟩
  · exact ⟨none, 0, by rw [e1, e2]⟩
  · exact ⟨_, _, e1⟩

theorem row_form1 {w : World} {B : Nat} {e : TypeId} {z : Nat} {v : Value} {n : Nat} {xs : List Value} (h : w.ownsRow B e z v n xs) (hn : 0 < n) : ∃ b c, v = .slice (some ⟨b, 0, none⟩) n c := by
  rcases h.2 with ⟨e1, e2⟩ | ⟨b, cap, cur, e1, _⟩
  · omega
  · exact ⟨b, cap, e1⟩

/-- what Place leaves of a desk -/
theorem Desk.td {w : World} {d : Nat} {rs : List Int} {mon p0 p1 : Int} {L : PL} {rv : Value} {pb : Nat} {m m' : Mt} {W W' : World} {v : Value} {ts : List Td} (D : DRep w d rs mon p0 p1 L rv pb m W) (P : TdPost W L m m' v ts W') : ∃ L', L'.x = L.x ∧ DRep w d rs mon p0 p1 L' rv pb m' W' := by
  obtain ⟨L', ex, sub, R', _⟩ := P.rep
  exact ⟨L', ex.1, D.turn P.kp ex sub R'⟩
theorem Desk.pp {w : World} {d : Nat} {rs : List Int} {mon p0 p1 : Int} {L : PL} {rv : Value} {pb : Nat} {m m' : Mt} {W W' : World} (D : DRep w d rs mon p0 p1 L rv pb m W) (P : PPost W L m m' W') : ∃ L', L'.x = L.x ∧ DRep w d rs mon p0 p1 L' rv pb m' W' := by
  obtain ⟨L', ex, sub, R'⟩ := P.rep
  exact ⟨L', ex.1, D.turn P.kp ex sub R'⟩

set_option maxHeartbeats 4000000 in
set_option maxRecDepth 1000000 in
theorem opened_end {w W : World} {rs : List Int} {x : Nat} {mon p0 p1 : Int} {N : Int} (h1 : 1 ≤ rs.length) (hr : ∀ x ∈ rs, 0 ≤ x ∧ x ≤ 100) (I : (fulM rs).Inv N) (D : Desk w rs x mon p0 p1 (fulM rs) W) {a : Act} (hf : PFr w x a) (Post : Ending → World → Prop) (hP : ∀ W', Desk w rs x mon p0 p1 (openM rs) W' → Post (.returned (.pointer (some ⟨w.heap.size, 0, none⟩))) W') :
    Code.wp Try.prog (((Try.f9.body.bind afterLoop).bind afterLoop).getD .skip) (bodyPost Try.prog Try.f9 Post) a W := by
  have bN := I.bN
  obtain ⟨s1, s2, s3, s4⟩ := sold h1
  obtain ⟨t1, t2, ⟨fe, t3⟩, _⟩ := bought h1 hr
  have I1 : (soldM rs).Inv N := by rw [← s4]; exact I.place (by show (0 : Int) + 1 ≤ N; omega) sellO
  obtain ⟨L, rv, pb, ex, D⟩ := D
  have HP1 := hide (place_any W L _ N D.R I (by show (0 : Int) + 1 ≤ N; omega) sellO)
  rw [s1, s2, s3, s4, ex] at HP1
  have HP2 := hide (fun W' L' (R : PRep W' L' (soldM rs)) => place_any W' L' _ N R I1 (by show (1 : Int) + 1 ≤ N; omega) buyO)
  rw [t1, t2, t3] at HP2
  have HD := hide D
  have HX := hide ex
  have HPo := hide hP
  clear s1 s2 s3 s4 t1 t2 t3 D I I1 ex hP
  unfold Od.agg sellO at HP1
  obtain ⟨u0, hf⟩ := hf
  obtain ⟨u1, hf⟩ := hf
  obtain ⟨u2, hf⟩ := hf
  obtain ⟨u4, hf⟩ := hf
  obtain ⟨u6, hf⟩ := hf
  obtain ⟨u7, hf⟩ := hf
  obtain ⟨u8, hf⟩ := hf
  obtain ⟨u9, hf⟩ := hf
  obtain ⟨u10, hf⟩ := hf
  obtain ⟨u11, hf⟩ := hf
  obtain ⟨u12, hf⟩ := hf
  obtain ⟨u13, hf⟩ := hf
  obtain ⟨u14, hf⟩ := hf
  obtain ⟨u15, hf⟩ := hf
  obtain ⟨u16, hf⟩ := hf
  obtain ⟨u17, hf⟩ := hf
  obtain ⟨u18, hf⟩ := hf
  obtain ⟨u19, hf⟩ := hf
  obtain ⟨u20, hf⟩ := hf
  obtain ⟨u21, hf⟩ := hf
  obtain ⟨u22, hf⟩ := hf
  obtain ⟨u23, hf⟩ := hf
  obtain ⟨u24, hf⟩ := hf
  obtain ⟨u25, hf⟩ := hf
  obtain ⟨u26, hf⟩ := hf
  obtain ⟨u27, hf⟩ := hf
  obtain ⟨u28, hf⟩ := hf
  obtain ⟨u29, hf⟩ := hf
  obtain ⟨u30, hf⟩ := hf
  obtain ⟨u31, hf⟩ := hf
  obtain ⟨u32, hf⟩ := hf
  obtain ⟨u33, hf⟩ := hf
  obtain ⟨u34, hf⟩ := hf
  obtain ⟨u35, hf⟩ := hf
  obtain ⟨u36, hf⟩ := hf
  obtain ⟨u37, hf⟩ := hf
  obtain ⟨u38, hf⟩ := hf
  obtain ⟨u39, hf⟩ := hf
  obtain ⟨u40, hf⟩ := hf
  obtain ⟨u41, hf⟩ := hf
  obtain ⟨u42, hf⟩ := hf
  obtain ⟨u43, hf⟩ := hf
  obtain ⟨u44, hf⟩ := hf
  obtain ⟨u45, hf⟩ := hf
  obtain ⟨u46, hf⟩ := hf
  obtain ⟨u47, hf⟩ := hf
  obtain ⟨u48, hf⟩ := hf
  obtain ⟨u49, hf⟩ := hf
  obtain ⟨u50, hf⟩ := hf
  obtain ⟨u51, hf⟩ := hf
  obtain ⟨u52, hf⟩ := hf
  obtain ⟨u53, hf⟩ := hf
  obtain ⟨u54, hf⟩ := hf
  obtain ⟨u55, hf⟩ := hf
  obtain ⟨u56, hf⟩ := hf
  obtain ⟨u57, hf⟩ := hf
  obtain ⟨u58, hf⟩ := hf
  obtain ⟨u59, hf⟩ := hf
  obtain ⟨u60, hf⟩ := hf
  obtain ⟨u61, hf⟩ := hf
  obtain ⟨u62, hf⟩ := hf
  obtain ⟨u63, hf⟩ := hf
  obtain ⟨u64, hf⟩ := hf
  obtain ⟨u65, hf⟩ := hf
  obtain ⟨u66, hf⟩ := hf
  obtain ⟨u67, hf⟩ := hf
  obtain ⟨u68, hf⟩ := hf
  obtain ⟨u69, hf⟩ := hf
  obtain ⟨u70, hf⟩ := hf
  obtain ⟨u71, hf⟩ := hf
  obtain ⟨u72, hf⟩ := hf
  obtain ⟨u73, hf⟩ := hf
  obtain ⟨u74, hf⟩ := hf
  obtain ⟨u75, hf⟩ := hf
  obtain ⟨u76, hf⟩ := hf
  obtain ⟨u77, hf⟩ := hf
  obtain ⟨u78, hf⟩ := hf
  obtain ⟨u79, hf⟩ := hf
  obtain ⟨u80, hf⟩ := hf
  obtain ⟨u81, hf⟩ := hf
  obtain ⟨u82, hf⟩ := hf
  obtain ⟨u83, hf⟩ := hf
  obtain ⟨u84, hf⟩ := hf
  obtain ⟨u85, hf⟩ := hf
  obtain ⟨u86, hf⟩ := hf
  obtain ⟨u87, hf⟩ := hf
  obtain ⟨u88, hf⟩ := hf
  obtain ⟨u89, hf⟩ := hf
  obtain ⟨u90, hf⟩ := hf
  obtain ⟨u91, hf⟩ := hf
  obtain ⟨u92, hf⟩ := hf
  obtain ⟨u93, hf⟩ := hf
  obtain ⟨u94, hf⟩ := hf
  obtain ⟨u95, hf⟩ := hf
  obtain ⟨u96, hf⟩ := hf
  obtain ⟨u97, hf⟩ := hf
  obtain ⟨u98, hf⟩ := hf
  obtain ⟨u99, hf⟩ := hf
  obtain ⟨u100, hf⟩ := hf
  obtain ⟨u101, hf⟩ := hf
  obtain ⟨u102, hf⟩ := hf
  obtain ⟨u103, hf⟩ := hf
  obtain ⟨u104, hf⟩ := hf
  obtain ⟨u105, hf⟩ := hf
  obtain ⟨u106, hf⟩ := hf
  obtain ⟨u107, hf⟩ := hf
  obtain ⟨u108, hf⟩ := hf
  obtain ⟨u109, hf⟩ := hf
  obtain ⟨u110, hf⟩ := hf
  obtain ⟨u111, hf⟩ := hf
  obtain ⟨u112, hf⟩ := hf
  obtain ⟨u113, hf⟩ := hf
  obtain ⟨u114, hf⟩ := hf
  obtain ⟨u115, hf⟩ := hf
  obtain ⟨u116, hf⟩ := hf
  obtain ⟨u117, hf⟩ := hf
  obtain ⟨u118, hf⟩ := hf
  obtain ⟨u119, hf⟩ := hf
  obtain ⟨u120, hf⟩ := hf
  obtain ⟨u121, hf⟩ := hf
  obtain ⟨u122, hf⟩ := hf
  obtain ⟨u123, hf⟩ := hf
  obtain ⟨u124, hf⟩ := hf
  obtain ⟨u125, hf⟩ := hf
  obtain ⟨u126, hf⟩ := hf
  obtain ⟨u127, hf⟩ := hf
  obtain ⟨u128, hf⟩ := hf
  obtain ⟨u129, hf⟩ := hf
  obtain ⟨u130, hf⟩ := hf
  obtain ⟨u131, hf⟩ := hf
  obtain ⟨u132, hf⟩ := hf
  obtain ⟨u133, hf⟩ := hf
  obtain ⟨u134, hf⟩ := hf
  obtain ⟨u135, hf⟩ := hf
  obtain ⟨u136, hf⟩ := hf
  obtain ⟨u137, hf⟩ := hf
  obtain ⟨u138, hf⟩ := hf
  obtain ⟨u139, hf⟩ := hf
  obtain ⟨u140, hf⟩ := hf
  obtain ⟨u141, hf⟩ := hf
  obtain ⟨u142, hf⟩ := hf
  obtain ⟨u143, hf⟩ := hf
  obtain ⟨u144, hf⟩ := hf
  obtain ⟨u145, hf⟩ := hf
  obtain ⟨u146, hf⟩ := hf
  obtain ⟨u147, hf⟩ := hf
  obtain ⟨u148, hf⟩ := hf
  obtain ⟨u149, hf⟩ := hf
  obtain ⟨u150, hf⟩ := hf
  obtain ⟨u151, hf⟩ := hf
  obtain ⟨u152, hf⟩ := hf
  obtain ⟨u153, hf⟩ := hf
  obtain ⟨u154, hf⟩ := hf
  obtain ⟨u155, hf⟩ := hf
  obtain ⟨u156, hf⟩ := hf
  obtain ⟨u157, hf⟩ := hf
  obtain ⟨u158, hf⟩ := hf
  obtain ⟨u159, hf⟩ := hf
  obtain ⟨u160, hf⟩ := hf
  obtain ⟨u161, hf⟩ := hf
  obtain ⟨u162, hf⟩ := hf
  obtain ⟨u163, hf⟩ := hf
  obtain ⟨u164, hf⟩ := hf
  obtain ⟨u165, hf⟩ := hf
  obtain ⟨u166, hf⟩ := hf
  obtain ⟨u167, hf⟩ := hf
  obtain ⟨u168, hf⟩ := hf
  obtain ⟨u169, hf⟩ := hf
  obtain ⟨u170, hf⟩ := hf
  obtain ⟨u171, hf⟩ := hf
  obtain ⟨u172, hf⟩ := hf
  obtain ⟨u173, hf⟩ := hf
  obtain ⟨u174, hf⟩ := hf
  obtain ⟨u175, hf⟩ := hf
  obtain ⟨u176, hf⟩ := hf
  obtain ⟨u177, hf⟩ := hf
  obtain ⟨u178, hf⟩ := hf
  obtain ⟨u179, hf⟩ := hf
  subst hf
  conv => arg 2; whnf
  go_wp2_with fail
  refine HP1.out.mono ?_
  rintro e w1 ⟨v, rfl, T1⟩
  obtain ⟨L1, e1, D1⟩ := Desk.td HD.out T1
  obtain ⟨va, vc, hv⟩ := row_len T1.tr
  simp only [List.length_nil] at hv
  subst hv
  have HP3 := hide (HP2.out w1 L1 D1.R)
  rw [e1, HX.out] at HP3
  unfold Od.agg buyO at HP3
  have HD1 := hide D1
  have HE1 := hide (e1.trans HX.out)
  clear T1 D1 e1
  go_wp2_with fail
  refine HP3.out.mono ?_
  rintro e w2 ⟨v, rfl, T2⟩
  obtain ⟨L2, e2, D2⟩ := Desk.td HD1.out T2
  obtain ⟨vb, vd, hv⟩ := row_form1 T2.tr (by simp)
  subst hv
  have tr := T2.tr
  simp only [List.length_singleton] at tr
  have r3 := tr.cellAt 3 (by decide)
  have r4 := tr.cellAt 4 (by decide)
  simp only [tdCells, Td.cells, List.flatMap_cons, List.flatMap_nil, List.append_nil] at r3 r4
  have r3' : w2.cell? ⟨vb, 3, none⟩ = some (.int .i64 50) := r3
  have r4' : w2.cell? ⟨vb, 4, none⟩ = some (.int .i64 3) := r4
  have HD2 := hide D2
  have HE2 := hide (e2.trans HE1.out)
  clear T2 D2 e2 tr r3 r4
  go_wp2
  exact HPo.out _ ⟨L2, rv, pb, HE2.out, HD2.out⟩
end

end Go.Proofs.Ytcfoobhihhndjaa
