/- The law: a step on a market (5, 7, 8). -/
import Derived.Test.YtcbfmolebomkdaaLs
namespace Go.Proofs.Ytcbfmolebomkdaa
open Go.RowKit

set_option maxRecDepth 100000 in
set_option maxHeartbeats 2000000 in
theorem step_on5 (w : World) (B0 p : Nat) (N : Int) (s : St) (o : OpV) (ra : Option Addr) (rn rc : Nat) (hrv : o.rv = .slice ra rn rc) (h : Inv B0 p N s w) (bN : N ≤ 900000000000) (hn : 1 ≤ s.n) (hn2 : s.n ≤ 4000000) (hM : -9223372036854775808 ≤ o.M ∧ o.M ≤ 9223372036854775807)
    (hk : o.kd = 5) :
    Calls Try.prog 6 #[.pointer (some ⟨p, 0, none⟩), .agg o.cells] w fun e w' => e = .returned (.bool true) ∧ StepPost 0 0 w B0 p N s w' := by
  obtain ⟨k, hpk, hkn⟩ := pick_fn o.M s.n hM.1 hM.2 hn (by omega)
  have HPK := hide hpk
  clear hpk
  obtain ⟨pb, pc, hpv, _, _⟩ := h.rps.form hn
  have x0 : w.cell? ⟨pb, k * 2, none⟩ = some (.pointer (some ⟨(s.L k).x, 0, none⟩)) := by
    have r := h.rps; rw [hpv] at r
    rw [r.cellAt (k * 2) (by omega)]; exact (pairCells_at s.L s.R s.n k hkn).1
  have x1 : w.cell? ⟨pb, k * 2 + 1, none⟩ = some (.pointer (some ⟨(s.R k).c, 0, none⟩)) := by
    have r := h.rps; rw [hpv] at r
    rw [r.cellAt (k * 2 + 1) (by omega)]; exact (pairCells_at s.L s.R s.n k hkn).2
  have c0 := h.c0.cell
  rw [hpv] at c0
  have HB : Hid (∀ W, Keeps [] w W → Calls Try.prog 11 #[.agg #[.pointer (some ⟨(s.L k).x, 0, none⟩), .pointer (some ⟨(s.R k).c, 0, none⟩)], .agg o.cells] W fun e w' => e = .returned (.bool true) ∧ StepPost 0 0 w B0 p N s w') := hide fun W kW => by
    have hW := h.later kW
    refine (brought_any W (s.L k) (s.R k) (s.m k) N o ra rn rc hrv (hW.rx k hkn) (hW.rc k hkn) (hW.ok k hkn) bN (fun b hb hb' => hW.sep (.x k) (.c k) b (by simp) (by simp only [St.F, if_pos hkn]; exact hb) (by simp only [St.F, if_pos hkn]; exact hb')) (by omega)).mono ?_
    rintro e w' ⟨rfl, P⟩
    refine ⟨rfl, ?_⟩
    obtain ⟨s', i1, i2, i3, i4, i5⟩ := hW.pair k hkn _ P (broughtM_ok (hW.ok k hkn) (by omega) o) (by omega)
    refine StepPost.intro h kW P.kp (fun b hb => ?_) i1 (by omega) bN (by omega) (by omega) (by rw [i3]; omega) (by rw [i4]; omega) i5
    rcases List.mem_append.1 hb with q | q
    · exact ⟨.x k, by simp only [St.F, if_pos hkn]; exact q⟩
    · exact ⟨.c k, by simp only [St.F, if_pos hkn]; exact q⟩
  obtain ⟨kd, M, A, B, C, D, E, rv, o0, o1, o2, o3, o4, o5, o6, o7⟩ := o
  simp only [] at hk hrv HPK HB
  subst hrv
  simp only [OpV.cells] at HB ⊢
  have hx0 : ∀ o, (w.alloc o).cell? ⟨pb, k * 2, none⟩ = some (.pointer (some ⟨(s.L k).x, 0, none⟩)) := fun o => cell_al x0
  have hx1 : ∀ o, (w.alloc o).cell? ⟨pb, k * 2 + 1, none⟩ = some (.pointer (some ⟨(s.R k).c, 0, none⟩)) := fun o => cell_al x1
  have hc0 : ∀ o, (w.alloc o).cell? ⟨p, 0, none⟩ = some (.slice (some ⟨pb, 0, none⟩) s.n pc) := fun o => cell_al c0
  have lp : p < w.heap.size := h.c0.lt
  have lpb : pb < w.heap.size := World.block_lt_of_cell? w _ x0
  have hkn' : (k : Int) < (s.n : Int) := by omega
  have hkn0 : (0 : Int) ≤ (k : Int) := Int.natCast_nonneg _
  have hs0 : ((s.n : Int) == 0) = false := beq_eq_false_iff_ne.2 (by omega)
  clear h hpv x0 x1 c0 hM
  generalize s.n = n at *
  generalize (s.L k).x = lx at *
  generalize (s.R k).c = rx at *
  have hk1 : (kd == 1) = false := beq_eq_false_iff_ne.2 (by omega)
  have HK := hide hk
  clear hk
  go_enter Try.func6, Try.ntmps6
  go_upto_region 5 with fail
  have z1 := cell_of_row _ _ 1 _ _ _ (heap_alloc_new w (.cells #[.int .i64 kd, .int .i64 M, .int .i64 A, .int .i64 B, .int .i64 C, .int .i64 D, .int .i64 E, .slice ra rn rc, .int .i64 o0, .int .i64 o1, .int .i64 o2, .int .i64 o3, .int .i64 o4, .int .i64 o5, .int .i64 o6, .int .i64 o7] 42))
  simp only [List.getElem?_toArray, List.getElem?_cons_zero, List.getElem?_cons_succ] at z1
  have y0 := hc0 (.cells #[.int .i64 kd, .int .i64 M, .int .i64 A, .int .i64 B, .int .i64 C, .int .i64 D, .int .i64 E, .slice ra rn rc, .int .i64 o0, .int .i64 o1, .int .i64 o2, .int .i64 o3, .int .i64 o4, .int .i64 o5, .int .i64 o6, .int .i64 o7] 42)
  have y1 := hx0 (.cells #[.int .i64 kd, .int .i64 M, .int .i64 A, .int .i64 B, .int .i64 C, .int .i64 D, .int .i64 E, .slice ra rn rc, .int .i64 o0, .int .i64 o1, .int .i64 o2, .int .i64 o3, .int .i64 o4, .int .i64 o5, .int .i64 o6, .int .i64 o7] 42)
  have y2 := hx1 (.cells #[.int .i64 kd, .int .i64 M, .int .i64 A, .int .i64 B, .int .i64 C, .int .i64 D, .int .i64 E, .slice ra rn rc, .int .i64 o0, .int .i64 o1, .int .i64 o2, .int .i64 o3, .int .i64 o4, .int .i64 o5, .int .i64 o6, .int .i64 o7] 42)
  have zh := heap_alloc_new w (.cells #[.int .i64 kd, .int .i64 M, .int .i64 A, .int .i64 B, .int .i64 C, .int .i64 D, .int .i64 E, .slice ra rn rc, .int .i64 o0, .int .i64 o1, .int .i64 o2, .int .i64 o3, .int .i64 o4, .int .i64 o5, .int .i64 o6, .int .i64 o7] 42)
  have KW : Hid (Keeps [] w (w.alloc (.cells #[.int .i64 kd, .int .i64 M, .int .i64 A, .int .i64 B, .int .i64 C, .int .i64 D, .int .i64 E, .slice ra rn rc, .int .i64 o0, .int .i64 o1, .int .i64 o2, .int .i64 o3, .int .i64 o4, .int .i64 o5, .int .i64 o6, .int .i64 o7] 42))) := hide ((Keeps.refl _ _).alloc _)
  generalize w.alloc (.cells #[.int .i64 kd, .int .i64 M, .int .i64 A, .int .i64 B, .int .i64 C, .int .i64 D, .int .i64 E, .slice ra rn rc, .int .i64 o0, .int .i64 o1, .int .i64 o2, .int .i64 o3, .int .i64 o4, .int .i64 o5, .int .i64 o6, .int .i64 o7] 42) = W0 at *
  clear hc0 hx0 hx1
  have ZH := hide zh
  clear zh
  generalize hzbe : w.heap.size = zb at *
  have HZB := hide hzbe
  clear hzbe
  have HS : Hid (∀ w', Keeps [] W0 w' → (w'.cell? ⟨p, 0, none⟩ = some (.slice (some ⟨pb, 0, none⟩) n pc) ∧ w'.cell? ⟨zb, 1, none⟩ = some (.int .i64 M) ∧ w'.cell? ⟨pb, k * 2, none⟩ = some (.pointer (some ⟨lx, 0, none⟩)) ∧ w'.cell? ⟨pb, k * 2 + 1, none⟩ = some (.pointer (some ⟨rx, 0, none⟩)))) :=
    hide fun w' h => ⟨h.cell y0 (by simp), h.cell z1 (by simp), h.cell y1 (by simp), h.cell y2 (by simp)⟩
  go_cut [5] (fun s5 wx => ∃ nb, s5 = .pointer (some ⟨nb, 0, none⟩) ∧ Keeps [] W0 wx ∧ wx.cell? ⟨nb, 0, none⟩ = some (.pointer (some ⟨lx, 0, none⟩)) ∧ wx.cell? ⟨nb, 1, none⟩ = some (.pointer (some ⟨rx, 0, none⟩)))
  case first =>
    go_region_held3 (fun w' => w'.cell? ⟨p, 0, none⟩ = some (.slice (some ⟨pb, 0, none⟩) n pc) ∧ w'.cell? ⟨zb, 1, none⟩ = some (.int .i64 M) ∧ w'.cell? ⟨pb, k * 2, none⟩ = some (.pointer (some ⟨lx, 0, none⟩)) ∧ w'.cell? ⟨pb, k * 2 + 1, none⟩ = some (.pointer (some ⟨rx, 0, none⟩)))
      ((refine HS.out _ ?_; (repeat (first | apply Keeps.drew | apply Keeps.alloc)); exact Keeps.refl _ _))
      ((go_at_call 10; refine (HPK.out _).mono ?_; rintro e W ⟨rfl, rfl⟩))
    all_goals go_step
    all_goals go_step
    all_goals go_meet
    all_goals exact pair_leaf W0 lx rx
  case rest =>
    obtain ⟨nb, rfl, KX, b0, b1⟩ := hcut
    have Z := fun j => cell_of_row _ _ j _ _ _ ZH.out
    have q0 := Z 0
    have q1 := Z 1
    have q2 := Z 2
    have q3 := Z 3
    have q4 := Z 4
    have q5 := Z 5
    have q6 := Z 6
    have q7 := Z 7
    have q8 := Z 8
    have q9 := Z 9
    have q10 := Z 10
    have q11 := Z 11
    have q12 := Z 12
    have q13 := Z 13
    have q14 := Z 14
    have q15 := Z 15
    clear Z
    simp only [List.getElem?_toArray, List.getElem?_cons_zero, List.getElem?_cons_succ] at q0 q1 q2 q3 q4 q5 q6 q7 q8 q9 q10 q11 q12 q13 q14 q15
    replace q0 := KX.cell q0 (by simp)
    replace q1 := KX.cell q1 (by simp)
    replace q2 := KX.cell q2 (by simp)
    replace q3 := KX.cell q3 (by simp)
    replace q4 := KX.cell q4 (by simp)
    replace q5 := KX.cell q5 (by simp)
    replace q6 := KX.cell q6 (by simp)
    replace q7 := KX.cell q7 (by simp)
    replace q8 := KX.cell q8 (by simp)
    replace q9 := KX.cell q9 (by simp)
    replace q10 := KX.cell q10 (by simp)
    replace q11 := KX.cell q11 (by simp)
    replace q12 := KX.cell q12 (by simp)
    replace q13 := KX.cell q13 (by simp)
    replace q14 := KX.cell q14 (by simp)
    replace q15 := KX.cell q15 (by simp)
    have HKX := hide (KW.out.trans KX)
    clear KX y0 y1 y2 z1 HS HPK
    have hk := HK.out
    clear HK
    subst hk
    go_wp2_with ((go_at_call 11; refine (HB.out _ HKX.out).mono ?_; rintro e W ⟨rfl, hP⟩))
    go_ret
    exact ⟨rfl, hP⟩

set_option maxRecDepth 100000 in
set_option maxHeartbeats 2000000 in
theorem step_on7 (w : World) (B0 p : Nat) (N : Int) (s : St) (o : OpV) (ra : Option Addr) (rn rc : Nat) (hrv : o.rv = .slice ra rn rc) (h : Inv B0 p N s w) (bN : N ≤ 900000000000) (hn : 1 ≤ s.n) (hn2 : s.n ≤ 4000000) (hM : -9223372036854775808 ≤ o.M ∧ o.M ≤ 9223372036854775807)
    (hk : o.kd = 7) :
    Calls Try.prog 6 #[.pointer (some ⟨p, 0, none⟩), .agg o.cells] w fun e w' => e = .returned (.bool true) ∧ StepPost 0 0 w B0 p N s w' := by
  obtain ⟨k, hpk, hkn⟩ := pick_fn o.M s.n hM.1 hM.2 hn (by omega)
  have HPK := hide hpk
  clear hpk
  obtain ⟨pb, pc, hpv, _, _⟩ := h.rps.form hn
  have x0 : w.cell? ⟨pb, k * 2, none⟩ = some (.pointer (some ⟨(s.L k).x, 0, none⟩)) := by
    have r := h.rps; rw [hpv] at r
    rw [r.cellAt (k * 2) (by omega)]; exact (pairCells_at s.L s.R s.n k hkn).1
  have x1 : w.cell? ⟨pb, k * 2 + 1, none⟩ = some (.pointer (some ⟨(s.R k).c, 0, none⟩)) := by
    have r := h.rps; rw [hpv] at r
    rw [r.cellAt (k * 2 + 1) (by omega)]; exact (pairCells_at s.L s.R s.n k hkn).2
  have c0 := h.c0.cell
  rw [hpv] at c0
  have HB : Hid (∀ W, Keeps [] w W → Calls Try.prog 11 #[.agg #[.pointer (some ⟨(s.L k).x, 0, none⟩), .pointer (some ⟨(s.R k).c, 0, none⟩)], .agg o.cells] W fun e w' => e = .returned (.bool true) ∧ StepPost 0 0 w B0 p N s w') := hide fun W kW => by
    have hW := h.later kW
    refine (brought_any W (s.L k) (s.R k) (s.m k) N o ra rn rc hrv (hW.rx k hkn) (hW.rc k hkn) (hW.ok k hkn) bN (fun b hb hb' => hW.sep (.x k) (.c k) b (by simp) (by simp only [St.F, if_pos hkn]; exact hb) (by simp only [St.F, if_pos hkn]; exact hb')) (by omega)).mono ?_
    rintro e w' ⟨rfl, P⟩
    refine ⟨rfl, ?_⟩
    obtain ⟨s', i1, i2, i3, i4, i5⟩ := hW.pair k hkn _ P (broughtM_ok (hW.ok k hkn) (by omega) o) (by omega)
    refine StepPost.intro h kW P.kp (fun b hb => ?_) i1 (by omega) bN (by omega) (by omega) (by rw [i3]; omega) (by rw [i4]; omega) i5
    rcases List.mem_append.1 hb with q | q
    · exact ⟨.x k, by simp only [St.F, if_pos hkn]; exact q⟩
    · exact ⟨.c k, by simp only [St.F, if_pos hkn]; exact q⟩
  obtain ⟨kd, M, A, B, C, D, E, rv, o0, o1, o2, o3, o4, o5, o6, o7⟩ := o
  simp only [] at hk hrv HPK HB
  subst hrv
  simp only [OpV.cells] at HB ⊢
  have hx0 : ∀ o, (w.alloc o).cell? ⟨pb, k * 2, none⟩ = some (.pointer (some ⟨(s.L k).x, 0, none⟩)) := fun o => cell_al x0
  have hx1 : ∀ o, (w.alloc o).cell? ⟨pb, k * 2 + 1, none⟩ = some (.pointer (some ⟨(s.R k).c, 0, none⟩)) := fun o => cell_al x1
  have hc0 : ∀ o, (w.alloc o).cell? ⟨p, 0, none⟩ = some (.slice (some ⟨pb, 0, none⟩) s.n pc) := fun o => cell_al c0
  have lp : p < w.heap.size := h.c0.lt
  have lpb : pb < w.heap.size := World.block_lt_of_cell? w _ x0
  have hkn' : (k : Int) < (s.n : Int) := by omega
  have hkn0 : (0 : Int) ≤ (k : Int) := Int.natCast_nonneg _
  have hs0 : ((s.n : Int) == 0) = false := beq_eq_false_iff_ne.2 (by omega)
  clear h hpv x0 x1 c0 hM
  generalize s.n = n at *
  generalize (s.L k).x = lx at *
  generalize (s.R k).c = rx at *
  have hk1 : (kd == 1) = false := beq_eq_false_iff_ne.2 (by omega)
  have HK := hide hk
  clear hk
  go_enter Try.func6, Try.ntmps6
  go_upto_region 5 with fail
  have z1 := cell_of_row _ _ 1 _ _ _ (heap_alloc_new w (.cells #[.int .i64 kd, .int .i64 M, .int .i64 A, .int .i64 B, .int .i64 C, .int .i64 D, .int .i64 E, .slice ra rn rc, .int .i64 o0, .int .i64 o1, .int .i64 o2, .int .i64 o3, .int .i64 o4, .int .i64 o5, .int .i64 o6, .int .i64 o7] 42))
  simp only [List.getElem?_toArray, List.getElem?_cons_zero, List.getElem?_cons_succ] at z1
  have y0 := hc0 (.cells #[.int .i64 kd, .int .i64 M, .int .i64 A, .int .i64 B, .int .i64 C, .int .i64 D, .int .i64 E, .slice ra rn rc, .int .i64 o0, .int .i64 o1, .int .i64 o2, .int .i64 o3, .int .i64 o4, .int .i64 o5, .int .i64 o6, .int .i64 o7] 42)
  have y1 := hx0 (.cells #[.int .i64 kd, .int .i64 M, .int .i64 A, .int .i64 B, .int .i64 C, .int .i64 D, .int .i64 E, .slice ra rn rc, .int .i64 o0, .int .i64 o1, .int .i64 o2, .int .i64 o3, .int .i64 o4, .int .i64 o5, .int .i64 o6, .int .i64 o7] 42)
  have y2 := hx1 (.cells #[.int .i64 kd, .int .i64 M, .int .i64 A, .int .i64 B, .int .i64 C, .int .i64 D, .int .i64 E, .slice ra rn rc, .int .i64 o0, .int .i64 o1, .int .i64 o2, .int .i64 o3, .int .i64 o4, .int .i64 o5, .int .i64 o6, .int .i64 o7] 42)
  have zh := heap_alloc_new w (.cells #[.int .i64 kd, .int .i64 M, .int .i64 A, .int .i64 B, .int .i64 C, .int .i64 D, .int .i64 E, .slice ra rn rc, .int .i64 o0, .int .i64 o1, .int .i64 o2, .int .i64 o3, .int .i64 o4, .int .i64 o5, .int .i64 o6, .int .i64 o7] 42)
  have KW : Hid (Keeps [] w (w.alloc (.cells #[.int .i64 kd, .int .i64 M, .int .i64 A, .int .i64 B, .int .i64 C, .int .i64 D, .int .i64 E, .slice ra rn rc, .int .i64 o0, .int .i64 o1, .int .i64 o2, .int .i64 o3, .int .i64 o4, .int .i64 o5, .int .i64 o6, .int .i64 o7] 42))) := hide ((Keeps.refl _ _).alloc _)
  generalize w.alloc (.cells #[.int .i64 kd, .int .i64 M, .int .i64 A, .int .i64 B, .int .i64 C, .int .i64 D, .int .i64 E, .slice ra rn rc, .int .i64 o0, .int .i64 o1, .int .i64 o2, .int .i64 o3, .int .i64 o4, .int .i64 o5, .int .i64 o6, .int .i64 o7] 42) = W0 at *
  clear hc0 hx0 hx1
  have ZH := hide zh
  clear zh
  generalize hzbe : w.heap.size = zb at *
  have HZB := hide hzbe
  clear hzbe
  have HS : Hid (∀ w', Keeps [] W0 w' → (w'.cell? ⟨p, 0, none⟩ = some (.slice (some ⟨pb, 0, none⟩) n pc) ∧ w'.cell? ⟨zb, 1, none⟩ = some (.int .i64 M) ∧ w'.cell? ⟨pb, k * 2, none⟩ = some (.pointer (some ⟨lx, 0, none⟩)) ∧ w'.cell? ⟨pb, k * 2 + 1, none⟩ = some (.pointer (some ⟨rx, 0, none⟩)))) :=
    hide fun w' h => ⟨h.cell y0 (by simp), h.cell z1 (by simp), h.cell y1 (by simp), h.cell y2 (by simp)⟩
  go_cut [5] (fun s5 wx => ∃ nb, s5 = .pointer (some ⟨nb, 0, none⟩) ∧ Keeps [] W0 wx ∧ wx.cell? ⟨nb, 0, none⟩ = some (.pointer (some ⟨lx, 0, none⟩)) ∧ wx.cell? ⟨nb, 1, none⟩ = some (.pointer (some ⟨rx, 0, none⟩)))
  case first =>
    go_region_held3 (fun w' => w'.cell? ⟨p, 0, none⟩ = some (.slice (some ⟨pb, 0, none⟩) n pc) ∧ w'.cell? ⟨zb, 1, none⟩ = some (.int .i64 M) ∧ w'.cell? ⟨pb, k * 2, none⟩ = some (.pointer (some ⟨lx, 0, none⟩)) ∧ w'.cell? ⟨pb, k * 2 + 1, none⟩ = some (.pointer (some ⟨rx, 0, none⟩)))
      ((refine HS.out _ ?_; (repeat (first | apply Keeps.drew | apply Keeps.alloc)); exact Keeps.refl _ _))
      ((go_at_call 10; refine (HPK.out _).mono ?_; rintro e W ⟨rfl, rfl⟩))
    all_goals go_step
    all_goals go_step
    all_goals go_meet
    all_goals exact pair_leaf W0 lx rx
  case rest =>
    obtain ⟨nb, rfl, KX, b0, b1⟩ := hcut
    have Z := fun j => cell_of_row _ _ j _ _ _ ZH.out
    have q0 := Z 0
    have q1 := Z 1
    have q2 := Z 2
    have q3 := Z 3
    have q4 := Z 4
    have q5 := Z 5
    have q6 := Z 6
    have q7 := Z 7
    have q8 := Z 8
    have q9 := Z 9
    have q10 := Z 10
    have q11 := Z 11
    have q12 := Z 12
    have q13 := Z 13
    have q14 := Z 14
    have q15 := Z 15
    clear Z
    simp only [List.getElem?_toArray, List.getElem?_cons_zero, List.getElem?_cons_succ] at q0 q1 q2 q3 q4 q5 q6 q7 q8 q9 q10 q11 q12 q13 q14 q15
    replace q0 := KX.cell q0 (by simp)
    replace q1 := KX.cell q1 (by simp)
    replace q2 := KX.cell q2 (by simp)
    replace q3 := KX.cell q3 (by simp)
    replace q4 := KX.cell q4 (by simp)
    replace q5 := KX.cell q5 (by simp)
    replace q6 := KX.cell q6 (by simp)
    replace q7 := KX.cell q7 (by simp)
    replace q8 := KX.cell q8 (by simp)
    replace q9 := KX.cell q9 (by simp)
    replace q10 := KX.cell q10 (by simp)
    replace q11 := KX.cell q11 (by simp)
    replace q12 := KX.cell q12 (by simp)
    replace q13 := KX.cell q13 (by simp)
    replace q14 := KX.cell q14 (by simp)
    replace q15 := KX.cell q15 (by simp)
    have HKX := hide (KW.out.trans KX)
    clear KX y0 y1 y2 z1 HS HPK
    have hk := HK.out
    clear HK
    subst hk
    go_wp2_with ((go_at_call 11; refine (HB.out _ HKX.out).mono ?_; rintro e W ⟨rfl, hP⟩))
    go_ret
    exact ⟨rfl, hP⟩

set_option maxRecDepth 100000 in
set_option maxHeartbeats 2000000 in
theorem step_on8 (w : World) (B0 p : Nat) (N : Int) (s : St) (o : OpV) (ra : Option Addr) (rn rc : Nat) (hrv : o.rv = .slice ra rn rc) (h : Inv B0 p N s w) (bN : N ≤ 900000000000) (hn : 1 ≤ s.n) (hn2 : s.n ≤ 4000000) (hM : -9223372036854775808 ≤ o.M ∧ o.M ≤ 9223372036854775807)
    (hk : o.kd = 8) :
    Calls Try.prog 6 #[.pointer (some ⟨p, 0, none⟩), .agg o.cells] w fun e w' => e = .returned (.bool true) ∧ StepPost 0 0 w B0 p N s w' := by
  obtain ⟨k, hpk, hkn⟩ := pick_fn o.M s.n hM.1 hM.2 hn (by omega)
  have HPK := hide hpk
  clear hpk
  obtain ⟨pb, pc, hpv, _, _⟩ := h.rps.form hn
  have x0 : w.cell? ⟨pb, k * 2, none⟩ = some (.pointer (some ⟨(s.L k).x, 0, none⟩)) := by
    have r := h.rps; rw [hpv] at r
    rw [r.cellAt (k * 2) (by omega)]; exact (pairCells_at s.L s.R s.n k hkn).1
  have x1 : w.cell? ⟨pb, k * 2 + 1, none⟩ = some (.pointer (some ⟨(s.R k).c, 0, none⟩)) := by
    have r := h.rps; rw [hpv] at r
    rw [r.cellAt (k * 2 + 1) (by omega)]; exact (pairCells_at s.L s.R s.n k hkn).2
  have c0 := h.c0.cell
  rw [hpv] at c0
  have HB : Hid (∀ W, Keeps [] w W → Calls Try.prog 11 #[.agg #[.pointer (some ⟨(s.L k).x, 0, none⟩), .pointer (some ⟨(s.R k).c, 0, none⟩)], .agg o.cells] W fun e w' => e = .returned (.bool true) ∧ StepPost 0 0 w B0 p N s w') := hide fun W kW => by
    have hW := h.later kW
    refine (brought_any W (s.L k) (s.R k) (s.m k) N o ra rn rc hrv (hW.rx k hkn) (hW.rc k hkn) (hW.ok k hkn) bN (fun b hb hb' => hW.sep (.x k) (.c k) b (by simp) (by simp only [St.F, if_pos hkn]; exact hb) (by simp only [St.F, if_pos hkn]; exact hb')) (by omega)).mono ?_
    rintro e w' ⟨rfl, P⟩
    refine ⟨rfl, ?_⟩
    obtain ⟨s', i1, i2, i3, i4, i5⟩ := hW.pair k hkn _ P (broughtM_ok (hW.ok k hkn) (by omega) o) (by omega)
    refine StepPost.intro h kW P.kp (fun b hb => ?_) i1 (by omega) bN (by omega) (by omega) (by rw [i3]; omega) (by rw [i4]; omega) i5
    rcases List.mem_append.1 hb with q | q
    · exact ⟨.x k, by simp only [St.F, if_pos hkn]; exact q⟩
    · exact ⟨.c k, by simp only [St.F, if_pos hkn]; exact q⟩
  obtain ⟨kd, M, A, B, C, D, E, rv, o0, o1, o2, o3, o4, o5, o6, o7⟩ := o
  simp only [] at hk hrv HPK HB
  subst hrv
  simp only [OpV.cells] at HB ⊢
  have hx0 : ∀ o, (w.alloc o).cell? ⟨pb, k * 2, none⟩ = some (.pointer (some ⟨(s.L k).x, 0, none⟩)) := fun o => cell_al x0
  have hx1 : ∀ o, (w.alloc o).cell? ⟨pb, k * 2 + 1, none⟩ = some (.pointer (some ⟨(s.R k).c, 0, none⟩)) := fun o => cell_al x1
  have hc0 : ∀ o, (w.alloc o).cell? ⟨p, 0, none⟩ = some (.slice (some ⟨pb, 0, none⟩) s.n pc) := fun o => cell_al c0
  have lp : p < w.heap.size := h.c0.lt
  have lpb : pb < w.heap.size := World.block_lt_of_cell? w _ x0
  have hkn' : (k : Int) < (s.n : Int) := by omega
  have hkn0 : (0 : Int) ≤ (k : Int) := Int.natCast_nonneg _
  have hs0 : ((s.n : Int) == 0) = false := beq_eq_false_iff_ne.2 (by omega)
  clear h hpv x0 x1 c0 hM
  generalize s.n = n at *
  generalize (s.L k).x = lx at *
  generalize (s.R k).c = rx at *
  have hk1 : (kd == 1) = false := beq_eq_false_iff_ne.2 (by omega)
  have HK := hide hk
  clear hk
  go_enter Try.func6, Try.ntmps6
  go_upto_region 5 with fail
  have z1 := cell_of_row _ _ 1 _ _ _ (heap_alloc_new w (.cells #[.int .i64 kd, .int .i64 M, .int .i64 A, .int .i64 B, .int .i64 C, .int .i64 D, .int .i64 E, .slice ra rn rc, .int .i64 o0, .int .i64 o1, .int .i64 o2, .int .i64 o3, .int .i64 o4, .int .i64 o5, .int .i64 o6, .int .i64 o7] 42))
  simp only [List.getElem?_toArray, List.getElem?_cons_zero, List.getElem?_cons_succ] at z1
  have y0 := hc0 (.cells #[.int .i64 kd, .int .i64 M, .int .i64 A, .int .i64 B, .int .i64 C, .int .i64 D, .int .i64 E, .slice ra rn rc, .int .i64 o0, .int .i64 o1, .int .i64 o2, .int .i64 o3, .int .i64 o4, .int .i64 o5, .int .i64 o6, .int .i64 o7] 42)
  have y1 := hx0 (.cells #[.int .i64 kd, .int .i64 M, .int .i64 A, .int .i64 B, .int .i64 C, .int .i64 D, .int .i64 E, .slice ra rn rc, .int .i64 o0, .int .i64 o1, .int .i64 o2, .int .i64 o3, .int .i64 o4, .int .i64 o5, .int .i64 o6, .int .i64 o7] 42)
  have y2 := hx1 (.cells #[.int .i64 kd, .int .i64 M, .int .i64 A, .int .i64 B, .int .i64 C, .int .i64 D, .int .i64 E, .slice ra rn rc, .int .i64 o0, .int .i64 o1, .int .i64 o2, .int .i64 o3, .int .i64 o4, .int .i64 o5, .int .i64 o6, .int .i64 o7] 42)
  have zh := heap_alloc_new w (.cells #[.int .i64 kd, .int .i64 M, .int .i64 A, .int .i64 B, .int .i64 C, .int .i64 D, .int .i64 E, .slice ra rn rc, .int .i64 o0, .int .i64 o1, .int .i64 o2, .int .i64 o3, .int .i64 o4, .int .i64 o5, .int .i64 o6, .int .i64 o7] 42)
  have KW : Hid (Keeps [] w (w.alloc (.cells #[.int .i64 kd, .int .i64 M, .int .i64 A, .int .i64 B, .int .i64 C, .int .i64 D, .int .i64 E, .slice ra rn rc, .int .i64 o0, .int .i64 o1, .int .i64 o2, .int .i64 o3, .int .i64 o4, .int .i64 o5, .int .i64 o6, .int .i64 o7] 42))) := hide ((Keeps.refl _ _).alloc _)
  generalize w.alloc (.cells #[.int .i64 kd, .int .i64 M, .int .i64 A, .int .i64 B, .int .i64 C, .int .i64 D, .int .i64 E, .slice ra rn rc, .int .i64 o0, .int .i64 o1, .int .i64 o2, .int .i64 o3, .int .i64 o4, .int .i64 o5, .int .i64 o6, .int .i64 o7] 42) = W0 at *
  clear hc0 hx0 hx1
  have ZH := hide zh
  clear zh
  generalize hzbe : w.heap.size = zb at *
  have HZB := hide hzbe
  clear hzbe
  have HS : Hid (∀ w', Keeps [] W0 w' → (w'.cell? ⟨p, 0, none⟩ = some (.slice (some ⟨pb, 0, none⟩) n pc) ∧ w'.cell? ⟨zb, 1, none⟩ = some (.int .i64 M) ∧ w'.cell? ⟨pb, k * 2, none⟩ = some (.pointer (some ⟨lx, 0, none⟩)) ∧ w'.cell? ⟨pb, k * 2 + 1, none⟩ = some (.pointer (some ⟨rx, 0, none⟩)))) :=
    hide fun w' h => ⟨h.cell y0 (by simp), h.cell z1 (by simp), h.cell y1 (by simp), h.cell y2 (by simp)⟩
  go_cut [5] (fun s5 wx => ∃ nb, s5 = .pointer (some ⟨nb, 0, none⟩) ∧ Keeps [] W0 wx ∧ wx.cell? ⟨nb, 0, none⟩ = some (.pointer (some ⟨lx, 0, none⟩)) ∧ wx.cell? ⟨nb, 1, none⟩ = some (.pointer (some ⟨rx, 0, none⟩)))
  case first =>
    go_region_held3 (fun w' => w'.cell? ⟨p, 0, none⟩ = some (.slice (some ⟨pb, 0, none⟩) n pc) ∧ w'.cell? ⟨zb, 1, none⟩ = some (.int .i64 M) ∧ w'.cell? ⟨pb, k * 2, none⟩ = some (.pointer (some ⟨lx, 0, none⟩)) ∧ w'.cell? ⟨pb, k * 2 + 1, none⟩ = some (.pointer (some ⟨rx, 0, none⟩)))
      ((refine HS.out _ ?_; (repeat (first | apply Keeps.drew | apply Keeps.alloc)); exact Keeps.refl _ _))
      ((go_at_call 10; refine (HPK.out _).mono ?_; rintro e W ⟨rfl, rfl⟩))
    all_goals go_step
    all_goals go_step
    all_goals go_meet
    all_goals exact pair_leaf W0 lx rx
  case rest =>
    obtain ⟨nb, rfl, KX, b0, b1⟩ := hcut
    have Z := fun j => cell_of_row _ _ j _ _ _ ZH.out
    have q0 := Z 0
    have q1 := Z 1
    have q2 := Z 2
    have q3 := Z 3
    have q4 := Z 4
    have q5 := Z 5
    have q6 := Z 6
    have q7 := Z 7
    have q8 := Z 8
    have q9 := Z 9
    have q10 := Z 10
    have q11 := Z 11
    have q12 := Z 12
    have q13 := Z 13
    have q14 := Z 14
    have q15 := Z 15
    clear Z
    simp only [List.getElem?_toArray, List.getElem?_cons_zero, List.getElem?_cons_succ] at q0 q1 q2 q3 q4 q5 q6 q7 q8 q9 q10 q11 q12 q13 q14 q15
    replace q0 := KX.cell q0 (by simp)
    replace q1 := KX.cell q1 (by simp)
    replace q2 := KX.cell q2 (by simp)
    replace q3 := KX.cell q3 (by simp)
    replace q4 := KX.cell q4 (by simp)
    replace q5 := KX.cell q5 (by simp)
    replace q6 := KX.cell q6 (by simp)
    replace q7 := KX.cell q7 (by simp)
    replace q8 := KX.cell q8 (by simp)
    replace q9 := KX.cell q9 (by simp)
    replace q10 := KX.cell q10 (by simp)
    replace q11 := KX.cell q11 (by simp)
    replace q12 := KX.cell q12 (by simp)
    replace q13 := KX.cell q13 (by simp)
    replace q14 := KX.cell q14 (by simp)
    replace q15 := KX.cell q15 (by simp)
    have HKX := hide (KW.out.trans KX)
    clear KX y0 y1 y2 z1 HS HPK
    have hk := HK.out
    clear HK
    subst hk
    go_wp2_with ((go_at_call 11; refine (HB.out _ HKX.out).mono ?_; rintro e W ⟨rfl, hP⟩))
    go_ret
    exact ⟨rfl, hP⟩

end Go.Proofs.Ytcbfmolebomkdaa
