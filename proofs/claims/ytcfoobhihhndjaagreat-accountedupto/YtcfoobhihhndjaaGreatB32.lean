/- The law: step, of no kind; Pay, Draw. -/
import Derived.Test.YtcfoobhihhndjaaGreatB31
namespace Go.Proofs.YtcfoobhihhndjaaGreat

section
open Go.RowKit

set_option maxRecDepth 100000 in
set_option maxHeartbeats 2000000 in
theorem step_kind0 (w : World) (p : Nat) (Q : World → Prop) (o : OpV) (ra : Option Addr) (rn rc : Nat) (hrv : o.rv = .slice ra rn rc) (pb pc n k lx rx : Nat) (c0 : w.cell? ⟨p, 0, none⟩ = some (.slice (some ⟨pb, 0, none⟩) n pc)) (x0 : w.cell? ⟨pb, k * 2, none⟩ = some (.pointer (some ⟨lx, 0, none⟩))) (x1 : w.cell? ⟨pb, k * 2 + 1, none⟩ = some (.pointer (some ⟨rx, 0, none⟩))) (hkn : k < n) (hpk : ∀ w : World, Calls Tryz.prog 12 #[.int .i64 o.M, .int .i64 n] w fun e w' => e = .returned (.int .i64 k) ∧ w' = w) (hk : o.kd ≤ 0)
    (HB : Hid (∀ W, Kep non w W → Q W)) :
    Calls Tryz.prog 8 #[.pointer (some ⟨p, 0, none⟩), .agg o.cells] w fun e w' => e = .returned (.bool true) ∧ Q w' := by
  have HPK := hide hpk
  clear hpk
  obtain ⟨kd, M, A, B, C, D, E, rv, o0, o1, o2, o3, o4, o5, o6, o7⟩ := o
  simp only [] at hk hrv HPK HB
  subst hrv
  simp only [OpV.cells]
  have lp : p < w.heap.size := World.block_lt_of_cell? w _ c0
  have lpb : pb < w.heap.size := World.block_lt_of_cell? w _ x0
  have hx0 : ∀ o, (w.alloc o).cell? ⟨pb, k * 2, none⟩ = some (.pointer (some ⟨lx, 0, none⟩)) := fun o => cell_al x0
  have hx1 : ∀ o, (w.alloc o).cell? ⟨pb, k * 2 + 1, none⟩ = some (.pointer (some ⟨rx, 0, none⟩)) := fun o => cell_al x1
  have hc0 : ∀ o, (w.alloc o).cell? ⟨p, 0, none⟩ = some (.slice (some ⟨pb, 0, none⟩) n pc) := fun o => cell_al c0
  have hkn' : (k : Int) < (n : Int) := by omega
  have hkn0 : (0 : Int) ≤ (k : Int) := Int.natCast_nonneg _
  have hs0 : ((n : Int) == 0) = false := beq_eq_false_iff_ne.2 (by omega)
  clear x0 x1 c0
  have hk1 : (kd == 1) = false := beq_eq_false_iff_ne.2 (by omega)
  have HK := hide hk
  clear hk
  go_enter Tryz.func8, Tryz.ntmps8
  go_upto_region 5 with fail
  have z1 := cell_of_row _ _ 1 _ _ _ (heap_alloc_new w (.cells #[.int .i64 kd, .int .i64 M, .int .i64 A, .int .i64 B, .int .i64 C, .int .i64 D, .int .i64 E, .slice ra rn rc, .int .i64 o0, .int .i64 o1, .int .i64 o2, .int .i64 o3, .int .i64 o4, .int .i64 o5, .int .i64 o6, .int .i64 o7] 42))
  simp only [List.getElem?_toArray, List.getElem?_cons_zero, List.getElem?_cons_succ] at z1
  have y0 := hc0 (.cells #[.int .i64 kd, .int .i64 M, .int .i64 A, .int .i64 B, .int .i64 C, .int .i64 D, .int .i64 E, .slice ra rn rc, .int .i64 o0, .int .i64 o1, .int .i64 o2, .int .i64 o3, .int .i64 o4, .int .i64 o5, .int .i64 o6, .int .i64 o7] 42)
  have y1 := hx0 (.cells #[.int .i64 kd, .int .i64 M, .int .i64 A, .int .i64 B, .int .i64 C, .int .i64 D, .int .i64 E, .slice ra rn rc, .int .i64 o0, .int .i64 o1, .int .i64 o2, .int .i64 o3, .int .i64 o4, .int .i64 o5, .int .i64 o6, .int .i64 o7] 42)
  have y2 := hx1 (.cells #[.int .i64 kd, .int .i64 M, .int .i64 A, .int .i64 B, .int .i64 C, .int .i64 D, .int .i64 E, .slice ra rn rc, .int .i64 o0, .int .i64 o1, .int .i64 o2, .int .i64 o3, .int .i64 o4, .int .i64 o5, .int .i64 o6, .int .i64 o7] 42)
  have zh := heap_alloc_new w (.cells #[.int .i64 kd, .int .i64 M, .int .i64 A, .int .i64 B, .int .i64 C, .int .i64 D, .int .i64 E, .slice ra rn rc, .int .i64 o0, .int .i64 o1, .int .i64 o2, .int .i64 o3, .int .i64 o4, .int .i64 o5, .int .i64 o6, .int .i64 o7] 42)
  have KW : Hid (Kep non w (w.alloc (.cells #[.int .i64 kd, .int .i64 M, .int .i64 A, .int .i64 B, .int .i64 C, .int .i64 D, .int .i64 E, .slice ra rn rc, .int .i64 o0, .int .i64 o1, .int .i64 o2, .int .i64 o3, .int .i64 o4, .int .i64 o5, .int .i64 o6, .int .i64 o7] 42))) := hide ((Kep.refl _ _).alloc _)
  generalize w.alloc (.cells #[.int .i64 kd, .int .i64 M, .int .i64 A, .int .i64 B, .int .i64 C, .int .i64 D, .int .i64 E, .slice ra rn rc, .int .i64 o0, .int .i64 o1, .int .i64 o2, .int .i64 o3, .int .i64 o4, .int .i64 o5, .int .i64 o6, .int .i64 o7] 42) = W0 at *
  clear hc0 hx0 hx1
  have ZH := hide zh
  clear zh
  generalize hzbe : w.heap.size = zb at *
  have HZB := hide hzbe
  clear hzbe
  have HS : Hid (∀ w', Kep non W0 w' → (w'.cell? ⟨p, 0, none⟩ = some (.slice (some ⟨pb, 0, none⟩) n pc) ∧ w'.cell? ⟨zb, 1, none⟩ = some (.int .i64 M) ∧ w'.cell? ⟨pb, k * 2, none⟩ = some (.pointer (some ⟨lx, 0, none⟩)) ∧ w'.cell? ⟨pb, k * 2 + 1, none⟩ = some (.pointer (some ⟨rx, 0, none⟩)))) :=
    hide fun w' h => ⟨h.cell y0 (fun q => q), h.cell z1 (fun q => q), h.cell y1 (fun q => q), h.cell y2 (fun q => q)⟩
  go_cut [5] (fun s5 wx => ∃ nb, s5 = .pointer (some ⟨nb, 0, none⟩) ∧ Kep non W0 wx ∧ wx.cell? ⟨nb, 0, none⟩ = some (.pointer (some ⟨lx, 0, none⟩)) ∧ wx.cell? ⟨nb, 1, none⟩ = some (.pointer (some ⟨rx, 0, none⟩)))
  case first =>
    go_region_held3 (fun w' => w'.cell? ⟨p, 0, none⟩ = some (.slice (some ⟨pb, 0, none⟩) n pc) ∧ w'.cell? ⟨zb, 1, none⟩ = some (.int .i64 M) ∧ w'.cell? ⟨pb, k * 2, none⟩ = some (.pointer (some ⟨lx, 0, none⟩)) ∧ w'.cell? ⟨pb, k * 2 + 1, none⟩ = some (.pointer (some ⟨rx, 0, none⟩)))
      ((refine HS.out _ ?_; (repeat (first | apply Kep.drew | apply Kep.alloc)); exact Kep.refl _ _))
      ((go_at_call 12; refine (HPK.out _).mono ?_; rintro e W ⟨rfl, rfl⟩))
    all_goals go_step
    all_goals go_step
    all_goals go_meet
    all_goals exact pair_leaf W0 lx rx
  case rest =>
    obtain ⟨nb, rfl, KX, b0, b1⟩ := hcut
    have Z := fun j => cell_of_row _ _ j _ _ _ ZH.out
    have q0 := Z 0
    have q1 := Z 1
    have q2 := Z 2
    have q3 := Z 3
    have q4 := Z 4
    have q5 := Z 5
    have q6 := Z 6
    have q7 := Z 7
    have q8 := Z 8
    have q9 := Z 9
    have q10 := Z 10
    have q11 := Z 11
    have q12 := Z 12
    have q13 := Z 13
    have q14 := Z 14
    have q15 := Z 15
    clear Z
    simp only [List.getElem?_toArray, List.getElem?_cons_zero, List.getElem?_cons_succ] at q0 q1 q2 q3 q4 q5 q6 q7 q8 q9 q10 q11 q12 q13 q14 q15
    replace q0 := KX.cell q0 (fun q => q)
    replace q1 := KX.cell q1 (fun q => q)
    replace q2 := KX.cell q2 (fun q => q)
    replace q3 := KX.cell q3 (fun q => q)
    replace q4 := KX.cell q4 (fun q => q)
    replace q5 := KX.cell q5 (fun q => q)
    replace q6 := KX.cell q6 (fun q => q)
    replace q7 := KX.cell q7 (fun q => q)
    replace q8 := KX.cell q8 (fun q => q)
    replace q9 := KX.cell q9 (fun q => q)
    replace q10 := KX.cell q10 (fun q => q)
    replace q11 := KX.cell q11 (fun q => q)
    replace q12 := KX.cell q12 (fun q => q)
    replace q13 := KX.cell q13 (fun q => q)
    replace q14 := KX.cell q14 (fun q => q)
    replace q15 := KX.cell q15 (fun q => q)
    have HKX := hide (KW.out.trans KX)
    clear KX y0 y1 y2 z1 HS HPK
    have hk := HK.out
    clear HK
    have k2 : (kd == 2) = false := beq_eq_false_iff_ne.2 (by omega)
    have k3 : (kd == 3) = false := beq_eq_false_iff_ne.2 (by omega)
    have k4 : (kd == 4) = false := beq_eq_false_iff_ne.2 (by omega)
    have k5 : (kd == 5) = false := beq_eq_false_iff_ne.2 (by omega)
    have k6 : (kd == 6) = false := beq_eq_false_iff_ne.2 (by omega)
    have k7 : (kd == 7) = false := beq_eq_false_iff_ne.2 (by omega)
    have k8 : (kd == 8) = false := beq_eq_false_iff_ne.2 (by omega)
    have k9 : (kd == 9) = false := beq_eq_false_iff_ne.2 (by omega)
    have k10 : (kd == 10) = false := beq_eq_false_iff_ne.2 (by omega)
    have k11 : (kd == 11) = false := beq_eq_false_iff_ne.2 (by omega)
    have k12 : (kd == 12) = false := beq_eq_false_iff_ne.2 (by omega)
    have k13 : (kd == 13) = false := beq_eq_false_iff_ne.2 (by omega)
    have k14 : (kd == 14) = false := beq_eq_false_iff_ne.2 (by omega)
    clear hk
    go_wp2_with fail
    go_ret
    exact ⟨rfl, HB.out _ HKX.out⟩

set_option maxRecDepth 100000 in
set_option maxHeartbeats 2000000 in
theorem step_kind2 (w : World) (p : Nat) (Q : World → Prop) (o : OpV) (ra : Option Addr) (rn rc : Nat) (hrv : o.rv = .slice ra rn rc) (pb pc n k lx rx : Nat) (c0 : w.cell? ⟨p, 0, none⟩ = some (.slice (some ⟨pb, 0, none⟩) n pc)) (x0 : w.cell? ⟨pb, k * 2, none⟩ = some (.pointer (some ⟨lx, 0, none⟩))) (x1 : w.cell? ⟨pb, k * 2 + 1, none⟩ = some (.pointer (some ⟨rx, 0, none⟩))) (hkn : k < n) (hpk : ∀ w : World, Calls Tryz.prog 12 #[.int .i64 o.M, .int .i64 n] w fun e w' => e = .returned (.int .i64 k) ∧ w' = w) (hk : o.kd = 2)
    (HB : Hid (∀ W, Kep non w W → Calls Tryz.prog 13 #[.agg #[.pointer (some ⟨lx, 0, none⟩), .pointer (some ⟨rx, 0, none⟩)], .agg o.cells] W fun e w' => e = .returned (.bool true) ∧ Q w')) :
    Calls Tryz.prog 8 #[.pointer (some ⟨p, 0, none⟩), .agg o.cells] w fun e w' => e = .returned (.bool true) ∧ Q w' := by
  have HPK := hide hpk
  clear hpk
  obtain ⟨kd, M, A, B, C, D, E, rv, o0, o1, o2, o3, o4, o5, o6, o7⟩ := o
  simp only [] at hk hrv HPK HB
  subst hrv
  simp only [OpV.cells] at HB ⊢
  have lp : p < w.heap.size := World.block_lt_of_cell? w _ c0
  have lpb : pb < w.heap.size := World.block_lt_of_cell? w _ x0
  have hx0 : ∀ o, (w.alloc o).cell? ⟨pb, k * 2, none⟩ = some (.pointer (some ⟨lx, 0, none⟩)) := fun o => cell_al x0
  have hx1 : ∀ o, (w.alloc o).cell? ⟨pb, k * 2 + 1, none⟩ = some (.pointer (some ⟨rx, 0, none⟩)) := fun o => cell_al x1
  have hc0 : ∀ o, (w.alloc o).cell? ⟨p, 0, none⟩ = some (.slice (some ⟨pb, 0, none⟩) n pc) := fun o => cell_al c0
  have hkn' : (k : Int) < (n : Int) := by omega
  have hkn0 : (0 : Int) ≤ (k : Int) := Int.natCast_nonneg _
  have hs0 : ((n : Int) == 0) = false := beq_eq_false_iff_ne.2 (by omega)
  clear x0 x1 c0
  have hk1 : (kd == 1) = false := beq_eq_false_iff_ne.2 (by omega)
  have HK := hide hk
  clear hk
  go_enter Tryz.func8, Tryz.ntmps8
  go_upto_region 5 with fail
  have z1 := cell_of_row _ _ 1 _ _ _ (heap_alloc_new w (.cells #[.int .i64 kd, .int .i64 M, .int .i64 A, .int .i64 B, .int .i64 C, .int .i64 D, .int .i64 E, .slice ra rn rc, .int .i64 o0, .int .i64 o1, .int .i64 o2, .int .i64 o3, .int .i64 o4, .int .i64 o5, .int .i64 o6, .int .i64 o7] 42))
  simp only [List.getElem?_toArray, List.getElem?_cons_zero, List.getElem?_cons_succ] at z1
  have y0 := hc0 (.cells #[.int .i64 kd, .int .i64 M, .int .i64 A, .int .i64 B, .int .i64 C, .int .i64 D, .int .i64 E, .slice ra rn rc, .int .i64 o0, .int .i64 o1, .int .i64 o2, .int .i64 o3, .int .i64 o4, .int .i64 o5, .int .i64 o6, .int .i64 o7] 42)
  have y1 := hx0 (.cells #[.int .i64 kd, .int .i64 M, .int .i64 A, .int .i64 B, .int .i64 C, .int .i64 D, .int .i64 E, .slice ra rn rc, .int .i64 o0, .int .i64 o1, .int .i64 o2, .int .i64 o3, .int .i64 o4, .int .i64 o5, .int .i64 o6, .int .i64 o7] 42)
  have y2 := hx1 (.cells #[.int .i64 kd, .int .i64 M, .int .i64 A, .int .i64 B, .int .i64 C, .int .i64 D, .int .i64 E, .slice ra rn rc, .int .i64 o0, .int .i64 o1, .int .i64 o2, .int .i64 o3, .int .i64 o4, .int .i64 o5, .int .i64 o6, .int .i64 o7] 42)
  have zh := heap_alloc_new w (.cells #[.int .i64 kd, .int .i64 M, .int .i64 A, .int .i64 B, .int .i64 C, .int .i64 D, .int .i64 E, .slice ra rn rc, .int .i64 o0, .int .i64 o1, .int .i64 o2, .int .i64 o3, .int .i64 o4, .int .i64 o5, .int .i64 o6, .int .i64 o7] 42)
  have KW : Hid (Kep non w (w.alloc (.cells #[.int .i64 kd, .int .i64 M, .int .i64 A, .int .i64 B, .int .i64 C, .int .i64 D, .int .i64 E, .slice ra rn rc, .int .i64 o0, .int .i64 o1, .int .i64 o2, .int .i64 o3, .int .i64 o4, .int .i64 o5, .int .i64 o6, .int .i64 o7] 42))) := hide ((Kep.refl _ _).alloc _)
  generalize w.alloc (.cells #[.int .i64 kd, .int .i64 M, .int .i64 A, .int .i64 B, .int .i64 C, .int .i64 D, .int .i64 E, .slice ra rn rc, .int .i64 o0, .int .i64 o1, .int .i64 o2, .int .i64 o3, .int .i64 o4, .int .i64 o5, .int .i64 o6, .int .i64 o7] 42) = W0 at *
  clear hc0 hx0 hx1
  have ZH := hide zh
  clear zh
  generalize hzbe : w.heap.size = zb at *
  have HZB := hide hzbe
  clear hzbe
  have HS : Hid (∀ w', Kep non W0 w' → (w'.cell? ⟨p, 0, none⟩ = some (.slice (some ⟨pb, 0, none⟩) n pc) ∧ w'.cell? ⟨zb, 1, none⟩ = some (.int .i64 M) ∧ w'.cell? ⟨pb, k * 2, none⟩ = some (.pointer (some ⟨lx, 0, none⟩)) ∧ w'.cell? ⟨pb, k * 2 + 1, none⟩ = some (.pointer (some ⟨rx, 0, none⟩)))) :=
    hide fun w' h => ⟨h.cell y0 (fun q => q), h.cell z1 (fun q => q), h.cell y1 (fun q => q), h.cell y2 (fun q => q)⟩
  go_cut [5] (fun s5 wx => ∃ nb, s5 = .pointer (some ⟨nb, 0, none⟩) ∧ Kep non W0 wx ∧ wx.cell? ⟨nb, 0, none⟩ = some (.pointer (some ⟨lx, 0, none⟩)) ∧ wx.cell? ⟨nb, 1, none⟩ = some (.pointer (some ⟨rx, 0, none⟩)))
  case first =>
    go_region_held3 (fun w' => w'.cell? ⟨p, 0, none⟩ = some (.slice (some ⟨pb, 0, none⟩) n pc) ∧ w'.cell? ⟨zb, 1, none⟩ = some (.int .i64 M) ∧ w'.cell? ⟨pb, k * 2, none⟩ = some (.pointer (some ⟨lx, 0, none⟩)) ∧ w'.cell? ⟨pb, k * 2 + 1, none⟩ = some (.pointer (some ⟨rx, 0, none⟩)))
      ((refine HS.out _ ?_; (repeat (first | apply Kep.drew | apply Kep.alloc)); exact Kep.refl _ _))
      ((go_at_call 12; refine (HPK.out _).mono ?_; rintro e W ⟨rfl, rfl⟩))
    all_goals go_step
    all_goals go_step
    all_goals go_meet
    all_goals exact pair_leaf W0 lx rx
  case rest =>
    obtain ⟨nb, rfl, KX, b0, b1⟩ := hcut
    have Z := fun j => cell_of_row _ _ j _ _ _ ZH.out
    have q0 := Z 0
    have q1 := Z 1
    have q2 := Z 2
    have q3 := Z 3
    have q4 := Z 4
    have q5 := Z 5
    have q6 := Z 6
    have q7 := Z 7
    have q8 := Z 8
    have q9 := Z 9
    have q10 := Z 10
    have q11 := Z 11
    have q12 := Z 12
    have q13 := Z 13
    have q14 := Z 14
    have q15 := Z 15
    clear Z
    simp only [List.getElem?_toArray, List.getElem?_cons_zero, List.getElem?_cons_succ] at q0 q1 q2 q3 q4 q5 q6 q7 q8 q9 q10 q11 q12 q13 q14 q15
    replace q0 := KX.cell q0 (fun q => q)
    replace q1 := KX.cell q1 (fun q => q)
    replace q2 := KX.cell q2 (fun q => q)
    replace q3 := KX.cell q3 (fun q => q)
    replace q4 := KX.cell q4 (fun q => q)
    replace q5 := KX.cell q5 (fun q => q)
    replace q6 := KX.cell q6 (fun q => q)
    replace q7 := KX.cell q7 (fun q => q)
    replace q8 := KX.cell q8 (fun q => q)
    replace q9 := KX.cell q9 (fun q => q)
    replace q10 := KX.cell q10 (fun q => q)
    replace q11 := KX.cell q11 (fun q => q)
    replace q12 := KX.cell q12 (fun q => q)
    replace q13 := KX.cell q13 (fun q => q)
    replace q14 := KX.cell q14 (fun q => q)
    replace q15 := KX.cell q15 (fun q => q)
    have HKX := hide (KW.out.trans KX)
    clear KX y0 y1 y2 z1 HS HPK
    have hk := HK.out
    clear HK
    subst hk
    go_wp2_with ((go_at_call 13; refine (HB.out _ HKX.out).mono ?_; rintro e W ⟨rfl, hP⟩))
    go_ret
    exact ⟨rfl, hP⟩

set_option maxRecDepth 100000 in
set_option maxHeartbeats 2000000 in
theorem step_kind3 (w : World) (p : Nat) (Q : World → Prop) (o : OpV) (ra : Option Addr) (rn rc : Nat) (hrv : o.rv = .slice ra rn rc) (pb pc n k lx rx : Nat) (c0 : w.cell? ⟨p, 0, none⟩ = some (.slice (some ⟨pb, 0, none⟩) n pc)) (x0 : w.cell? ⟨pb, k * 2, none⟩ = some (.pointer (some ⟨lx, 0, none⟩))) (x1 : w.cell? ⟨pb, k * 2 + 1, none⟩ = some (.pointer (some ⟨rx, 0, none⟩))) (hkn : k < n) (hpk : ∀ w : World, Calls Tryz.prog 12 #[.int .i64 o.M, .int .i64 n] w fun e w' => e = .returned (.int .i64 k) ∧ w' = w) (hk : o.kd = 3)
    (HB : Hid (∀ W, Kep non w W → Calls Tryz.prog 13 #[.agg #[.pointer (some ⟨lx, 0, none⟩), .pointer (some ⟨rx, 0, none⟩)], .agg o.cells] W fun e w' => e = .returned (.bool true) ∧ Q w')) :
    Calls Tryz.prog 8 #[.pointer (some ⟨p, 0, none⟩), .agg o.cells] w fun e w' => e = .returned (.bool true) ∧ Q w' := by
  have HPK := hide hpk
  clear hpk
  obtain ⟨kd, M, A, B, C, D, E, rv, o0, o1, o2, o3, o4, o5, o6, o7⟩ := o
  simp only [] at hk hrv HPK HB
  subst hrv
  simp only [OpV.cells] at HB ⊢
  have lp : p < w.heap.size := World.block_lt_of_cell? w _ c0
  have lpb : pb < w.heap.size := World.block_lt_of_cell? w _ x0
  have hx0 : ∀ o, (w.alloc o).cell? ⟨pb, k * 2, none⟩ = some (.pointer (some ⟨lx, 0, none⟩)) := fun o => cell_al x0
  have hx1 : ∀ o, (w.alloc o).cell? ⟨pb, k * 2 + 1, none⟩ = some (.pointer (some ⟨rx, 0, none⟩)) := fun o => cell_al x1
  have hc0 : ∀ o, (w.alloc o).cell? ⟨p, 0, none⟩ = some (.slice (some ⟨pb, 0, none⟩) n pc) := fun o => cell_al c0
  have hkn' : (k : Int) < (n : Int) := by omega
  have hkn0 : (0 : Int) ≤ (k : Int) := Int.natCast_nonneg _
  have hs0 : ((n : Int) == 0) = false := beq_eq_false_iff_ne.2 (by omega)
  clear x0 x1 c0
  have hk1 : (kd == 1) = false := beq_eq_false_iff_ne.2 (by omega)
  have HK := hide hk
  clear hk
  go_enter Tryz.func8, Tryz.ntmps8
  go_upto_region 5 with fail
  have z1 := cell_of_row _ _ 1 _ _ _ (heap_alloc_new w (.cells #[.int .i64 kd, .int .i64 M, .int .i64 A, .int .i64 B, .int .i64 C, .int .i64 D, .int .i64 E, .slice ra rn rc, .int .i64 o0, .int .i64 o1, .int .i64 o2, .int .i64 o3, .int .i64 o4, .int .i64 o5, .int .i64 o6, .int .i64 o7] 42))
  simp only [List.getElem?_toArray, List.getElem?_cons_zero, List.getElem?_cons_succ] at z1
  have y0 := hc0 (.cells #[.int .i64 kd, .int .i64 M, .int .i64 A, .int .i64 B, .int .i64 C, .int .i64 D, .int .i64 E, .slice ra rn rc, .int .i64 o0, .int .i64 o1, .int .i64 o2, .int .i64 o3, .int .i64 o4, .int .i64 o5, .int .i64 o6, .int .i64 o7] 42)
  have y1 := hx0 (.cells #[.int .i64 kd, .int .i64 M, .int .i64 A, .int .i64 B, .int .i64 C, .int .i64 D, .int .i64 E, .slice ra rn rc, .int .i64 o0, .int .i64 o1, .int .i64 o2, .int .i64 o3, .int .i64 o4, .int .i64 o5, .int .i64 o6, .int .i64 o7] 42)
  have y2 := hx1 (.cells #[.int .i64 kd, .int .i64 M, .int .i64 A, .int .i64 B, .int .i64 C, .int .i64 D, .int .i64 E, .slice ra rn rc, .int .i64 o0, .int .i64 o1, .int .i64 o2, .int .i64 o3, .int .i64 o4, .int .i64 o5, .int .i64 o6, .int .i64 o7] 42)
  have zh := heap_alloc_new w (.cells #[.int .i64 kd, .int .i64 M, .int .i64 A, .int .i64 B, .int .i64 C, .int .i64 D, .int .i64 E, .slice ra rn rc, .int .i64 o0, .int .i64 o1, .int .i64 o2, .int .i64 o3, .int .i64 o4, .int .i64 o5, .int .i64 o6, .int .i64 o7] 42)
  have KW : Hid (Kep non w (w.alloc (.cells #[.int .i64 kd, .int .i64 M, .int .i64 A, .int .i64 B, .int .i64 C, .int .i64 D, .int .i64 E, .slice ra rn rc, .int .i64 o0, .int .i64 o1, .int .i64 o2, .int .i64 o3, .int .i64 o4, .int .i64 o5, .int .i64 o6, .int .i64 o7] 42))) := hide ((Kep.refl _ _).alloc _)
  generalize w.alloc (.cells #[.int .i64 kd, .int .i64 M, .int .i64 A, .int .i64 B, .int .i64 C, .int .i64 D, .int .i64 E, .slice ra rn rc, .int .i64 o0, .int .i64 o1, .int .i64 o2, .int .i64 o3, .int .i64 o4, .int .i64 o5, .int .i64 o6, .int .i64 o7] 42) = W0 at *
  clear hc0 hx0 hx1
  have ZH := hide zh
  clear zh
  generalize hzbe : w.heap.size = zb at *
  have HZB := hide hzbe
  clear hzbe
  have HS : Hid (∀ w', Kep non W0 w' → (w'.cell? ⟨p, 0, none⟩ = some (.slice (some ⟨pb, 0, none⟩) n pc) ∧ w'.cell? ⟨zb, 1, none⟩ = some (.int .i64 M) ∧ w'.cell? ⟨pb, k * 2, none⟩ = some (.pointer (some ⟨lx, 0, none⟩)) ∧ w'.cell? ⟨pb, k * 2 + 1, none⟩ = some (.pointer (some ⟨rx, 0, none⟩)))) :=
    hide fun w' h => ⟨h.cell y0 (fun q => q), h.cell z1 (fun q => q), h.cell y1 (fun q => q), h.cell y2 (fun q => q)⟩
  go_cut [5] (fun s5 wx => ∃ nb, s5 = .pointer (some ⟨nb, 0, none⟩) ∧ Kep non W0 wx ∧ wx.cell? ⟨nb, 0, none⟩ = some (.pointer (some ⟨lx, 0, none⟩)) ∧ wx.cell? ⟨nb, 1, none⟩ = some (.pointer (some ⟨rx, 0, none⟩)))
  case first =>
    go_region_held3 (fun w' => w'.cell? ⟨p, 0, none⟩ = some (.slice (some ⟨pb, 0, none⟩) n pc) ∧ w'.cell? ⟨zb, 1, none⟩ = some (.int .i64 M) ∧ w'.cell? ⟨pb, k * 2, none⟩ = some (.pointer (some ⟨lx, 0, none⟩)) ∧ w'.cell? ⟨pb, k * 2 + 1, none⟩ = some (.pointer (some ⟨rx, 0, none⟩)))
      ((refine HS.out _ ?_; (repeat (first | apply Kep.drew | apply Kep.alloc)); exact Kep.refl _ _))
      ((go_at_call 12; refine (HPK.out _).mono ?_; rintro e W ⟨rfl, rfl⟩))
    all_goals go_step
    all_goals go_step
    all_goals go_meet
    all_goals exact pair_leaf W0 lx rx
  case rest =>
    obtain ⟨nb, rfl, KX, b0, b1⟩ := hcut
    have Z := fun j => cell_of_row _ _ j _ _ _ ZH.out
    have q0 := Z 0
    have q1 := Z 1
    have q2 := Z 2
    have q3 := Z 3
    have q4 := Z 4
    have q5 := Z 5
    have q6 := Z 6
    have q7 := Z 7
    have q8 := Z 8
    have q9 := Z 9
    have q10 := Z 10
    have q11 := Z 11
    have q12 := Z 12
    have q13 := Z 13
    have q14 := Z 14
    have q15 := Z 15
    clear Z
    simp only [List.getElem?_toArray, List.getElem?_cons_zero, List.getElem?_cons_succ] at q0 q1 q2 q3 q4 q5 q6 q7 q8 q9 q10 q11 q12 q13 q14 q15
    replace q0 := KX.cell q0 (fun q => q)
    replace q1 := KX.cell q1 (fun q => q)
    replace q2 := KX.cell q2 (fun q => q)
    replace q3 := KX.cell q3 (fun q => q)
    replace q4 := KX.cell q4 (fun q => q)
    replace q5 := KX.cell q5 (fun q => q)
    replace q6 := KX.cell q6 (fun q => q)
    replace q7 := KX.cell q7 (fun q => q)
    replace q8 := KX.cell q8 (fun q => q)
    replace q9 := KX.cell q9 (fun q => q)
    replace q10 := KX.cell q10 (fun q => q)
    replace q11 := KX.cell q11 (fun q => q)
    replace q12 := KX.cell q12 (fun q => q)
    replace q13 := KX.cell q13 (fun q => q)
    replace q14 := KX.cell q14 (fun q => q)
    replace q15 := KX.cell q15 (fun q => q)
    have HKX := hide (KW.out.trans KX)
    clear KX y0 y1 y2 z1 HS HPK
    have hk := HK.out
    clear HK
    subst hk
    go_wp2_with ((go_at_call 13; refine (HB.out _ HKX.out).mono ?_; rintro e W ⟨rfl, hP⟩))
    go_ret
    exact ⟨rfl, hP⟩
end

end Go.Proofs.YtcfoobhihhndjaaGreat
