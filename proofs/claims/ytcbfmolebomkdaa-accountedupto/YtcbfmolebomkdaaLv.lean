/- The law: a step with no market, and New. -/
import Derived.Test.YtcbfmolebomkdaaLs
namespace Go.Proofs.Ytcbfmolebomkdaa
open Go.RowKit

set_option maxRecDepth 100000 in
set_option maxHeartbeats 2000000 in
theorem step_none (w : World) (B0 p : Nat) (N : Int) (s : St) (o : OpV) (ra : Option Addr) (rn rc : Nat) (hrv : o.rv = .slice ra rn rc) (h : Inv B0 p N s w) (bN : N ≤ 900000000000) (hn : s.n = 0) (hk : o.kd ≠ 1) :
    Calls Try.prog 6 #[.pointer (some ⟨p, 0, none⟩), .agg o.cells] w fun e w' => e = .returned (.bool true) ∧ StepPost 0 0 w B0 p N s w' := by
  obtain ⟨pa, pc, hpv⟩ : ∃ a c, s.psv = .slice a 0 c := by
    have r := h.rps
    rw [hn] at r
    rcases r.2 with ⟨h1, h2⟩ | ⟨_, _, _, h1, _⟩
    · exact ⟨none, 0, h1⟩
    · exact ⟨_, _, h1⟩
  have HK : Hid (∀ W, Keeps [] w W → StepPost 0 0 w B0 p N s W) := hide fun W k => StepPost.same h bN k
  obtain ⟨kd, M, A, B, C, D, E, rv, o0, o1, o2, o3, o4, o5, o6, o7⟩ := o
  simp only [] at hk hrv
  subst hrv
  simp only [OpV.cells]
  have c0 := h.c0.cell
  rw [hpv] at c0
  have hc0 : ∀ o, (w.alloc o).cell? ⟨p, 0, none⟩ = some (.slice pa 0 pc) := fun o => cell_al c0
  have lp : p < w.heap.size := h.c0.lt
  have hk1 : (kd == 1) = false := beq_eq_false_iff_ne.2 hk
  clear h hpv hn hk c0
  go_enter Try.func6, Try.ntmps6
  go_wp2_with fail
  go_ret
  exact ⟨rfl, HK.out _ ((Keeps.refl _ _).alloc _)⟩

set_option maxRecDepth 100000 in
set_option maxHeartbeats 2000000 in
theorem step_new (w : World) (p : Nat) (Q : World → Prop) (o : OpV) (ra : Option Addr) (rn rc : Nat) (hrv : o.rv = .slice ra rn rc) (hk : o.kd = 1)
    (HB : Hid (∀ W, Keeps [] w W → Calls Try.prog 9 #[.pointer (some ⟨p, 0, none⟩), .agg o.cells] W fun e w' => e = .returned (.bool true) ∧ Q w')) :
    Calls Try.prog 6 #[.pointer (some ⟨p, 0, none⟩), .agg o.cells] w fun e w' => e = .returned (.bool true) ∧ Q w' := by
  obtain ⟨kd, M, A, B, C, D, E, rv, o0, o1, o2, o3, o4, o5, o6, o7⟩ := o
  simp only [] at hk hrv HB
  subst hrv
  subst hk
  simp only [OpV.cells] at HB ⊢
  go_enter Try.func6, Try.ntmps6
  go_wp2_with ((go_at_call 9; refine (HB.out _ ((Keeps.refl _ _).alloc _)).mono ?_; rintro e W ⟨rfl, hP⟩))
  go_ret
  exact ⟨rfl, hP⟩

end Go.Proofs.Ytcbfmolebomkdaa
