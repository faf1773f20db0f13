/- The program's market: money. -/
import Derived.Test.YtcbfmolebomkdaaP
namespace Go.Proofs.Ytcbfmolebomkdaa
open Go.RowKit Go.Sort

/-- the cells of one account -/
theorem acct_cells {w : World} {L : PL} {m : Mk} (R : PRep w L m) (t : Nat) (ht : t < m.T) (h g : Nat) (hh : h < 4) (hg : g < 4) (k : Nat) (hk : k = 1 + h * 4 + g) : w.cell? ⟨L.ab, t * 17 + k, none⟩ = some (.int .i64 (m.pc t h g)) := by
  subst hk
  have := (R.pc t h g ht hh hg).cell
  rw [show t * 17 + (1 + h * 4 + g) = t * 17 + 1 + h * 4 + g from by omega]
  exact this

set_option maxRecDepth 100000 in
set_option maxHeartbeats 1000000 in
theorem allMoney_any (w : World) (L : PL) (m : Mk) (N : Int) (R : PRep w L m) (ok : m.Ok N) :
    Calls Try.prog 68 #[.pointer (some ⟨L.x, 0, none⟩)] w fun e w' => e = .returned (.int .i64 (sumMo m.mo m.T)) ∧ Keeps [] w w' := by
  have c2 := R.cA.cell
  have bT := ok.T8
  go_enter Try.func68, Try.ntmps68
  go_wp2
  go_loopw [3, 11] (fun a i wr => ∃ j : Nat, j ≤ m.T ∧ i = .int .i64 j ∧ a = .int .i64 (sumMo m.mo j) ∧ Keeps [] w wr) (fun _ i _ => m.T - (intOf i).toNat)
  case atStart => exact ⟨0, Nat.zero_le _, rfl, by simp [sumMo], Keeps.refl _ _⟩
  case round =>
    obtain ⟨j, hj, rfl, rfl, hkp⟩ := hrel
    have bs := sumMo_bd m.mo 1000000000000 j (fun t ht => ok.mo t (by omega))
    by_cases hlt : j < m.T
    · have Rr := R.keep hkp (by simp)
      have cm := (Rr.mo j hlt).cell
      have bj := ok.mo j hlt
      have a1 := acct_cells Rr j hlt 0 0 (by decide) (by decide) 1 rfl
      have a2 := acct_cells Rr j hlt 0 1 (by decide) (by decide) 2 rfl
      have a3 := acct_cells Rr j hlt 0 2 (by decide) (by decide) 3 rfl
      have a4 := acct_cells Rr j hlt 0 3 (by decide) (by decide) 4 rfl
      have a5 := acct_cells Rr j hlt 1 0 (by decide) (by decide) 5 rfl
      have a6 := acct_cells Rr j hlt 1 1 (by decide) (by decide) 6 rfl
      have a7 := acct_cells Rr j hlt 1 2 (by decide) (by decide) 7 rfl
      have a8 := acct_cells Rr j hlt 1 3 (by decide) (by decide) 8 rfl
      have a9 := acct_cells Rr j hlt 2 0 (by decide) (by decide) 9 rfl
      have a10 := acct_cells Rr j hlt 2 1 (by decide) (by decide) 10 rfl
      have a11 := acct_cells Rr j hlt 2 2 (by decide) (by decide) 11 rfl
      have a12 := acct_cells Rr j hlt 2 3 (by decide) (by decide) 12 rfl
      have a13 := acct_cells Rr j hlt 3 0 (by decide) (by decide) 13 rfl
      have a14 := acct_cells Rr j hlt 3 1 (by decide) (by decide) 14 rfl
      have a15 := acct_cells Rr j hlt 3 2 (by decide) (by decide) 15 rfl
      have a16 := acct_cells Rr j hlt 3 3 (by decide) (by decide) 16 rfl
      have HS := hide (show sumMo m.mo (j + 1) = sumMo m.mo j + m.mo j from rfl)
      clear R Rr ok
      go_wp2
      refine ⟨⟨j + 1, by omega, by go_num, ?_, hkp.alloc _⟩, by simp [intOf]; omega⟩
      rw [HS.out]
    · have e1 : j = m.T := by omega
      subst e1
      go_wp2
      go_ret
      exact ⟨rfl, hkp⟩

end Go.Proofs.Ytcbfmolebomkdaa
