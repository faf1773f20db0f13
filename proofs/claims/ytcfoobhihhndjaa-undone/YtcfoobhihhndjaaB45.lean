/- Whole. -/
import Derived.Test.YtcfoobhihhndjaaB43
import Derived.Test.YtcfoobhihhndjaaB44
namespace Go.Proofs.Ytcfoobhihhndjaa

section
open Go.RowKit Go.Sort

def Stp.cells (s : Stp) : List Value := [.int .i64 s.k, .int .i64 s.t, .int .i64 s.h, .int .i64 s.g, .int .i64 s.p, .int .i64 s.q]

/-- steps, as they lie -/
def StepsAt (w : World) (a : Option Addr) (ss : List Stp) : Prop := ∀ i s, ss[i]? = some s → s.ok ∧ ∃ b off, a = some ⟨b, off, none⟩ ∧ ∀ j u, s.cells[j]? = some u → w.cell? ⟨b, off + i * 6 + j, none⟩ = some u

theorem DeskB.sums {w : World} {rs : List Int} {x : Nat} {m : Mt} {W : World} {N : Int} (D : DeskB w rs x m W) (I : m.Inv N) (hT : m.T = 4) (hG : m.G = 2) :
    Calls Try.prog 21 #[.pointer (some ⟨w.heap.size, 0, none⟩)] W (SumPost W m.money (m.stock 0) (m.stock 1)) := by
  obtain ⟨L, rv, pb, rfl, D⟩ := D
  have h := sums_any W w.heap.size L m N D.R I.ok D.c0 hT hG
  rw [← hT, sumM_money, totTo_stock, totTo_stock] at h
  exact h

set_option maxRecDepth 100000 in
set_option maxHeartbeats 8000000 in
theorem whole_any (w : World) (v : Value) (rs : List Int) (hr : IntsAt w v rs) (hi : ∀ x ∈ rs, i64R x) (a : Option Addr) (c : Nat) (ss : List Stp) (S : StepsAt w a ss) :
    Calls Try.prog 5 #[v, .slice a ss.length c] w fun e w' => e = .returned (.bool true) ∧ Kep non w w' := by
  have HO := hide (opened_any w v rs hr hi)
  have HS := hide S
  obtain ⟨os1, os2⟩ := open_sums rs
  have HT := hide (show ∀ W x, Desk w (openR rs) x 4000000 (4000 * (openR rs).length) (4000 * (openR rs).length) (openM (openR rs)) W → DeskB w (openR rs) x (openM (openR rs)) W from fun W x D => by
    unfold DeskB
    rw [os1, os2 0 (by decide), os2 1 (by decide)]
    exact D)
  have HZ := hide (stood_open rs)
  have hR := (openR_ok rs)
  obtain ⟨hR1, hR2, _⟩ := hR
  clear hr hi S os1 os2
  generalize openR rs = ro at *
  generalize openM ro = m0 at *
  go_enter Try.func5, Try.ntmps5
  go_wp2_with fail
  refine HO.out.mono ?_
  rintro e w1 ⟨rfl, x, D1⟩
  have HD1 := hide (HT.out w1 x D1)
  clear D1 HO HT
  go_wp2
  go_loopw [6] (fun i wr => ∃ k : Nat, k ≤ ss.length ∧ k ≤ 150 ∧ i = .int .i64 k ∧ ∃ m, DeskB w ro x m wr ∧ Stood ro k m) (fun i _ => 150 - (intOf i).toNat)
  case atStart => exact ⟨0, by omega, by omega, rfl, m0, HD1.out, HZ.out⟩
  case round =>
    clear HD1 HZ
    obtain ⟨k, hk, hk2, rfl, m, D, S⟩ := hrel
    by_cases hlt : k < ss.length ∧ k < 150
    · obtain ⟨hlt1, hlt2⟩ := hlt
      obtain ⟨sok, b, off, ha, hc⟩ := HS.out k ss[k] (by simp [hlt1])
      have nuk := S.nu
      have HDo := hide (does_any D S.inv (by omega) ⟨hR1, hR2⟩ S.T S.G ss[k] sok)
      have hK := D.kp
      have x0 := hK.cell (hc 0 _ rfl) (fun f => f)
      have x1 := hK.cell (hc 1 _ rfl) (fun f => f)
      have x2 := hK.cell (hc 2 _ rfl) (fun f => f)
      have x3 := hK.cell (hc 3 _ rfl) (fun f => f)
      have x4 := hK.cell (hc 4 _ rfl) (fun f => f)
      have x5 := hK.cell (hc 5 _ rfl) (fun f => f)
      simp only [Nat.add_zero] at x0
      have HSt := hide S
      subst ha
      unfold Stp.agg at HDo
      clear D S hc hK sok
      generalize ss[k] = s at *
      have hlt1' : (k : Int) < (ss.length : Int) := by omega
      have hlt2' : (k : Int) < 150 := by omega
      go_wp2_with fail
      refine HDo.out.mono ?_
      rintro e w2 ⟨rfl, m2, mv, I2, n2, D2⟩
      have S2 := HSt.out.step mv I2 n2
      have HSu := hide (DeskB.sums D2 S2.inv S2.T S2.G)
      have HS2 := hide S2
      have HD2 := hide D2
      clear D2 S2 mv I2 n2 HDo HSt x0 x1 x2 x3 x4 x5
      go_wp2_with fail
      refine HSu.out.mono ?_
      rintro e w3 ⟨k3, pb, rfl, y0, y1⟩
      have D3 : DeskB w ro x m2 w3 := Desk.later HD2.out k3
      have HD3 := hide D3
      obtain ⟨L, rv, pd, ex, D3⟩ := D3
      have z4 := D3.c4.cell
      have z5 := D3.c5.cell
      have zq0 := D3.q0.cell
      have zq1 := D3.q1.cell
      clear D3 HSu HD2 k3
      generalize m2.money = mm at *
      generalize m2.stock 0 = s0 at *
      generalize m2.stock 1 = s1 at *
      go_wp2_with fail
      go_quiet (fail)
      go_wp2
      exact ⟨⟨k + 1, by omega, by omega, by go_num, m2, Desk.later HD3.out ((Kep.refl _ _).drewN _), HS2.out⟩, by simp [intOf]; omega⟩
    · have HSu := hide (DeskB.sums D S.inv S.T S.G)
      have HD := hide D
      clear D S
      have hor : ¬ (k : Int) < (ss.length : Int) ∨ ((k : Int) < (ss.length : Int) ∧ ¬ (k : Int) < 150) := by omega
      clear hlt
      rcases hor with h1 | ⟨h1, h2⟩
      all_goals
        go_wp2_with fail
        refine HSu.out.mono ?_
        rintro e w3 ⟨k3, pb, rfl, y0, y1⟩
        have D3 : DeskB w ro x m w3 := Desk.later HD.out k3
        have HD3 := hide (Desk.kp D3)
        obtain ⟨L, rv, pd, ex, D3⟩ := D3
        have z4 := D3.c4.cell
        have z5 := D3.c5.cell
        have zq0 := D3.q0.cell
        have zq1 := D3.q1.cell
        clear D3 HSu HD k3
        generalize m.money = mm at *
        generalize m.stock 0 = s0 at *
        generalize m.stock 1 = s1 at *
        go_wp2_with fail
        go_quiet (fail)
        go_wp2
        go_ret
        exact ⟨rfl, HD3.out.trans ((Kep.refl _ _).drewN _)⟩
end

end Go.Proofs.Ytcfoobhihhndjaa
