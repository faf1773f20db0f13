/- Apart. -/
import Derived.Test.YtcfoobhihhndjaaAn
namespace Go.Proofs.Ytcfoobhihhndjaa

section
open Go.RowKit Go.Sort

theorem Desk.rates {w : World} {rs : List Int} {x : Nat} {mon p0 p1 : Int} {m : Mt} {W : World} (D : Desk w rs x mon p0 p1 m W) : ∃ rb cap, W.cell? ⟨w.heap.size, 3, none⟩ = some (.slice (some ⟨rb, 0, none⟩) rs.length cap) := by
  obtain ⟨L, rv, pb, _, D⟩ := D
  obtain ⟨rb, cap, er, _⟩ := D.rr
  exact ⟨rb, cap, by rw [← er]; exact D.c3.cell⟩

set_option maxRecDepth 1000000 in
set_option maxHeartbeats 16000000 in
theorem apart_any (w : World) (v : Value) (rs : List Int) (hr : IntsAt w v rs) (hi : ∀ x ∈ rs, i64R x) (a : Option Addr) (c : Nat) (ss : List Stp) (S : StepsAt w a ss) :
    Calls Try.prog 7 #[v, .slice a ss.length c] w fun e w' => e = .returned (.bool true) ∧ Kep non w w' := by
  have HO := hide (opened_any w v rs hr hi)
  have HS := hide S
  obtain ⟨os1, os2⟩ := open_sums rs
  have HT := hide (show ∀ W x, Desk w (openR rs) x 4000000 (4000 * (openR rs).length) (4000 * (openR rs).length) (openM (openR rs)) W → DeskB w (openR rs) x (openM (openR rs)) W from fun W x D => by
    unfold DeskB
    rw [os1, os2 0 (by decide), os2 1 (by decide)]
    exact D)
  have HZ := hide (stood_open rs)
  have hR := (openR_ok rs)
  obtain ⟨hR1, hR2, _⟩ := hR
  clear hr hi S os1 os2
  generalize openR rs = ro at *
  generalize openM ro = m0 at *
  go_enter Try.func7, Try.ntmps7
  go_wp2_with fail
  refine HO.out.mono ?_
  rintro e w1 ⟨rfl, x, D1⟩
  have HD1 := hide (HT.out w1 x D1)
  clear D1 HO HT
  go_wp2
  go_loopw [6] (fun i wr => ∃ k : Nat, k ≤ ss.length ∧ k ≤ 150 ∧ i = .int .i64 k ∧ ∃ m, DeskB w ro x m wr ∧ Stood ro k m) (fun i _ => 150 - (intOf i).toNat)
  case atStart => exact ⟨0, by omega, by omega, rfl, m0, HD1.out, HZ.out⟩
  case round =>
    clear HD1 HZ
    obtain ⟨k, hk, hk2, rfl, m, D, S⟩ := hrel
    by_cases hlt : k < ss.length ∧ k < 150
    · obtain ⟨hlt1, hlt2⟩ := hlt
      obtain ⟨sok, b, off, ha, hc⟩ := HS.out k ss[k] (by simp [hlt1])
      have nuk := S.nu
      have HDo := hide (does_any D S.inv (by omega) ⟨hR1, hR2⟩ S.T S.G ss[k] sok)
      have hK := D.kp
      have x0 := hK.cell (hc 0 _ rfl) (fun f => f)
      have x1 := hK.cell (hc 1 _ rfl) (fun f => f)
      have x2 := hK.cell (hc 2 _ rfl) (fun f => f)
      have x3 := hK.cell (hc 3 _ rfl) (fun f => f)
      have x4 := hK.cell (hc 4 _ rfl) (fun f => f)
      have x5 := hK.cell (hc 5 _ rfl) (fun f => f)
      simp only [Nat.add_zero] at x0
      have HSt := hide S
      subst ha
      unfold Stp.agg at HDo
      clear D S hc hK sok
      generalize ss[k] = s at *
      have hlt1' : (k : Int) < (ss.length : Int) := by omega
      have hlt2' : (k : Int) < 150 := by omega
      go_wp2_with fail
      refine HDo.out.mono ?_
      rintro e w2 ⟨rfl, m2, mv, I2, n2, D2⟩
      have HS2 := hide (HSt.out.step mv I2 n2)
      have HD2 := hide D2
      clear D2 mv I2 n2 HDo HSt x0 x1 x2 x3 x4 x5
      go_wp2
      clear hlt1' hlt2'
      go_loopw [7] (fun i wr => ∃ h : Nat, h ≤ ro.length ∧ i = .int .i64 h ∧ DeskB w ro x m2 wr) (fun i _ => ro.length - (intOf i).toNat)
      case atStart => exact ⟨0, by omega, rfl, HD2.out⟩
      case round =>
        clear HD2
        obtain ⟨h, hh, rfl, D⟩ := hrel
        obtain ⟨rb, cap, c3⟩ := Desk.rates D
        by_cases hh2 : h < ro.length
        · have hh2' : (h : Int) < (ro.length : Int) := by omega
          have HD := hide D
          clear D
          go_wp2
          refine apart_l3 HD.out HS2.out hh2 _ _ _ _ _ _ _ _ _ _ _ _ _ _ _ _ _ _ _ _ _ _ _ _ _ _ _ _ _ _ _ _ _ _ _ _ _ _ _ _ _ _ _ _ _ _ _ _ _ _ _ _ _ _ _ _ _ _ _ _ _ _ _ _ _ _ _ _ _ _ _ _ _ _ _ _ _ _ _ _ _ _ _ _ _ _ _ _ _ _ _ _ _ _ _ _ _ _ _ _ _ _ _ _ _ _ _ _ _ _ _ _ _ _ _ _ _ _ _ _ _ _ _ _ _ _ _ _ _ _ _ _ _ _ _ ?_
          intro n4 n9 n10 n11 n12 n13 n14 n15 n45 n46 n47 n48 n49 n50 n51 n52 n53 n54 n55 n56 n57 n58 n59 n60 n61 n62 n63 n64 n65 n66 n67 n68 n69 n70 n71 n72 n73 n74 n75 n76 n77 n78 n79 n80 n81 n82 n83 n84 n85 n86 n87 n88 n89 n90 n91 n92 n93 n94 n95 n96 n97 n98 n99 n100 n101 n102 n103 n104 n105 n106 n107 n108 n109 n110 n111 n112 n113 n114 n115 n116 n117 n118 n119 n120 n121 n122 n123 n124 n125 n126 n127 n128 n129 n130 n131 n132 n133 n134 n135 n136 W' D'
          have HDn := hide D'
          clear D' HD c3
          go_wp2
          exact ⟨⟨h + 1, by omega, by go_num, HDn.out⟩, by simp [intOf]; omega⟩
        · have hh2' : ¬ (h : Int) < (ro.length : Int) := by omega
          have HDn := hide D
          clear D
          go_wp2
          exact ⟨⟨k + 1, by omega, by omega, by go_num, m2, HDn.out, HS2.out⟩, by simp [intOf]; omega⟩
    · have HDn := hide (Desk.kp D)
      clear D S
      have hor : ¬ (k : Int) < (ss.length : Int) ∨ ((k : Int) < (ss.length : Int) ∧ ¬ (k : Int) < 150) := by omega
      clear hlt
      rcases hor with h1 | ⟨h1, h2⟩
      all_goals
        go_wp2
        go_ret
        exact ⟨rfl, HDn.out⟩

end

end Go.Proofs.Ytcfoobhihhndjaa
