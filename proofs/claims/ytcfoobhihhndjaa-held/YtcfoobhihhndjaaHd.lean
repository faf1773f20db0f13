/- Held. -/
import Derived.Test.YtcfoobhihhndjaaHf
namespace Go.Proofs.Ytcfoobhihhndjaa
open Go.RowKit Go.Sort

set_option maxRecDepth 100000 in
set_option maxHeartbeats 16000000 in
theorem held_any (w : World) (v : Value) (rs : List Int) (hr : IntsAt w v rs) (hi : ∀ x ∈ rs, i64R x) (a : Option Addr) (c : Nat) (ss : List Stp) (S : StepsAt w a ss) :
    Calls Try.prog 6 #[v, .slice a ss.length c] w fun e w' => e = .returned (.bool true) ∧ Kep non w w' := by
  have HO := hide (opened_any w v rs hr hi)
  have HS := hide S
  obtain ⟨os1, os2⟩ := open_sums rs
  have HT := hide (show ∀ W x, Desk w (openR rs) x 4000000 (4000 * (openR rs).length) (4000 * (openR rs).length) (openM (openR rs)) W → DeskB w (openR rs) x (openM (openR rs)) W from fun W x D => by
    unfold DeskB
    rw [os1, os2 0 (by decide), os2 1 (by decide)]
    exact D)
  have HZ := hide (stood_open rs)
  have hR := (openR_ok rs)
  obtain ⟨hR1, hR2, _⟩ := hR
  clear hr hi S os1 os2
  generalize openR rs = ro at *
  generalize openM ro = m0 at *
  go_enter Try.func6, Try.ntmps6
  go_wp2_with fail
  refine HO.out.mono ?_
  rintro e w1 ⟨rfl, x, D1⟩
  have HD1 := hide (HT.out w1 x D1)
  clear D1 HO HT
  go_wp2
  go_loopw [6] (fun i wr => ∃ k : Nat, k ≤ ss.length ∧ k ≤ 150 ∧ i = .int .i64 k ∧ ∃ m, DeskB w ro x m wr ∧ Stood ro k m) (fun i _ => 150 - (intOf i).toNat)
  case atStart => exact ⟨0, by omega, by omega, rfl, m0, HD1.out, HZ.out⟩
  case round =>
    clear HD1 HZ
    obtain ⟨k, hk, hk2, rfl, m, D, S⟩ := hrel
    by_cases hlt : k < ss.length ∧ k < 150
    · obtain ⟨hlt1, hlt2⟩ := hlt
      obtain ⟨sok, b, off, ha, hc⟩ := HS.out k ss[k] (by simp [hlt1])
      have nuk := S.nu
      have HDo := hide (does_any D S.inv (by omega) ⟨hR1, hR2⟩ S.T S.G ss[k] sok)
      have hK := D.kp
      have x0 := hK.cell (hc 0 _ rfl) (fun f => f)
      have x1 := hK.cell (hc 1 _ rfl) (fun f => f)
      have x2 := hK.cell (hc 2 _ rfl) (fun f => f)
      have x3 := hK.cell (hc 3 _ rfl) (fun f => f)
      have x4 := hK.cell (hc 4 _ rfl) (fun f => f)
      have x5 := hK.cell (hc 5 _ rfl) (fun f => f)
      simp only [Nat.add_zero] at x0
      have HSt := hide S
      subst ha
      unfold Stp.agg at HDo
      clear D S hc hK sok
      generalize ss[k] = s at *
      have hlt1' : (k : Int) < (ss.length : Int) := by omega
      have hlt2' : (k : Int) < 150 := by omega
      go_wp2_with fail
      refine HDo.out.mono ?_
      rintro e w2 ⟨rfl, m2, mv, I2, n2, D2⟩
      have S2 := HSt.out.step mv I2 n2
      have HS2 := hide S2
      have HD2 := hide D2
      have hT := S2.T
      have hG := S2.G
      have hH := S2.H
      clear D2 S2 mv I2 n2 HDo HSt x0 x1 x2 x3 x4 x5
      go_wp2
      clear hlt1' hlt2'
      go_loopw [7] (fun i wr => ∃ t : Nat, t ≤ 4 ∧ i = .int .i64 t ∧ DeskB w ro x m2 wr) (fun i _ => 4 - (intOf i).toNat)
      case atStart => exact ⟨0, by omega, rfl, HD2.out⟩
      case round =>
        clear HD2
        obtain ⟨t, ht, rfl, D⟩ := hrel
        by_cases ht4 : t < 4
        · have ht4' : (t : Int) < 4 := by omega
          have okt : okI m2.T t := ⟨by omega, by omega⟩
          have htT : t < m2.T := by omega
          have HOr := hide (Desk.orders (Desk.later D ((Kep.refl non wr).alloc (.cells #[.int .i64 0, .int .i64 0, .int .i64 0, .int .i64 0, .int .i64 0, .int .i64 0] 59))) HS2.out.inv t)
          have HPt := hide (fun V (k : Kep non wr V) => Desk.ptr (Desk.later D k))
          have HAc := hide (fun V (k : Kep non wr V) => Desk.account (Desk.later D k) HS2.out.inv htT)
          have HDl := hide (fun V (k : Kep non wr V) => show DeskB w ro x m2 V from Desk.later D k)
          have cp := HPt.out wr (Kep.refl _ _)
          have lw : w.heap.size < wr.heap.size := World.block_lt_of_cell? wr _ cp
          have lKp := hide (Desk.kp D)
          clear D
          go_wp2_with fail
          refine HOr.out.mono ?_
          rintro e w3 ⟨⟨k3, hO⟩, D3⟩
          rcases hO with ⟨f, _⟩ | ⟨_, v', l, hperm, hsort, hrow, rfl⟩
          · exact absurd okt f
          · obtain ⟨va, vc, rfl⟩ := row_form hrow
            have T := HS2.out.jn.told hperm hsort
            have hb3 := (k3.block wr.heap.size (by simp) (fun f => f)).trans (heap_alloc_new wr (.cells #[.int .i64 0, .int .i64 0, .int .i64 0, .int .i64 0, .int .i64 0, .int .i64 0] 59))
            have P0 := hide (PcSt.start _ hb3)
            have K3 := hide (((Kep.refl non wr).alloc _).trans k3)
            have HRow := hide (fun i hi => row_at hrow i hi)
            have hzA : (wr.alloc (.cells #[.int .i64 0, .int .i64 0, .int .i64 0, .int .i64 0, .int .i64 0, .int .i64 0] 59)).heap.size = wr.heap.size + 1 := by simp
            rw [hzA] at HRow
            have hl60 := told_len T HS2.out.inv
            have HSeen := hide (fun o (ho : o ∈ l) => T.seen HS2.out hR2 ho)
            have HT := hide T
            have lw3 := K3.out.size
            have hPB : wr.heap.size ≤ wr.heap.size := Nat.le_refl _
            have lt3 : wr.heap.size < w3.heap.size := (Array.getElem?_eq_some_iff.1 hb3).1
            clear HOr D3 hperm hsort hrow T hb3 k3 cp okt hzA
            generalize hwr : wr = wr0 at *
            clear hwr
            generalize hPBe : wr0.heap.size = PB at *
            have hPB : wr0.heap.size ≤ PB := by omega
            go_wp2
            refine held_l3 HT.out hl60 HSeen.out P0.out HRow.out _ _ _ _ _ _ _ _ _ _ _ _ _ _ _ _ _ _ _ _ _ _ _ _ _ _ _ _ _ _ _ _ _ _ _ _ _ _ _ _ _ _ _ _ _ _ _ _ _ _ _ _ _ _ _ _ _ _ _ _ _ _ _ _ _ _ _ _ _ _ _ _ _ _ _ _ _ _ _ _ _ _ _ _ _ _ _ _ _ _ _ _ _ _ _ _ _ _ _ _ _ _ _ _ _ _ _ _ _ _ _ _ _ _ _ _ _ _ _ _ _ _ _ _ _ _ _ _ _ _ _ _ _ _ _ _ _ _ _ _ _ _ _ _ _ _ _ _ _ _ _ _ _ _ _ _ _ _ _ _ _ _ _ _ _ _ _ _ _ _ _ _ _ _ _ _ _ _ _ _ _ _ _ _ _ _ _ _ _ _ _ _ _ _ _ _ _ _ _ _ _ _ _ _ _ _ _ _ _ _ _ _ _ _ _ _ _ _ _ _ _ _ _ ?_
            intro n4 n13 n52 n53 n54 n55 n56 n57 n58 n59 n60 n61 n62 n63 n64 n65 n66 n67 n68 n69 n70 n71 n72 n73 n74 n75 n76 n77 n78 n79 n80 n81 n82 n83 n84 n85 n86 n87 n88 n89 n90 n91 n92 n93 n94 n95 n96 n97 n98 n99 n100 n101 n102 n103 n104 n105 n106 n107 n108 n109 n110 n111 n112 n113 n114 n115 n116 n117 n118 n119 n120 n121 n122 n123 n124 n125 n126 n127 n128 n129 n130 n131 n132 n133 n134 n135 n136 n137 n138 n139 n140 n141 W4 S4
            have K4 := S4.non K3.out hPB
            have cp := HPt.out W4 K4
            have hA := hide (HAc.out W4 K4)
            have HS4 := hide S4
            have HK4 := hide K4
            clear S4 K4 P0 HRow HSeen
            go_wp2_with fail
            refine hA.out.mono ?_
            rintro e w5 ⟨k5, v5, rfl, hrow5⟩
            obtain ⟨va5, vc5, rfl⟩ := row_form hrow5
            rw [HT.out.money]
            have k6 : Kep non w5 (w5.alloc (.cells #[.int .i64 (m2.mo t), .int .i64 (wantM l), .slice va5 (stkTo m2 t m2.H).length vc5] 62)) := (Kep.refl _ _).alloc _
            have hb6 := heap_alloc_new w5 (.cells #[.int .i64 (m2.mo t), .int .i64 (wantM l), .slice va5 (stkTo m2 t m2.H).length vc5] 62)
            have a1 := cell_of_row _ _ 1 _ _ _ hb6
            have a2 := cell_of_row _ _ 2 _ _ _ hb6
            have lPB : PB < W4.heap.size := (HS4.out.pc 0 0 (by decide) (by decide)).lt
            have l5 := k5.size
            have HS6 := hide ((HS4.out.later (k5.trans k6)).fresh)
            have HK6 := hide (HK4.out.trans (k5.trans k6))
            have HRow5 := hide (fun i hi => show ∃ b, va5 = some ⟨b, 0, none⟩ ∧ PB < b ∧ ∀ i (hi : i < (stkTo m2 t m2.H).length) j u, (stkTo m2 t m2.H)[i].cells[j]? = some u → (w5.alloc (.cells #[.int .i64 (m2.mo t), .int .i64 (wantM l), .slice va5 (stkTo m2 t m2.H).length vc5] 62)).cell? ⟨b, i * 5 + j, none⟩ = some u from by
              obtain ⟨b, h1, h2, h3⟩ := srow_at hrow5 i hi
              exact ⟨b, h1, by omega, fun i hi j u hu => k6.cell (h3 i hi j u hu) (fun f => f)⟩)
            have HEn := hide (show ∀ s ∈ stkTo m2 t m2.H, ∃ h g : Nat, s.h = h ∧ s.g = g ∧ h < 3 ∧ g < 2 ∧ s.k = wantP h g l from fun s hs => by
              obtain ⟨h, g, h1, h2, h3⟩ := mem_stkTo hs
              obtain ⟨q1, q2, _⟩ := stk_key h3
              exact ⟨h, g, q1, q2, by omega, by omega, entry_kept HS2.out.inv HT.out hs q1 q2⟩)
            have HPw := hide (stkTo_pair m2 t m2.H)
            have HWl := hide (fun h g (hg : g < 2) => want_left HS2.out.inv hG HT.out (h := h) (g := g) hg)
            have hl16 : (stkTo m2 t m2.H).length ≤ 16 := by have := stkTo_len m2 t m2.H (by omega); omega
            have HA2 := hide a2
            have lAB : PB < w5.heap.size := by omega
            have HNe := hide (show ¬ w5.heap.size = PB by omega)
            clear hrow5 hb6 k5 k6 hA cp HS4 HK4
            generalize m2.mo t = mt at *
            generalize stkTo m2 t m2.H = gs at *
            go_wp2
            generalize hAB : w5.heap.size = AB at *
            generalize w5.alloc (.cells #[.int .i64 mt, .int .i64 (wantM l), .slice va5 gs.length vc5] 62) = W6 at *
            refine held_l4 (f := fun h g => wantP h g l) hl16 HNe.out HA2.out HEn.out HPw.out (HS6.out.ext fun a b _ hb => HWl.out a b hb) HRow5.out _ _ _ _ _ _ _ _ _ _ _ _ _ _ _ _ _ _ _ _ _ _ _ _ _ _ _ _ _ _ _ _ _ _ _ _ _ _ _ _ _ _ _ _ _ _ _ _ _ _ _ _ _ _ _ _ _ _ _ _ _ _ _ _ _ _ _ _ _ _ _ _ _ _ _ _ _ _ _ _ _ _ _ _ _ _ _ _ _ _ _ _ _ _ _ _ _ _ _ _ _ _ _ _ _ _ _ _ _ _ _ _ _ _ _ _ _ _ _ _ _ _ _ _ _ _ _ _ _ _ _ _ _ _ _ _ _ _ _ _ _ _ _ _ _ _ _ _ _ _ _ _ _ _ _ _ _ _ _ _ _ _ _ _ _ _ _ _ _ _ _ _ _ _ _ _ _ _ _ _ _ _ _ _ _ _ _ _ _ _ _ _ _ _ _ _ _ _ _ _ _ _ _ _ _ _ _ _ _ _ _ _ _ _ _ _ _ _ _ _ _ _ _ _ _ ?_
            intro k4 k17 k163 k164 k165 k166 k167 k168 k169 k170 k171 k172 k173 k174 k175 k176 k177 k178 k179 k180 k181 k182 k183 k184 k185 k186 k187 k188 k189 k190 k191 k192 k193 k194 k195 k196 k197 k198 k199 k200 k201 k202 k203 k204 k205 k206 k207 k208 k209 k210 W7 S7
            have HK7 := hide (S7.non HK6.out hPB)
            have HPc := hide S7.pc
            clear S7 HS6 HRow5 HEn HPw HWl HA2 a1 a2 HNe
            go_wp2
            go_loopw [18] (fun i wr => ∃ h : Nat, h ≤ 3 ∧ i = .int .i64 h ∧ wr = W7) (fun i _ => 3 - (intOf i).toNat)
            case atStart => exact ⟨0, by omega, rfl, rfl⟩
            case round =>
              obtain ⟨h, hh, rfl, rfl⟩ := hrel
              by_cases hh3 : h < 3
              · have t0 := (HPc.out h 0 hh3 (by decide)).cell
                have t1 := (HPc.out h 1 hh3 (by decide)).cell
                simp only [Nat.add_zero] at t0
                have hh' : (h : Int) < 3 := by omega
                go_wp2
                exact ⟨⟨h + 1, by omega, by go_num, trivial⟩, by simp [intOf]; omega⟩
              · have hh' : ¬ (h : Int) < 3 := by omega
                have HDn := hide (HDl.out _ HK7.out)
                clear HPc HK7
                go_wp2
                exact ⟨⟨t + 1, by omega, by go_num, HDn.out⟩, by simp [intOf]; omega⟩
        · have ht4' : ¬ (t : Int) < 4 := by omega
          have HDn := hide D
          clear D
          go_wp2
          exact ⟨⟨k + 1, by omega, by omega, by go_num, m2, HDn.out, HS2.out⟩, by simp [intOf]; omega⟩
    · have HDn := hide (Desk.kp D)
      clear D S
      have hor : ¬ (k : Int) < (ss.length : Int) ∨ ((k : Int) < (ss.length : Int) ∧ ¬ (k : Int) < 150) := by omega
      clear hlt
      rcases hor with h1 | ⟨h1, h2⟩
      all_goals
        go_wp2
        go_ret
        exact ⟨rfl, HDn.out⟩

end Go.Proofs.Ytcfoobhihhndjaa
