/- The statements' desk: sums. -/
import Derived.Test.YtcfoobhihhndjaaB33
import Derived.Test.YtcfoobhihhndjaaB43
namespace Go.Proofs.Ytcfoobhihhndjaa

section
open Go.RowKit Go.Sort

/-- all money, all pieces of each of two goods, nothing below 0; nothing else turned -/
def SumPost (W : World) (a b c : Int) (e : Ending) (w' : World) : Prop := Kep non W w' ∧ ∃ pb : Nat, e = .returned (.tuple #[.int .i64 a, .slice (some ⟨pb, 0, none⟩) 2 2, .bool false]) ∧ w'.cell? ⟨pb, 0, none⟩ = some (.int .i64 b) ∧ w'.cell? ⟨pb, 1, none⟩ = some (.int .i64 c)

/-- two sums under way -/
structure SumSt (W : World) (a b : Int) (wr : World) : Prop where
  kp : Kep non W wr
  q0 : Own wr ⟨W.heap.size, 0, none⟩ (.int .i64 a)
  q1 : Own wr ⟨W.heap.size, 1, none⟩ (.int .i64 b)

theorem SumSt.start (W : World) : SumSt W 0 0 (W.alloc (.cells #[.int .i64 0, .int .i64 0] 3)) := by
  have h := heap_alloc_new W (.cells #[.int .i64 0, .int .i64 0] 3)
  exact ⟨(Kep.refl _ _).alloc _, ⟨cell_of_row _ _ 0 _ _ _ h, frozen_of_row _ _ 0 _ _ h⟩, ⟨cell_of_row _ _ 1 _ _ _ h, frozen_of_row _ _ 1 _ _ h⟩⟩

theorem SumSt.later {W : World} {a b : Int} {wr wr' : World} (S : SumSt W a b wr) (k : Kep non wr wr') : SumSt W a b wr' := ⟨S.kp.trans k, S.q0.kep k (fun f => f), S.q1.kep k (fun f => f)⟩

theorem SumSt.put {W : World} {a b : Int} {wr : World} (S : SumSt W a b wr) (g : Nat) (hg : g = 0 ∨ g = 1) (x : Int) : SumSt W (if g = 0 then x else a) (if g = 1 then x else b) (wr.setCell ⟨W.heap.size, g, none⟩ (.int .i64 x)) := by
  have ne : ∀ i j : Nat, i ≠ j → (⟨W.heap.size, i, none⟩ : Addr) ≠ ⟨W.heap.size, j, none⟩ := fun i j hj q => by injection q with _ q _; exact hj q
  refine ⟨S.kp.setCell (p := ⟨W.heap.size, g, none⟩) (.inr (Nat.le_refl _)) _, ?_, ?_⟩
  · rcases hg with rfl | rfl
    · exact S.q0.set rfl _
    · exact S.q0.set_other (ne 0 1 (by decide)) rfl rfl _
  · rcases hg with rfl | rfl
    · exact S.q1.set_other (ne 1 0 (by decide)) rfl rfl _
    · exact S.q1.set rfl _

set_option maxRecDepth 100000 in
set_option maxHeartbeats 4000000 in
theorem sums_any (W : World) (d : Nat) (L : PL) (m : Mt) (N : Int) (R : PRep W L m) (ok : m.Ok N) (c0 : Own W ⟨d, 0, none⟩ (.pointer (some ⟨L.x, 0, none⟩))) (hT : m.T = 4) (hG : m.G = 2) :
    Calls Try.prog 21 #[.pointer (some ⟨d, 0, none⟩)] W (SumPost W (m.sumM 4) (totTo m 0 4) (totTo m 1 4)) := by
  have HH := hide (house_any W L m R)
  have HA := hide (fun W' (k : Kep non W W') (t : Nat) (ht : t < m.T) => account_yes W' L m N t (R.later k) ok ht)
  have HC := hide (fun W' (k : Kep non W W') => (c0.kep k (fun f => f)).cell)
  have cd := c0.cell
  have ho0 : ¬ m.ho < 0 := by have := ok.ho; omega
  have HF := hide (fun t (ht : t < m.T) s (hs : s ∈ stkTo m t m.H) => fine_of ok hG ht hs)
  have HS := hide (fun j (hj : j ≤ m.T) => sumM_bd ok j hj)
  have HM := hide (fun j (hj : j < m.T) => And.intro (ok.mo j hj) (held_bd ok j))
  have HT := hide (fun g (hg : g < m.G) j (hj : j ≤ m.T) => totTo_bd ok g hg j hj)
  have HG := hide (fun g (hg : g < m.G) j => goodSum_to m j g hg m.H)
  have HL := hide (fun t => stkTo_len m t m.H ok.G4)
  have h4 := ok.H4
  clear c0 R ok
  obtain ⟨i0, hi0, hz0, hz1, hz2⟩ := info_parts infoInt
  have hmk : ∀ u : World, (Instr.makeSlice 24 (.int .i64 2) (.int .i64 2)).run Try.prog u = .ok (.slice (some ⟨u.heap.size, 0, none⟩) 2 2) (u.alloc (.cells #[.int .i64 0, .int .i64 0] 3)) := fun u => by
    have h := run_make (P := Try.prog) u 24 3 i0 _ Try.underlying24 hi0 hz0 .i64 .i64 2 2 (by decide) (Int.le_refl _) (by rw [hz2]; decide) (by decide)
    rw [hz1] at h
    exact h.trans (by rw [made2]; rfl)
  clear hi0 hz0 hz1 hz2
  go_enter Try.func21, Try.ntmps21
  go_wp2_with fail
  refine HH.out.mono ?_
  rintro e w1 ⟨rfl, hw⟩
  subst hw
  have S0 := hide (SumSt.start w1)
  have hd0 : decide (m.ho < 0) = false := decide_eq_false (by omega)
  go_wp2
  have HP := hide (show m.sumM 0 = m.ho ∧ totTo m 0 0 = 0 ∧ totTo m 1 0 = 0 from ⟨rfl, rfl, rfl⟩)
  clear hmk hd0 ho0 HH cd
  go_loopw [5, 7, 8] (fun n lo i wr => ∃ j : Nat, j ≤ 4 ∧ n = .int .i64 (m.sumM j) ∧ lo = .bool false ∧ i = .int .i64 j ∧ SumSt w1 (totTo m 0 j) (totTo m 1 j) wr) (fun _ _ i _ => 4 - (intOf i).toNat)
  case atStart => exact ⟨0, by omega, by rw [HP.out.1], rfl, rfl, by rw [HP.out.2.1, HP.out.2.2]; exact S0.out⟩
  case round =>
    clear S0 HP
    obtain ⟨j, hj, rfl, rfl, rfl, S⟩ := hrel
    by_cases hlt : j < 4
    · have hjT : j < m.T := by omega
      have hA := hide (HA.out _ S.kp j hjT)
      have cd := HC.out _ S.kp
      have HSt := hide S
      clear S
      have hlt' : (j : Int) < 4 := by omega
      go_wp2_with fail
      refine hA.out.mono ?_
      rintro e w2 ⟨v, rfl, k2, hrow⟩
      obtain ⟨va, vc, hv⟩ : ∃ va vc, v = .slice va (stkTo m j m.H).length vc := by
        rcases hrow.2 with ⟨e1, e2⟩ | ⟨b, cap, cur, e1, _⟩
        · exact ⟨none, 0, by rw [e1, e2]⟩
        · exact ⟨_, _, e1⟩
      subst hv
      have HFj := hide (HF.out j hjT)
      obtain ⟨bm, bh⟩ := HM.out j hjT
      have bs := HS.out j (by omega)
      have bt0 := HT.out 0 (by omega) j (by omega)
      have bt1 := HT.out 1 (by omega) j (by omega)
      have hlen := HL.out j
      have HN := hide (show m.sumM (j + 1) = m.sumM j + (m.mo j + m.held j) ∧ totTo m 0 (j + 1) = totTo m 0 j + goodSum 0 (stkTo m j m.H) ∧ totTo m 1 (j + 1) = totTo m 1 j + goodSum 1 (stkTo m j m.H) from ⟨rfl, by rw [HG.out 0 (by omega) j]; rfl, by rw [HG.out 1 (by omega) j]; rfl⟩)
      have k3 : Kep non w2 (w2.alloc (.cells #[.int .i64 (m.mo j), .int .i64 (m.held j), .slice va (stkTo m j m.H).length vc] 62)) := (Kep.refl _ _).alloc _
      have ca := fun i => cell_of_row _ _ i _ _ _ (heap_alloc_new w2 (.cells #[.int .i64 (m.mo j), .int .i64 (m.held j), .slice va (stkTo m j m.H).length vc] 62))
      have c0 := ca 0
      have c1 := ca 1
      have c2 := ca 2
      have HS3 := hide (HSt.out.later (k2.trans k3))
      have HR := hide (fun i (hi : i < (stkTo m j m.H).length) => show ∃ b, va = some ⟨b, 0, none⟩ ∧ w1.heap.size < b ∧ ∀ l u, (stkTo m j m.H)[i].cells[l]? = some u → (w2.alloc (.cells #[.int .i64 (m.mo j), .int .i64 (m.held j), .slice va (stkTo m j m.H).length vc] 62)).cell? ⟨b, i * 5 + l, none⟩ = some u by
        rcases hrow.2 with ⟨e1, e2⟩ | ⟨b, cap, cur, e1, _⟩
        · omega
        · have hr := hrow
          rw [e1] at hr
          injection e1 with e1 _ _
          refine ⟨b, e1, ?_, fun l u hu => k3.cell ?_ (fun f => f)⟩
          · have a1 := (hr.lt b rfl).1
            have a2 : w1.heap.size < wr.heap.size := HSt.out.q0.lt
            omega
          · have hl : l < 5 := by have := (List.getElem?_eq_some_iff.1 hu).1; simpa [Sk.cells] using this
            rw [hr.cellAt _ (by omega), skCells_at _ i l hi hl]
            simpa using hu)
      have dm : decide (m.mo j < 0) = false := decide_eq_false (by omega)
      have dh : decide (m.held j < 0) = false := decide_eq_false (by omega)
      have lw1 : w1.heap.size < w2.heap.size := by have := (HSt.out.later k2).q0.lt; exact this
      clear hrow k2 k3 ca hA HSt cd
      generalize stkTo m j m.H = gs at *
      generalize m.mo j = mj at *
      generalize m.held j = xj at *
      generalize m.sumM j = sj at *
      generalize totTo m 0 j = t0 at *
      generalize totTo m 1 j = t1 at *
      go_wp2
      generalize w2.alloc (.cells #[.int .i64 mj, .int .i64 xj, .slice va gs.length vc] 62) = W3 at *
      have HC2 := hide c2
      have HT0 := hide (show goodSum 0 (gs.take 0) = 0 ∧ goodSum 1 (gs.take 0) = 0 from ⟨rfl, rfl⟩)
      clear c0 c1 c2 dm dh
      go_loopw [7, 11] (fun lo i w3 => ∃ k : Nat, k ≤ gs.length ∧ lo = .bool false ∧ i = .int .i64 k ∧ SumSt w1 (t0 + goodSum 0 (gs.take k)) (t1 + goodSum 1 (gs.take k)) w3 ∧ Kep (fun b => b = w1.heap.size) W3 w3) (fun _ i _ => gs.length - (intOf i).toNat)
      case atStart => exact ⟨0, Nat.zero_le _, rfl, rfl, by rw [HT0.out.1, HT0.out.2, Int.add_zero, Int.add_zero]; exact HS3.out, Kep.refl _ _⟩
      case round =>
        clear HS3 HT0
        obtain ⟨k, hk, rfl, rfl, S, K⟩ := hrel
        have ca := K.cell HC2.out (show ¬ w2.heap.size = w1.heap.size by omega)
        by_cases hlk : k < gs.length
        · obtain ⟨b, rfl, hbl, hc⟩ := HR.out k hlk
          have ne : ¬ b = w1.heap.size := by omega
          have x0 := K.cell (hc 0 _ rfl) ne
          have x1 := K.cell (hc 1 _ rfl) ne
          have x2 := K.cell (hc 2 _ rfl) ne
          have x3 := K.cell (hc 3 _ rfl) ne
          have x4 := K.cell (hc 4 _ rfl) ne
          simp only [Nat.add_zero] at x0
          have F := HFj.out gs[k] (List.getElem_mem hlk)
          have g0 := goodSum_bd 0 (gs.take k) fun s hs => HFj.out s (List.mem_of_mem_take hs)
          have g1 := goodSum_bd 1 (gs.take k) fun s hs => HFj.out s (List.mem_of_mem_take hs)
          have hl : (gs.take k).length ≤ 16 := by rw [List.length_take]; omega
          have HD := hide (And.intro (goodSum_take 0 gs k hlk) (goodSum_take 1 gs k hlk))
          have HSS := hide S
          have HKK := hide K
          generalize goodSum 0 (gs.take k) = a0 at *
          generalize goodSum 1 (gs.take k) = a1 at *
          generalize gs[k] = s at *
          obtain ⟨f1, ⟨f3a, f3b⟩, ⟨f4a, f4b⟩, ⟨f5a, f5b⟩, ⟨f6a, f6b⟩⟩ := F
          obtain ⟨g, hg, hg2⟩ : ∃ g : Nat, s.g = g ∧ (g = 0 ∨ g = 1) := by
            rcases f1 with f1 | f1
            · exact ⟨0, f1, .inl rfl⟩
            · exact ⟨1, f1, .inr rfl⟩
          rw [hg] at x1
          obtain ⟨z, ⟨zc, zf⟩, hz, HPut⟩ : ∃ z : Int, Own wr ⟨w1.heap.size, g, none⟩ (.int .i64 z) ∧ (0 ≤ z ∧ z ≤ 100000000000000) ∧ ∀ W', Kep non wr W' → SumSt w1 (t0 + goodSum 0 (gs.take (k + 1))) (t1 + goodSum 1 (gs.take (k + 1))) (W'.setCell ⟨w1.heap.size, g, none⟩ (.int .i64 (z + s.f + s.k + s.c))) := by
            rcases hg2 with rfl | rfl
            · refine ⟨t0 + a0, S.q0, by omega, fun W' k' => ?_⟩
              have := (S.later k').put 0 (.inl rfl) (t0 + a0 + s.f + s.k + s.c)
              rw [HD.out.1, HD.out.2, if_pos hg, if_neg (by omega)]
              rw [if_pos rfl, if_neg (by decide)] at this
              rw [Int.add_zero, show t0 + (a0 + (s.f + s.k + s.c)) = t0 + a0 + s.f + s.k + s.c by omega]
              exact this
            · refine ⟨t1 + a1, S.q1, by omega, fun W' k' => ?_⟩
              have := (S.later k').put 1 (.inr rfl) (t1 + a1 + s.f + s.k + s.c)
              rw [HD.out.1, HD.out.2, if_neg (by omega), if_pos hg]
              rw [if_neg (by decide), if_pos rfl] at this
              rw [Int.add_zero, show t1 + (a1 + (s.f + s.k + s.c)) = t1 + a1 + s.f + s.k + s.c by omega]
              exact this
          have HPu := hide HPut
          have d2 : decide (s.f < 0) = false := decide_eq_false (by omega)
          have d3 : decide (s.k < 0) = false := decide_eq_false (by omega)
          have d4 : decide (s.c < 0) = false := decide_eq_false (by omega)
          have d1 : decide ((g : Int) < 0) = false := decide_eq_false (by omega)
          have d5 : decide (1 < (g : Int)) = false := decide_eq_false (by omega)
          clear HPut S K hc ne HR HD
          go_wp2
          have hb4 := heap_alloc_new wr (.cells #[.int .i64 s.h, .int .i64 g, .int .i64 s.f, .int .i64 s.k, .int .i64 s.c] 33)
          have k4 : Kep non wr (wr.alloc (.cells #[.int .i64 s.h, .int .i64 g, .int .i64 s.f, .int .i64 s.k, .int .i64 s.c] 33)) := (Kep.refl _ _).alloc _
          have zc4 := k4.cell zc (fun f => f)
          have zf4 := ((Own.mk zc zf).kep k4 (fun f => f)).free
          have y1 := cell_of_row _ _ 1 _ _ _ hb4
          have y2 := cell_of_row _ _ 2 _ _ _ hb4
          have y3 := cell_of_row _ _ 3 _ _ _ hb4
          have y4 := cell_of_row _ _ 4 _ _ _ hb4
          have lz : w1.heap.size < wr.heap.size := HSS.out.q0.lt
          have HPu4 := hide (show SumSt w1 (t0 + goodSum 0 (gs.take (k + 1))) (t1 + goodSum 1 (gs.take (k + 1))) ((wr.alloc (.cells #[.int .i64 s.h, .int .i64 g, .int .i64 s.f, .int .i64 s.k, .int .i64 s.c] 33)).setCell ⟨w1.heap.size, g, none⟩ (.int .i64 (z + s.f + s.k + s.c))) ∧ Kep (fun b => b = w1.heap.size) W3 ((wr.alloc (.cells #[.int .i64 s.h, .int .i64 g, .int .i64 s.f, .int .i64 s.k, .int .i64 s.c] 33)).setCell ⟨w1.heap.size, g, none⟩ (.int .i64 (z + s.f + s.k + s.c))) from ⟨HPu.out _ k4, (HKK.out.trans k4.none).setCell (p := ⟨w1.heap.size, g, none⟩) (.inl rfl) _⟩)
          generalize wr.alloc (.cells #[.int .i64 s.h, .int .i64 g, .int .i64 s.f, .int .i64 s.k, .int .i64 s.c] 33) = W4 at *
          clear zc zf x0 x1 x2 x3 x4 ca k4 hb4 HPu HSS HKK d1 d2 d3 d4 d5 HC2 HFj HN
          go_region
          all_goals go_wp2
          all_goals exact ⟨⟨k + 1, by omega, rfl, by go_num, HPu4.out.1.later ((Kep.refl _ _).drew), HPu4.out.2.drew⟩, by simp [intOf]; omega⟩
        · have hkl : k = gs.length := by omega
          have HS5 := hide S
          rw [hkl, List.take_length] at HS5
          have hlk' : ¬ (k : Int) < (gs.length : Int) := by omega
          clear S K HR hkl
          go_wp2
          refine ⟨⟨j + 1, by omega, ?_, rfl, by go_num, ?_⟩, by simp [intOf]; omega⟩
          · rw [HN.out.1, Int.add_assoc]
          · rw [HN.out.2.1, HN.out.2.2]; exact HS5.out
    · have hj4 : j = 4 := by omega
      subst hj4
      have HS4 := hide S
      clear S
      go_wp2
      exact bodyPost_ret (v := .tuple #[.int .i64 (m.sumM 4), .slice (some ⟨w1.heap.size, 0, none⟩) 2 2, .bool false]) (by simp [results, Try.results21, go_sem]) rfl ⟨HS4.out.kp, _, rfl, HS4.out.q0.cell, HS4.out.q1.cell⟩
end

end Go.Proofs.Ytcfoobhihhndjaa
