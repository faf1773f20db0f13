/- The program's market: Account. -/
import Derived.Test.YtcbfmolebomkdaaG
import Derived.Test.YtcbfmolebomkdaaR
import Derived.Test.YtcbfmolebomkdaaS
namespace Go.Proofs.Ytcbfmolebomkdaa
open Go.RowKit Go.Sort

theorem progAccount_no (w : World) (L : PL) (m : Mk) (N t : Int) (R : PRep w L m) (ok : m.Ok N) (ht : ¬ okI m.T t) :
    Calls Try.prog 21 #[.pointer (some ⟨L.x, 0, none⟩), .int .i64 t] w fun e w' => e = .returned (.tuple #[.agg #[.int .i64 0, .int .i64 0, .slice none 0 0], .int .i64 2]) ∧ Keeps [] w w' := by
  have c2 : ∀ o, (w.alloc o).cell? ⟨L.x, 2, none⟩ = some (.slice (some ⟨L.ab, 0, none⟩) m.T m.T) := fun o => (R.cA.keep (S := []) ((Keeps.refl _ _).alloc o) (by simp)).cell
  have i1 := hide (inB_not ht)
  have bT := ok.T8
  go_enter Try.func21, Try.ntmps21
  go_wp2_with (first | (go_at_call 57; refine (hasTrader_b _ _ _ _ _ _ bT (c2 _)).mono ?_; rw [i1.out]; rintro e w' ⟨rfl, hw⟩; subst hw))
  exact bodyPost_ret (v := .tuple #[.agg #[.int .i64 0, .int .i64 0, .slice none 0 0], .int .i64 2]) (by simp [results, Try.results21, go_sem]) rfl ⟨rfl, (Keeps.refl _ _).alloc _⟩

set_option maxRecDepth 100000 in
set_option maxHeartbeats 1000000 in
theorem progAccount_yes (w : World) (L : PL) (m : Mk) (N : Int) (t : Nat) (R : PRep w L m) (ok : m.Ok N) (ht : t < m.T) :
    Calls Try.prog 21 #[.pointer (some ⟨L.x, 0, none⟩), .int .i64 t] w fun e w' => ∃ v, e = .returned (.tuple #[.agg #[.int .i64 (m.mo t), .int .i64 0, v], .int .i64 0]) ∧ Keeps [] w w' ∧
      w'.ownsRow w.heap.size 63 5 v (stkTo m t m.H).length (ldCells (stkTo m t m.H)) := by
  have R1 : ∀ o, PRep (w.alloc o) L m := fun o => R.keep (S := []) ((Keeps.refl _ _).alloc o) (by simp)
  have c2 : ∀ o, (w.alloc o).cell? ⟨L.x, 2, none⟩ = some (.slice (some ⟨L.ab, 0, none⟩) m.T m.T) := fun o => (R1 o).cA.cell
  have cm : ∀ o, (w.alloc o).cell? ⟨L.ab, t * 17, none⟩ = some (.int .i64 (m.mo t)) := fun o => ((R1 o).mo t ht).cell
  have bT := ok.T8
  have i1 := hide (inB_okI (show okI m.T t from ⟨by omega, by omega⟩))
  have A0 := AccSt.start w (m.mo t)
  have RA := R.keep A0.kp (by simp)
  have c1 := RA.cR.cell
  have l4 := ok.G4
  have h4 := ok.H4
  clear R1 RA
  go_enter Try.func21, Try.ntmps21
  go_wp2_with (first | (go_at_call 57; refine (hasTrader_b _ _ _ _ _ _ bT (c2 _)).mono ?_; rw [i1.out]; rintro e w' ⟨rfl, hw⟩; subst hw))
  generalize (w.alloc (.cells #[.int .i64 0, .int .i64 0, .slice none 0 0] 74)).alloc (.cells #[.int .i64 (m.mo t), .int .i64 0, .slice none 0 0] 74) = W0 at *
  clear c2 cm c1
  go_loopw [29] (fun i wr => ∃ j : Nat, j ≤ m.H ∧ i = .int .i64 j ∧ AccSt w (m.mo t) (stkTo m t j) wr) (fun i _ => m.H - (intOf i).toNat)
  case atStart => exact ⟨0, Nat.zero_le _, rfl, A0⟩
  case round =>
    clear A0
    obtain ⟨j, hj, rfl, A⟩ := hrel
    by_cases hlt : j < m.H
    · have Rr := R.keep A.kp (by simp)
      have c0 := Rr.cG.cell
      clear Rr
      go_wp2
      clear c0
      go_loopw [36] (fun i wr => ∃ k : Nat, k ≤ m.G ∧ i = .int .i64 k ∧ AccSt w (m.mo t) (stkTo m t j ++ stkRow m t j k) wr) (fun i _ => m.G - (intOf i).toNat)
      case atStart => exact ⟨0, Nat.zero_le _, rfl, by simpa [stkRow] using A⟩
      case round =>
        clear A
        obtain ⟨k, hk, rfl, A⟩ := hrel
        by_cases hlk : k < m.G
        · have Rr := R.keep A.kp (by simp)
          have HQ := hide (stock_any _ L m N Rr ok t j k ht (by omega) (by omega))
          have HA := hide A
          clear Rr A
          go_wp2_with fail
          refine HQ.out.mono ?_
          rintro e wc ⟨rfl, Kc⟩
          clear HQ
          have Ac := HA.out.later Kc
          have HAc := hide Ac
          have HS := hide (show stkRow m t j (k + 1) = stkRow m t j k ++ stk m t j k from rfl)
          clear Kc
          obtain ⟨va, vc, hv, hown⟩ := Ac.v
          have gl : (stkTo m t j ++ stkRow m t j k).length ≤ 16 := by have := stkTo_len m t j l4; have := stkRow_len m t j k; simp only [List.length_append]; omega
          have av : ∀ o, (wc.alloc o).cell? ⟨w.heap.size + 1, 2, none⟩ = some (.slice va (stkTo m t j ++ stkRow m t j k).length vc) := fun o => (hv.keep (S := []) ((Keeps.refl _ _).alloc o) (by simp)).cell
          have lw : w.heap.size + 1 < wc.heap.size := hv.lt
          have HV := hide hv
          clear hv Ac
          have HK := hide (show stk m t j k = if m.pc t j k ≠ 0 ∨ come t j k m.ld ≠ 0 then [⟨j, k, m.pc t j k, 0, come t j k m.ld⟩] else [] from rfl)
          generalize hG : stkTo m t j ++ stkRow m t j k = gs at *
          have HG := hide hG
          clear hG
          generalize m.pc t j k = x at *
          generalize come (t : Int) (j : Int) (k : Int) m.ld = y at *
          by_cases hx : x = 0 ∧ y = 0
          · obtain ⟨rfl, rfl⟩ := hx
            go_wp2
            refine ⟨⟨k + 1, by omega, by go_num, ?_⟩, by simp [intOf]; omega⟩
            rw [HS.out, ← List.append_assoc, HG.out, HK.out, if_neg (by simp), List.append_nil]
            exact HAc.out.later ((Keeps.refl _ _).alloc _)
          · have hxy : (x != 0) = true ∨ ((x != 0) = false ∧ (y != 0) = true) := by
              by_cases h1 : x = 0
              · exact .inr ⟨by simpa using h1, by simp; omega⟩
              · exact .inl (by simpa using h1)
            obtain ⟨i0, hi0, hz0, hz1, hz2⟩ := info_parts info63
            rcases hxy with h1 | ⟨h1, h2⟩
            all_goals
              go_wp2_with (at_builtin; refine wpList_append_lies _ rfl _ _ _ rfl (w.heap.size + 2) 63 i0 _ 5 40 Try.underlying61 hi0 hz0 hz1 hz2 rfl (by omega) _ gs.length (ldCells gs) rfl (by exact (hown.alloc _).alloc _) ⟨wc.heap.size + 1, 0, none⟩ 1 1 (Ld.cells ⟨j, k, x, 0, y⟩) rfl rfl (by exact news_of_last #[_, _, _, _, _] 63 (by simp)) (Ld.oneCell _) (by omega) (by simp only [maxLen]; omega) (by omega) (by simp; omega) (wc.heap.size + 2) (by simp) ?_)
              intro gg cap w1 hown1 hgrow hat hlt1
              have k1 : Keeps (Value.slice va gs.length vc).ownBlock.toList wc w1 := ((((Keeps.refl _ _).alloc _).alloc _)).grown hgrow (fun b hb => .inl (by simp [hb]))
              have n1 : w.heap.size + 1 ∉ (Value.slice va gs.length vc).ownBlock.toList := fun hb => by have := (hown.lt _ (by simpa using hb)).1; omega
              have z6 := (HV.out.keep k1 n1).cell
              have z7 := (HV.out.keep k1 n1).free
              clear k1 n1
              go_wp2
              refine ⟨⟨k + 1, by omega, by go_num, ?_⟩, by simp [intOf]; omega⟩
              rw [HS.out, ← List.append_assoc, HG.out, HK.out, if_pos (by simp at h1; omega)]
              exact (HAc.out.later ((Keeps.refl _ _).alloc _)).more (HV.out.keep (S := []) ((Keeps.refl _ _).alloc _) (by simp)) (hown.alloc _) hgrow ⟨j, k, x, 0, y⟩ hown1
        · have e1 : k = m.G := by omega
          subst e1
          go_wp2
          refine ⟨⟨j + 1, by omega, by go_num, ?_⟩, by simp [intOf]; omega⟩
          exact A
    · have e1 : j = m.H := by omega
      subst e1
      have HA := hide A
      obtain ⟨va, vc, hv, hown⟩ := A.v
      have x0 := A.a0.cell
      have x1 := A.a1.cell
      have x2 := hv.cell
      obtain ⟨y0, g0⟩ := A.r0
      obtain ⟨y1, g1⟩ := A.r1
      obtain ⟨y2, g2⟩ := A.r2
      clear A hv
      go_wp2
      have T := three_set HA.out.r0 HA.out.r1 HA.out.r2 (.int .i64 (m.mo t)) (.int .i64 0) (.slice va (stkTo m t m.H).length vc)
      refine bodyPost_ret (v := .tuple #[.agg #[.int .i64 (m.mo t), .int .i64 0, .slice va (stkTo m t m.H).length vc], .int .i64 0]) (by simp [results, Try.results21, go_sem, T.1, T.2.1, T.2.2]) rfl ⟨_, rfl, ?_, ?_⟩
      · exact ((HA.out.kp.setCell (.inr (by simp)) _).setCell (.inr (by simp)) _).setCell (.inr (by simp)) _
      · refine ownsRow_setCell_other (ownsRow_setCell_other (ownsRow_setCell_other (ownsRow_mono hown (by omega)) ?_ _) ?_ _) ?_ _
        all_goals exact fun q => by have : w.heap.size + 2 ≤ w.heap.size := (hown.lt _ q).1; omega

end Go.Proofs.Ytcbfmolebomkdaa
