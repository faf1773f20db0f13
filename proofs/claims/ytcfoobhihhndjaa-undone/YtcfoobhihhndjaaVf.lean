/- 
  Undone, at the commit that COMMIT names: for every rates, every steps and every order the law returns true, and they read behind the call as they did before. No condition.
 -/
import Derived.Test.YtcfoobhihhndjaaWu
import Derived.BigQuiet
import Derived.Test.YtcfoobhihhndjaaVe
import Derived.Test.YtcfoobhihhndjaaVd
import Derived.Test.YtcfoobhihhndjaaVbu
import Derived.Test.YtcfoobhihhndjaaUb
import Derived.Test.YtcfoobhihhndjaaRows
namespace Go.Proofs.Ytcfoobhihhndjaa

section
open Go.RowKit Go.Sort

/-- behind a step; no more than 5000 were paid in -/
def DsB (w : World) (rs : List Int) (x : Nat) (N : Int) (m : Mt) (w' : World) : Prop := ∃ m', Moves m m' ∧ m'.Inv N ∧ m'.nu ≤ m.nu + 1 ∧ DeskB w rs x m' w' ∧ m'.money ≤ m.money + 5000

theorem Does.deskB {w : World} {rs : List Int} {x : Nat} {N : Int} {m m' : Mt} {mon p0 p1 : Int} {w' : World} (S : Does N m m.money (m.stock 0) (m.stock 1) m' mon p0 p1) (hb : mon ≤ m.money + 5000) (D : Desk w rs x mon p0 p1 m' w') : DsB w rs x N m w' := by
  have e1 : m'.money = mon := by have := S.mon; omega
  have e2 : m'.stock 0 = p0 := by have := S.s0; omega
  have e3 : m'.stock 1 = p1 := by have := S.s1; omega
  refine ⟨m', S.mv, S.inv, S.nu, ?_, by omega⟩
  unfold DeskB
  rw [e1, e2, e3]
  exact D

theorem DsB.later {w : World} {rs : List Int} {x : Nat} {N : Int} {m : Mt} {w' w'' : World} (h : DsB w rs x N m w') (k : Kep non w' w'') : DsB w rs x N m w'' := by
  obtain ⟨m', h1, h2, h3, h4, h5⟩ := h
  exact ⟨m', h1, h2, h3, Desk.later h4 k, h5⟩

set_option maxRecDepth 100000 in
set_option maxHeartbeats 8000000 in
theorem does_bd {w : World} {rs : List Int} {x : Nat} {m : Mt} {W : World} {N : Int} (D : DeskB w rs x m W) (I : m.Inv N) (hn : m.nu + 1 ≤ N) (hR : 1 ≤ rs.length ∧ rs.length ≤ 3) (hT : m.T = 4) (hG : m.G = 2) (s : Stp) (hs : s.ok) :
    Calls Try.prog 15 #[.pointer (some ⟨w.heap.size, 0, none⟩), s.agg] W fun e w' => e = .returned (.tuple #[]) ∧ DsB w rs x N m w' := by
  obtain ⟨h0, h1, h2, h3, h4, h5⟩ := hs
  obtain ⟨rb, cap, hrv⟩ : ∃ rb cap, W.cell? ⟨w.heap.size, 3, none⟩ = some (.slice (some ⟨rb, 0, none⟩) rs.length cap) := by
    obtain ⟨L, rv, pb, _, D⟩ := D
    obtain ⟨rb, cap, e, _⟩ := D.rr
    exact ⟨rb, cap, by rw [← e]; exact D.c3.cell⟩
  obtain ⟨W1, hW1, kW, hb⟩ : ∃ W1, W1 = W.alloc (.cells #[.int .i64 s.k, .int .i64 s.t, .int .i64 s.h, .int .i64 s.g, .int .i64 s.p, .int .i64 s.q] 39) ∧ Kep non W W1 ∧ W1.heap[W.heap.size]? = some (.cells #[.int .i64 s.k, .int .i64 s.t, .int .i64 s.h, .int .i64 s.g, .int .i64 s.p, .int .i64 s.q] 39) := ⟨_, rfl, (Kep.refl _ _).alloc _, heap_alloc_new W _⟩
  have c3 := kW.cell hrv (fun f => f)
  have b0 := cell_of_row _ _ 0 _ _ _ hb
  have b1 := cell_of_row _ _ 1 _ _ _ hb
  have b2 := cell_of_row _ _ 2 _ _ _ hb
  have b3 := cell_of_row _ _ 3 _ _ _ hb
  have HB := hide (fun V (k : Kep non W1 V) => (k.block W.heap.size (Array.getElem?_eq_some_iff.1 hb).1 (fun f => f)).trans hb)
  have HD := hide (fun V (k : Kep non W1 V) => show DeskB w rs x m V from Desk.later D (kW.trans k))
  have HI := hide I
  have HC := hide (fun V (k : Kep non W1 V) => k.cell c3 (fun f => f))
  have P1 := hide (pickI s.t 4 · h1 (by omega) (by omega))
  have P2 := hide (pickI s.h rs.length · h2 (by omega) (by omega))
  have P3 := hide (pickI s.g 2 · h3 (by omega) (by omega))
  have P4 := hide (pickI s.k 14 · h0 (by omega) (by omega))
  have HP := hide (show (∀ (n : Int) V, 1 ≤ n → n ≤ 10000000 → Calls Try.prog 10 #[.int .i64 s.p, .int .i64 n] V fun e w' => e = .returned (.int .i64 (pk s.p n.toNat)) ∧ w' = V) ∧ (∀ (n : Int) V, 1 ≤ n → n ≤ 10000000 → Calls Try.prog 10 #[.int .i64 s.q, .int .i64 n] V fun e w' => e = .returned (.int .i64 (pk s.q n.toNat)) ∧ w' = V) ∧ (∀ (n : Int) V, 1 ≤ n → n ≤ 10000000 → Calls Try.prog 10 #[.int .i64 s.g, .int .i64 n] V fun e w' => e = .returned (.int .i64 (pk s.g n.toNat)) ∧ w' = V) from
    ⟨fun n V a b => pickI s.p n V h4 a b, fun n V a b => pickI s.q n V h5 a b, fun n V a b => pickI s.g n V h3 a b⟩)
  have HO := hide (fun (V : World) (c : V.cell? ⟨w.heap.size, 3, none⟩ = some (.slice (some ⟨rb, 0, none⟩) rs.length cap)) => order_any V w.heap.size rb rs.length cap c hR s ⟨h0, h1, h2, h3, h4, h5⟩)
  have q1 := pk_lt s.t (n := 4) (by decide)
  have q2 := pk_lt s.h (n := rs.length) (by omega)
  have q3 := pk_lt s.g (n := 2) (by decide)
  have q4 := pk_lt s.k (n := 14) (by decide)
  have HW1 := hide hW1
  clear D I hb hW1 h0 h1 h2 h3 h4 h5 kW hrv
  unfold Stp.agg
  go_enter Try.func15, Try.ntmps15
  go_wp2_with fail
  rw [← HW1.out]
  clear HW1
  refine (P1.out _).mono ?_
  rintro e w' ⟨rfl, hw⟩
  subst hw
  go_wp2_with fail
  go_quiet ((go_at_call 10; exact Calls.quiet_of_same (P2.out _)))
  go_wp2_with fail
  refine (P3.out _).mono ?_
  rintro e w' ⟨rfl, hw⟩
  subst hw
  go_wp2_with fail
  refine (P4.out _).mono ?_
  rintro e w' ⟨rfl, hw⟩
  subst hw
  rw [show Int.toNat 14 = 14 from rfl] at P4 ⊢
  have kV : Kep non w' (w'.drewN nq) := (Kep.refl _ _).drewN nq
  have HB2 := hide (fun V (k : Kep non (w'.drewN nq) V) => HB.out V (kV.trans k))
  have HD2 := hide (fun V (k : Kep non (w'.drewN nq) V) => HD.out V (kV.trans k))
  have HC2 := hide (fun V (k : Kep non (w'.drewN nq) V) => HC.out V (kV.trans k))
  clear HB HD HC P1 P2 P3 b0 b1 b2 b3 c3 kV
  generalize w'.drewN nq = V at *
  generalize pk s.t 4 = t at *
  generalize pk s.h rs.length = h at *
  generalize pk s.g 2 = g at *
  generalize pk s.k 14 = kd at *
  have DV := HD2.out V (Kep.refl _ _)
  have cp := Desk.ptr DV
  have hb := HB2.out V (Kep.refl _ _)
  have c3 := HC2.out V (Kep.refl _ _)
  have b4 := cell_of_row _ _ 4 _ _ _ hb
  have b5 := cell_of_row _ _ 5 _ _ _ hb
  have hmo := HI.out.money_bd
  have hs0 := HI.out.stock_bd (g := 0) (by omega)
  have hs1 := HI.out.stock_bd (g := 1) (by omega)
  clear hb
  by_cases e0 : kd = 0
  · subst e0
    have qn := pk_lt s.q (n := 5000) (by decide)
    have HPy := hide (DV.pay HI.out t (1 + pk s.q 5000))
    clear DV c3 b4
    go_wp2_with fail
    refine (HP.out.2.1 5000 _ (by omega) (by omega)).mono ?_
    rintro e w2 ⟨rfl, hw⟩
    subst hw
    rw [show Int.toNat 5000 = 5000 from rfl]
    go_wp2_with fail
    refine HPy.out.mono ?_
    rintro e w3 ⟨rfl, D3⟩
    obtain ⟨L3, rv3, pb3, e3, D3⟩ := D3
    obtain ⟨c4, f4⟩ := D3.c4
    generalize hN : (1 : Int) + (pk s.q 5000 : Int) = n at *
    by_cases hE : payE m t n = 0
    · have HR := hide (show DsB w rs x N m (w3.setCell ⟨w.heap.size, 4, none⟩ (.int .i64 (m.money + n))) from (Does.pay HI.out t n).deskB (by first | omega | (split <;> omega)) ⟨L3, rv3, pb3, e3, by rw [if_pos hE]; exact D3.setMon _⟩)
      rw [hE]
      have hn2 : 1 ≤ n ∧ n ≤ 5000 := by omega
      clear D3 HPy hE cp
      go_wp2
      go_end0
      exact ⟨rfl, HR.out⟩
    · have HR := hide (show DsB w rs x N m w3 from (Does.pay HI.out t n).deskB (by first | omega | (split <;> omega)) ⟨L3, rv3, pb3, e3, by rw [if_neg hE]; exact D3⟩)
      have hE' : (payE m t n == 0) = false := beq_eq_false_iff_ne.2 hE
      clear D3 HPy hE cp
      go_wp2
      go_end0
      exact ⟨rfl, HR.out⟩
  by_cases e1 : kd = 1
  · subst e1
    have qn := pk_lt s.q (n := 100000) (by decide)
    have HPy := hide (DV.draw HI.out t (1 + pk s.q 100000))
    clear DV c3 b4
    go_wp2_with fail
    refine (HP.out.2.1 100000 _ (by omega) (by omega)).mono ?_
    rintro e w2 ⟨rfl, hw⟩
    subst hw
    rw [show Int.toNat 100000 = 100000 from rfl]
    go_wp2_with fail
    refine HPy.out.mono ?_
    rintro e w3 ⟨rfl, D3⟩
    obtain ⟨L3, rv3, pb3, e3, D3⟩ := D3
    obtain ⟨c4, f4⟩ := D3.c4
    generalize hN : (1 : Int) + (pk s.q 100000 : Int) = n at *
    by_cases hE : drawE m t n = 0
    · have HR := hide (show DsB w rs x N m (w3.setCell ⟨w.heap.size, 4, none⟩ (.int .i64 (m.money - n))) from (Does.draw HI.out t n).deskB (by first | omega | (split <;> omega)) ⟨L3, rv3, pb3, e3, by rw [if_pos hE]; exact D3.setMon _⟩)
      rw [hE]
      have hn2 : 1 ≤ n ∧ n ≤ 100000 := by omega
      clear D3 HPy hE cp
      go_wp2
      go_end0
      exact ⟨rfl, HR.out⟩
    · have HR := hide (show DsB w rs x N m w3 from (Does.draw HI.out t n).deskB (by first | omega | (split <;> omega)) ⟨L3, rv3, pb3, e3, by rw [if_neg hE]; exact D3⟩)
      have hE' : (drawE m t n == 0) = false := beq_eq_false_iff_ne.2 hE
      clear D3 HPy hE cp
      go_wp2
      go_end0
      exact ⟨rfl, HR.out⟩
  by_cases e2 : kd = 2
  · subst e2
    have qn := pk_lt s.q (n := 300) (by decide)
    have HPy := hide (DV.bring HI.out t h g (1 + pk s.q 300))
    clear DV c3 b4
    go_wp2_with fail
    refine (HP.out.2.1 300 _ (by omega) (by omega)).mono ?_
    rintro e w2 ⟨rfl, hw⟩
    subst hw
    rw [show Int.toNat 300 = 300 from rfl]
    go_wp2_with fail
    refine HPy.out.mono ?_
    rintro e w3 ⟨rfl, D3⟩
    obtain ⟨L3, rv3, pb3, e3, D3⟩ := D3
    have c5 := D3.c5.cell
    generalize hN : (1 : Int) + (pk s.q 300 : Int) = n at *
    by_cases hE : bringE m t h g n = 0
    · obtain ⟨v, ⟨cv, fv⟩, hv0, HR⟩ : ∃ v : Int, Own w3 ⟨pb3, g, none⟩ (.int .i64 v) ∧ (0 ≤ v ∧ v ≤ 1000000) ∧ DsB w rs x N m (w3.setCell ⟨pb3, g, none⟩ (.int .i64 (v + n))) := by
        have S := Does.bring HI.out (mon := m.money) (p0 := m.stock 0) (p1 := m.stock 1) t h n g q3
        rcases (show g = 0 ∨ g = 1 by omega) with rfl | rfl
        · refine ⟨_, D3.q0, hs0, ?_⟩
          rw [if_pos ⟨hE, rfl⟩, if_neg (by simp)] at S
          have k := D3.setP 0 (by decide) (m.stock 0 + n)
          rw [if_pos rfl, if_neg (by decide)] at k
          exact S.deskB (by omega) ⟨L3, rv3, pb3, e3, k⟩
        · refine ⟨_, D3.q1, hs1, ?_⟩
          rw [if_neg (by simp), if_pos ⟨hE, rfl⟩] at S
          have k := D3.setP 1 (by decide) (m.stock 1 + n)
          rw [if_neg (by decide), if_pos rfl] at k
          exact S.deskB (by omega) ⟨L3, rv3, pb3, e3, k⟩
      have HRR := hide HR
      rw [hE]
      have hn2 : 1 ≤ n ∧ n ≤ 300 := by omega
      have q3' : (g : Int) < 2 := by omega
      clear D3 HPy hE cp HR hN
      go_wp2
      go_region
      all_goals go_wp2
      all_goals go_end0
      all_goals exact ⟨rfl, HRR.out.later ((Kep.refl _ _).drew)⟩
    · have HR := hide (show DsB w rs x N m w3 by
        have S := Does.bring HI.out (mon := m.money) (p0 := m.stock 0) (p1 := m.stock 1) t h n g q3
        rw [if_neg (fun f => hE f.1), if_neg (fun f => hE f.1)] at S
        exact S.deskB (by omega) ⟨L3, rv3, pb3, e3, D3⟩)
      have hE' : (bringE m t h g n == 0) = false := beq_eq_false_iff_ne.2 hE
      clear D3 HPy hE cp
      go_wp2
      go_end0
      exact ⟨rfl, HR.out⟩
  by_cases e3 : kd = 3
  · subst e3
    have qn := pk_lt s.q (n := 1200) (by decide)
    have HPy := hide (DV.take HI.out t h g (1 + pk s.q 1200))
    clear DV c3 b4
    go_wp2_with fail
    refine (HP.out.2.1 1200 _ (by omega) (by omega)).mono ?_
    rintro e w2 ⟨rfl, hw⟩
    subst hw
    rw [show Int.toNat 1200 = 1200 from rfl]
    go_wp2_with fail
    refine HPy.out.mono ?_
    rintro e w3 ⟨rfl, D3⟩
    obtain ⟨L3, rv3, pb3, e3, D3⟩ := D3
    have c5 := D3.c5.cell
    generalize hN : (1 : Int) + (pk s.q 1200 : Int) = n at *
    by_cases hE : takeE m t h g n = 0
    · obtain ⟨v, ⟨cv, fv⟩, hv0, HR⟩ : ∃ v : Int, Own w3 ⟨pb3, g, none⟩ (.int .i64 v) ∧ (0 ≤ v ∧ v ≤ 1000000) ∧ DsB w rs x N m (w3.setCell ⟨pb3, g, none⟩ (.int .i64 (v - n))) := by
        have S := Does.take HI.out (mon := m.money) (p0 := m.stock 0) (p1 := m.stock 1) t h n g q3
        rcases (show g = 0 ∨ g = 1 by omega) with rfl | rfl
        · refine ⟨_, D3.q0, hs0, ?_⟩
          rw [if_pos ⟨hE, rfl⟩, if_neg (by simp)] at S
          have k := D3.setP 0 (by decide) (m.stock 0 - n)
          rw [if_pos rfl, if_neg (by decide)] at k
          exact S.deskB (by omega) ⟨L3, rv3, pb3, e3, k⟩
        · refine ⟨_, D3.q1, hs1, ?_⟩
          rw [if_neg (by simp), if_pos ⟨hE, rfl⟩] at S
          have k := D3.setP 1 (by decide) (m.stock 1 - n)
          rw [if_neg (by decide), if_pos rfl] at k
          exact S.deskB (by omega) ⟨L3, rv3, pb3, e3, k⟩
      have HRR := hide HR
      rw [hE]
      have hn2 : 1 ≤ n ∧ n ≤ 1200 := by omega
      have q3' : (g : Int) < 2 := by omega
      clear D3 HPy hE cp HR hN
      go_wp2
      go_region
      all_goals go_wp2
      all_goals go_end0
      all_goals exact ⟨rfl, HRR.out.later ((Kep.refl _ _).drew)⟩
    · have HR := hide (show DsB w rs x N m w3 by
        have S := Does.take HI.out (mon := m.money) (p0 := m.stock 0) (p1 := m.stock 1) t h n g q3
        rw [if_neg (fun f => hE f.1), if_neg (fun f => hE f.1)] at S
        exact S.deskB (by omega) ⟨L3, rv3, pb3, e3, D3⟩)
      have hE' : (takeE m t h g n == 0) = false := beq_eq_false_iff_ne.2 hE
      clear D3 HPy hE cp
      go_wp2
      go_end0
      exact ⟨rfl, HR.out⟩
  by_cases e4 : kd = 4
  · subst e4
    have qn := pk_lt s.q (n := 500) (by decide)
    have qp := pk_lt s.p (n := rs.length) (by omega)
    obtain ⟨V2, hV2, k2⟩ : ∃ V2, V2 = V.drew ∧ Kep non V V2 := ⟨_, rfl, (Kep.refl _ _).drew⟩
    have cp2 := k2.cell cp (fun f => f)
    have c32 := k2.cell c3 (fun f => f)
    have b42 := k2.cell b4 (fun f => f)
    have b52 := k2.cell b5 (fun f => f)
    have HSh := hide (show Calls Try.prog 12 #[.pointer (some ⟨x, 0, none⟩), .int .i64 t, .int .i64 h, .int .i64 (pk s.p rs.length), .int .i64 g, .int .i64 (1 + pk s.q 500)] V2 fun e w' => (∃ c, e = .returned (.int .i64 c)) ∧ DsB w rs x N m w' from ((HD2.out V2 k2).ship HI.out t h (pk s.p rs.length) g (1 + pk s.q 500)).mono fun e w' ⟨a, b⟩ => ⟨⟨_, a⟩, (Does.ship HI.out _ _ _ _ _).deskB (by first | omega | (split <;> omega)) b⟩)
    have Pp := hide (HP.out.1 rs.length V2 (by omega) (by omega))
    have Pq := hide (HP.out.2.1 500 V2 (by omega) (by omega))
    rw [Int.toNat_natCast] at Pp
    rw [show Int.toNat 500 = 500 from rfl] at Pq
    have W9 := hide (show IntKind.i64.wrap (1 + (pk s.q 500 : Int)) = 1 + (pk s.q 500 : Int) by rw [IntKind.wrap_i64]; omega)
    have HV2 := hide hV2
    clear DV cp c3 b4 b5 hV2 k2
    go_wp2_with fail
    refine region_tail 19 (by kernel_rfl) (by kernel_rfl) V2 HV2.out ?_
    simp only [List.take_succ_cons, List.take_zero, List.drop_succ_cons, List.drop_zero]
    repeat still_step
    still_call Pp.out
    repeat still_step
    still_call Pq.out
    repeat still_step
    refine wpStill_nil ?_
    rw [W9.out]
    go_wp2_with fail
    refine HSh.out.mono ?_
    rintro e w3 ⟨⟨c, rfl⟩, D3⟩
    have HR := hide D3
    clear D3 HSh Pp Pq cp2 c32 b42 b52
    go_wp2
    go_end0
    exact ⟨rfl, HR.out⟩
  by_cases e5 : kd = 5
  · subst e5
    have HTi := hide ((DV.tick HI.out).mono fun e w' ⟨a, b⟩ => And.intro a (show DsB w rs x N m w' from (Does.tick HI.out).deskB (by first | omega | (split <;> omega)) b))
    clear DV c3 b4 b5
    go_wp2_with fail
    refine HTi.out.mono ?_
    rintro e w3 ⟨rfl, D3⟩
    have HR := hide D3
    clear D3 HTi cp
    go_wp2
    go_end0
    exact ⟨rfl, HR.out⟩
  by_cases e6 : kd = 6
  · subst e6
    have okt : okI m.T t := ⟨by omega, by omega⟩
    have HOr := hide (DV.orders HI.out t)
    clear DV c3
    go_wp2_with fail
    refine HOr.out.mono ?_
    rintro e w3 ⟨⟨k3, hO⟩, D3⟩
    rcases hO with ⟨f, _⟩ | ⟨_, v, l, hperm, _, hrow, rfl⟩
    · exact absurd okt f
    · obtain ⟨va, vc, rfl⟩ := row_form hrow
      have hl60 : l.length ≤ 60 := by
        have h1 := hperm.length_eq
        have h2 := ofT_len (t : Int) m.all
        have h3 := HI.out.a60
        omega
      by_cases hl : l.length = 0
      · have HR := hide (show DsB w rs x N m w3 from (Does.same HI.out).deskB (by first | omega | (split <;> omega)) D3)
        rw [hl]
        clear D3 HOr hrow hperm k3 cp b4 b5
        go_wp2
        go_end0
        exact ⟨rfl, HR.out⟩
      · have qi := pk_lt s.p (n := l.length) (by omega)
        have hb3 := HB2.out w3 k3
        have b4' := cell_of_row _ _ 4 _ _ _ hb3
        have b0' := cell_of_row _ _ 0 _ _ _ hb3
        have lwb : W.heap.size < w3.heap.size := (Array.getElem?_eq_some_iff.1 hb3).1
        obtain ⟨ob, oc, ov, _, _⟩ := hrow.form (by omega)
        simp only [Value.slice.injEq, true_and] at ov
        obtain ⟨rfl, rfl⟩ := ov
        have hmem : l[pk s.p l.length] ∈ m.all ∧ l[pk s.p l.length].t = t := by
          have := hperm.subset (List.getElem_mem qi)
          unfold ofT at this
          simpa using List.mem_filter.1 this
        have hcell : ∀ j u, l[pk s.p l.length].cells[j]? = some u → w3.cell? ⟨ob, pk s.p l.length * 8 + j, none⟩ = some u := fun j u hu => by
          have hj : j < 8 := by have := (List.getElem?_eq_some_iff.1 hu).1; simpa [Od.cells] using this
          rw [hrow.cellAt _ (by omega), odCells_at _ _ j qi hj]
          simpa using hu
        have Pp := hide (HP.out.1 l.length w3 (by omega) (by omega))
        rw [Int.toNat_natCast] at Pp
        have o0 := hcell 0 _ rfl
        have o1 := hcell 1 _ rfl
        have o2 := hcell 2 _ rfl
        have o3 := hcell 3 _ rfl
        have o4 := hcell 4 _ rfl
        have o5 := hcell 5 _ rfl
        have o6 := hcell 6 _ rfl
        have o7 := hcell 7 _ rfl
        simp only [Nat.add_zero] at o0
        obtain ⟨_, _, ⟨op1, op2⟩, _⟩ := HI.out.ok.all_ok hmem.1
        have HK3 := hide k3
        generalize hiI : pk s.p l.length = i at *
        generalize l[i] = o at *
        have hl' : (0 : Int) < (l.length : Int) := by omega
        have qi' : (i : Int) < (l.length : Int) := by omega
        clear hcell hperm hrow hmem HOr k3 hb3 b4 b5 cp D3
        go_wp2_with fail
        refine Pp.out.mono ?_
        rintro e w4 ⟨rfl, hw⟩
        subst hw
        go_wp2_with fail
        refine (P4.out _).mono ?_
        rintro e w5 ⟨rfl, hw⟩
        have k5 : Kep non w4 w5 := by rw [hw]; exact (Kep.refl _ _).alloc _
        have hb5 : w5.heap[w4.heap.size]? = some (.cells #[.int .i64 o.id, .int .i64 o.t, .int .i64 o.h, .int .i64 o.g, .int .i64 o.s, .int .i64 o.p, .int .i64 o.q, .int .i64 o.w] 42) := by rw [hw]; exact heap_alloc_new w4 _
        clear hw
        obtain ⟨V2, hV2, k2⟩ : ∃ V2, V2 = w5.drew ∧ Kep non w5 V2 := ⟨_, rfl, (Kep.refl _ _).drew⟩
        have hb6 := (k2.block w4.heap.size (Array.getElem?_eq_some_iff.1 hb5).1 (fun f => f)).trans hb5
        have KK := HK3.out.trans (k5.trans k2)
        have D5 := HD2.out V2 KK
        have cp2 := Desk.ptr D5
        have y0 := cell_of_row _ _ 0 _ _ _ hb6
        have y5 := cell_of_row _ _ 5 _ _ _ hb6
        have HV2 := hide hV2
        have HCa := hide (show Calls Try.prog 26 #[.pointer (some ⟨x, 0, none⟩), .int .i64 t, .int .i64 o.id] V2 fun e w' => (∃ c, e = .returned (.int .i64 c)) ∧ DsB w rs x N m w' from (D5.cancel HI.out t o.id).mono fun e w' ⟨c, a, m', C, b⟩ => ⟨⟨c, a⟩, (Does.cancel HI.out C).deskB (by first | omega | (split <;> omega)) b⟩)
        clear D5 KK k2 k5 hb5 hb6 hV2 y5 o0 o1 o2 o3 o4 o5 o6 o7 b4' b0' HK3
        go_wp2_with fail
        refine region_tail 7 (by kernel_rfl) (by kernel_rfl) V2 HV2.out ?_
        simp only [List.take_succ_cons, List.take_zero, List.drop_succ_cons, List.drop_zero]
        repeat still_step
        refine wpStill_nil ?_
        go_wp2_with fail
        refine HCa.out.mono ?_
        rintro e w7 ⟨⟨c, rfl⟩, D7⟩
        have HR := hide D7
        clear D7 HCa cp2 y0
        go_wp2
        go_end0
        exact ⟨rfl, HR.out⟩
  by_cases e7 : kd = 7
  · subst e7
    have okt : okI m.T t := ⟨by omega, by omega⟩
    have HOr := hide (DV.orders HI.out t)
    clear DV c3
    go_wp2_with fail
    refine HOr.out.mono ?_
    rintro e w3 ⟨⟨k3, hO⟩, D3⟩
    rcases hO with ⟨f, _⟩ | ⟨_, v, l, hperm, _, hrow, rfl⟩
    · exact absurd okt f
    · obtain ⟨va, vc, rfl⟩ := row_form hrow
      have hl60 : l.length ≤ 60 := by
        have h1 := hperm.length_eq
        have h2 := ofT_len (t : Int) m.all
        have h3 := HI.out.a60
        omega
      by_cases hl : l.length = 0
      · have HR := hide (show DsB w rs x N m w3 from (Does.same HI.out).deskB (by first | omega | (split <;> omega)) D3)
        rw [hl]
        clear D3 HOr hrow hperm k3 cp b4 b5
        go_wp2
        go_end0
        exact ⟨rfl, HR.out⟩
      · have qi := pk_lt s.p (n := l.length) (by omega)
        have hb3 := HB2.out w3 k3
        have b4' := cell_of_row _ _ 4 _ _ _ hb3
        have b0' := cell_of_row _ _ 0 _ _ _ hb3
        have lwb : W.heap.size < w3.heap.size := (Array.getElem?_eq_some_iff.1 hb3).1
        obtain ⟨ob, oc, ov, _, _⟩ := hrow.form (by omega)
        simp only [Value.slice.injEq, true_and] at ov
        obtain ⟨rfl, rfl⟩ := ov
        have hmem : l[pk s.p l.length] ∈ m.all ∧ l[pk s.p l.length].t = t := by
          have := hperm.subset (List.getElem_mem qi)
          unfold ofT at this
          simpa using List.mem_filter.1 this
        have hcell : ∀ j u, l[pk s.p l.length].cells[j]? = some u → w3.cell? ⟨ob, pk s.p l.length * 8 + j, none⟩ = some u := fun j u hu => by
          have hj : j < 8 := by have := (List.getElem?_eq_some_iff.1 hu).1; simpa [Od.cells] using this
          rw [hrow.cellAt _ (by omega), odCells_at _ _ j qi hj]
          simpa using hu
        have Pp := hide (HP.out.1 l.length w3 (by omega) (by omega))
        rw [Int.toNat_natCast] at Pp
        have o0 := hcell 0 _ rfl
        have o1 := hcell 1 _ rfl
        have o2 := hcell 2 _ rfl
        have o3 := hcell 3 _ rfl
        have o4 := hcell 4 _ rfl
        have o5 := hcell 5 _ rfl
        have o6 := hcell 6 _ rfl
        have o7 := hcell 7 _ rfl
        simp only [Nat.add_zero] at o0
        obtain ⟨_, _, ⟨op1, op2⟩, _⟩ := HI.out.ok.all_ok hmem.1
        have HK3 := hide k3
        generalize hiI : pk s.p l.length = i at *
        generalize l[i] = o at *
        have hl' : (0 : Int) < (l.length : Int) := by omega
        have qi' : (i : Int) < (l.length : Int) := by omega
        clear hcell hperm hrow hmem HOr k3 hb3 b4 b5 cp D3
        go_wp2_with fail
        refine Pp.out.mono ?_
        rintro e w4 ⟨rfl, hw⟩
        subst hw
        go_wp2_with fail
        refine (P4.out _).mono ?_
        rintro e w5 ⟨rfl, hw⟩
        have k5 : Kep non w4 w5 := by rw [hw]; exact (Kep.refl _ _).alloc _
        have hb5 : w5.heap[w4.heap.size]? = some (.cells #[.int .i64 o.id, .int .i64 o.t, .int .i64 o.h, .int .i64 o.g, .int .i64 o.s, .int .i64 o.p, .int .i64 o.q, .int .i64 o.w] 42) := by rw [hw]; exact heap_alloc_new w4 _
        clear hw
        obtain ⟨V2, hV2, k2⟩ : ∃ V2, V2 = w5.drew ∧ Kep non w5 V2 := ⟨_, rfl, (Kep.refl _ _).drew⟩
        have hb6 := (k2.block w4.heap.size (Array.getElem?_eq_some_iff.1 hb5).1 (fun f => f)).trans hb5
        have KK := HK3.out.trans (k5.trans k2)
        have D5 := HD2.out V2 KK
        have cp2 := Desk.ptr D5
        have y0 := cell_of_row _ _ 0 _ _ _ hb6
        have y5 := cell_of_row _ _ 5 _ _ _ hb6
        have HV2 := hide hV2
        have qg := pk_lt s.g (n := 3) (by decide)
        have qn := pk_lt s.q (n := 300) (by decide)
        have hb7 := HB2.out V2 KK
        have z3 := cell_of_row _ _ 3 _ _ _ hb7
        have z5 := cell_of_row _ _ 5 _ _ _ hb7
        have HCh := hide (show Calls Try.prog 25 #[.pointer (some ⟨x, 0, none⟩), .int .i64 t, .int .i64 o.id, .int .i64 (o.p + pk s.g 3 - 1), .int .i64 (1 + pk s.q 300)] V2 fun e w' => (∃ v, e = .returned v) ∧ DsB w rs x N m w' from (D5.change HI.out hn t o.id (o.p + pk s.g 3 - 1) (1 + pk s.q 300)).mono fun e w' ⟨n, v, c, a, m', ⟨ts, C⟩, b⟩ => ⟨⟨_, a⟩, (Does.change HI.out hn C).deskB (by first | omega | (split <;> omega)) b⟩)
        have Pg := hide (HP.out.2.2 3 V2 (by omega) (by omega))
        have Pq := hide (HP.out.2.1 300 V2 (by omega) (by omega))
        rw [show Int.toNat 3 = 3 from rfl] at Pg
        rw [show Int.toNat 300 = 300 from rfl] at Pq
        have W7 := hide (show IntKind.i64.wrap (o.p + (pk s.g 3 : Int)) = o.p + (pk s.g 3 : Int) by rw [IntKind.wrap_i64]; omega)
        have W8 := hide (show IntKind.i64.wrap (o.p + (pk s.g 3 : Int) - 1) = o.p + (pk s.g 3 : Int) - 1 by rw [IntKind.wrap_i64]; omega)
        have W9 := hide (show IntKind.i64.wrap (1 + (pk s.q 300 : Int)) = 1 + (pk s.q 300 : Int) by rw [IntKind.wrap_i64]; omega)
        clear D5 KK k2 k5 hb5 hb6 hV2 o0 o1 o2 o3 o4 o5 o6 o7 b4' b0' HK3 hb7
        go_wp2_with fail
        refine region_tail 18 (by kernel_rfl) (by kernel_rfl) V2 HV2.out ?_
        simp only [List.take_succ_cons, List.take_zero, List.drop_succ_cons, List.drop_zero]
        repeat still_step
        still_call Pg.out
        repeat still_step
        still_call Pq.out
        repeat still_step
        refine wpStill_nil ?_
        (try rw [W7.out]); (try rw [W8.out]); (try rw [W9.out])
        go_wp2_with fail
        refine HCh.out.mono ?_
        rintro e w7 ⟨⟨c, rfl⟩, D7⟩
        have HR := hide D7
        clear D7 HCh cp2 y0 y5
        go_wp2
        go_end0
        exact ⟨rfl, HR.out⟩
  have n0 : ((kd : Int) == 0) = false := beq_eq_false_iff_ne.2 (by omega)
  have n1 : ((kd : Int) == 1) = false := beq_eq_false_iff_ne.2 (by omega)
  have n2 : ((kd : Int) == 2) = false := beq_eq_false_iff_ne.2 (by omega)
  have n3 : ((kd : Int) == 3) = false := beq_eq_false_iff_ne.2 (by omega)
  have n4 : ((kd : Int) == 4) = false := beq_eq_false_iff_ne.2 (by omega)
  have n5 : ((kd : Int) == 5) = false := beq_eq_false_iff_ne.2 (by omega)
  have n6 : ((kd : Int) == 6) = false := beq_eq_false_iff_ne.2 (by omega)
  have n7 : ((kd : Int) == 7) = false := beq_eq_false_iff_ne.2 (by omega)
  have HPl := hide (fun V' (k : Kep non V V') => show Calls Try.prog 19 #[.pointer (some ⟨x, 0, none⟩), (orderOf s rs.length).agg] V' fun e w' => (∃ v, e = .returned v) ∧ DsB w rs x N m w' from ((HD2.out V' k).place HI.out hn (orderOf s rs.length)).mono fun e w' ⟨v, a, b⟩ => ⟨⟨_, a⟩, (Does.place HI.out hn _).deskB (by first | omega | (split <;> omega)) b⟩)
  have HOd := hide (fun V' (k : Kep non V V') => HO.out V' (HC2.out V' k))
  have HW := hide (fun V' (k : Kep non V V') => show V'.cell? ⟨w.heap.size, 0, none⟩ = some (.pointer (some ⟨x, 0, none⟩)) ∧ V'.heap[W.heap.size]? = some (.cells #[.int .i64 s.k, .int .i64 s.t, .int .i64 s.h, .int .i64 s.g, .int .i64 s.p, .int .i64 s.q] 39) from ⟨Desk.ptr (HD2.out V' k), HB2.out V' k⟩)
  have hbV := HB2.out V (Kep.refl _ _)
  have b0 := cell_of_row _ _ 0 _ _ _ hbV
  have b1 := cell_of_row _ _ 1 _ _ _ hbV
  have b2 := cell_of_row _ _ 2 _ _ _ hbV
  have b3 := cell_of_row _ _ 3 _ _ _ hbV
  have HPtr := hide (fun V' (k : Kep non V V') => Desk.ptr (HD2.out V' k))
  clear DV c3 e0 e1 e2 e3 e4 e5 e6 e7 HB2 HC2 HO hbV HW HP P4 HD2
  unfold Stp.agg at HOd
  go_wp2_with fail
  clear n0 n1 n2 n3 n4 n5 n6 n7 hmo hs0 hs1 hR hT hG hn q1 q2 q3 q4
  go_region_with (first
    | (go_at_call 16; refine (HOd.out _ ?_).mono ?_; ((repeat (first | apply Kep.drew | apply Kep.alloc)); first | exact Kep.refl _ _ | assumption); rintro e w1 ⟨rfl, k1⟩; have K1 : Kep non V w1 := Kep.trans (by ((repeat (first | apply Kep.drew | apply Kep.alloc)); first | exact Kep.refl _ _ | assumption)) k1; have c1 := HPtr.out w1 K1; clear k1)
    | (go_at_call 19; refine (HPl.out _ ?_).mono ?_; ((repeat (first | apply Kep.drew | apply Kep.alloc)); first | exact Kep.refl _ _ | assumption); rintro e w2 ⟨⟨v, rfl⟩, D2⟩; have HR := hide D2; clear D2))
  all_goals go_wp2
  all_goals go_end0
  all_goals exact ⟨rfl, HR.out⟩

end

section
open Go.RowKit Go.Sort

theorem orderOf_u (s : Stp) {n : Nat} (hn : 1 ≤ n) : ∃ t h g sd, XU { orderOf s n with w := 3 } t h g sd n := by
  refine ⟨pk s.t 4, pk s.h n, pk s.g 2, pk s.p 2, rfl, pk_lt s.t (n := 4) (by omega), rfl, pk_lt s.h (n := n) (by omega), rfl, pk_lt s.g (n := 2) (by omega), rfl, pk_lt s.p (n := 2) (by omega), ?_, rfl⟩
  have h5 := pk_lt s.q (n := 300) (by omega)
  exact ⟨by simp only [orderOf]; omega, by simp only [orderOf]; omega⟩

theorem rowW {n lo : Nat} {α : Type} {cs : α → List Value} {A B : World} (k : Kep non A B) {l : List α} {va : Option Addr} (h : ∀ i, i < l.length → ∃ b, va = some ⟨b, 0, none⟩ ∧ (lo ≤ b ∧ b < A.heap.size) ∧ ∀ i (hi : i < l.length) j u, (cs l[i])[j]? = some u → A.cell? ⟨b, i * n + j, none⟩ = some u) : ∀ i, i < l.length → ∃ b, va = some ⟨b, 0, none⟩ ∧ (lo ≤ b ∧ b < B.heap.size) ∧ ∀ i (hi : i < l.length) j u, (cs l[i])[j]? = some u → B.cell? ⟨b, i * n + j, none⟩ = some u := fun i hi => by
  obtain ⟨b, h1, h2, h3⟩ := h i hi
  exact ⟨b, h1, ⟨h2.1, Nat.lt_of_lt_of_le h2.2 k.size⟩, fun i hi j u hu => k.cell (h3 i hi j u hu) (fun f => f)⟩

theorem own_of {m : Mt} {N : Int} (I : m.Inv N) {x : Od} {l : List Od} (T : Told m x.t l) {t h g s n : Nat} (ox : XU x t h g s n) (q : at3 m h g s) (hno : ∀ o ∈ l, crossB x o = false) : ∀ z ∈ m.bk h g (otherS s), z.t = x.t → pfits x z = false := fun z hz et => by
  have hs' : otherS s < 2 := by unfold otherS; split <;> omega
  have k := I.od h g (otherS s) z q.1 q.2.1 hs' hz
  have hm : z ∈ l := (T.mem z).2 ⟨mem_upH.2 ⟨h, g, otherS s, q.1, q.2.1, hs', hz⟩, et⟩
  have hc := hno z hm
  unfold crossB at hc
  have e1 : z.h = x.h := by rw [k.h, ox.eh]
  have e2 : z.g = x.g := by rw [k.g, ox.eg]
  have e3 : z.s ≠ x.s := by
    rw [k.s, ox.es]
    unfold otherS
    have := ox.ls
    split <;> omega
  simpa [e1, e2, e3] using hc

set_option maxRecDepth 1000000 in
set_option maxHeartbeats 16000000 in
theorem und_r1 {w : World} {rs : List Int} {X k SB : Nat} {m : Mt} {W : World} {s : Stp} (D : DeskB w rs X m W) (St : Stood rs k m) (hk : k ≤ 100) (hr1 : 1 ≤ rs.length ∧ rs.length ≤ 3) (rich : ∀ t, t < 4 → m.mo t < 1000000000) (sok : s.ok) (hS : ∀ j u, s.cells[j]? = some u → W.cell? ⟨SB, j, none⟩ = some u)
    (Post : Ending → World → Prop) (hP : ∀ W', Kep non w W' → Post (.returned (.bool true)) W') (u0 u1 u2 u3 u4 u6 u8 u9 u10 u11 u12 u13 u14 u15 u16 u17 u18 u19 u20 u21 u22 u23 u24 u25 u26 u27 u28 u29 u30 u31 u32 u33 u34 u35 u36 u37 u38 u39 u40 u41 u42 u43 u44 u45 u46 u47 u48 u49 u50 u51 u52 u53 u54 u55 u56 u57 u58 u59 u60 u61 u62 u63 u64 u65 u66 u67 u68 u69 u70 u71 u72 u73 u74 u75 u76 u77 u78 u79 u80 u81 u82 u83 u84 u85 u86 u87 u88 u89 u90 u91 u92 u93 u94 u95 u96 u97 u98 u99 u100 u101 u102 u103 u104 u105 u106 u107 u108 u109 u110 u111 u112 u113 u114 u115 u116 u117 u118 u119 u120 u121 u122 u123 u124 u125 u126 u127 u128 u129 u130 u131 u132 u133 u134 u135 u136 u137 u138 u139 u140 u141 u142 u143 u144 u145 u146 u147 u148 u149 u150 u151 u152 u153 u154 u155 u156 u157 u158 u159 u160 u161 u162 u163 u164 u165 u166 u167 u168 u169 u170 u171 u172 u173 u174 u175 u176 u177 u178 u179 u180 u181 u182 u183 u184 u185 u186 u187 u188 u189 u190 u191 u192 u193 u194 u195 u196 u197 u198 u199 u200 u201 u202 u203 u204 u205 u206 u207 u208 u209 u210 u211 u212 u213 u214 u215 u216 u217 u218 u219 u220 u221 u222 u223 u224 u225 u226 u227 u228 u229 u230 u231 u232 u233 u234 u235 u236 u237 u238 u239 u240 u241 u242 u243 u244 u245 u246 u247 u248 u249 u250 u251 u252 u253 u254 u255 u256 u257 u258 u259 u260 u261 u262 u263 u264 u265 u266 u267 u268 u269 u270 u271 u272 u273 u274 u275 u276 u277 u278 u279 u280 u281 u282 u283 u284 u285 u286 u287 u288 u289 u290 u291 u292 u293 u294 u295 u296 u297 u298 u299 u300 u301 u302 u303 u304 u305 u306 u307 u308 u309 u310 u311 u312 u313 u314 u315 u316 u317 u318 u319 u320 u321 u322 u323 u324 u325 u326 u327 u328 u329 u330 u331 u332 u333 u334 u335 u336 u337 u338 u339 u340 u341 u342 u343 u344 u345 u346 u347 u348 u349 u350 u351 u352 u353 u354 u355 u356 u357 u358 u359 u360 u361 u362 u363 u364 u365 u366 u367 u368 u369 u370 u371 u372 u373 u374 u375 u376 u377 u378 u379 : Value) :
    Code.wp Try.prog ((Try.f8.body.bind afterLoop).getD .skip) (bodyPost Try.prog Try.f8 Post) ⟨#[u0, u1, u2, u3, u4, .pointer (some ⟨SB, 0, none⟩), u6, .pointer (some ⟨w.heap.size, 0, none⟩), u8, u9, u10, u11, u12, u13, u14, u15, u16, u17, u18, u19, u20, u21, u22, u23, u24, u25, u26, u27, u28, u29, u30, u31, u32, u33, u34, u35, u36, u37, u38, u39, u40, u41, u42, u43, u44, u45, u46, u47, u48, u49, u50, u51, u52, u53, u54, u55, u56, u57, u58, u59, u60, u61, u62, u63, u64, u65, u66, u67, u68, u69, u70, u71, u72, u73, u74, u75, u76, u77, u78, u79, u80, u81, u82, u83, u84, u85, u86, u87, u88, u89, u90, u91, u92, u93, u94, u95, u96, u97, u98, u99, u100, u101, u102, u103, u104, u105, u106, u107, u108, u109, u110, u111, u112, u113, u114, u115, u116, u117, u118, u119, u120, u121, u122, u123, u124, u125, u126, u127, u128, u129, u130, u131, u132, u133, u134, u135, u136, u137, u138, u139, u140, u141, u142, u143, u144, u145, u146, u147, u148, u149, u150, u151, u152, u153, u154, u155, u156, u157, u158, u159, u160, u161, u162, u163, u164, u165, u166, u167, u168, u169, u170, u171, u172, u173, u174, u175, u176, u177, u178, u179, u180, u181, u182, u183, u184, u185, u186, u187, u188, u189, u190, u191, u192, u193, u194, u195, u196, u197, u198, u199, u200, u201, u202, u203, u204, u205, u206, u207, u208, u209, u210, u211, u212, u213, u214, u215, u216, u217, u218, u219, u220, u221, u222, u223, u224, u225, u226, u227, u228, u229, u230, u231, u232, u233, u234, u235, u236, u237, u238, u239, u240, u241, u242, u243, u244, u245, u246, u247, u248, u249, u250, u251, u252, u253, u254, u255, u256, u257, u258, u259, u260, u261, u262, u263, u264, u265, u266, u267, u268, u269, u270, u271, u272, u273, u274, u275, u276, u277, u278, u279, u280, u281, u282, u283, u284, u285, u286, u287, u288, u289, u290, u291, u292, u293, u294, u295, u296, u297, u298, u299, u300, u301, u302, u303, u304, u305, u306, u307, u308, u309, u310, u311, u312, u313, u314, u315, u316, u317, u318, u319, u320, u321, u322, u323, u324, u325, u326, u327, u328, u329, u330, u331, u332, u333, u334, u335, u336, u337, u338, u339, u340, u341, u342, u343, u344, u345, u346, u347, u348, u349, u350, u351, u352, u353, u354, u355, u356, u357, u358, u359, u360, u361, u362, u363, u364, u365, u366, u367, u368, u369, u370, u371, u372, u373, u374, u375, u376, u377, u378, u379], []⟩ W := by
  have HP := hide hP
  obtain ⟨t, h, g, sd, ox⟩ := orderOf_u s hr1.1
  have HOd := hide (show Calls Try.prog 16 #[.pointer (some ⟨w.heap.size, 0, none⟩), s.agg] W fun e w' => e = .returned (orderOf s rs.length).agg ∧ Kep non W w' from by
    obtain ⟨L, rv, pb, _, D'⟩ := D
    obtain ⟨rb, cap, er, _⟩ := D'.rr
    exact order_any W w.heap.size rb rs.length cap (by rw [← er]; exact D'.c3.cell) hr1 s sok)
  have b0 := hS 0 _ rfl
  have b1 := hS 1 _ rfl
  have b2 := hS 2 _ rfl
  have b3 := hS 3 _ rfl
  have b4 := hS 4 _ rfl
  have b5 := hS 5 _ rfl
  have HD := hide D
  have HSt := hide St
  clear hP hS D St
  generalize orderOf s rs.length = o at *
  have HOx := hide ox
  have rich' := rich t ox.lt
  have xs : o.s = 0 ∨ o.s = 1 := by have h1 : o.s = sd := ox.es; have := ox.ls; omega
  clear ox rich
  unfold Stp.agg at HOd
  unfold Od.agg at HOd
  conv => arg 2; whnf
  go_wp2_with fail
  refine HOd.out.mono ?_
  rintro e' W1 ⟨rfl, k1⟩
  have D1 := Desk.later HD.out k1
  have HD1 := hide D1
  clear b0 b1 b2 b3 b4 b5 HOd HD k1 D1
  have hb := heap_alloc_new W1 (.cells #[.int .i64 o.id, .int .i64 o.t, .int .i64 o.h, .int .i64 o.g, .int .i64 o.s, .int .i64 o.p, .int .i64 o.q, .int .i64 3] 42)
  have k2 : Kep non W1 (W1.alloc (.cells #[.int .i64 o.id, .int .i64 o.t, .int .i64 o.h, .int .i64 o.g, .int .i64 o.s, .int .i64 o.p, .int .i64 o.q, .int .i64 3] 42)) := (Kep.refl _ _).alloc _
  obtain ⟨x, hx⟩ : ∃ x : Od, x = { o with w := 3 } := ⟨_, rfl⟩
  rw [← hx] at HOx
  have HXc := hide (show ∀ j u, x.cells[j]? = some u → (W1.alloc (.cells #[.int .i64 o.id, .int .i64 o.t, .int .i64 o.h, .int .i64 o.g, .int .i64 o.s, .int .i64 o.p, .int .i64 o.q, .int .i64 3] 42)).cell? ⟨W1.heap.size, j, none⟩ = some u from fun j u hu => by
    rw [cell_of_row _ _ j _ _ _ hb]
    rw [hx] at hu
    simpa [Od.cells] using hu)
  have xs' : x.s = 0 ∨ x.s = 1 := by rw [hx]; exact xs
  have HK2 := hide k2
  have lX2 : W1.heap.size < (W1.alloc (.cells #[.int .i64 o.id, .int .i64 o.t, .int .i64 o.h, .int .i64 o.g, .int .i64 o.s, .int .i64 o.p, .int .i64 o.q, .int .i64 3] 42)).heap.size := by simp
  clear hb k2 xs
  go_wp2_with fail
  generalize W1.alloc (.cells #[.int .i64 o.id, .int .i64 o.t, .int .i64 o.h, .int .i64 o.g, .int .i64 o.s, .int .i64 o.p, .int .i64 o.q, .int .i64 3] 42) = W2 at *
  have htT : t < m.T := by rw [HSt.out.T]; exact HOx.out.lt
  have hhH : h < m.H := by rw [HSt.out.H]; exact HOx.out.lh
  have hgG : g < m.G := by rw [HSt.out.G]; exact HOx.out.lg
  have cp2 := Desk.ptr (Desk.later HD1.out HK2.out)
  have x1 := HXc.out 1 _ rfl
  have ld : w.heap.size < W2.heap.size := World.block_lt_of_cell? W2 _ cp2
  refine und_g10 (gs := stkTo m t m.H) (p := m.mo t) (q := m.held t) (t := x.t) cp2 x1 ld lX2 (fun V kV => ?_) _ _ _ _ _ _ _ _ _ _ _ _ _ _ _ _ _ _ _ _ _ _ _ _ _ _ _ _ _ _ _ _ _ _ _ _ _ _ _ _ _ _ _ _ _ _ _ _ _ _ _ _ _ _ _ _ _ _ _ _ _ _ _ _ _ _ _ _ _ _ _ _ _ _ _ _ _ _ _ _ _ _ _ _ _ _ _ _ _ _ _ _ _ _ _ _ _ _ _ _ _ _ _ _ _ _ _ _ _ _ _ _ _ _ _ _ _ _ _ _ _ _ _ _ _ _ _ _ _ _ _ _ _ _ _ _ _ _ _ _ _ _ _ _ _ _ _ _ _ _ _ _ _ _ _ _ _ _ _ _ _ _ _ _ _ _ _ _ _ _ _ _ _ _ _ _ _ _ _ _ _ _ _ _ _ _ _ _ _ _ _ _ _ _ _ _ _ _ _ _ _ _ _ _ _ _ _ _ _ _ _ _ _ _ _ _ _ _ _ _ _ _ _ _ _ _ _ _ _ _ _ _ _ _ _ _ _ _ _ _ _ _ _ _ _ _ _ _ _ _ _ _ _ _ _ _ _ _ _ _ _ _ _ _ _ _ _ _ _ _ _ _ _ _ _ _ _ _ _ _ _ _ _ _ _ _ _ _ _ _ _ _ _ _ _ _ _ _ _ _ _ _ _ _ _ _ _ _ _ _ _ _ _ _ _ _ _ _ _ _ _ _ _ _ _ _ _ _ _ _ _ _ _ _ _ _ _ _ _ _ _ _ _ _ _ _ _ _ _ _ _ _ _ _ _ _ _ _ _ _ _ _ _ _ _ _ _ _ _ _ _ _ _ _ _ _ _ _ _ ?_
  · rw [HOx.out.et]
    refine (Desk.account (Desk.later HD1.out (HK2.out.trans kV)) HSt.out.inv (t := t) htT).mono fun e w3 ⟨k3, v, h1, h2⟩ => ?_
    obtain ⟨va', vc', rfl⟩ := row_form h2
    exact ⟨va', vc', h1, k3, h2⟩
  intro n67 n68 n69 n70 n71 n72 n73 n74 n75 n76 aa ya yc W3 k3 hab hA3 rA3
  have HK3 := hide k3
  have HA3 := hide hA3
  have s2 := HK2.out.size
  have s3 := k3.size
  have laa : aa < W3.heap.size := (Array.getElem?_eq_some_iff.1 hA3).1
  have HrA3 := hide (show ∀ i, i < (stkTo m t m.H).length → ∃ b, ya = some ⟨b, 0, none⟩ ∧ (W1.heap.size ≤ b ∧ b < W3.heap.size) ∧ ∀ i (hi : i < (stkTo m t m.H).length) j u, (stkTo m t m.H)[i].cells[j]? = some u → W3.cell? ⟨b, i * 5 + j, none⟩ = some u from fun i hi => by
    obtain ⟨b, h1, h2, h3⟩ := srow_at rA3 i hi
    exact ⟨b, h1, ⟨by omega, World.block_lt_of_cell? W3 ⟨b, i * 5 + 0, none⟩ (h3 i hi 0 _ rfl)⟩, h3⟩)
  have cp3 := k3.cell cp2 (fun f => f)
  have y2 := k3.cell (HXc.out 2 _ rfl) (fun f => f)
  have y3 := k3.cell (HXc.out 3 _ rfl) (fun f => f)
  rw [HOx.out.eh] at y2
  rw [HOx.out.eg] at y3
  clear k3 hA3 rA3 cp2 x1
  go_wp2_with fail
  refine und_g11 (fun v u wx => BookPost W3.drew m h g (.returned (.tuple #[v, u, .int .i64 0])) wx) cp3 y2 y3 ?_ _ _ _ _ _ _ _ _ _ _ _ _ _ _ _ _ _ _ _ _ _ _ _ _ _ _ _ _ _ _ _ _ _ _ _ _ _ _ _ _ _ _ _ _ _ _ _ _ _ _ _ _ _ _ _ _ _ _ _ _ _ _ _ _ _ _ _ _ _ _ _ _ _ _ _ _ _ _ _ _ _ _ _ _ _ _ _ _ _ _ _ _ _ _ _ _ _ _ _ _ _ _ _ _ _ _ _ _ _ _ _ _ _ _ _ _ _ _ _ _ _ _ _ _ _ _ _ _ _ _ _ _ _ _ _ _ _ _ _ _ _ _ _ _ _ _ _ _ _ _ _ _ _ _ _ _ _ _ _ _ _ _ _ _ _ _ _ _ _ _ _ _ _ _ _ _ _ _ _ _ _ _ _ _ _ _ _ _ _ _ _ _ _ _ _ _ _ _ _ _ _ _ _ _ _ _ _ _ _ _ _ _ _ _ _ _ _ _ _ _ _ _ _ _ _ _ _ _ _ _ _ _ _ _ _ _ _ _ _ _ _ _ _ _ _ _ _ _ _ _ _ _ _ _ _ _ _ _ _ _ _ _ _ _ _ _ _ _ _ _ _ _ _ _ _ _ _ _ _ _ _ _ _ _ _ _ _ _ _ _ _ _ _ _ _ _ _ _ _ _ _ _ _ _ _ _ _ _ _ _ _ _ _ _ _ _ _ _ _ _ _ _ _ _ _ _ _ _ _ _ _ _ _ _ _ _ _ _ _ _ _ _ _ _ _ _ _ _ _ _ _ _ _ _ _ _ _ _ _ _ _ _ _ _ _ _ _ _ _ _ _ _ _ _ _ _ _ _ _ ?_
  · refine (Desk.bookU (Desk.later HD1.out (HK2.out.trans HK3.out.drew)) HSt.out.inv (h := h) (g := g) hhH hgG).mono fun e w4 hb => ?_
    obtain ⟨v, u, B, h1, h2⟩ := hb
    exact ⟨v, u, h1, v, u, B, rfl, h2⟩
  intro p77 p78 p79 p80 p81 p82 p83 p84 p85 p86 p87 p88 p89 v u W4 hb
  obtain ⟨v', u', B, ev, q1, q2, q3, q4, q5, q6⟩ := hb
  have ev' : v = v' ∧ u = u' := by simpa using ev
  obtain ⟨rfl, rfl⟩ := ev'
  obtain ⟨va, vc, rfl⟩ := row_form q1
  obtain ⟨ua, uc, rfl⟩ := row_form q2
  have k4 : Kep non W3 W4 := ((Kep.refl non W3).drew).trans (Kep.of_below q6)
  have s4 := k4.size
  have HR0 := hide (show ∀ i, i < (lvL (m.bk h g 0)).length → ∃ b, va = some ⟨b, 0, none⟩ ∧ (W1.heap.size ≤ b ∧ b < W4.heap.size) ∧ ∀ i (hi : i < (lvL (m.bk h g 0)).length) j u, (lvL (m.bk h g 0))[i].cells[j]? = some u → W4.cell? ⟨b, i * 3 + j, none⟩ = some u from fun i hi => by
    obtain ⟨b, h1, h2, h3⟩ := lvrow q1 i hi
    have h4 : W3.heap.size ≤ b := h2.1
    exact ⟨b, h1, ⟨by omega, h2.2⟩, h3⟩)
  have HR1 := hide (show ∀ i, i < (lvL (m.bk h g 1)).length → ∃ b, ua = some ⟨b, 0, none⟩ ∧ (W1.heap.size ≤ b ∧ b < W4.heap.size) ∧ ∀ i (hi : i < (lvL (m.bk h g 1)).length) j u, (lvL (m.bk h g 1))[i].cells[j]? = some u → W4.cell? ⟨b, i * 3 + j, none⟩ = some u from fun i hi => by
    obtain ⟨b, h1, h2, h3⟩ := lvrow q2 i hi
    have h4 : W3.heap.size < B := q3
    exact ⟨b, h1, ⟨by omega, h2.2⟩, h3⟩)
  have HK4 := hide (HK3.out.trans k4)
  have cp4 := k4.cell cp3 (fun f => f)
  have y1 := HK4.out.cell (HXc.out 1 _ rfl) (fun f => f)
  have okt : okI m.T x.t := ⟨by have := HOx.out.et; omega, by rw [HOx.out.et]; omega⟩
  have HOr := hide (DeskB.ords (Desk.later HD1.out (HK2.out.trans HK4.out.drew)) HSt.out.inv HSt.out.jn okt)
  have HA4 := hide ((k4.block aa laa (fun f => f)).trans HA3.out)
  have HrA4 := hide (rowW (cs := Sk.cells) k4 HrA3.out)
  clear q1 q2 q3 q4 q5 q6 ev k4 cp3 y2 y3 HA3 HrA3 HK3
  go_wp2_with fail
  refine und_g12 (fun l2 va2 wx => OrdIn m x.t W4.drew l2 va2 wx) cp4 y1 HOr.out _ _ _ _ _ _ _ _ _ _ _ _ _ _ _ _ _ _ _ _ _ _ _ _ _ _ _ _ _ _ _ _ _ _ _ _ _ _ _ _ _ _ _ _ _ _ _ _ _ _ _ _ _ _ _ _ _ _ _ _ _ _ _ _ _ _ _ _ _ _ _ _ _ _ _ _ _ _ _ _ _ _ _ _ _ _ _ _ _ _ _ _ _ _ _ _ _ _ _ _ _ _ _ _ _ _ _ _ _ _ _ _ _ _ _ _ _ _ _ _ _ _ _ _ _ _ _ _ _ _ _ _ _ _ _ _ _ _ _ _ _ _ _ _ _ _ _ _ _ _ _ _ _ _ _ _ _ _ _ _ _ _ _ _ _ _ _ _ _ _ _ _ _ _ _ _ _ _ _ _ _ _ _ _ _ _ _ _ _ _ _ _ _ _ _ _ _ _ _ _ _ _ _ _ _ _ _ _ _ _ _ _ _ _ _ _ _ _ _ _ _ _ _ _ _ _ _ _ _ _ _ _ _ _ _ _ _ _ _ _ _ _ _ _ _ _ _ _ _ _ _ _ _ _ _ _ _ _ _ _ _ _ _ _ _ _ _ _ _ _ _ _ _ _ _ _ _ _ _ _ _ _ _ _ _ _ _ _ _ _ _ _ _ _ _ _ _ _ _ _ _ _ _ _ _ _ _ _ _ _ _ _ _ _ _ _ _ _ _ _ _ _ _ _ _ _ _ _ _ _ _ _ _ _ _ _ _ _ _ _ _ _ _ _ _ _ _ _ _ _ _ _ _ _ _ _ _ _ _ _ _ _ _ _ _ _ _ _ _ _ _ _ _ _ _ _ _ _ _ ?_
  intro r90 r91 r92 r93 r94 r95 r96 r97 r98 r99 wa l wc W5 ⟨T, k5, rW⟩
  have k45 : Kep non W4 W5 := ((Kep.refl non W4).drew).trans k5
  have hl60 := told_len T HSt.out.inv
  have K5 := HK4.out.trans k45
  have HX5 := hide (fun j u h => K5.cell (HXc.out j u h) (fun f => f))
  have HRw := hide (show ∀ i, i < l.length → ∃ b, wa = some ⟨b, 0, none⟩ ∧ ∀ i (hi : i < l.length) j u, l[i].cells[j]? = some u → W5.cell? ⟨b, i * 8 + j, none⟩ = some u from fun i hi => by
    obtain ⟨b, h1, _, h3⟩ := rW i hi
    exact ⟨b, h1, h3⟩)
  have HK5 := hide K5
  have HK45 := hide k45
  have HT := hide T
  clear T k5 rW K5 k45 cp4 y1 HOr
  go_wp2
  rename_i Kx hKx
  have HKx := hide hKx
  clear hKx
  refine und_l2 xs' hl60 HX5.out HRw.out _ _ _ _ _ _ _ _ _ _ _ _ _ _ _ _ _ _ _ _ _ _ _ _ _ _ _ _ _ _ _ _ _ _ _ _ _ _ _ _ _ _ _ _ _ _ _ _ _ _ _ _ _ _ _ _ _ _ _ _ _ _ _ _ _ _ _ _ _ _ _ _ _ _ _ _ _ _ _ _ _ _ _ _ _ _ _ _ _ _ _ _ _ _ _ _ _ _ _ _ _ _ _ _ _ _ _ _ _ _ _ _ _ _ _ _ _ _ _ _ _ _ _ _ _ _ _ _ _ _ _ _ _ _ _ _ _ _ _ _ _ _ _ _ _ _ _ _ _ _ _ _ _ _ _ _ _ _ _ _ _ _ _ _ _ _ _ _ _ _ _ _ _ _ _ _ _ _ _ _ _ _ _ _ _ _ _ _ _ _ _ _ _ _ _ _ _ _ _ _ _ _ _ _ _ _ _ _ _ _ _ _ _ _ _ _ _ _ _ _ _ _ _ _ _ _ _ _ _ _ _ _ _ _ _ _ _ _ _ _ _ _ _ _ _ _ _ _ _ _ _ _ _ _ _ _ _ _ _ _ _ _ _ _ _ _ _ _ _ _ _ _ _ _ _ _ _ _ _ _ _ _ _ _ _ _ _ _ _ _ _ _ _ _ _ _ _ _ _ _ _ _ _ _ _ _ _ _ _ _ _ _ _ _ _ _ _ _ _ _ _ _ _ _ _ _ _ _ _ _ _ _ _ _ _ _ _ _ _ _ _ _ _ _ _ _ _ _ _ _ _ _ _ _ _ _ _ _ _ _ _ _ _ _ _ _ _ _ _ _ _ _ _ _ _ _ _ _ ?_ ?_
  · intro t6 t18 t19 t100 t101 t102 t103 t104 t105 t106 t107 t108 t109 t110 t111 t112 t113 t114 t115 t116 t117 t118 t119 t120 t121 t122 t123 t124 t125 t126 t127 t128 t129 t130 t131 t132 t133 t134 t135 t136 t137 t138 t139 t140 t141 t142 t143 t144 t145 t146 t147 t148 t149 t150 t151 t152 t153 W6 hno k6
    have q : at3 m h g sd := ⟨hhH, hgG, HOx.out.ls⟩
    have K6 := HK2.out.trans (HK5.out.trans k6)
    have k46 := HK45.out.trans k6
    have z46 := k46.size
    refine HKx.out _ _ ?_
    exact und_r2 HD1.out HSt.out hk K6 HOx.out rich' (own_of HSt.out.inv HT.out HOx.out q hno) ⟨Nat.le_refl _, by omega⟩ (fun j u h => k6.cell (HX5.out j u h) (fun f => f)) ⟨by omega, by omega⟩ ((k46.block aa (by omega) (fun f => f)).trans HA4.out) (rowW (cs := Sk.cells) k46 HrA4.out) (rowW (cs := Lv.cells) k46 HR0.out) (rowW (cs := Lv.cells) k46 HR1.out) Post HP.out _ _ _ _ _ _ _ _ _ _ _ _ _ _ _ _ _ _ _ _ _ _ _ _ _ _ _ _ _ _ _ _ _ _ _ _ _ _ _ _ _ _ _ _ _ _ _ _ _ _ _ _ _ _ _ _ _ _ _ _ _ _ _ _ _ _ _ _ _ _ _ _ _ _ _ _ _ _ _ _ _ _ _ _ _ _ _ _ _ _ _ _ _ _ _ _ _ _ _ _ _ _ _ _ _ _ _ _ _ _ _ _ _ _ _ _ _ _ _ _ _ _ _ _ _ _ _ _ _ _ _ _ _ _ _ _ _ _ _ _ _ _ _ _ _ _ _ _ _ _ _ _ _ _ _ _ _ _ _ _ _ _ _ _ _ _ _ _ _ _ _ _ _ _ _ _ _ _ _ _ _ _ _ _ _ _ _ _ _ _ _ _ _ _ _ _ _ _ _ _ _ _ _ _ _ _ _ _ _ _ _ _ _ _ _ _ _ _ _ _ _ _ _ _ _ _ _ _ _ _ _ _ _ _ _ _ _ _ _ _ _ _ _ _ _ _ _ _ _ _ _ _ _ _ _ _ _ _ _ _ _ _ _ _ _ _ _ _ _ _ _ _ _ _ _ _ _ _ _ _ _ _ _ _ _ _ _ _ _ _ _ _ _ _ _ _ _ _ _ _ _ _ _ _ _ _ _ _ _ _ _ _ _ _ _ _ _ _ _ _ _ _ _ _ _ _ _ _ _ _ _ _ _ _ _ _ _ _ _ _ _ _ _ _ _ _ _ _ _ _ _ _ _ _ _ _ _ _ _ _ _ _ _ _ _ _ _ _ _ _ _ _ _ _ _
  · intro t18 t19 t100 t101 t102 t103 t104 t105 t106 t107 t108 t109 t110 t111 t112 t113 t114 t115 t116 t117 t118 t119 t120 t121 t122 t123 t124 t125 t126 t127 t128 t129 t130 t131 t132 t133 t134 t135 t136 t137 t138 t139 t140 t141 t142 t143 t144 t145 t146 t147 t148 t149 t150 t151 t152 t153 t17 W6 k6
    have HF := hide (HP.out _ ((Desk.kp HD1.out).trans (HK2.out.trans (HK5.out.trans k6))))
    clear HX5 HRw HKx
    go_wp2
    exact HF.out

theorem mo_le {m : Mt} {N : Int} (I : m.Inv N) {t : Nat} (ht : t < m.T) : m.mo t ≤ m.money := by
  rw [← sumM_money]
  have up : ∀ j, j ≤ m.T → ∀ i, i ≤ j → m.sumM i ≤ m.sumM j := fun j => by
    induction j with
    | zero => intro _ i hi; rw [show i = 0 by omega]; exact Int.le_refl _
    | succ j ih =>
      intro hj i hi
      by_cases e : i = j + 1
      · rw [e]; exact Int.le_refl _
      · have h1 := ih (by omega) i (by omega)
        have h2 := (I.ok.mo j (by omega)).1
        have h3 := (held_bd I.ok j).1
        simp only [Mt.sumM]
        omega
  have h1 := up m.T (Nat.le_refl _) (t + 1) ht
  have h2 := (sumM_bd I.ok t (by omega)).1
  have h3 := (held_bd I.ok t).1
  simp only [Mt.sumM] at h1
  omega

set_option maxRecDepth 1000000 in
set_option maxHeartbeats 16000000 in
theorem und_any (w : World) (v : Value) (rs : List Int) (hr : IntsAt w v rs) (hi : ∀ x ∈ rs, i64R x) (a : Option Addr) (c : Nat) (ss : List Stp) (S : StepsAt w a ss) (s : Stp) (sok : s.ok) :
    Calls Try.prog 8 #[v, .slice a ss.length c, s.agg] w fun e w' => e = .returned (.bool true) ∧ Kep non w w' := by
  obtain ⟨wA, hwA⟩ : ∃ wA, wA = w.alloc (.cells #[.int .i64 s.k, .int .i64 s.t, .int .i64 s.h, .int .i64 s.g, .int .i64 s.p, .int .i64 s.q] 39) := ⟨_, rfl⟩
  have kA : Kep non w wA := by rw [hwA]; exact (Kep.refl _ _).alloc _
  have hb := heap_alloc_new w (.cells #[.int .i64 s.k, .int .i64 s.t, .int .i64 s.h, .int .i64 s.g, .int .i64 s.p, .int .i64 s.q] 39)
  rw [← hwA] at hb
  have HSB := hide (show ∀ j u, s.cells[j]? = some u → wA.cell? ⟨w.heap.size, j, none⟩ = some u from fun j u hu => by
    rw [cell_of_row _ _ j _ _ _ hb]
    simpa [Stp.cells] using hu)
  have hrA : IntsAt wA v rs := hr.kep kA
  have HO := hide (opened_any wA v rs hrA hi)
  have HS := hide (show StepsAt wA a ss from fun i s hs => by
    obtain ⟨h1, b, off, h2, h3⟩ := S i s hs
    exact ⟨h1, b, off, h2, fun j u hu => kA.cell (h3 j u hu) (fun f => f)⟩)
  obtain ⟨os1, os2⟩ := open_sums rs
  have HT := hide (show ∀ W x, Desk wA (openR rs) x 4000000 (4000 * (openR rs).length) (4000 * (openR rs).length) (openM (openR rs)) W → DeskB wA (openR rs) x (openM (openR rs)) W from fun W x D => by
    unfold DeskB
    rw [os1, os2 0 (by decide), os2 1 (by decide)]
    exact D)
  have HZ := hide (stood_open rs)
  have HM := hide (show (openM (openR rs)).money ≤ 4000000 + 5000 * ((0 : Nat) : Int) by rw [os1]; decide)
  have hR := (openR_ok rs)
  obtain ⟨hR1, hR2, _⟩ := hR
  have HKA := hide kA
  have HwA := hide hwA
  clear hr hi S os1 os2 hrA hb kA hwA
  generalize openR rs = ro at *
  generalize openM ro = m0 at *
  unfold Stp.agg
  go_enter Try.func8, Try.ntmps8
  go_wp2_with fail
  rw [← HwA.out]
  refine HO.out.mono ?_
  rintro e w1 ⟨rfl, x, D1⟩
  have HD1 := hide (HT.out w1 x D1)
  clear D1 HO HT HwA
  go_wp2
  rename_i Kx hKx
  have HKx := hide hKx
  clear hKx
  go_loopw [8] (fun i wr => ∃ k : Nat, k ≤ ss.length ∧ k ≤ 60 ∧ i = .int .i64 k ∧ ∃ m, DeskB wA ro x m wr ∧ Stood ro k m ∧ m.money ≤ 4000000 + 5000 * (k : Int)) (fun i _ => 60 - (intOf i).toNat)
  case atStart => exact ⟨0, by omega, by omega, rfl, m0, HD1.out, HZ.out, HM.out⟩
  case round =>
    clear HD1 HZ HM
    obtain ⟨k, hk, hk2, rfl, m, D, S, M⟩ := hrel
    by_cases hlt : k < ss.length ∧ k < 60
    · obtain ⟨hlt1, hlt2⟩ := hlt
      obtain ⟨sok1, b, off, ha, hc⟩ := HS.out k ss[k] (by simp [hlt1])
      have nuk := S.nu
      have HDo := hide (does_bd D S.inv (by omega) ⟨hR1, hR2⟩ S.T S.G ss[k] sok1)
      have hK := D.kp
      have x0 := hK.cell (hc 0 _ rfl) (fun f => f)
      have x1 := hK.cell (hc 1 _ rfl) (fun f => f)
      have x2 := hK.cell (hc 2 _ rfl) (fun f => f)
      have x3 := hK.cell (hc 3 _ rfl) (fun f => f)
      have x4 := hK.cell (hc 4 _ rfl) (fun f => f)
      have x5 := hK.cell (hc 5 _ rfl) (fun f => f)
      simp only [Nat.add_zero] at x0
      have HSt := hide S
      have HM := hide M
      subst ha
      unfold Stp.agg at HDo
      clear D S hc hK sok1 HKx M
      generalize ss[k] = s1 at *
      have hlt1' : (k : Int) < (ss.length : Int) := by omega
      have hlt2' : (k : Int) < 60 := by omega
      go_wp2_with fail
      refine HDo.out.mono ?_
      rintro e w2 ⟨rfl, m2, mv, I2, n2, D2, M2⟩
      have HS2 := hide (HSt.out.step mv I2 n2)
      have HD2 := hide D2
      have HM2 := hide (show m2.money ≤ 4000000 + 5000 * ((k + 1 : Nat) : Int) by have := HM.out; omega)
      clear D2 mv I2 n2 HDo HSt x0 x1 x2 x3 x4 x5 M2 HM
      go_wp2
      exact ⟨⟨k + 1, by omega, by omega, by go_num, m2, HD2.out, HS2.out, HM2.out⟩, by simp [intOf]; omega⟩
    · have HD := hide D
      have HSt := hide S
      have HSc := hide (fun j u h => (Desk.kp D).cell (HSB.out j u h) (fun f => f))
      have HRi := hide (show ∀ t, t < 4 → m.mo t < 1000000000 from fun t ht => by
        have := mo_le S.inv (t := t) (by rw [S.T]; exact ht)
        omega)
      clear D S M
      have hor : ¬ (k : Int) < (ss.length : Int) ∨ ((k : Int) < (ss.length : Int) ∧ ¬ (k : Int) < 60) := by omega
      clear hlt
      rcases hor with h1 | ⟨h1, h2⟩
      all_goals
        go_wp2
        refine HKx.out _ _ ?_
        exact und_r1 HD.out HSt.out (by omega) ⟨hR1, hR2⟩ HRi.out sok HSc.out _ (fun W' kk => ⟨rfl, HKA.out.trans kk⟩) _ _ _ _ _ _ _ _ _ _ _ _ _ _ _ _ _ _ _ _ _ _ _ _ _ _ _ _ _ _ _ _ _ _ _ _ _ _ _ _ _ _ _ _ _ _ _ _ _ _ _ _ _ _ _ _ _ _ _ _ _ _ _ _ _ _ _ _ _ _ _ _ _ _ _ _ _ _ _ _ _ _ _ _ _ _ _ _ _ _ _ _ _ _ _ _ _ _ _ _ _ _ _ _ _ _ _ _ _ _ _ _ _ _ _ _ _ _ _ _ _ _ _ _ _ _ _ _ _ _ _ _ _ _ _ _ _ _ _ _ _ _ _ _ _ _ _ _ _ _ _ _ _ _ _ _ _ _ _ _ _ _ _ _ _ _ _ _ _ _ _ _ _ _ _ _ _ _ _ _ _ _ _ _ _ _ _ _ _ _ _ _ _ _ _ _ _ _ _ _ _ _ _ _ _ _ _ _ _ _ _ _ _ _ _ _ _ _ _ _ _ _ _ _ _ _ _ _ _ _ _ _ _ _ _ _ _ _ _ _ _ _ _ _ _ _ _ _ _ _ _ _ _ _ _ _ _ _ _ _ _ _ _ _ _ _ _ _ _ _ _ _ _ _ _ _ _ _ _ _ _ _ _ _ _ _ _ _ _ _ _ _ _ _ _ _ _ _ _ _ _ _ _ _ _ _ _ _ _ _ _ _ _ _ _ _ _ _ _ _ _ _ _ _ _ _ _ _ _ _ _ _ _ _ _ _ _ _ _ _ _ _ _ _ _ _ _ _ _ _ _ _ _ _ _ _ _ _ _ _ _ _ _ _ _ _ _ _ _ _ _ _ _ _ _ _ _ _

end

section
open Go.ChangeShapes Go.WideShapes Go.ChangeAt Go.RowKit Go.Deep

set_option maxRecDepth 100000 in
theorem undone_lifted (os : Os) (started : os.Started) (H : Type) (enc : TypeId × Value → H) :
    ReturnsInHanded {} Try.checked os 8 .any (Rows.undoneSpec.pre6 enc Try.prog Try.f8 Rows.undoneRow.domain false) (Rows.undoneSpec.post enc Try.prog Try.f8 false true false false) := by
  refine returnsInHanded_of_change (C := Try.checked) own started (by kernel_rfl) Try.func8
    (ChangeSpec.witness6 (enc := enc) (C := Try.checked) false ⟨#[], #[.slice none 0 0, .slice none 0 0, .agg #[.int .i64 0, .int .i64 0, .int .i64 0, .int .i64 0, .int .i64 0, .int .i64 0]], []⟩ 8 (by kernel_rfl) (by kernel_rfl) (by kernel_rfl) (by kernel_rfl)) ?_
  intro W base args ds gs before hval0 hW hcnd _
  have hval : ∀ (j : Nat) t v, Try.f8.params[j]? = some t → args[j]? = some v → Value.okWide Try.prog W .any base t v := hval0
  have hW' := hW
  obtain ⟨p, q, hA0, hV, rfl, hfz, hnd⟩ := hW
  have hA : DataW.TrodAll enc Try.prog W 0 (fun _ => true) true Try.f8.params.toList args.toList ds p := hA0
  rw [Try.params8] at hA hval
  obtain ⟨v0, vs0, d0, ds0, p0, q0, hargs, rfl, rfl, h0, r0⟩ := trodAll_cons hA
  obtain ⟨v1, vs1, d1, ds1, p1, q1, rfl, rfl, rfl, h1, r1⟩ := trodAll_cons r0
  obtain ⟨v2, vs2, d2, ds2, p2, q2, rfl, rfl, rfl, h2, r2⟩ := trodAll_cons r1
  obtain ⟨rfl, rfl, rfl⟩ := trodAll_nil r2
  obtain rfl : args = #[v0, v1, v2] := by cases args; simp_all
  obtain ⟨rfl, rfl⟩ := trodVars_none hV
  have o0 := hval 0 24 v0 rfl rfl
  have o1 := hval 1 37 v1 rfl rfl
  have o2 := hval 2 39 v2 rfl rfl
  obtain ⟨cs, rfl, _⟩ := okWide_struct Try.underlying39 o2
  obtain ⟨a0, len0, cap0, rfl⟩ := okWide_slice Try.underlying24 o0
  obtain ⟨a1, len, cap, rfl⟩ := okWide_slice Try.underlying37 o1
  have h0k := h0
  have h1k := h1
  have h2k := h2
  obtain ⟨fuel0, t0⟩ := h0
  obtain ⟨fuel1, t1⟩ := h1
  obtain ⟨fuel2, t2⟩ := h2
  obtain ⟨rs, R, hi⟩ := rates_of o0 t0
  obtain ⟨ss, hl, S⟩ := steps_of o1 t1
  subst hl
  obtain ⟨s, hcs, sok⟩ := step_of t2
  have ea : Value.agg cs = s.agg := by
    have e : cs = s.cells.toArray := by rw [← hcs]; simp [Value.cells]
    rw [e]; rfl
  have hlt0 : ∀ x ∈ p0, x.block < W.heap.size := fun x hx => hW'.lt x (by simp [hx])
  have hlt1 : ∀ x ∈ p1, x.block < W.heap.size := fun x hx => hW'.lt x (by simp [hx])
  have hlt2 : ∀ x ∈ p2, x.block < W.heap.size := fun x hx => hW'.lt x (by simp [hx])
  clear hA0 hval0
  rw [ea] at hW' h2k ⊢
  refine (und_any W _ rs R hi a1 cap ss S s sok).mono fun e W' ⟨he, hK⟩ => ?_
  subst he
  have hB := hK.bel
  refine ⟨_, rfl, [d0, d1, d2], [], p0 ++ (p1 ++ (p2 ++ [])) ++ [], [], p0 ++ (p1 ++ (p2 ++ [])), [], hW', ?_, ?_, rfl, hB.frame _, fun h => by cases h⟩
  · exact trodAll_cons_mk (shut_bool Try.underlying4 _) trodAll_mk0
  · exact trodAll_cons_mk (Below.trod laidOut (by kernel_rfl) (of_decide_eq_true (by kernel_rfl)) h0k hB hlt0) (trodAll_cons_mk (Below.trod laidOut (by kernel_rfl) (of_decide_eq_true (by kernel_rfl)) h1k hB hlt1) (trodAll_cons_mk (Below.trod laidOut (by kernel_rfl) (of_decide_eq_true (by kernel_rfl)) h2k hB hlt2) trodAll_mk0))

theorem undone_holds : Rows.UndoneSaid :=
  OpenClaim.holds_of_wide 8 Try.f8 rfl rfl rfl rfl rfl rfl rfl ⟨rfl, rfl, rfl, rfl, rfl⟩ rfl rfl rfl rfl rfl (by kernel_rfl) Try.func8 (by kernel_rfl)
    (of_decide_eq_true (by kernel_rfl)) (by unfold Func.isWrapper; first | (rw [if_pos (by decide +kernel)]; kernel_rfl) | (rw [if_neg (by decide +kernel)]; exact ⟨rfl, rfl⟩))
    (fun os started H enc _ => undone_lifted os started H enc)

end

end Go.Proofs.Ytcfoobhihhndjaa
