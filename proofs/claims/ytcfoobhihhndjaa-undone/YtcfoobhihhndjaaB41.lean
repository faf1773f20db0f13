/- The statements' desk: does, a step. -/
import Derived.BigQuiet
import Derived.Test.YtcfoobhihhndjaaB12
import Derived.Test.YtcfoobhihhndjaaB40
namespace Go.Proofs.Ytcfoobhihhndjaa

section
open Go.RowKit Go.Sort

/-- a desk, its bookings in order -/
def DeskB (w : World) (rs : List Int) (x : Nat) (m : Mt) (W : World) : Prop := Desk w rs x m.money (m.stock 0) (m.stock 1) m W

/-- behind a step -/
def DsE (w : World) (rs : List Int) (x : Nat) (N : Int) (m : Mt) (w' : World) : Prop := ∃ m', Moves m m' ∧ m'.Inv N ∧ m'.nu ≤ m.nu + 1 ∧ DeskB w rs x m' w'

theorem Does.desk {w : World} {rs : List Int} {x : Nat} {N : Int} {m m' : Mt} {mon p0 p1 : Int} {w' : World} (S : Does N m m.money (m.stock 0) (m.stock 1) m' mon p0 p1) (D : Desk w rs x mon p0 p1 m' w') : DsE w rs x N m w' := by
  refine ⟨m', S.mv, S.inv, S.nu, ?_⟩
  unfold DeskB
  have e1 : m'.money = mon := by have := S.mon; omega
  have e2 : m'.stock 0 = p0 := by have := S.s0; omega
  have e3 : m'.stock 1 = p1 := by have := S.s1; omega
  rw [e1, e2, e3]
  exact D

theorem Mt.Inv.money_bd {m : Mt} {N : Int} (I : m.Inv N) : 0 ≤ m.money ∧ m.money ≤ 1000000000000 := by
  have h1 := (sumM_bd I.ok m.T (Nat.le_refl _)).1
  rw [sumM_money] at h1
  have h2 := I.mon
  omega
theorem Mt.Inv.stock_bd {m : Mt} {N : Int} (I : m.Inv N) {g : Nat} (hg : g < m.G) : 0 ≤ m.stock g ∧ m.stock g ≤ 1000000 := by
  have h1 := (totTo_bd I.ok g hg m.T (Nat.le_refl _)).1
  rw [totTo_stock] at h1
  have h2 := I.stk g hg
  omega

theorem DsE.later {w : World} {rs : List Int} {x : Nat} {N : Int} {m : Mt} {w' w'' : World} (h : DsE w rs x N m w') (k : Kep non w' w'') : DsE w rs x N m w'' := by
  obtain ⟨m', h1, h2, h3, h4⟩ := h
  exact ⟨m', h1, h2, h3, Desk.later h4 k⟩

theorem odCells_at : ∀ (l : List Od) (k j : Nat) (hk : k < l.length), j < 8 → (odCells l)[k * 8 + j]? = l[k].cells[j]?
  | x :: r, 0, j, _, hj => by
    simp only [odCells, List.flatMap_cons, Nat.zero_mul, Nat.zero_add, List.getElem_cons_zero]
    rw [List.getElem?_append_left (by simpa [Od.cells] using hj)]
  | x :: r, k + 1, j, hk, hj => by
    have ih := odCells_at r k j (by simpa using hk) hj
    simp only [odCells, List.flatMap_cons, List.getElem_cons_succ] at ih ⊢
    rw [List.getElem?_append_right (by simp [Od.cells]; omega)]
    rw [← ih]
    congr 1
    simp [Od.cells]
    omega

set_option maxRecDepth 100000 in
set_option maxHeartbeats 8000000 in
theorem does_any {w : World} {rs : List Int} {x : Nat} {m : Mt} {W : World} {N : Int} (D : DeskB w rs x m W) (I : m.Inv N) (hn : m.nu + 1 ≤ N) (hR : 1 ≤ rs.length ∧ rs.length ≤ 3) (hT : m.T = 4) (hG : m.G = 2) (s : Stp) (hs : s.ok) :
    Calls Try.prog 15 #[.pointer (some ⟨w.heap.size, 0, none⟩), s.agg] W fun e w' => e = .returned (.tuple #[]) ∧ DsE w rs x N m w' := by
  obtain ⟨h0, h1, h2, h3, h4, h5⟩ := hs
  obtain ⟨rb, cap, hrv⟩ : ∃ rb cap, W.cell? ⟨w.heap.size, 3, none⟩ = some (.slice (some ⟨rb, 0, none⟩) rs.length cap) := by
    obtain ⟨L, rv, pb, _, D⟩ := D
    obtain ⟨rb, cap, e, _⟩ := D.rr
    exact ⟨rb, cap, by rw [← e]; exact D.c3.cell⟩
  obtain ⟨W1, hW1, kW, hb⟩ : ∃ W1, W1 = W.alloc (.cells #[.int .i64 s.k, .int .i64 s.t, .int .i64 s.h, .int .i64 s.g, .int .i64 s.p, .int .i64 s.q] 39) ∧ Kep non W W1 ∧ W1.heap[W.heap.size]? = some (.cells #[.int .i64 s.k, .int .i64 s.t, .int .i64 s.h, .int .i64 s.g, .int .i64 s.p, .int .i64 s.q] 39) := ⟨_, rfl, (Kep.refl _ _).alloc _, heap_alloc_new W _⟩
  have c3 := kW.cell hrv (fun f => f)
  have b0 := cell_of_row _ _ 0 _ _ _ hb
  have b1 := cell_of_row _ _ 1 _ _ _ hb
  have b2 := cell_of_row _ _ 2 _ _ _ hb
  have b3 := cell_of_row _ _ 3 _ _ _ hb
  have HB := hide (fun V (k : Kep non W1 V) => (k.block W.heap.size (Array.getElem?_eq_some_iff.1 hb).1 (fun f => f)).trans hb)
  have HD := hide (fun V (k : Kep non W1 V) => show DeskB w rs x m V from Desk.later D (kW.trans k))
  have HI := hide I
  have HC := hide (fun V (k : Kep non W1 V) => k.cell c3 (fun f => f))
  have P1 := hide (pickI s.t 4 · h1 (by omega) (by omega))
  have P2 := hide (pickI s.h rs.length · h2 (by omega) (by omega))
  have P3 := hide (pickI s.g 2 · h3 (by omega) (by omega))
  have P4 := hide (pickI s.k 14 · h0 (by omega) (by omega))
  have HP := hide (show (∀ (n : Int) V, 1 ≤ n → n ≤ 10000000 → Calls Try.prog 10 #[.int .i64 s.p, .int .i64 n] V fun e w' => e = .returned (.int .i64 (pk s.p n.toNat)) ∧ w' = V) ∧ (∀ (n : Int) V, 1 ≤ n → n ≤ 10000000 → Calls Try.prog 10 #[.int .i64 s.q, .int .i64 n] V fun e w' => e = .returned (.int .i64 (pk s.q n.toNat)) ∧ w' = V) ∧ (∀ (n : Int) V, 1 ≤ n → n ≤ 10000000 → Calls Try.prog 10 #[.int .i64 s.g, .int .i64 n] V fun e w' => e = .returned (.int .i64 (pk s.g n.toNat)) ∧ w' = V) from
    ⟨fun n V a b => pickI s.p n V h4 a b, fun n V a b => pickI s.q n V h5 a b, fun n V a b => pickI s.g n V h3 a b⟩)
  have HO := hide (fun (V : World) (c : V.cell? ⟨w.heap.size, 3, none⟩ = some (.slice (some ⟨rb, 0, none⟩) rs.length cap)) => order_any V w.heap.size rb rs.length cap c hR s ⟨h0, h1, h2, h3, h4, h5⟩)
  have q1 := pk_lt s.t (n := 4) (by decide)
  have q2 := pk_lt s.h (n := rs.length) (by omega)
  have q3 := pk_lt s.g (n := 2) (by decide)
  have q4 := pk_lt s.k (n := 14) (by decide)
  have HW1 := hide hW1
  clear D I hb hW1 h0 h1 h2 h3 h4 h5 kW hrv
  unfold Stp.agg
  go_enter Try.func15, Try.ntmps15
  go_wp2_with fail
  rw [← HW1.out]
  clear HW1
  refine (P1.out _).mono ?_
  rintro e w' ⟨rfl, hw⟩
  subst hw
  go_wp2_with fail
  go_quiet ((go_at_call 10; exact Calls.quiet_of_same (P2.out _)))
  go_wp2_with fail
  refine (P3.out _).mono ?_
  rintro e w' ⟨rfl, hw⟩
  subst hw
  go_wp2_with fail
  refine (P4.out _).mono ?_
  rintro e w' ⟨rfl, hw⟩
  subst hw
  rw [show Int.toNat 14 = 14 from rfl] at P4 ⊢
  have kV : Kep non w' (w'.drewN nq) := (Kep.refl _ _).drewN nq
  have HB2 := hide (fun V (k : Kep non (w'.drewN nq) V) => HB.out V (kV.trans k))
  have HD2 := hide (fun V (k : Kep non (w'.drewN nq) V) => HD.out V (kV.trans k))
  have HC2 := hide (fun V (k : Kep non (w'.drewN nq) V) => HC.out V (kV.trans k))
  clear HB HD HC P1 P2 P3 b0 b1 b2 b3 c3 kV
  generalize w'.drewN nq = V at *
  generalize pk s.t 4 = t at *
  generalize pk s.h rs.length = h at *
  generalize pk s.g 2 = g at *
  generalize pk s.k 14 = kd at *
  have DV := HD2.out V (Kep.refl _ _)
  have cp := Desk.ptr DV
  have hb := HB2.out V (Kep.refl _ _)
  have c3 := HC2.out V (Kep.refl _ _)
  have b4 := cell_of_row _ _ 4 _ _ _ hb
  have b5 := cell_of_row _ _ 5 _ _ _ hb
  have hmo := HI.out.money_bd
  have hs0 := HI.out.stock_bd (g := 0) (by omega)
  have hs1 := HI.out.stock_bd (g := 1) (by omega)
  clear hb
  by_cases e0 : kd = 0
  · subst e0
    have qn := pk_lt s.q (n := 5000) (by decide)
    have HPy := hide (DV.pay HI.out t (1 + pk s.q 5000))
    clear DV c3 b4
    go_wp2_with fail
    refine (HP.out.2.1 5000 _ (by omega) (by omega)).mono ?_
    rintro e w2 ⟨rfl, hw⟩
    subst hw
    rw [show Int.toNat 5000 = 5000 from rfl]
    go_wp2_with fail
    refine HPy.out.mono ?_
    rintro e w3 ⟨rfl, D3⟩
    obtain ⟨L3, rv3, pb3, e3, D3⟩ := D3
    obtain ⟨c4, f4⟩ := D3.c4
    generalize hN : (1 : Int) + (pk s.q 5000 : Int) = n at *
    by_cases hE : payE m t n = 0
    · have HR := hide (show DsE w rs x N m (w3.setCell ⟨w.heap.size, 4, none⟩ (.int .i64 (m.money + n))) from (Does.pay HI.out t n).desk ⟨L3, rv3, pb3, e3, by rw [if_pos hE]; exact D3.setMon _⟩)
      rw [hE]
      have hn2 : 1 ≤ n ∧ n ≤ 5000 := by omega
      clear D3 HPy hE cp
      go_wp2
      go_end0
      exact ⟨rfl, HR.out⟩
    · have HR := hide (show DsE w rs x N m w3 from (Does.pay HI.out t n).desk ⟨L3, rv3, pb3, e3, by rw [if_neg hE]; exact D3⟩)
      have hE' : (payE m t n == 0) = false := beq_eq_false_iff_ne.2 hE
      clear D3 HPy hE cp
      go_wp2
      go_end0
      exact ⟨rfl, HR.out⟩
  by_cases e1 : kd = 1
  · subst e1
    have qn := pk_lt s.q (n := 100000) (by decide)
    have HPy := hide (DV.draw HI.out t (1 + pk s.q 100000))
    clear DV c3 b4
    go_wp2_with fail
    refine (HP.out.2.1 100000 _ (by omega) (by omega)).mono ?_
    rintro e w2 ⟨rfl, hw⟩
    subst hw
    rw [show Int.toNat 100000 = 100000 from rfl]
    go_wp2_with fail
    refine HPy.out.mono ?_
    rintro e w3 ⟨rfl, D3⟩
    obtain ⟨L3, rv3, pb3, e3, D3⟩ := D3
    obtain ⟨c4, f4⟩ := D3.c4
    generalize hN : (1 : Int) + (pk s.q 100000 : Int) = n at *
    by_cases hE : drawE m t n = 0
    · have HR := hide (show DsE w rs x N m (w3.setCell ⟨w.heap.size, 4, none⟩ (.int .i64 (m.money - n))) from (Does.draw HI.out t n).desk ⟨L3, rv3, pb3, e3, by rw [if_pos hE]; exact D3.setMon _⟩)
      rw [hE]
      have hn2 : 1 ≤ n ∧ n ≤ 100000 := by omega
      clear D3 HPy hE cp
      go_wp2
      go_end0
      exact ⟨rfl, HR.out⟩
    · have HR := hide (show DsE w rs x N m w3 from (Does.draw HI.out t n).desk ⟨L3, rv3, pb3, e3, by rw [if_neg hE]; exact D3⟩)
      have hE' : (drawE m t n == 0) = false := beq_eq_false_iff_ne.2 hE
      clear D3 HPy hE cp
      go_wp2
      go_end0
      exact ⟨rfl, HR.out⟩
  by_cases e2 : kd = 2
  · subst e2
    have qn := pk_lt s.q (n := 300) (by decide)
    have HPy := hide (DV.bring HI.out t h g (1 + pk s.q 300))
    clear DV c3 b4
    go_wp2_with fail
    refine (HP.out.2.1 300 _ (by omega) (by omega)).mono ?_
    rintro e w2 ⟨rfl, hw⟩
    subst hw
    rw [show Int.toNat 300 = 300 from rfl]
    go_wp2_with fail
    refine HPy.out.mono ?_
    rintro e w3 ⟨rfl, D3⟩
    obtain ⟨L3, rv3, pb3, e3, D3⟩ := D3
    have c5 := D3.c5.cell
    generalize hN : (1 : Int) + (pk s.q 300 : Int) = n at *
    by_cases hE : bringE m t h g n = 0
    · obtain ⟨v, ⟨cv, fv⟩, hv0, HR⟩ : ∃ v : Int, Own w3 ⟨pb3, g, none⟩ (.int .i64 v) ∧ (0 ≤ v ∧ v ≤ 1000000) ∧ DsE w rs x N m (w3.setCell ⟨pb3, g, none⟩ (.int .i64 (v + n))) := by
        have S := Does.bring HI.out (mon := m.money) (p0 := m.stock 0) (p1 := m.stock 1) t h n g q3
        rcases (show g = 0 ∨ g = 1 by omega) with rfl | rfl
        · refine ⟨_, D3.q0, hs0, ?_⟩
          rw [if_pos ⟨hE, rfl⟩, if_neg (by simp)] at S
          have k := D3.setP 0 (by decide) (m.stock 0 + n)
          rw [if_pos rfl, if_neg (by decide)] at k
          exact S.desk ⟨L3, rv3, pb3, e3, k⟩
        · refine ⟨_, D3.q1, hs1, ?_⟩
          rw [if_neg (by simp), if_pos ⟨hE, rfl⟩] at S
          have k := D3.setP 1 (by decide) (m.stock 1 + n)
          rw [if_neg (by decide), if_pos rfl] at k
          exact S.desk ⟨L3, rv3, pb3, e3, k⟩
      have HRR := hide HR
      rw [hE]
      have hn2 : 1 ≤ n ∧ n ≤ 300 := by omega
      have q3' : (g : Int) < 2 := by omega
      clear D3 HPy hE cp HR hN
      go_wp2
      go_region
      all_goals go_wp2
      all_goals go_end0
      all_goals exact ⟨rfl, HRR.out.later ((Kep.refl _ _).drew)⟩
    · have HR := hide (show DsE w rs x N m w3 by
        have S := Does.bring HI.out (mon := m.money) (p0 := m.stock 0) (p1 := m.stock 1) t h n g q3
        rw [if_neg (fun f => hE f.1), if_neg (fun f => hE f.1)] at S
        exact S.desk ⟨L3, rv3, pb3, e3, D3⟩)
      have hE' : (bringE m t h g n == 0) = false := beq_eq_false_iff_ne.2 hE
      clear D3 HPy hE cp
      go_wp2
      go_end0
      exact ⟨rfl, HR.out⟩
  by_cases e3 : kd = 3
  · subst e3
    have qn := pk_lt s.q (n := 1200) (by decide)
    have HPy := hide (DV.take HI.out t h g (1 + pk s.q 1200))
    clear DV c3 b4
    go_wp2_with fail
    refine (HP.out.2.1 1200 _ (by omega) (by omega)).mono ?_
    rintro e w2 ⟨rfl, hw⟩
    subst hw
    rw [show Int.toNat 1200 = 1200 from rfl]
    go_wp2_with fail
    refine HPy.out.mono ?_
    rintro e w3 ⟨rfl, D3⟩
    obtain ⟨L3, rv3, pb3, e3, D3⟩ := D3
    have c5 := D3.c5.cell
    generalize hN : (1 : Int) + (pk s.q 1200 : Int) = n at *
    by_cases hE : takeE m t h g n = 0
    · obtain ⟨v, ⟨cv, fv⟩, hv0, HR⟩ : ∃ v : Int, Own w3 ⟨pb3, g, none⟩ (.int .i64 v) ∧ (0 ≤ v ∧ v ≤ 1000000) ∧ DsE w rs x N m (w3.setCell ⟨pb3, g, none⟩ (.int .i64 (v - n))) := by
        have S := Does.take HI.out (mon := m.money) (p0 := m.stock 0) (p1 := m.stock 1) t h n g q3
        rcases (show g = 0 ∨ g = 1 by omega) with rfl | rfl
        · refine ⟨_, D3.q0, hs0, ?_⟩
          rw [if_pos ⟨hE, rfl⟩, if_neg (by simp)] at S
          have k := D3.setP 0 (by decide) (m.stock 0 - n)
          rw [if_pos rfl, if_neg (by decide)] at k
          exact S.desk ⟨L3, rv3, pb3, e3, k⟩
        · refine ⟨_, D3.q1, hs1, ?_⟩
          rw [if_neg (by simp), if_pos ⟨hE, rfl⟩] at S
          have k := D3.setP 1 (by decide) (m.stock 1 - n)
          rw [if_neg (by decide), if_pos rfl] at k
          exact S.desk ⟨L3, rv3, pb3, e3, k⟩
      have HRR := hide HR
      rw [hE]
      have hn2 : 1 ≤ n ∧ n ≤ 1200 := by omega
      have q3' : (g : Int) < 2 := by omega
      clear D3 HPy hE cp HR hN
      go_wp2
      go_region
      all_goals go_wp2
      all_goals go_end0
      all_goals exact ⟨rfl, HRR.out.later ((Kep.refl _ _).drew)⟩
    · have HR := hide (show DsE w rs x N m w3 by
        have S := Does.take HI.out (mon := m.money) (p0 := m.stock 0) (p1 := m.stock 1) t h n g q3
        rw [if_neg (fun f => hE f.1), if_neg (fun f => hE f.1)] at S
        exact S.desk ⟨L3, rv3, pb3, e3, D3⟩)
      have hE' : (takeE m t h g n == 0) = false := beq_eq_false_iff_ne.2 hE
      clear D3 HPy hE cp
      go_wp2
      go_end0
      exact ⟨rfl, HR.out⟩
  by_cases e4 : kd = 4
  · subst e4
    have qn := pk_lt s.q (n := 500) (by decide)
    have qp := pk_lt s.p (n := rs.length) (by omega)
    obtain ⟨V2, hV2, k2⟩ : ∃ V2, V2 = V.drew ∧ Kep non V V2 := ⟨_, rfl, (Kep.refl _ _).drew⟩
    have cp2 := k2.cell cp (fun f => f)
    have c32 := k2.cell c3 (fun f => f)
    have b42 := k2.cell b4 (fun f => f)
    have b52 := k2.cell b5 (fun f => f)
    have HSh := hide (show Calls Try.prog 12 #[.pointer (some ⟨x, 0, none⟩), .int .i64 t, .int .i64 h, .int .i64 (pk s.p rs.length), .int .i64 g, .int .i64 (1 + pk s.q 500)] V2 fun e w' => (∃ c, e = .returned (.int .i64 c)) ∧ DsE w rs x N m w' from ((HD2.out V2 k2).ship HI.out t h (pk s.p rs.length) g (1 + pk s.q 500)).mono fun e w' ⟨a, b⟩ => ⟨⟨_, a⟩, (Does.ship HI.out _ _ _ _ _).desk b⟩)
    have Pp := hide (HP.out.1 rs.length V2 (by omega) (by omega))
    have Pq := hide (HP.out.2.1 500 V2 (by omega) (by omega))
    rw [Int.toNat_natCast] at Pp
    rw [show Int.toNat 500 = 500 from rfl] at Pq
    have W9 := hide (show IntKind.i64.wrap (1 + (pk s.q 500 : Int)) = 1 + (pk s.q 500 : Int) by rw [IntKind.wrap_i64]; omega)
    have HV2 := hide hV2
    clear DV cp c3 b4 b5 hV2 k2
    go_wp2_with fail
    refine region_tail 19 (by kernel_rfl) (by kernel_rfl) V2 HV2.out ?_
    simp only [List.take_succ_cons, List.take_zero, List.drop_succ_cons, List.drop_zero]
    repeat still_step
    still_call Pp.out
    repeat still_step
    still_call Pq.out
    repeat still_step
    refine wpStill_nil ?_
    rw [W9.out]
    go_wp2_with fail
    refine HSh.out.mono ?_
    rintro e w3 ⟨⟨c, rfl⟩, D3⟩
    have HR := hide D3
    clear D3 HSh Pp Pq cp2 c32 b42 b52
    go_wp2
    go_end0
    exact ⟨rfl, HR.out⟩
  by_cases e5 : kd = 5
  · subst e5
    have HTi := hide ((DV.tick HI.out).mono fun e w' ⟨a, b⟩ => And.intro a (show DsE w rs x N m w' from (Does.tick HI.out).desk b))
    clear DV c3 b4 b5
    go_wp2_with fail
    refine HTi.out.mono ?_
    rintro e w3 ⟨rfl, D3⟩
    have HR := hide D3
    clear D3 HTi cp
    go_wp2
    go_end0
    exact ⟨rfl, HR.out⟩
  by_cases e6 : kd = 6
  · subst e6
    have okt : okI m.T t := ⟨by omega, by omega⟩
    have HOr := hide (DV.orders HI.out t)
    clear DV c3
    go_wp2_with fail
    refine HOr.out.mono ?_
    rintro e w3 ⟨⟨k3, hO⟩, D3⟩
    rcases hO with ⟨f, _⟩ | ⟨_, v, l, hperm, _, hrow, rfl⟩
    · exact absurd okt f
    · obtain ⟨va, vc, rfl⟩ := row_form hrow
      have hl60 : l.length ≤ 60 := by
        have h1 := hperm.length_eq
        have h2 := ofT_len (t : Int) m.all
        have h3 := HI.out.a60
        omega
      by_cases hl : l.length = 0
      · have HR := hide (show DsE w rs x N m w3 from (Does.same HI.out).desk D3)
        rw [hl]
        clear D3 HOr hrow hperm k3 cp b4 b5
        go_wp2
        go_end0
        exact ⟨rfl, HR.out⟩
      · have qi := pk_lt s.p (n := l.length) (by omega)
        have hb3 := HB2.out w3 k3
        have b4' := cell_of_row _ _ 4 _ _ _ hb3
        have b0' := cell_of_row _ _ 0 _ _ _ hb3
        have lwb : W.heap.size < w3.heap.size := (Array.getElem?_eq_some_iff.1 hb3).1
        obtain ⟨ob, oc, ov, _, _⟩ := hrow.form (by omega)
        simp only [Value.slice.injEq, true_and] at ov
        obtain ⟨rfl, rfl⟩ := ov
        have hmem : l[pk s.p l.length] ∈ m.all ∧ l[pk s.p l.length].t = t := by
          have := hperm.subset (List.getElem_mem qi)
          unfold ofT at this
          simpa using List.mem_filter.1 this
        have hcell : ∀ j u, l[pk s.p l.length].cells[j]? = some u → w3.cell? ⟨ob, pk s.p l.length * 8 + j, none⟩ = some u := fun j u hu => by
          have hj : j < 8 := by have := (List.getElem?_eq_some_iff.1 hu).1; simpa [Od.cells] using this
          rw [hrow.cellAt _ (by omega), odCells_at _ _ j qi hj]
          simpa using hu
        have Pp := hide (HP.out.1 l.length w3 (by omega) (by omega))
        rw [Int.toNat_natCast] at Pp
        have o0 := hcell 0 _ rfl
        have o1 := hcell 1 _ rfl
        have o2 := hcell 2 _ rfl
        have o3 := hcell 3 _ rfl
        have o4 := hcell 4 _ rfl
        have o5 := hcell 5 _ rfl
        have o6 := hcell 6 _ rfl
        have o7 := hcell 7 _ rfl
        simp only [Nat.add_zero] at o0
        obtain ⟨_, _, ⟨op1, op2⟩, _⟩ := HI.out.ok.all_ok hmem.1
        have HK3 := hide k3
        generalize hiI : pk s.p l.length = i at *
        generalize l[i] = o at *
        have hl' : (0 : Int) < (l.length : Int) := by omega
        have qi' : (i : Int) < (l.length : Int) := by omega
        clear hcell hperm hrow hmem HOr k3 hb3 b4 b5 cp D3
        go_wp2_with fail
        refine Pp.out.mono ?_
        rintro e w4 ⟨rfl, hw⟩
        subst hw
        go_wp2_with fail
        refine (P4.out _).mono ?_
        rintro e w5 ⟨rfl, hw⟩
        have k5 : Kep non w4 w5 := by rw [hw]; exact (Kep.refl _ _).alloc _
        have hb5 : w5.heap[w4.heap.size]? = some (.cells #[.int .i64 o.id, .int .i64 o.t, .int .i64 o.h, .int .i64 o.g, .int .i64 o.s, .int .i64 o.p, .int .i64 o.q, .int .i64 o.w] 42) := by rw [hw]; exact heap_alloc_new w4 _
        clear hw
        obtain ⟨V2, hV2, k2⟩ : ∃ V2, V2 = w5.drew ∧ Kep non w5 V2 := ⟨_, rfl, (Kep.refl _ _).drew⟩
        have hb6 := (k2.block w4.heap.size (Array.getElem?_eq_some_iff.1 hb5).1 (fun f => f)).trans hb5
        have KK := HK3.out.trans (k5.trans k2)
        have D5 := HD2.out V2 KK
        have cp2 := Desk.ptr D5
        have y0 := cell_of_row _ _ 0 _ _ _ hb6
        have y5 := cell_of_row _ _ 5 _ _ _ hb6
        have HV2 := hide hV2
        have HCa := hide (show Calls Try.prog 26 #[.pointer (some ⟨x, 0, none⟩), .int .i64 t, .int .i64 o.id] V2 fun e w' => (∃ c, e = .returned (.int .i64 c)) ∧ DsE w rs x N m w' from (D5.cancel HI.out t o.id).mono fun e w' ⟨c, a, m', C, b⟩ => ⟨⟨c, a⟩, (Does.cancel HI.out C).desk b⟩)
        clear D5 KK k2 k5 hb5 hb6 hV2 y5 o0 o1 o2 o3 o4 o5 o6 o7 b4' b0' HK3
        go_wp2_with fail
        refine region_tail 7 (by kernel_rfl) (by kernel_rfl) V2 HV2.out ?_
        simp only [List.take_succ_cons, List.take_zero, List.drop_succ_cons, List.drop_zero]
        repeat still_step
        refine wpStill_nil ?_
        go_wp2_with fail
        refine HCa.out.mono ?_
        rintro e w7 ⟨⟨c, rfl⟩, D7⟩
        have HR := hide D7
        clear D7 HCa cp2 y0
        go_wp2
        go_end0
        exact ⟨rfl, HR.out⟩
  by_cases e7 : kd = 7
  · subst e7
    have okt : okI m.T t := ⟨by omega, by omega⟩
    have HOr := hide (DV.orders HI.out t)
    clear DV c3
    go_wp2_with fail
    refine HOr.out.mono ?_
    rintro e w3 ⟨⟨k3, hO⟩, D3⟩
    rcases hO with ⟨f, _⟩ | ⟨_, v, l, hperm, _, hrow, rfl⟩
    · exact absurd okt f
    · obtain ⟨va, vc, rfl⟩ := row_form hrow
      have hl60 : l.length ≤ 60 := by
        have h1 := hperm.length_eq
        have h2 := ofT_len (t : Int) m.all
        have h3 := HI.out.a60
        omega
      by_cases hl : l.length = 0
      · have HR := hide (show DsE w rs x N m w3 from (Does.same HI.out).desk D3)
        rw [hl]
        clear D3 HOr hrow hperm k3 cp b4 b5
        go_wp2
        go_end0
        exact ⟨rfl, HR.out⟩
      · have qi := pk_lt s.p (n := l.length) (by omega)
        have hb3 := HB2.out w3 k3
        have b4' := cell_of_row _ _ 4 _ _ _ hb3
        have b0' := cell_of_row _ _ 0 _ _ _ hb3
        have lwb : W.heap.size < w3.heap.size := (Array.getElem?_eq_some_iff.1 hb3).1
        obtain ⟨ob, oc, ov, _, _⟩ := hrow.form (by omega)
        simp only [Value.slice.injEq, true_and] at ov
        obtain ⟨rfl, rfl⟩ := ov
        have hmem : l[pk s.p l.length] ∈ m.all ∧ l[pk s.p l.length].t = t := by
          have := hperm.subset (List.getElem_mem qi)
          unfold ofT at this
          simpa using List.mem_filter.1 this
        have hcell : ∀ j u, l[pk s.p l.length].cells[j]? = some u → w3.cell? ⟨ob, pk s.p l.length * 8 + j, none⟩ = some u := fun j u hu => by
          have hj : j < 8 := by have := (List.getElem?_eq_some_iff.1 hu).1; simpa [Od.cells] using this
          rw [hrow.cellAt _ (by omega), odCells_at _ _ j qi hj]
          simpa using hu
        have Pp := hide (HP.out.1 l.length w3 (by omega) (by omega))
        rw [Int.toNat_natCast] at Pp
        have o0 := hcell 0 _ rfl
        have o1 := hcell 1 _ rfl
        have o2 := hcell 2 _ rfl
        have o3 := hcell 3 _ rfl
        have o4 := hcell 4 _ rfl
        have o5 := hcell 5 _ rfl
        have o6 := hcell 6 _ rfl
        have o7 := hcell 7 _ rfl
        simp only [Nat.add_zero] at o0
        obtain ⟨_, _, ⟨op1, op2⟩, _⟩ := HI.out.ok.all_ok hmem.1
        have HK3 := hide k3
        generalize hiI : pk s.p l.length = i at *
        generalize l[i] = o at *
        have hl' : (0 : Int) < (l.length : Int) := by omega
        have qi' : (i : Int) < (l.length : Int) := by omega
        clear hcell hperm hrow hmem HOr k3 hb3 b4 b5 cp D3
        go_wp2_with fail
        refine Pp.out.mono ?_
        rintro e w4 ⟨rfl, hw⟩
        subst hw
        go_wp2_with fail
        refine (P4.out _).mono ?_
        rintro e w5 ⟨rfl, hw⟩
        have k5 : Kep non w4 w5 := by rw [hw]; exact (Kep.refl _ _).alloc _
        have hb5 : w5.heap[w4.heap.size]? = some (.cells #[.int .i64 o.id, .int .i64 o.t, .int .i64 o.h, .int .i64 o.g, .int .i64 o.s, .int .i64 o.p, .int .i64 o.q, .int .i64 o.w] 42) := by rw [hw]; exact heap_alloc_new w4 _
        clear hw
        obtain ⟨V2, hV2, k2⟩ : ∃ V2, V2 = w5.drew ∧ Kep non w5 V2 := ⟨_, rfl, (Kep.refl _ _).drew⟩
        have hb6 := (k2.block w4.heap.size (Array.getElem?_eq_some_iff.1 hb5).1 (fun f => f)).trans hb5
        have KK := HK3.out.trans (k5.trans k2)
        have D5 := HD2.out V2 KK
        have cp2 := Desk.ptr D5
        have y0 := cell_of_row _ _ 0 _ _ _ hb6
        have y5 := cell_of_row _ _ 5 _ _ _ hb6
        have HV2 := hide hV2
        have qg := pk_lt s.g (n := 3) (by decide)
        have qn := pk_lt s.q (n := 300) (by decide)
        have hb7 := HB2.out V2 KK
        have z3 := cell_of_row _ _ 3 _ _ _ hb7
        have z5 := cell_of_row _ _ 5 _ _ _ hb7
        have HCh := hide (show Calls Try.prog 25 #[.pointer (some ⟨x, 0, none⟩), .int .i64 t, .int .i64 o.id, .int .i64 (o.p + pk s.g 3 - 1), .int .i64 (1 + pk s.q 300)] V2 fun e w' => (∃ v, e = .returned v) ∧ DsE w rs x N m w' from (D5.change HI.out hn t o.id (o.p + pk s.g 3 - 1) (1 + pk s.q 300)).mono fun e w' ⟨n, v, c, a, m', ⟨ts, C⟩, b⟩ => ⟨⟨_, a⟩, (Does.change HI.out hn C).desk b⟩)
        have Pg := hide (HP.out.2.2 3 V2 (by omega) (by omega))
        have Pq := hide (HP.out.2.1 300 V2 (by omega) (by omega))
        rw [show Int.toNat 3 = 3 from rfl] at Pg
        rw [show Int.toNat 300 = 300 from rfl] at Pq
        have W7 := hide (show IntKind.i64.wrap (o.p + (pk s.g 3 : Int)) = o.p + (pk s.g 3 : Int) by rw [IntKind.wrap_i64]; omega)
        have W8 := hide (show IntKind.i64.wrap (o.p + (pk s.g 3 : Int) - 1) = o.p + (pk s.g 3 : Int) - 1 by rw [IntKind.wrap_i64]; omega)
        have W9 := hide (show IntKind.i64.wrap (1 + (pk s.q 300 : Int)) = 1 + (pk s.q 300 : Int) by rw [IntKind.wrap_i64]; omega)
        clear D5 KK k2 k5 hb5 hb6 hV2 o0 o1 o2 o3 o4 o5 o6 o7 b4' b0' HK3 hb7
        go_wp2_with fail
        refine region_tail 18 (by kernel_rfl) (by kernel_rfl) V2 HV2.out ?_
        simp only [List.take_succ_cons, List.take_zero, List.drop_succ_cons, List.drop_zero]
        repeat still_step
        still_call Pg.out
        repeat still_step
        still_call Pq.out
        repeat still_step
        refine wpStill_nil ?_
        (try rw [W7.out]); (try rw [W8.out]); (try rw [W9.out])
        go_wp2_with fail
        refine HCh.out.mono ?_
        rintro e w7 ⟨⟨c, rfl⟩, D7⟩
        have HR := hide D7
        clear D7 HCh cp2 y0 y5
        go_wp2
        go_end0
        exact ⟨rfl, HR.out⟩
  have n0 : ((kd : Int) == 0) = false := beq_eq_false_iff_ne.2 (by omega)
  have n1 : ((kd : Int) == 1) = false := beq_eq_false_iff_ne.2 (by omega)
  have n2 : ((kd : Int) == 2) = false := beq_eq_false_iff_ne.2 (by omega)
  have n3 : ((kd : Int) == 3) = false := beq_eq_false_iff_ne.2 (by omega)
  have n4 : ((kd : Int) == 4) = false := beq_eq_false_iff_ne.2 (by omega)
  have n5 : ((kd : Int) == 5) = false := beq_eq_false_iff_ne.2 (by omega)
  have n6 : ((kd : Int) == 6) = false := beq_eq_false_iff_ne.2 (by omega)
  have n7 : ((kd : Int) == 7) = false := beq_eq_false_iff_ne.2 (by omega)
  have HPl := hide (fun V' (k : Kep non V V') => show Calls Try.prog 19 #[.pointer (some ⟨x, 0, none⟩), (orderOf s rs.length).agg] V' fun e w' => (∃ v, e = .returned v) ∧ DsE w rs x N m w' from ((HD2.out V' k).place HI.out hn (orderOf s rs.length)).mono fun e w' ⟨v, a, b⟩ => ⟨⟨_, a⟩, (Does.place HI.out hn _).desk b⟩)
  have HOd := hide (fun V' (k : Kep non V V') => HO.out V' (HC2.out V' k))
  have HW := hide (fun V' (k : Kep non V V') => show V'.cell? ⟨w.heap.size, 0, none⟩ = some (.pointer (some ⟨x, 0, none⟩)) ∧ V'.heap[W.heap.size]? = some (.cells #[.int .i64 s.k, .int .i64 s.t, .int .i64 s.h, .int .i64 s.g, .int .i64 s.p, .int .i64 s.q] 39) from ⟨Desk.ptr (HD2.out V' k), HB2.out V' k⟩)
  have hbV := HB2.out V (Kep.refl _ _)
  have b0 := cell_of_row _ _ 0 _ _ _ hbV
  have b1 := cell_of_row _ _ 1 _ _ _ hbV
  have b2 := cell_of_row _ _ 2 _ _ _ hbV
  have b3 := cell_of_row _ _ 3 _ _ _ hbV
  have HPtr := hide (fun V' (k : Kep non V V') => Desk.ptr (HD2.out V' k))
  clear DV c3 e0 e1 e2 e3 e4 e5 e6 e7 HB2 HC2 HO hbV HW HP P4 HD2
  unfold Stp.agg at HOd
  go_wp2_with fail
  clear n0 n1 n2 n3 n4 n5 n6 n7 hmo hs0 hs1 hR hT hG hn q1 q2 q3 q4
  go_region_with (first
    | (go_at_call 16; refine (HOd.out _ ?_).mono ?_; ((repeat (first | apply Kep.drew | apply Kep.alloc)); first | exact Kep.refl _ _ | assumption); rintro e w1 ⟨rfl, k1⟩; have K1 : Kep non V w1 := Kep.trans (by ((repeat (first | apply Kep.drew | apply Kep.alloc)); first | exact Kep.refl _ _ | assumption)) k1; have c1 := HPtr.out w1 K1; clear k1)
    | (go_at_call 19; refine (HPl.out _ ?_).mono ?_; ((repeat (first | apply Kep.drew | apply Kep.alloc)); first | exact Kep.refl _ _ | assumption); rintro e w2 ⟨⟨v, rfl⟩, D2⟩; have HR := hide D2; clear D2))
  all_goals go_wp2
  all_goals go_end0
  all_goals exact ⟨rfl, HR.out⟩
end

end Go.Proofs.Ytcfoobhihhndjaa
