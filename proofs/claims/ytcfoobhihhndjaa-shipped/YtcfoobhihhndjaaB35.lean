/- Shipped. -/
import Derived.Test.YtcfoobhihhndjaaB34
namespace Go.Proofs.Ytcfoobhihhndjaa

section
open Go.RowKit Go.Sort

set_option maxHeartbeats 8000000 in
set_option maxRecDepth 1000000 in
theorem shipped_any (w : World) (from_ to_ good pieces idle : Int) (h1 : i64R from_) (h2 : i64R to_) (h3 : i64R good) (h4 : i64R pieces) (h5 : i64R idle) :
    Calls Try.prog 3 #[.int .i64 from_, .int .i64 to_, .int .i64 good, .int .i64 pieces, .int .i64 idle] w fun e w' => e = .returned (.bool true) ∧ Kep non w w' := by
  have K0 : Kep non w (w.alloc (.cells #[.int .i64 1, .int .i64 2, .int .i64 3] 3)) := (Kep.refl _ _).alloc _
  have hb := heap_alloc_new w (.cells #[.int .i64 1, .int .i64 2, .int .i64 3] 3)
  have HO := hide (opened_any (w.alloc (.cells #[.int .i64 1, .int .i64 2, .int .i64 3] 3)) (.slice (some ⟨w.heap.size, 0, none⟩) 3 3) [1, 2, 3] (.inr ⟨w.heap.size, 0, 3, rfl, fun i x hx => by
    rw [Nat.zero_add, cell_of_row _ _ i _ _ _ hb]
    rcases i with _ | _ | _ | i
    · have : (1 : Int) = x := by simpa using hx
      subst this; rfl
    · have : (2 : Int) = x := by simpa using hx
      subst this; rfl
    · have : (3 : Int) = x := by simpa using hx
      subst this; rfl
    · simp at hx⟩) (fun x hx => by simp at hx; unfold i64R; omega))
  obtain ⟨I0, O⟩ := openM_inv [1, 2, 3]
  rw [open123] at HO I0 O
  have P1 := hide (pick_any from_ 3 h1 (by omega) (by omega))
  have P2 := hide (pick_any to_ 3 h2 (by omega) (by omega))
  have P3 := hide (pick_any good 2 h3 (by omega) (by omega))
  have P4 := hide (pick_any pieces 1000 h4 (by omega) (by omega))
  have P5 := hide (pick_any idle 50 h5 (by omega) (by omega))
  have q1 := pk_lt from_ (n := 3) (by decide)
  have q2 := pk_lt to_ (n := 3) (by decide)
  have q3 := pk_lt good (n := 2) (by decide)
  have q4 := pk_lt pieces (n := 1000) (by decide)
  have q5 := pk_lt idle (n := 50) (by decide)
  have HK := hide K0
  have HI := hide I0
  have HOp := hide O
  clear K0 hb I0 O h1 h2 h3 h4 h5
  generalize pk from_ 3 = a at *
  generalize pk to_ 3 = b at *
  generalize pk good 2 = g at *
  generalize pk pieces 1000 = n at *
  generalize pk idle 50 = id at *
  go_enter Try.func3, Try.ntmps3
  go_wp2_with fail
  refine HO.out.mono ?_
  rintro e w1 ⟨rfl, x, D1⟩
  generalize w.alloc (.cells #[.int .i64 1, .int .i64 2, .int .i64 3] 3) = w0 at *
  have HD1 := hide D1
  clear D1 HO
  go_wp2_with fail
  refine (P1.out _).mono ?_
  rintro e w1' ⟨rfl, hw⟩
  subst hw
  go_wp2_with fail
  refine (P2.out _).mono ?_
  rintro e w1' ⟨rfl, hw⟩
  subst hw
  go_wp2_with fail
  refine (P3.out _).mono ?_
  rintro e w1' ⟨rfl, hw⟩
  subst hw
  go_wp2_with fail
  refine (P4.out _).mono ?_
  rintro e w1' ⟨rfl, hw⟩
  subst hw
  go_wp2_with fail
  generalize openM [1, 2, 3] = m0 at *
  have HI0 := hide (show (atTime m0 0).Inv 2000000 ∧ atTime m0 0 = m0 by
    have e : atTime m0 0 = m0 := by unfold atTime; rw [← HOp.out.tm]
    exact ⟨by rw [e]; exact HI.out, e⟩)
  generalize (4000 : Int) * ([1, 2, 3] : List Int).length = pp at *
  clear HI P1 P2 P3 P4
  go_loopw [16] (fun i wr => ∃ k : Nat, k ≤ id ∧ i = .int .i64 k ∧ Desk w0 [1, 2, 3] x 4000000 pp pp (atTime m0 k) wr ∧ (atTime m0 k).Inv 2000000) (fun i _ => id - (intOf i).toNat)
  case atStart => exact ⟨0, by omega, rfl, by rw [show ((0 : Nat) : Int) = 0 from rfl, HI0.out.2]; exact HD1.out, HI0.out.1⟩
  case round =>
    clear HD1 HI0
    obtain ⟨k, hk, rfl, D, I⟩ := hrel
    have cp := D.ptr
    by_cases hlt : k < id
    · obtain ⟨t1, t2⟩ := tick_idle (m := m0) (k := k) HOp.out.ld (by omega)
      have HT := hide (D.tick I)
      rw [t1, t2] at HT
      have HI := hide (show (atTime m0 (k + 1)).Inv 2000000 by rw [← t2]; exact I.tick)
      have hlt' : (k : Int) < (id : Int) := by omega
      clear D I t1 t2
      go_wp2_with fail
      refine (P5.out _).mono ?_
      rintro e w2 ⟨rfl, hw⟩
      subst hw
      go_wp2_with fail
      refine HT.out.mono ?_
      rintro e w3 ⟨rfl, D3⟩
      have HD := hide D3
      clear D3 HT cp
      go_wp2
      exact ⟨⟨k + 1, by omega, by go_num, by rw [Int.natCast_add]; exact HD.out, by rw [Int.natCast_add]; exact HI.out⟩, by simp [intOf]; omega⟩
    · have hlt' : ¬ (k : Int) < (id : Int) := by omega
      have k50 : (k : Int) < 50 := by omega
      have HD := hide D
      have HI := hide I
      clear D I
      by_cases hab : a = b
      · subst hab
        have HS := hide (HD.out.ship HI.out 2 a a g (1 + n))
        rw [ship_one HOp.out] at HS
        go_wp2_with fail
        refine (P5.out _).mono ?_
        rintro e w2 ⟨rfl, hw⟩
        subst hw
        go_wp2_with fail
        refine HS.out.mono ?_
        rintro e w3 ⟨rfl, D3⟩
        have HD3 := hide (HK.out.trans D3.kp)
        clear D3 HS cp HD
        go_wp2
        go_ret
        exact ⟨rfl, HD3.out⟩
      · obtain ⟨s1, SA⟩ := ship_two (k := k) (n := 1 + n) HOp.out rfl q1 q2 q3 hab (by omega)
        have HS := hide (HD.out.ship HI.out 2 a b g (1 + n))
        rw [s1] at HS
        have HI2 := hide (HI.out.ship 2 a b g (1 + n))
        have HSA := hide SA
        clear SA s1
        go_wp2_with fail
        refine (P5.out _).mono ?_
        rintro e w2 ⟨rfl, hw⟩
        subst hw
        go_wp2_with fail
        refine HS.out.mono ?_
        rintro e w3 ⟨rfl, D3⟩
        generalize shipM (atTime m0 k) 2 a b g (1 + n) = m1 at *
        have HD3 := hide D3
        clear D3 HS cp HD HI P5 HOp
        have hab' : ((a : Int) == (b : Int)) = false := beq_eq_false_iff_ne.2 (by omega)
        have hw : (b < a ∧ far a b = a - b) ∨ (a < b ∧ far a b = b - a) := by
          unfold far
          by_cases q : b < a
          · exact .inl ⟨q, by rw [if_pos (by omega)]⟩
          · exact .inr ⟨by omega, by rw [if_neg (by omega)]⟩
        obtain ⟨tk, htk⟩ : ∃ tk : Nat, 2 * far a b = tk := ⟨(2 * far a b).toNat, by rcases hw with ⟨_, q⟩ | ⟨_, q⟩ <;> rw [q] <;> omega⟩
        rw [htk] at HSA
        have tk4 : 1 ≤ tk ∧ tk ≤ 4 := by rcases hw with ⟨_, q⟩ | ⟨_, q⟩ <;> rw [q] at htk <;> omega
        rcases hw with ⟨hlt2, hfar⟩ | ⟨hlt2, hfar⟩
        all_goals
          rw [hfar] at htk
          have HTK := hide htk
          clear htk hfar
          go_wp2
          rw [HTK.out]
          clear HTK
          try generalize Value.bool (decide (b < a)) = dv
          go_loopw [20] (fun v wr => ∃ i : Nat, i ≤ tk + 1 ∧ v = .int .i64 i ∧ ∃ m, Desk w0 [1, 2, 3] x 4000000 pp pp m wr ∧ m.Inv 2000000 ∧ (i < tk → ShA a b g (1 + n) (k + tk) (k + i) m) ∧ (i = tk → ShB a b g (1 + n) (k + i) m)) (fun v _ => tk + 1 - (intOf v).toNat)
          case atStart => exact ⟨0, by omega, rfl, m1, HD3.out, HI2.out, fun _ => by simpa using HSA.out, fun e => by omega⟩
          case round =>
            clear HD3 HI2 HSA
            obtain ⟨i, hi, rfl, m, D, I, SA, SB⟩ := hrel
            by_cases hit : i < tk
            · have S := SA hit
              clear SA SB
              obtain ⟨L, rv, pb, ex, D⟩ := D
              have HD := hide D
              have HX := hide ex
              have cp := D.c0.cell
              rw [ex] at cp
              obtain ⟨co1, co2⟩ := S.come hab
              obtain ⟨tk1, tk2⟩ := S.take q2 q3
              have HSa := hide (fun W' (k : Kep non wr W') => dstock_any W' w0.heap.size L m 2000000 (D.R.later k) I.ok ((D.c0.kep k (fun f => f))) 2 a g (by rw [S.T]; decide) (by rw [S.H]; exact q1) (by rw [S.G]; exact q3))
              have HSb := hide (fun W' (k : Kep non wr W') => dstock_any W' w0.heap.size L m 2000000 (D.R.later k) I.ok ((D.c0.kep k (fun f => f))) 2 b g (by rw [S.T]; decide) (by rw [S.H]; exact q2) (by rw [S.G]; exact q3))
              rw [show ((2 : Nat) : Int) = 2 from rfl] at HSa HSb
              rw [S.pa, co1] at HSa
              rw [S.pb, co2] at HSb
              have HTk := hide (fun W' (k : Kep non wr W') => progTake_any W' L m 2000000 2 b g 1001 (D.R.later k) I.ok)
              rw [tk1, tk2, ex] at HTk
              have lS := hide (fun B (hB : wr.heap.size ≤ B) => show ¬ L.S m B from fun f => by have := D.R.lt I.T1 I.G1 B f; omega)
              have HS := hide S
              have HI := hide I
              clear D I S ex co1 co2 tk1 tk2
              have hit' : (i : Int) ≤ (tk : Int) := by omega
              go_wp2_with fail
              refine (HSa.out _ (Kep.refl _ _)).mono ?_
              rintro e w4 ⟨xa, xb, rfl, k4⟩
              generalize m.kept 2 a g = ka at *
              go_wp2_with fail
              refine (HSb.out _ (k4.alloc _)).mono ?_
              rintro e w5 ⟨ya, yb, rfl, k5⟩
              generalize m.kept 2 b g = kb at *
              have hx5 := (k5.block w4.heap.size (by simp) (fun f => f)).trans (heap_alloc_new w4 _)
              have K5 : Kep non wr w5 := (k4.alloc _).trans k5
              have l4 := k4.size
              have l5 : w4.heap.size < w5.heap.size := (Array.getElem?_eq_some_iff.1 hx5).1
              have cp5 := K5.cell cp (fun f => f)
              have lp : w0.heap.size < w5.heap.size := World.block_lt_of_cell? w5 _ cp5
              clear k4 k5
              go_wp2_with fail
              refine (HTk.out _ (K5.alloc _)).mono ?_
              rintro e w6 ⟨rfl, P⟩
              have hx6 := (P.kp.block w4.heap.size (by simp; omega) (lS.out _ l4)).trans (((Kep.refl non w5).alloc _).block w4.heap.size l5 (fun f => f) |>.trans hx5)
              have hy6 := (P.kp.block w5.heap.size (by simp) (lS.out _ (by omega))).trans (heap_alloc_new w5 _)
              have D6 := Desk.pp' HX.out (HD.out.later (K5.alloc _)) P
              have cp6 := D6.ptr
              have x2 := cell_of_row _ _ 2 _ _ _ hx6
              have x4 := cell_of_row _ _ 4 _ _ _ hx6
              have y2 := cell_of_row _ _ 2 _ _ _ hy6
              have y4 := cell_of_row _ _ 4 _ _ _ hy6
              have SS := HS.out
              have HTi := hide (D6.tick HI.out)
              have hit2 : (i : Int) < (tk : Int) := by omega
              have hne : ((i : Int) == (tk : Int)) = false := beq_eq_false_iff_ne.2 (by omega)
              by_cases hl : i + 1 < tk
              · obtain ⟨v1, v2⟩ := SS.tick (by omega) (by omega)
                rw [v1] at HTi
                have HR := hide (show ∀ W', Desk w0 [1, 2, 3] x 4000000 pp pp (tickM m) W' → ∃ m', Desk w0 [1, 2, 3] x 4000000 pp pp m' W' ∧ m'.Inv 2000000 ∧ (i + 1 < tk → ShA a b g (1 + n) (k + tk) (k + ((i + 1 : Nat) : Int)) m') ∧ (i + 1 = tk → ShB a b g (1 + n) (k + ((i + 1 : Nat) : Int)) m') from fun W' D => ⟨_, D, HI.out.tick, fun _ => by rw [Int.natCast_add, ← Int.add_assoc]; exact v2, fun e => by omega⟩)
                clear P hx5 hx6 hy6 K5 cp cp5 SS v1 v2 HSa HSb HTk HD HX D6
                go_wp2_with fail
                refine HTi.out.mono ?_
                rintro e w7 ⟨rfl, D7⟩
                have HR7 := hide (HR.out _ D7)
                clear D7 HR HTi
                go_wp2
                first
                  | exact ⟨⟨i + 1, by omega, by go_num, HR7.out⟩, by simp [intOf]; omega⟩
                  | (refine ⟨?_, by simp [intOf]; omega⟩; (repeat apply Exists.intro); refine ⟨⟨i + 1, by omega, ?_, HR7.out⟩, rfl⟩; go_num)
              · obtain ⟨v1, v2⟩ := SS.comes hab (by omega) (by omega)
                rw [v1] at HTi
                have HR := hide (show ∀ W', Desk w0 [1, 2, 3] x 4000000 pp pp (tickM m) W' → ∃ m', Desk w0 [1, 2, 3] x 4000000 pp pp m' W' ∧ m'.Inv 2000000 ∧ (i + 1 < tk → ShA a b g (1 + n) (k + tk) (k + ((i + 1 : Nat) : Int)) m') ∧ (i + 1 = tk → ShB a b g (1 + n) (k + ((i + 1 : Nat) : Int)) m') from fun W' D => ⟨_, D, HI.out.tick, fun e => by omega, fun _ => by rw [Int.natCast_add, ← Int.add_assoc]; exact v2⟩)
                clear P hx5 hx6 hy6 K5 cp cp5 SS v1 v2 HSa HSb HTk HD HX D6
                go_wp2_with fail
                refine HTi.out.mono ?_
                rintro e w7 ⟨rfl, D7⟩
                have HR7 := hide (HR.out _ D7)
                clear D7 HR HTi
                go_wp2
                first
                  | exact ⟨⟨i + 1, by omega, by go_num, HR7.out⟩, by simp [intOf]; omega⟩
                  | (refine ⟨?_, by simp [intOf]; omega⟩; (repeat apply Exists.intro); refine ⟨⟨i + 1, by omega, ?_, HR7.out⟩, rfl⟩; go_num)
            · by_cases hit2 : i = tk
              · have S := SB hit2
                clear SA SB hit
                obtain ⟨L, rv, pb, ex, D⟩ := D
                have HD := hide D
                have HX := hide ex
                have cp := D.c0.cell
                rw [ex] at cp
                have co1 := S.come a g
                have co2 := S.come b g
                have tk1 := S.take q2 q3 (by omega)
                have HSa := hide (fun W' (k : Kep non wr W') => dstock_any W' w0.heap.size L m 2000000 (D.R.later k) I.ok ((D.c0.kep k (fun f => f))) 2 a g (by rw [S.T]; decide) (by rw [S.H]; exact q1) (by rw [S.G]; exact q3))
                have HSb := hide (fun W' (k : Kep non wr W') => dstock_any W' w0.heap.size L m 2000000 (D.R.later k) I.ok ((D.c0.kep k (fun f => f))) 2 b g (by rw [S.T]; decide) (by rw [S.H]; exact q2) (by rw [S.G]; exact q3))
                rw [show ((2 : Nat) : Int) = 2 from rfl] at HSa HSb
                rw [S.pa, co1] at HSa
                rw [S.pb, co2] at HSb
                have HTk := hide (fun W' (k : Kep non wr W') => progTake_any W' L m 2000000 2 b g 1001 (D.R.later k) I.ok)
                rw [tk1, ex] at HTk
                have lS := hide (fun B (hB : wr.heap.size ≤ B) => show ¬ L.S m B from fun f => by have := D.R.lt I.T1 I.G1 B f; omega)
                have tm1 : (takeM m 2 b g 1001).tm = k + i := by rw [takeM, if_pos tk1]; exact S.tm
                have HI := hide (I.take 2 b g 1001)
                clear D I S ex co1 co2 tk1
                have hit' : (i : Int) ≤ (tk : Int) := by omega
                go_wp2_with fail
                refine (HSa.out _ (Kep.refl _ _)).mono ?_
                rintro e w4 ⟨xa, xb, rfl, k4⟩
                generalize m.kept 2 a g = ka at *
                go_wp2_with fail
                refine (HSb.out _ (k4.alloc _)).mono ?_
                rintro e w5 ⟨ya, yb, rfl, k5⟩
                generalize m.kept 2 b g = kb at *
                have hx5 := (k5.block w4.heap.size (by simp) (fun f => f)).trans (heap_alloc_new w4 _)
                have K5 : Kep non wr w5 := (k4.alloc _).trans k5
                have l4 := k4.size
                have l5 : w4.heap.size < w5.heap.size := (Array.getElem?_eq_some_iff.1 hx5).1
                have cp5 := K5.cell cp (fun f => f)
                have lp : w0.heap.size < w5.heap.size := World.block_lt_of_cell? w5 _ cp5
                clear k4 k5
                go_wp2_with fail
                refine (HTk.out _ (K5.alloc _)).mono ?_
                rintro e w6 ⟨rfl, P⟩
                have hx6 := (P.kp.block w4.heap.size (by simp; omega) (lS.out _ l4)).trans (((Kep.refl non w5).alloc _).block w4.heap.size l5 (fun f => f) |>.trans hx5)
                have hy6 := (P.kp.block w5.heap.size (by simp) (lS.out _ (by omega))).trans (heap_alloc_new w5 _)
                have D6 := Desk.pp' HX.out (HD.out.later (K5.alloc _)) P
                have cp6 := D6.ptr
                have x2 := cell_of_row _ _ 2 _ _ _ hx6
                have x4 := cell_of_row _ _ 4 _ _ _ hx6
                have y2 := cell_of_row _ _ 2 _ _ _ hy6
                have y4 := cell_of_row _ _ 4 _ _ _ hy6
                have te : tickE (takeM m 2 b g 1001) = 0 := by unfold tickE; rw [tm1, if_neg (by omega)]
                have HTi := hide (D6.tick HI.out)
                rw [te] at HTi
                have hit2 : ¬ (i : Int) < (tk : Int) := by omega
                have hne : ((i : Int) == (tk : Int)) = true := beq_iff_eq.2 (by omega)
                have HR := hide (show ∀ W', Desk w0 [1, 2, 3] x 4000000 pp pp (tickM (takeM m 2 b g 1001)) W' → ∃ m', Desk w0 [1, 2, 3] x 4000000 pp pp m' W' ∧ m'.Inv 2000000 ∧ (i + 1 < tk → ShA a b g (1 + n) (k + tk) (k + ((i + 1 : Nat) : Int)) m') ∧ (i + 1 = tk → ShB a b g (1 + n) (k + ((i + 1 : Nat) : Int)) m') from fun W' D => ⟨_, D, HI.out.tick, fun e => by omega, fun e => by omega⟩)
                clear P hx5 hx6 hy6 K5 cp cp5 te tm1 HSa HSb HTk HD HX D6
                go_wp2_with fail
                refine HTi.out.mono ?_
                rintro e w7 ⟨rfl, D7⟩
                have HR7 := hide (HR.out _ D7)
                clear D7 HR HTi
                go_wp2
                first
                  | exact ⟨⟨i + 1, by omega, by go_num, HR7.out⟩, by simp [intOf]; omega⟩
                  | (refine ⟨?_, by simp [intOf]; omega⟩; (repeat apply Exists.intro); refine ⟨⟨i + 1, by omega, ?_, HR7.out⟩, rfl⟩; go_num)
              · have HD := hide (HK.out.trans D.kp)
                have hit' : ¬ (i : Int) ≤ (tk : Int) := by omega
                clear D SA SB I
                go_wp2
                go_ret
                exact ⟨rfl, HD.out⟩
end

end Go.Proofs.Ytcfoobhihhndjaa
