/- The program's market: Draw, Take, Pay, Bring. -/
import Derived.Test.YtcfoobhihhndjaaB05
namespace Go.Proofs.Ytcfoobhihhndjaa

section
open Go.RowKit Go.Sort

set_option maxHeartbeats 400000 in
theorem progDraw_any (w : World) (L : PL) (m : Mt) (N t x : Int) (R : PRep w L m) (ok : m.Ok N) :
    Calls Try.prog 37 #[.pointer (some ⟨L.x, 0, none⟩), .int .i64 t, .int .i64 x] w fun e w' => e = .returned (.int .i64 (drawE m t x)) ∧ PPost w L m (drawM m t x) w' := by
  have c2 := R.cA.cell
  have bT := ok.T8
  by_cases ht : okI m.T t
  · by_cases hx : okN x 1000000000000
    · obtain ⟨k, rfl⟩ := Int.eq_ofNat_of_zero_le ht.1
      have hk : k < m.T := by have := ht.2; omega
      have hx1 := hx.1
      have hx2 := hx.2
      obtain ⟨cm, cf⟩ := R.mo k hk
      obtain ⟨bm0, bm1⟩ := ok.mo k hk
      have i1 := hide (inB_okI ht)
      have i2 := hide (inR_okN hx)
      by_cases hS : m.mo k < x
      · have e : Hid (drawE m k x = 6) := hide (by simp [drawE, ht, hx, hS])
        go_enter Try.func37, Try.ntmps37
        go_wp2_with (first | (go_at_call 31; refine (hasTrader_b _ _ _ _ _ _ bT c2).mono ?_; rw [i1.out]; rintro e w' ⟨rfl, rfl⟩) | (go_at_call 34; refine (within_b _ _ _ _).mono ?_; rw [i2.out]; rintro e w' ⟨rfl, rfl⟩))
        go_ret
        exact ⟨ret_int e.out.symm, by rw [drawM, e.out]; exact .same R (Kep.refl _ _)⟩
      · have e : Hid (drawE m k x = 0) := hide (by simp [drawE, ht, hx, hS])
        go_enter Try.func37, Try.ntmps37
        go_wp2_with (first | (go_at_call 31; refine (hasTrader_b _ _ _ _ _ _ bT c2).mono ?_; rw [i1.out]; rintro e w' ⟨rfl, rfl⟩) | (go_at_call 34; refine (within_b _ _ _ _).mono ?_; rw [i2.out]; rintro e w' ⟨rfl, rfl⟩))
        go_ret
        exact ⟨ret_int e.out.symm, by rw [drawM, e.out]; exact .mo R (Kep.refl _ _) k hk _⟩
    · have e : Hid (drawE m t x = 5) := hide (by simp [drawE, ht, hx])
      have i1 := hide (inB_okI ht)
      have i2 := hide (inR_not hx)
      go_enter Try.func37, Try.ntmps37
      go_wp2_with (first | (go_at_call 31; refine (hasTrader_b _ _ _ _ _ _ bT c2).mono ?_; rw [i1.out]; rintro e w' ⟨rfl, rfl⟩) | (go_at_call 34; refine (within_b _ _ _ _).mono ?_; rw [i2.out]; rintro e w' ⟨rfl, rfl⟩))
      go_ret
      exact ⟨ret_int e.out.symm, by rw [drawM, e.out]; exact .same R (Kep.refl _ _)⟩
  · have e : Hid (drawE m t x = 2) := hide (by simp [drawE, ht])
    have i1 := hide (inB_not ht)
    go_enter Try.func37, Try.ntmps37
    go_wp2_with (first | (go_at_call 31; refine (hasTrader_b _ _ _ _ _ _ bT c2).mono ?_; rw [i1.out]; rintro e w' ⟨rfl, rfl⟩))
    go_ret
    exact ⟨ret_int e.out.symm, by rw [drawM, e.out]; exact .same R (Kep.refl _ _)⟩

set_option maxHeartbeats 400000 in
theorem check_any (w : World) (L : PL) (m : Mt) (N t h g n : Int) (R : PRep w L m) (ok : m.Ok N) :
    Calls Try.prog 36 #[.pointer (some ⟨L.x, 0, none⟩), .int .i64 t, .int .i64 h, .int .i64 g, .int .i64 n] w fun e w' => e = .returned (.int .i64 (lotsE m t h g n)) ∧ w' = w := by
  have c0 := R.cG.cell
  have c1 := R.cR.cell
  have c2 := R.cA.cell
  have bT := ok.T8
  have bG : m.G ≤ 8 := by have := ok.G4; omega
  have bH : m.H ≤ 8 := by have := ok.H4; omega
  go_enter Try.func36, Try.ntmps36
  go_wp2_with (first | (go_at_call 31; refine (hasTrader_b _ _ _ _ _ _ bT c2).mono ?_; rintro e w' ⟨rfl, rfl⟩) | (go_at_call 32; refine (hasHall_b _ _ _ _ _ _ bH c1).mono ?_; rintro e w' ⟨rfl, rfl⟩) | (go_at_call 33; refine (hasGood_b _ _ _ _ bG c0).mono ?_; rintro e w' ⟨rfl, rfl⟩) | (go_at_call 34; refine (within_b _ _ _ _).mono ?_; rintro e w' ⟨rfl, rfl⟩))
  all_goals go_ret
  all_goals refine ⟨ret_int ?_, rfl⟩
  all_goals clear c0 c1 c2 R
  all_goals simp_all [lotsE, inB, okN, inR]
  all_goals omega

set_option maxHeartbeats 400000 in
theorem progTake_any (w : World) (L : PL) (m : Mt) (N t h g n : Int) (R : PRep w L m) (ok : m.Ok N) :
    Calls Try.prog 14 #[.pointer (some ⟨L.x, 0, none⟩), .int .i64 t, .int .i64 h, .int .i64 g, .int .i64 n] w fun e w' => e = .returned (.int .i64 (takeE m t h g n)) ∧ PPost w L m (takeM m t h g n) w' := by
  have c2 := R.cA.cell
  have bT := ok.T8
  have bG := ok.G4
  have bH := ok.H4
  have HL := hide (check_any w L m N t h g n R ok)
  by_cases hl : lotsE m t h g n = 0
  · obtain ⟨⟨t0, t1⟩, ⟨h0, h1⟩, ⟨g0, g1⟩, ⟨n0, n1⟩⟩ := lotsE_zero hl
    obtain ⟨t, rfl⟩ := Int.eq_ofNat_of_zero_le t0
    obtain ⟨h, rfl⟩ := Int.eq_ofNat_of_zero_le h0
    obtain ⟨g, rfl⟩ := Int.eq_ofNat_of_zero_le g0
    have ht : t < m.T := by omega
    have hh : h < 4 := by omega
    have hg : g < 4 := by omega
    obtain ⟨cm, cf⟩ := R.pc t h g ht hh hg
    obtain ⟨bm0, bm1⟩ := ok.pc t h g ht (by omega) (by omega)
    have bN := ok.bN
    rw [hl] at HL
    by_cases hS : m.pc t h g < n
    · have e : Hid (takeE m t h g n = 7) := hide (by simp [takeE, hl, hS])
      clear hl
      go_enter Try.func14, Try.ntmps14
      go_wp2_with fail
      refine HL.out.mono ?_
      rintro e w' ⟨rfl, rfl⟩
      go_wp2
      go_ret
      exact ⟨ret_int e.out.symm, by rw [takeM, e.out]; exact .same R (Kep.refl _ _)⟩
    · have e : Hid (takeE m t h g n = 0) := hide (by simp [takeE, hl, hS])
      clear hl
      go_enter Try.func14, Try.ntmps14
      go_wp2_with fail
      refine HL.out.mono ?_
      rintro e w' ⟨rfl, rfl⟩
      go_wp2
      go_region
      all_goals go_wp2
      all_goals go_ret
      all_goals refine ⟨ret_int e.out.symm, ?_⟩
      all_goals rw [takeM, e.out]
      all_goals exact (PPost.pcs R (Kep.refl _ _) t h g ht hh hg _).later ((Kep.refl _ _).drew)
  · have e : Hid (takeE m t h g n = lotsE m t h g n) := hide (by simp [takeE, hl])
    have hM : Hid (takeM m t h g n = m) := hide (by simp [takeM, e.out, hl])
    generalize lotsE m t h g n = E at *
    have hne : (E != 0) = true := by simpa using hl
    clear hl
    go_enter Try.func14, Try.ntmps14
    go_wp2_with fail
    refine HL.out.mono ?_
    rintro e w' ⟨rfl, rfl⟩
    go_wp2
    go_ret
    exact ⟨ret_int e.out.symm, by rw [hM.out]; exact .same R (Kep.refl _ _)⟩

set_option maxHeartbeats 400000 in
theorem progPay_any (w : World) (L : PL) (m : Mt) (N t x : Int) (R : PRep w L m) (ok : m.Ok N) :
    Calls Try.prog 28 #[.pointer (some ⟨L.x, 0, none⟩), .int .i64 t, .int .i64 x] w fun e w' => e = .returned (.int .i64 (payE m t x)) ∧ PPost w L m (payM m t x) w' := by
  have c2 := R.cA.cell
  have bT := ok.T8
  by_cases ht : okI m.T t
  · by_cases hx : okN x 1000000000000
    · obtain ⟨k, rfl⟩ := Int.eq_ofNat_of_zero_le ht.1
      have hk : k < m.T := by have := ht.2; omega
      have hx1 := hx.1
      have hx2 := hx.2
      obtain ⟨bm0, bm1⟩ := ok.mo k hk
      have i1 := hide (inB_okI ht)
      have i2 := hide (inR_okN hx)
      have bS := sumM_bd ok m.T (Nat.le_refl _)
      by_cases hS : 1000000000000 < m.sumM m.T + x
      · have e : Hid (payE m k x = 8) := hide (by simp [payE, ht, hx, hS])
        have HQ := hide (allMoney_any w L m N R ok)
        generalize m.sumM m.T = S at *
        go_enter Try.func28, Try.ntmps28
        go_wp2_with (first | (go_at_call 31; refine (hasTrader_b _ _ _ _ _ _ bT c2).mono ?_; rw [i1.out]; rintro e w' ⟨rfl, rfl⟩) | (go_at_call 34; refine (within_b _ _ _ _).mono ?_; rw [i2.out]; rintro e w' ⟨rfl, rfl⟩))
        refine HQ.out.mono ?_
        rintro e w1 ⟨rfl, hkp⟩
        go_wp2
        go_ret
        exact ⟨ret_int e.out.symm, by rw [payM, e.out]; exact .same R (Kep.of_below hkp)⟩
      · have e : Hid (payE m k x = 0) := hide (by simp [payE, ht, hx, hS])
        have HQ := hide (allMoney_any w L m N R ok)
        generalize m.sumM m.T = S at *
        go_enter Try.func28, Try.ntmps28
        go_wp2_with (first | (go_at_call 31; refine (hasTrader_b _ _ _ _ _ _ bT c2).mono ?_; rw [i1.out]; rintro e w' ⟨rfl, rfl⟩) | (go_at_call 34; refine (within_b _ _ _ _).mono ?_; rw [i2.out]; rintro e w' ⟨rfl, rfl⟩))
        refine HQ.out.mono ?_
        rintro e w1 ⟨rfl, hkp⟩
        have Rr := R.bel hkp
        obtain ⟨cm, cf⟩ := Rr.mo k hk
        have c2' := Rr.cA.cell
        clear Rr
        go_wp2
        go_ret
        exact ⟨ret_int e.out.symm, by rw [payM, e.out]; exact .mo R (Kep.of_below hkp) k hk _⟩
    · have e : Hid (payE m t x = 5) := hide (by simp [payE, ht, hx])
      have i1 := hide (inB_okI ht)
      have i2 := hide (inR_not hx)
      go_enter Try.func28, Try.ntmps28
      go_wp2_with (first | (go_at_call 31; refine (hasTrader_b _ _ _ _ _ _ bT c2).mono ?_; rw [i1.out]; rintro e w' ⟨rfl, rfl⟩) | (go_at_call 34; refine (within_b _ _ _ _).mono ?_; rw [i2.out]; rintro e w' ⟨rfl, rfl⟩))
      go_ret
      exact ⟨ret_int e.out.symm, by rw [payM, e.out]; exact .same R (Kep.refl _ _)⟩
  · have e : Hid (payE m t x = 2) := hide (by simp [payE, ht])
    have i1 := hide (inB_not ht)
    go_enter Try.func28, Try.ntmps28
    go_wp2_with (first | (go_at_call 31; refine (hasTrader_b _ _ _ _ _ _ bT c2).mono ?_; rw [i1.out]; rintro e w' ⟨rfl, rfl⟩))
    go_ret
    exact ⟨ret_int e.out.symm, by rw [payM, e.out]; exact .same R (Kep.refl _ _)⟩

set_option maxRecDepth 100000 in
set_option maxHeartbeats 1000000 in
theorem allPieces_any (w : World) (L : PL) (m : Mt) (N : Int) (R : PRep w L m) (ok : m.Ok N) (g : Nat) (hg : g < m.G) :
    Calls Try.prog 61 #[.pointer (some ⟨L.x, 0, none⟩), .int .i64 g] w fun e w' => e = .returned (.int .i64 (totTo m g m.T)) ∧ Below w.heap.size w w' := by
  have c2 := R.cA.cell
  have bT := ok.T8
  have bG := ok.G4
  have bH := ok.H4
  go_enter Try.func61, Try.ntmps61
  go_wp2
  clear c2
  go_loopw [5, 14] (fun a i wr => ∃ j : Nat, j ≤ m.T ∧ i = .int .i64 j ∧ a = .int .i64 (totTo m g j) ∧ Below w.heap.size w wr) (fun _ i _ => m.T - (intOf i).toNat)
  case atStart => exact ⟨0, Nat.zero_le _, rfl, by simp [totTo], Below.refl _ _⟩
  case round =>
    obtain ⟨j, hj, rfl, rfl, hkp⟩ := hrel
    obtain ⟨bt0, bt1⟩ := totTo_bd ok g hg j hj
    by_cases hlt : j < m.T
    · have Rr := R.bel hkp
      have c1 := Rr.cR.cell
      clear Rr
      go_wp2
      clear c1
      go_loopw [5, 22] (fun a i wr => ∃ k : Nat, k ≤ m.H ∧ i = .int .i64 k ∧ a = .int .i64 (totTo m g j + rowTo m g j k) ∧ Below w.heap.size w wr) (fun _ i _ => m.H - (intOf i).toNat)
      case atStart => exact ⟨0, Nat.zero_le _, rfl, by simp [rowTo], hkp⟩
      case round =>
        clear hkp
        obtain ⟨k, hk, rfl, rfl, hkp⟩ := hrel
        obtain ⟨br0, br1⟩ := rowTo_bd ok g j hg hlt k hk
        by_cases hlk : k < m.H
        · have Rr := R.bel hkp
          have HQ := hide (stock_any _ L m N Rr ok j k g hlt hlk hg)
          obtain ⟨bm0, bm1⟩ := ok.pc j k g hlt hlk hg
          obtain ⟨bc0, bc1⟩ := come_ok ok j k g
          have bN := ok.bN
          have bk := kept_ok ok j (h := k) (g := g) hlk hg
          have HR := hide (show rowTo m g j (k + 1) = rowTo m g j k + (m.pc j k g + m.kept j k g + m.come j k g) from rfl)
          clear R ok Rr
          generalize m.pc j k g = x at *
          generalize m.come (j : Int) (k : Int) (g : Int) = y at *
          generalize m.kept (j : Int) k g = z at *
          go_wp2_with fail
          refine HQ.out.mono ?_
          rintro e w1 ⟨rfl, hk1⟩
          clear HQ
          go_wp2
          refine ⟨⟨k + 1, by omega, by go_num, ?_, (hkp.trans (hk1.mono hkp.size)).alloc (Nat.le_trans hkp.size hk1.size) _⟩, by simp [intOf]; omega⟩
          rw [HR.out]
          exact congrArg (Value.int .i64) (by omega)
        · have e1 : k = m.H := by omega
          subst e1
          go_wp2
          refine ⟨⟨j + 1, by omega, by go_num, ?_, hkp⟩, by simp [intOf]; omega⟩
          rw [totTo]
    · have e1 : j = m.T := by omega
      subst e1
      go_wp2
      go_ret
      exact ⟨rfl, hkp⟩

set_option maxRecDepth 100000 in
set_option maxHeartbeats 1000000 in
theorem progBring_any (w : World) (L : PL) (m : Mt) (N t h g n : Int) (R : PRep w L m) (ok : m.Ok N) :
    Calls Try.prog 29 #[.pointer (some ⟨L.x, 0, none⟩), .int .i64 t, .int .i64 h, .int .i64 g, .int .i64 n] w fun e w' => e = .returned (.int .i64 (bringE m t h g n)) ∧ PPost w L m (bringM m t h g n) w' := by
  have bT := ok.T8
  have bG := ok.G4
  have bH := ok.H4
  have HL := hide (check_any w L m N t h g n R ok)
  by_cases hl : lotsE m t h g n = 0
  · obtain ⟨⟨t0, t1⟩, ⟨h0, h1⟩, ⟨g0, g1⟩, ⟨n0, n1⟩⟩ := lotsE_zero hl
    obtain ⟨t, rfl⟩ := Int.eq_ofNat_of_zero_le t0
    obtain ⟨h, rfl⟩ := Int.eq_ofNat_of_zero_le h0
    obtain ⟨g, rfl⟩ := Int.eq_ofNat_of_zero_le g0
    have ht : t < m.T := by omega
    have hh : h < 4 := by omega
    have hg : g < 4 := by omega
    obtain ⟨bm0, bm1⟩ := ok.pc t h g ht (by omega) (by omega)
    have bN := ok.bN
    rw [hl] at HL
    have HE := hide (show bringE m t h g n = if 1000000 < totTo m g m.T + n then 8 else 0 by simp [bringE, hl])
    clear hl
    obtain ⟨bt0, bt1⟩ := totTo_bd ok g (by omega) m.T (Nat.le_refl _)
    have HQ := hide (allPieces_any w L m N R ok g (by omega))
    generalize totTo m g m.T = S at *
    by_cases hS : 1000000 < S + n
    · have e : Hid (bringE m t h g n = 8) := hide (by rw [HE.out, if_pos hS])
      go_enter Try.func29, Try.ntmps29
      go_wp2_with fail
      refine HL.out.mono ?_
      rintro e w' ⟨rfl, rfl⟩
      go_wp2_with fail
      refine HQ.out.mono ?_
      rintro e w1 ⟨rfl, hkp⟩
      go_wp2
      go_ret
      exact ⟨ret_int e.out.symm, by rw [bringM, e.out]; exact .same R (Kep.of_below hkp)⟩
    · have e : Hid (bringE m t h g n = 0) := hide (by rw [HE.out, if_neg hS])
      go_enter Try.func29, Try.ntmps29
      go_wp2_with fail
      refine HL.out.mono ?_
      rintro e w' ⟨rfl, rfl⟩
      go_wp2_with fail
      refine HQ.out.mono ?_
      rintro e w1 ⟨rfl, hkp⟩
      have Rr := R.bel hkp
      obtain ⟨cm, cf⟩ := Rr.pc t h g ht hh hg
      have c2 := Rr.cA.cell
      clear Rr
      go_wp2
      go_region
      all_goals go_wp2
      all_goals go_ret
      all_goals refine ⟨ret_int e.out.symm, ?_⟩
      all_goals rw [bringM, e.out]
      all_goals exact (PPost.pcs R (Kep.of_below hkp) t h g ht hh hg _).later ((Kep.refl _ _).drew)
  · have e : Hid (bringE m t h g n = lotsE m t h g n) := hide (by simp [bringE, hl])
    have hM : Hid (bringM m t h g n = m) := hide (by simp [bringM, e.out, hl])
    generalize lotsE m t h g n = E at *
    have hne : (E != 0) = true := by simpa using hl
    clear hl
    go_enter Try.func29, Try.ntmps29
    go_wp2_with fail
    refine HL.out.mono ?_
    rintro e w' ⟨rfl, rfl⟩
    go_wp2
    go_ret
    exact ⟨ret_int e.out.symm, by rw [hM.out]; exact .same R (Kep.refl _ _)⟩
end

end Go.Proofs.Ytcfoobhihhndjaa
