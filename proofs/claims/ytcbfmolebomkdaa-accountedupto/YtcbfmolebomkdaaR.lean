/- The program's market: Draw, Take, the goods. -/
import Derived.Test.YtcbfmolebomkdaaP
namespace Go.Proofs.Ytcbfmolebomkdaa
open Go.RowKit Go.Sort

theorem inR_okN {x B : Int} (h : okN x B) : inR x 1 B = true := decide_eq_true h
theorem inR_not {x B : Int} (h : ¬ okN x B) : inR x 1 B = false := decide_eq_false h
theorem inB_okI {n : Nat} {t : Int} (h : okI n t) : inB n t = true := decide_eq_true h
theorem inB_not {n : Nat} {t : Int} (h : ¬ okI n t) : inB n t = false := decide_eq_false h

set_option maxHeartbeats 400000 in
theorem progDraw_any (w : World) (L : PL) (m : Mk) (N t x : Int) (R : PRep w L m) (ok : m.Ok N) :
    Calls Try.prog 30 #[.pointer (some ⟨L.x, 0, none⟩), .int .i64 t, .int .i64 x] w fun e w' => e = .returned (.int .i64 (drawE m t x)) ∧ PPost w L (drawM m t x) w' := by
  have c2 := R.cA.cell
  have bT := ok.T8
  by_cases ht : okI m.T t
  · by_cases hx : okN x 1000000000000
    · obtain ⟨k, rfl⟩ := Int.eq_ofNat_of_zero_le ht.1
      have hk : k < m.T := by have := ht.2; omega
      have hx1 := hx.1
      have hx2 := hx.2
      obtain ⟨cm, cf⟩ := R.mo k hk
      obtain ⟨bm0, bm1⟩ := ok.mo k hk
      have i1 := hide (inB_okI ht)
      have i2 := hide (inR_okN hx)
      by_cases hS : m.mo k < x
      · have e : Hid (drawE m k x = 6) := hide (by simp [drawE, ht, hx, hS])
        go_enter Try.func30, Try.ntmps30
        go_wp2_with (first | (go_at_call 57; refine (hasTrader_b _ _ _ _ _ _ bT c2).mono ?_; rw [i1.out]; rintro e w' ⟨rfl, rfl⟩) | (go_at_call 64; refine (within_b _ _ _ _).mono ?_; rw [i2.out]; rintro e w' ⟨rfl, rfl⟩))
        go_ret
        exact ⟨ret_int e.out.symm, by rw [drawM, e.out]; exact .same R (Keeps.refl [] _) (by simp) (by simp)⟩
      · have e : Hid (drawE m k x = 0) := hide (by simp [drawE, ht, hx, hS])
        go_enter Try.func30, Try.ntmps30
        go_wp2_with (first | (go_at_call 57; refine (hasTrader_b _ _ _ _ _ _ bT c2).mono ?_; rw [i1.out]; rintro e w' ⟨rfl, rfl⟩) | (go_at_call 64; refine (within_b _ _ _ _).mono ?_; rw [i2.out]; rintro e w' ⟨rfl, rfl⟩))
        go_ret
        exact ⟨ret_int e.out.symm, by rw [drawM, e.out]; exact .mo R (Keeps.refl [] _) k hk _⟩
    · have e : Hid (drawE m t x = 5) := hide (by simp [drawE, ht, hx])
      have i1 := hide (inB_okI ht)
      have i2 := hide (inR_not hx)
      go_enter Try.func30, Try.ntmps30
      go_wp2_with (first | (go_at_call 57; refine (hasTrader_b _ _ _ _ _ _ bT c2).mono ?_; rw [i1.out]; rintro e w' ⟨rfl, rfl⟩) | (go_at_call 64; refine (within_b _ _ _ _).mono ?_; rw [i2.out]; rintro e w' ⟨rfl, rfl⟩))
      go_ret
      exact ⟨ret_int e.out.symm, by rw [drawM, e.out]; exact .same R (Keeps.refl [] _) (by simp) (by simp)⟩
  · have e : Hid (drawE m t x = 2) := hide (by simp [drawE, ht])
    have i1 := hide (inB_not ht)
    go_enter Try.func30, Try.ntmps30
    go_wp2_with (first | (go_at_call 57; refine (hasTrader_b _ _ _ _ _ _ bT c2).mono ?_; rw [i1.out]; rintro e w' ⟨rfl, rfl⟩))
    go_ret
    exact ⟨ret_int e.out.symm, by rw [drawM, e.out]; exact .same R (Keeps.refl [] _) (by simp) (by simp)⟩

set_option maxHeartbeats 400000 in
theorem check_any (w : World) (L : PL) (m : Mk) (N t h g n : Int) (R : PRep w L m) (ok : m.Ok N) :
    Calls Try.prog 69 #[.pointer (some ⟨L.x, 0, none⟩), .int .i64 t, .int .i64 h, .int .i64 g, .int .i64 n] w fun e w' => e = .returned (.int .i64 (lotsE m t h g n)) ∧ w' = w := by
  have c0 := R.cG.cell
  have c1 := R.cR.cell
  have c2 := R.cA.cell
  have bT := ok.T8
  have bG : m.G ≤ 8 := by have := ok.G4; omega
  have bH : m.H ≤ 8 := by have := ok.H4; omega
  go_enter Try.func69, Try.ntmps69
  go_wp2_with (first | (go_at_call 57; refine (hasTrader_b _ _ _ _ _ _ bT c2).mono ?_; rintro e w' ⟨rfl, rfl⟩) | (go_at_call 73; refine (hasHall_b _ _ _ _ _ _ bH c1).mono ?_; rintro e w' ⟨rfl, rfl⟩) | (go_at_call 74; refine (hasGood_b _ _ _ _ bG c0).mono ?_; rintro e w' ⟨rfl, rfl⟩) | (go_at_call 64; refine (within_b _ _ _ _).mono ?_; rintro e w' ⟨rfl, rfl⟩))
  all_goals go_ret
  all_goals refine ⟨ret_int ?_, rfl⟩
  all_goals clear c0 c1 c2 R
  all_goals simp_all [lotsE, inB, okN, inR]
  all_goals omega

set_option maxHeartbeats 400000 in
theorem progTake_any (w : World) (L : PL) (m : Mk) (N t h g n : Int) (R : PRep w L m) (ok : m.Ok N) :
    Calls Try.prog 34 #[.pointer (some ⟨L.x, 0, none⟩), .int .i64 t, .int .i64 h, .int .i64 g, .int .i64 n] w fun e w' => e = .returned (.int .i64 (takeE m t h g n)) ∧ PPost w L (takeM m t h g n) w' := by
  have c2 := R.cA.cell
  have bT := ok.T8
  have bG := ok.G4
  have bH := ok.H4
  have HL := hide (check_any w L m N t h g n R ok)
  by_cases hl : lotsE m t h g n = 0
  · obtain ⟨⟨t0, t1⟩, ⟨h0, h1⟩, ⟨g0, g1⟩, ⟨n0, n1⟩⟩ := lotsE_zero hl
    obtain ⟨t, rfl⟩ := Int.eq_ofNat_of_zero_le t0
    obtain ⟨h, rfl⟩ := Int.eq_ofNat_of_zero_le h0
    obtain ⟨g, rfl⟩ := Int.eq_ofNat_of_zero_le g0
    have ht : t < m.T := by omega
    have hh : h < 4 := by omega
    have hg : g < 4 := by omega
    obtain ⟨cm, cf⟩ := R.pc t h g ht hh hg
    obtain ⟨bm0, bm1⟩ := ok.pc t h g ht (by omega) (by omega)
    have bN := ok.bN
    rw [hl] at HL
    by_cases hS : m.pc t h g < n
    · have e : Hid (takeE m t h g n = 7) := hide (by simp [takeE, hl, hS])
      clear hl
      go_enter Try.func34, Try.ntmps34
      go_wp2_with fail
      refine HL.out.mono ?_
      rintro e w' ⟨rfl, rfl⟩
      go_wp2
      go_ret
      exact ⟨ret_int e.out.symm, by rw [takeM, e.out]; exact .same R (Keeps.refl [] _) (by simp) (by simp)⟩
    · have e : Hid (takeE m t h g n = 0) := hide (by simp [takeE, hl, hS])
      clear hl
      go_enter Try.func34, Try.ntmps34
      go_wp2_with fail
      refine HL.out.mono ?_
      rintro e w' ⟨rfl, rfl⟩
      go_wp2
      go_region
      all_goals go_wp2
      all_goals go_ret
      all_goals refine ⟨ret_int e.out.symm, ?_⟩
      all_goals rw [takeM, e.out]
      all_goals exact (PPost.pcs R (Keeps.refl [] _) t h g ht hh hg _).later ((Keeps.refl [] _).drew)
  · have e : Hid (takeE m t h g n = lotsE m t h g n) := hide (by simp [takeE, hl])
    have hM : Hid (takeM m t h g n = m) := hide (by simp [takeM, e.out, hl])
    generalize lotsE m t h g n = E at *
    have hne : (E != 0) = true := by simpa using hl
    clear hl
    go_enter Try.func34, Try.ntmps34
    go_wp2_with fail
    refine HL.out.mono ?_
    rintro e w' ⟨rfl, rfl⟩
    go_wp2
    go_ret
    exact ⟨ret_int e.out.symm, by rw [hM.out]; exact .same R (Keeps.refl [] _) (by simp) (by simp)⟩

end Go.Proofs.Ytcbfmolebomkdaa
