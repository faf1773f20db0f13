/- The document's market: Bring. -/
import Derived.Test.YtcbfmolebomkdaaC
import Derived.Lib.QuietBelow
namespace Go.Proofs.Ytcbfmolebomkdaa
open Go.RowKit Go.Sort

theorem mixed : Try.prog.follows .mixedOrders = true := by kernel_rfl

theorem RefRep.regrown {w : World} {L : RL} {m : Mk} (R : RefRep w L m) (d : Nat) (os : Array Obj) : RefRep (grow (redrawn w d) os) L m := R.keep (S := []) (.of_below (below_regrown w d os)) (by simp)

theorem come_ok {m : Mk} {N : Int} (o : m.Ok N) (t h g : Int) : 0 ≤ come t h g m.ld ∧ come t h g m.ld ≤ 200000 := by
  have h1 := come_bd t h g m.ld (fun l hl => by have := (o.ld l hl).2.2.2.1; omega)
  have h2 := o.l20
  omega

theorem rowTo_bd {m : Mk} {N : Int} (o : m.Ok N) (g i : Nat) (hg : g < m.G) (hi : i < m.T) : ∀ k, k ≤ m.H → 0 ≤ rowTo m g i k ∧ rowTo m g i k ≤ 1000000200000 * k := by
  intro k
  induction k with
  | zero => simp [rowTo]
  | succ k ih =>
    intro hk
    have h1 := ih (by omega)
    have h2 := o.pc i k g hi (by omega) hg
    have h3 := come_ok o i k g
    have h4 := o.bN
    simp only [rowTo]
    omega

theorem totTo_bd {m : Mk} {N : Int} (o : m.Ok N) (g : Nat) (hg : g < m.G) : ∀ i, i ≤ m.T → 0 ≤ totTo m g i ∧ totTo m g i ≤ 4000000800000 * i := by
  intro i
  induction i with
  | zero => simp [totTo]
  | succ i ih =>
    intro hi
    have h1 := ih (by omega)
    have h2 := rowTo_bd o g i hg (by omega) m.H (Nat.le_refl _)
    have h3 := o.H4
    simp only [totTo]
    omega

theorem coming_nat (w : World) (L : RL) (m : Mk) (N : Int) (R : RefRep w L m) (o : m.Ok N) (t h g : Int) :
    Calls Try.prog 63 #[.pointer (some ⟨L.c, 0, none⟩), .int .i64 t, .int .i64 h, .int .i64 g] w fun e w' => e = .returned (.int .i64 (come t h g m.ld)) ∧ Below w.heap.size w w' :=
  (coming_any L.c t h g w L.lv m.ld R.cL.cell R.ld (fun l hl => by have := (o.ld l hl).2.2.2.1; omega) o.l20).mono fun _ _ ⟨h1, h2⟩ => ⟨h1, h2.below (Nat.le_refl _) (by simp)⟩

set_option maxHeartbeats 1000000 in
theorem refBring_any (w : World) (L : RL) (m : Mk) (N t h g n : Int) (R : RefRep w L m) (o : m.Ok N) :
    Calls Try.prog 33 #[.pointer (some ⟨L.c, 0, none⟩), .int .i64 t, .int .i64 h, .int .i64 g, .int .i64 n] w fun e w' => e = .returned (.int .i64 (bringE m t h g n)) ∧ RefPost w L (bringM m t h g n) w' := by
  have bT := o.T8
  have bG := o.G4
  have bH := o.H4
  by_cases hl : lotsE m t h g n = 0
  · obtain ⟨⟨t0, t1⟩, ⟨h0, h1⟩, ⟨g0, g1⟩, ⟨n0, n1⟩⟩ := lotsE_zero hl
    obtain ⟨t, rfl⟩ := Int.eq_ofNat_of_zero_le t0
    obtain ⟨h, rfl⟩ := Int.eq_ofNat_of_zero_le h0
    obtain ⟨g, rfl⟩ := Int.eq_ofNat_of_zero_le g0
    have ht : t < m.T := by omega
    have hh : h < m.H := by omega
    have hg : g < m.G := by omega
    have HL := hide (lots_any w L m t h g n R)
    rw [hl] at HL
    have HE := hide (show bringE m t h g n = if 1000000 < n + totTo m g m.T then 8 else 0 by simp [bringE, hl])
    clear hl
    go_enter Try.func33, Try.ntmps33
    go_wp2_with fail
    refine HL.out.mono ?_
    rintro e W ⟨rfl, rfl⟩
    clear HL
    go_wp2
    go_loopw [12, 13] (fun a i wr => ∃ j : Nat, j ≤ m.T ∧ i = .int .i64 j ∧ a = .int .i64 (n + totTo m g j) ∧ Keeps [] W wr) (fun _ i _ => m.T - (intOf i).toNat)
    case atStart => exact ⟨0, Nat.zero_le _, rfl, by simp [totTo], Keeps.refl _ _⟩
    case round =>
      obtain ⟨j, hj, rfl, rfl, hkp⟩ := hrel
      have Rr := R.keep hkp (by simp)
      have c0 := Rr.cT.cell
      obtain ⟨bt0, bt1⟩ := totTo_bd o g hg j hj
      by_cases hlt : j < m.T
      · go_wp2
        go_loopw [12, 14] (fun a i wr => ∃ k : Nat, k ≤ m.H ∧ i = .int .i64 k ∧ a = .int .i64 (n + totTo m g j + rowTo m g j k) ∧ Keeps [] W wr) (fun _ i _ => m.H - (intOf i).toNat)
        case atStart => exact ⟨0, Nat.zero_le _, rfl, by simp [rowTo], hkp⟩
        case round =>
          clear hkp Rr c0
          obtain ⟨k, hk, rfl, rfl, hkp⟩ := hrel
          have Rr := R.keep hkp (by simp)
          have c2 := Rr.cR.cell
          obtain ⟨br0, br1⟩ := rowTo_bd o g j hg hlt k hk
          by_cases hlk : k < m.H
          · have o' := hide o
            have R' := hide R
            obtain ⟨cm, cf⟩ := Rr.pc j k g hlt hlk hg
            have c4 := cell_regrown Rr.cP.cell
            have cm' := cell_regrown cm
            obtain ⟨bm0, bm1⟩ := o.pc j k g hlt hlk hg
            obtain ⟨bc0, bc1⟩ := come_ok o j k g
            have bN := o.bN
            have hq := lot_lt hlt hlk hg
            have cQ : Hid (∀ d os, Calls Try.prog 72 #[.pointer (some ⟨L.c, 0, none⟩), .int .i64 j, .int .i64 k, .int .i64 g] (grow (redrawn wr d) os) fun e w'' => e = .returned (.int .i64 (((j * m.H + k) * m.G + g : Nat) : Int)) ∧ ∃ p : Regrown, w'' = grow (redrawn wr p.d) p.os) :=
              hide fun d os => Calls.regrown_of ((lot_nat _ L m N (Rr.regrown d os) o j k g hlt hlk hg).mono fun _ _ ⟨h1, n, h2⟩ => ⟨h1, by rw [h2]; exact below_drewN (Below.refl _ _) n⟩)
            have cE : Hid (∀ d os, Calls Try.prog 63 #[.pointer (some ⟨L.c, 0, none⟩), .int .i64 j, .int .i64 k, .int .i64 g] (grow (redrawn wr d) os) fun e w'' => e = .returned (.int .i64 (come j k g m.ld)) ∧ ∃ p : Regrown, w'' = grow (redrawn wr p.d) p.os) :=
              hide fun d os => Calls.regrown_of (coming_nat _ L m N (Rr.regrown d os) o j k g)
            have HR := hide (show rowTo m g j (k + 1) = rowTo m g j k + (m.pc j k g + come j k g m.ld) from rfl)
            generalize (j * m.H + k) * m.G + g = K at *
            generalize m.T * m.G * m.H = TT at *
            clear o R Rr cm cf
            generalize m.pc j k g = x at *
            generalize come j k g m.ld = y at *
            go_wp2
            refine wp_region_quiet_below mixed (by kernel_rfl) ?_
            repeat (quiet_step (first | exact cQ.out _ _ | exact cE.out _ _))
            refine wpQuiet_nil ?_
            intro _ hw'
            obtain ⟨⟨dq, osq⟩, hw''⟩ := hw'
            subst hw''
            go_wp2
            have w1 : IntKind.i64.wrap (n + totTo m g j + rowTo m g j k + x) = n + totTo m g j + rowTo m g j k + x := IntWalk.i64_in _ (by omega)
            have w2 : IntKind.i64.wrap (n + totTo m g j + rowTo m g j k + x + y) = n + totTo m g j + rowTo m g j k + x + y := IntWalk.i64_in _ (by omega)
            refine ⟨⟨k + 1, by omega, by go_num, ?_, hkp.trans (.of_below (below_regrown wr dq osq))⟩, by simp [intOf]; omega⟩
            rw [w1, w2, HR.out]
            exact congrArg (Value.int .i64) (by omega)
          · have e1 : k = m.H := by omega
            subst e1
            go_wp2
            refine ⟨⟨j + 1, by omega, by go_num, ?_, hkp⟩, by simp [intOf]; omega⟩
            rw [totTo]
            exact congrArg (Value.int .i64) (by omega)
      · have e1 : j = m.T := by omega
        subst e1
        by_cases hS : 1000000 < n + totTo m g m.T
        · go_wp2
          go_ret
          have e : bringE m t h g n = 8 := by rw [HE.out, if_pos hS]
          exact ⟨ret_int e.symm, by rw [bringM, e]; exact .same R hkp (by simp) (by simp)⟩
        · go_wp2_with fail
          refine (lot_nat _ L m N Rr o t h g ht hh hg).mono ?_
          rintro e w' ⟨rfl, nd', rfl⟩
          have c4 := Rr.cP.cell
          obtain ⟨cm, cf⟩ := Rr.pc t h g ht hh hg
          obtain ⟨bm0, bm1⟩ := o.pc t h g ht hh hg
          have bN := o.bN
          have hlt := lot_lt ht hh hg
          generalize hk : (t * m.H + h) * m.G + g = k at *
          have HK := hide hk
          clear hk
          generalize m.T * m.G * m.H = TT at *
          go_wp2
          go_region
          all_goals go_wp2
          all_goals go_ret
          all_goals have e : bringE m t h g n = 0 := by rw [HE.out, if_neg (by omega)]
          all_goals exact ⟨ret_int e.symm, by rw [bringM, e]; exact .pcs R (hkp.drewN _) t h g ht hh hg k HK.out _⟩
  · have e : Hid (bringE m t h g n = lotsE m t h g n) := hide (by simp [bringE, hl])
    have HL := hide (lots_any w L m t h g n R)
    have hM : Hid (bringM m t h g n = m) := hide (by simp [bringM, e.out, hl])
    generalize lotsE m t h g n = E at *
    have hne : (E != 0) = true := by simpa using hl
    clear hl
    go_enter Try.func33, Try.ntmps33
    go_wp2_with fail
    refine HL.out.mono ?_
    rintro e w' ⟨rfl, rfl⟩
    go_wp2
    go_ret
    exact ⟨ret_int e.out.symm, by rw [hM.out]; exact .same R (Keeps.refl [] _) (by simp) (by simp)⟩

end Go.Proofs.Ytcbfmolebomkdaa
