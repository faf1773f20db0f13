/- The document's market: Pay, Draw, Take. -/
import Derived.Test.YtcbfmolebomkdaaB
import Derived.Test.YtcbfmolebomkdaaFn
namespace Go.Proofs.Ytcbfmolebomkdaa
open Go.RowKit

/-- What a call on the document's market leaves. -/
structure RefPost (w : World) (L : RL) (m' : Mk) (w' : World) : Prop where
  kp : Keeps L.fp w w'
  rep : ∃ L', L'.c = L.c ∧ (∀ b, b ∈ L'.fp → b ∈ L.fp ∨ w.heap.size ≤ b) ∧ RefRep w' L' m'

theorem RefPost.same {w w' : World} {L : RL} {m : Mk} {S : List Nat} (h : RefRep w L m) (k : Keeps S w w') (hs : ∀ b, b ∈ L.fp → b ∉ S) (hs2 : ∀ b, b ∈ S → w.heap.size ≤ b) : RefPost w L m w' :=
  ⟨k.mono fun i hi => .inr (hs2 i hi), L, rfl, fun _ hb => .inl hb, h.keep k hs⟩

theorem RefPost.mo {w : World} {L : RL} {m : Mk} (R : RefRep w L m) (k : Nat) (hk : k < m.T) (x : Int) : RefPost w L (m.setMo k x) (w.setCell ⟨L.mb, k, none⟩ (.int .i64 x)).drew :=
  ⟨((Keeps.refl _ _).setCell (by simp [RL.fp]) _).drew, L, rfl, fun _ hb => .inl hb, (R.setMo k hk x).keep ((Keeps.refl [] _).drew) (by simp)⟩

theorem ret_int {k : IntKind} {a b : Int} (h : a = b) : Ending.returned (.int k a) = .returned (.int k b) := by rw [h]

set_option maxHeartbeats 400000 in
theorem refPay_any (w : World) (L : RL) (m : Mk) (N t x : Int) (R : RefRep w L m) (o : m.Ok N) :
    Calls Try.prog 29 #[.pointer (some ⟨L.c, 0, none⟩), .int .i64 t, .int .i64 x] w fun e w' => e = .returned (.int .i64 (payE m t x)) ∧ RefPost w L (payM m t x) w' := by
  have c0 := R.cT.cell
  have c3 := R.cM.cell
  have cF := R.cF.cell
  have bT := o.T8
  by_cases ht : okI m.T t
  · by_cases hx : okN x 1000000000000
    · obtain ⟨k, rfl⟩ := Int.eq_ofNat_of_zero_le ht.1
      have hk : k < m.T := by have := ht.2; omega
      have hx1 := hx.1
      have hx2 := hx.2
      obtain ⟨cm, cf⟩ := R.mo k hk
      obtain ⟨bm0, bm1⟩ := o.mo k hk
      have bS := sumMo_bd m.mo 1000000000000 m.T o.mo
      generalize hS : sumMo m.mo m.T = S at *
      have HS := hide hS; clear hS
      go_enter Try.func29, Try.ntmps29
      go_wp2
      go_loop [8, 9] (fun a i => ∃ j : Nat, j ≤ m.T ∧ i = .int .i64 j ∧ a = .int .i64 (x + sumMo m.mo j)) (fun _ i => m.T - (intOf i).toNat)
      case atStart => exact ⟨0, Nat.zero_le _, rfl, by simp [sumMo]⟩
      case round =>
        obtain ⟨j, hj, rfl, rfl⟩ := hrel
        by_cases hlt : j < m.T
        · have cj := (R.mo j hlt).cell
          have bj := o.mo j hlt
          have bs := sumMo_bd m.mo 1000000000000 j (fun t ht => o.mo t (by omega))
          go_wp2
          go_round
          case rel => exact ⟨j + 1, by omega, by go_num, by simp only [sumMo]; go_num⟩
          case measure => simp [intOf]; omega
        · have : j = m.T := by omega
          subst this
          rw [HS.out]
          by_cases hS : 1000000000000 < x + S
          · go_wp2
            go_ret
            have e : Hid (payE m k x = 8) := hide (by simp [payE, ht, hx, HS.out, hS])
            exact ⟨ret_int e.out.symm, by rw [payM, e.out]; exact .same R (Keeps.refl [] _) (by simp) (by simp)⟩
          · go_wp2
            go_region
            all_goals go_wp2
            all_goals go_ret
            all_goals have e : Hid (payE m k x = 0) := hide (by simp [payE, ht, hx, HS.out, hS])
            all_goals exact ⟨ret_int e.out.symm, by rw [payM, e.out]; exact .mo R k hk _⟩
    · have e : Hid (payE m t x = 5) := hide (by simp [payE, ht, hx])
      have ht1 := ht.1
      have ht2 := ht.2
      have hx' : x < 1 ∨ 1000000000000 < x := by simp only [okN] at hx; omega
      rcases hx' with hx' | hx'
      all_goals
        go_enter Try.func29, Try.ntmps29
        go_wp2
        go_ret
        exact ⟨ret_int e.out.symm, by rw [payM, e.out]; exact .same R (Keeps.refl [] _) (by simp) (by simp)⟩
  · have e : Hid (payE m t x = 2) := hide (by simp [payE, ht])
    go_enter Try.func29, Try.ntmps29
    go_wp2_with (first | (go_at_call 55; refine (trader_no _ _ _ _ c0 ht).mono ?_; rintro e w' ⟨rfl, rfl⟩))
    go_ret
    exact ⟨ret_int e.out.symm, by rw [payM, e.out]; exact .same R (Keeps.refl [] _) (by simp) (by simp)⟩

set_option maxHeartbeats 400000 in
theorem refDraw_any (w : World) (L : RL) (m : Mk) (N t x : Int) (R : RefRep w L m) (o : m.Ok N) :
    Calls Try.prog 31 #[.pointer (some ⟨L.c, 0, none⟩), .int .i64 t, .int .i64 x] w fun e w' => e = .returned (.int .i64 (drawE m t x)) ∧ RefPost w L (drawM m t x) w' := by
  have c0 := R.cT.cell
  have c3 := R.cM.cell
  have c5 := R.cW.cell
  have bT := o.T8
  by_cases ht : okI m.T t
  · by_cases hx : okN x 1000000000000
    · obtain ⟨k, rfl⟩ := Int.eq_ofNat_of_zero_le ht.1
      have hk : k < m.T := by have := ht.2; omega
      have hx1 := hx.1
      have hx2 := hx.2
      obtain ⟨cm, cf⟩ := R.mo k hk
      obtain ⟨bm0, bm1⟩ := o.mo k hk
      by_cases hS : m.mo k < x
      · have e : Hid (drawE m k x = 6) := hide (by simp [drawE, ht, hx, hS])
        go_enter Try.func31, Try.ntmps31
        go_wp2_with (first | (go_at_call 59; refine (free_any _ _ _ _ _ _ c5 c3 hk cm bm0 bm1).mono ?_; rintro e w' ⟨rfl, rfl⟩) | go_in)
        go_ret
        exact ⟨ret_int e.out.symm, by rw [drawM, e.out]; exact .same R (Keeps.refl [] _) (by simp) (by simp)⟩
      · have e : Hid (drawE m k x = 0) := hide (by simp [drawE, ht, hx, hS])
        go_enter Try.func31, Try.ntmps31
        go_wp2_with (first | (go_at_call 59; refine (free_any _ _ _ _ _ _ c5 c3 hk cm bm0 bm1).mono ?_; rintro e w' ⟨rfl, rfl⟩) | go_in)
        go_region
        all_goals go_wp2
        all_goals go_ret
        all_goals exact ⟨ret_int e.out.symm, by rw [drawM, e.out]; exact .mo R k hk _⟩
    · have e : Hid (drawE m t x = 5) := hide (by simp [drawE, ht, hx])
      have ht1 := ht.1
      have ht2 := ht.2
      have hx' : x < 1 ∨ 1000000000000 < x := by simp only [okN] at hx; omega
      rcases hx' with hx' | hx'
      all_goals
        go_enter Try.func31, Try.ntmps31
        go_wp2
        go_ret
        exact ⟨ret_int e.out.symm, by rw [drawM, e.out]; exact .same R (Keeps.refl [] _) (by simp) (by simp)⟩
  · have e : Hid (drawE m t x = 2) := hide (by simp [drawE, ht])
    go_enter Try.func31, Try.ntmps31
    go_wp2_with (first | (go_at_call 55; refine (trader_no _ _ _ _ c0 ht).mono ?_; rintro e w' ⟨rfl, rfl⟩))
    go_ret
    exact ⟨ret_int e.out.symm, by rw [drawM, e.out]; exact .same R (Keeps.refl [] _) (by simp) (by simp)⟩

set_option maxHeartbeats 400000 in
theorem spare_any (w : World) (L : RL) (m : Mk) (N : Int) (R : RefRep w L m) (o : m.Ok N) (t h g : Nat) (ht : t < m.T) (hh : h < m.H) (hg : g < m.G) :
    Calls Try.prog 61 #[.pointer (some ⟨L.c, 0, none⟩), .int .i64 t, .int .i64 h, .int .i64 g] w fun e w' => e = .returned (.int .i64 (m.pc t h g)) ∧ ∃ n, w' = w.drewN n := by
  have c1 := R.cG.cell
  have c2 := R.cR.cell
  have c4 := R.cP.cell
  have c5 := R.cW.cell
  have bT := o.T8
  have bG := o.G4
  have bH := o.H4
  obtain ⟨cm, cf⟩ := R.pc t h g ht hh hg
  obtain ⟨bm0, bm1⟩ := o.pc t h g ht hh hg
  have bN := o.bN
  have hlt := lot_lt ht hh hg
  have hq : ∀ w, w.cell? ⟨L.c, 1, none⟩ = some (.int .i64 m.G) → w.cell? ⟨L.c, 2, none⟩ = some (.slice (some ⟨L.rb, 0, none⟩) m.H L.rcap) → Calls Try.prog 72 #[.pointer (some ⟨L.c, 0, none⟩), .int .i64 t, .int .i64 h, .int .i64 g] w fun e w' => e = .returned (.int .i64 (((t * m.H + h) * m.G + g : Nat) : Int)) ∧ ∃ n, w' = w.drewN n := fun w q1 q2 => by
    have := lot_any L.c L.rb L.rcap m.H m.G t h g w q1 q2 (by omega) (by omega) (by omega) (by omega) (by omega) (by omega) (by omega) (by omega) (by omega)
    simpa using this
  have Hq := hide hq
  clear hq
  generalize (t * m.H + h) * m.G + g = k at *
  generalize m.T * m.G * m.H = TT at *
  generalize m.pc t h g = x at *
  clear R o
  go_enter Try.func61, Try.ntmps61
  go_wp2_with (first | (go_at_call 62; refine (kept_any _ _ _ _ _ c5).mono ?_; rintro e w' ⟨rfl, rfl⟩))
  go_quiet ((go_at_call 72; exact Calls.quiet_of (Hq.out _ (by simpa using c1) (by simpa using c2))))
  go_wp2
  go_ret
  exact ⟨rfl, _, rfl⟩

def inB (n : Nat) (t : Int) : Bool := decide (okI n t)
theorem inB_true {n : Nat} {t : Int} (h : inB n t = true) : okI n t := of_decide_eq_true h
theorem inB_false {n : Nat} {t : Int} (h : inB n t = false) : ¬ okI n t := of_decide_eq_false h

theorem trader_b (c T : Nat) (i : Int) (w : World) (h0 : w.cell? ⟨c, 0, none⟩ = some (.int .i64 T)) :
    Calls Try.prog 55 #[.pointer (some ⟨c, 0, none⟩), .int .i64 i] w fun e w' => e = .returned (.bool (inB T i)) ∧ w' = w := by
  cases h : inB T i
  · exact trader_no c T i w h0 (inB_false h)
  · exact trader_yes c T i w h0 (inB_true h)
theorem good_b (c T : Nat) (i : Int) (w : World) (h0 : w.cell? ⟨c, 1, none⟩ = some (.int .i64 T)) :
    Calls Try.prog 78 #[.pointer (some ⟨c, 0, none⟩), .int .i64 i] w fun e w' => e = .returned (.bool (inB T i)) ∧ w' = w := by
  cases h : inB T i
  · exact good_no c T i w h0 (inB_false h)
  · exact good_yes c T i w h0 (inB_true h)
theorem hall_b (c H : Nat) (a : Option Addr) (cap : Nat) (i : Int) (w : World) (h0 : w.cell? ⟨c, 2, none⟩ = some (.slice a H cap)) :
    Calls Try.prog 76 #[.pointer (some ⟨c, 0, none⟩), .int .i64 i] w fun e w' => e = .returned (.bool (inB H i)) ∧ w' = w := by
  cases h : inB H i
  · exact hall_no c H a cap i w h0 (inB_false h)
  · exact hall_yes c H a cap i w h0 (inB_true h)

set_option maxHeartbeats 400000 in
/-- What 'lots' gives. -/
theorem lots_any (w : World) (L : RL) (m : Mk) (t h g n : Int) (R : RefRep w L m) :
    Calls Try.prog 71 #[.pointer (some ⟨L.c, 0, none⟩), .int .i64 t, .int .i64 h, .int .i64 g, .int .i64 n] w fun e w' => e = .returned (.int .i64 (lotsE m t h g n)) ∧ w' = w := by
  have c0 := R.cT.cell
  have c1 := R.cG.cell
  have c2 := R.cR.cell
  go_enter Try.func71, Try.ntmps71
  go_wp2_with (first | (go_at_call 55; refine (trader_b _ _ _ _ c0).mono ?_; rintro e w' ⟨rfl, rfl⟩) | (go_at_call 76; refine (hall_b _ _ _ _ _ _ c2).mono ?_; rintro e w' ⟨rfl, rfl⟩) | (go_at_call 78; refine (good_b _ _ _ _ c1).mono ?_; rintro e w' ⟨rfl, rfl⟩))
  all_goals go_ret
  all_goals refine ⟨ret_int ?_, rfl⟩
  all_goals clear c0 c1 c2 R
  all_goals simp_all [lotsE, inB, okN]
  all_goals omega

theorem lotsE_zero {m : Mk} {t h g n : Int} (e : lotsE m t h g n = 0) : okI m.T t ∧ okI m.H h ∧ okI m.G g ∧ okN n 10000 := by
  unfold lotsE at e
  by_cases h1 : okI m.T t
  · by_cases h2 : okI m.H h
    · by_cases h3 : okI m.G g
      · by_cases h4 : okN n 10000
        · exact ⟨h1, h2, h3, h4⟩
        · simp [h1, h2, h3, h4] at e
      · simp [h1, h2, h3] at e
    · simp [h1, h2] at e
  · simp [h1] at e

theorem lot_nat (w : World) (L : RL) (m : Mk) (N : Int) (R : RefRep w L m) (o : m.Ok N) (t h g : Nat) (ht : t < m.T) (hh : h < m.H) (hg : g < m.G) :
    Calls Try.prog 72 #[.pointer (some ⟨L.c, 0, none⟩), .int .i64 t, .int .i64 h, .int .i64 g] w fun e w' => e = .returned (.int .i64 (((t * m.H + h) * m.G + g : Nat) : Int)) ∧ ∃ n, w' = w.drewN n := by
  have bT := o.T8
  have bG := o.G4
  have bH := o.H4
  have := lot_any L.c L.rb L.rcap m.H m.G t h g w R.cG.cell R.cR.cell (by omega) (by omega) (by omega) (by omega) (by omega) (by omega) (by omega) (by omega) (by omega)
  simpa using this

theorem RefPost.later {w w1 w2 : World} {L : RL} {m : Mk} (h : RefPost w L m w1) (k : Keeps [] w1 w2) : RefPost w L m w2 :=
  ⟨h.kp.trans' k (by simp), by obtain ⟨L', h1, h2, h3⟩ := h.rep; exact ⟨L', h1, h2, h3.keep k (by simp)⟩⟩

theorem RefPost.pcs {w w1 : World} {L : RL} {m : Mk} (R : RefRep w L m) (K : Keeps [] w w1) (t h g : Nat) (ht : t < m.T) (hh : h < m.H) (hg : g < m.G) (k : Nat) (hk : (t * m.H + h) * m.G + g = k) (x : Int) :
    RefPost w L (m.setPc t h g x) (w1.setCell ⟨L.pb, k, none⟩ (.int .i64 x)) := hk ▸
  ⟨(K.mono (by simp)).setCell (by simp [RL.fp]) _, L, rfl, fun _ hb => .inl hb, (R.keep K (by simp)).setPc t h g ht hh hg x⟩

set_option maxHeartbeats 400000 in
theorem refTake_any (w : World) (L : RL) (m : Mk) (N t h g n : Int) (R : RefRep w L m) (o : m.Ok N) :
    Calls Try.prog 35 #[.pointer (some ⟨L.c, 0, none⟩), .int .i64 t, .int .i64 h, .int .i64 g, .int .i64 n] w fun e w' => e = .returned (.int .i64 (takeE m t h g n)) ∧ RefPost w L (takeM m t h g n) w' := by
  have c1 := R.cG.cell
  have c2 := R.cR.cell
  have c4 := R.cP.cell
  have bT := o.T8
  have bG := o.G4
  have bH := o.H4
  by_cases hl : lotsE m t h g n = 0
  · obtain ⟨⟨t0, t1⟩, ⟨h0, h1⟩, ⟨g0, g1⟩, ⟨n0, n1⟩⟩ := lotsE_zero hl
    obtain ⟨t, rfl⟩ := Int.eq_ofNat_of_zero_le t0
    obtain ⟨h, rfl⟩ := Int.eq_ofNat_of_zero_le h0
    obtain ⟨g, rfl⟩ := Int.eq_ofNat_of_zero_le g0
    have ht : t < m.T := by omega
    have hh : h < m.H := by omega
    have hg : g < m.G := by omega
    obtain ⟨cm, cf⟩ := R.pc t h g ht hh hg
    obtain ⟨bm0, bm1⟩ := o.pc t h g ht hh hg
    have bN := o.bN
    have hlt := lot_lt ht hh hg
    have HL := hide (lots_any w L m t h g n R)
    rw [hl] at HL
    by_cases hS : m.pc t h g < n
    · have e : Hid (takeE m t h g n = 7) := hide (by simp [takeE, hl, hS])
      clear hl
      go_enter Try.func35, Try.ntmps35
      go_wp2_with fail
      refine HL.out.mono ?_
      rintro e w' ⟨rfl, rfl⟩
      go_wp2_with fail
      refine (spare_any _ L m N R o t h g ht hh hg).mono ?_
      rintro e w' ⟨rfl, nd, rfl⟩
      go_wp2
      go_ret
      exact ⟨ret_int e.out.symm, by rw [takeM, e.out]; exact .same R ((Keeps.refl [] _).drewN _) (by simp) (by simp)⟩
    · have e : Hid (takeE m t h g n = 0) := hide (by simp [takeE, hl, hS])
      clear hl
      go_enter Try.func35, Try.ntmps35
      go_wp2_with fail
      refine HL.out.mono ?_
      rintro e w' ⟨rfl, rfl⟩
      go_wp2_with fail
      refine (spare_any _ L m N R o t h g ht hh hg).mono ?_
      rintro e w' ⟨rfl, nd, rfl⟩
      go_wp2_with fail
      refine (lot_nat _ L m N (R.keep ((Keeps.refl [] _).drewN nd) (by simp)) o t h g ht hh hg).mono ?_
      rintro e w' ⟨rfl, nd', rfl⟩
      generalize hk : (t * m.H + h) * m.G + g = k at *
      have HK := hide hk
      clear hk
      generalize m.T * m.G * m.H = TT at *
      go_wp2
      go_region
      all_goals go_wp2
      all_goals go_ret
      all_goals exact ⟨ret_int e.out.symm, by rw [takeM, e.out]; exact .pcs R ((Keeps.refl [] _).drewN _) t h g ht hh hg k HK.out _⟩
  · have e : Hid (takeE m t h g n = lotsE m t h g n) := hide (by simp [takeE, hl])
    have HL := hide (lots_any w L m t h g n R)
    have hM : Hid (takeM m t h g n = m) := hide (by simp [takeM, e.out, hl])
    generalize lotsE m t h g n = E at *
    have hne : (E != 0) = true := by simpa using hl
    clear hl
    go_enter Try.func35, Try.ntmps35
    go_wp2_with fail
    refine HL.out.mono ?_
    rintro e w' ⟨rfl, rfl⟩
    go_wp2
    go_ret
    exact ⟨ret_int e.out.symm, by rw [hM.out]; exact .same R (Keeps.refl [] _) (by simp) (by simp)⟩

end Go.Proofs.Ytcbfmolebomkdaa
