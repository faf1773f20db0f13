/- The program's market: refusal. -/
import Derived.Lib.QuietBelow
import Derived.Test.YtcfoobhihhndjaaB22
namespace Go.Proofs.Ytcfoobhihhndjaa

section
open Go.RowKit Go.Sort

/-- a refusal under way: the order's own block -/
structure RfSt (w : World) (o : Od) (W : World) : Prop where
  kp : Kep non w W
  ob : OdAt W w.heap.size o

theorem RfSt.later {w : World} {o : Od} {W W' : World} (S : RfSt w o W) (k : Kep non W W') : RfSt w o W' := ⟨S.kp.trans k, fun j v hv => (S.ob j v hv).kep k (fun f => f)⟩

theorem RfSt.start (w : World) (o : Od) : RfSt w o (w.alloc (.cells #[.int .i64 o.id, .int .i64 o.t, .int .i64 o.h, .int .i64 o.g, .int .i64 o.s, .int .i64 o.p, .int .i64 o.q, .int .i64 o.w] 42)) := by
  have h1 := heap_alloc_new w (.cells #[.int .i64 o.id, .int .i64 o.t, .int .i64 o.h, .int .i64 o.g, .int .i64 o.s, .int .i64 o.p, .int .i64 o.q, .int .i64 o.w] 42)
  refine ⟨(Kep.refl _ _).alloc _, fun j v hv => ⟨?_, frozen_of_row _ _ j _ _ h1⟩⟩
  rw [cell_of_row _ _ j _ _ _ h1]
  simpa [Od.cells] using hv

theorem RfSt.cells {w : World} {o : Od} {W : World} (S : RfSt w o W) :
    W.cell? ⟨w.heap.size, 0, none⟩ = some (.int .i64 o.id) ∧ W.cell? ⟨w.heap.size, 1, none⟩ = some (.int .i64 o.t) ∧ W.cell? ⟨w.heap.size, 2, none⟩ = some (.int .i64 o.h) ∧ W.cell? ⟨w.heap.size, 3, none⟩ = some (.int .i64 o.g) ∧ W.cell? ⟨w.heap.size, 4, none⟩ = some (.int .i64 o.s) ∧ W.cell? ⟨w.heap.size, 5, none⟩ = some (.int .i64 o.p) ∧ W.cell? ⟨w.heap.size, 6, none⟩ = some (.int .i64 o.q) ∧ W.cell? ⟨w.heap.size, 7, none⟩ = some (.int .i64 o.w) :=
  ⟨(S.ob 0 _ rfl).cell, (S.ob 1 _ rfl).cell, (S.ob 2 _ rfl).cell, (S.ob 3 _ rfl).cell, (S.ob 4 _ rfl).cell, (S.ob 5 _ rfl).cell, (S.ob 6 _ rfl).cell, (S.ob 7 _ rfl).cell⟩

def refE1 (m : Mt) (o : Od) : Int := if ¬ okI m.T o.t then 2 else if ¬ okI m.H o.h then 3 else if ¬ okI m.G o.g then 4 else if o.fit = false then 5 else 0

set_option maxHeartbeats 2000000 in
set_option maxRecDepth 100000 in
theorem refusal_bad (w : World) (L : PL) (m : Mt) (N : Int) (R : PRep w L m) (ok : m.Ok N) (o : Od) (hE : refE1 m o ≠ 0) :
    Calls Try.prog 42 #[.pointer (some ⟨L.x, 0, none⟩), o.agg] w fun e w' => e = .returned (.int .i64 (placeE m o)) ∧ Kep non w w' := by
  have S0 := RfSt.start w o
  have R0 := R.later S0.kp
  obtain ⟨b0, b1, b2, b3, b4, b5, b6, b7⟩ := S0.cells
  have c0 := R0.cG.cell
  have c1 := R0.cR.cell
  have c2 := R0.cA.cell
  have bT := ok.T8
  have bH : m.H ≤ 8 := by have := ok.H4; omega
  have bG : m.G ≤ 8 := by have := ok.G4; omega
  have HF := hide (fun W => fit_any W o)
  have HS := hide S0
  clear R0 S0
  unfold Od.agg at HF ⊢
  by_cases i1 : okI m.T o.t
  · by_cases i2 : okI m.H o.h
    · by_cases i3 : okI m.G o.g
      · have i4 : o.fit = false := by
          cases h : o.fit
          · rfl
          · exact absurd (show refE1 m o = 0 by simp [refE1, i1, i2, i3, h]) hE
        have e : Hid (placeE m o = 5) := hide (by simp [placeE, i1, i2, i3, i4])
        have j1 := hide (inB_okI i1)
        have j2 := hide (inB_okI i2)
        have j3 := hide (inB_okI i3)
        rw [i4] at HF
        clear hE i1 i2 i3 i4
        go_enter Try.func42, Try.ntmps42
        go_wp2_with (first | (go_at_call 31; refine (hasTrader_b _ _ _ _ _ _ bT c2).mono ?_; rw [j1.out]; rintro e w' ⟨rfl, rfl⟩) | (go_at_call 32; refine (hasHall_b _ _ _ _ _ _ bH c1).mono ?_; rw [j2.out]; rintro e w' ⟨rfl, rfl⟩) | (go_at_call 33; refine (hasGood_b _ _ _ _ bG c0).mono ?_; rw [j3.out]; rintro e w' ⟨rfl, rfl⟩) | (go_at_call 53; refine (HF.out _).mono ?_; rintro e w1 ⟨rfl, kb⟩))
        go_ret
        exact ⟨ret_int e.out.symm, HS.out.kp.trans (Kep.of_below kb)⟩
      · have e : Hid (placeE m o = 4) := hide (by simp [placeE, i1, i2, i3])
        have j1 := hide (inB_okI i1)
        have j2 := hide (inB_okI i2)
        have j3 := hide (inB_not i3)
        clear hE i1 i2 i3
        go_enter Try.func42, Try.ntmps42
        go_wp2_with (first | (go_at_call 31; refine (hasTrader_b _ _ _ _ _ _ bT c2).mono ?_; rw [j1.out]; rintro e w' ⟨rfl, rfl⟩) | (go_at_call 32; refine (hasHall_b _ _ _ _ _ _ bH c1).mono ?_; rw [j2.out]; rintro e w' ⟨rfl, rfl⟩) | (go_at_call 33; refine (hasGood_b _ _ _ _ bG c0).mono ?_; rw [j3.out]; rintro e w' ⟨rfl, rfl⟩))
        go_ret
        exact ⟨ret_int e.out.symm, HS.out.kp⟩
    · have e : Hid (placeE m o = 3) := hide (by simp [placeE, i1, i2])
      have j1 := hide (inB_okI i1)
      have j2 := hide (inB_not i2)
      clear hE i1 i2
      go_enter Try.func42, Try.ntmps42
      go_wp2_with (first | (go_at_call 31; refine (hasTrader_b _ _ _ _ _ _ bT c2).mono ?_; rw [j1.out]; rintro e w' ⟨rfl, rfl⟩) | (go_at_call 32; refine (hasHall_b _ _ _ _ _ _ bH c1).mono ?_; rw [j2.out]; rintro e w' ⟨rfl, rfl⟩))
      go_ret
      exact ⟨ret_int e.out.symm, HS.out.kp⟩
  · have e : Hid (placeE m o = 2) := hide (by simp [placeE, i1])
    have j1 := hide (inB_not i1)
    clear hE i1
    go_enter Try.func42, Try.ntmps42
    go_wp2_with (first | (go_at_call 31; refine (hasTrader_b _ _ _ _ _ _ bT c2).mono ?_; rw [j1.out]; rintro e w' ⟨rfl, rfl⟩))
    go_ret
    exact ⟨ret_int e.out.symm, HS.out.kp⟩

theorem fit_bd {o : Od} (h : o.fit = true) : (0 ≤ o.s ∧ o.s ≤ 1) ∧ (0 ≤ o.w ∧ o.w ≤ 3) ∧ (1 ≤ o.p ∧ o.p ≤ 100000) ∧ (1 ≤ o.q ∧ o.q ≤ 10000) := by
  simp only [Od.fit, inR, Bool.and_eq_true, decide_eq_true_eq] at h
  exact ⟨h.1.1.1, h.1.1.2, h.1.2, h.2⟩

theorem refE1_zero {m : Mt} {o : Od} (h : refE1 m o = 0) : okI m.T o.t ∧ okI m.H o.h ∧ okI m.G o.g ∧ o.fit = true := by
  unfold refE1 at h
  by_cases i1 : okI m.T o.t
  · by_cases i2 : okI m.H o.h
    · by_cases i3 : okI m.G o.g
      · cases i4 : o.fit
        · simp [i1, i2, i3, i4] at h
        · exact ⟨i1, i2, i3, rfl⟩
      · simp [i1, i2, i3] at h
    · simp [i1, i2] at h
  · simp [i1] at h

def refE2 (m : Mt) (o : Od) : Int :=
  if 60 ≤ m.all.length then 8
  else if o.s = 0 ∧ m.mo o.t.toNat < m.costOf o then 6
  else if o.s = 1 ∧ m.pc o.t.toNat o.h.toNat o.g.toNat < o.q then 7
  else if o.w = 3 ∧ 0 < m.met o then 10
  else if o.w = 2 ∧ m.met o < o.q then 11
  else 0

theorem placeE_two {m : Mt} {o : Od} (h : refE1 m o = 0) : placeE m o = refE2 m o := by
  obtain ⟨i1, i2, i3, i4⟩ := refE1_zero h
  simp [placeE, refE2, i1, i2, i3, i4]

theorem ends_ret {w : World} {o : Od} {a b : Int} {W : World} (S : RfSt w o W) (h : a = b) : Ending.returned (.int .i64 a) = .returned (.int .i64 b) ∧ Kep non w W := ⟨ret_int h, S.kp⟩

set_option maxHeartbeats 4000000 in
set_option maxRecDepth 100000 in
theorem refusal_good (w : World) (L : PL) (m : Mt) (N : Int) (R : PRep w L m) (ok : m.Ok N) (o : Od) (hE : refE1 m o = 0) :
    Calls Try.prog 42 #[.pointer (some ⟨L.x, 0, none⟩), o.agg] w fun e w' => e = .returned (.int .i64 (placeE m o)) ∧ Kep non w w' := by
  rw [placeE_two hE]
  obtain ⟨i1, i2, i3, i4⟩ := refE1_zero hE
  obtain ⟨hs, hw, hp, hq⟩ := fit_bd i4
  have S0 := RfSt.start w o
  have R0 := R.later S0.kp
  obtain ⟨b0, b1, b2, b3, b4, b5, b6, b7⟩ := S0.cells
  have c0 := R0.cG.cell
  have c1 := R0.cR.cell
  have c2 := R0.cA.cell
  have bT := ok.T8
  have bH : m.H ≤ 8 := by have := ok.H4; omega
  have bG : m.G ≤ 8 := by have := ok.G4; omega
  have HF := hide (fun W => fit_any W o)
  have HS := hide S0
  obtain ⟨t, et⟩ : ∃ t : Nat, o.t = t := ⟨o.t.toNat, by have := i1.1; omega⟩
  obtain ⟨h, eh⟩ : ∃ h : Nat, o.h = h := ⟨o.h.toNat, by have := i2.1; omega⟩
  obtain ⟨g, eg⟩ : ∃ g : Nat, o.g = g := ⟨o.g.toNat, by have := i3.1; omega⟩
  obtain ⟨s, es⟩ : ∃ s : Nat, o.s = s := ⟨o.s.toNat, by omega⟩
  have ht : t < m.T := by have := i1.2; omega
  have hh : h < m.H := by have := i2.2; omega
  have hg : g < m.G := by have := i3.2; omega
  have hlen := R.len_all
  have h60 := ok.a60
  have hpq := mul_le' (a := o.p) (b := o.q) (A := 100000) (B := 10000) (by omega) hp.2 (by omega) hq.2
  have hfe := fee_bd ok hh hpq.1 (by omega)
  have HW := hide (fun W (S : RfSt w o W) => waiting_any W L m N (R.later S.kp) ok (by omega))
  have HC := hide (fun W (S : RfSt w o W) => cost_any W L m N (R.later S.kp) ok o h eh hh (by omega) (by omega) (by omega))
  have HM := hide (fun W (S : RfSt w o W) => piecesMet_any W L m N (R.later S.kp) ok o h g s eh eg es hh hg (by omega))
  have HA := hide (fun W (S : RfSt w o W) => And.intro (R.later S.kp).cA.cell (And.intro ((R.later S.kp).mo t ht).cell ((R.later S.kp).pc t h g ht (by have := ok.H4; omega) (by have := ok.G4; omega)).cell))
  have j1 := hide (inB_okI i1)
  have j2 := hide (inB_okI i2)
  have j3 := hide (inB_okI i3)
  have HE2 : Hid (refE2 m o = if 60 ≤ m.all.length then 8
    else if o.s = 0 ∧ m.mo t < m.costOf o then 6
    else if o.s = 1 ∧ m.pc t h g < o.q then 7
    else if o.w = 3 ∧ 0 < m.met o then 10
    else if o.w = 2 ∧ m.met o < o.q then 11
    else 0) := hide (by rw [refE2, show o.t.toNat = t by omega, show o.h.toNat = h by omega, show o.g.toNat = g by omega])
  rw [i4] at HF
  unfold Od.agg at HF HC HM ⊢
  rw [hlen] at HW
  rw [et, eh, eg] at HC HM
  have EE := hide (And.intro et (And.intro eh eg))
  clear et eh eg es
  clear R0 S0 i1 i2 i3 i4 hE hpq hfe hlen
  go_enter Try.func42, Try.ntmps42
  go_wp2_with (first | (go_at_call 31; refine (hasTrader_b _ _ _ _ _ _ bT c2).mono ?_; rw [j1.out]; rintro e w' ⟨rfl, rfl⟩) | (go_at_call 32; refine (hasHall_b _ _ _ _ _ _ bH c1).mono ?_; rw [j2.out]; rintro e w' ⟨rfl, rfl⟩) | (go_at_call 33; refine (hasGood_b _ _ _ _ bG c0).mono ?_; rw [j3.out]; rintro e w' ⟨rfl, rfl⟩) | (go_at_call 53; refine (HF.out _).mono ?_; rintro e w1 ⟨rfl, kb⟩))
  have S1 := HS.out.later (Kep.of_below kb)
  refine (HW.out _ S1).mono ?_
  rintro e w2 ⟨v, rfl, hown, kb2⟩
  have S2 := S1.later (Kep.of_below kb2)
  obtain ⟨va, vc, hv⟩ : ∃ va vc, v = .slice va m.all.length vc := by
    rcases hown.2 with ⟨e1, e2⟩ | ⟨b, cap, cur, e1, _⟩
    · exact ⟨none, 0, by rw [e1, e2]⟩
    · exact ⟨_, _, e1⟩
  subst hv
  clear b0 b1 b2 b3 b4 b5 b6 b7 c0 c1 c2 S1 kb kb2 hown HS HF j1 j2 j3 HW
  obtain ⟨b0, b1, b2, b3, b4, b5, b6, b7⟩ := S2.cells
  obtain ⟨c2, cm, cp⟩ := HA.out _ S2
  rw [EE.out.1] at b1
  rw [EE.out.2.1] at b2
  rw [EE.out.2.2] at b3
  have HS := hide S2
  clear S2
  by_cases hf : 60 ≤ m.all.length
  · have e : Hid (8 = refE2 m o) := hide (by rw [HE2.out, if_pos hf])
    go_wp2
    go_ret
    exact ends_ret HS.out e.out
  · go_wp2
    by_cases hs0 : o.s = 0
    · rw [hs0] at b4 HC HM
      have b1' := cell_regrown b1
      have b2' := cell_regrown b2
      have b3' := cell_regrown b3
      have b4' := cell_regrown b4
      have b5' := cell_regrown b5
      have b6' := cell_regrown b6
      have b7' := cell_regrown b7
      have b0' := cell_regrown b0
      have c2' := cell_regrown c2
      have cm' := cell_regrown cm
      have cC : Hid (∀ d os, Calls Try.prog 67 _ (grow (redrawn w2 d) os) fun e w'' => e = .returned (.int .i64 (m.costOf o)) ∧ ∃ p : Regrown, w'' = grow (redrawn w2 p.d) p.os) :=
        hide fun d os => Calls.regrown_of (HC.out _ (HS.out.later (Kep.of_below (below_regrown w2 d os))))
      generalize m.costOf o = co at *
      have ht' : (t : Int) < (m.T : Int) := by omega
      refine wp_region_quiet_below mixed (by kernel_rfl) ?_
      repeat (quiet_step (first | exact cC.out _ _))
      refine wpQuiet_nil ?_
      intro _ hw'
      obtain ⟨⟨dq, osq⟩, hw''⟩ := hw'
      subst hw''
      have S3 := HS.out.later (Kep.of_below (below_regrown w2 dq osq))
      clear b0' b1' b2' b3' b4' b5' b6' b7' c2' cm' cC HC
      clear b0 b1 b2 b3 b4 b5 b6 b7 c2 cm cp HS
      generalize grow (redrawn w2 dq) osq = w3 at *
      obtain ⟨b0, b1, b2, b3, b4, b5, b6, b7⟩ := S3.cells
      obtain ⟨c2, cm, cp⟩ := HA.out _ S3
      rw [EE.out.1] at b1
      rw [EE.out.2.1] at b2
      rw [EE.out.2.2] at b3
      rw [hs0] at b4
      have HS := hide S3
      clear S3
      by_cases h6 : m.mo t < co
      · have e : Hid (6 = refE2 m o) := hide (by rw [HE2.out, if_neg hf, if_pos ⟨hs0, h6⟩])
        go_wp2
        go_ret
        exact ends_ret HS.out e.out
      · have H6 : Hid (refE2 m o = if o.w = 3 ∧ 0 < m.met o then 10 else if o.w = 2 ∧ m.met o < o.q then 11 else 0) := hide (by rw [HE2.out, if_neg hf, if_neg (fun f => h6 f.2), if_neg (fun f => by omega)])
        go_wp2
        go_quiet (fail)
        have S3 := HS.out.later ((Kep.refl non w3).drewN nq)
        clear b0 b1 b2 b3 b4 b5 b6 b7 c2 cm cp HS
        generalize w3.drewN nq = w4 at *
        obtain ⟨b0, b1, b2, b3, b4, b5, b6, b7⟩ := S3.cells
        obtain ⟨c2, cm, cp⟩ := HA.out _ S3
        rw [EE.out.1] at b1
        rw [EE.out.2.1] at b2
        rw [EE.out.2.2] at b3
        rw [hs0] at b4
        have HS := hide S3
        clear S3
        generalize m.met o = me at *
        by_cases hw3 : o.w = 3
        · rw [hw3] at b7 HM
          go_wp2_with (go_at_call 68; refine (HM.out _ HS.out).mono ?_; rintro e w5 ⟨rfl, kb4⟩)
          all_goals have S4 := HS.out.later (Kep.of_below kb4)
          · go_ret
            exact ends_ret S4 (by rw [H6.out, if_pos ⟨hw3, by assumption⟩])
          · obtain ⟨b0, b1, b2, b3, b4, b5, b6, b7⟩ := S4.cells
            rw [hw3] at b7
            go_quiet (fail)
            go_wp2
            go_ret
            exact ends_ret (S4.later ((Kep.refl _ _).drewN _)) (by rw [H6.out, if_neg (fun f => by omega), if_neg (fun f => by omega)])
        · have w3 : (o.w == 3) = false := beq_eq_false_iff_ne.2 hw3
          by_cases hw2 : o.w = 2
          · rw [hw2] at b7 HM
            clear w3
            go_wp2
            have b0' := cell_regrown b0
            have b1' := cell_regrown b1
            have b2' := cell_regrown b2
            have b3' := cell_regrown b3
            have b4' := cell_regrown b4
            have b5' := cell_regrown b5
            have b6' := cell_regrown b6
            have b7' := cell_regrown b7
            have cM : Hid (∀ d os, Calls Try.prog 68 _ (grow (redrawn w4 d) os) fun e w'' => e = .returned (.int .i64 me) ∧ ∃ p : Regrown, w'' = grow (redrawn w4 p.d) p.os) :=
              hide fun d os => Calls.regrown_of (HM.out _ (HS.out.later (Kep.of_below (below_regrown w4 d os))))
            refine wp_region_quiet_below mixed (by kernel_rfl) ?_
            repeat (quiet_step (first | exact cM.out _ _))
            refine wpQuiet_nil ?_
            intro _ hw'
            obtain ⟨⟨dq2, osq2⟩, hw''⟩ := hw'
            subst hw''
            have S5 := HS.out.later (Kep.of_below (below_regrown w4 dq2 osq2))
            by_cases hm : me < o.q
            · go_wp2
              go_ret
              exact ends_ret S5 (by rw [H6.out, if_neg (fun f => hw3 f.1), if_pos ⟨hw2, hm⟩])
            · go_wp2
              go_ret
              exact ends_ret S5 (by rw [H6.out, if_neg (fun f => hw3 f.1), if_neg (fun f => by have := f.2; omega)])
          · have w2 : (o.w == 2) = false := beq_eq_false_iff_ne.2 hw2
            go_wp2
            go_quiet (fail)
            go_wp2
            go_ret
            exact ends_ret (HS.out.later ((Kep.refl _ _).drewN _)) (by rw [H6.out, if_neg (fun f => hw3 f.1), if_neg (fun f => hw2 f.1)])
    · have hs0 : o.s = 1 := by omega
      rw [hs0] at b4 HC HM
      have h4 : (h : Int) < 4 := by have := ok.H4; omega
      have g4 : (g : Int) < 4 := by have := ok.G4; omega
      have ht' : (t : Int) < (m.T : Int) := by omega
      have s0 : (o.s == 0) = false := beq_eq_false_iff_ne.2 (by omega)
      go_quiet (fail)
      have S3 := HS.out.later ((Kep.refl non w2).drewN nq)
      clear HC
      clear b0 b1 b2 b3 b4 b5 b6 b7 c2 cm cp HS
      generalize w2.drewN nq = w3 at *
      obtain ⟨b0, b1, b2, b3, b4, b5, b6, b7⟩ := S3.cells
      obtain ⟨c2, cm, cp⟩ := HA.out _ S3
      rw [EE.out.1] at b1
      rw [EE.out.2.1] at b2
      rw [EE.out.2.2] at b3
      rw [hs0] at b4
      have HS := hide S3
      clear S3
      by_cases h7 : m.pc t h g < o.q
      · have e : Hid (7 = refE2 m o) := hide (by rw [HE2.out, if_neg hf, if_neg (fun f => by omega), if_pos ⟨hs0, h7⟩])
        go_wp2
        go_quiet (fail)
        go_wp2
        go_ret
        exact ends_ret (HS.out.later ((Kep.refl _ _).drewN _)) e.out
      · have H6 : Hid (refE2 m o = if o.w = 3 ∧ 0 < m.met o then 10 else if o.w = 2 ∧ m.met o < o.q then 11 else 0) := hide (by rw [HE2.out, if_neg hf, if_neg (fun f => by omega), if_neg (fun f => h7 f.2)])
        go_wp2
        go_quiet (fail)
        have S3 := HS.out.later ((Kep.refl non w3).drewN nq)
        clear b0 b1 b2 b3 b4 b5 b6 b7 c2 cm cp HS
        generalize w3.drewN nq = w4 at *
        obtain ⟨b0, b1, b2, b3, b4, b5, b6, b7⟩ := S3.cells
        obtain ⟨c2, cm, cp⟩ := HA.out _ S3
        rw [EE.out.1] at b1
        rw [EE.out.2.1] at b2
        rw [EE.out.2.2] at b3
        rw [hs0] at b4
        have HS := hide S3
        clear S3
        generalize m.met o = me at *
        by_cases hw3 : o.w = 3
        · rw [hw3] at b7 HM
          go_wp2_with (go_at_call 68; refine (HM.out _ HS.out).mono ?_; rintro e w5 ⟨rfl, kb4⟩)
          all_goals have S4 := HS.out.later (Kep.of_below kb4)
          · go_ret
            exact ends_ret S4 (by rw [H6.out, if_pos ⟨hw3, by assumption⟩])
          · obtain ⟨b0, b1, b2, b3, b4, b5, b6, b7⟩ := S4.cells
            rw [hw3] at b7
            go_quiet (fail)
            go_wp2
            go_ret
            exact ends_ret (S4.later ((Kep.refl _ _).drewN _)) (by rw [H6.out, if_neg (fun f => by omega), if_neg (fun f => by omega)])
        · have w3 : (o.w == 3) = false := beq_eq_false_iff_ne.2 hw3
          by_cases hw2 : o.w = 2
          · rw [hw2] at b7 HM
            clear w3
            go_wp2
            have b0' := cell_regrown b0
            have b1' := cell_regrown b1
            have b2' := cell_regrown b2
            have b3' := cell_regrown b3
            have b4' := cell_regrown b4
            have b5' := cell_regrown b5
            have b6' := cell_regrown b6
            have b7' := cell_regrown b7
            have cM : Hid (∀ d os, Calls Try.prog 68 _ (grow (redrawn w4 d) os) fun e w'' => e = .returned (.int .i64 me) ∧ ∃ p : Regrown, w'' = grow (redrawn w4 p.d) p.os) :=
              hide fun d os => Calls.regrown_of (HM.out _ (HS.out.later (Kep.of_below (below_regrown w4 d os))))
            refine wp_region_quiet_below mixed (by kernel_rfl) ?_
            repeat (quiet_step (first | exact cM.out _ _))
            refine wpQuiet_nil ?_
            intro _ hw'
            obtain ⟨⟨dq2, osq2⟩, hw''⟩ := hw'
            subst hw''
            have S5 := HS.out.later (Kep.of_below (below_regrown w4 dq2 osq2))
            by_cases hm : me < o.q
            · go_wp2
              go_ret
              exact ends_ret S5 (by rw [H6.out, if_neg (fun f => hw3 f.1), if_pos ⟨hw2, hm⟩])
            · go_wp2
              go_ret
              exact ends_ret S5 (by rw [H6.out, if_neg (fun f => hw3 f.1), if_neg (fun f => by have := f.2; omega)])
          · have w2 : (o.w == 2) = false := beq_eq_false_iff_ne.2 hw2
            go_wp2
            go_quiet (fail)
            go_wp2
            go_ret
            exact ends_ret (HS.out.later ((Kep.refl _ _).drewN _)) (by rw [H6.out, if_neg (fun f => hw3 f.1), if_neg (fun f => hw2 f.1)])

theorem refusal_any (w : World) (L : PL) (m : Mt) (N : Int) (R : PRep w L m) (ok : m.Ok N) (o : Od) :
    Calls Try.prog 42 #[.pointer (some ⟨L.x, 0, none⟩), o.agg] w fun e w' => e = .returned (.int .i64 (placeE m o)) ∧ Kep non w w' := by
  by_cases h : refE1 m o = 0
  · exact refusal_good w L m N R ok o h
  · exact refusal_bad w L m N R ok o h
end

end Go.Proofs.Ytcfoobhihhndjaa
