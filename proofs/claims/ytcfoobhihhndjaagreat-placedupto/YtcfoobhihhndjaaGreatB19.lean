
import Derived.Lib.QuietBelow
import Derived.Test.YtcfoobhihhndjaaGreatB15
import Derived.Test.YtcfoobhihhndjaaGreatB18
namespace Go.Proofs.YtcfoobhihhndjaaGreat

section
open Go.RowKit Go.Sort

structure RfSt (w:World) (o:Od) (W:World):Prop where
  kp:Kep non w W
  ob:OdAt W w.heap.size o

theorem RfSt.later {w:World} {o:Od} {W W':World} (S:RfSt w o W) (k:Kep non W W'):RfSt w o W':=⟨S.kp.trans k,fun j v hv=>(S.ob j v hv).kep k (fun f=>f)⟩

theorem RfSt.start (w:World) (o:Od):RfSt w o (w.alloc (.cells #[.int .i64 o.id,.int .i64 o.t,.int .i64 o.h,.int .i64 o.g,.int .i64 o.s,.int .i64 o.p,.int .i64 o.q,.int .i64 o.w] 40)):=by
  have h1:=heap_alloc_new w (.cells #[.int .i64 o.id,.int .i64 o.t,.int .i64 o.h,.int .i64 o.g,.int .i64 o.s,.int .i64 o.p,.int .i64 o.q,.int .i64 o.w] 40)
  refine ⟨(Kep.refl _ _).alloc _,fun j v hv=>⟨?_,frozen_of_row _ _ j _ _ h1⟩⟩
  rw [cell_of_row _ _ j _ _ _ h1]
  simpa [Od.cells] using hv

theorem RfSt.cells {w:World} {o:Od} {W:World} (S:RfSt w o W) :
    W.cell? ⟨w.heap.size,0,none⟩=some (.int .i64 o.id)∧W.cell? ⟨w.heap.size,1,none⟩=some (.int .i64 o.t)∧W.cell? ⟨w.heap.size,2,none⟩=some (.int .i64 o.h)∧W.cell? ⟨w.heap.size,3,none⟩=some (.int .i64 o.g)∧W.cell? ⟨w.heap.size,4,none⟩=some (.int .i64 o.s)∧W.cell? ⟨w.heap.size,5,none⟩=some (.int .i64 o.p)∧W.cell? ⟨w.heap.size,6,none⟩=some (.int .i64 o.q)∧W.cell? ⟨w.heap.size,7,none⟩=some (.int .i64 o.w) :=
  ⟨(S.ob 0 _ rfl).cell,(S.ob 1 _ rfl).cell,(S.ob 2 _ rfl).cell,(S.ob 3 _ rfl).cell,(S.ob 4 _ rfl).cell,(S.ob 5 _ rfl).cell,(S.ob 6 _ rfl).cell,(S.ob 7 _ rfl).cell⟩

def refE1 (m:Mt) (o:Od):Int:=if ¬ okI m.T o.t then 2 else if ¬ okI m.H o.h then 3 else if ¬ okI m.G o.g then 4 else if o.fit=false then 5 else 0

set_option maxHeartbeats 2000000 in
set_option maxRecDepth 100000 in
theorem refusal_bad (w:World) (L:PL) (m:Mt) (N:Int) (R:PRep w L m) (ok:m.Ok N) (o:Od) (hE:refE1 m o≠0) :
    Calls Tryz.prog 42 #[.pointer (some ⟨L.x,0,none⟩),o.agg] w fun e w'=>e = .returned (.int .i64 (placeE m o))∧Kep non w w':=by
  have S0:=RfSt.start w o
  have R0:=R.later S0.kp
  obtain ⟨b0,b1,b2,b3,b4,b5,b6,b7⟩:=S0.cells
  have c0:=R0.cG.cell
  have c1:=R0.cR.cell
  have c2:=R0.cA.cell
  have bT:=ok.T8
  have bH:m.H≤8:=by have:=ok.H4;omega
  have bG:m.G≤8:=by have:=ok.G4;omega
  have HF:=hide (fun W=>fit_any W o)
  have HS:=hide S0
  clear R0 S0
  unfold Od.agg at HF ⊢
  by_cases i1:okI m.T o.t
  · by_cases i2:okI m.H o.h
    · by_cases i3:okI m.G o.g
      · have i4:o.fit=false:=by
          cases h:o.fit
          · rfl
          · exact absurd (show refE1 m o=0 by simp [refE1,i1,i2,i3,h]) hE
        have e:Hid (placeE m o=5):=hide (by simp [placeE,i1,i2,i3,i4])
        have j1:=hide (inB_okI i1)
        have j2:=hide (inB_okI i2)
        have j3:=hide (inB_okI i3)
        rw [i4] at HF
        clear hE i1 i2 i3 i4
        go_enter Tryz.func42,Tryz.ntmps42
        go_wp2_with (first | (go_at_call 63;refine (hasTrader_b _ _ _ _ _ _ bT c2).mono ?_;rw [j1.out];rintro e w' ⟨rfl,rfl⟩) | (go_at_call 88;refine (hasHall_b _ _ _ _ _ _ bH c1).mono ?_;rw [j2.out];rintro e w' ⟨rfl,rfl⟩) | (go_at_call 89;refine (hasGood_b _ _ _ _ bG c0).mono ?_;rw [j3.out];rintro e w' ⟨rfl,rfl⟩) | (go_at_call 68;refine (HF.out _).mono ?_;rintro e w1 ⟨rfl,kb⟩))
        go_ret
        exact ⟨ret_int e.out.symm,HS.out.kp.trans (Kep.of_below kb)⟩
      · have e:Hid (placeE m o=4):=hide (by simp [placeE,i1,i2,i3])
        have j1:=hide (inB_okI i1)
        have j2:=hide (inB_okI i2)
        have j3:=hide (inB_not i3)
        clear hE i1 i2 i3
        go_enter Tryz.func42,Tryz.ntmps42
        go_wp2_with (first | (go_at_call 63;refine (hasTrader_b _ _ _ _ _ _ bT c2).mono ?_;rw [j1.out];rintro e w' ⟨rfl,rfl⟩) | (go_at_call 88;refine (hasHall_b _ _ _ _ _ _ bH c1).mono ?_;rw [j2.out];rintro e w' ⟨rfl,rfl⟩) | (go_at_call 89;refine (hasGood_b _ _ _ _ bG c0).mono ?_;rw [j3.out];rintro e w' ⟨rfl,rfl⟩))
        go_ret
        exact ⟨ret_int e.out.symm,HS.out.kp⟩
    · have e:Hid (placeE m o=3):=hide (by simp [placeE,i1,i2])
      have j1:=hide (inB_okI i1)
      have j2:=hide (inB_not i2)
      clear hE i1 i2
      go_enter Tryz.func42,Tryz.ntmps42
      go_wp2_with (first | (go_at_call 63;refine (hasTrader_b _ _ _ _ _ _ bT c2).mono ?_;rw [j1.out];rintro e w' ⟨rfl,rfl⟩) | (go_at_call 88;refine (hasHall_b _ _ _ _ _ _ bH c1).mono ?_;rw [j2.out];rintro e w' ⟨rfl,rfl⟩))
      go_ret
      exact ⟨ret_int e.out.symm,HS.out.kp⟩
  · have e:Hid (placeE m o=2):=hide (by simp [placeE,i1])
    have j1:=hide (inB_not i1)
    clear hE i1
    go_enter Tryz.func42,Tryz.ntmps42
    go_wp2_with (first | (go_at_call 63;refine (hasTrader_b _ _ _ _ _ _ bT c2).mono ?_;rw [j1.out];rintro e w' ⟨rfl,rfl⟩))
    go_ret
    exact ⟨ret_int e.out.symm,HS.out.kp⟩

theorem fit_bd {o:Od} (h:o.fit=true):(0≤o.s∧o.s≤1)∧(0≤o.w∧o.w≤3)∧(1≤o.p∧o.p≤100000)∧(1≤o.q∧o.q≤10000):=by
  simp only [Od.fit,inR,Bool.and_eq_true,decide_eq_true_eq] at h
  exact ⟨h.1.1.1,h.1.1.2,h.1.2,h.2⟩

theorem refE1_zero {m:Mt} {o:Od} (h:refE1 m o=0):okI m.T o.t∧okI m.H o.h∧okI m.G o.g∧o.fit=true:=by
  unfold refE1 at h
  by_cases i1:okI m.T o.t
  · by_cases i2:okI m.H o.h
    · by_cases i3:okI m.G o.g
      · cases i4:o.fit
        · simp [i1,i2,i3,i4] at h
        · exact ⟨i1,i2,i3,rfl⟩
      · simp [i1,i2,i3] at h
    · simp [i1,i2] at h
  · simp [i1] at h

def refE2 (m:Mt) (o:Od):Int :=
  if 60≤m.all.length then 8
  else if o.s=0∧m.mo o.t.toNat<m.costOf o then 6
  else if o.s=1∧m.pc o.t.toNat o.h.toNat o.g.toNat<o.q then 7
  else if o.w=3∧0<m.met o then 10
  else if o.w=2∧m.met o<o.q then 11
  else 0

theorem placeE_two {m:Mt} {o:Od} (h:refE1 m o=0):placeE m o=refE2 m o:=by
  obtain ⟨i1,i2,i3,i4⟩:=refE1_zero h
  simp [placeE,refE2,i1,i2,i3,i4]

theorem ends_ret {w:World} {o:Od} {a b:Int} {W:World} (S:RfSt w o W) (h:a=b):Ending.returned (.int .i64 a) = .returned (.int .i64 b)∧Kep non w W:=⟨ret_int h,S.kp⟩

set_option maxHeartbeats 4000000 in
set_option maxRecDepth 100000 in
theorem refusal_good (w:World) (L:PL) (m:Mt) (N:Int) (R:PRep w L m) (ok:m.Ok N) (o:Od) (hE:refE1 m o=0) :
    Calls Tryz.prog 42 #[.pointer (some ⟨L.x,0,none⟩),o.agg] w fun e w'=>e = .returned (.int .i64 (placeE m o))∧Kep non w w':=by
  rw [placeE_two hE]
  obtain ⟨i1,i2,i3,i4⟩:=refE1_zero hE
  obtain ⟨hs,hw,hp,hq⟩:=fit_bd i4
  have S0:=RfSt.start w o
  have R0:=R.later S0.kp
  obtain ⟨b0,b1,b2,b3,b4,b5,b6,b7⟩:=S0.cells
  have c0:=R0.cG.cell
  have c1:=R0.cR.cell
  have c2:=R0.cA.cell
  have bT:=ok.T8
  have bH:m.H≤8:=by have:=ok.H4;omega
  have bG:m.G≤8:=by have:=ok.G4;omega
  have HF:=hide (fun W=>fit_any W o)
  have HS:=hide S0
  obtain ⟨t,et⟩ : ∃ t:Nat,o.t=t:=⟨o.t.toNat,by have:=i1.1;omega⟩
  obtain ⟨h,eh⟩ : ∃ h:Nat,o.h=h:=⟨o.h.toNat,by have:=i2.1;omega⟩
  obtain ⟨g,eg⟩ : ∃ g:Nat,o.g=g:=⟨o.g.toNat,by have:=i3.1;omega⟩
  obtain ⟨s,es⟩ : ∃ s:Nat,o.s=s:=⟨o.s.toNat,by omega⟩
  have ht:t<m.T:=by have:=i1.2;omega
  have hh:h<m.H:=by have:=i2.2;omega
  have hg:g<m.G:=by have:=i3.2;omega
  have hlen:=R.len_all
  have h60:=ok.a60
  have hpq:=mul_le' (a:=o.p) (b:=o.q) (A:=100000) (B:=10000) (by omega) hp.2 (by omega) hq.2
  have hfe:=fee_bd ok hh hpq.1 (by omega)
  have HW:=hide (fun W (S:RfSt w o W)=>waiting_any W L m N (R.later S.kp) ok (by omega))
  have HC:=hide (fun W (S:RfSt w o W)=>cost_any W L m N (R.later S.kp) ok o h eh hh (by omega) (by omega) (by omega))
  have HM:=hide (fun W (S:RfSt w o W)=>piecesMet_any W L m N (R.later S.kp) ok o h g s eh eg es hh hg (by omega))
  have HA:=hide (fun W (S:RfSt w o W)=>And.intro (R.later S.kp).cA.cell (And.intro ((R.later S.kp).mo t ht).cell ((R.later S.kp).pc t h g ht (by have:=ok.H4;omega) (by have:=ok.G4;omega)).cell))
  have j1:=hide (inB_okI i1)
  have j2:=hide (inB_okI i2)
  have j3:=hide (inB_okI i3)
  have HE2:Hid (refE2 m o=if 60≤m.all.length then 8
    else if o.s=0∧m.mo t<m.costOf o then 6
    else if o.s=1∧m.pc t h g<o.q then 7
    else if o.w=3∧0<m.met o then 10
    else if o.w=2∧m.met o<o.q then 11
    else 0):=hide (by rw [refE2,show o.t.toNat=t by omega,show o.h.toNat=h by omega,show o.g.toNat=g by omega])
  rw [i4] at HF
  unfold Od.agg at HF HC HM ⊢
  rw [hlen] at HW
  rw [et,eh,eg] at HC HM
  have EE:=hide (And.intro et (And.intro eh eg))
  clear et eh eg es
  clear R0 S0 i1 i2 i3 i4 hE hpq hfe hlen
  go_enter Tryz.func42,Tryz.ntmps42
  go_wp2_with (first | (go_at_call 63;refine (hasTrader_b _ _ _ _ _ _ bT c2).mono ?_;rw [j1.out];rintro e w' ⟨rfl,rfl⟩) | (go_at_call 88;refine (hasHall_b _ _ _ _ _ _ bH c1).mono ?_;rw [j2.out];rintro e w' ⟨rfl,rfl⟩) | (go_at_call 89;refine (hasGood_b _ _ _ _ bG c0).mono ?_;rw [j3.out];rintro e w' ⟨rfl,rfl⟩) | (go_at_call 68;refine (HF.out _).mono ?_;rintro e w1 ⟨rfl,kb⟩))
  have S1:=HS.out.later (Kep.of_below kb)
  refine (HW.out _ S1).mono ?_
  rintro e w2 ⟨v,rfl,hown,kb2⟩
  have S2:=S1.later (Kep.of_below kb2)
  obtain ⟨va,vc,hv⟩ : ∃ va vc,v = .slice va m.all.length vc:=by
    rcases hown.2 with ⟨e1,e2⟩ | ⟨b,cap,cur,e1,_⟩
    · exact ⟨none,0,by rw [e1,e2]⟩
    · exact ⟨_,_,e1⟩
  subst hv
  clear b0 b1 b2 b3 b4 b5 b6 b7 c0 c1 c2 S1 kb kb2 hown HS HF j1 j2 j3 HW
  obtain ⟨b0,b1,b2,b3,b4,b5,b6,b7⟩:=S2.cells
  obtain ⟨c2,cm,cp⟩:=HA.out _ S2
  rw [EE.out.1] at b1
  rw [EE.out.2.1] at b2
  rw [EE.out.2.2] at b3
  have HS:=hide S2
  clear S2
  by_cases hf:60≤m.all.length
  · have e:Hid (8=refE2 m o):=hide (by rw [HE2.out,if_pos hf])
    go_wp2
    go_ret
    exact ends_ret HS.out e.out
  · go_wp2
    by_cases hs0:o.s=0
    · rw [hs0] at b4 HC HM
      have b1':=cell_regrown b1
      have b2':=cell_regrown b2
      have b3':=cell_regrown b3
      have b4':=cell_regrown b4
      have b5':=cell_regrown b5
      have b6':=cell_regrown b6
      have b7':=cell_regrown b7
      have b0':=cell_regrown b0
      have c2':=cell_regrown c2
      have cm':=cell_regrown cm
      have cC:Hid (∀ d os,Calls Tryz.prog 94 _ (grow (redrawn w2 d) os) fun e w''=>e = .returned (.int .i64 (m.costOf o))∧∃ p:Regrown,w''=grow (redrawn w2 p.d) p.os) :=
        hide fun d os=>Calls.regrown_of (HC.out _ (HS.out.later (Kep.of_below (below_regrown w2 d os))))
      generalize m.costOf o=co at *
      have ht':(t:Int)<(m.T:Int):=by omega
      refine wp_region_quiet_below mixed (by kernel_rfl) ?_
      repeat (quiet_step (first | exact cC.out _ _))
      refine wpQuiet_nil ?_
      intro _ hw'
      obtain ⟨⟨dq,osq⟩,hw''⟩:=hw'
      subst hw''
      have S3:=HS.out.later (Kep.of_below (below_regrown w2 dq osq))
      clear b0' b1' b2' b3' b4' b5' b6' b7' c2' cm' cC HC
      clear b0 b1 b2 b3 b4 b5 b6 b7 c2 cm cp HS
      generalize grow (redrawn w2 dq) osq=w3 at *
      obtain ⟨b0,b1,b2,b3,b4,b5,b6,b7⟩:=S3.cells
      obtain ⟨c2,cm,cp⟩:=HA.out _ S3
      rw [EE.out.1] at b1
      rw [EE.out.2.1] at b2
      rw [EE.out.2.2] at b3
      rw [hs0] at b4
      have HS:=hide S3
      clear S3
      by_cases h6:m.mo t<co
      · have e:Hid (6=refE2 m o):=hide (by rw [HE2.out,if_neg hf,if_pos ⟨hs0,h6⟩])
        go_wp2
        go_ret
        exact ends_ret HS.out e.out
      · have H6:Hid (refE2 m o=if o.w=3∧0<m.met o then 10 else if o.w=2∧m.met o<o.q then 11 else 0):=hide (by rw [HE2.out,if_neg hf,if_neg (fun f=>h6 f.2),if_neg (fun f=>by omega)])
        go_wp2
        go_quiet (fail)
        have S3:=HS.out.later ((Kep.refl non w3).drewN nq)
        clear b0 b1 b2 b3 b4 b5 b6 b7 c2 cm cp HS
        generalize w3.drewN nq=w4 at *
        obtain ⟨b0,b1,b2,b3,b4,b5,b6,b7⟩:=S3.cells
        obtain ⟨c2,cm,cp⟩:=HA.out _ S3
        rw [EE.out.1] at b1
        rw [EE.out.2.1] at b2
        rw [EE.out.2.2] at b3
        rw [hs0] at b4
        have HS:=hide S3
        clear S3
        generalize m.met o=me at *
        by_cases hw3:o.w=3
        · rw [hw3] at b7 HM
          go_wp2_with (go_at_call 95;refine (HM.out _ HS.out).mono ?_;rintro e w5 ⟨rfl,kb4⟩)
          all_goals have S4:=HS.out.later (Kep.of_below kb4)
          · go_ret
            exact ends_ret S4 (by rw [H6.out,if_pos ⟨hw3,by assumption⟩])
          · obtain ⟨b0,b1,b2,b3,b4,b5,b6,b7⟩:=S4.cells
            rw [hw3] at b7
            go_quiet (fail)
            go_wp2
            go_ret
            exact ends_ret (S4.later ((Kep.refl _ _).drewN _)) (by rw [H6.out,if_neg (fun f=>by omega),if_neg (fun f=>by omega)])
        · have w3:(o.w == 3)=false:=beq_eq_false_iff_ne.2 hw3
          by_cases hw2:o.w=2
          · rw [hw2] at b7 HM
            clear w3
            go_wp2
            have b0':=cell_regrown b0
            have b1':=cell_regrown b1
            have b2':=cell_regrown b2
            have b3':=cell_regrown b3
            have b4':=cell_regrown b4
            have b5':=cell_regrown b5
            have b6':=cell_regrown b6
            have b7':=cell_regrown b7
            have cM:Hid (∀ d os,Calls Tryz.prog 95 _ (grow (redrawn w4 d) os) fun e w''=>e = .returned (.int .i64 me)∧∃ p:Regrown,w''=grow (redrawn w4 p.d) p.os) :=
              hide fun d os=>Calls.regrown_of (HM.out _ (HS.out.later (Kep.of_below (below_regrown w4 d os))))
            refine wp_region_quiet_below mixed (by kernel_rfl) ?_
            repeat (quiet_step (first | exact cM.out _ _))
            refine wpQuiet_nil ?_
            intro _ hw'
            obtain ⟨⟨dq2,osq2⟩,hw''⟩:=hw'
            subst hw''
            have S5:=HS.out.later (Kep.of_below (below_regrown w4 dq2 osq2))
            by_cases hm:me<o.q
            · go_wp2
              go_ret
              exact ends_ret S5 (by rw [H6.out,if_neg (fun f=>hw3 f.1),if_pos ⟨hw2,hm⟩])
            · go_wp2
              go_ret
              exact ends_ret S5 (by rw [H6.out,if_neg (fun f=>hw3 f.1),if_neg (fun f=>by have:=f.2;omega)])
          · have w2:(o.w == 2)=false:=beq_eq_false_iff_ne.2 hw2
            go_wp2
            go_quiet (fail)
            go_wp2
            go_ret
            exact ends_ret (HS.out.later ((Kep.refl _ _).drewN _)) (by rw [H6.out,if_neg (fun f=>hw3 f.1),if_neg (fun f=>hw2 f.1)])
    · have hs0:o.s=1:=by omega
      rw [hs0] at b4 HC HM
      have h4:(h:Int)<4:=by have:=ok.H4;omega
      have g4:(g:Int)<4:=by have:=ok.G4;omega
      have ht':(t:Int)<(m.T:Int):=by omega
      have s0:(o.s == 0)=false:=beq_eq_false_iff_ne.2 (by omega)
      go_quiet (fail)
      have S3:=HS.out.later ((Kep.refl non w2).drewN nq)
      clear HC
      clear b0 b1 b2 b3 b4 b5 b6 b7 c2 cm cp HS
      generalize w2.drewN nq=w3 at *
      obtain ⟨b0,b1,b2,b3,b4,b5,b6,b7⟩:=S3.cells
      obtain ⟨c2,cm,cp⟩:=HA.out _ S3
      rw [EE.out.1] at b1
      rw [EE.out.2.1] at b2
      rw [EE.out.2.2] at b3
      rw [hs0] at b4
      have HS:=hide S3
      clear S3
      by_cases h7:m.pc t h g<o.q
      · have e:Hid (7=refE2 m o):=hide (by rw [HE2.out,if_neg hf,if_neg (fun f=>by omega),if_pos ⟨hs0,h7⟩])
        go_wp2
        go_quiet (fail)
        go_wp2
        go_ret
        exact ends_ret (HS.out.later ((Kep.refl _ _).drewN _)) e.out
      · have H6:Hid (refE2 m o=if o.w=3∧0<m.met o then 10 else if o.w=2∧m.met o<o.q then 11 else 0):=hide (by rw [HE2.out,if_neg hf,if_neg (fun f=>by omega),if_neg (fun f=>h7 f.2)])
        go_wp2
        go_quiet (fail)
        have S3:=HS.out.later ((Kep.refl non w3).drewN nq)
        clear b0 b1 b2 b3 b4 b5 b6 b7 c2 cm cp HS
        generalize w3.drewN nq=w4 at *
        obtain ⟨b0,b1,b2,b3,b4,b5,b6,b7⟩:=S3.cells
        obtain ⟨c2,cm,cp⟩:=HA.out _ S3
        rw [EE.out.1] at b1
        rw [EE.out.2.1] at b2
        rw [EE.out.2.2] at b3
        rw [hs0] at b4
        have HS:=hide S3
        clear S3
        generalize m.met o=me at *
        by_cases hw3:o.w=3
        · rw [hw3] at b7 HM
          go_wp2_with (go_at_call 95;refine (HM.out _ HS.out).mono ?_;rintro e w5 ⟨rfl,kb4⟩)
          all_goals have S4:=HS.out.later (Kep.of_below kb4)
          · go_ret
            exact ends_ret S4 (by rw [H6.out,if_pos ⟨hw3,by assumption⟩])
          · obtain ⟨b0,b1,b2,b3,b4,b5,b6,b7⟩:=S4.cells
            rw [hw3] at b7
            go_quiet (fail)
            go_wp2
            go_ret
            exact ends_ret (S4.later ((Kep.refl _ _).drewN _)) (by rw [H6.out,if_neg (fun f=>by omega),if_neg (fun f=>by omega)])
        · have w3:(o.w == 3)=false:=beq_eq_false_iff_ne.2 hw3
          by_cases hw2:o.w=2
          · rw [hw2] at b7 HM
            clear w3
            go_wp2
            have b0':=cell_regrown b0
            have b1':=cell_regrown b1
            have b2':=cell_regrown b2
            have b3':=cell_regrown b3
            have b4':=cell_regrown b4
            have b5':=cell_regrown b5
            have b6':=cell_regrown b6
            have b7':=cell_regrown b7
            have cM:Hid (∀ d os,Calls Tryz.prog 95 _ (grow (redrawn w4 d) os) fun e w''=>e = .returned (.int .i64 me)∧∃ p:Regrown,w''=grow (redrawn w4 p.d) p.os) :=
              hide fun d os=>Calls.regrown_of (HM.out _ (HS.out.later (Kep.of_below (below_regrown w4 d os))))
            refine wp_region_quiet_below mixed (by kernel_rfl) ?_
            repeat (quiet_step (first | exact cM.out _ _))
            refine wpQuiet_nil ?_
            intro _ hw'
            obtain ⟨⟨dq2,osq2⟩,hw''⟩:=hw'
            subst hw''
            have S5:=HS.out.later (Kep.of_below (below_regrown w4 dq2 osq2))
            by_cases hm:me<o.q
            · go_wp2
              go_ret
              exact ends_ret S5 (by rw [H6.out,if_neg (fun f=>hw3 f.1),if_pos ⟨hw2,hm⟩])
            · go_wp2
              go_ret
              exact ends_ret S5 (by rw [H6.out,if_neg (fun f=>hw3 f.1),if_neg (fun f=>by have:=f.2;omega)])
          · have w2:(o.w == 2)=false:=beq_eq_false_iff_ne.2 hw2
            go_wp2
            go_quiet (fail)
            go_wp2
            go_ret
            exact ends_ret (HS.out.later ((Kep.refl _ _).drewN _)) (by rw [H6.out,if_neg (fun f=>hw3 f.1),if_neg (fun f=>hw2 f.1)])

theorem refusal_any (w:World) (L:PL) (m:Mt) (N:Int) (R:PRep w L m) (ok:m.Ok N) (o:Od) :
    Calls Tryz.prog 42 #[.pointer (some ⟨L.x,0,none⟩),o.agg] w fun e w'=>e = .returned (.int .i64 (placeE m o))∧Kep non w w':=by
  by_cases h:refE1 m o=0
  · exact refusal_good w L m N R ok o h
  · exact refusal_bad w L m N R ok o h
end

section
theorem run_mid (h g s:Nat) (N:Int):Run h g s N (Mid h g s N) where
  ok:=fun _ _ M=>M.ok
  bd:=fun _ _ M=>⟨M.q,M.eh,M.eg,M.es,M.t,M.p,M.n⟩
  st:=fun _ _ M=>M.I.pi_le (by split <;> omega) M.q.1 M.q.2.1
  tb:=fun _ _ _ _ M hb=>M.tb hb
  tr:=fun _ _ _ _ M h0 hb hf hne he=>M.tr h0 hb hf hne he
  tq:=fun _ _ _ _ M h0 hb hf hne he=>M.tq h0 hb hf hne he

theorem Run.out {h g s:Nat} {N:Int} {I:Mt→Od→Prop} (run:Run h g s N I):∀ (l:List Od) (m:Mt) (o:Od),m.bk h g s=l→I m o→I (matchM h g s l m o).1 (matchM h g s l m o).2.1
  | [],m,o,_,hI=>hI
  | z :: r,m,o,hb,hI=>by
    rw [matchM]
    split
    · exact hI
    · rename_i h0
      split
      · exact hI
      · rename_i hpf
        have hpf':pfits o z=true:=by cases h:pfits o z;exact absurd h hpf;rfl
        split
        · exact run.out r _ _ (by rw [bk_release,bk_set]) (run.tb _ _ _ _ hI hb)
        · rename_i hzt
          split
          · rename_i hz
            exact run.out r _ _ (bk_set _ _ _ _ _) (run.tr _ _ _ _ hI (by omega) hb hpf' hzt hz)
          · rename_i hz
            exact run.tq _ _ _ _ hI (by omega) hb hpf' hzt hz

theorem matchM_o {h g s:Nat}:∀ (l:List Od) (m:Mt) (o:Od),∃ x,(matchM h g s l m o).2.1={ o with q:=x }
  | [],m,o=>⟨o.q,rfl⟩
  | z :: r,m,o=>by
    rw [matchM]
    split
    · exact ⟨o.q,rfl⟩
    · split
      · exact ⟨o.q,rfl⟩
      · split
        · exact matchM_o r _ _
        · split
          · obtain ⟨x,hx⟩:=matchM_o (h:=h) (g:=g) (s:=s) r ((noteM (oneM m h g s o z (min o.q z.q)) h g z.p (min o.q z.q)).setBk h g s r) { o with q:=o.q - min o.q z.q }
            exact ⟨x,hx⟩
          · exact ⟨_,rfl⟩

structure Same (m m':Mt):Prop where
  T:m'.T=m.T
  G:m'.G=m.G
  H:m'.H=m.H
  rt:m'.rt=m.rt
  ld:m'.ld=m.ld
  nu:m'.nu=m.nu
  tm:m'.tm=m.tm

theorem Same.refl (m:Mt):Same m m:=⟨rfl,rfl,rfl,rfl,rfl,rfl,rfl⟩
theorem Same.trans {a b c:Mt} (h:Same a b) (k:Same b c):Same a c:=⟨k.T.trans h.T,k.G.trans h.G,k.H.trans h.H,k.rt.trans h.rt,k.ld.trans h.ld,k.nu.trans h.nu,k.tm.trans h.tm⟩
theorem same_release (m:Mt) (t h g s:Nat) (o:Od):Same m (releaseM m t h g s o):=by unfold releaseM;split <;> exact ⟨rfl,rfl,rfl,rfl,rfl,rfl,rfl⟩
theorem same_setBk (m:Mt) (h g s:Nat) (os:List Od):Same m (m.setBk h g s os):=⟨rfl,rfl,rfl,rfl,rfl,rfl,rfl⟩
theorem same_note (m:Mt) (h g:Nat) (p q:Int):Same m (noteM m h g p q):=⟨rfl,rfl,rfl,rfl,rfl,rfl,rfl⟩
theorem same_one (m:Mt) (h g s:Nat) (o z:Od) (n:Int):Same m (oneM m h g s o z n):=by unfold oneM;split <;> exact ⟨rfl,rfl,rfl,rfl,rfl,rfl,rfl⟩

theorem matchM_same {h g s:Nat}:∀ (l:List Od) (m:Mt) (o:Od),Same m (matchM h g s l m o).1
  | [],m,o=>Same.refl m
  | z :: r,m,o=>by
    rw [matchM]
    split
    · exact Same.refl m
    · split
      · exact Same.refl m
      · split
        · exact ((same_setBk _ _ _ _ _).trans (same_release _ _ _ _ _ _)).trans (matchM_same r _ _)
        · split
          · exact (((same_one _ _ _ _ _ _ _).trans (same_note _ _ _ _ _)).trans (same_setBk _ _ _ _ _)).trans (matchM_same r _ _)
          · exact (same_one _ _ _ _ _ _ _).trans (same_note _ _ _ _ _)

theorem len_one {m:Mt} {h g s:Nat} {o z:Od} {r:List Od} (q:at3 m h g s) (hb:m.bk h g s=z :: r) (n p x:Int) (os:List Od):(((noteM (oneM m h g s o z n) h g p x).setBk h g s os).all.length:Int)=m.all.length+(os.length - (r.length+1)):=by
  have e:((noteM (oneM m h g s o z n) h g p x).setBk h g s os).all=(m.setBk h g s os).all:=by
    have d:=same_one m h g s o z n
    have hbk:=one_bk (m:=m) (h:=h) (g:=g) (s:=s) (o:=o) (z:=z) q.2.2 n
    unfold Mt.all
    show upH (oneM m h g s o z n).G (fun a b c=>if a=h∧b=g∧c=s then os else (oneM m h g s o z n).bk a b c) (oneM m h g s o z n).H=upH m.G (fun a b c=>if a=h∧b=g∧c=s then os else m.bk a b c) m.H
    rw [d.G,d.H,hbk]
    congr 1
    funext a b c
    split
    · rfl
    · rename_i k
      simp [Mt.setBk,k]
  rw [e,all_setBk m q,hb]
  simp

theorem matchM_all {h g s:Nat}:∀ (l:List Od) (m:Mt) (o:Od),at3 m h g s→m.bk h g s=l→(matchM h g s l m o).1.all.length≤m.all.length
  | [],m,o,_,_=>Nat.le_refl _
  | z :: r,m,o,q,hb=>by
    rw [matchM]
    split
    · exact Nat.le_refl _
    · split
      · exact Nat.le_refl _
      · split
        · have ih:=matchM_all (h:=h) (g:=g) (s:=s) r (releaseM (m.setBk h g s r) z.t.toNat h g s z) o (by have:=same_release (m.setBk h g s r) z.t.toNat h g s z;exact ⟨by rw [this.H];exact q.1,by rw [this.G];exact q.2.1,q.2.2⟩) (by rw [bk_release,bk_set])
          have e:(releaseM (m.setBk h g s r) z.t.toNat h g s z).all=(m.setBk h g s r).all:=by
            unfold Mt.all
            rw [bk_release,(same_release _ _ _ _ _ _).G,(same_release _ _ _ _ _ _).H]
          have l:=all_setBk m q r
          rw [hb] at l
          rw [e] at ih
          simp only [List.length_cons] at l
          omega
        · split
          · have ih:=matchM_all (h:=h) (g:=g) (s:=s) r ((noteM (oneM m h g s o z (min o.q z.q)) h g z.p (min o.q z.q)).setBk h g s r) { o with q:=o.q - min o.q z.q } (by have:=same_one m h g s o z (min o.q z.q);exact ⟨by show h<(oneM m h g s o z (min o.q z.q)).H;rw [this.H];exact q.1,by show g<(oneM m h g s o z (min o.q z.q)).G;rw [this.G];exact q.2.1,q.2.2⟩) (bk_set _ _ _ _ _)
            have l:=len_one (o:=o) q hb (min o.q z.q) z.p (min o.q z.q) r
            show _≤_
            simp only []
            omega
          · have l:=len_one (o:=o) q hb (min o.q z.q) z.p (min o.q z.q) ({ z with q:=z.q - min o.q z.q } :: r)
            have e2:(noteM (oneM m h g s o z (min o.q z.q)) h g z.p (min o.q z.q)).setBk h g s ({ z with q:=z.q - min o.q z.q } :: r)=noteM (oneM m h g s o z (min o.q z.q)) h g z.p (min o.q z.q):=by
              have:=setBk_same (noteM (oneM m h g s o z (min o.q z.q)) h g z.p (min o.q z.q)) h g s
              rwa [mo_bk0 q.2.2 hb] at this
            rw [e2] at l
            simp only [List.length_cons] at l
            show (noteM (oneM m h g s o z (min o.q z.q)) h g z.p (min o.q z.q)).all.length≤_
            omega

def Mt.Inv (m:Mt) (N:Int):Prop:=m.In N 0 (fun _=>0) 0

theorem Mt.Inv.ok {m:Mt} {N:Int} (I:m.Inv N):m.Ok N:=Mt.In.ok I (Int.le_refl _) (fun _ _=>Int.le_refl _)

theorem placeE_zero {m:Mt} {o:Od} (h:placeE m o=0):refE1 m o=0∧m.all.length<60∧(o.s=0→m.costOf o≤m.mo o.t.toNat)∧(o.s=1→o.q≤m.pc o.t.toNat o.h.toNat o.g.toNat):=by
  have h1:refE1 m o=0:=by
    unfold placeE at h
    unfold refE1
    by_cases i1:okI m.T o.t
    · by_cases i2:okI m.H o.h
      · by_cases i3:okI m.G o.g
        · cases i4:o.fit
          · simp [i1,i2,i3,i4] at h
          · simp [i1,i2,i3]
        · simp [i1,i2,i3] at h
      · simp [i1,i2] at h
    · simp [i1] at h
  rw [placeE_two h1,refE2] at h
  refine ⟨h1,?_⟩
  split at h
  · omega
  · split at h
    · omega
    · rename_i k1
      split at h
      · omega
      · rename_i k2
        exact ⟨by omega,fun e=>by have:¬ m.mo o.t.toNat<m.costOf o:=fun f=>k1 ⟨e,f⟩;omega,fun e=>by have:¬ m.pc o.t.toNat o.h.toNat o.g.toNat<o.q:=fun f=>k2 ⟨e,f⟩;omega⟩

theorem Mt.Inv.start {m:Mt} {N:Int} (I:m.Inv N) (hn:m.nu+1≤N) {o:Od} (hE:placeE m o=0) {h g s:Nat} (eh:o.h=h) (eg:o.g=g) (es:o.s=s) :
    Mid h g (otherS s) N (holdM { m with nu:=m.nu+1 } { o with id:=m.nu+1 }) { o with id:=m.nu+1 }:=by
  obtain ⟨h1,h60,hb,hs⟩:=placeE_zero hE
  obtain ⟨i1,i2,i3,i4⟩:=refE1_zero h1
  obtain ⟨bs,bw,bp,bq⟩:=fit_bd i4
  have hh:h<m.H:=by have:=i2.2;omega
  have hg:g<m.G:=by have:=i3.2;omega
  have ht:o.t.toNat<m.T:=by have:=i1.1;have:=i1.2;omega
  have hpq:=mul_le' (a:=o.p) (b:=o.q) (A:=100000) (B:=10000) (by omega) bp.2 (by omega) bq.2
  have hr:=I.rt h hh
  have hf:=fee_le hr hpq.1
  have toh:o.h.toNat=h:=by omega
  have tog:o.g.toNat=g:=by omega
  have s2:s<2:=by omega
  have q:at3 m h g (otherS s):=⟨hh,hg,by unfold otherS;split <;> omega⟩
  have eos:(o.s:Int)=otherS (otherS s):=by rw [es];unfold otherS;rcases s with _ | _ | s <;> first | rfl | omega
  have l0:=I.a60
  have mon:=I.mon
  have pi':∀ a b,a<m.H→b<m.G→0≤m.pi a b∧m.pi a b+10000 * (m.all.length+(2:Int))≤20000 * (m.nu+1):=fun a b ha hb=>by have:=I.pi a b ha hb;omega
  have am':∀ a b,a<m.H→b<m.G→0≤m.am a b∧m.am a b+1000000000 * (m.all.length+(2:Int))≤2000000000 * (m.nu+1):=fun a b ha hb=>by have:=I.am a b ha hb;omega
  have od':∀ a b c x,a<m.H→b<m.G→c<2→x∈m.bk a b c→Od.Ok { m with nu:=m.nu+1 } a b c x:=fun a b c x ha hb hc hx=>(I.od a b c x ha hb hc hx).of (by show m.nu≤m.nu+1;omega) rfl
  have nu0:=I.nu
  have ifl:(if 0<o.q then (2:Int) else 0)=2:=if_pos (by omega)
  by_cases e:o.s=0
  · have cost:=hb e
    unfold Mt.costOf at cost
    rw [toh] at cost
    have eM:holdM { m with nu:=m.nu+1 } { o with id:=m.nu+1 }=({ m with nu:=m.nu+1 }:Mt).setMo o.t.toNat (m.mo o.t.toNat - o.p * o.q):=by rw [holdM,if_pos e]
    rw [eM]
    refine ⟨⟨I.bN,I.T1,I.T8,I.G1,I.G4,I.H1,I.H4,I.rt,fun t ht'=>?_,I.pc,I.l20,I.ld,I.a60,fun a b c x ha hb hc hx=>(od' a b c x ha hb hc hx).of (Int.le_refl _) rfl,⟨by show 0≤m.nu+1;omega,hn⟩,I.ho,I.tm,?_,fun g' hg'=>?_,?_,?_⟩,q,eh,eg,eos,i1,bp,⟨by show 0≤o.q;omega,bq.2⟩,fun e'=>?_⟩
    · show 0≤if t=o.t.toNat then m.mo o.t.toNat - o.p * o.q else m.mo t
      have:=I.mo t ht'
      split <;> omega
    · rw [money_setMo _ _ (by exact ht)]
      show m.money+(m.mo o.t.toNat - o.p * o.q - m.mo o.t.toNat)+airM { o with id:=m.nu+1 }≤_
      have:airM { o with id:=m.nu+1 }=o.p * o.q:=by unfold airM;rw [if_pos e]
      omega
    · have:airP { o with id:=m.nu+1 } g'=0:=by unfold airP;rw [if_neg (fun f=>by have:o.s=1:=f.1;omega)]
      have k:=I.stk g' hg'
      rw [stock_setMo,this]
      exact k
    · intro a b ha hb
      show 0≤m.pi a b∧m.pi a b+10000 * (m.all.length+(if 0<o.q then (2:Int) else 0))≤20000 * (m.nu+1)
      rw [ifl]
      exact pi' a b ha hb
    · intro a b ha hb
      show 0≤m.am a b∧m.am a b+1000000000 * (m.all.length+(if 0<o.q then (2:Int) else 0))≤2000000000 * (m.nu+1)
      rw [ifl]
      exact am' a b ha hb
    · show m.fee h (o.p * o.q)≤if o.t.toNat=o.t.toNat then m.mo o.t.toNat - o.p * o.q else m.mo o.t.toNat
      rw [if_pos rfl]
      omega
  · have e1:o.s=1:=by omega
    have stk:=hs e1
    rw [toh,tog] at stk
    have eM:holdM { m with nu:=m.nu+1 } { o with id:=m.nu+1 }=({ m with nu:=m.nu+1 }:Mt).setPc o.t.toNat h g (m.pc o.t.toNat h g - o.q):=by rw [holdM,if_neg e];simp only [toh,tog]
    rw [eM]
    refine ⟨⟨I.bN,I.T1,I.T8,I.G1,I.G4,I.H1,I.H4,I.rt,I.mo,fun a b c ha hb hc=>?_,I.l20,I.ld,I.a60,fun a b c x ha hb hc hx=>(od' a b c x ha hb hc hx).of (Int.le_refl _) rfl,⟨by show 0≤m.nu+1;omega,hn⟩,I.ho,I.tm,?_,fun g' hg'=>?_,?_,?_⟩,q,eh,eg,eos,i1,bp,⟨by show 0≤o.q;omega,bq.2⟩,fun e'=>?_⟩
    · show 0≤if a=o.t.toNat∧b=h∧c=g then m.pc o.t.toNat h g - o.q else m.pc a b c
      have:=I.pc a b c ha hb hc
      split <;> omega
    · have:airM { o with id:=m.nu+1 }=0:=by unfold airM;rw [if_neg e]
      rw [money_setPc,this]
      exact mon
    · have k:=I.stk g' hg'
      rw [stock_setPc _ _ _ _ (by exact ht) (by exact hh)]
      show m.stock g'+(if g'=g then m.pc o.t.toNat h g - o.q - m.pc o.t.toNat h g else 0)+airP { o with id:=m.nu+1 } g'≤_
      have k':m.stock g'+0≤1000000:=k
      unfold airP
      by_cases eg':g'=g
      · rw [if_pos eg',if_pos ⟨e1,by rw [eg,eg']⟩]
        show _+o.q≤_
        omega
      · rw [if_neg eg',if_neg (fun f=>eg' (by have:o.g=g':=f.2;omega))]
        omega
    · intro a b ha hb
      show 0≤m.pi a b∧m.pi a b+10000 * (m.all.length+(if 0<o.q then (2:Int) else 0))≤20000 * (m.nu+1)
      rw [ifl]
      exact pi' a b ha hb
    · intro a b ha hb
      show 0≤m.am a b∧m.am a b+1000000000 * (m.all.length+(if 0<o.q then (2:Int) else 0))≤2000000000 * (m.nu+1)
      rw [ifl]
      exact am' a b ha hb
    · exfalso
      have:s=1:=by omega
      subst this
      simp [otherS] at e'
end

end Go.Proofs.YtcfoobhihhndjaaGreat
