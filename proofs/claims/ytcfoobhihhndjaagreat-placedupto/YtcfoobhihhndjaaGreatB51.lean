import Derived.Test.YtcfoobhihhndjaaGreatB40
import Derived.Test.YtcfoobhihhndjaaGreatB50
import Derived.Test.YtcfoobhihhndjaaGreatB45
namespace Go.Proofs.YtcfoobhihhndjaaGreat

section
open Go.RowKit Go.Sort

theorem refPlace_any (w:World) (L:RL) (r:Rm) (R:RRep w L r) (ok:r.Ok 0) (o:Od) (hN:r.nx≤1000000000000) :
    Calls Tryz.prog 15 #[.pointer (some ⟨L.c,0,none⟩),.agg #[.int .i64 o.id,.int .i64 o.t,.int .i64 o.h,.int .i64 o.g,.int .i64 o.s,.int .i64 o.p,.int .i64 o.q,.int .i64 o.w]] w fun e w'=>∃ v,e = .returned (.tuple #[.int .i64 (rplaceI r o),v,.int .i64 (rmayE r o)])∧RTold w L (rplaceM r o) v (rplaceT r o) w':=by
  by_cases hE:rmayE r o=0
  · exact refPlace_yes w L r R ok o hE hN
  · exact refPlace_no w L r 0 R ok o hE

def RChPost (w:World) (L:RL) (r:Rm) (t id p q:Int) (e:Ending) (w':World):Prop :=
  ∃ n v c ts r',RChanges r t id p q n ts c r'∧e = .returned (.tuple #[.int .i64 n,v,.int .i64 c])∧RTold w L r' v ts w'

theorem told_dropped {w w1 w2 w':World} {L:RL} {v1:Value} {r':Rm} {v:Value} {ts:List Td} (k1:Kep (fun b=>b=L.c) w w1) (hv:∀ b,v1.ownBlock=some b→w.heap.size≤b) (k2:Kep (fun b=>w.heap.size≤b) w1 w2) (T:RTold w2 { L with wv:=v1 } r' v ts w'):RTold w L r' v ts w':=by
  have hS:∀ b,({ L with wv:=v1 }:RL).S b→L.S b∨w.heap.size≤b:=fun b hb=>by
    obtain ⟨i,hi⟩:=hb
    by_cases e:i=6
    · subst e
      exact .inr (hv b hi)
    · refine .inl ⟨i,?_⟩
      rw [← hi]
      unfold RL.F
      split <;> first | rfl | exact absurd rfl e
  have kA:Kep L.S w w2:=(k1.mono fun b hb=>.inl ⟨0,congrArg some hb.symm⟩).trans' k2 (fun b hb=>.inr hb)
  obtain ⟨L',e,hs,R,nl⟩:=T.rep
  refine ⟨kA.trans' T.kp hS,⟨L',e,fun b hb=>?_,R,nl⟩,ownsRow_mono T.tr kA.size⟩
  rcases hs b hb with q | q
  · exact hS b q
  · exact .inr (Nat.le_trans kA.size q)

theorem told_back {w w1 w2 w':World} {L:RL} {r:Rm} {j:Nat} {v1:Value} {v:Value} (R:RRep w L r) (T1:1≤r.T) (G1:1≤r.G) (H1:1≤r.H) (k1:Kep (fun b=>b=L.c) w w1) (hv:∀ b,v1.ownBlock=some b→w.heap.size≤b) (k2:Kep (fun b=>w.heap.size≤b) w1 w2) (T:RTold w2 { L with wv:=v1 } (rdrop r j) v [] w'):RTold w L r v [] (w'.setCell ⟨L.c,5,none⟩ L.wv):=by
  have LT:=R.lt T1 G1 H1
  have D:=told_dropped k1 hv k2 T
  obtain ⟨L',e,hs,R',nl⟩:=T.rep
  have hn6:∀ b,L.wv.ownBlock=some b→b<w.heap.size∧¬ ({ L with wv:=v1 }:RL).S b∧b≠L.c:=fun b hb=>by
    have hb6:L.F 6=some b:=hb
    have lt:=LT b ⟨6,hb6⟩
    refine ⟨lt,fun q=>?_,fun q=>R.ne (i:=6) (j:=0) hb6 rfl (by decide) q⟩
    obtain ⟨i,hi⟩:=q
    by_cases e:i=6
    · subst e
      have:=hv b hi
      omega
    · refine e (R.inj i 6 b ?_ hb6)
      rw [← hi]
      unfold RL.F
      split <;> first | rfl | exact absurd rfl e
  have row:w'.ownsRow 0 40 8 L.wv r.wt.length (rdCells r.wt):=by
    have r1:=ownsRow_kep R.wt k1 (fun b hb=>(hn6 b hb).2.2)
    have r2:=ownsRow_kep r1 k2 (fun b hb=>by have:=(hn6 b hb).1;omega)
    exact ownsRow_kep r2 T.kp (fun b hb=>(hn6 b hb).2.1)
  have hz:w.heap.size≤w2.heap.size:=Nat.le_trans k1.size k2.size
  have Q:=R'.setWt (w1:=w') (Kep.refl _ _) r.wt L.wv row (fun i b hi hb q=>by
    obtain ⟨lt,n1,_⟩:=hn6 b q
    rcases hs b ⟨i,hb⟩ with f | f
    · exact n1 f
    · omega)
  have er:({ rdrop r j with wt:=r.wt }:Rm)=r:=rfl
  rw [er] at Q
  have e':L'.c=L.c:=e
  have Q2:RRep (w'.setCell ⟨L.c,5,none⟩ L.wv) { L' with wv:=L.wv } r:=by
    rw [← e']
    exact Q
  refine ⟨D.kp.setCell (p:=⟨L.c,5,none⟩) (.inl ⟨0,rfl⟩) _,⟨{ L' with wv:=L.wv },e,fun b hb=>?_,Q2,fun b hb q=>?_⟩,?_⟩
  · obtain ⟨i,hi⟩:=hb
    by_cases e6:i=6
    · subst e6
      exact .inl ⟨6,hi⟩
    · obtain ⟨L2,_⟩:=D.rep
      have hb':L'.S b:=⟨i,by
        rw [← hi]
        unfold RL.F
        split <;> first | rfl | exact absurd rfl e6⟩
      rcases hs b hb' with f | f
      · obtain ⟨i2,hi2⟩:=f
        by_cases e7:i2=6
        · subst e7
          exact .inr (hv b hi2)
        · refine .inl ⟨i2,?_⟩
          rw [← hi2]
          unfold RL.F
          split <;> first | rfl | exact absurd rfl e7
      · exact .inr (Nat.le_trans hz f)
  · have hb2:=(T.tr.lt b hb).1
    obtain ⟨i,hi⟩:=q
    by_cases e6:i=6
    · subst e6
      have:=(hn6 b hi).1
      omega
    · exact nl b hb ⟨i,by
        rw [← hi]
        unfold RL.F
        split <;> first | rfl | exact absurd rfl e6⟩
  · refine ownsRow_mono (ownsRow_setCell_other T.tr (fun q=>?_) _) hz
    have h1:=(T.tr.lt _ q).1
    have h2:=LT L.c ⟨0,rfl⟩
    simp only [] at h1
    omega

theorem dropped_ne {L:RL} {v1:Value} {B:Nat} (h:∀ b,L.S b→b<B) (hv:∀ b,v1.ownBlock=some b→B<b):∀ b,({ L with wv:=v1 }:RL).S b→¬ b=B:=fun b hb f=>by
  obtain ⟨i,hi⟩:=hb
  by_cases e6:i=6
  · subst e6
    have:=hv b hi
    omega
  · have:=h b ⟨i,by
      rw [← hi]
      unfold RL.F
      split <;> first | rfl | exact absurd rfl e6⟩
    omega
theorem box_changed {w:World} {B:Nat} {x:Od} (h:OdAt w B x) (p q:Int):OdAt (((w.setCell ⟨B,5,none⟩ (.int .i64 p)).setCell ⟨B,6,none⟩ (.int .i64 q)).setCell ⟨B,7,none⟩ (.int .i64 0)) B (chOd x p q):=by
  intro i u hu
  rcases i with _ | _ | _ | _ | _ | _ | _ | _ | i
  · cases hu;exact oc_ne (oc_ne (oc_ne (h 0 _ rfl) (by decide)) (by decide)) (by decide)
  · cases hu;exact oc_ne (oc_ne (oc_ne (h 1 _ rfl) (by decide)) (by decide)) (by decide)
  · cases hu;exact oc_ne (oc_ne (oc_ne (h 2 _ rfl) (by decide)) (by decide)) (by decide)
  · cases hu;exact oc_ne (oc_ne (oc_ne (h 3 _ rfl) (by decide)) (by decide)) (by decide)
  · cases hu;exact oc_ne (oc_ne (oc_ne (h 4 _ rfl) (by decide)) (by decide)) (by decide)
  · cases hu;exact oc_ne (oc_ne ((h 5 _ rfl).set rfl _) (by decide)) (by decide)
  · cases hu;exact oc_ne ((oc_ne (h 6 _ rfl) (by decide)).set rfl _) (by decide)
  · cases hu;exact (oc_ne (oc_ne (h 7 _ rfl) (by decide)) (by decide)).set rfl _
  · simp [Od.cells] at hu

set_option maxRecDepth 100000 in
set_option maxHeartbeats 1000000 in
theorem refChange_bad (w:World) (L:RL) (r:Rm) (R:RRep w L r) (ok:r.Ok 0) (t id p q:Int) (ht:¬ okI r.T t) :
    Calls Tryz.prog 21 #[.pointer (some ⟨L.c,0,none⟩),.int .i64 t,.int .i64 id,.int .i64 p,.int .i64 q] w (RChPost w L r t id p q):=by
  have HT:=hide (trader_b L.c r.T t w R.c.cT.cell)
  have HO:=hide (rown_any w L r 0 R ok t id)
  have HR:=hide R
  have f1:inB r.T t=false:=by simpa [inB] using ht
  rw [f1] at HT
  clear R ok f1
  go_enter Tryz.func21,Tryz.ntmps21
  go_wp2_with (first | (go_at_call 66;refine HT.out.mono ?_;rintro e w1 ⟨rfl,rfl⟩) | (go_at_call 67;refine HO.out.mono ?_;rintro e w2 ⟨k,rfl,hO,hk2⟩))
  exact bodyPost_ret (v:=.tuple #[.int .i64 0,.slice none 0 0,.int .i64 2]) (by simp [results,Tryz.results21,go_sem]) rfl ⟨0,_,2,[],r,.inl ⟨ht,rfl,rfl,rfl,rfl⟩,rfl,RTold.none HR.out hk2⟩

set_option maxRecDepth 100000 in
set_option maxHeartbeats 2000000 in
theorem refChange_ok (w:World) (L:RL) (r:Rm) (R:RRep w L r) (ok:r.Ok 0) (t id p q:Int) (ht:okI r.T t) (hN:r.nx≤1000000000000) :
    Calls Tryz.prog 21 #[.pointer (some ⟨L.c,0,none⟩),.int .i64 t,.int .i64 id,.int .i64 p,.int .i64 q] w (RChPost w L r t id p q):=by
  have HT:=hide (trader_b L.c r.T t w R.c.cT.cell)
  have HO:=hide (rown_any w L r 0 R ok t id)
  have HR:=hide R
  have HK:=hide ok
  have f1:inB r.T t=true:=by simpa [inB] using ht
  rw [f1] at HT
  clear R ok f1
  go_enter Tryz.func21,Tryz.ntmps21
  go_upto_region 3 with (first | (go_at_call 66;refine HT.out.mono ?_;rintro e w1 ⟨rfl,rfl⟩) | (go_at_call 67;refine HO.out.mono ?_;rintro e w2 ⟨k,rfl,hO,hk2⟩))
  rcases hO with ⟨rfl,hno⟩ | ⟨j,x,rfl,hx,hi,hq⟩
  · go_wp2
    exact bodyPost_ret (v:=.tuple #[.int .i64 0,.slice none 0 0,.int .i64 9]) (by simp [results,Tryz.results21,go_sem]) rfl ⟨0,_,9,[],r,.inr (.inl ⟨ht,hno,rfl,rfl,rfl,rfl⟩),rfl,RTold.none HR.out hk2⟩
  · have hj0:¬ ((j:Int)<0):=by omega
    have HX:=hide hx
    have HI:=hide hi
    have HQ:=hide hq
    have HBd:=hide (fun (f:p<1∨100000<p∨q<1∨10000<q)=>show RChPost w1 L r t id p q (.returned (.tuple #[.int .i64 0,.slice none 0 0,.int .i64 5])) w2 from ⟨0,_,5,[],r,.inr (.inr ⟨ht,j,x,⟨hx,hi,hq⟩,.inl ⟨f,rfl,rfl,rfl,rfl⟩⟩),rfl,RTold.none HR.out hk2⟩)
    clear hx hi hq
    by_cases b1:p<1
    · go_wp2
      exact bodyPost_ret (v:=.tuple #[.int .i64 0,.slice none 0 0,.int .i64 5]) (by simp [results,Tryz.results21,go_sem]) rfl (HBd.out (by omega))
    · by_cases b2:100000<p
      · go_wp2
        exact bodyPost_ret (v:=.tuple #[.int .i64 0,.slice none 0 0,.int .i64 5]) (by simp [results,Tryz.results21,go_sem]) rfl (HBd.out (by omega))
      · by_cases b3:q<1
        · go_wp2
          exact bodyPost_ret (v:=.tuple #[.int .i64 0,.slice none 0 0,.int .i64 5]) (by simp [results,Tryz.results21,go_sem]) rfl (HBd.out (by omega))
        · by_cases b4:10000<q
          · go_wp2
            exact bodyPost_ret (v:=.tuple #[.int .i64 0,.slice none 0 0,.int .i64 5]) (by simp [results,Tryz.results21,go_sem]) rfl (HBd.out (by omega))
          · clear HBd HT HO
            have hlt:j<r.wt.length:=(List.getElem?_eq_some_iff.1 HX.out).1
            have Rr:=HR.out.later hk2
            obtain ⟨lb,cap,hv,hc⟩:=ord_cells Rr.wt j hlt
            have ex:r.wt[j]=x:=(List.getElem?_eq_some_iff.1 HX.out).2
            rw [ex] at hc
            obtain ⟨q0,q1,q2,q3,q4,q5,q6,q7⟩:=ord_eight hc
            have c5:=Rr.c.cW.cell
            rw [hv] at c5
            have hj':(j:Int)<(r.wt.length:Int):=by omega
            have HRr:=hide Rr
            have HV:=hide hv
            clear hc Rr ex hv
            have HB:=hide (box_own w2 x 40)
            go_upto_region 10 with fail
            have kb:Kep non w2 (w2.alloc (.cells #[.int .i64 x.id,.int .i64 x.t,.int .i64 x.h,.int .i64 x.g,.int .i64 x.s,.int .i64 x.p,.int .i64 x.q,.int .i64 x.w] 40)):=(Kep.refl _ _).alloc _
            have hzb:w2.heap.size<(w2.alloc (.cells #[.int .i64 x.id,.int .i64 x.t,.int .i64 x.h,.int .i64 x.g,.int .i64 x.s,.int .i64 x.p,.int .i64 x.q,.int .i64 x.w] 40)).heap.size:=by simp
            generalize w2.alloc (.cells #[.int .i64 x.id,.int .i64 x.t,.int .i64 x.h,.int .i64 x.g,.int .i64 x.s,.int .i64 x.p,.int .i64 x.q,.int .i64 x.w] 40)=W3 at *
            have R3:=HRr.out.later kb
            have c5:=R3.c.cW.cell
            rw [HV.out] at c5
            have K3:=hide (hk2.trans kb)
            have hS2:w1.heap.size≤w2.heap.size:=hk2.size
            have HRq:=hide HRr.out
            clear q0 q1 q2 q3 q4 q5 q6 q7 kb HRr hk2
            have LTB:=hide (fun b (hb:L.S b)=>(show b<w2.heap.size from HRq.out.lt HK.out.T1 HK.out.G1 HK.out.H1 b hb))
            clear HRq
            generalize w2.heap.size=B at *
            obtain ⟨y0,_⟩:=HB.out 0 _ rfl
            obtain ⟨y1,_⟩:=HB.out 1 _ rfl
            obtain ⟨y2,_⟩:=HB.out 2 _ rfl
            obtain ⟨y3,_⟩:=HB.out 3 _ rfl
            obtain ⟨y4,_⟩:=HB.out 4 _ rfl
            obtain ⟨y5,_⟩:=HB.out 5 _ rfl
            obtain ⟨y6,_⟩:=HB.out 6 _ rfl
            obtain ⟨y7,_⟩:=HB.out 7 _ rfl
            by_cases e1:p=x.p∧q≤x.q
            · have g1:(p == x.p)=true:=by simpa using e1.1
              have g2:=e1.2
              have hQ:=R3.setQ HV.out HX.out q
              obtain ⟨lb',cap',hv',hc⟩:=ord_cells R3.wt j hlt
              rw [HV.out] at hv'
              simp only [Value.slice.injEq,true_and,Option.some.injEq,Addr.mk.injEq,and_true] at hv'
              obtain ⟨rfl,rfl⟩:=hv'
              obtain ⟨s6,z6⟩:=hc 6 _ rfl
              have HSQ:=hide hQ
              have HE1:=hide e1
              clear hQ hc e1 R3 y0 y1 y2 y3 y4 y7
              go_wp2
              refine bodyPost_ret (v:=.tuple #[.int .i64 id,.slice none 0 0,.int .i64 0]) (by simp [results,Tryz.results21,go_sem]) rfl ⟨id,_,0,[],_,.inr (.inr ⟨ht,j,x,⟨HX.out,HI.out,HQ.out⟩,.inr (.inl ⟨⟨⟨by omega,by omega⟩,⟨by omega,by omega⟩⟩,HE1.out,rfl,rfl,rfl,rfl⟩)⟩),rfl,?_⟩
              refine ⟨(K3.out.none (S:=L.S)).setCell (p:=⟨lb,j * 8+6,none⟩) (.inl ⟨6,by show L.wv.ownBlock=some lb;rw [HV.out];rfl⟩) _,⟨L,rfl,fun b hb=>.inl hb,HSQ.out,fun b hb=>by simp [Value.ownBlock] at hb⟩,World.ownsRow_nil _ _ _ _⟩
            · have HD:=hide (rdrops_any W3 L r R3 HK.out.T1 HK.out.G1 HK.out.H1 HK.out.w60 j hlt)
              have lcB:=LTB.out L.c ⟨0,rfl⟩
              have HE1:=hide e1
              have hcase:(p == x.p)=false∨((p == x.p)=true∧¬ q≤x.q):=by
                by_cases f:p=x.p
                · exact .inr ⟨by simpa using f,fun g=>e1 ⟨f,g⟩⟩
                · exact .inl (by simpa using f)
              clear R3 e1
              rcases hcase with g1 | ⟨g1,g2⟩
              all_goals go_upto_region 15 with (go_at_call 50;refine HD.out.mono ?_;rintro e w4 ⟨rfl,hP⟩)
              all_goals obtain ⟨k4,v1,hv1,R4⟩:=hP
              all_goals clear HD c5
              all_goals have OB:OdAt w4 B x:=fun i u hu=>(HB.out i u hu).kep k4 (fun f=>by simp only [] at f;omega)
              all_goals clear HB y0 y1 y2 y3 y4 y5 y6 y7
              all_goals obtain ⟨y0,_⟩:=OB 0 _ rfl
              all_goals obtain ⟨y1,_⟩:=OB 1 _ rfl
              all_goals obtain ⟨y2,_⟩:=OB 2 _ rfl
              all_goals obtain ⟨y3,_⟩:=OB 3 _ rfl
              all_goals obtain ⟨y4,_⟩:=OB 4 _ rfl
              all_goals obtain ⟨y5,z5⟩:=OB 5 _ rfl
              all_goals obtain ⟨y6,z6⟩:=OB 6 _ rfl
              all_goals obtain ⟨y7,z7⟩:=OB 7 _ rfl
              all_goals have OC:=hide (box_changed OB p q)
              all_goals clear OB
              all_goals go_upto_region 18 with fail
              all_goals have k5:Kep (fun b=>b=B) w4 (((w4.setCell ⟨B,5,none⟩ (.int .i64 p)).setCell ⟨B,6,none⟩ (.int .i64 q)).setCell ⟨B,7,none⟩ (.int .i64 0)):=(((Kep.refl (fun b=>b=B) w4).setCell (p:=⟨B,5,none⟩) (.inl rfl) _).setCell (p:=⟨B,6,none⟩) (.inl rfl) _).setCell (p:=⟨B,7,none⟩) (.inl rfl) _
              all_goals generalize ((w4.setCell ⟨B,5,none⟩ (.int .i64 p)).setCell ⟨B,6,none⟩ (.int .i64 q)).setCell ⟨B,7,none⟩ (.int .i64 0)=w5 at *
              all_goals clear y0 y1 y2 y3 y4 y5 y6 y7 z5 z6 z7
              all_goals obtain ⟨y0,_⟩:=OC.out 0 _ rfl
              all_goals obtain ⟨y1,_⟩:=OC.out 1 _ rfl
              all_goals obtain ⟨y2,_⟩:=OC.out 2 _ rfl
              all_goals obtain ⟨y3,_⟩:=OC.out 3 _ rfl
              all_goals obtain ⟨y4,_⟩:=OC.out 4 _ rfl
              all_goals obtain ⟨y5,_⟩:=OC.out 5 _ rfl
              all_goals obtain ⟨y6,_⟩:=OC.out 6 _ rfl
              all_goals obtain ⟨y7,_⟩:=OC.out 7 _ rfl
              all_goals clear OC
              all_goals simp only [chOd] at y0 y1 y2 y3 y4 y5 y6 y7
              all_goals have nB:=dropped_ne LTB.out (fun b hb=>Nat.lt_of_lt_of_le hzb (hv1 b hb))
              all_goals have R5:=R4.keep k5 nB
              all_goals have KA:=hide (show Kep (fun b=>b=L.c) w1 w4 from (K3.out.none (S:=fun b=>b=L.c)).trans k4)
              all_goals have KB:=hide (k5.mono (S':=fun b=>w1.heap.size≤b) (fun b hb=>.inl (by omega)))
              all_goals have HV1:=hide (show ∀ b,v1.ownBlock=some b→w1.heap.size≤b from fun b hb=>Nat.le_trans K3.out.size (hv1 b hb))
              all_goals have HPl:=hide (show Calls Tryz.prog 15 #[.pointer (some ⟨L.c,0,none⟩),.agg #[.int .i64 x.id,.int .i64 x.t,.int .i64 x.h,.int .i64 x.g,.int .i64 x.s,.int .i64 p,.int .i64 q,.int .i64 0]] w5 fun e w'=>∃ v,e = .returned (.tuple #[.int .i64 (rplaceI (rdrop r j) (chOd x p q)),v,.int .i64 (rmayE (rdrop r j) (chOd x p q))])∧RTold w5 { L with wv:=v1 } (rplaceM (rdrop r j) (chOd x p q)) v (rplaceT (rdrop r j) (chOd x p q)) w' from refPlace_any w5 { L with wv:=v1 } (rdrop r j) R5 (HK.out.drop j) (chOd x p q) hN)
              all_goals clear R4 R5 k4 k5 nB hv1
              all_goals go_upto_region 19 with (go_at_call 15;refine HPl.out.mono ?_;rintro e w6 ⟨v,rfl,hT⟩)
              all_goals clear HPl y0 y1 y2 y3 y4 y5 y6 y7
              all_goals have HT:=hide hT
              all_goals clear hT
              all_goals by_cases hE:rmayE (rdrop r j) (chOd x p q)=0
              all_goals have HEE:=hide hE
              all_goals generalize hG:rmayE (rdrop r j) (chOd x p q)=E at *
              all_goals have HG:=hide hG
              all_goals clear hG
              · have f0:(E != 0)=false:=by simpa using hE
                clear hE
                go_wp2
                exact bodyPost_ret (v:=.tuple #[.int .i64 (rplaceI (rdrop r j) (chOd x p q)),v,.int .i64 E]) (by simp [results,Tryz.results21,go_sem]) rfl ⟨_,v,E,_,_,.inr (.inr ⟨ht,j,x,⟨HX.out,HI.out,HQ.out⟩,.inr (.inr (.inl ⟨⟨⟨by omega,by omega⟩,⟨by omega,by omega⟩⟩,HE1.out,HG.out.trans HEE.out,rfl,rfl,HEE.out,rfl⟩))⟩),rfl,told_dropped KA.out HV1.out KB.out HT.out⟩
              · have f0:(E != 0)=true:=by simpa using hE
                have hne:rmayE (rdrop r j) (chOd x p q)≠0:=by rw [HG.out];exact hE
                have h1:rplaceI (rdrop r j) (chOd x p q)=0:=by unfold rplaceI;rw [if_neg hne]
                have h2:rplaceT (rdrop r j) (chOd x p q)=[]:=by unfold rplaceT;rw [if_neg hne]
                have h3:rplaceM (rdrop r j) (chOd x p q)=rdrop r j:=by unfold rplaceM;rw [if_neg hne]
                rw [h1]
                rw [h2,h3] at HT
                have HN:=hide hne
                obtain ⟨L',eL,_,R',_⟩:=HT.out.rep
                obtain ⟨c5',f5'⟩:=R'.c.cW
                rw [eL] at c5' f5'
                clear hE hne h1 h2 h3 R' eL
                go_wp2
                refine bodyPost_ret (v:=.tuple #[.int .i64 0,v,.int .i64 E]) (by simp [results,Tryz.results21,go_sem]) rfl ⟨0,v,E,[],r,.inr (.inr ⟨ht,j,x,⟨HX.out,HI.out,HQ.out⟩,.inr (.inr (.inr ⟨⟨⟨by omega,by omega⟩,⟨by omega,by omega⟩⟩,HE1.out,HN.out,rfl,rfl,HG.out.symm,rfl⟩))⟩),rfl,?_⟩
                have:=told_back HR.out HK.out.T1 HK.out.G1 HK.out.H1 KA.out HV1.out KB.out HT.out
                rw [HV.out] at this
                exact this
              · have f0:(E != 0)=false:=by simpa using hE
                clear hE
                go_wp2
                exact bodyPost_ret (v:=.tuple #[.int .i64 (rplaceI (rdrop r j) (chOd x p q)),v,.int .i64 E]) (by simp [results,Tryz.results21,go_sem]) rfl ⟨_,v,E,_,_,.inr (.inr ⟨ht,j,x,⟨HX.out,HI.out,HQ.out⟩,.inr (.inr (.inl ⟨⟨⟨by omega,by omega⟩,⟨by omega,by omega⟩⟩,HE1.out,HG.out.trans HEE.out,rfl,rfl,HEE.out,rfl⟩))⟩),rfl,told_dropped KA.out HV1.out KB.out HT.out⟩
              · have f0:(E != 0)=true:=by simpa using hE
                have hne:rmayE (rdrop r j) (chOd x p q)≠0:=by rw [HG.out];exact hE
                have h1:rplaceI (rdrop r j) (chOd x p q)=0:=by unfold rplaceI;rw [if_neg hne]
                have h2:rplaceT (rdrop r j) (chOd x p q)=[]:=by unfold rplaceT;rw [if_neg hne]
                have h3:rplaceM (rdrop r j) (chOd x p q)=rdrop r j:=by unfold rplaceM;rw [if_neg hne]
                rw [h1]
                rw [h2,h3] at HT
                have HN:=hide hne
                obtain ⟨L',eL,_,R',_⟩:=HT.out.rep
                obtain ⟨c5',f5'⟩:=R'.c.cW
                rw [eL] at c5' f5'
                clear hE hne h1 h2 h3 R' eL
                go_wp2
                refine bodyPost_ret (v:=.tuple #[.int .i64 0,v,.int .i64 E]) (by simp [results,Tryz.results21,go_sem]) rfl ⟨0,v,E,[],r,.inr (.inr ⟨ht,j,x,⟨HX.out,HI.out,HQ.out⟩,.inr (.inr (.inr ⟨⟨⟨by omega,by omega⟩,⟨by omega,by omega⟩⟩,HE1.out,HN.out,rfl,rfl,HG.out.symm,rfl⟩))⟩),rfl,?_⟩
                have:=told_back HR.out HK.out.T1 HK.out.G1 HK.out.H1 KA.out HV1.out KB.out HT.out
                rw [HV.out] at this
                exact this

theorem refChange_any (w:World) (L:RL) (r:Rm) (R:RRep w L r) (ok:r.Ok 0) (t id p q:Int) (hN:r.nx≤1000000000000) :
    Calls Tryz.prog 21 #[.pointer (some ⟨L.c,0,none⟩),.int .i64 t,.int .i64 id,.int .i64 p,.int .i64 q] w (RChPost w L r t id p q):=by
  by_cases ht:okI r.T t
  · exact refChange_ok w L r R ok t id p q ht hN
  · exact refChange_bad w L r R ok t id p q ht
end

section
open Go.RowKit Go.Sort

def sumQ (p:Int):List Od→Int
  | []=>0
  | o :: r=>(if o.p=p then o.q else 0)+sumQ p r
def cntP (p:Int):List Od→Int
  | []=>0
  | o :: r=>(if o.p=p then 1 else 0)+cntP p r

theorem sumQ_app (p:Int):∀ a b,sumQ p (a ++ b)=sumQ p a+sumQ p b
  | [],b=>by simp [sumQ]
  | o :: r,b=>by simp only [List.cons_append,sumQ,sumQ_app p r b];omega
theorem cntP_app (p:Int):∀ a b,cntP p (a ++ b)=cntP p a+cntP p b
  | [],b=>by simp [cntP]
  | o :: r,b=>by simp only [List.cons_append,cntP,cntP_app p r b];omega
theorem sumQ_perm {p:Int} {a b:List Od} (h:a.Perm b):sumQ p a=sumQ p b:=by
  induction h with
  | nil=>rfl
  | cons x _ ih=>simp only [sumQ,ih]
  | swap x y l=>simp only [sumQ];omega
  | trans _ _ h1 h2=>exact h1.trans h2
theorem cntP_perm {p:Int} {a b:List Od} (h:a.Perm b):cntP p a=cntP p b:=by
  induction h with
  | nil=>rfl
  | cons x _ ih=>simp only [cntP,ih]
  | swap x y l=>simp only [cntP];omega
  | trans _ _ h1 h2=>exact h1.trans h2
theorem sumQ_zero {p:Int}:∀ {a:List Od},(∀ o∈a,o.p≠p)→sumQ p a=0∧cntP p a=0
  | [],_=>⟨rfl,rfl⟩
  | o :: r,h=>by
    have ih:=sumQ_zero fun y hy=>h y (List.mem_cons_of_mem _ hy)
    have h1:=h o (List.mem_cons_self ..)
    simp only [sumQ,cntP,if_neg h1,ih.1,ih.2]
    exact ⟨rfl,rfl⟩
theorem sumQ_bd (p:Int):∀ {a:List Od},(∀ o∈a,1≤o.q∧o.q≤10000)→(0≤sumQ p a∧sumQ p a≤10000 * (a.length:Int))∧0≤cntP p a∧cntP p a≤(a.length:Int)
  | [],_=>by simp [sumQ,cntP]
  | o :: r,h=>by
    have ih:=sumQ_bd p fun y hy=>h y (List.mem_cons_of_mem _ hy)
    have h1:=h o (List.mem_cons_self ..)
    simp only [sumQ,cntP,List.length_cons]
    split <;> omega

def Sr (s:Nat) (a b:Int):Prop:=if s=0 then b<a else a<b
theorem sr_ne {s:Nat} {a b:Int} (h:Sr s a b):a≠b:=by unfold Sr at h;split at h <;> omega
theorem sr_of {s:Nat} {a b:Int} (h:¬ Sr s b a) (e:a≠b):Sr s a b:=by unfold Sr at *;split at h <;> simp_all <;> omega
theorem sr_trans {s:Nat} {a b c:Int} (h:Sr s a b) (k:¬ Sr s c b):Sr s a c:=by unfold Sr at *;split at h <;> simp_all <;> omega

structure LvOk (s:Nat) (os:List Od) (gs:List Lv):Prop where
  pw:gs.Pairwise fun a b=>Sr s a.p b.p
  sq:∀ l∈gs,l.q=sumQ l.p os∧l.n=cntP l.p os
  ex:∀ o∈os,∃ l∈gs,l.p=o.p
  fr:∀ l∈gs,∃ o∈os,o.p=l.p
  la:∀ y,os.getLast? = some y→∃ l,gs.getLast? = some l∧l.p=y.p
  hd:∀ y,os.head? = some y→∃ l,gs.head? = some l∧l.p=y.p

theorem LvOk.step {s:Nat} {pre:List Od} {gs:List Lv} (h:LvOk s pre gs) {o:Od} (ho:∀ y∈pre,¬ Sr s o.p y.p):LvOk s (pre ++ [o]) (lvStep gs o):=by
  cases e:gs.getLast? with
  | none =>
    have eg:gs=[]:=List.getLast?_eq_none_iff.1 e
    subst eg
    have ep:pre=[]:=by
      cases pre with
      | nil=>rfl
      | cons y r=>obtain ⟨l,hl,_⟩:=h.ex y (List.mem_cons_self ..);cases hl
    subst ep
    have e1:lvStep [] o=[⟨o.p,o.q,1⟩]:=rfl
    rw [e1]
    refine ⟨List.pairwise_singleton _ _,fun l hl=>?_,fun y hy=>⟨_,List.mem_singleton_self _,?_⟩,fun l hl=>⟨o,by simp,?_⟩,fun y hy=>⟨⟨o.p,o.q,1⟩,rfl,?_⟩,fun y hy=>⟨⟨o.p,o.q,1⟩,rfl,?_⟩⟩
    · rw [List.mem_singleton.1 hl];simp [sumQ,cntP]
    · rw [List.nil_append] at hy;rw [List.mem_singleton.1 hy]
    · rw [List.mem_singleton.1 hl]
    · simp at hy;rw [← hy]
    · simp at hy;rw [← hy]
  | some z =>
    obtain ⟨g0,rfl⟩ : ∃ g0,gs=g0 ++ [z]:=⟨gs.dropLast,(dropLast_of e).symm⟩
    obtain ⟨p1,p2,p3⟩:=List.pairwise_append.1 h.pw
    obtain ⟨y0,hy0,ey0⟩:=h.fr z (by simp)
    have hne:pre≠[]:=fun f=>by rw [f] at hy0;cases hy0
    obtain ⟨y,hy⟩ : ∃ y,pre.getLast? = some y:=⟨_,List.getLast?_eq_some_getLast hne⟩
    obtain ⟨l,hl,el⟩:=h.la y hy
    have ez:z=l:=by simpa using hl
    subst ez
    have hyo:=ho y (List.mem_of_getLast? hy)
    rw [← el] at hyo
    have hz:=h.sq z (by simp)
    have hdp:(pre ++ [o]).head? = pre.head?:=by cases pre with
      | nil=>exact absurd rfl hne
      | cons a r=>rfl
    by_cases ep:z.p=o.p
    · have e1:lvStep (g0 ++ [z]) o=g0 ++ [⟨z.p,z.q+o.q,z.n+1⟩]:=by
        unfold lvStep;rw [e];simp only;rw [if_pos ep];simp
      rw [e1]
      have h0:∀ l∈g0,l.p≠o.p:=fun l hl=>by rw [← ep];exact sr_ne (p3 l hl z (by simp))
      refine ⟨List.pairwise_append.2 ⟨p1,List.pairwise_singleton _ _,fun a ha b hb=>?_⟩,fun l hl=>?_,fun x hx=>?_,fun l hl=>?_,fun x hx=>?_,fun x hx=>?_⟩
      · rw [List.mem_singleton.1 hb];exact p3 a ha z (by simp)
      · rw [sumQ_app,cntP_app]
        rcases List.mem_append.1 hl with hl | hl
        · have:=h.sq l (by simp [hl])
          simp only [sumQ,cntP,if_neg (Ne.symm (h0 l hl))]
          omega
        · rw [List.mem_singleton.1 hl]
          simp only [sumQ,cntP,if_pos ep.symm]
          omega
      · rcases List.mem_append.1 hx with hx | hx
        · obtain ⟨l,hl,e2⟩:=h.ex x hx
          rcases List.mem_append.1 hl with hl | hl
          · exact ⟨l,by simp [hl],e2⟩
          · rw [List.mem_singleton.1 hl] at e2
            exact ⟨_,List.mem_append_right _ (List.mem_singleton_self _),e2⟩
        · rw [List.mem_singleton.1 hx]
          exact ⟨_,List.mem_append_right _ (List.mem_singleton_self _),ep⟩
      · rcases List.mem_append.1 hl with hl | hl
        · obtain ⟨x,hx,e2⟩:=h.fr l (by simp [hl])
          exact ⟨x,by simp [hx],e2⟩
        · rw [List.mem_singleton.1 hl]
          exact ⟨o,by simp,ep.symm⟩
      · have:o=x:=by simpa using hx
        subst this
        exact ⟨⟨z.p,z.q+o.q,z.n+1⟩,by simp,ep⟩
      · rw [hdp] at hx
        obtain ⟨l,hl,e2⟩:=h.hd x hx
        cases g0 with
        | nil =>
          have:z=l:=by simpa using hl
          subst this
          exact ⟨_,rfl,e2⟩
        | cons a r=>exact ⟨l,hl,e2⟩
    · have e1:lvStep (g0 ++ [z]) o=g0 ++ [z] ++ [⟨o.p,o.q,1⟩]:=by
        unfold lvStep;rw [e];simp only;rw [if_neg ep]
      rw [e1]
      have hzo:Sr s z.p o.p:=sr_of hyo ep
      have hall:∀ l∈g0 ++ [z],Sr s l.p o.p:=fun l hl=>by
        rcases List.mem_append.1 hl with hl | hl
        · exact sr_trans (p3 l hl z (by simp)) hyo
        · rw [List.mem_singleton.1 hl];exact hzo
      have hno:∀ x∈pre,x.p≠o.p:=fun x hx f=>by
        obtain ⟨l,hl,e2⟩:=h.ex x hx
        exact sr_ne (hall l hl) (e2.trans f)
      refine ⟨List.pairwise_append.2 ⟨h.pw,List.pairwise_singleton _ _,fun a ha b hb=>?_⟩,fun l hl=>?_,fun x hx=>?_,fun l hl=>?_,fun x hx=>?_,fun x hx=>?_⟩
      · rw [List.mem_singleton.1 hb];exact hall a ha
      · rw [sumQ_app,cntP_app]
        rcases List.mem_append.1 hl with hl | hl
        · have:=h.sq l hl
          simp only [sumQ,cntP,if_neg (Ne.symm (sr_ne (hall l hl)))]
          omega
        · rw [List.mem_singleton.1 hl]
          have:=sumQ_zero hno
          simp only [sumQ,cntP,if_pos]
          omega
      · rcases List.mem_append.1 hx with hx | hx
        · obtain ⟨l,hl,e2⟩:=h.ex x hx
          exact ⟨l,List.mem_append_left _ hl,e2⟩
        · rw [List.mem_singleton.1 hx]
          exact ⟨_,List.mem_append_right _ (List.mem_singleton_self _),rfl⟩
      · rcases List.mem_append.1 hl with hl | hl
        · obtain ⟨x,hx,e2⟩:=h.fr l hl
          exact ⟨x,by simp [hx],e2⟩
        · rw [List.mem_singleton.1 hl]
          exact ⟨o,by simp,rfl⟩
      · have:o=x:=by simpa using hx
        subst this
        exact ⟨⟨o.p,o.q,1⟩,by simp,rfl⟩
      · rw [hdp] at hx
        obtain ⟨l,hl,e2⟩:=h.hd x hx
        refine ⟨l,?_,e2⟩
        cases g0 with
        | nil=>exact hl
        | cons a r=>exact hl

theorem lvOk {s:Nat} (os:List Od) (h:os.Pairwise fun a b=>¬ Sr s b.p a.p):LvOk s os (lvL os):=by
  have gen:∀ k,k≤os.length→LvOk s (os.take k) (lvL (os.take k)):=fun k=>by
    induction k with
    | zero=>intro _;exact ⟨List.Pairwise.nil,fun l hl=>(by cases hl),fun o ho=>(by simp at ho),fun l hl=>(by cases hl),fun y hy=>(by simp at hy),fun y hy=>(by simp at hy)⟩
    | succ k ih =>
      intro hk
      have i:=ih (by omega)
      rw [List.take_add_one,List.getElem?_eq_getElem (by omega),Option.toList_some,lvL_snoc]
      refine i.step fun y hy=>?_
      obtain ⟨j,hj,e⟩:=List.mem_iff_getElem.1 hy
      rw [List.length_take] at hj
      have h1:=List.pairwise_iff_getElem.1 h j k (by omega) (by omega) (by omega)
      rw [List.getElem_take] at e
      rw [← e]
      exact h1
  have:=gen os.length (Nat.le_refl _)
  rwa [List.take_length] at this
end

end Go.Proofs.YtcfoobhihhndjaaGreat

namespace Go.Proofs.YtcfoobhihhndjaaGreat

section
def lvIn (h g s:Nat) (o:Od):Bool:=decide (o.h=h) && decide (o.g=g) && decide (o.s=s)
def lvLater (s:Nat) (gs:List Lv) (o:Od):Bool :=
  match gs.getLast? with
  | none=>true
  | some l=>if s=0 then decide (o.p<l.p) else decide (l.p<o.p)
def lvNext (s:Nat) (b p:Int):Bool:=decide (b=0) || (if s=0 then decide (b<p) else decide (p≤b))
def lvBst (h g s:Nat) (gs:List Lv) (b:Int) (o:Od):Int:=if lvIn h g s o=true∧lvLater s gs o=true∧lvNext s b o.p=true then o.p else b
def lvTop (h g s:Nat) (gs:List Lv) (l:List Od):Int:=l.foldl (lvBst h g s gs) 0
def lvOf (h g s:Nat) (b:Int) (l:List Od):Lv:=⟨b,sumQ b (l.filter (lvIn h g s)),cntP b (l.filter (lvIn h g s))⟩
def rlv (h g s:Nat) (l:List Od):Nat→List Lv→List Lv
  | 0,gs=>gs
  | n+1,gs=>if lvTop h g s gs l=0 then gs else rlv h g s l n (gs ++ [lvOf h g s (lvTop h g s gs l) l])

theorem top_spec {h g s:Nat} (s2:s<2) {gs:List Lv}:∀ (l:List Od) (b0:Int),0≤b0→(∀ o∈l,1≤o.p) →
    0≤l.foldl (lvBst h g s gs) b0∧(l.foldl (lvBst h g s gs) b0=b0∨∃ o∈l,(lvIn h g s o=true∧lvLater s gs o=true)∧o.p=l.foldl (lvBst h g s gs) b0)∧(b0≠0→l.foldl (lvBst h g s gs) b0≠0∧¬ Sr s b0 (l.foldl (lvBst h g s gs) b0))∧∀ o∈l,lvIn h g s o=true∧lvLater s gs o=true→l.foldl (lvBst h g s gs) b0≠0∧¬ Sr s o.p (l.foldl (lvBst h g s gs) b0)
  | [],b0,h0,_=>⟨h0,.inl rfl,fun h=>⟨h,fun f=>by simp only [List.foldl_nil,Sr] at f;split at f <;> omega⟩,fun o ho=>by cases ho⟩
  | x :: l,b0,h0,hp=>by
    have px:=hp x List.mem_cons_self
    have h1:0≤lvBst h g s gs b0 x:=by unfold lvBst;split <;> omega
    obtain ⟨i0,i1,i2,i3⟩:=top_spec s2 (gs:=gs) l (lvBst h g s gs b0 x) h1 (fun o ho=>hp o (List.mem_cons_of_mem _ ho))
    simp only [List.foldl_cons]
    generalize l.foldl (lvBst h g s gs) (lvBst h g s gs b0 x)=b at *
    have tr:∀ a c:Int,¬ Sr s a c→¬ Sr s c b→¬ Sr s a b:=fun a c k1 k2=>by unfold Sr at *;split <;> simp_all <;> omega
    have ir:∀ a:Int,¬ Sr s a a:=fun a=>by unfold Sr;split <;> omega
    by_cases c:lvIn h g s x=true∧lvLater s gs x=true∧lvNext s b0 x.p=true
    · have e:lvBst h g s gs b0 x=x.p:=by unfold lvBst;rw [if_pos c]
      rw [e] at i1 i2
      obtain ⟨j1,j2⟩:=i2 (by omega)
      refine ⟨i0,?_,fun hb=>⟨j1,?_⟩,fun o ho k=>?_⟩
      · rcases i1 with q | ⟨o,ho,k⟩
        · exact .inr ⟨x,List.mem_cons_self,⟨c.1,c.2.1⟩,q.symm⟩
        · exact .inr ⟨o,List.mem_cons_of_mem _ ho,k⟩
      · refine tr b0 x.p ?_ j2
        have:=c.2.2
        unfold lvNext at this
        unfold Sr
        rcases s with _ | _ | s
        · simp [hb] at this;simp;omega
        · simp [hb] at this;simp;omega
        · omega
      · rcases List.mem_cons.1 ho with rfl | ho
        · exact ⟨j1,j2⟩
        · exact i3 o ho k
    · have e:lvBst h g s gs b0 x=b0:=by unfold lvBst;rw [if_neg c]
      rw [e] at i1 i2
      refine ⟨i0,?_,i2,fun o ho k=>?_⟩
      · rcases i1 with q | ⟨o,ho,k⟩
        · exact .inl q
        · exact .inr ⟨o,List.mem_cons_of_mem _ ho,k⟩
      · rcases List.mem_cons.1 ho with rfl | ho
        · have hn:¬ lvNext s b0 o.p=true:=fun f=>c ⟨k.1,k.2,f⟩
          unfold lvNext at hn
          have hb:b0≠0:=fun f=>hn (by simp [f])
          obtain ⟨j1,j2⟩:=i2 hb
          refine ⟨j1,tr o.p b0 ?_ j2⟩
          unfold Sr
          rcases s with _ | _ | s
          · simp [hb] at hn;simp;omega
          · simp [hb] at hn;simp;omega
          · omega
        · exact i3 o ho k

structure LvPart (s:Nat) (F:List Od) (gs:List Lv):Prop where
  pw:gs.Pairwise fun a b=>Sr s a.p b.p
  sq:∀ l∈gs,l.q=sumQ l.p F∧l.n=cntP l.p F
  fr:∀ l∈gs,∃ o∈F,o.p=l.p
  ex:∀ o∈F,(∃ l∈gs,l.p=o.p)∨lvLater s gs o=true

theorem later_snoc {s:Nat} {gs:List Lv} {x:Lv} {o:Od}:lvLater s (gs ++ [x]) o=true ↔ Sr s x.p o.p:=by
  unfold lvLater Sr
  simp only [List.getLast?_append,List.getLast?_singleton,Option.some_or]
  split <;> simp

theorem LvPart.last {s:Nat} {F:List Od} {gs:List Lv} (P:LvPart s F gs) {o:Od} (ho:lvLater s gs o=true):∀ l∈gs,Sr s l.p o.p:=by
  intro l hl
  rcases List.eq_nil_or_concat gs with e | ⟨g0,z,e⟩
  · subst e;cases hl
  · rw [List.concat_eq_append] at e
    subst e
    have hz:=later_snoc.1 ho
    rcases List.mem_append.1 hl with q | q
    · have:=(List.pairwise_append.1 P.pw).2.2 l q z (List.mem_singleton_self _)
      unfold Sr at *
      split at this <;> simp_all <;> omega
    · rw [List.mem_singleton.1 q]
      exact hz

theorem rlv_part {h g s:Nat} (s2:s<2) {wt:List Od} (hp:∀ o∈wt,1≤o.p):∀ (n:Nat) (gs:List Lv),LvPart s (wt.filter (lvIn h g s)) gs→((wt.filter (lvIn h g s)).filter (lvLater s gs)).length≤n →
    LvPart s (wt.filter (lvIn h g s)) (rlv h g s wt n gs)∧∀ o∈wt.filter (lvIn h g s),∃ l∈rlv h g s wt n gs,l.p=o.p
  | 0,gs,P,hn=>by
    refine ⟨P,fun o ho=>?_⟩
    have e:(wt.filter (lvIn h g s)).filter (lvLater s gs)=[]:=List.length_eq_zero_iff.1 (by omega)
    refine (P.ex o ho).resolve_right fun f=>?_
    have:o∈(wt.filter (lvIn h g s)).filter (lvLater s gs):=List.mem_filter.2 ⟨ho,f⟩
    rw [e] at this
    cases this
  | n+1,gs,P,hn=>by
    obtain ⟨t0,t1,_,t3⟩:=top_spec s2 (h:=h) (g:=g) (gs:=gs) wt 0 (Int.le_refl _) hp
    have et:wt.foldl (lvBst h g s gs) 0=lvTop h g s gs wt:=rfl
    rw [et] at t0 t1 t3
    rw [rlv]
    by_cases c:lvTop h g s gs wt=0
    · rw [if_pos c]
      refine ⟨P,fun o ho=>(P.ex o ho).resolve_right fun f=>?_⟩
      obtain ⟨m1,m2⟩:=List.mem_filter.1 ho
      exact (t3 o m1 ⟨m2,f⟩).1 c
    · rw [if_neg c]
      rcases t1 with q | ⟨o,ho,⟨k1,k2⟩,k3⟩
      · exact absurd q c
      · have hoF:o∈wt.filter (lvIn h g s):=List.mem_filter.2 ⟨ho,k1⟩
        generalize hb:lvTop h g s gs wt=b at *
        have P':LvPart s (wt.filter (lvIn h g s)) (gs ++ [lvOf h g s b wt]):=by
          refine ⟨List.pairwise_append.2 ⟨P.pw,List.pairwise_singleton _ _,fun l hl x hx=>?_⟩,fun l hl=>?_,fun l hl=>?_,fun y hy=>?_⟩
          · rw [List.mem_singleton.1 hx]
            show Sr s l.p b
            rw [← k3]
            exact P.last k2 l hl
          · rcases List.mem_append.1 hl with q | q
            · exact P.sq l q
            · rw [List.mem_singleton.1 q]
              exact ⟨rfl,rfl⟩
          · rcases List.mem_append.1 hl with q | q
            · exact P.fr l q
            · rw [List.mem_singleton.1 q]
              exact ⟨o,hoF,k3⟩
          · rcases P.ex y hy with ⟨l,hl,e⟩ | f
            · exact .inl ⟨l,List.mem_append_left _ hl,e⟩
            · obtain ⟨m1,m2⟩:=List.mem_filter.1 hy
              have nb:=(t3 y m1 ⟨m2,f⟩).2
              by_cases e:y.p=b
              · exact .inl ⟨lvOf h g s b wt,List.mem_append_right _ (List.mem_singleton_self _),e.symm⟩
              · exact .inr (later_snoc.2 (show Sr s b y.p from sr_of nb (fun f=>e f.symm)))
        refine rlv_part s2 hp n _ P' ?_
        have sub:((wt.filter (lvIn h g s)).filter (lvLater s (gs ++ [lvOf h g s b wt]))).length<((wt.filter (lvIn h g s)).filter (lvLater s gs)).length:=by
          have e1:(wt.filter (lvIn h g s)).filter (lvLater s (gs ++ [lvOf h g s b wt]))=((wt.filter (lvIn h g s)).filter (lvLater s gs)).filter (lvLater s (gs ++ [lvOf h g s b wt])):=by
            conv=>rhs;rw [List.filter_filter]
            refine List.filter_congr fun y hy=>?_
            by_cases f:lvLater s (gs ++ [lvOf h g s b wt]) y=true
            · rw [f]
              have:lvLater s gs y=true:=by
                rcases P.ex y hy with ⟨l,hl,e⟩ | f2
                · have h1:Sr s b y.p:=later_snoc.1 f
                  have h2:Sr s l.p b:=by rw [← k3];exact P.last k2 l hl
                  rw [e] at h2
                  unfold Sr at *
                  split at h1 <;> simp_all <;> omega
                · exact f2
              rw [this]
              rfl
            · have f':lvLater s (gs ++ [lvOf h g s b wt]) y=false:=by simpa using f
              rw [f']
              rfl
          rw [e1]
          have hmem:o∈(wt.filter (lvIn h g s)).filter (lvLater s gs):=List.mem_filter.2 ⟨hoF,k2⟩
          have hnot:¬ lvLater s (gs ++ [lvOf h g s b wt]) o=true:=fun f=>by
            have:Sr s b o.p:=later_snoc.1 f
            rw [k3] at this
            unfold Sr at this
            split at this <;> omega
          have hle:=List.length_filter_le (lvLater s (gs ++ [lvOf h g s b wt])) ((wt.filter (lvIn h g s)).filter (lvLater s gs))
          rcases Nat.lt_or_eq_of_le hle with q | q
          · exact q
          · exact absurd (List.length_filter_eq_length_iff.1 q o hmem) hnot
        omega

theorem lv_one {s:Nat}:∀ (a b:List Lv),a.Pairwise (fun a b=>Sr s a.p b.p)→b.Pairwise (fun a b=>Sr s a.p b.p)→(∀ x∈a,∃ y∈b,y=x)→(∀ y∈b,∃ x∈a,x=y)→a=b
  | [],[],_,_,_,_=>rfl
  | [],y :: b,_,_,_,h=>by obtain ⟨x,hx,_⟩:=h y List.mem_cons_self;cases hx
  | x :: a,[],_,_,h,_=>by obtain ⟨y,hy,_⟩:=h x List.mem_cons_self;cases hy
  | x :: a,y :: b,pa,pb,h1,h2=>by
    have asym:∀ p q:Int,Sr s p q→¬ Sr s q p:=fun p q k1 k2=>by unfold Sr at *;split at k1 <;> simp_all <;> omega
    obtain ⟨a1,a2⟩:=List.pairwise_cons.1 pa
    obtain ⟨b1,b2⟩:=List.pairwise_cons.1 pb
    have e:x=y:=by
      obtain ⟨y',hy',e1⟩:=h1 x List.mem_cons_self
      obtain ⟨x',hx',e2⟩:=h2 y List.mem_cons_self
      subst e1 e2
      rcases List.mem_cons.1 hy' with q | q
      · exact q
      · rcases List.mem_cons.1 hx' with q2 | q2
        · exact q2.symm
        · exact absurd (a1 _ q2) (asym _ _ (b1 _ q))
    subst e
    have irr:∀ z∈a,z≠x:=fun z hz f=>by subst f;exact sr_ne (a1 _ hz) rfl
    have irr2:∀ z∈b,z≠x:=fun z hz f=>by subst f;exact sr_ne (b1 _ hz) rfl
    rw [lv_one a b a2 b2 (fun z hz=>?_) (fun z hz=>?_)]
    · obtain ⟨y,hy,e⟩:=h1 z (List.mem_cons_of_mem _ hz)
      subst e
      rcases List.mem_cons.1 hy with q | q
      · exact absurd q (irr _ hz)
      · exact ⟨_,q,rfl⟩
    · obtain ⟨y,hy,e⟩:=h2 z (List.mem_cons_of_mem _ hz)
      subst e
      rcases List.mem_cons.1 hy with q | q
      · exact absurd q (irr2 _ hz)
      · exact ⟨_,q,rfl⟩

theorem upG_split {α:Type} {f f':Nat→Nat→List α} {g s:Nat} (s2:s<2) (ho:∀ a b,b<2→¬ (a=g∧b=s)→f' a b=f a b) (hz:f' g s=[]):∀ G,g<G→(upG f G).Perm (upG f' G ++ f g s)
  | 0,h=>by omega
  | G+1,h=>by
    simp only [upG]
    by_cases e:g=G
    · subst e
      rw [upG_alike (f:=f) (f':=f') g (fun a b ha hb=>ho a b hb (by omega)),List.append_assoc]
      refine List.Perm.append_left _ ?_
      unfold two
      rcases s with _ | _ | s
      · rw [hz,ho g 1 (by omega) (by omega),List.nil_append]
        exact List.perm_append_comm
      · rw [hz,ho g 0 (by omega) (by omega),List.append_nil]
      · omega
    · have e2:two (f' G)=two (f G):=by unfold two;rw [ho G 0 (by omega) (by omega),ho G 1 (by omega) (by omega)]
      rw [e2]
      refine ((upG_split s2 ho hz G (by omega)).append_right _).trans ?_
      rw [List.append_assoc,List.append_assoc]
      exact List.Perm.append_left _ List.perm_append_comm
theorem upH_split {α:Type} {G:Nat} {f f':Nat→Nat→Nat→List α} {h g s:Nat} (hg:g<G) (s2:s<2) (ho:∀ i a b,b<2→¬ (i=h∧a=g∧b=s)→f' i a b=f i a b) (hz:f' h g s=[]):∀ H,h<H→(upH G f H).Perm (upH G f' H ++ f h g s)
  | 0,k=>by omega
  | H+1,k=>by
    simp only [upH]
    by_cases e:h=H
    · subst e
      rw [upH_alike (f:=f) (f':=f') h (fun i a b hi _ hb=>ho i a b hb (by omega)),List.append_assoc]
      exact List.Perm.append_left _ (upG_split s2 (fun a b hb hne=>ho h a b hb (by omega)) hz G hg)
    · rw [upG_alike (f:=f H) (f':=f' H) G (fun a b _ hb=>ho H a b hb (by omega))]
      refine ((upH_split hg s2 ho hz H (by omega)).append_right _).trans ?_
      rw [List.append_assoc,List.append_assoc]
      exact List.Perm.append_left _ List.perm_append_comm
theorem all_apart (m:Mt) {h g s:Nat} (q:at3 m h g s):m.all.Perm ((m.setBk h g s []).all ++ m.bk h g s):=by
  refine upH_split q.2.1 q.2.2 (fun i a b _ hne=>?_) ?_ m.H q.1
  · simp [Mt.setBk,hne]
  · simp [Mt.setBk]

theorem bk_filter {m:Mt} {N:Int} (ok:m.Ok N) {h g s:Nat} (q:at3 m h g s):(m.all.filter (lvIn h g s)).Perm (m.bk h g s):=by
  have k:=all_apart m q
  have e1:(m.setBk h g s []).all.filter (lvIn h g s)=[]:=by
    rw [List.filter_eq_nil_iff]
    intro x hx f
    obtain ⟨a,b,c,h1,h2,h3,h4⟩:=mem_upH.1 hx
    have h4':x∈(if a=h∧b=g∧c=s then ([]:List Od) else m.bk a b c):=h4
    split at h4'
    · cases h4'
    · rename_i hne
      have w:=ok.od a b c x h1 h2 h3 h4'
      have w1:=w.h
      have w2:=w.g
      have w3:=w.s
      unfold lvIn at f
      simp only [Bool.and_eq_true,decide_eq_true_eq] at f
      exact hne ⟨by omega,by omega,by omega⟩
  have e2:(m.bk h g s).filter (lvIn h g s)=m.bk h g s:=by
    rw [List.filter_eq_self]
    intro x hx
    have w:=ok.od h g s x q.1 q.2.1 q.2.2 hx
    unfold lvIn
    simp [w.h,w.g,w.s]
  have:=k.filter (lvIn h g s)
  rwa [List.filter_append,e1,e2,List.nil_append] at this

theorem Rel.levels {m:Mt} {r:Rm} {N:Int} (R:Rel m r) (I:m.Inv N) (J:m.Jn) {h g s:Nat} (q:at3 m h g s):rlv h g s r.wt r.wt.length []=lvL (m.bk h g s):=by
  have s2:=q.2.2
  have ok:=I.ok
  have pm:(r.wt.filter (lvIn h g s)).Perm (m.bk h g s):=(R.wt.filter _).trans (bk_filter ok q)
  have hp:∀ o∈r.wt,1≤o.p:=fun o ho=>by
    obtain ⟨a,b,c,h1,h2,h3,h4⟩:=mem_upH.1 (R.wt.mem_iff.1 ho)
    exact (ok.od a b c o h1 h2 h3 h4).p.1
  have A:=lvOk (s:=s) (m.bk h g s) ((J.srt q).imp fun {a b} k=>by
    rw [ahd_iff] at k
    unfold Sr
    rcases s with _ | _ | s
    · simp at k;simp;omega
    · simp at k;simp;omega
    · omega)
  have P0:LvPart s (r.wt.filter (lvIn h g s)) []:=⟨List.Pairwise.nil,fun l hl=>(by cases hl),fun l hl=>(by cases hl),fun o _=>.inr rfl⟩
  obtain ⟨B,C⟩:=rlv_part s2 hp r.wt.length [] P0 (Nat.le_trans (List.length_filter_le _ _) (List.length_filter_le _ _))
  have lv_ext:∀ x y:Lv,x.p=y.p→x.q=y.q→x.n=y.n→x=y:=fun x y e1 e2 e3=>by cases x;cases y;simp only at e1 e2 e3;rw [e1,e2,e3]
  refine lv_one (s:=s) _ _ B.pw A.pw (fun x hx=>?_) (fun y hy=>?_)
  · obtain ⟨o,ho,e⟩:=B.fr x hx
    obtain ⟨l,hl,e2⟩:=A.ex o (pm.mem_iff.1 ho)
    have h1:=B.sq x hx
    have h2:=A.sq l hl
    have ep:l.p=x.p:=by rw [e2,e]
    refine ⟨l,hl,lv_ext _ _ ep ?_ ?_⟩
    · rw [h1.1,h2.1,ep,sumQ_perm pm]
    · rw [h1.2,h2.2,ep,cntP_perm pm]
  · obtain ⟨o,ho,e⟩:=A.fr y hy
    obtain ⟨l,hl,e2⟩:=C o (pm.mem_iff.2 ho)
    have h1:=B.sq l hl
    have h2:=A.sq y hy
    have ep:l.p=y.p:=by rw [e2,e]
    refine ⟨l,hl,lv_ext _ _ ep ?_ ?_⟩
    · rw [h1.1,h2.1,ep,sumQ_perm pm]
    · rw [h1.2,h2.2,ep,cntP_perm pm]
end

end Go.Proofs.YtcfoobhihhndjaaGreat
