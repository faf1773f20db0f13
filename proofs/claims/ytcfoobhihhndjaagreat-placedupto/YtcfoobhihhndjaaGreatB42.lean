
import Derived.Test.YtcfoobhihhndjaaGreatB34
import Derived.Test.YtcfoobhihhndjaaGreatB41
namespace Go.Proofs.YtcfoobhihhndjaaGreat

section
open Go.RowKit Go.Sort

set_option maxRecDepth 100000 in
set_option maxHeartbeats 8000000 in
theorem trades_buy (w:World) (L:RL) (r:Rm) (K:Int) (R:RRep w L r) (ok:r.Ok K) (hK:K+10≤1000) (oid op oq ow xid xh xg xs xp xq xw:Int) (t h g tx k:Nat) (ht:t<r.T) (hh:h<r.H) (hg:g<r.G) (htx:tx<r.T) (hk:k<r.wt.length) (hx:r.wt[k]? = some (⟨xid,(tx:Int),xh,xg,xs,xp,xq,xw⟩ : Od))
    (oq0:1≤oq) (oq1:oq≤10000) (xp0:1≤xp) (xp1:xp≤100000) (xq0:1≤xq) (xq1:xq≤10000) (n a f:Int) (hn:min oq xq=n) (ha:xp * n=a) (hf:r.fee h a=f) :
    Calls Tryz.prog 51 #[.pointer (some ⟨L.c,0,none⟩),.agg #[.int .i64 oid,.int .i64 t,.int .i64 h,.int .i64 g,.int .i64 0,.int .i64 op,.int .i64 oq,.int .i64 ow],.int .i64 k] w fun e w'=>e = .returned (.agg #[.int .i64 oid,.int .i64 xid,.int .i64 tx,.int .i64 xp,.int .i64 n,.int .i64 f]) ∧
      RPost w L (if xq=n then rdrop (rless (rnote (rpaid r t tx t h g n a f) h g xp n a) k (⟨xid,(tx:Int),xh,xg,xs,xp,xq,xw⟩ : Od) n) k else rless (rnote (rpaid r t tx t h g n a f) h g xp n a) k (⟨xid,(tx:Int),xh,xg,xs,xp,xq,xw⟩ : Od) n) w':=by
  have n0:1≤n:=by rw [← hn];omega
  have n1:n≤10000:=by rw [← hn];omega
  have nq:n≤xq:=by rw [← hn];omega
  have am:=mul_le' (a:=xp) (b:=n) (A:=100000) (B:=10000) (by omega) xp1 (by omega) n1
  rw [ha] at am
  obtain ⟨a0,a1⟩:=am
  have br:=ok.rt h hh
  have fm:=mul_le' (a:=a) (b:=r.rt h) (A:=1000000000) (B:=100) a0 a1 br.1 br.2
  have fb:0≤f∧f≤10000000:=by
    rw [← hf]
    unfold Rm.fee
    omega
  obtain ⟨f0,f1⟩:=fb
  obtain ⟨lb,cap,hv,hcc⟩:=ord_cells R.wt k hk
  have ek:r.wt[k]=(⟨xid,(tx:Int),xh,xg,xs,xp,xq,xw⟩ : Od):=by
    have:=List.getElem?_eq_getElem hk
    rw [this] at hx
    simpa using hx
  rw [ek] at hcc
  obtain ⟨q0,q1,q2,q3,q4,q5,q6,q7⟩:=ord_eight hcc
  simp only [] at q0 q1 q2 q3 q4 q5 q6 q7
  have c5:=R.c.cW.cell
  rw [hv] at c5
  have al:∀ {p:Addr} {v:Value},w.cell? p=some v→∀ o1 o2,((w.alloc o1).alloc o2).cell? p=some v:=fun h o1 o2=>(((Kep.refl non w).alloc o1).alloc o2).cell h (fun q=>q)
  replace c5:=al c5
  replace q0:=al q0
  replace q1:=al q1
  replace q2:=al q2
  replace q3:=al q3
  replace q4:=al q4
  replace q5:=al q5
  replace q6:=al q6
  replace q7:=al q7
  clear al
  have hk':(k:Int)<(r.wt.length:Int):=by omega
  have HLT:=hide (R.lt ok.T1 ok.G1 ok.H1)
  have HV0:Hid (RT w w.heap.size L (⟨oid,(t:Int),(h:Int),(g:Int),0,op,oq,ow⟩ : Od) (⟨xid,(tx:Int),xh,xg,xs,xp,xq,xw⟩ : Od) (((w.alloc (.cells #[.int .i64 oid,.int .i64 t,.int .i64 h,.int .i64 g,.int .i64 0,.int .i64 op,.int .i64 oq,.int .i64 ow] 40)).alloc (.cells #[.int .i64 0,.int .i64 0,.int .i64 0,.int .i64 0,.int .i64 0,.int .i64 0] 67)).alloc (.cells #[.int .i64 xid,.int .i64 tx,.int .i64 xh,.int .i64 xg,.int .i64 xs,.int .i64 xp,.int .i64 xq,.int .i64 xw] 40)) r):=hide (by
    have k0:Kep non w (((w.alloc (.cells #[.int .i64 oid,.int .i64 t,.int .i64 h,.int .i64 g,.int .i64 0,.int .i64 op,.int .i64 oq,.int .i64 ow] 40)).alloc (.cells #[.int .i64 0,.int .i64 0,.int .i64 0,.int .i64 0,.int .i64 0,.int .i64 0] 67)).alloc (.cells #[.int .i64 xid,.int .i64 tx,.int .i64 xh,.int .i64 xg,.int .i64 xs,.int .i64 xp,.int .i64 xq,.int .i64 xw] 40)):=(((Kep.refl non w).alloc _).alloc _).alloc _
    have h0:(((w.alloc (.cells #[.int .i64 oid,.int .i64 t,.int .i64 h,.int .i64 g,.int .i64 0,.int .i64 op,.int .i64 oq,.int .i64 ow] 40)).alloc (.cells #[.int .i64 0,.int .i64 0,.int .i64 0,.int .i64 0,.int .i64 0,.int .i64 0] 67)).alloc (.cells #[.int .i64 xid,.int .i64 tx,.int .i64 xh,.int .i64 xg,.int .i64 xs,.int .i64 xp,.int .i64 xq,.int .i64 xw] 40)).heap[w.heap.size]? = some (.cells #[.int .i64 oid,.int .i64 t,.int .i64 h,.int .i64 g,.int .i64 0,.int .i64 op,.int .i64 oq,.int .i64 ow] 40):=three_at0 w _ _ _
    have h1:(((w.alloc (.cells #[.int .i64 oid,.int .i64 t,.int .i64 h,.int .i64 g,.int .i64 0,.int .i64 op,.int .i64 oq,.int .i64 ow] 40)).alloc (.cells #[.int .i64 0,.int .i64 0,.int .i64 0,.int .i64 0,.int .i64 0,.int .i64 0] 67)).alloc (.cells #[.int .i64 xid,.int .i64 tx,.int .i64 xh,.int .i64 xg,.int .i64 xs,.int .i64 xp,.int .i64 xq,.int .i64 xw] 40)).heap[w.heap.size+1]? = some (.cells #[.int .i64 0,.int .i64 0,.int .i64 0,.int .i64 0,.int .i64 0,.int .i64 0] 67):=three_at1 w _ _ _
    have h2:(((w.alloc (.cells #[.int .i64 oid,.int .i64 t,.int .i64 h,.int .i64 g,.int .i64 0,.int .i64 op,.int .i64 oq,.int .i64 ow] 40)).alloc (.cells #[.int .i64 0,.int .i64 0,.int .i64 0,.int .i64 0,.int .i64 0,.int .i64 0] 67)).alloc (.cells #[.int .i64 xid,.int .i64 tx,.int .i64 xh,.int .i64 xg,.int .i64 xs,.int .i64 xp,.int .i64 xq,.int .i64 xw] 40)).heap[w.heap.size+2]? = some (.cells #[.int .i64 xid,.int .i64 tx,.int .i64 xh,.int .i64 xg,.int .i64 xs,.int .i64 xp,.int .i64 xq,.int .i64 xw] 40):=three_at2 w _ _ _
    refine ⟨R.later k0,HLT.out,fun j u hu=>?_,fun j u hu=>?_,fun j hj=>⟨?_,frozen_of_row _ _ j _ _ h1⟩,k0.none⟩
    · rw [cell_of_row _ _ j _ _ _ h0];simpa [Od.cells] using hu
    · rw [cell_of_row _ _ j _ _ _ h2];simpa [Od.cells] using hu
    · rw [cell_of_row _ _ j _ _ _ h1]
      rcases j with _ | _ | _ | _ | _ | _ | j
      all_goals first | rfl | omega)
  have HF:Hid (∀ W,RRep W L r→Calls Tryz.prog 105 #[.pointer (some ⟨L.c,0,none⟩),.int .i64 h,.int .i64 a] W fun e w'=>e = .returned (.int .i64 f)∧w'=W):=hide (fun W RW=>by rw [← hf];exact rfee_any W L r K RW ok h a hh a0 a1)
  have aw:wrap64 (xp * n)=a:=by rw [ha];exact IntWalk.wrap64_in a (by omega)
  have HN:=hide hn
  have HOK:=hide ok
  have HX:=hide hx
  have HVV:=hide hv
  have hK0:=ok.K0
  clear R ok hcc ek hf fm br hn ha hx hv
  go_enter Tryz.func51,Tryz.ntmps51
  go_wp2_with fail
  rw [HN.out,aw]
  have S0:=HV0.out
  clear HV0 q0 q1 q2 q3 q4 q5 q6 q7 c5
  revert S0
  generalize (((w.alloc (.cells #[.int .i64 oid,.int .i64 t,.int .i64 h,.int .i64 g,.int .i64 0,.int .i64 op,.int .i64 oq,.int .i64 ow] 40)).alloc (.cells #[.int .i64 0,.int .i64 0,.int .i64 0,.int .i64 0,.int .i64 0,.int .i64 0] 67)).alloc (.cells #[.int .i64 xid,.int .i64 tx,.int .i64 xh,.int .i64 xg,.int .i64 xs,.int .i64 xp,.int .i64 xq,.int .i64 xw] 40))=W0
  intro S0
  generalize hB:w.heap.size=B at *
  have HB:=hide hB
  clear hB
  refine (HF.out _ S0.R).mono ?_
  rintro e W0 ⟨rfl,rfl⟩
  clear HF
  have ok0:=HOK.out
  have o1:=S0.oc 1 _ rfl
  have o4:=S0.oc 4 _ rfl
  have x1:=S0.xc 1 _ rfl
  simp only [] at o1 o4 x1
  have c3:=S0.R.c.cM.cell
  obtain ⟨cm,cf⟩:=S0.R.mo t ht
  have mb:=ok0.mo t ht
  have vw:IntKind.i64.wrap (r.mo t - a)=r.mo t - a:=by rw [IntKind.wrap_i64];omega
  have hbT:(t:Int)<(r.T:Int):=by omega
  go_upto_region 10 with fail
  go_cut [] (fun wx=>RT w B L (⟨oid,(t:Int),(h:Int),(g:Int),0,op,oq,ow⟩ : Od) (⟨xid,(tx:Int),xh,xg,xs,xp,xq,xw⟩ : Od) wx (r.setMo t (r.mo t - a)))
  · go_region
    all_goals go_step
    all_goals go_step
    all_goals go_meet
    exact S0.mo t ht _
  obtain ⟨r1,hr1⟩ : ∃ rr:Rm,rr=r.setMo t (r.mo t - a):=⟨_,rfl⟩
  have ok1:r1.Ok (K+1):=by rw [hr1];exact ok0.setMo (by omega) _ _ (by omega)
  have d1:r1.T=r.T∧r1.G=r.G∧r1.H=r.H∧r1.wt=r.wt:=by rw [hr1];exact ⟨rfl,rfl,rfl,rfl⟩
  rw [← hr1] at hcut
  have HR1:=hide hr1
  clear o1 o4 x1 c3 cm cf vw mb hbT hr1 S0 ok0
  have S1:=hcut
  clear hcut
  obtain ⟨W1,hwc⟩ : ∃ V,V=wc:=⟨_,rfl⟩
  subst hwc
  have c3:=S1.R.c.cM.cell
  rw [d1.1] at c3
  have h1:tx<r1.T:=by rw [d1.1];exact htx
  obtain ⟨cm,cf⟩:=S1.R.mo tx h1
  have mb:=ok1.mo tx h1
  have vw:IntKind.i64.wrap (r1.mo tx+a)=r1.mo tx+a:=by rw [IntKind.wrap_i64];omega
  have hbT:(tx:Int)<(r.T:Int):=by omega
  go_upto_region 11 with fail
  go_cut [] (fun wx=>RT w B L (⟨oid,(t:Int),(h:Int),(g:Int),0,op,oq,ow⟩ : Od) (⟨xid,(tx:Int),xh,xg,xs,xp,xq,xw⟩ : Od) wx (r1.setMo tx (r1.mo tx+a)))
  · go_region
    all_goals go_step
    all_goals go_step
    all_goals go_meet
    exact S1.mo tx h1 _
  obtain ⟨r2,hr2⟩ : ∃ rr:Rm,rr=r1.setMo tx (r1.mo tx+a):=⟨_,rfl⟩
  have ok2:r2.Ok (K+1+1):=by rw [hr2];exact ok1.setMo (by omega) _ _ (by omega)
  have d2:r2.T=r.T∧r2.G=r.G∧r2.H=r.H∧r2.wt=r.wt:=by rw [hr2];exact d1
  rw [← hr2] at hcut
  have HR2:=hide hr2
  clear c3 cm cf vw mb hbT hr2 h1 S1 ok1 d1
  have S2:=hcut
  clear hcut
  obtain ⟨W2,hwc⟩ : ∃ V,V=wc:=⟨_,rfl⟩
  subst hwc
  have o1:=S2.oc 1 _ rfl
  simp only [] at o1
  have c3:=S2.R.c.cM.cell
  rw [d2.1] at c3
  have h1:t<r2.T:=by rw [d2.1];exact ht
  obtain ⟨cm,cf⟩:=S2.R.mo t h1
  have mb:=ok2.mo t h1
  have vw:IntKind.i64.wrap (r2.mo t - f)=r2.mo t - f:=by rw [IntKind.wrap_i64];omega
  have hbT:(t:Int)<(r.T:Int):=by omega
  go_upto_region 12 with fail
  go_cut [] (fun wx=>RT w B L (⟨oid,(t:Int),(h:Int),(g:Int),0,op,oq,ow⟩ : Od) (⟨xid,(tx:Int),xh,xg,xs,xp,xq,xw⟩ : Od) wx (r2.setMo t (r2.mo t - f)))
  · go_region
    all_goals go_step
    all_goals go_step
    all_goals go_meet
    exact S2.mo t h1 _
  obtain ⟨r3,hr3⟩ : ∃ rr:Rm,rr=r2.setMo t (r2.mo t - f):=⟨_,rfl⟩
  have ok3:r3.Ok (K+1+1+1):=by rw [hr3];exact ok2.setMo (by omega) _ _ (by omega)
  have d3:r3.T=r.T∧r3.G=r.G∧r3.H=r.H∧r3.wt=r.wt:=by rw [hr3];exact d2
  rw [← hr3] at hcut
  have HR3:=hide hr3
  clear o1 c3 cm cf vw mb hbT hr3 h1 S2 ok2 d2
  have S3:=hcut
  clear hcut
  obtain ⟨W3,hwc⟩ : ∃ V,V=wc:=⟨_,rfl⟩
  subst hwc
  have c11:=S3.R.c.cF.cell
  have f11:=S3.R.c.cF.free
  have hb:=ok3.ho
  have vw:IntKind.i64.wrap (r3.ho+f)=r3.ho+f:=by rw [IntKind.wrap_i64];omega
  obtain ⟨r4,hr4,ok4,S4,d4⟩ : ∃ r4:Rm,r4={ r3 with ho:=r3.ho+f }∧r4.Ok (K+1+1+1+1)∧RT w B L (⟨oid,(t:Int),(h:Int),(g:Int),0,op,oq,ow⟩ : Od) (⟨xid,(tx:Int),xh,xg,xs,xp,xq,xw⟩ : Od) (W3.setCell ⟨L.c,11,none⟩ (.int .i64 (r3.ho+f))) r4∧(r4.T=r.T∧r4.G=r.G∧r4.H=r.H∧r4.wt=r.wt):=⟨_,rfl,ok3.setHo (by omega) _ (by omega),S3.ho _,d3⟩
  have HR4:=hide hr4
  have HS4:=hide S4
  clear S4 S3 hr4 hb ok3 d3
  go_upto_region 13 with fail
  go_cut [] (fun wx=>RT w B L (⟨oid,(t:Int),(h:Int),(g:Int),0,op,oq,ow⟩ : Od) (⟨xid,(tx:Int),xh,xg,xs,xp,xq,xw⟩ : Od) wx r4)
  · go_wp2
    go_meet
    exact HS4.out
  have S4:=hcut
  clear hcut HS4 c11 f11 vw
  have HRF:Hid (rpaid r t tx t h g n a f=rlots r4 t tx h g n):=hide (by
    have e1:=HR1.out
    have e2:=HR2.out
    have e3:=HR3.out
    have e4:=HR4.out
    clear S4 ok4 d4
    subst e1 e2 e3 e4
    rfl)
  rename_i hKK
  refine hKK _ _ ?_
  exact trades_mid w B HB.out L r K HOK.out hK oid 0 op oq ow xid xh xg xs xp xq xw t h g tx k hh hg hk HX.out n a f n0 n1 nq xq1 a0 a1 lb cap HVV.out t tx ht htx r4 ok4 d4 _ HRF.out wc S4
end

section
open Go.RowKit Go.Sort

def rmayE (r:Rm) (o:Od):Int :=
  if ¬ okI r.T o.t then 2 else if ¬ okI r.H o.h then 3 else if ¬ okI r.G o.g then 4 else if o.fit=false then 5
  else if 60≤r.wt.length then 8
  else if o.s=0∧r.mo o.t.toNat - r.held o.t<o.p * o.q+r.fee o.h.toNat (o.p * o.q) then 6
  else if o.s=1∧r.pc o.t.toNat o.h.toNat o.g.toNat - r.kept o.t o.h o.g<o.q then 7
  else if o.w=3∧0<rmetL o r.wt then 10
  else if o.w=2∧rmetL o r.wt<o.q then 11
  else 0

theorem fit_iff (o:Od):o.fit=true ↔ (0≤o.s∧o.s≤1)∧(0≤o.w∧o.w≤3)∧(1≤o.p∧o.p≤100000)∧(1≤o.q∧o.q≤10000):=by
  simp only [Od.fit,inR,Bool.and_eq_true,decide_eq_true_eq]
  constructor
  · rintro ⟨⟨⟨a,b⟩,c⟩,d⟩;exact ⟨a,b,c,d⟩
  · rintro ⟨a,b,c,d⟩;exact ⟨⟨⟨a,b⟩,c⟩,d⟩

theorem may_box (w:World) (L:RL) (r:Rm) (R:RRep w L r) (o:Od):∃ W0,W0=w.alloc (.cells #[.int .i64 o.id,.int .i64 o.t,.int .i64 o.h,.int .i64 o.g,.int .i64 o.s,.int .i64 o.p,.int .i64 o.q,.int .i64 o.w] 40)∧Kep non w W0∧(∀ j u,o.cells[j]? = some u→W0.cell? ⟨w.heap.size,j,none⟩=some u)∧RRep W0 L r:=by
  obtain ⟨k,h⟩:=box_cells w o 40
  exact ⟨_,rfl,k,h,R.later k⟩

set_option maxRecDepth 100000 in
set_option maxHeartbeats 2000000 in
theorem rmay_trader (w:World) (L:RL) (r:Rm) (R:RRep w L r) (o:Od) (h1:¬ okI r.T o.t) :
    Calls Tryz.prog 48 #[.pointer (some ⟨L.c,0,none⟩),.agg #[.int .i64 o.id,.int .i64 o.t,.int .i64 o.h,.int .i64 o.g,.int .i64 o.s,.int .i64 o.p,.int .i64 o.q,.int .i64 o.w]] w fun e w'=>e = .returned (.int .i64 (rmayE r o))∧Kep non w w':=by
  have HE:Hid (rmayE r o=2):=hide (by unfold rmayE;rw [if_pos h1])
  have i1:=hide (inB_not h1)
  obtain ⟨W0,hW0,K0,o8,R0⟩:=may_box w L r R o
  obtain ⟨y0,y1,y2,y3,y4,y5,y6,y7⟩:=box_eight o8
  have c0:=R0.c.cT.cell
  have c1:=R0.c.cG.cell
  have c2:=R0.c.cR.cell
  have HK0:=hide K0
  have HW0:=hide hW0
  clear R hW0 K0 o8 R0
  go_enter Tryz.func48,Tryz.ntmps48
  go_upto_region 1 with fail
  rw [← HW0.out]
  generalize hob:w.heap.size=ob at *
  have HOB:=hide hob
  clear hob
  go_wp2_with (first | (go_at_call 66;refine (trader_b _ _ _ _ c0).mono ?_;rw [i1.out];rintro e w' ⟨rfl,rfl⟩) | (go_at_call 91;refine (hall_b _ _ _ _ _ _ c2).mono ?_;rintro e w' ⟨rfl,rfl⟩) | (go_at_call 104;refine (good_b _ _ _ _ c1).mono ?_;rintro e w' ⟨rfl,rfl⟩))
  all_goals go_ret
  all_goals exact ⟨ret_int HE.out.symm,HK0.out⟩

set_option maxRecDepth 100000 in
set_option maxHeartbeats 2000000 in
theorem rmay_hall (w:World) (L:RL) (r:Rm) (R:RRep w L r) (o:Od) (h1:okI r.T o.t) (h2:¬ okI r.H o.h) :
    Calls Tryz.prog 48 #[.pointer (some ⟨L.c,0,none⟩),.agg #[.int .i64 o.id,.int .i64 o.t,.int .i64 o.h,.int .i64 o.g,.int .i64 o.s,.int .i64 o.p,.int .i64 o.q,.int .i64 o.w]] w fun e w'=>e = .returned (.int .i64 (rmayE r o))∧Kep non w w':=by
  have HE:Hid (rmayE r o=3):=hide (by unfold rmayE;rw [if_neg (fun f=>f h1),if_pos h2])
  have i1:=hide (inB_okI h1)
  have i2:=hide (inB_not h2)
  obtain ⟨W0,hW0,K0,o8,R0⟩:=may_box w L r R o
  obtain ⟨y0,y1,y2,y3,y4,y5,y6,y7⟩:=box_eight o8
  have c0:=R0.c.cT.cell
  have c1:=R0.c.cG.cell
  have c2:=R0.c.cR.cell
  have HK0:=hide K0
  have HW0:=hide hW0
  clear R hW0 K0 o8 R0
  go_enter Tryz.func48,Tryz.ntmps48
  go_upto_region 1 with fail
  rw [← HW0.out]
  generalize hob:w.heap.size=ob at *
  have HOB:=hide hob
  clear hob
  go_wp2_with (first | (go_at_call 66;refine (trader_b _ _ _ _ c0).mono ?_;rw [i1.out];rintro e w' ⟨rfl,rfl⟩) | (go_at_call 91;refine (hall_b _ _ _ _ _ _ c2).mono ?_;rw [i2.out];rintro e w' ⟨rfl,rfl⟩) | (go_at_call 104;refine (good_b _ _ _ _ c1).mono ?_;rintro e w' ⟨rfl,rfl⟩))
  all_goals go_ret
  all_goals exact ⟨ret_int HE.out.symm,HK0.out⟩

set_option maxRecDepth 100000 in
set_option maxHeartbeats 2000000 in
theorem rmay_good (w:World) (L:RL) (r:Rm) (R:RRep w L r) (o:Od) (h1:okI r.T o.t) (h2:okI r.H o.h) (h3:¬ okI r.G o.g) :
    Calls Tryz.prog 48 #[.pointer (some ⟨L.c,0,none⟩),.agg #[.int .i64 o.id,.int .i64 o.t,.int .i64 o.h,.int .i64 o.g,.int .i64 o.s,.int .i64 o.p,.int .i64 o.q,.int .i64 o.w]] w fun e w'=>e = .returned (.int .i64 (rmayE r o))∧Kep non w w':=by
  have HE:Hid (rmayE r o=4):=hide (by unfold rmayE;rw [if_neg (fun f=>f h1),if_neg (fun f=>f h2),if_pos h3])
  have i1:=hide (inB_okI h1)
  have i2:=hide (inB_okI h2)
  have i3:=hide (inB_not h3)
  obtain ⟨W0,hW0,K0,o8,R0⟩:=may_box w L r R o
  obtain ⟨y0,y1,y2,y3,y4,y5,y6,y7⟩:=box_eight o8
  have c0:=R0.c.cT.cell
  have c1:=R0.c.cG.cell
  have c2:=R0.c.cR.cell
  have HK0:=hide K0
  have HW0:=hide hW0
  clear R hW0 K0 o8 R0
  go_enter Tryz.func48,Tryz.ntmps48
  go_upto_region 1 with fail
  rw [← HW0.out]
  generalize hob:w.heap.size=ob at *
  have HOB:=hide hob
  clear hob
  go_wp2_with (first | (go_at_call 66;refine (trader_b _ _ _ _ c0).mono ?_;rw [i1.out];rintro e w' ⟨rfl,rfl⟩) | (go_at_call 91;refine (hall_b _ _ _ _ _ _ c2).mono ?_;rw [i2.out];rintro e w' ⟨rfl,rfl⟩) | (go_at_call 104;refine (good_b _ _ _ _ c1).mono ?_;rw [i3.out];rintro e w' ⟨rfl,rfl⟩))
  all_goals go_ret
  all_goals exact ⟨ret_int HE.out.symm,HK0.out⟩

set_option maxRecDepth 100000 in
set_option maxHeartbeats 2000000 in
theorem rmay_fit (w:World) (L:RL) (r:Rm) (R:RRep w L r) (o:Od) (h1:okI r.T o.t) (h2:okI r.H o.h) (h3:okI r.G o.g) (h4:o.fit=false) :
    Calls Tryz.prog 48 #[.pointer (some ⟨L.c,0,none⟩),.agg #[.int .i64 o.id,.int .i64 o.t,.int .i64 o.h,.int .i64 o.g,.int .i64 o.s,.int .i64 o.p,.int .i64 o.q,.int .i64 o.w]] w fun e w'=>e = .returned (.int .i64 (rmayE r o))∧Kep non w w':=by
  have HE:Hid (rmayE r o=5):=hide (by unfold rmayE;rw [if_neg (fun f=>f h1),if_neg (fun f=>f h2),if_neg (fun f=>f h3),if_pos h4])
  have i1:=hide (inB_okI h1)
  have i2:=hide (inB_okI h2)
  have i3:=hide (inB_okI h3)
  obtain ⟨W0,hW0,K0,o8,R0⟩:=may_box w L r R o
  obtain ⟨y0,y1,y2,y3,y4,y5,y6,y7⟩:=box_eight o8
  have c0:=R0.c.cT.cell
  have c1:=R0.c.cG.cell
  have c2:=R0.c.cR.cell
  have HK0:=hide K0
  have HW0:=hide hW0
  have h5:¬ ((0≤o.s∧o.s≤1)∧(0≤o.w∧o.w≤3)∧(1≤o.p∧o.p≤100000)∧(1≤o.q∧o.q≤10000)):=fun q=>by rw [(fit_iff o).2 q] at h4;exact absurd h4 (by simp)
  have h6:(o.s<0)∨(¬ o.s<0∧1<o.s)∨(¬ o.s<0∧¬ 1<o.s∧o.w<0)∨(¬ o.s<0∧¬ 1<o.s∧¬ o.w<0∧3<o.w)∨(¬ o.s<0∧¬ 1<o.s∧¬ o.w<0∧¬ 3<o.w∧o.p<1)∨(¬ o.s<0∧¬ 1<o.s∧¬ o.w<0∧¬ 3<o.w∧¬ o.p<1∧100000<o.p)∨(¬ o.s<0∧¬ 1<o.s∧¬ o.w<0∧¬ 3<o.w∧¬ o.p<1∧¬ 100000<o.p∧o.q<1)∨(¬ o.s<0∧¬ 1<o.s∧¬ o.w<0∧¬ 3<o.w∧¬ o.p<1∧¬ 100000<o.p∧¬ o.q<1∧10000<o.q):=by omega
  clear R hW0 K0 o8 R0 h1 h2 h3 h4 h5
  rcases h6 with p | ⟨n0,p⟩ | ⟨n0,n1,p⟩ | ⟨n0,n1,n2,p⟩ | ⟨n0,n1,n2,n3,p⟩ | ⟨n0,n1,n2,n3,n4,p⟩ | ⟨n0,n1,n2,n3,n4,n5,p⟩ | ⟨n0,n1,n2,n3,n4,n5,n6,p⟩
  all_goals
    go_enter Tryz.func48,Tryz.ntmps48
    go_upto_region 1 with fail
    rw [← HW0.out]
    generalize hob:w.heap.size=ob at *
    have HOB:=hide hob
    clear hob
    go_wp2_with (first | (go_at_call 66;refine (trader_b _ _ _ _ c0).mono ?_;rw [i1.out];rintro e w' ⟨rfl,rfl⟩) | (go_at_call 91;refine (hall_b _ _ _ _ _ _ c2).mono ?_;rw [i2.out];rintro e w' ⟨rfl,rfl⟩) | (go_at_call 104;refine (good_b _ _ _ _ c1).mono ?_;rw [i3.out];rintro e w' ⟨rfl,rfl⟩))
    go_ret
    exact ⟨ret_int HE.out.symm,HK0.out⟩

set_option maxRecDepth 100000 in
set_option maxHeartbeats 2000000 in
theorem rmay_full (w:World) (L:RL) (r:Rm) (R:RRep w L r) (o:Od) (h1:okI r.T o.t) (h2:okI r.H o.h) (h3:okI r.G o.g) (h4:o.fit=true) (h5:60≤r.wt.length) :
    Calls Tryz.prog 48 #[.pointer (some ⟨L.c,0,none⟩),.agg #[.int .i64 o.id,.int .i64 o.t,.int .i64 o.h,.int .i64 o.g,.int .i64 o.s,.int .i64 o.p,.int .i64 o.q,.int .i64 o.w]] w fun e w'=>e = .returned (.int .i64 (rmayE r o))∧Kep non w w':=by
  have HE:Hid (rmayE r o=8):=hide (by unfold rmayE;rw [if_neg (fun f=>f h1),if_neg (fun f=>f h2),if_neg (fun f=>f h3),if_neg (by rw [h4];simp),if_pos h5])
  have i1:=hide (inB_okI h1)
  have i2:=hide (inB_okI h2)
  have i3:=hide (inB_okI h3)
  obtain ⟨W0,hW0,K0,o8,R0⟩:=may_box w L r R o
  obtain ⟨y0,y1,y2,y3,y4,y5,y6,y7⟩:=box_eight o8
  have c0:=R0.c.cT.cell
  have c1:=R0.c.cG.cell
  have c2:=R0.c.cR.cell
  have HK0:=hide K0
  have HW0:=hide hW0
  obtain ⟨⟨s0,s1⟩,⟨w0,w1⟩,⟨p0,p1⟩,⟨q0,q1⟩⟩:=(fit_iff o).1 h4
  obtain ⟨la,lc,hlv⟩:=row_form R0.wt
  have c5:=R0.c.cW.cell
  rw [hlv] at c5
  clear R hW0 K0 o8 R0 h1 h2 h3 h4 hlv
  go_enter Tryz.func48,Tryz.ntmps48
  go_upto_region 1 with fail
  rw [← HW0.out]
  generalize hob:w.heap.size=ob at *
  have HOB:=hide hob
  clear hob
  go_wp2_with (first | (go_at_call 66;refine (trader_b _ _ _ _ c0).mono ?_;rw [i1.out];rintro e w' ⟨rfl,rfl⟩) | (go_at_call 91;refine (hall_b _ _ _ _ _ _ c2).mono ?_;rw [i2.out];rintro e w' ⟨rfl,rfl⟩) | (go_at_call 104;refine (good_b _ _ _ _ c1).mono ?_;rw [i3.out];rintro e w' ⟨rfl,rfl⟩))
  go_ret
  exact ⟨ret_int HE.out.symm,HK0.out⟩
end

section
open Go.RowKit Go.Sort

set_option maxRecDepth 100000 in
set_option maxHeartbeats 16000000 in
theorem rmay_rest (w:World) (L:RL) (r:Rm) (R:RRep w L r) (K:Int) (ok:r.Ok K) (o:Od) (h1:okI r.T o.t) (h2:okI r.H o.h) (h3:okI r.G o.g) (h4:o.fit=true) (h5:¬ 60≤r.wt.length) :
    Calls Tryz.prog 48 #[.pointer (some ⟨L.c,0,none⟩),.agg #[.int .i64 o.id,.int .i64 o.t,.int .i64 o.h,.int .i64 o.g,.int .i64 o.s,.int .i64 o.p,.int .i64 o.q,.int .i64 o.w]] w fun e w'=>e = .returned (.int .i64 (rmayE r o))∧Kep non w w':=by
  have HE:Hid (rmayE r o=if o.s=0∧r.mo o.t.toNat - r.held o.t<o.p * o.q+r.fee o.h.toNat (o.p * o.q) then 6
  else if o.s=1∧r.pc o.t.toNat o.h.toNat o.g.toNat - r.kept o.t o.h o.g<o.q then 7
  else if o.w=3∧0<rmetL o r.wt then 10
  else if o.w=2∧rmetL o r.wt<o.q then 11
  else 0):=hide (by unfold rmayE;rw [if_neg (fun f=>f h1),if_neg (fun f=>f h2),if_neg (fun f=>f h3),if_neg (by rw [h4];simp),if_neg h5])
  have i1:=hide (inB_okI h1)
  have i2:=hide (inB_okI h2)
  have i3:=hide (inB_okI h3)
  obtain ⟨W0,hW0,K0,o8,R0⟩:=may_box w L r R o
  obtain ⟨y0,y1,y2,y3,y4,y5,y6,y7⟩:=box_eight o8
  have c0:=R0.c.cT.cell
  have c1:=R0.c.cG.cell
  have c2:=R0.c.cR.cell
  have HK0:=hide K0
  have HW0:=hide hW0
  obtain ⟨⟨s0,s1⟩,⟨w0,w1⟩,⟨p0,p1⟩,⟨q0,q1⟩⟩:=(fit_iff o).1 h4
  obtain ⟨la,lc,hlv⟩:=row_form R0.wt
  have c5:=R0.c.cW.cell
  rw [hlv] at c5
  obtain ⟨t,ht⟩:=Int.eq_ofNat_of_zero_le h1.1
  obtain ⟨h,hh⟩:=Int.eq_ofNat_of_zero_le h2.1
  obtain ⟨g,hg⟩:=Int.eq_ofNat_of_zero_le h3.1
  have kt:t<r.T:=by have:=h1.2;omega
  have kh:h<r.H:=by have:=h2.2;omega
  have kg:g<r.G:=by have:=h3.2;omega
  have am:=mul_le' (a:=o.p) (b:=o.q) (A:=100000) (B:=10000) (by omega) p1 (by omega) q1
  obtain ⟨a0,a1⟩:=am
  have br:=ok.rt h kh
  have fm:=mul_le' (a:=o.p * o.q) (b:=r.rt h) (A:=1000000000) (B:=100) a0 (by omega) br.1 br.2
  have fb:0≤r.fee h (o.p * o.q)∧r.fee h (o.p * o.q)≤10000000:=by unfold Rm.fee;omega
  obtain ⟨f0,f1⟩:=fb
  have HA:=hide (fun W (RW:RRep W L r)=>rfee_any W L r K RW ok h (o.p * o.q) kh a0 (by omega))
  have HB:=hide (fun W (RW:RRep W L r)=>rfree_any W L r K RW ok t kt)
  have HC:=hide (fun W (RW:RRep W L r)=>rspare_any W L r K RW ok t h g kt kh kg)
  have HD:=hide (fun W (RW:RRep W L r)=>rmet_any W L r K RW ok o)
  have mb:=ok.mo t kt
  have hb:=ok.held_bd t
  have pb:=ok.pc t h g kt kh kg
  have kb:=ok.kept_bd t h g
  have nb:=ok.met_take o r.wt.length
  rw [List.take_length] at nb
  have kk0:=ok.K0
  have kk1:=ok.K1
  have aw:wrap64 (o.p * o.q)=o.p * o.q:=IntWalk.wrap64_in _ (by omega)
  rw [ht,hh,hg] at HE
  simp only [Int.toNat_natCast] at HE
  rw [ht] at y1 i1
  rw [hh] at y2 i2
  rw [hg] at y3 i3
  have HR0:=hide R0
  have HO8:=hide o8
  have HT:=hide ht
  have HH:=hide hh
  have HG:=hide hg
  clear ht hh hg
  clear R ok hW0 K0 o8 R0 h1 h2 h3 h4 hlv fm br
  go_enter Tryz.func48,Tryz.ntmps48
  go_upto_region 1 with fail
  rw [← HW0.out]
  generalize hob:w.heap.size=ob at *
  have HOB:=hide hob
  clear hob
  go_wp2_with (first | (go_at_call 66;refine (trader_b _ _ _ _ c0).mono ?_;rw [i1.out];rintro e w' ⟨rfl,rfl⟩) | (go_at_call 91;refine (hall_b _ _ _ _ _ _ c2).mono ?_;rw [i2.out];rintro e w' ⟨rfl,rfl⟩) | (go_at_call 104;refine (good_b _ _ _ _ c1).mono ?_;rw [i3.out];rintro e w' ⟨rfl,rfl⟩))
  refine (HA.out _ HR0.out).mono ?_
  rintro e w' ⟨rfl,rfl⟩
  go_wp2_with fail
  refine (HB.out _ HR0.out).mono ?_
  rintro e w1 ⟨rfl,hB1⟩
  have k1:Kep non w' w1:=Kep.of_below hB1
  clear hB1
  have z1:=k1.cell y1 (fun q=>q)
  have z2:=k1.cell y2 (fun q=>q)
  have z3:=k1.cell y3 (fun q=>q)
  go_wp2_with fail
  refine (HC.out _ (HR0.out.later k1)).mono ?_
  rintro e w2 ⟨rfl,hB2⟩
  have k2:Kep non w' w2:=k1.trans (Kep.of_below hB2)
  clear hB2 z1 z2 z3
  obtain ⟨z0,z1,z2,z3,z4,z5,z6,z7⟩:=box_eight (fun j u hu=>k2.cell (HO8.out j u hu) (fun q=>q))
  go_wp2_with fail
  refine (HD.out _ (HR0.out.later k2)).mono ?_
  rintro e w3 ⟨rfl,hK3⟩
  have k3:Kep non w' w3:=k2.trans hK3
  obtain ⟨x0,x1,x2,x3,x4,x5,x6,x7⟩:=box_eight (fun j u hu=>k3.cell (HO8.out j u hu) (fun q=>q))
  have HK3:=hide (HK0.out.trans k3)
  clear k3 hK3 k2 k1 z0 z1 z2 z3 z4 z5 z6 z7 y0 y1 y2 y3 y4 y5 y6 y7 c0 c1 c2 c5 HA HB HC HD HR0 HO8
  by_cases gs:o.s=0
  · have fs0:(o.s == 0)=true:=by simpa using gs
    have fs1:(o.s == 1)=false:=beq_eq_false_iff_ne.2 (by omega)
    have gs1:¬ o.s=1:=by omega
    by_cases gm:r.mo t - r.held t<o.p * o.q+r.fee h (o.p * o.q)
    · have hE:=HE.out
      rw [if_pos ⟨gs,gm⟩] at hE
      have HE':=hide hE
      clear HE hE gs gs1
      go_wp2
      go_ret
      exact ⟨ret_int HE'.out.symm,HK3.out⟩
    · by_cases gw3:o.w=3
      · have fw3:(o.w == 3)=true:=by simpa using gw3
        have fw2:(o.w == 2)=false:=beq_eq_false_iff_ne.2 (by omega)
        have gw2:¬ o.w=2:=by omega
        by_cases gn:0<rmetL o r.wt
        · have hE:=HE.out
          rw [if_neg (fun c=>gm c.2),if_neg (fun c=>gs1 c.1),if_pos ⟨gw3,gn⟩] at hE
          have HE':=hide hE
          clear HE hE gs gs1 gw3 gw2
          go_wp2
          go_ret
          exact ⟨ret_int HE'.out.symm,HK3.out⟩
        · have hE:=HE.out
          rw [if_neg (fun c=>gm c.2),if_neg (fun c=>gs1 c.1),if_neg (fun c=>gn c.2),if_neg (fun c=>gw2 c.1)] at hE
          have HE':=hide hE
          clear HE hE gs gs1 gw3 gw2
          go_wp2
          go_ret
          exact ⟨ret_int HE'.out.symm,HK3.out⟩
      · have fw3:(o.w == 3)=false:=by simpa using gw3
        by_cases gw2:o.w=2
        · have fw2:(o.w == 2)=true:=by simpa using gw2
          by_cases gn:rmetL o r.wt<o.q
          · have hE:=HE.out
            rw [if_neg (fun c=>gm c.2),if_neg (fun c=>gs1 c.1),if_neg (fun c=>gw3 c.1),if_pos ⟨gw2,gn⟩] at hE
            have HE':=hide hE
            clear HE hE gs gs1 gw3 gw2
            go_wp2
            go_ret
            exact ⟨ret_int HE'.out.symm,HK3.out⟩
          · have hE:=HE.out
            rw [if_neg (fun c=>gm c.2),if_neg (fun c=>gs1 c.1),if_neg (fun c=>gw3 c.1),if_neg (fun c=>gn c.2)] at hE
            have HE':=hide hE
            clear HE hE gs gs1 gw3 gw2
            go_wp2
            go_ret
            exact ⟨ret_int HE'.out.symm,HK3.out⟩
        · have fw2:(o.w == 2)=false:=by simpa using gw2
          have hE:=HE.out
          rw [if_neg (fun c=>gm c.2),if_neg (fun c=>gs1 c.1),if_neg (fun c=>gw3 c.1),if_neg (fun c=>gw2 c.1)] at hE
          have HE':=hide hE
          clear HE hE gs gs1 gw3 gw2
          go_wp2
          go_ret
          exact ⟨ret_int HE'.out.symm,HK3.out⟩
  · have fs0:(o.s == 0)=false:=by simpa using gs
    have gs1:o.s=1:=by omega
    have fs1:(o.s == 1)=true:=by simpa using gs1
    by_cases gm:r.pc t h g - r.kept t h g<o.q
    · have hE:=HE.out
      rw [if_neg (fun c=>gs c.1),if_pos ⟨gs1,gm⟩] at hE
      have HE':=hide hE
      clear HE hE gs gs1
      go_wp2
      go_ret
      exact ⟨ret_int HE'.out.symm,HK3.out⟩
    · by_cases gw3:o.w=3
      · have fw3:(o.w == 3)=true:=by simpa using gw3
        have fw2:(o.w == 2)=false:=beq_eq_false_iff_ne.2 (by omega)
        have gw2:¬ o.w=2:=by omega
        by_cases gn:0<rmetL o r.wt
        · have hE:=HE.out
          rw [if_neg (fun c=>gs c.1),if_neg (fun c=>gm c.2),if_pos ⟨gw3,gn⟩] at hE
          have HE':=hide hE
          clear HE hE gs gs1 gw3 gw2
          go_wp2
          go_ret
          exact ⟨ret_int HE'.out.symm,HK3.out⟩
        · have hE:=HE.out
          rw [if_neg (fun c=>gs c.1),if_neg (fun c=>gm c.2),if_neg (fun c=>gn c.2),if_neg (fun c=>gw2 c.1)] at hE
          have HE':=hide hE
          clear HE hE gs gs1 gw3 gw2
          go_wp2
          go_ret
          exact ⟨ret_int HE'.out.symm,HK3.out⟩
      · have fw3:(o.w == 3)=false:=by simpa using gw3
        by_cases gw2:o.w=2
        · have fw2:(o.w == 2)=true:=by simpa using gw2
          by_cases gn:rmetL o r.wt<o.q
          · have hE:=HE.out
            rw [if_neg (fun c=>gs c.1),if_neg (fun c=>gm c.2),if_neg (fun c=>gw3 c.1),if_pos ⟨gw2,gn⟩] at hE
            have HE':=hide hE
            clear HE hE gs gs1 gw3 gw2
            go_wp2
            go_ret
            exact ⟨ret_int HE'.out.symm,HK3.out⟩
          · have hE:=HE.out
            rw [if_neg (fun c=>gs c.1),if_neg (fun c=>gm c.2),if_neg (fun c=>gw3 c.1),if_neg (fun c=>gn c.2)] at hE
            have HE':=hide hE
            clear HE hE gs gs1 gw3 gw2
            go_wp2
            go_ret
            exact ⟨ret_int HE'.out.symm,HK3.out⟩
        · have fw2:(o.w == 2)=false:=by simpa using gw2
          have hE:=HE.out
          rw [if_neg (fun c=>gs c.1),if_neg (fun c=>gm c.2),if_neg (fun c=>gw3 c.1),if_neg (fun c=>gw2 c.1)] at hE
          have HE':=hide hE
          clear HE hE gs gs1 gw3 gw2
          go_wp2
          go_ret
          exact ⟨ret_int HE'.out.symm,HK3.out⟩

theorem rmay_any (w:World) (L:RL) (r:Rm) (K:Int) (R:RRep w L r) (ok:r.Ok K) (o:Od) :
    Calls Tryz.prog 48 #[.pointer (some ⟨L.c,0,none⟩),.agg #[.int .i64 o.id,.int .i64 o.t,.int .i64 o.h,.int .i64 o.g,.int .i64 o.s,.int .i64 o.p,.int .i64 o.q,.int .i64 o.w]] w fun e w'=>e = .returned (.int .i64 (rmayE r o))∧Kep non w w':=by
  by_cases h1:okI r.T o.t
  · by_cases h2:okI r.H o.h
    · by_cases h3:okI r.G o.g
      · cases h4:o.fit
        · exact rmay_fit w L r R o h1 h2 h3 h4
        · by_cases h5:60≤r.wt.length
          · exact rmay_full w L r R o h1 h2 h3 h4 h5
          · exact rmay_rest w L r R K ok o h1 h2 h3 h4 h5
      · exact rmay_good w L r R o h1 h2 h3
    · exact rmay_hall w L r R o h1 h2
  · exact rmay_trader w L r R o h1
end

section
open Go.RowKit Go.Sort

def rbest (r:Rm) (o:Od):Int:=rbestTo o r.wt r.wt.length
def rtold (r:Rm) (o x:Od):Td:=⟨o.id,x.id,x.t,x.p,min o.q x.q,r.fee o.h.toNat (x.p * min o.q x.q)⟩

def rround (r:Rm) (o:Od):Option (Rm × Od × List Td) :=
  if o.q≤0 then none else if rbest r o<0 then none
  else if (r.wt.getD (rbest r o).toNat noOd).t=o.t then some (rdrop r (rbest r o).toNat,o,[])
  else some (rtrade r o (r.wt.getD (rbest r o).toNat noOd) (rbest r o).toNat,{ o with q:=o.q - min o.q (r.wt.getD (rbest r o).toNat noOd).q },[rtold r o (r.wt.getD (rbest r o).toNat noOd)])
def rrun:Nat→Rm→Od→Rm × Od × List Td
  | 0,r,o=>(r,o,[])
  | n+1,r,o =>
    match rround r o with
    | none=>(r,o,[])
    | some (r',o',ts)=>((rrun n r' o').1,(rrun n r' o').2.1,ts ++ (rrun n r' o').2.2)

def rplaced (r:Rm) (o:Od):Rm × Od × List Td:=rrun (r.wt.length+1) { r with nx:=r.nx+1 } { o with id:=r.nx }
def rwaits (r:Rm) (o:Od):Rm:=if 0<o.q∧(o.w=0∨o.w=3) then { r with wt:=r.wt ++ [o] } else r
def rplaceM (r:Rm) (o:Od):Rm:=if rmayE r o=0 then rwaits (rplaced r o).1 (rplaced r o).2.1 else r
def rplaceI (r:Rm) (o:Od):Int:=if rmayE r o=0 then r.nx else 0
def rplaceT (r:Rm) (o:Od):List Td:=if rmayE r o=0 then (rplaced r o).2.2 else []

def rleft (r:Rm) (o:Od):Nat:=r.wt.length+if 0<o.q then 1 else 0

structure Od.Come (r:Rm) (o:Od):Prop where
  t:0≤o.t∧o.t<r.T
  h:0≤o.h∧o.h<r.H
  g:0≤o.g∧o.g<r.G
  s:0≤o.s∧o.s≤1
  p:1≤o.p∧o.p≤100000
  q:o.q≤10000

theorem rbest_lt (r:Rm) (o:Od):-1≤rbest r o∧rbest r o<(r.wt.length:Int):=rbestTo_lt o r.wt r.wt.length

theorem rtrade_dims (r:Rm) (o x:Od) (k:Nat):(rtrade r o x k).T=r.T∧(rtrade r o x k).G=r.G∧(rtrade r o x k).H=r.H:=by
  unfold rtrade
  split <;> simp only [rdrop,rtraded,rless,rnote,rpaid,Rm.setMo,Rm.setPc,and_self]

set_option maxHeartbeats 2000000 in
theorem rtraded_ok {r:Rm} {K:Int} (ok:r.Ok K) (hK:K+10≤1000) {o x:Od} {k:Nat} (C:o.Come r) (oq:1≤o.q) (hx:r.wt[k]? = some x):(rtrade r o x k).Ok (K+10):=by
  have hm:=ok.wt x (List.mem_of_getElem? hx)
  obtain ⟨xt,_,_,_,xp,xq⟩:=hm
  have kk0:=ok.K0
  have hq1:=C.q
  have n0:1≤min o.q x.q:=by omega
  have n1:min o.q x.q≤10000:=by omega
  have nq:min o.q x.q≤x.q:=by omega
  have kt:o.t.toNat<r.T:=by have:=C.t;omega
  have kx:x.t.toNat<r.T:=by omega
  have kh:o.h.toNat<r.H:=by have:=C.h;omega
  have kg:o.g.toNat<r.G:=by have:=C.g;omega
  have kb:rbuys o x<r.T:=by unfold rbuys;split <;> assumption
  have ks:rsells o x<r.T:=by unfold rsells;split <;> assumption
  have am:=mul_le' (a:=x.p) (b:=min o.q x.q) (A:=100000) (B:=10000) (by omega) xp.2 (by omega) n1
  have br:=ok.rt _ kh
  have fm:=mul_le' (a:=x.p * min o.q x.q) (b:=r.rt o.h.toNat) (A:=1000000000) (B:=100) am.1 (by omega) br.1 br.2
  have fb:0≤r.fee o.h.toNat (x.p * min o.q x.q)∧r.fee o.h.toNat (x.p * min o.q x.q)≤10000000:=by unfold Rm.fee;omega
  unfold rtrade rtraded
  generalize r.fee o.h.toNat (x.p * min o.q x.q)=f at *
  generalize x.p * min o.q x.q=a at *
  generalize hN:min o.q x.q=n at *
  generalize rbuys o x=b at *
  generalize rsells o x=s at *
  have o1:=ok.setMo (by omega) b (r.mo b - a) (by have:=ok.mo b kb;omega)
  generalize h1:r.setMo b (r.mo b - a)=r1 at *
  have d1:r1.T=r.T∧r1.G=r.G∧r1.H=r.H∧r1.wt=r.wt:=by rw [← h1];exact ⟨rfl,rfl,rfl,rfl⟩
  have o2:=o1.setMo (by omega) s (r1.mo s+a) (by have:=o1.mo s (by rw [d1.1];exact ks);omega)
  generalize h2:r1.setMo s (r1.mo s+a)=r2 at *
  have d2:r2.T=r.T∧r2.G=r.G∧r2.H=r.H∧r2.wt=r.wt:=by rw [← h2];exact d1
  have o3:=o2.setMo (by omega) o.t.toNat (r2.mo o.t.toNat - f) (by have:=o2.mo o.t.toNat (by rw [d2.1];exact kt);omega)
  generalize h3:r2.setMo o.t.toNat (r2.mo o.t.toNat - f)=r3 at *
  have d3:r3.T=r.T∧r3.G=r.G∧r3.H=r.H∧r3.wt=r.wt:=by rw [← h3];exact d2
  have o4:=o3.setHo (by omega) (r3.ho+f) (by have:=o3.ho;omega)
  generalize h4:({ r3 with ho:=r3.ho+f }:Rm)=r4 at *
  have d4:r4.T=r.T∧r4.G=r.G∧r4.H=r.H∧r4.wt=r.wt:=by rw [← h4];exact d3
  have o5:=o4.setPc (by omega) s o.h.toNat o.g.toNat (r4.pc s o.h.toNat o.g.toNat - n) (by have:=o4.pc s o.h.toNat o.g.toNat (by rw [d4.1];exact ks) (by rw [d4.2.2.1];exact kh) (by rw [d4.2.1];exact kg);omega)
  generalize h5:r4.setPc s o.h.toNat o.g.toNat (r4.pc s o.h.toNat o.g.toNat - n)=r5 at *
  have d5:r5.T=r.T∧r5.G=r.G∧r5.H=r.H∧r5.wt=r.wt:=by rw [← h5];exact d4
  have o6:=o5.setPc (by omega) b o.h.toNat o.g.toNat (r5.pc b o.h.toNat o.g.toNat+n) (by have:=o5.pc b o.h.toNat o.g.toNat (by rw [d5.1];exact kb) (by rw [d5.2.2.1];exact kh) (by rw [d5.2.1];exact kg);omega)
  have e6:rpaid r b s o.t.toNat o.h.toNat o.g.toNat n a f=r5.setPc b o.h.toNat o.g.toNat (r5.pc b o.h.toNat o.g.toNat+n):=by
    subst h1 h2 h3 h4 h5
    rfl
  rw [e6]
  generalize h6:r5.setPc b o.h.toNat o.g.toNat (r5.pc b o.h.toNat o.g.toNat+n)=r6 at *
  have d6:r6.T=r.T∧r6.G=r.G∧r6.H=r.H∧r6.wt=r.wt:=by rw [← h6];exact d5
  have o7:=o6.setLa (set2 r6.la o.h.toNat o.g.toNat x.p)
  have o8:=o7.setPi (by omega) o.h.toNat o.g.toNat (r6.pi o.h.toNat o.g.toNat+n) (by have:=o6.pi o.h.toNat o.g.toNat (by rw [d6.2.2.1];exact kh) (by rw [d6.2.1];exact kg);omega)
  have o9:=o8.setAm (by omega) o.h.toNat o.g.toNat (r6.am o.h.toNat o.g.toNat+a) (by have:=o6.am o.h.toNat o.g.toNat (by rw [d6.2.2.1];exact kh) (by rw [d6.2.1];exact kg);omega)
  have hW:∀ y,y∈(r.wt.set k { x with q:=x.q - n })→y={ x with q:=x.q - n }∨y∈r.wt:=fun y hy=>(List.mem_or_eq_of_mem_set hy).symm
  have e9:rnote r6 o.h.toNat o.g.toNat x.p n a={ r6 with la:=set2 r6.la o.h.toNat o.g.toNat x.p,pi:=set2 r6.pi o.h.toNat o.g.toNat (r6.pi o.h.toNat o.g.toNat+n),am:=set2 r6.am o.h.toNat o.g.toNat (r6.am o.h.toNat o.g.toNat+a) }:=rfl
  rw [e9]
  have o9':=o9.mono (K':=K+10) (by omega) (by omega)
  have w6:r6.wt=r.wt:=d6.2.2.2
  have l60:=ok.w60
  split
  · unfold rdrop rless
    refine o9'.setWt _ ?_ (fun y hy=>?_)
    · simp only [List.length_append,List.length_take,List.length_drop,List.length_set,w6]
      omega
    · simp only [w6] at hy
      have hy':y∈r.wt:=by
        rcases List.mem_append.1 hy with q | q
        · rw [List.take_set,List.set_eq_of_length_le (by rw [List.length_take];exact Nat.min_le_left _ _)] at q
          exact List.mem_of_mem_take q
        · rw [List.drop_set,if_pos (by omega)] at q
          exact List.mem_of_mem_drop q
      have:=ok.wt y hy'
      rw [← d6.1,← d6.2.1,← d6.2.2.1] at this
      exact this
  · rename_i hne
    unfold rless
    refine o9'.setWt _ ?_ (fun y hy=>?_)
    · simp only [List.length_set,w6]
      exact l60
    · simp only [w6] at hy
      show (0≤y.t∧y.t<r6.T)∧(0≤y.h∧y.h<r6.H)∧(0≤y.g∧y.g<r6.G)∧_
      rw [d6.1,d6.2.1,d6.2.2.1]
      rcases hW y hy with rfl | hy'
      · have hm:=ok.wt x (List.mem_of_getElem? hx)
        exact ⟨hm.1,hm.2.1,hm.2.2.1,hm.2.2.2.1,hm.2.2.2.2.1,by simp only [];omega,by simp only [];omega⟩
      · exact ok.wt y hy'
end

end Go.Proofs.YtcfoobhihhndjaaGreat
