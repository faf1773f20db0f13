
import Derived.Deep.CutBlock
import Derived.Deep.DeepCutAuto
import Derived.Test.YtcfoobhihhndjaaGreatB43
import Derived.Test.YtcfoobhihhndjaaGreatB45
namespace Go.Proofs.YtcfoobhihhndjaaGreat

section
open Go.RowKit Go.Sort

structure RGoes (w:World) (B:Nat) (L:RL) (r:Rm) (o:Od) (l:Value) (wr:World) (Li:RL) (ri:Rm) (oi:Od) (ts:List Td) (n:Nat):Prop where
  S:RGo w B L Li wr ri oi l ts
  ok:ri.Ok (10 * (61 - (n:Int)))
  n61:ts.length+n≤61
  C:oi.Come ri
  id:oi.id=r.nx
  lf:rleft ri oi≤n
  pl:rplaced r o=((rrun n ri oi).1,(rrun n ri oi).2.1,ts ++ (rrun n ri oi).2.2)
def RGone (w:World) (B:Nat) (L:RL) (r:Rm) (o:Od) (l:Value) (wr:World):Prop :=
  ∃ Li ri oi ts,RGo w B L Li wr ri oi l ts∧(∃ K,ri.Ok K)∧rplaced r o=(ri,oi,ts)∧oi.id=r.nx

theorem RGoes.gone {w wr wx:World} {B:Nat} {L Li:RL} {r ri:Rm} {o oi:Od} {l:Value} {ts:List Td} {n:Nat} (G:RGoes w B L r o l wr Li ri oi ts n) (h:rround ri oi=none) (k:Kep non wr wx):RGone w B L r o l wx:=by
  refine ⟨Li,ri,oi,ts,G.S.later k,⟨_,G.ok⟩,?_,G.id⟩
  rw [G.pl,rrun_none h]
  simp

theorem RGoes.next {w wr wx:World} {B:Nat} {L Li Lj:RL} {r ri rj:Rm} {o oi oj:Od} {l lj:Value} {ts us:List Td} {n:Nat} (G:RGoes w B L r o l wr Li ri oi ts n) (h:rround ri oi=some (rj,oj,us)) (hu:us.length≤1) (hl:rleft rj oj<rleft ri oi) (S:RGo w B L Lj wx rj oj lj (ts ++ us)) (ok:rj.Ok (10 * (61 - (n:Int))+10)) (C:oj.Come rj) (id:oj.id=oi.id):∃ m,RGoes w B L r o lj wx Lj rj oj (ts ++ us) m:=by
  have lf:=G.lf
  obtain ⟨m,rfl⟩ : ∃ m,n=m+1:=⟨n - 1,by omega⟩
  have n61:=G.n61
  refine ⟨m,S,?_,by simp;omega,C,id.trans G.id,by omega,?_⟩
  · have e:10 * (61 - ((m+1:Nat):Int))+10=10 * (61 - (m:Int)):=by omega
    rw [← e]
    exact ok
  · rw [G.pl]
    simp only [rrun,h,List.append_assoc]

theorem RGo.at {w wr:World} {B:Nat} {L Li:RL} {ri:Rm} {oi:Od} {l:Value} {ts:List Td} (S:RGo w B L Li wr ri oi l ts):leftAt L.c B wr=rleft ri oi:=by
  obtain ⟨a,cap,hv⟩:=row_form S.R.wt
  have h5:=S.R.c.cW.cell
  rw [hv,S.c] at h5
  rw [leftAt_eq h5 (S.ob 6 _ rfl).cell]
  rfl

theorem Rm.Ok.nxt {r:Rm} (ok:r.Ok 0) (h:r.nx≤1000000000000) {K:Int} (h0:0≤K) (h1:K≤1000):({ r with nx:=r.nx+1 }:Rm).Ok K:=by
  have q:=ok.mono h0 h1
  exact ⟨q.K0,q.K1,q.T1,q.T8,q.G1,q.G4,q.H1,q.H4,q.rt,q.mo,q.pc,q.l20,q.ld,q.w60,q.wt,q.pi,q.am,⟨by have:=q.nx;simp only [];omega,by simp only [];omega⟩,q.ho,q.tm⟩

theorem RGo.waits {w W w0 w1:World} {B:Nat} {L Li:RL} {r:Rm} {o:Od} {l:Value} {ts:List Td} {gg cap:Nat} (S:RGo w B L Li W r o l ts) (T1:1≤r.T) (G1:1≤r.G) (H1:1≤r.H) (k0:Kep non W w0) (hg:w0.grownBy w1 Li.wv.ownBlock)
    (hr:w1.ownsRow 0 40 8 (.slice (some ⟨gg,0,none⟩) (r.wt.length+1) cap) (r.wt.length+1) (rdCells r.wt ++ o.cells)) (hat:Li.wv.ownBlock=some gg∨gg=w0.heap.size) :
    RTold w L { r with wt:=r.wt ++ [o] } l ts (w1.setCell ⟨L.c,5,none⟩ (.slice (some ⟨gg,0,none⟩) (r.wt.length+1) cap))∧(w1.setCell ⟨L.c,5,none⟩ (.slice (some ⟨gg,0,none⟩) (r.wt.length+1) cap)).cell? ⟨B,0,none⟩=some (.int .i64 o.id):=by
  have LT:=S.R.lt T1 G1 H1
  have k1:Kep (fun b=>Li.wv.ownBlock=some b) W w1:=(k0.none).grown hg (fun k hk=>.inl hk)
  have z0:=k0.size
  have z2:=S.kp.size
  have k2:Kep Li.S W (w1.setCell ⟨L.c,5,none⟩ (.slice (some ⟨gg,0,none⟩) (r.wt.length+1) cap)):=(k1.mono (fun i hi=>.inl ⟨6,hi⟩)).setCell (p:=⟨L.c,5,none⟩) (.inl ⟨0,by rw [← S.c];rfl⟩) _
  have cls:∀ b,({ Li with wv:=.slice (some ⟨gg,0,none⟩) (r.wt.length+1) cap }:RL).S b→Li.S b∨W.heap.size≤b:=by
    rintro b ⟨i,hi⟩
    by_cases e:i=6
    · subst e
      have hb:gg=b:=by simpa [RL.F,Value.ownBlock] using hi
      subst hb
      rcases hat with h | h
      · exact .inl ⟨6,h⟩
      · right;omega
    · refine .inl ⟨i,?_⟩
      rcases i with _ | _ | _ | _ | _ | _ | _ | _ | _ | i
      all_goals first | exact hi | exact absurd rfl e
  refine ⟨⟨S.kp.trans' k2 (fun i hi=>S.lo i hi),⟨{ Li with wv:=.slice (some ⟨gg,0,none⟩) (r.wt.length+1) cap },S.c,fun b hb=>?_,?_,fun b hb q=>?_⟩,ownsRow_kep S.row k2 (fun b hb=>(S.nl b hb).1)⟩,((S.ob 0 _ rfl).kep k2 S.nb).cell⟩
  · rcases cls b hb with q | q
    · exact S.lo b q
    · exact .inr (by omega)
  · have:=S.R.setWt k1 (r.wt ++ [o]) (.slice (some ⟨gg,0,none⟩) (r.wt.length+1) cap) (by simpa [rdCells_append,rdCells_one] using hr) (fun i b hi hb=>?_)
    · rw [← S.c]
      exact this
    · simp only [Value.ownBlock,ne_eq,Option.some.injEq]
      rintro rfl
      rcases hat with h | h
      · exact hi (S.R.inj i 6 _ hb h)
      · have:=LT _ ⟨i,hb⟩
        omega
  · rcases cls b q with q | q
    · exact (S.nl b hb).1 q
    · have:=(S.row.lt b hb).2
      omega

theorem Od.Come.setQ {r:Rm} {o:Od} (C:o.Come r) {q:Int} (h:q≤10000):({ o with q:=q }:Od).Come r:=⟨C.t,C.h,C.g,C.s,C.p,h⟩

set_option maxRecDepth 100000 in
set_option maxHeartbeats 4000000 in
theorem refPlace_yes (w:World) (L:RL) (r:Rm) (R:RRep w L r) (ok:r.Ok 0) (o:Od) (hE:rmayE r o=0) (hN:r.nx≤1000000000000) :
    Calls Tryz.prog 15 #[.pointer (some ⟨L.c,0,none⟩),.agg #[.int .i64 o.id,.int .i64 o.t,.int .i64 o.h,.int .i64 o.g,.int .i64 o.s,.int .i64 o.p,.int .i64 o.q,.int .i64 o.w]] w fun e w'=>∃ v,e = .returned (.tuple #[.int .i64 (rplaceI r o),v,.int .i64 (rmayE r o)])∧RTold w L (rplaceM r o) v (rplaceT r o) w':=by
  obtain ⟨W0,hW0,K0,o8,R0⟩:=may_box w L r R o
  obtain ⟨y0,y1,y2,y3,y4,y5,y6,y7⟩:=box_eight o8
  have HM:=hide (rmay_any W0 L r 0 R0 ok o)
  rw [hE] at HM
  have HW0:=hide hW0
  have HK0:=hide K0
  have HR:=hide R
  have HO:=hide ok
  have HEE:=hide hE
  have HNX:=hide hN
  have HBO:Hid (OdAt W0 w.heap.size o):=hide (by rw [hW0];exact box_own w o _)
  have HO8:=hide o8
  clear R ok hW0 K0 o8 R0 hE hN
  go_enter Tryz.func15,Tryz.ntmps15
  go_upto_region 1 with fail
  rw [← HW0.out]
  generalize hob:w.heap.size=ob at *
  have HOB:=hide hob
  clear hob
  go_wp2_with fail
  refine HM.out.mono ?_
  rintro e w1 ⟨rfl,k1⟩
  have R1:=HR.out.later (HK0.out.trans k1)
  have bo:OdAt w1 ob o:=fun j v hv=>(HBO.out j v hv).kep k1 (fun q=>q)
  have LT:=HR.out.lt HO.out.T1 HO.out.G1 HO.out.H1
  have lc:L.c<ob:=by have:=LT L.c ⟨0,rfl⟩;have:=HOB.out;omega
  have hne:L.c≠ob:=by omega
  have hbo:=bo.setId r.nx
  have kb:Kep (fun b=>b=ob) w1 (w1.setCell ⟨ob,0,none⟩ (.int .i64 r.nx)):=(Kep.refl (fun b=>b=ob) w1).setCell (p:=⟨ob,0,none⟩) (.inl rfl) _
  have R2:RRep (w1.setCell ⟨ob,0,none⟩ (.int .i64 r.nx)) L r:=R1.keep kb (fun b hb e=>by have:=LT b hb;have:=HOB.out;omega)
  have R3:=R2.setNx (r.nx+1)
  obtain ⟨c10,f10⟩:=R1.c.cN
  obtain ⟨d10,g10⟩:=R2.c.cN
  obtain ⟨b0,g0⟩:=bo 0 _ rfl
  have bn:=HO.out.nx
  have S0:Hid (RGo w ob L L ((w1.setCell ⟨ob,0,none⟩ (.int .i64 r.nx)).setCell ⟨L.c,10,none⟩ (.int .i64 (r.nx+1))) { r with nx:=r.nx+1 } { o with id:=r.nx } (.slice none 0 0) []):=hide (by
    refine ⟨R3,rfl,fun _ hb=>.inl hb,fun j v hv=>(hbo j v hv).set_other (by intro q;injection q with q _ _;exact hne q.symm) rfl rfl _,fun q=>by have:=LT ob q;have:=HOB.out;omega,World.ownsRow_nil _ _ _ _,fun b hb=>by simp [Value.ownBlock] at hb,by have:=HOB.out;omega,?_⟩
    exact ((HK0.out.trans k1).none.trans' kb (fun i hi=>.inr (by rw [hi];have:=HOB.out;omega))).setCell (p:=⟨L.c,10,none⟩) (.inl ⟨0,rfl⟩) _)
  clear R1 R2 R3 bo hbo kb
  have G0:Hid (∃ Li ri oi ts n,RGoes w ob L r o (.slice none 0 0) ((w1.setCell ⟨ob,0,none⟩ (.int .i64 r.nx)).setCell ⟨L.c,10,none⟩ (.int .i64 (r.nx+1))) Li ri oi ts n):=hide (by
    obtain ⟨C,q1⟩:=Come.of HEE.out r.nx
    obtain ⟨_,_,_,_,l60⟩:=rmayE_zero HEE.out
    refine ⟨L,_,_,[],r.wt.length+1,S0.out,?_,by simp;omega,C.dims rfl rfl rfl,rfl,?_,?_⟩
    · exact HO.out.nxt HNX.out (by omega) (by omega)
    · unfold rleft
      split <;> simp
    · rfl)
  clear S0
  go_upto_block 0 with fail
  generalize (w1.setCell ⟨ob,0,none⟩ (.int .i64 r.nx)).setCell ⟨L.c,10,none⟩ (.int .i64 (r.nx+1))=W1 at *
  clear HM HW0 HK0 HR HBO HO8 y0 y1 y2 y3 y4 y5 y6 y7 k1 LT hne c10 f10 d10 g10 b0 g0 bn
  go_cut [8] (fun l wx=>RGone w ob L r o l wx)
  case first =>
    go_wp2_with fail
    go_loopw [8] (fun l wr=>∃ Li ri oi ts n,RGoes w ob L r o l wr Li ri oi ts n) (fun _ wr=>leftAt L.c ob wr)
    case atStart=>exact G0.out
    case round =>
      obtain ⟨Li,ri,oi,ts,n,G⟩:=hrel
      have HG:=hide G
      have HAT:=hide (G.S.at)
      have z0:=(G.S.ob 0 _ rfl).cell
      have z1:=(G.S.ob 1 _ rfl).cell
      have z2:=(G.S.ob 2 _ rfl).cell
      have z3:=(G.S.ob 3 _ rfl).cell
      have z4:=(G.S.ob 4 _ rfl).cell
      have z5:=(G.S.ob 5 _ rfl).cell
      have z6:=(G.S.ob 6 _ rfl).cell
      have z7:=(G.S.ob 7 _ rfl).cell
      obtain ⟨a,cap,hv⟩:=row_form G.S.R.wt
      have HV:=hide hv
      have HB:=hide (rbest_any wr Li ri _ G.S.R G.ok oi)
      rw [G.S.c] at HB
      have HN:Hid (rbestTo oi ri.wt ri.wt.length=rbest ri oi):=hide rfl
      rw [HN.out] at HB
      have hbl:=(rbest_lt ri oi).2
      have hb1:=(rbest_lt ri oi).1
      clear G hv HN
      by_cases hq:0<oi.q
      · go_wp2_with fail
        refine HB.out.mono ?_
        rintro e w2 ⟨rfl,k2⟩
        clear z0 z1 z2 z3 z4 z5 z6 z7
        by_cases hb:rbest ri oi<0
        · have HD:=hide (HG.out.gone (rround_alone hb) k2)
          generalize rbest ri oi=bb at *
          go_wp2
          go_meet
          exact HD.out
        · obtain ⟨k,hk⟩:=Int.eq_ofNat_of_zero_le (show 0≤rbest ri oi by omega)
          have HK:=hide hk
          have hkl:k<ri.wt.length:=by omega
          have hkI:(k:Int)<(ri.wt.length:Int):=by omega
          rw [hk]
          have S2:=HG.out.S.later k2
          have HS2:=hide S2
          have c5:=S2.R.c.cW.cell
          rw [HV.out,S2.c] at c5
          obtain ⟨lb,cap',hv,hcx⟩:=ord_cells S2.R.wt k hkl
          rw [HV.out] at hv
          simp only [Value.slice.injEq,true_and] at hv
          obtain ⟨rfl,rfl⟩:=hv
          obtain ⟨q0,q1,q2,q3,q4,q5,q6,q7⟩:=ord_eight hcx
          have z0:=(S2.ob 0 _ rfl).cell
          have z1:=(S2.ob 1 _ rfl).cell
          have z2:=(S2.ob 2 _ rfl).cell
          have z3:=(S2.ob 3 _ rfl).cell
          have z4:=(S2.ob 4 _ rfl).cell
          have z5:=(S2.ob 5 _ rfl).cell
          have z6:=(S2.ob 6 _ rfl).cell
          have z7:=(S2.ob 7 _ rfl).cell
          obtain ⟨x,hx⟩ : ∃ x,x=ri.wt[k]:=⟨_,rfl⟩
          have HX:Hid (ri.wt[k]? = some x):=hide (by rw [hx];exact List.getElem?_eq_getElem hkl)
          rw [← hx] at q0 q1 q2 q3 q4 q5 q6 q7
          clear hk hb hb1 hbl S2 hcx hx
          go_upto_region 10 with fail
          go_cut [47] (fun v wx=>v = .bool (x.t == oi.t)∧Kep non w2 wx)
          · go_region
            all_goals go_step
            all_goals go_step
            all_goals go_meet
            all_goals exact ⟨rfl,(Kep.refl non _).drew⟩
          obtain ⟨rfl,k3⟩:=hcut
          have S3:=HS2.out.later k3
          have HS3:=hide S3
          clear q0 q1 q2 q3 q4 q5 q6 q7 z0 z1 z2 z3 z4 z5 z6 z7 c5 HS2 k2 k3
          by_cases ht:x.t=oi.t
          · have hbt:(x.t == oi.t)=true:=by simpa using ht
            have HT:=hide ht
            have HDR:=hide (rdrops_any wc Li ri S3.R HG.out.ok.T1 HG.out.ok.G1 HG.out.ok.H1 HG.out.ok.w60 k hkl)
            rw [S3.c] at HDR
            clear S3 ht
            go_wp2_with fail
            refine HDR.out.mono ?_
            rintro e w4 ⟨rfl,D⟩
            obtain ⟨Lj,S4⟩:=HS3.out.drop D
            have hrd:=rround_own hq HK.out HX.out HT.out
            have hlf:=rleft_own (o:=oi) hkl
            obtain ⟨m,G4⟩:=HG.out.next hrd (by simp) hlf (by simpa using S4) ((HG.out.ok.drop k).mono (by omega) (by have:=HG.out.lf;have h0:0<rleft ri oi:=Nat.lt_of_le_of_lt (Nat.zero_le _) hlf;omega)) (HG.out.C.dims rfl rfl rfl) rfl
            have HG4:=hide G4
            have HM4:Hid (leftAt L.c ob w4<leftAt L.c ob wr):=hide (by rw [S4.at,HAT.out];exact hlf)
            clear D S4 hrd hlf G4
            go_wp2
            exact ⟨⟨_,_,_,_,_,HG4.out⟩,HM4.out⟩
          · have hbt:(x.t == oi.t)=false:=by simpa using ht
            have HT:=hide ht
            have z0:=(S3.ob 0 _ rfl).cell
            have z1:=(S3.ob 1 _ rfl).cell
            have z2:=(S3.ob 2 _ rfl).cell
            have z3:=(S3.ob 3 _ rfl).cell
            have z4:=(S3.ob 4 _ rfl).cell
            have z5:=(S3.ob 5 _ rfl).cell
            have z6:=(S3.ob 6 _ rfl).cell
            have z7:=(S3.ob 7 _ rfl).cell
            have n1:1≤n:=by have:=HG.out.lf;unfold rleft at this;omega
            have HTR:=hide (rtrades_any wc Li ri _ S3.R HG.out.ok (by omega) oi x HG.out.C hq k HX.out)
            rw [S3.c] at HTR
            clear S3 ht
            go_wp2_with fail
            refine HTR.out.mono ?_
            rintro e w4 ⟨rfl,P⟩
            obtain ⟨Lj,S4⟩:=HS3.out.turn P
            have HS4:=hide S4
            have sz:=S4.lt
            have szw:w.heap.size≤w4.heap.size:=by have:=HOB.out;omega
            have n61:=HG.out.n61
            have TR:=hide S4.row
            obtain ⟨i0,hi0,hz0,hz1,hz2⟩:=info_parts infoTrade
            clear S4 P
            go_wp2_with (at_builtin;refine wpList_append_lies _ rfl _ _ _ rfl w.heap.size 67 i0 _ 6 48 Tryz.underlying51 hi0 hz0 hz1 hz2 rfl (by omega) _ ts.length (tdCells ts) rfl (by exact (TR.out.alloc _).alloc _) ⟨w4.heap.size+1,0,none⟩ 1 1 (Td.cells (rtold ri oi x)) rfl rfl (by exact news_of_last' #[_,_,_,_,_,_] 67 (by simp)) (Td.oneCell' _) (by omega) (by simp only [maxLen];omega) (by omega) (by simp;omega) (w4.heap.size+2) (by simp) ?_)
            intro gg cap w5 hown5 hgrow5 hat5 hlt5
            obtain ⟨dT,dG,dH⟩:=rtrade_dims ri oi x k
            have S5:=HS4.out.grow (by rw [dT];exact HG.out.ok.T1) (by rw [dG];exact HG.out.ok.G1) (by rw [dH];exact HG.out.ok.H1) (((Kep.refl non _).alloc _).alloc _) hgrow5 (rtold ri oi x) hown5 (hat5.imp_right (fun h=>by simpa using h))
            obtain ⟨y6,f6⟩:=S5.ob 6 _ rfl
            have nb:u8.ownBlock≠some w4.heap.size:=fun q=>by have:=(TR.out.lt _ q).2;omega
            have y4:w5.cell? ⟨w4.heap.size,4,none⟩=some (.int .i64 (min oi.q x.q)):=by
              rw [hgrow5.cell_far _ (by simp;omega) (Ne.symm nb)]
              refine cell_of_row _ _ 4 _ _ _ ((Below.heap_alloc _ _ _ (by simp)).trans (heap_alloc_new w4 _)) 
            have xq:=(HG.out.ok.wt x (List.mem_of_getElem? HX.out)).2.2.2.2.2
            have cq:=HG.out.C.q
            have vw:IntKind.i64.wrap (oi.q - min oi.q x.q)=oi.q - min oi.q x.q:=by rw [IntKind.wrap_i64];omega
            have S6:=S5.setQ (oi.q - min oi.q x.q)
            have hrd:=rround_other hq HK.out HX.out HT.out
            have hlf:=rleft_other (x:=x) hkl hq
            obtain ⟨m,G6⟩:=HG.out.next hrd (by simp) hlf S6 (rtraded_ok HG.out.ok (by omega) HG.out.C hq HX.out) ((HG.out.C.dims dT dG dH).setQ (by omega)) rfl
            have HG6:=hide G6
            have HM6:Hid (leftAt L.c ob (w5.setCell ⟨ob,6,none⟩ (.int .i64 (oi.q - min oi.q x.q)))<leftAt L.c ob wr):=hide (by rw [S6.at,HAT.out];exact hlf)
            clear S5 S6 hgrow5 hown5 hat5 hlf hrd G6 z0 z1 z2 z3 z4 z5 z6 z7
            go_wp2
            exact ⟨⟨_,_,_,_,_,HG6.out⟩,HM6.out⟩
      · have HD:=hide (HG.out.gone (rround_used (by omega)) (Kep.refl non wr))
        go_wp2
        go_meet
        exact HD.out
  case rest =>
    obtain ⟨Li,ri,oi,ts,S,⟨K,okK⟩,hp,hid⟩:=hcut
    have HS:=hide S
    have HK:=hide okK
    have HI:Hid (rplaceI r o=oi.id):=hide (by unfold rplaceI;rw [if_pos HEE.out,hid])
    have HPM:Hid (rplaceM r o=rwaits ri oi):=hide (by unfold rplaceM;rw [if_pos HEE.out,hp])
    have HT:Hid (rplaceT r o=ts):=hide (by unfold rplaceT;rw [if_pos HEE.out,hp])
    have z0:=(S.ob 0 _ rfl).cell
    have z1:=(S.ob 1 _ rfl).cell
    have z2:=(S.ob 2 _ rfl).cell
    have z3:=(S.ob 3 _ rfl).cell
    have z4:=(S.ob 4 _ rfl).cell
    have z5:=(S.ob 5 _ rfl).cell
    have z6:=(S.ob 6 _ rfl).cell
    have z7:=(S.ob 7 _ rfl).cell
    by_cases hw:0<oi.q∧(oi.w=0∨oi.w=3)
    · have HW:Hid (rwaits ri oi={ ri with wt:=ri.wt ++ [oi] }):=hide (by unfold rwaits;rw [if_pos hw])
      obtain ⟨hq,hw⟩:=hw
      obtain ⟨la,lc,hv⟩:=row_form S.R.wt
      have HV:=hide hv
      obtain ⟨b5,f5⟩:=S.R.c.cW
      rw [hv,S.c] at b5
      rw [S.c] at f5
      have hown:=S.R.wt
      have q4:Li.wv.ownBlock≠some L.c:=fun q=>by have:=S.R.inj 6 0 L.c q (by rw [← S.c];rfl);omega
      rw [hv] at hown q4
      have w60:=okK.w60
      have fa:∀ z,(wc.alloc z).frozen? ⟨L.c,5,none⟩=false:=fun z=>by
        have:=(S.R.c.cW.kep ((Kep.refl non _).alloc z) (fun q=>q)).free
        rw [S.c] at this
        exact this
      have ca:∀ z,(wc.alloc z).cell? ⟨L.c,5,none⟩=some (.slice la ri.wt.length lc):=fun z=>by
        have:=(S.R.c.cW.kep ((Kep.refl non _).alloc z) (fun q=>q)).cell
        rw [S.c,hv] at this
        exact this
      have lc6:L.c<wc.heap.size:=World.block_lt_of_cell? wc _ b5
      obtain ⟨i0,hi0,hz0,hz1,hz2⟩:=info_parts infoOrd
      clear S okK hp hid hv
      go_upto_region 15 with fail
      go_cut [77] (fun v wx=>v = .bool true∧wx=wc)
      · rcases hw with hw | hw
        all_goals go_wp2
        all_goals go_meet
        all_goals simp
      obtain ⟨rfl,rfl⟩:=hcut
      go_upto_region 16 with fail
      go_cut [] (fun wx=>RTold w L { ri with wt:=ri.wt ++ [oi] } u8 ts wx∧wx.cell? ⟨ob,0,none⟩=some (.int .i64 oi.id))
      · go_region_law
          ((refine step_append_lies _ (by rfl) _ _ _ (by rfl) 0 40 i0 _ 8 64 Tryz.underlying98 hi0 hz0 hz1 hz2 rfl (by omega) (.slice la ri.wt.length lc) ri.wt.length (rdCells ri.wt) (by rfl) ((hown.alloc _).drew)
              ⟨wc.heap.size,0,none⟩ 1 1 _ (by rfl) (by rfl) (World.news_of_block (cs:=#[_,_,_,_,_,_,_,_]) (t:=40) (fr:=(0,0)) (heap_alloc_new wc _)) (by simp [Value.oneCell'])
              (by omega) (by simp [maxLen];omega) (by omega) (by simp) (wc.heap.size+1) (by simp) ?_;intro gg cap w1 hown1 hgrow hat hlt;have z6:w1.cell? ⟨L.c,5,none⟩=some (.slice la ri.wt.length lc):=(by rw [hgrow.cell_far _ (by simp;omega) (Ne.symm q4)];exact ca _);have z7:w1.frozen? ⟨L.c,5,none⟩=false:=(by rw [hgrow.frozen_far _ (by simp;omega) (Ne.symm q4)];exact fa _)))
        all_goals go_step
        all_goals go_step
        all_goals go_meet
        all_goals exact HS.out.waits HK.out.T1 HK.out.G1 HK.out.H1 (((Kep.refl non _).alloc _).drew) (by rw [HV.out];exact hgrow) hown1 (hat.imp (fun h=>by rw [HV.out];exact h) (fun h=>by simpa using h))
      obtain ⟨HTO,y0⟩:=hcut
      go_wp2
      exact bodyPost_ret (v:=.tuple #[.int .i64 oi.id,u8,.int .i64 0]) (by simp [results,Tryz.results15,go_sem]) rfl ⟨u8,by rw [HI.out,HEE.out],by rw [HPM.out,HT.out,HW.out];exact HTO⟩
    · have HW:Hid (rwaits ri oi=ri):=hide (by unfold rwaits;rw [if_neg hw])
      have HTO:=hide S.told
      clear S okK hp hid
      go_upto_region 15 with fail
      go_cut [77] (fun v wx=>v = .bool false∧wx=wc)
      · by_cases hq:0<oi.q
        · have hw0:(oi.w == 0)=false:=by simp;intro q;exact hw ⟨hq,.inl q⟩
          have hw3:(oi.w == 3)=false:=by simp;intro q;exact hw ⟨hq,.inr q⟩
          go_wp2
          all_goals go_meet
          all_goals simp
        · go_wp2
          all_goals go_meet
          all_goals simp
      obtain ⟨rfl,rfl⟩:=hcut
      go_wp2
      exact bodyPost_ret (v:=.tuple #[.int .i64 oi.id,u8,.int .i64 0]) (by simp [results,Tryz.results15,go_sem]) rfl ⟨u8,by rw [HI.out,HEE.out],by rw [HPM.out,HT.out,HW.out];exact HTO.out⟩
end

section
open Go.RowKit Go.Sort

def ROwn (r:Rm) (t id:Int) (k:Int):Prop :=
  (k = -1∧∀ x∈r.wt,¬ (x.id=id∧x.t=t))∨∃ (j:Nat) (x:Od),k=j∧r.wt[j]? = some x∧x.id=id∧x.t=t

set_option maxRecDepth 100000 in
set_option maxHeartbeats 1000000 in
theorem rown_any (w:World) (L:RL) (r:Rm) (K:Int) (R:RRep w L r) (ok:r.Ok K) (t id:Int) :
    Calls Tryz.prog 67 #[.pointer (some ⟨L.c,0,none⟩),.int .i64 t,.int .i64 id] w fun e w'=>∃ k,e = .returned (.int .i64 k)∧ROwn r t id k∧Kep non w w':=by
  obtain ⟨a,cap,hv⟩:=row_form R.wt
  have HR:=hide R
  have HV:=hide hv
  clear R hv
  have w60:=ok.w60
  go_enter Tryz.func67,Tryz.ntmps67
  go_wp2
  go_loopw [7] (fun i wr=>∃ k:Nat,k≤r.wt.length∧i = .int .i64 k∧(∀ j x,j<k→r.wt[j]? = some x→¬ (x.id=id∧x.t=t))∧Kep non w wr) (fun i _=>r.wt.length - (intOf i).toNat)
  case atStart=>exact ⟨0,Nat.zero_le _,rfl,fun j x hj _=>by omega,Kep.refl _ _⟩
  case round =>
    obtain ⟨k,hk,rfl,hno,hkp⟩:=hrel
    have HNO:=hide hno
    clear hno
    have Rr:=HR.out.later hkp
    have c5:=Rr.c.cW.cell
    rw [HV.out] at c5
    by_cases hlt:k<r.wt.length
    · obtain ⟨lb,cap',hv,hc⟩:=ord_cells Rr.wt k hlt
      rw [HV.out] at hv
      simp only [Value.slice.injEq,true_and] at hv
      obtain ⟨rfl,rfl⟩:=hv
      obtain ⟨q0,q1,q2,q3,q4,q5,q6,q7⟩:=ord_eight hc
      have HG:=hide (List.getElem?_eq_getElem hlt)
      have HN:Hid (∀ l:Od,r.wt[k]? = some l→¬ (l.id=id∧l.t=t)→∀ j x,j<k+1→r.wt[j]? = some x→¬ (x.id=id∧x.t=t)):=hide fun l hl hne j x hj hx=>by
        by_cases e:j=k
        · subst e
          rw [hl] at hx
          cases hx
          exact hne
        · exact HNO.out j x (by omega) hx
      clear hc Rr
      generalize r.wt[k]=l at *
      by_cases g1:l.id=id
      · have f1:(l.id == id)=true:=by simpa using g1
        by_cases g2:l.t=t
        · have f2:(l.t == t)=true:=by simpa using g2
          go_wp2
          go_ret
          exact ⟨_,rfl,.inr ⟨k,l,rfl,HG.out,g1,g2⟩,by first | exact hkp | exact hkp.drew⟩
        · have f2:(l.t == t)=false:=by simpa using g2
          go_wp2
          exact ⟨⟨k+1,by omega,by go_num,HN.out l HG.out (fun f=>g2 f.2),by first | exact hkp | exact hkp.drew⟩,by simp [intOf];omega⟩
      · have f1:(l.id == id)=false:=by simpa using g1
        go_wp2
        exact ⟨⟨k+1,by omega,by go_num,HN.out l HG.out (fun f=>g1 f.1),by first | exact hkp | exact hkp.drew⟩,by simp [intOf];omega⟩
    · go_wp2
      go_ret
      refine ⟨_,rfl,.inl ⟨rfl,fun x hx=>?_⟩,hkp⟩
      obtain ⟨j,hj,rfl⟩:=List.mem_iff_getElem.1 hx
      exact HNO.out j _ (by omega) (List.getElem?_eq_getElem hj)

theorem DropPost.post {w0 w w':World} {L:RL} {r':Rm} (k:Kep non w0 w) (D:DropPost w L r' w'):RPost w0 L r' w':=by
  obtain ⟨k1,v,hv,R⟩:=D
  refine ⟨k.none.trans (k1.mono fun b hb=>.inl ⟨0,congrArg some hb.symm⟩),{ L with wv:=v },rfl,fun b hb=>?_,R⟩
  obtain ⟨i,hi⟩:=hb
  by_cases e:i=6
  · subst e
    exact .inr (Nat.le_trans k.size (hv b hi))
  · refine .inl ⟨i,?_⟩
    rw [← hi]
    unfold RL.F
    split <;> first | rfl | exact absurd rfl e

set_option maxRecDepth 100000 in
set_option maxHeartbeats 1000000 in
theorem refCancel_any (w:World) (L:RL) (r:Rm) (K:Int) (R:RRep w L r) (ok:r.Ok K) (t id:Int) :
    Calls Tryz.prog 19 #[.pointer (some ⟨L.c,0,none⟩),.int .i64 t,.int .i64 id] w fun e w'=>∃ c r',e = .returned (.int .i64 c)∧RCancels r t id c r'∧RPost w L r' w':=by
  have c0:=R.c.cT.cell
  have HT:=hide (trader_b L.c r.T t w c0)
  have HO:=hide (fun W (k:Kep non w W)=>rown_any W L r K (R.later k) ok t id)
  have HD:=hide (fun W (k:Kep non w W) (j:Nat) (hj:j<r.wt.length)=>rdrops_any W L r (R.later k) ok.T1 ok.G1 ok.H1 ok.w60 j hj)
  have HR:=hide R
  clear R ok c0
  by_cases ht:okI r.T t
  · have f1:inB r.T t=true:=by simpa [inB] using ht
    rw [f1] at HT
    go_enter Tryz.func19,Tryz.ntmps19
    go_upto_region 3 with (first | (go_at_call 66;refine HT.out.mono ?_;rintro e w1 ⟨rfl,rfl⟩) | (go_at_call 67;refine (HO.out _ (Kep.refl _ _)).mono ?_;rintro e w2 ⟨k,rfl,hO,hk2⟩))
    rcases hO with ⟨rfl,hno⟩ | ⟨j,x,rfl,hx,hi,hq⟩
    · go_wp2
      go_ret
      exact ⟨_,_,rfl,.inr (.inl ⟨ht,hno,rfl,rfl⟩),RPost.same HR.out hk2⟩
    · have HJ:=hide (show j<r.wt.length from (List.getElem?_eq_some_iff.1 hx).1)
      have hj0:¬ ((j:Int)<0):=by omega
      go_wp2_with (go_at_call 50;refine (HD.out _ hk2 j HJ.out).mono ?_;rintro e w3 ⟨rfl,hP⟩)
      go_ret
      exact ⟨_,_,rfl,.inr (.inr ⟨ht,j,x,hx,hi,hq,rfl,rfl⟩),hP.post hk2⟩
  · have f1:inB r.T t=false:=by simpa [inB] using ht
    rw [f1] at HT
    go_enter Tryz.func19,Tryz.ntmps19
    go_wp2_with (first | (go_at_call 66;refine HT.out.mono ?_;rintro e w1 ⟨rfl,rfl⟩) | (go_at_call 67;refine (HO.out _ (Kep.refl _ _)).mono ?_;rintro e w2 ⟨k,rfl,hO,hk2⟩))
    go_ret
    exact ⟨_,_,rfl,.inl ⟨ht,rfl,rfl⟩,RPost.same HR.out hk2⟩
end

section
open Go.RowKit Go.Sort

def ROrdPost (w:World) (r:Rm) (t:Int) (e:Ending) (w':World):Prop :=
  Kep non w w'∧((¬ okI r.T t∧e = .returned (.tuple #[.slice none 0 0,.int .i64 2]))∨(okI r.T t∧∃ v:Value,w'.ownsRow w.heap.size 40 8 v (ofT t r.wt).length (rdCells (ofT t r.wt))∧e = .returned (.tuple #[v,.int .i64 0])))

set_option maxRecDepth 100000 in
set_option maxHeartbeats 1000000 in
theorem rorders_any (w:World) (L:RL) (r:Rm) (K:Int) (R:RRep w L r) (ok:r.Ok K) (t:Int) :
    Calls Tryz.prog 57 #[.pointer (some ⟨L.c,0,none⟩),.int .i64 t] w (ROrdPost w r t):=by
  have HT:=hide (trader_b L.c r.T t w R.c.cT.cell)
  by_cases ht:okI r.T t
  · have f1:inB r.T t=true:=by simpa [inB] using ht
    rw [f1] at HT
    obtain ⟨a,cap,hv⟩:=row_form R.wt
    have HR:=hide R
    have HV:=hide hv
    have w60:=ok.w60
    clear R hv f1 ok
    go_enter Tryz.func57,Tryz.ntmps57
    go_wp2_with (go_at_call 66;refine HT.out.mono ?_;rintro e w1 ⟨rfl,rfl⟩)
    clear HT
    go_loopw [7,8] (fun l i wr=>∃ k:Nat,k≤r.wt.length∧i = .int .i64 k∧Kep non w1 wr∧wr.ownsRow w1.heap.size 40 8 l (ofT t (r.wt.take k)).length (rdCells (ofT t (r.wt.take k)))) (fun _ i _=>r.wt.length - (intOf i).toNat)
    case atStart=>exact ⟨0,Nat.zero_le _,rfl,Kep.refl _ _,by simpa [ofT,rdCells] using World.ownsRow_nil _ _ _ _⟩
    case round =>
      obtain ⟨k,hk,rfl,hkp,hown⟩:=hrel
      have Rr:=HR.out.later hkp
      have c5:=Rr.c.cW.cell
      rw [HV.out] at c5
      by_cases hlt:k<r.wt.length
      · obtain ⟨lb,cap',hv,hc⟩:=ord_cells Rr.wt k hlt
        rw [HV.out] at hv
        simp only [Value.slice.injEq,true_and] at hv
        obtain ⟨rfl,rfl⟩:=hv
        obtain ⟨q0,q1,q2,q3,q4,q5,q6,q7⟩:=ord_eight hc
        have HS:=hide (ofT_take (t:=t) hlt)
        have stl:(ofT t (r.wt.take k)).length≤k:=Nat.le_trans (ofT_len _ _) (by simp;omega)
        clear hc Rr
        generalize ofT t (r.wt.take k)=ss at *
        generalize r.wt[k]=l at *
        by_cases g1:l.t=t
        · have hS:=HS.out
          rw [if_pos g1] at hS
          have HS':=hide hS
          clear HS hS
          have f1:(l.t == t)=true:=by simpa using g1
          subst g1
          obtain ⟨i0,hi0,hz0,hz1,hz2⟩:=info_parts infoOrd
          have lw:=hkp.size
          go_wp2_with (at_builtin;refine wpList_append_lies _ rfl _ _ _ rfl w1.heap.size 40 i0 _ 8 64 Tryz.underlying98 hi0 hz0 hz1 hz2 rfl (by omega) _ ss.length (rdCells ss) rfl (by exact hown.alloc _) ⟨wr.heap.size,0,none⟩ 1 1 l.cells rfl rfl ?hnews ?h1 (by omega) ?h63 (by omega) ?hbase (wr.heap.size+1) (by simp) ?_)
          case hnews =>
            refine World.news_of_block (cs:=#[.int .i64 l.id,.int .i64 l.t,.int .i64 l.h,.int .i64 l.g,.int .i64 l.s,.int .i64 l.p,.int .i64 l.q,.int .i64 l.w]) (t:=40) (fr:=(0,0)) ?_
            have:=heap_alloc_new wr (Obj.cells #[.int .i64 l.id,.int .i64 l.t,.int .i64 l.h,.int .i64 l.g,.int .i64 l.s,.int .i64 l.p,.int .i64 l.q,.int .i64 l.w] 40)
            simpa using this
          case h1=>simp [Od.cells,Value.oneCell']
          case h63=>simp only [maxLen];omega
          case hbase=>simp;omega
          intro gg cp w2 hown1 hgrow hat hlt1
          go_wp2
          have fresh:∀ b,u7.ownBlock=some b→w1.heap.size≤b:=fun b hb=>(hown.lt b hb).1
          have k1:Kep (fun b=>u7.ownBlock=some b) wr w2:=((Kep.refl _ _).alloc _).grown hgrow (fun b hb=>.inl hb)
          refine ⟨⟨k+1,by omega,by go_num,hkp.trans' k1 (fun b hb=>.inr (fresh b hb)),?_⟩,by simp [intOf];omega⟩
          rw [HS'.out]
          simpa [rdCells_append,rdCells] using hown1
        · have hS:=HS.out
          rw [if_neg g1,List.append_nil] at hS
          have HS':=hide hS
          have f1:(l.t == t)=false:=by simpa using g1
          clear HS hS g1
          go_wp2
          exact ⟨⟨k+1,by omega,by go_num,hkp,by rw [HS'.out];exact hown⟩,by simp [intOf];omega⟩
      · have e1:r.wt.take k=r.wt:=List.take_of_length_le (by omega)
        rw [e1] at hown
        go_wp2
        exact bodyPost_ret (v:=.tuple #[u7,.int .i64 0]) (by simp [results,Tryz.results57,go_sem]) rfl ⟨hkp,.inr ⟨ht,u7,hown,rfl⟩⟩
  · have f1:inB r.T t=false:=by simpa [inB] using ht
    rw [f1] at HT
    clear R ok f1
    go_enter Tryz.func57,Tryz.ntmps57
    go_wp2_with (go_at_call 66;refine HT.out.mono ?_;rintro e w1 ⟨rfl,rfl⟩)
    exact bodyPost_ret (v:=.tuple #[.slice none 0 0,.int .i64 2]) (by simp [results,Tryz.results57,go_sem]) rfl ⟨Kep.refl _ _,.inl ⟨ht,rfl⟩⟩
end

end Go.Proofs.YtcfoobhihhndjaaGreat
