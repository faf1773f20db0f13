
import Derived.Test.YtcfoobhihhndjaaGreatB09
namespace Go.Proofs.YtcfoobhihhndjaaGreat

section
open Go.RowKit Go.Sort

set_option maxHeartbeats 8000000 in
set_option maxRecDepth 100000 in
theorem trade_sell (w:World) (L:PL) (m:Mt) (N:Int) (R:PRep w L m) (ok:m.Ok N) {h g i xb yb tb ts:Nat} (o z:Od) (q:at3 m h g 0) (hi:(L.ob h g 0)[i]? = some yb) (hz:(m.bk h g 0)[i]? = some z) (hx:OdAt w xb o) (hxp:Plain w xb) (hxS:¬ L.S m xb) (hxr:xb≠L.rb) (hxb:xb≠L.bb)
    (et:o.t=ts) (eh:o.h=h) (eg:o.g=g) (es:o.s=1) (hts:ts<m.T) (ets:z.t=tb) (hne:tb≠ts) (hoq:1≤o.q∧o.q≤10000) (n:Int) (hn:min o.q z.q=n) (f:Int) (hf:m.fee h (z.p * n)=f) :
    Calls Tryz.prog 100 #[.pointer (some ⟨L.x,0,none⟩),.pointer (some ⟨xb,0,none⟩),.pointer (some ⟨yb,0,none⟩)] w fun e w'=>e = .returned (.agg #[.int .i64 o.id,.int .i64 z.id,.int .i64 z.t,.int .i64 z.p,.int .i64 n,.int .i64 f]) ∧
      PRep w' L (tradeM m tb ts ts h g 0 i 0 n (z.p * n) f { z with q:=z.q - n })∧OdAt w' xb { o with q:=o.q - n }∧Kep (fun b=>L.S m b∨b=xb) w w'∧Plain w' xb:=by
  have zo:=ok.od h g 0 z q.1 q.2.1 q.2.2 (List.mem_of_getElem? hz)
  have zp:=zo.p
  have zq:=zo.q
  obtain ⟨zp0,zp1⟩:=zp
  obtain ⟨zq0,zq1⟩:=zq
  obtain ⟨oq0,oq1⟩:=hoq
  have htb:tb<m.T:=by have:=zo.t;omega
  have zh:=zo.h
  have zg:=zo.g
  have h4:h<4:=by have:=q.1;have:=ok.H4;omega
  have g4:g<4:=by have:=q.2.1;have:=ok.G4;omega
  have n0:1≤n:=by rw [← hn];omega
  have n1:n≤10000:=by rw [← hn];omega
  have am:=mul_le' (a:=z.p) (b:=n) (A:=100000) (B:=10000) (by omega) zp1 (by omega) n1
  obtain ⟨am0,am1⟩:=am
  have w1:IntKind.i64.wrap (z.p * n)=z.p * n:=by rw [IntKind.wrap_i64];omega
  have HF:=hide (fun W (k:Kep non w W)=>fee_any W L m N (R.later k) ok h (z.p * n) q.1 am0 (by omega))
  have fb:=fee_bd ok q.1 am0 (by omega)
  rw [hf] at HF fb
  have o2:=(hx 2 _ rfl).cell
  have o4:=(hx 4 _ rfl).cell
  have o6:=(hx 6 _ rfl).cell
  have z5:=(R.oc h g 0 i yb z q hi hz 5 _ rfl).cell
  have z6:=(R.oc h g 0 i yb z q hi hz 6 _ rfl).cell
  rw [eh] at o2
  rw [es] at o4
  have HN:=hide hn
  have ET:=hide et
  have EH:=hide eh
  have EG:=hide eg
  have EZ:=hide ets
  have ZH:=hide zh
  have ZG:=hide zg
  have hrb:=R.rblt ok.H1
  have hmx:=mixed
  have lx:xb<w.heap.size:=(hx 0 _ rfl).lt
  have ly:yb<w.heap.size:=World.block_lt_of_cell? w _ z5
  have HS:=hide (show ∀ k,TS w w.heap.size L xb o ((w.alloc (.cells #[.int .i64 0,.int .i64 0,.int .i64 0,.int .i64 0,.int .i64 0,.int .i64 0] 67)).drewN k) m from fun k=>by
    have k0:Kep non w ((w.alloc (.cells #[.int .i64 0,.int .i64 0,.int .i64 0,.int .i64 0,.int .i64 0,.int .i64 0] 67)).drewN k):=((Kep.refl non w).alloc _).drewN k
    refine ⟨R.later k0,fun j v hv=>(hx j v hv).kep k0 (fun f=>f),?_,hxS,fun e=>by have:=R.lt ok.T1 ok.G1 _ e;omega,by omega,k0.none,hxp.kep k0 (fun f=>f)⟩
    show (w.heap.push _)[w.heap.size]? = _
    simp)
  have HK:=hide (show ∀ k,Kep non w ((w.alloc (.cells #[.int .i64 0,.int .i64 0,.int .i64 0,.int .i64 0,.int .i64 0,.int .i64 0] 67)).drewN k) from fun k=>((Kep.refl non w).alloc _).drewN k)
  clear hn hf et eh eg es ets zh zg zo
  go_enter Tryz.func100,Tryz.ntmps100
  go_wp2
  go_quiet (fail)
  rw [HN.out]
  have S0:=HS.out nq
  have K0:=HK.out nq
  clear HS HK
  generalize hB:w.heap.size=B at *
  have HB:=hide hB
  clear hB
  generalize (w.alloc (.cells #[.int .i64 0,.int .i64 0,.int .i64 0,.int .i64 0,.int .i64 0,.int .i64 0] 67)).drewN nq=W0 at *
  clear o2 o4 o6 z5 z6
  have o2:=(S0.c 2 _ rfl).cell
  rw [EH.out] at o2
  have z1:=(S0.R.oc h g 0 i yb z q hi hz 1 _ rfl).cell
  rw [EZ.out] at z1
  have z5:=(S0.R.oc h g 0 i yb z q hi hz 5 _ rfl).cell
  have c2:=S0.R.cA.cell
  obtain ⟨cm,cf⟩:=S0.R.mo tb htb
  go_wp2_with (go_at_call 123;refine (HF.out _ K0).mono ?_;rintro e W0 ⟨rfl,rfl⟩)
  have m1b:=ok.mo tb htb
  have v1w:IntKind.i64.wrap (m.mo tb)=m.mo tb:=by rw [IntKind.wrap_i64];omega
  have htb':(tb:Int)<(m.T:Int):=by omega
  go_region
  have S1:=(S0.mo tb htb (m.mo tb)).later ((Kep.refl non _).drew)
  clear o2 z1 z5 c2 cm cf S0 K0
  revert S1
  generalize (W0.setCell ⟨L.ab,tb * 17,none⟩ (.int .i64 (m.mo tb))).drew=W1
  intro S1
  have zr:=S1.R.oc h g 0 i yb z q hi hz
  have z1:=(zr 1 _ rfl).cell
  have z2:=(zr 2 _ rfl).cell
  have z3:=(zr 3 _ rfl).cell
  rw [EZ.out] at z1
  rw [ZH.out] at z2
  rw [ZG.out] at z3
  clear zr
  have c2:W1.cell? ⟨L.x,2,none⟩=some (.slice (some ⟨L.ab,0,none⟩) m.T m.T):=S1.R.cA.cell
  have cm:W1.cell? ⟨L.ab,tb * 17+1+h * 4+g,none⟩=some (.int .i64 (m.pc tb h g)):=(S1.R.pc tb h g htb h4 g4).cell
  have cf:W1.frozen? ⟨L.ab,tb * 17+1+h * 4+g,none⟩=false:=(S1.R.pc tb h g htb h4 g4).free
  have pb:=ok.pc tb h g htb q.1 q.2.1
  have bN:=ok.bN
  have v2w:IntKind.i64.wrap (m.pc tb h g+n)=m.pc tb h g+n:=by rw [IntKind.wrap_i64];omega
  have hh':(h:Int)<4:=by omega
  have hg':(g:Int)<4:=by omega
  go_wp2
  go_region
  have S2:=(S1.pc tb h g htb h4 g4 (m.pc tb h g+n)).later ((Kep.refl non _).drew)
  clear z1 z2 z3 c2 cm cf S1
  revert S2
  generalize (W1.setCell ⟨L.ab,tb * 17+1+h * 4+g,none⟩ (.int .i64 (m.pc tb h g+n))).drew=W2
  intro S2
  have o1:=(S2.c 1 _ rfl).cell
  rw [ET.out] at o1
  have c2:W2.cell? ⟨L.x,2,none⟩=some (.slice (some ⟨L.ab,0,none⟩) m.T m.T):=S2.R.cA.cell
  have e3:(m.setMo tb (m.mo tb)).mo ts=m.mo ts:=by simp [Mt.setMo,Ne.symm hne]
  have cm:W2.cell? ⟨L.ab,ts * 17,none⟩=some (.int .i64 ((m.setMo tb (m.mo tb)).mo ts)):=(S2.R.mo ts hts).cell
  have cf:W2.frozen? ⟨L.ab,ts * 17,none⟩=false:=(S2.R.mo ts hts).free
  rw [e3] at cm
  have m3b:=ok.mo ts hts
  have v3w:IntKind.i64.wrap (m.mo ts+z.p * n)=m.mo ts+z.p * n:=by rw [IntKind.wrap_i64];omega
  have hts':(ts:Int)<(m.T:Int):=by omega
  have E3:=hide e3
  clear e3
  go_wp2
  go_region
  have S3:=(S2.mo ts hts (m.mo ts+z.p * n)).later ((Kep.refl non _).drew)
  clear o1 c2 cm cf S2
  revert S3
  generalize (W2.setCell ⟨L.ab,ts * 17,none⟩ (.int .i64 (m.mo ts+z.p * n))).drew=W3
  intro S3
  have o1:=(S3.c 1 _ rfl).cell
  rw [ET.out] at o1
  have c2:W3.cell? ⟨L.x,2,none⟩=some (.slice (some ⟨L.ab,0,none⟩) m.T m.T):=S3.R.cA.cell
  have e4:(((m.setMo tb (m.mo tb)).setPc tb h g (m.pc tb h g+n)).setMo ts (m.mo ts+z.p * n)).mo ts=m.mo ts+z.p * n:=by simp [Mt.setMo,Mt.setPc]
  have cm:W3.cell? ⟨L.ab,ts * 17,none⟩=some (.int .i64 ((((m.setMo tb (m.mo tb)).setPc tb h g (m.pc tb h g+n)).setMo ts (m.mo ts+z.p * n)).mo ts)):=(S3.R.mo ts hts).cell
  have cf:W3.frozen? ⟨L.ab,ts * 17,none⟩=false:=(S3.R.mo ts hts).free
  rw [e4] at cm
  have E4:=hide e4
  clear e4
  have v4w:IntKind.i64.wrap (m.mo ts+z.p * n - f)=m.mo ts+z.p * n - f:=by rw [IntKind.wrap_i64];omega
  go_wp2
  go_region
  have S4:=(S3.mo ts hts (m.mo ts+z.p * n - f)).later ((Kep.refl non _).drew)
  clear o1 c2 cm cf S3
  revert S4
  generalize (W3.setCell ⟨L.ab,ts * 17,none⟩ (.int .i64 (m.mo ts+z.p * n - f))).drew=W4
  intro S4
  have c6:W4.cell? ⟨L.x,6,none⟩=some (.int .i64 m.ho):=S4.R.cH.cell
  have f6:W4.frozen? ⟨L.x,6,none⟩=false:=S4.R.cH.free
  have hob:=ok.ho
  have v5w:IntKind.i64.wrap (m.ho+f)=m.ho+f:=by rw [IntKind.wrap_i64];omega
  have o6:=(S4.c 6 _ rfl).cell
  have of6:=(S4.c 6 _ rfl).free
  have o0:=(S4.c 0 _ rfl).cell
  have v6w:IntKind.i64.wrap (o.q - n)=o.q - n:=by rw [IntKind.wrap_i64];omega
  have zr:=S4.R.oc h g 0 i yb z q hi hz
  have z6:=(zr 6 _ rfl).cell
  have zf6:=(zr 6 _ rfl).free
  have z0:=(zr 0 _ rfl).cell
  have z1:=(zr 1 _ rfl).cell
  have z5:=(zr 5 _ rfl).cell
  have v7w:IntKind.i64.wrap (z.q - n)=z.q - n:=by rw [IntKind.wrap_i64];omega
  have hyS:L.S m yb:=⟨.ob h g 0 i,by simp only [PL.F,q,if_true];exact hi⟩
  have n1':L.x≠xb:=fun e=>hxS (e ▸ ⟨.x,rfl⟩)
  have n2':L.x≠yb:=R.ne (i:=.x) (j:=.ob h g 0 i) rfl (by simp only [PL.F,q,if_true];exact hi) (by simp)
  have n3':xb≠yb:=fun e=>hxS (e ▸ hyS)
  have HS7:=hide (((S4.ho (m.ho+f)).cq hxr hxb (o.q - n)).zq q hi hz (z.q - n))
  clear zr S4 hyS
  go_wp2
  have S7:=HS7.out
  clear HS7 c6 f6 o6 of6 o0 z6 zf6 z0 z1 z5
  revert S7
  generalize (((W4.setCell ⟨L.x,6,none⟩ (.int .i64 (m.ho+f))).setCell ⟨xb,6,none⟩ (.int .i64 (o.q - n))).setCell ⟨yb,6,none⟩ (.int .i64 (z.q - n)))=W7
  intro S7
  have o0:=(S7.c 0 _ rfl).cell
  have hzl:i<(m.bk h g 0).length:=(List.getElem?_eq_some_iff.1 hz).1
  have zr:=S7.R.oc h g 0 i yb { z with q:=z.q - n } q hi (by simp [Mt.setBk,Mt.setMo,Mt.setPc,hzl])
  have z0:=(zr 0 _ rfl).cell
  have z1:=(zr 1 _ rfl).cell
  have z5:=(zr 5 _ rfl).cell
  have br:∀ j,j<6→W7.cell? ⟨B,j,none⟩=some (.int .i64 0)∧W7.frozen? ⟨B,j,none⟩=false:=fun j hj=>by
    simp only [World.cell?,World.frozen?,S7.r]
    rcases j with _ | _ | _ | _ | _ | _ | j
    · exact ⟨rfl,rfl⟩
    · exact ⟨rfl,rfl⟩
    · exact ⟨rfl,rfl⟩
    · exact ⟨rfl,rfl⟩
    · exact ⟨rfl,rfl⟩
    · exact ⟨rfl,rfl⟩
    · omega
  obtain ⟨b0,g0⟩:=br 0 (by decide)
  obtain ⟨b1,g1⟩:=br 1 (by decide)
  obtain ⟨b2,g2⟩:=br 2 (by decide)
  obtain ⟨b3,g3⟩:=br 3 (by decide)
  obtain ⟨b4,g4'⟩:=br 4 (by decide)
  obtain ⟨b5,g5⟩:=br 5 (by decide)
  have HS7:=hide S7
  clear S7 br zr
  go_region
  go_wp2
  have P:=HS7.out.fin HB.out hrb (.int .i64 o.id) (.int .i64 z.id) (.int .i64 z.t) (.int .i64 z.p) (.int .i64 n) (.int .i64 f)
  rw [tradeM_sell m hne]
  refine bodyPost_ret (v:=.agg #[.int .i64 o.id,.int .i64 z.id,.int .i64 z.t,.int .i64 z.p,.int .i64 n,.int .i64 f]) (by simp [results,Tryz.results100,go_sem,b0,b1,b2,b3,b4,b5]) rfl ⟨rfl,P.1,P.2.1,P.2.2.1,P.2.2.2⟩
end

end Go.Proofs.YtcfoobhihhndjaaGreat
