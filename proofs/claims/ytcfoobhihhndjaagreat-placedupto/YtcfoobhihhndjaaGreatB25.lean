
import Derived.Test.YtcfoobhihhndjaaGreatB24
namespace Go.Proofs.YtcfoobhihhndjaaGreat

section
open Go.RowKit Go.Sort

set_option maxHeartbeats 2000000 in
set_option maxRecDepth 100000 in
theorem place_no (w:World) (L:PL) (m:Mt) (N:Int) (R:PRep w L m) (ok:m.Ok N) (o:Od) (hE:placeE m o≠0) :
    Calls Tryz.prog 14 #[.pointer (some ⟨L.x,0,none⟩),o.agg] w fun e w'=>e = .returned (.tuple #[.int .i64 0,.slice none 0 0,.int .i64 (placeE m o)])∧Kep non w w':=by
  have S0:=PlSt.start R ok o
  have HRf:=hide (refusal_any _ L m N S0.R ok o)
  have K0:Kep non w (w.alloc (.cells #[.int .i64 o.id,.int .i64 o.t,.int .i64 o.h,.int .i64 o.g,.int .i64 o.s,.int .i64 o.p,.int .i64 o.q,.int .i64 o.w] 40)):=(Kep.refl _ _).alloc _
  have HK:=hide K0
  have e1:(placeE m o != 0)=true:=by simpa using hE
  unfold Od.agg at HRf ⊢
  clear S0 K0 hE R ok
  generalize placeE m o=e at *
  go_enter Tryz.func14,Tryz.ntmps14
  go_wp2_with (go_at_call 42;refine HRf.out.mono ?_;rintro e w1 ⟨rfl,kr⟩)
  exact bodyPost_ret (v:=.tuple #[.int .i64 0,.slice none 0 0,.int .i64 e]) (by simp [results,Tryz.results14,go_sem]) rfl ⟨rfl,HK.out.trans kr⟩

set_option maxHeartbeats 4000000 in
set_option maxRecDepth 100000 in
theorem place_yes (w:World) (L:PL) (m:Mt) (N:Int) (R:PRep w L m) (I:m.Inv N) (hn:m.nu+1≤N) (o:Od) (hE:placeE m o=0) :
    Calls Tryz.prog 14 #[.pointer (some ⟨L.x,0,none⟩),o.agg] w fun e w'=>∃ v,e = .returned (.tuple #[.int .i64 (m.nu+1),v,.int .i64 0])∧TdPost w L m (settleM (placed m o).1 (placed m o).2.1) v (placed m o).2.2 w':=by
  have ok:=I.ok
  have i:=(refE1_zero (placeE_zero hE).1)
  obtain ⟨bs,bw,bp,bq⟩:=fit_bd i.2.2.2
  obtain ⟨h,eh⟩ : ∃ h:Nat,o.h=h:=⟨o.h.toNat,by have:=i.2.1.1;omega⟩
  obtain ⟨g,eg⟩ : ∃ g:Nat,o.g=g:=⟨o.g.toNat,by have:=i.2.2.1.1;omega⟩
  obtain ⟨s,es⟩ : ∃ s:Nat,o.s=s:=⟨o.s.toNat,by omega⟩
  have hh:h<m.H:=by have:=i.2.1.2;omega
  have hg:g<m.G:=by have:=i.2.2.1.2;omega
  have S0:=PlSt.start R ok o
  have HRf:=hide (refusal_any _ L m N S0.R ok o)
  rw [hE] at HRf
  have M0:=I.start hn hE eh eg es
  obtain ⟨M1,l1,n1,x,ex⟩:=I.mid hn hE eh eg es
  have ok1:(placed m o).1.Ok N:=M1.ok
  have nu0:=I.nu
  have bN:=I.bN
  have HH:=hide (fun W (S:PlSt w L m { m with nu:=m.nu+1 } { o with id:=m.nu+1 } W)=>hold_pl S (N:=N) (by
    refine ⟨ok.bN,ok.T1,ok.T8,ok.G1,ok.G4,ok.H1,ok.H4,ok.rt,ok.mo,ok.pc,ok.l20,ok.ld,ok.a60,fun a b c x ha hb hc hx=>(ok.od a b c x ha hb hc hx).of (by show m.nu≤m.nu+1;omega) rfl,⟨by show 0≤m.nu+1;omega,hn⟩,ok.ho,ok.tm⟩) i.1 i.2.1 i.2.2.1 bs bp bq)
  have eP:placed m o=matchM h g (otherS s) ((holdM { m with nu:=m.nu+1 } { o with id:=m.nu+1 }).bk h g (otherS s)) (holdM { m with nu:=m.nu+1 } { o with id:=m.nu+1 }) { o with id:=m.nu+1 }:=by
    unfold placed
    rw [show o.h.toNat=h by omega,show o.g.toNat=g by omega,show o.s.toNat=s by omega,bk_hold]
  have HM:=hide (fun W (S:PlSt w L m (holdM { m with nu:=m.nu+1 } { o with id:=m.nu+1 }) { o with id:=m.nu+1 } W)=>S.match M0)
  rw [← eP] at HM
  have q1:at3 (placed m o).1 h g s:=⟨M1.q.1,M1.q.2.1,by omega⟩
  have HS:=hide (fun W L' tv ts (S:PmSt w L m L' (placed m o).1 (placed m o).2.1 tv ts W)=>show Calls Tryz.prog 45 #[.pointer (some ⟨L.x,0,none⟩),.pointer (some ⟨w.heap.size,0,none⟩)] W fun e w'=>e = .returned (.pointer (some ⟨L'.qb h g s,0,none⟩))∧∃ k,w'=W.drewN k by have:=sideOf_any W L' _ S.R w.heap.size h g s _ S.ob (by rw [ex];exact eh) (by rw [ex];exact eg) (by rw [ex];exact es) q1;rwa [S.ex.1] at this)
  have HA:=hide (fun W L' tv ts (S:PmSt w L m L' (placed m o).1 (placed m o).2.1 tv ts W)=>add_pm S ok1 q1 (by rw [ex];exact eh) (by rw [ex];exact eg) (by rw [ex];exact es))
  have HRl:=hide (fun W L' tv ts (S:PmSt w L m L' (placed m o).1 (placed m o).2.1 tv ts W)=>release_pm S ok1 M1.t ⟨by rw [ex];exact i.2.1.1,by have:=M1.q.1;rw [ex];show o.h<_;omega⟩ ⟨by rw [ex];exact i.2.2.1.1,by have:=M1.q.2.1;rw [ex];show o.g<_;omega⟩ ⟨by rw [ex];exact bs.1,by rw [ex];exact bs.2⟩ M1.p M1.n)
  have hid:(placed m o).2.1.id=m.nu+1:=by rw [ex]
  rw [hid] at HA HRl
  have hww:(placed m o).2.1.w=o.w:=by rw [ex]
  have HW:=hide hww
  have HSt:Hid (settleM (placed m o).1 (placed m o).2.1=if 0<(placed m o).2.1.q∧(o.w=0∨o.w=3) then waitM (placed m o).1 (placed m o).2.1 else releaseM (placed m o).1 (placed m o).2.1.t.toNat (placed m o).2.1.h.toNat (placed m o).2.1.g.toNat (placed m o).2.1.s.toNat (placed m o).2.1):=hide (by rw [settleM,hww])
  have H0:=hide S0
  unfold Od.agg at HRf ⊢
  clear S0 M0 M1 l1 n1 ex ok1 q1 hE eP hid hww I R ok i eh eg es hh hg bs bp bq
  generalize placed m o=P at *
  go_enter Tryz.func14,Tryz.ntmps14
  go_wp2_with fail
  refine HRf.out.mono ?_
  rintro e w1 ⟨rfl,kr⟩
  have S1:=H0.out.later kr
  obtain ⟨cN,fN⟩:=S1.R.cN
  obtain ⟨c0,f0⟩:=S1.ob 0 _ rfl
  have ne:L.x≠w.heap.size:=fun f=>S1.nx ⟨.x,by rw [← f];rfl⟩
  have ne':=ne.symm
  have HS1:=hide ((S1.num (m.nu+1)).id (m.nu+1))
  obtain ⟨nu0,nu1⟩:=nu0
  obtain ⟨bN0,bN1⟩:=bN
  have nu2:m.nu≤50000000:=by omega
  clear S1 kr HRf H0
  go_wp2_with fail
  refine (HH.out _ HS1.out).mono ?_
  rintro e w2 ⟨rfl,S2⟩
  clear cN fN c0 f0 ne ne' HS1 HH
  have HS2:=hide S2
  clear S2
  go_wp2_with fail
  refine (HM.out _ HS2.out).mono ?_
  rintro e w3 ⟨tv,L',rfl,S3⟩
  have o6:=(S3.ob 6 _ rfl).cell
  have o7:=(S3.ob 7 _ rfl).cell
  rw [HW.out] at o7
  have HS3:=hide S3
  clear S3 HS2 HM
  by_cases hq:0<P.2.1.q
  · by_cases hw:o.w=0∨o.w=3
    · have hE:=hide (HSt.out.trans (if_pos ⟨hq,hw⟩))
      have hw':(o.w == 0)=true∨((o.w == 0)=false∧(o.w == 3)=true):=by
        rcases hw with f | f
        · exact .inl (by rw [f];rfl)
        · exact .inr ⟨by rw [f];rfl,by rw [f];rfl⟩
      clear hw
      rcases hw' with f0 | ⟨f0,f3⟩
      all_goals
        go_wp2_with fail
        refine (HS.out _ _ _ _ HS3.out).mono ?_
        rintro e w4 ⟨rfl,k,rfl⟩
        go_wp2_with fail
        refine (HA.out _ _ _ _ (HS3.out.later ((Kep.refl _ _).drewN k))).mono ?_
        rintro e w5 ⟨rfl,T,c0⟩
        go_wp2
        exact bodyPost_ret (v:=.tuple #[.int .i64 (m.nu+1),tv,.int .i64 0]) (by simp [results,Tryz.results14,go_sem]) rfl ⟨tv,rfl,by rw [hE.out];exact T⟩
    · have hE:=hide (HSt.out.trans (if_neg (fun f=>hw f.2)))
      have f0:(o.w == 0)=false:=beq_eq_false_iff_ne.2 (fun f=>hw (.inl f))
      have f3:(o.w == 3)=false:=beq_eq_false_iff_ne.2 (fun f=>hw (.inr f))
      clear hw
      go_wp2_with fail
      refine (HRl.out _ _ _ _ HS3.out).mono ?_
      rintro e w5 ⟨rfl,T,c0⟩
      go_wp2
      exact bodyPost_ret (v:=.tuple #[.int .i64 (m.nu+1),tv,.int .i64 0]) (by simp [results,Tryz.results14,go_sem]) rfl ⟨tv,rfl,by rw [hE.out];exact T⟩
  · have hE:=hide (HSt.out.trans (if_neg (fun f=>hq f.1)))
    go_wp2_with fail
    refine (HRl.out _ _ _ _ HS3.out).mono ?_
    rintro e w5 ⟨rfl,T,c0⟩
    go_wp2
    exact bodyPost_ret (v:=.tuple #[.int .i64 (m.nu+1),tv,.int .i64 0]) (by simp [results,Tryz.results14,go_sem]) rfl ⟨tv,rfl,by rw [hE.out];exact T⟩

theorem place_any (w:World) (L:PL) (m:Mt) (N:Int) (R:PRep w L m) (I:m.Inv N) (hn:m.nu+1≤N) (o:Od) :
    Calls Tryz.prog 14 #[.pointer (some ⟨L.x,0,none⟩),o.agg] w fun e w'=>∃ v,e = .returned (.tuple #[.int .i64 (placeI m o),v,.int .i64 (placeE m o)])∧TdPost w L m (placeM m o) v (placeT m o) w':=by
  by_cases hE:placeE m o=0
  · unfold placeI placeM placeT
    rw [if_pos hE,if_pos hE,if_pos hE,hE]
    exact place_yes w L m N R I hn o hE
  · refine (place_no w L m N R I.ok o hE).mono ?_
    rintro e w' ⟨rfl,k⟩
    unfold placeI placeM placeT
    rw [if_neg hE,if_neg hE,if_neg hE]
    exact ⟨_,rfl,k.none,⟨L,⟨rfl,rfl,rfl⟩,fun _ hb=>.inl hb,R.later k,fun b hb=>by simp [Value.ownBlock] at hb⟩,World.ownsRow_nil _ _ _ _⟩
end

section
open Go.RowKit Go.Sort

structure Loose (w:World) (L:PL) (m:Mt) (x:Nat) (o:Od):Prop where
  R:PRep w L m
  od:OdAt w x o
  pl:Plain w x
  nS:¬ L.S m x
  nr:x≠L.rb
  nb:x≠L.bb

structure BkPost (w:World) (L:PL) (m m':Mt) (x:Nat) (o:Od) (w':World):Prop where
  kp:Kep (L.S m) w w'
  rep:∃ L',(L'.x=L.x∧L'.rb=L.rb∧L'.bb=L.bb)∧(∀ b,L'.S m' b→L.S m b∨w.heap.size≤b)∧Loose w' L' m' x o

theorem Loose.later {w w':World} {L:PL} {m:Mt} {x:Nat} {o:Od} (h:Loose w L m x o) (k:Kep non w w'):Loose w' L m x o :=
  ⟨h.R.later k,fun j v hv=>(h.od j v hv).kep k (fun f=>f),h.pl.kep k (fun f=>f),h.nS,h.nr,h.nb⟩

theorem BkPost.after {w W w':World} {L:PL} {m m':Mt} {x:Nat} {o:Od} (k:Kep non w W) (B:BkPost W L m m' x o w'):BkPost w L m m' x o w':=by
  obtain ⟨L',e,hs,lo⟩:=B.rep
  exact ⟨k.none.trans B.kp,L',e,fun b hb=>(hs b hb).imp id fun f=>Nat.le_trans k.size f,lo⟩

theorem back_loose (w:World) (L:PL) (m:Mt) (N:Int) (R:PRep w L m) (ok:m.Ok N) {t id:Int} {h g s i x:Nat} {o:Od} (S:Spot m t id h g s i o) (hi:(L.ob h g s)[i]? = some x) :
    Calls Tryz.prog 65 #[.pointer (some ⟨L.x,0,none⟩),.pointer (some ⟨x,0,none⟩)] w fun e w'=>e = .returned (.tuple #[])∧BkPost w L m (backM m h g s i o) x o w':=by
  have oo:=ok.od h g s o S.q.1 S.q.2.1 S.q.2.2 (List.mem_of_getElem? S.ho)
  have hF:L.F m (.ob h g s i)=some x:=by simp only [PL.F,S.q,if_true];exact hi
  have hSx:L.S m x:=⟨_,hF⟩
  have hod:OdAt w x o:=fun j v hv=>R.oc h g s i x o S.q hi S.ho j v hv
  have hpl:Plain w x:=R.oz h g s i x S.q hi
  refine (takeBack_any w L m N R ok ok.bN o S.q hi S.ho ?_ (t:=o.t.toNat) (by have:=oo.t;omega)).mono fun e w' ⟨h1,h2⟩=>⟨h1,?_⟩
  · have:=R.ln h g s S.q
    have h60:=ok.a60
    have:=len_bk (m:=m) S.q
    omega
  · have dims:=releaseM_bk (m.setBk h g s ((m.bk h g s).eraseIdx i)) o.t.toNat h g s o
    have hG:(backM m h g s i o).G=m.G:=dims.2.2.1
    have hH:(backM m h g s i o).H=m.H:=dims.2.2.2
    have hys:∀ j b:Nat,((L.ob h g s).eraseIdx i)[j]? = some b→∃ j':Nat,(L.ob h g s)[j']? = some b:=fun j b hj=>by
      obtain ⟨n,hn⟩:=List.mem_iff_getElem?.1 (List.mem_of_mem_eraseIdx (List.mem_of_getElem? hj))
      exact ⟨n,hn⟩
    have P:=h2.pp S.q hG hH hys
    obtain ⟨v,R',hv⟩:=h2.rep
    have nk:¬ (x=L.ab∨x=L.qb h g s∨(L.qv h g s).ownBlock=some x):=by
      rintro (f | f | f)
      · have:=R.inj _ .ab x hF (by simp only [PL.F];exact congrArg some f.symm)
        cases this
      · have:=R.inj _ (.qb h g s) x hF (by simp only [PL.F,S.q,if_true];exact congrArg some f.symm)
        cases this
      · have:=R.inj _ (.qv h g s) x hF (by simp only [PL.F,S.q,if_true];exact f)
        cases this
    refine ⟨P.kp,L.setQ h g s v ((L.ob h g s).eraseIdx i),⟨rfl,rfl,rfl⟩,sub_setQ hG hH S.q hv hys,R',fun j u hu=>(hod j u hu).kep h2.kp nk,hpl.kep h2.kp nk,?_,fun f=>R.nrb (f ▸ hSx),fun f=>R.nbb (f ▸ hSx)⟩
    intro hb
    have hb':(L.setQ h g s v ((L.ob h g s).eraseIdx i)).S (m.setBk h g s []) x:=S_eq (L:=L.setQ h g s v ((L.ob h g s).eraseIdx i)) (m:=m.setBk h g s []) hH hG hb
    obtain ⟨j,hj⟩:=hb'
    rcases F_setQ hj with ⟨e,_,e3⟩ | ⟨_,e⟩ | ⟨n,_,e⟩
    · exact e3 i (R.inj _ _ x e hF)
    · rcases hv x e with f | f
      · exact nk (.inr (.inr f))
      · have:=hpl.lt;omega
    · rw [List.getElem?_eraseIdx] at e
      split at e
      · have:=R.ob_lt S.q n i x e hi;omega
      · have:=R.ob_lt S.q (n+1) i x e hi;omega

def againM (m:Mt) (h g s:Nat) (o:Od):Mt :=
  (holdH m o.t.toNat h g s o).setBk h g s (putAt (m.bk h g s) (slot (ahAt (m.bk h g s) s o) (m.bk h g s).length) o)

set_option maxRecDepth 100000 in
set_option maxHeartbeats 4000000 in
theorem replace_no (w:World) (L:PL) (m:Mt) (N:Int) (R:PRep w L m) (ok:m.Ok N) {t id:Int} {h g s i x:Nat} {o:Od} (S:Spot m t id h g s i o) (hi:(L.ob h g s)[i]? = some x) (z:Od)
    (ok1:(backM m h g s i o).Ok N) (O:HOk (backM m h g s i o) h g s o) (ok2:(holdH (backM m h g s i o) o.t.toNat h g s o).Ok N) (hE:placeE (backM m h g s i o) z≠0) :
    Calls Tryz.prog 70 #[.pointer (some ⟨L.x,0,none⟩),.pointer (some ⟨x,0,none⟩),z.agg] w fun e w'=>e = .returned (.tuple #[.int .i64 0,.slice none 0 0,.int .i64 (placeE (backM m h g s i o) z)])∧PPost w L m (againM (backM m h g s i o) h g s o) w':=by
  have HT:=hide (fun W (k:Kep non w W)=>back_loose W L m N (R.later k) ok S hi)
  have lS:¬ L.S m w.heap.size:=fun f=>by have:=R.lt ok.T1 ok.G1 _ f;omega
  have hSq:=S.q
  have dims:=releaseM_bk (m.setBk h g s ((m.bk h g s).eraseIdx i)) o.t.toNat h g s o
  have hG:(backM m h g s i o).G=m.G:=dims.2.2.1
  have hH:(backM m h g s i o).H=m.H:=dims.2.2.2
  have e1:(placeE (backM m h g s i o) z != 0)=true:=by simpa using hE
  generalize backM m h g s i o=m1 at *
  have q1:at3 m1 h g s:=⟨by rw [hH];exact hSq.1,by rw [hG];exact hSq.2.1,hSq.2.2⟩
  have dh:=holdM_bk' m1 o.t.toNat h g s o
  have q2:at3 (holdH m1 o.t.toNat h g s o) h g s:=⟨by rw [dh.2.2.2];exact q1.1,by rw [dh.2.2.1];exact q1.2.1,q1.2.2⟩
  have HP:=hide (fun W L' (R':PRep W L' m1)=>place_no W L' m1 N R' ok1 z hE)
  have HH:=hide (fun W L' (lo:Loose W L' m1 x o)=>hold_h W L' m1 lo.R lo.od O)
  have HF:=hide (show ∀ w1 w2 w3 w4 L',(L'.x=L.x∧L'.rb=L.rb∧L'.bb=L.bb)→(∀ b,L'.S m1 b→L.S m b∨w.heap.size≤b)→Loose w1 L' m1 x o→Kep (L.S m) w w1→Kep non w1 w2→HPost w2 L' (holdH m1 o.t.toNat h g s o) w3→Kep non w3 w4 →
      Calls Tryz.prog 46 #[.pointer (some ⟨L'.qb h g s,0,none⟩),.pointer (some ⟨x,0,none⟩)] w4 fun e w'=>e = .returned (.tuple #[])∧PPost w L m (againM m1 h g s o) w' from fun w1 w2 w3 w4 L' eL sL lo k1 k2 P k4=>by
    have lo2:=lo.later k2
    have sab:L'.S m1 L'.ab:=⟨.ab,rfl⟩
    have xab:¬ x=L'.ab:=fun f=>lo.nS (f ▸ sab)
    have R4:=P.rep.later k4
    have od4:OdAt w4 x o:=fun j v hv=>((lo2.od j v hv).kep P.kp xab).kep k4 (fun f=>f)
    have pl4:Plain w4 x:=(lo2.pl.kep P.kp xab).kep k4 (fun f=>f)
    have ln:=R4.ln h g s q2
    have nS4:¬ L'.S (holdH m1 o.t.toNat h g s o) x:=fun f=>lo.nS (S_eq (m:=m1) dh.2.2.2 dh.2.2.1 f)
    refine (add_q w4 L' _ N R4 ok2 o q2 od4 pl4 nS4 lo.nr lo.nb (by have:=len_bk q2;have:=ok2.a60;omega)).mono fun e w' ⟨h1,h2⟩=>⟨h1,?_⟩
    obtain ⟨v,R5,hv⟩:=h2.rep
    rw [ln,dh.1] at R5
    have K4:Kep (L.S m) w w4:=((k1.trans k2.none).trans' P.kp (fun b f=>f ▸ sL _ sab)).trans k4.none
    have sub5:∀ b,(L'.setQ h g s v (putAt (L'.ob h g s) (slot (ahAt ((holdH m1 o.t.toNat h g s o).bk h g s) s o) (L'.ob h g s).length) x)).S (againM m1 h g s o) b→b=x∨L'.S m1 b∨w4.heap.size≤b:=fun b hb=>by
      have hb':=S_eq (L:=L'.setQ h g s v _) (m:=m1.setBk h g s []) (m':=againM m1 h g s o) dh.2.2.2 dh.2.2.1 hb
      obtain ⟨j,hj⟩:=hb'
      rcases F_setQ hj with ⟨e,_,_⟩ | ⟨_,e⟩ | ⟨n,_,e⟩
      · exact .inr (.inl ⟨j,e⟩)
      · rcases hv b e with f | f
        · exact .inr (.inl ⟨.qv h g s,by simp only [PL.F,q1,if_true];exact f⟩)
        · exact .inr (.inr f)
      · rcases mem_put (List.mem_of_getElem? e) with f | f
        · exact .inl f
        · obtain ⟨n',hn'⟩:=List.mem_iff_getElem?.1 f
          exact .inr (.inl ⟨.ob h g s n',by simp only [PL.F,q1,if_true];exact hn'⟩)
    rw [dh.1,ln,dh.1] at sub5
    have sx:L.S m x:=⟨.ob h g s i,by simp only [PL.F,hSq,if_true];exact hi⟩
    refine ⟨K4.trans' h2.kp (fun b f=>?_),L'.setQ h g s v _,eL,fun b hb=>?_,R5⟩
    · rcases f with f | f
      · exact sL b ⟨.qb h g s,by simp only [PL.F,q1,if_true];exact congrArg some f.symm⟩
      · exact sL b ⟨.qv h g s,by simp only [PL.F,q1,if_true];exact f⟩
    · rcases sub5 b hb with f | f | f
      · exact .inl (f ▸ sx)
      · exact sL b f
      · exact .inr (Nat.le_trans K4.size f))
  have HO:=hide O
  clear R ok S hSq hG hH dims ok1 ok2 dh O hE
  unfold Od.agg at HP ⊢
  generalize placeE m1 z=en at *
  go_enter Tryz.func70,Tryz.ntmps70
  go_wp2_with fail
  refine (HT.out _ ((Kep.refl non w).alloc _)).mono ?_
  rintro e w1 ⟨rfl,B⟩
  have hb:=(B.kp.block w.heap.size (by simp) lS).trans (heap_alloc_new w _)
  replace B:=B.after ((Kep.refl non w).alloc _)
  have z0:=cell_of_row _ _ 0 _ _ _ hb
  have z1:=cell_of_row _ _ 1 _ _ _ hb
  have z2:=cell_of_row _ _ 2 _ _ _ hb
  have z3:=cell_of_row _ _ 3 _ _ _ hb
  have z4:=cell_of_row _ _ 4 _ _ _ hb
  have z5:=cell_of_row _ _ 5 _ _ _ hb
  have z6:=cell_of_row _ _ 6 _ _ _ hb
  have z7:=cell_of_row _ _ 7 _ _ _ hb
  obtain ⟨L',eL,sL,lo⟩:=B.rep
  have HB:=hide B.kp
  have HS:=hide (And.intro eL (And.intro sL lo))
  have HX:=hide eL.1
  have lw:w.heap.size<w1.heap.size:=(Array.getElem?_eq_some_iff.1 hb).1
  clear B HT eL sL lo hb
  go_wp2_with fail
  rw [← HX.out]
  refine (HP.out _ L' (HS.out.2.2.R)).mono ?_
  rintro e w2 ⟨rfl,k2⟩
  have HK2:=hide k2
  clear k2 HP z0 z1 z2 z3 z4 z5 z6 z7
  go_wp2_with fail
  refine (HH.out _ L' (HS.out.2.2.later HK2.out)).mono ?_
  rintro e w3 ⟨rfl,P3⟩
  have HP3:=hide P3
  have od3:OdAt w3 x o:=fun j v hv=>((HS.out.2.2.later HK2.out).od j v hv).kep P3.kp (fun f=>HS.out.2.2.nS ⟨.ab,congrArg some (show L'.ab=x from f.symm)⟩)
  have HSd:=hide (sideOf_any w3 L' _ P3.rep x h g s o od3 HO.out.eh HO.out.eg HO.out.es q2)
  clear P3 od3 HH
  go_wp2_with fail
  refine HSd.out.mono ?_
  rintro e w4 ⟨rfl,kk,rfl⟩
  go_wp2_with fail
  refine (HF.out w1 w2 w3 _ L' HS.out.1 HS.out.2.1 HS.out.2.2 HB.out HK2.out HP3.out ((Kep.refl non w3).drewN _)).mono ?_
  rintro e w5 ⟨rfl,P⟩
  have HP5:=hide P
  clear P HF HSd HP3 HK2
  go_wp2
  exact bodyPost_ret (v:=.tuple #[.int .i64 0,.slice none 0 0,.int .i64 en]) (by simp [results,Tryz.results70,go_sem]) rfl ⟨rfl,HP5.out⟩

theorem TdPost.behind {w w1 w2:World} {L L1:PL} {m m1 m2:Mt} {v:Value} {ts:List Td} (k:Kep (L.S m) w w1) (e:L1.x=L.x∧L1.rb=L.rb∧L1.bb=L.bb) (hs:∀ b,L1.S m1 b→L.S m b∨w.heap.size≤b) (P:TdPost w1 L1 m1 m2 v ts w2):TdPost w L m m2 v ts w2:=by
  obtain ⟨L2,e2,s2,R2,n2⟩:=P.rep
  refine ⟨k.trans' P.kp hs,⟨L2,⟨e2.1.trans e.1,e2.2.1.trans e.2.1,e2.2.2.trans e.2.2⟩,fun b hb=>?_,R2,n2⟩,ownsRow_base P.tr (fun b hb=>?_)⟩
  · rcases s2 b hb with f | f
    · exact hs b f
    · exact .inr (Nat.le_trans k.size f)
  · exact Nat.le_trans k.size (P.tr.lt b hb).1

def RepPost (w:World) (L:PL) (m m2:Mt) (n:Int) (ts:List Td) (e:Ending) (w':World):Prop:=∃ v,e = .returned (.tuple #[.int .i64 n,v,.int .i64 0])∧TdPost w L m m2 v ts w'

set_option maxRecDepth 100000 in
set_option maxHeartbeats 4000000 in
theorem replace_yes (w:World) (L:PL) (m:Mt) (N:Int) (R:PRep w L m) (ok:m.Ok N) {t id:Int} {h g s i x:Nat} {o:Od} (S:Spot m t id h g s i o) (hi:(L.ob h g s)[i]? = some x) (z:Od)
    (I1:(backM m h g s i o).Inv N) (hn:(backM m h g s i o).nu+1≤N) (hE:placeE (backM m h g s i o) z=0) :
    Calls Tryz.prog 70 #[.pointer (some ⟨L.x,0,none⟩),.pointer (some ⟨x,0,none⟩),z.agg] w fun e w'=>RepPost w L m (placeM (backM m h g s i o) z) (placeI (backM m h g s i o) z) (placeT (backM m h g s i o) z) e w':=by
  have HT:=hide (fun W (k:Kep non w W)=>back_loose W L m N (R.later k) ok S hi)
  have lS:¬ L.S m w.heap.size:=fun f=>by have:=R.lt ok.T1 ok.G1 _ f;omega
  generalize backM m h g s i o=m1 at *
  have HP:=hide (fun W L' (R':PRep W L' m1)=>place_any W L' m1 N R' I1 hn z)
  rw [hE] at HP
  have HF:=hide (show ∀ w1 w2 L' v,(L'.x=L.x∧L'.rb=L.rb∧L'.bb=L.bb)→(∀ b,L'.S m1 b→L.S m b∨w.heap.size≤b)→Kep (L.S m) w w1→TdPost w1 L' m1 (placeM m1 z) v (placeT m1 z) w2→TdPost w L m (placeM m1 z) v (placeT m1 z) w2 from fun w1 w2 L' v e hs k P=>P.behind k e hs)
  clear R ok S I1 hn hE
  unfold Od.agg at HP ⊢
  generalize placeM m1 z=m2 at *
  generalize placeT m1 z=ts at *
  generalize placeI m1 z=ni at *
  go_enter Tryz.func70,Tryz.ntmps70
  go_wp2_with fail
  refine (HT.out _ ((Kep.refl non w).alloc _)).mono ?_
  rintro e w1 ⟨rfl,B⟩
  have hb:=(B.kp.block w.heap.size (by simp) lS).trans (heap_alloc_new w _)
  replace B:=B.after ((Kep.refl non w).alloc _)
  have z0:=cell_of_row _ _ 0 _ _ _ hb
  have z1:=cell_of_row _ _ 1 _ _ _ hb
  have z2:=cell_of_row _ _ 2 _ _ _ hb
  have z3:=cell_of_row _ _ 3 _ _ _ hb
  have z4:=cell_of_row _ _ 4 _ _ _ hb
  have z5:=cell_of_row _ _ 5 _ _ _ hb
  have z6:=cell_of_row _ _ 6 _ _ _ hb
  have z7:=cell_of_row _ _ 7 _ _ _ hb
  obtain ⟨L',eL,sL,lo⟩:=B.rep
  have HB:=hide B.kp
  have HS:=hide (And.intro eL (And.intro sL lo))
  have HX:=hide eL.1
  have lw:w.heap.size<w1.heap.size:=(Array.getElem?_eq_some_iff.1 hb).1
  clear B HT eL sL lo hb
  go_wp2_with fail
  rw [← HX.out]
  refine (HP.out _ L' (HS.out.2.2.R)).mono ?_
  rintro e w2 ⟨v,rfl,P⟩
  have HQ:=hide (HF.out _ _ _ _ HS.out.1 HS.out.2.1 HB.out P)
  clear P HP HF z0 z1 z2 z3 z4 z5 z6 z7
  go_wp2
  exact bodyPost_ret (v:=.tuple #[.int .i64 ni,v,.int .i64 0]) (by simp [results,Tryz.results70,go_sem]) rfl ⟨v,rfl,HQ.out⟩
end

section
theorem Adds.erase {α:Type} {φ:List α→Int} (A:Adds φ):∀ {l:List α} {i:Nat} {x:α},l[i]? = some x→φ l=φ [x]+φ (l.eraseIdx i)
  | [],i,x,h=>by simp at h
  | y :: l,0,x,h=>by
    obtain rfl:y=x:=by simpa using h
    exact A.cons y l
  | y :: l,i+1,x,h=>by
    have ih:=A.erase (l:=l) (i:=i) (x:=x) (by simpa using h)
    rw [A.cons y l,List.eraseIdx_cons_succ,A.cons y (l.eraseIdx i),ih]
    omega

theorem Mt.Inv.back {m:Mt} {N:Int} (I:m.Inv N) {h g s:Nat} (q:at3 m h g s) {i:Nat} {z:Od} (hb:(m.bk h g s)[i]? = some z):(backM m h g s i z).Inv N:=by
  unfold backM
  obtain ⟨r,hr⟩ : ∃ r,r=(m.bk h g s).eraseIdx i:=⟨_,rfl⟩
  rw [← hr]
  have zo:=I.od h g s z q.1 q.2.1 q.2.2 (List.mem_of_getElem? hb)
  have zt:=zo.t
  have hz:z.t.toNat<m.T:=by omega
  have zp:=zo.p
  have zq:=zo.q
  have hm:(m.setBk h g s r).money=m.money+(heldS m.T r - heldS m.T (m.bk h g s)):=by rw [money_setBk m q]
  have h1:heldS m.T (m.bk h g s)=heldS m.T [z]+heldS m.T r:=by rw [hr];exact (adds_heldS _).erase hb
  have h2:=heldS_one zo.t
  have k1:keptS m.T (m.bk h g s)=keptS m.T [z]+keptS m.T r:=by rw [hr];exact (adds_keptS _).erase hb
  have k2:=keptS_one zo.t
  have hl:=all_setBk m q r
  have hl2:(m.bk h g s).length=r.length+1:=by
    have l1:=(List.getElem?_eq_some_iff.1 hb).1
    rw [hr,List.length_eraseIdx_of_lt l1];omega
  have hod:∀ a b c o',a<m.H→b<m.G→c<2→o'∈(m.setBk h g s r).bk a b c→o'.Ok m a b c:=by
    intro a b c o' ha hb' hc ho
    by_cases e:a=h∧b=g∧c=s
    · obtain ⟨rfl,rfl,rfl⟩:=e
      have:o'∈r:=by simpa [Mt.setBk] using ho
      exact I.od a b c o' ha hb' hc (List.mem_of_mem_eraseIdx (hr ▸ this))
    · exact I.od a b c o' ha hb' hc (by simpa [Mt.setBk,e] using ho)
  have hpq:=mul_le' (a:=z.p) (b:=z.q) (A:=100000) (B:=10000) (by omega) zp.2 (by omega) zq.2
  have a60:(m.setBk h g s r).all.length≤60:=by have:=I.a60;omega
  by_cases e:s=0
  · subst e
    have hmo:=I.mo _ hz
    rw [zo.s] at h2
    simp only [Int.natCast_zero,if_true] at h2
    rw [releaseM,if_pos rfl]
    refine ⟨I.bN,I.T1,I.T8,I.G1,I.G4,I.H1,I.H4,I.rt,fun t ht=>?_,I.pc,I.l20,I.ld,a60,fun a b c o' ha hb' hc ho=>(hod a b c o' ha hb' hc ho).of (Int.le_refl _) rfl,I.nu,I.ho,I.tm,?_,fun g' hg'=>?_,fun a b ha hb'=>?_,fun a b ha hb'=>?_⟩
    · show 0≤if t=z.t.toNat then m.mo z.t.toNat+z.p * z.q else m.mo t
      split
      · omega
      · exact I.mo t ht
    · rw [money_setMo _ _ (by exact hz),hm]
      show m.money+_+(m.mo z.t.toNat+z.p * z.q - m.mo z.t.toNat)+(0:Int)≤_
      have:=I.mon
      omega
    · rw [stock_setMo,stock_setBk m q]
      have:=I.stk g' hg'
      simp only [Nat.zero_ne_one,false_and,if_false]
      omega
    · have:=I.pi a b ha hb'
      show 0≤m.pi a b∧m.pi a b+10000 * ((m.setBk h g 0 r).all.length+0)≤20000 * m.nu
      omega
    · have:=I.am a b ha hb'
      show 0≤m.am a b∧m.am a b+1000000000 * ((m.setBk h g 0 r).all.length+0)≤2000000000 * m.nu
      omega
  · have s1:s=1:=by have:=q.2.2;omega
    subst s1
    have hpc:=I.pc _ _ _ hz q.1 q.2.1
    rw [zo.s] at h2
    simp only [Int.natCast_one,Int.one_ne_zero,if_false] at h2
    rw [releaseM,if_neg (by decide)]
    refine ⟨I.bN,I.T1,I.T8,I.G1,I.G4,I.H1,I.H4,I.rt,I.mo,fun a b c ha hb' hc=>?_,I.l20,I.ld,a60,fun a b c o' ha hb' hc ho=>(hod a b c o' ha hb' hc ho).of (Int.le_refl _) rfl,I.nu,I.ho,I.tm,?_,fun g' hg'=>?_,fun a b ha hb'=>?_,fun a b ha hb'=>?_⟩
    · show 0≤if a=z.t.toNat∧b=h∧c=g then m.pc z.t.toNat h g+z.q else m.pc a b c
      split
      · omega
      · exact I.pc a b c ha hb' hc
    · rw [money_setPc,hm]
      have:=I.mon
      omega
    · rw [stock_setPc _ _ _ _ (by exact hz) (by exact q.1),stock_setBk m q]
      have:=I.stk g' hg'
      show _+(if g'=g then m.pc z.t.toNat h g+z.q - m.pc z.t.toNat h g else 0)+_≤_
      by_cases eg:g'=g
      · rw [if_pos eg,if_pos ⟨rfl,eg⟩]
        omega
      · rw [if_neg eg,if_neg (fun f=>eg f.2)]
        omega
    · have:=I.pi a b ha hb'
      show 0≤m.pi a b∧m.pi a b+10000 * ((m.setBk h g 1 r).all.length+0)≤20000 * m.nu
      omega
    · have:=I.am a b ha hb'
      show 0≤m.am a b∧m.am a b+1000000000 * ((m.setBk h g 1 r).all.length+0)≤2000000000 * m.nu
      omega

theorem HOk.of {m:Mt} {N:Int} (ok:m.Ok N) {h g s:Nat} {o:Od} (q:at3 m h g s) (oo:o.Ok m h g s):HOk m h g s o:=by
  have T:=oo.t
  have p:=oo.p
  have n:=oo.q
  have h4:=ok.H4
  have g4:=ok.G4
  have bN:=ok.bN
  have mo:=ok.mo o.t.toNat (by omega)
  have pc:=ok.pc o.t.toNat h g (by omega) q.1 q.2.1
  have q1:=q.1
  have q2:=q.2.1
  exact ⟨T,by omega,by omega,q.2.2,oo.h,oo.g,oo.s,by omega,by omega,by omega,by omega⟩

theorem hold_back (m:Mt) (h g s i:Nat) (o:Od):holdH (backM m h g s i o) o.t.toNat h g s o=m.setBk h g s ((m.bk h g s).eraseIdx i):=by
  unfold holdH backM releaseM
  by_cases e:s=0
  · rw [if_pos e,if_pos e]
    have:(fun j=>if j=o.t.toNat then ((m.setBk h g s ((m.bk h g s).eraseIdx i)).setMo o.t.toNat (m.mo o.t.toNat+o.p * o.q)).mo o.t.toNat - o.p * o.q else ((m.setBk h g s ((m.bk h g s).eraseIdx i)).setMo o.t.toNat (m.mo o.t.toNat+o.p * o.q)).mo j)=m.mo:=by
      funext j
      by_cases f:j=o.t.toNat
      · simp [Mt.setMo,f]
      · simp [Mt.setMo,Mt.setBk,f]
    show { (m.setBk h g s ((m.bk h g s).eraseIdx i)) with mo:=(fun j=>if j=o.t.toNat then ((m.setBk h g s ((m.bk h g s).eraseIdx i)).setMo o.t.toNat (m.mo o.t.toNat+o.p * o.q)).mo o.t.toNat - o.p * o.q else ((m.setBk h g s ((m.bk h g s).eraseIdx i)).setMo o.t.toNat (m.mo o.t.toNat+o.p * o.q)).mo j) }=_
    rw [this]
    rfl
  · rw [if_neg e,if_neg e]
    have:(fun a b c=>if a=o.t.toNat∧b=h∧c=g then ((m.setBk h g s ((m.bk h g s).eraseIdx i)).setPc o.t.toNat h g (m.pc o.t.toNat h g+o.q)).pc o.t.toNat h g - o.q else ((m.setBk h g s ((m.bk h g s).eraseIdx i)).setPc o.t.toNat h g (m.pc o.t.toNat h g+o.q)).pc a b c)=m.pc:=by
      funext a b c
      by_cases f:a=o.t.toNat∧b=h∧c=g
      · simp [Mt.setPc,f]
      · simp [Mt.setPc,Mt.setBk,f]
    show { (m.setBk h g s ((m.bk h g s).eraseIdx i)) with pc:=(fun a b c=>if a=o.t.toNat∧b=h∧c=g then ((m.setBk h g s ((m.bk h g s).eraseIdx i)).setPc o.t.toNat h g (m.pc o.t.toNat h g+o.q)).pc o.t.toNat h g - o.q else ((m.setBk h g s ((m.bk h g s).eraseIdx i)).setPc o.t.toNat h g (m.pc o.t.toNat h g+o.q)).pc a b c) }=_
    rw [this]
    rfl

theorem Mt.Ok.less {m:Mt} {N:Int} (ok:m.Ok N) {h g s i:Nat} (q:at3 m h g s):(m.setBk h g s ((m.bk h g s).eraseIdx i)).Ok N:=by
  have hl:=all_setBk m q ((m.bk h g s).eraseIdx i)
  have h2:=List.length_eraseIdx_le (m.bk h g s) i
  refine ⟨ok.bN,ok.T1,ok.T8,ok.G1,ok.G4,ok.H1,ok.H4,ok.rt,ok.mo,ok.pc,ok.l20,ok.ld,by have:=ok.a60;omega,fun a b c o ha hb hc ho=>?_,ok.nu,ok.ho,ok.tm⟩
  by_cases e:a=h∧b=g∧c=s
  · obtain ⟨rfl,rfl,rfl⟩:=e
    have:o∈(m.bk a b c).eraseIdx i:=by simpa [Mt.setBk] using ho
    exact (ok.od a b c o ha hb hc (List.mem_of_mem_eraseIdx this)).of (Int.le_refl _) rfl
  · exact (ok.od a b c o ha hb hc (by simpa [Mt.setBk,e] using ho)).of (Int.le_refl _) rfl
end

end Go.Proofs.YtcfoobhihhndjaaGreat
