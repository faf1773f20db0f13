
import Derived.Test.YtcfoobhihhndjaaGreatB07
import Derived.Test.YtcfoobhihhndjaaGreatB08
namespace Go.Proofs.YtcfoobhihhndjaaGreat

section
open Go.RowKit Go.Sort

set_option maxHeartbeats 4000000 in
set_option maxRecDepth 100000 in
theorem takeBack_q (w:World) (L:PL) (m:Mt) (N:Int) (R:PRep w L m) (ok:m.Ok N) {h g s i x:Nat} (o:Od) (q:at3 m h g s) (hi:(L.ob h g s)[i]? = some x) (ho:(m.bk h g s)[i]? = some o) (h60:(L.ob h g s).length≤1000000) (eh:o.h=h) (eg:o.g=g) (es:o.s=s) (Post:World→Prop)
    (hrel:∀ W,QPost w L m h g s ((L.ob h g s).eraseIdx i) ((m.bk h g s).eraseIdx i) W→Calls Tryz.prog 47 #[.pointer (some ⟨L.x,0,none⟩),.pointer (some ⟨x,0,none⟩)] W fun e w'=>e = .returned (.tuple #[])∧Post w') :
    Calls Tryz.prog 65 #[.pointer (some ⟨L.x,0,none⟩),.pointer (some ⟨x,0,none⟩)] w fun e w'=>e = .returned (.tuple #[])∧Post w':=by
  have hod:OdAt w x o:=fun j v hv=>R.oc h g s i x o q hi ho j v hv
  have HB:=hide (sideOf_any w L m R x h g s o hod eh eg es q)
  have HM:=hide (show ∀ W,Kep non w W→Calls Tryz.prog 102 #[.pointer (some ⟨L.qb h g s,0,none⟩),.pointer (some ⟨x,0,none⟩)] W fun e w'=>e = .returned (.tuple #[])∧QPost w L m h g s ((L.ob h g s).eraseIdx i) ((m.bk h g s).eraseIdx i) w' from fun W k =>
    (remove_q W L m N (R.later k) ok q hi h60).mono fun e w' ⟨h1,h2⟩=>⟨h1,(k.none (S:=fun b=>b=L.qb h g s∨(L.qv h g s).ownBlock=some b)).trans h2.kp,by
      obtain ⟨v,h3,h4⟩:=h2.rep
      exact ⟨v,h3,fun b hb=>(h4 b hb).imp id (fun f=>Nat.le_trans k.size f)⟩⟩)
  have HL:=hide hrel
  clear hrel hod
  go_enter Tryz.func65,Tryz.ntmps65
  go_wp2_with (first | (go_at_call 45;refine HB.out.mono ?_;rintro e w1 ⟨rfl,k,rfl⟩) | (go_at_call 102;refine (HM.out _ ((Kep.refl non w).drewN _)).mono ?_;rintro e w2 ⟨rfl,hQ⟩) | (go_at_call 47;refine (HL.out _ (by assumption)).mono ?_;rintro e w3 ⟨rfl,hP⟩))
  go_end0
  exact ⟨rfl,by assumption⟩

def releaseM (m:Mt) (t h g s:Nat) (o:Od):Mt:=if s=0 then m.setMo t (m.mo t+o.p * o.q) else m.setPc t h g (m.pc t h g+o.q)

structure TbPost (w:World) (L:PL) (h g s:Nat) (ys:List Nat) (m':Mt) (w':World):Prop where
  kp:Kep (fun b=>b=L.ab∨b=L.qb h g s∨(L.qv h g s).ownBlock=some b) w w'
  rep:∃ v,PRep w' (L.setQ h g s v ys) m'∧∀ b,v.ownBlock=some b→(L.qv h g s).ownBlock=some b∨w.heap.size≤b

theorem takeBack_any (w:World) (L:PL) (m:Mt) (N:Int) (R:PRep w L m) (ok:m.Ok N) (hN:N≤1000000000000) {h g s i x t:Nat} (o:Od) (q:at3 m h g s) (hi:(L.ob h g s)[i]? = some x) (ho:(m.bk h g s)[i]? = some o) (h60:(L.ob h g s).length≤1000000) (et:o.t=t) :
    Calls Tryz.prog 65 #[.pointer (some ⟨L.x,0,none⟩),.pointer (some ⟨x,0,none⟩)] w fun e w'=>e = .returned (.tuple #[])∧TbPost w L h g s ((L.ob h g s).eraseIdx i) (releaseM (m.setBk h g s ((m.bk h g s).eraseIdx i)) t h g s o) w':=by
  have oo:=ok.od h g s o q.1 q.2.1 q.2.2 (List.mem_of_getElem? ho)
  have ht:t<m.T:=by have:=oo.t;omega
  have h4:h<4:=by have:=q.1;have:=ok.H4;omega
  have g4:g<4:=by have:=q.2.1;have:=ok.G4;omega
  refine takeBack_q w L m N R ok o q hi ho h60 oo.h oo.g oo.s _ fun W hW=>?_
  obtain ⟨v,R',hv⟩:=hW.rep
  have hod:OdAt W x o:=fun j u hu=>(R.oc h g s i x o q hi ho j u hu).kep hW.kp (fun f=>by
    rcases f with f | f
    · have:=R.inj (.ob h g s i) (.qb h g s) x (by simp only [PL.F,q,if_true];exact hi) (by simp only [PL.F,q,if_true];exact congrArg some f.symm)
      cases this
    · have:=R.inj (.ob h g s i) (.qv h g s) x (by simp only [PL.F,q,if_true];exact hi) (by simp only [PL.F,q,if_true];exact f)
      cases this)
  have k0:Kep (fun b=>b=L.ab∨b=L.qb h g s∨(L.qv h g s).ownBlock=some b) w W:=hW.kp.mono (fun _ f=>.inl (.inr f))
  have op:=oo.p
  have oq:=oo.q
  by_cases e:s=0
  · subst e
    refine (release_buy W _ _ R' x t o hod et ht (by have:=ok.mo t ht;exact ⟨this.1,by show m.mo t≤_;omega⟩) oo.s ⟨by omega,by omega⟩ ⟨by omega,by omega⟩).mono ?_
    rintro en w' ⟨rfl,k,rfl⟩
    refine ⟨rfl,(k0.drewN k).setCell (p:=⟨L.ab,t * 17,none⟩) (.inl (.inl rfl)) _,v,?_,hv⟩
    have:=(R'.later ((Kep.refl non W).drewN k)).setMo t ht (m.mo t+o.p * o.q)
    rw [releaseM,if_pos rfl]
    exact this
  · have s1:s=1:=by have:=q.2.2;omega
    subst s1
    refine (release_sell W _ _ R' x t h g o hod et oo.h oo.g ht h4 g4 (by have:=ok.pc t h g ht q.1 q.2.1;exact ⟨this.1,by show m.pc t h g≤_;omega⟩) oo.s ⟨by omega,by omega⟩).mono ?_
    rintro en w' ⟨rfl,k,rfl⟩
    refine ⟨rfl,(k0.drewN k).setCell (p:=⟨L.ab,t * 17+1+h * 4+g,none⟩) (.inl (.inl rfl)) _,v,?_,hv⟩
    have:=(R'.later ((Kep.refl non W).drewN k)).setPc t h g ht h4 g4 (m.pc t h g+o.q)
    rw [releaseM,if_neg (by decide)]
    exact this
end

section
open Go.RowKit Go.Sort

theorem PRep.setHo {w:World} {L:PL} {m:Mt} (R:PRep w L m) (x:Int):PRep (w.setCell ⟨L.x,6,none⟩ (.int .i64 x)) L { m with ho:=x }:=by
  have oc:∀ {o:Nat} {v:Value},o≠6→Own w ⟨L.x,o,none⟩ v→Own (w.setCell ⟨L.x,6,none⟩ (.int .i64 x)) ⟨L.x,o,none⟩ v:=fun ho hv=>hv.set_other (by intro q;injection q with _ q _;exact ho q) rfl rfl _
  exact R.setX ((Kep.refl (fun b=>b=L.x) w).setCell (p:=⟨L.x,6,none⟩) (.inl rfl) _) m.nu x m.tm (fun o v ho hv=>oc (by omega) hv) (oc (by decide) R.cN) (R.cH.set rfl _) (oc (by decide) R.cTm)

theorem PRep.setNu {w:World} {L:PL} {m:Mt} (R:PRep w L m) (x:Int):PRep (w.setCell ⟨L.x,5,none⟩ (.int .i64 x)) L { m with nu:=x }:=by
  have oc:∀ {o:Nat} {v:Value},o≠5→Own w ⟨L.x,o,none⟩ v→Own (w.setCell ⟨L.x,5,none⟩ (.int .i64 x)) ⟨L.x,o,none⟩ v:=fun ho hv=>hv.set_other (by intro q;injection q with _ q _;exact ho q) rfl rfl _
  exact R.setX ((Kep.refl (fun b=>b=L.x) w).setCell (p:=⟨L.x,5,none⟩) (.inl rfl) _) x m.ho m.tm (fun o v ho hv=>oc (by omega) hv) (R.cN.set rfl _) (oc (by decide) R.cH) (oc (by decide) R.cTm)

theorem OdAt.setQ {w:World} {x:Nat} {o:Od} (h:OdAt w x o) (n:Int):OdAt (w.setCell ⟨x,6,none⟩ (.int .i64 n)) x { o with q:=n }:=by
  intro j v hv
  by_cases e:j=6
  · subst e
    obtain rfl:Value.int .i64 n=v:=by simpa [Od.cells] using hv
    exact (h 6 _ rfl).set rfl _
  · have hv':o.cells[j]? = some v:=by
      rcases j with _ | _ | _ | _ | _ | _ | _ | _ | j
      · exact hv
      · exact hv
      · exact hv
      · exact hv
      · exact hv
      · exact hv
      · exact absurd rfl e
      · exact hv
      · exact hv
    exact (h j v hv').set_other (by intro q;injection q with _ q _;exact e q) rfl rfl _

theorem PRep.setOq {w:World} {L:PL} {m:Mt} (R:PRep w L m) {h g s i x:Nat} {o:Od} (q0:at3 m h g s) (hi:(L.ob h g s)[i]? = some x) (ho:(m.bk h g s)[i]? = some o) (n:Int) :
    PRep (w.setCell ⟨x,6,none⟩ (.int .i64 n)) L (m.setBk h g s ((m.bk h g s).set i { o with q:=n })):=by
  have k:Kep (fun b=>b=x) w (w.setCell ⟨x,6,none⟩ (.int .i64 n)):=(Kep.refl (fun b=>b=x) w).setCell (p:=⟨x,6,none⟩) (.inl rfl) _
  have hx:L.F m (.ob h g s i)=some x:=by simp only [PL.F,q0,if_true];exact hi
  have ab:∀ {j:Jx} {b:Nat},L.F m j=some b→j ≠ .ob h g s i→b≠x:=fun hj n=>R.ne hj hx n
  have a1:L.x≠x:=ab (j:=.x) rfl (by simp)
  have a2:L.ab≠x:=ab (j:=.ab) rfl (by simp)
  have a3:∀ i,i<m.H→L.gb i≠x:=fun i hi=>ab (j:=.gb i) (by simp [PL.F,hi]) (by simp)
  have a4:∀ i g s,at3 m i g s→L.qb i g s≠x:=fun i g s q=>ab (j:=.qb i g s) (by simp [PL.F,q]) (by simp)
  have a5:∀ i g s b,at3 m i g s→(L.qv i g s).ownBlock=some b→b≠x:=fun i g s b q e=>ab (j:=.qv i g s) (by simp [PL.F,q,e]) (by simp)
  have a7:L.rb≠x:=fun e=>R.nrb ⟨.ob h g s i,by rw [e];exact hx⟩
  have a8:L.bb≠x:=fun e=>R.nbb ⟨.ob h g s i,by rw [e];exact hx⟩
  refine ⟨R.cG.kep k a1,R.cR.kep k a1,R.cA.kep k a1,R.cL.kep k a1,R.cB.kep k a1,R.cN.kep k a1,R.cH.kep k a1,R.cTm.kep k a1,fun i hi=>k.cell (R.rt i hi) a7,fun t ht=>(R.mo t ht).kep k a2,fun t i g ht hi hg=>(R.pc t i g ht hi hg).kep k a2,
    ownsRow_kep R.ld k (fun b hb=>ab (j:=.lv) hb (by simp)),fun i hi=>k.cell (R.bks i hi) a8,fun i g s q=>(R.sd i g s q).kep k (a3 i q.1),fun i g hi hg=>(R.la i g hi hg).kep k (a3 i hi),fun i g hi hg=>(R.pi i g hi hg).kep k (a3 i hi),fun i g hi hg=>(R.am i g hi hg).kep k (a3 i hi),
    fun i g s q=>k.cell (R.q0 i g s q) (a4 i g s q),fun i g s q=>(R.q1 i g s q).kep k (a4 i g s q),fun i g s q=>ownsRow_kep (R.qr i g s q) k (fun b e=>a5 i g s b q e),fun a b c q=>?_,fun a b c n' y z q e1 e2=>?_,fun a b c n' y q e=>(R.oz a b c n' y q e).set _ _,R.inj,R.nrb,R.nbb⟩
  · by_cases e:a=h∧b=g∧c=s
    · obtain ⟨rfl,rfl,rfl⟩:=e
      simpa [Mt.setBk] using R.ln a b c q
    · simpa [Mt.setBk,e] using R.ln a b c q
  · have hy:L.F m (.ob a b c n')=some y:=by
      have q':at3 m a b c:=q
      simp only [PL.F,q',if_true];exact e1
    by_cases ey:y=x
    · subst ey
      have:=R.inj _ _ _ hy hx
      obtain ⟨rfl,rfl,rfl,rfl⟩ : a=h∧b=g∧c=s∧n'=i:=by simpa using this
      have hl:n'<(m.bk a b c).length:=(List.getElem?_eq_some_iff.1 ho).1
      obtain rfl:{ o with q:=n }=z:=by simpa [Mt.setBk,hl] using e2
      exact fun j u hu=>OdAt.setQ (fun j v hv=>R.oc a b c n' y o q hi ho j v hv) n j u hu
    · have e2':(m.bk a b c)[n']? = some z:=by
        by_cases e:a=h∧b=g∧c=s
        · obtain ⟨rfl,rfl,rfl⟩:=e
          have hn:i≠n':=fun f=>ey (by subst f;rw [hi] at e1;injection e1 with e1;exact e1.symm)
          simpa [Mt.setBk,hn] using e2
        · simpa [Mt.setBk,e] using e2
      exact fun j u hu=>(R.oc a b c n' y z q e1 e2' j u hu).kep k ey

theorem PRep.setGb {w w':World} {L:PL} {m:Mt} (R:PRep w L m) {h:Nat} (hh:h<m.H) (k:Kep (fun b=>b=L.gb h) w w') (la pi am:Nat→Nat→Int) (hsd:∀ g s,at3 m h g s→Own w' ⟨L.gb h,g * 5+s,none⟩ (.pointer (some ⟨L.qb h g s,0,none⟩)))
    (hla:∀ g,g<m.G→Own w' ⟨L.gb h,g * 5+2,none⟩ (.int .i64 (la h g))) (hpi:∀ g,g<m.G→Own w' ⟨L.gb h,g * 5+3,none⟩ (.int .i64 (pi h g))) (ham:∀ g,g<m.G→Own w' ⟨L.gb h,g * 5+4,none⟩ (.int .i64 (am h g)))
    (hne:∀ a g,a≠h→la a g=m.la a g∧pi a g=m.pi a g∧am a g=m.am a g):PRep w' L { m with la:=la,pi:=pi,am:=am }:=by
  have hx:L.F m (.gb h)=some (L.gb h):=by simp [PL.F,hh]
  have ab:∀ {j:Jx} {b:Nat},L.F m j=some b→j ≠ .gb h→b≠L.gb h:=fun hj n=>R.ne hj hx n
  have a1:L.x≠L.gb h:=ab (j:=.x) rfl (by simp)
  have a2:L.ab≠L.gb h:=ab (j:=.ab) rfl (by simp)
  have a3:∀ i,i<m.H→i≠h→L.gb i≠L.gb h:=fun i hi n=>ab (j:=.gb i) (by simp [PL.F,hi]) (fun e=>n (by simpa using e))
  have a4:∀ i g s,at3 m i g s→L.qb i g s≠L.gb h:=fun i g s q=>ab (j:=.qb i g s) (by simp [PL.F,q]) (by simp)
  have a5:∀ i g s b,at3 m i g s→(L.qv i g s).ownBlock=some b→b≠L.gb h:=fun i g s b q e=>ab (j:=.qv i g s) (by simp [PL.F,q,e]) (by simp)
  have a6:∀ i g s n b:Nat,at3 m i g s→(L.ob i g s)[n]? = some b→b≠L.gb h:=fun i g s n b q e=>ab (j:=.ob i g s n) (by simp only [PL.F,q,if_true];exact e) (by simp)
  have a7:L.rb≠L.gb h:=fun e=>R.nrb ⟨.gb h,by rw [e];exact hx⟩
  have a8:L.bb≠L.gb h:=fun e=>R.nbb ⟨.gb h,by rw [e];exact hx⟩
  refine ⟨R.cG.kep k a1,R.cR.kep k a1,R.cA.kep k a1,R.cL.kep k a1,R.cB.kep k a1,R.cN.kep k a1,R.cH.kep k a1,R.cTm.kep k a1,fun i hi=>k.cell (R.rt i hi) a7,fun t ht=>(R.mo t ht).kep k a2,fun t i g ht hi hg=>(R.pc t i g ht hi hg).kep k a2,
    ownsRow_kep R.ld k (fun b hb=>ab (j:=.lv) hb (by simp)),fun i hi=>k.cell (R.bks i hi) a8,fun i g s q=>?_,fun i g hi hg=>?_,fun i g hi hg=>?_,fun i g hi hg=>?_,
    fun i g s q=>k.cell (R.q0 i g s q) (a4 i g s q),fun i g s q=>(R.q1 i g s q).kep k (a4 i g s q),fun i g s q=>ownsRow_kep (R.qr i g s q) k (fun b e=>a5 i g s b q e),R.ln,fun i g s n b o q e1 e2 j v e3=>(R.oc i g s n b o q e1 e2 j v e3).kep k (a6 i g s n b q e1),fun i g s n b q e=>(R.oz i g s n b q e).kep k (a6 i g s n b q e),R.inj,R.nrb,R.nbb⟩
  · by_cases e:i=h
    · subst e;exact hsd g s q
    · exact (R.sd i g s q).kep k (a3 i q.1 e)
  · by_cases e:i=h
    · subst e;exact hla g hg
    · show Own w' _ (.int .i64 (la i g))
      rw [(hne i g e).1];exact (R.la i g hi hg).kep k (a3 i hi e)
  · by_cases e:i=h
    · subst e;exact hpi g hg
    · show Own w' _ (.int .i64 (pi i g))
      rw [(hne i g e).2.1];exact (R.pi i g hi hg).kep k (a3 i hi e)
  · by_cases e:i=h
    · subst e;exact ham g hg
    · show Own w' _ (.int .i64 (am i g))
      rw [(hne i g e).2.2];exact (R.am i g hi hg).kep k (a3 i hi e)
end

section
open Go.RowKit Go.Sort

theorem fee_bd {m:Mt} {N:Int} (ok:m.Ok N) {h:Nat} (hh:h<m.H) {a:Int} (h0:0≤a) (h1:a≤1000000000):0≤m.fee h a∧m.fee h a≤10000000:=by
  have hr:=ok.rt h hh
  have hb:=mul_le' (a:=a) (b:=m.rt h) (A:=1000000000) (B:=100) h0 h1 hr.1 hr.2
  unfold Mt.fee
  omega

structure TS (w0:World) (B:Nat) (L:PL) (xb:Nat) (o:Od) (W:World) (m:Mt):Prop where
  R:PRep W L m
  c:OdAt W xb o
  r:W.heap[B]? = some (.cells #[.int .i64 0,.int .i64 0,.int .i64 0,.int .i64 0,.int .i64 0,.int .i64 0] 67 (0,0))
  nx:¬ L.S m xb
  nB:¬ L.S m B
  xB:xb≠B
  k:Kep (fun b=>L.S m b∨b=xb) w0 W
  pl:Plain W xb

theorem TS.later {w0 W W':World} {B xb:Nat} {L:PL} {o:Od} {m:Mt} (S:TS w0 B L xb o W m) (k:Kep non W W'):TS w0 B L xb o W' m :=
  ⟨S.R.later k,fun j v hv=>(S.c j v hv).kep k (fun f=>f),(k.block B (Array.getElem?_eq_some_iff.1 S.r).1 (fun f=>f)).trans S.r,S.nx,S.nB,S.xB,S.k.trans k.none,S.pl.kep k (fun f=>f)⟩

theorem TS.mo {w0 W:World} {B xb:Nat} {L:PL} {o:Od} {m:Mt} (S:TS w0 B L xb o W m) (t:Nat) (ht:t<m.T) (v:Int):TS w0 B L xb o (W.setCell ⟨L.ab,t * 17,none⟩ (.int .i64 v)) (m.setMo t v):=by
  have hS:L.S m L.ab:=⟨.ab,rfl⟩
  have k:=(Kep.refl (fun b=>b=L.ab) W).setCell (p:=⟨L.ab,t * 17,none⟩) (.inl rfl) (.int .i64 v)
  exact ⟨S.R.setMo t ht v,fun j u hu=>(S.c j u hu).kep k (fun e=>S.nx ((show xb=_ from e) ▸ hS)),(k.block B (Array.getElem?_eq_some_iff.1 S.r).1 (fun e=>S.nB (e ▸ hS))).trans S.r,S.nx,S.nB,S.xB,S.k.setCell (p:=⟨L.ab,t * 17,none⟩) (.inl (.inl hS)) _,S.pl.set _ _⟩

theorem TS.pc {w0 W:World} {B xb:Nat} {L:PL} {o:Od} {m:Mt} (S:TS w0 B L xb o W m) (t h g:Nat) (ht:t<m.T) (hh:h<4) (hg:g<4) (v:Int):TS w0 B L xb o (W.setCell ⟨L.ab,t * 17+1+h * 4+g,none⟩ (.int .i64 v)) (m.setPc t h g v):=by
  have hS:L.S m L.ab:=⟨.ab,rfl⟩
  have k:=(Kep.refl (fun b=>b=L.ab) W).setCell (p:=⟨L.ab,t * 17+1+h * 4+g,none⟩) (.inl rfl) (.int .i64 v)
  exact ⟨S.R.setPc t h g ht hh hg v,fun j u hu=>(S.c j u hu).kep k (fun e=>S.nx ((show xb=_ from e) ▸ hS)),(k.block B (Array.getElem?_eq_some_iff.1 S.r).1 (fun e=>S.nB (e ▸ hS))).trans S.r,S.nx,S.nB,S.xB,S.k.setCell (p:=⟨L.ab,t * 17+1+h * 4+g,none⟩) (.inl (.inl hS)) _,S.pl.set _ _⟩

theorem TS.ho {w0 W:World} {B xb:Nat} {L:PL} {o:Od} {m:Mt} (S:TS w0 B L xb o W m) (v:Int):TS w0 B L xb o (W.setCell ⟨L.x,6,none⟩ (.int .i64 v)) { m with ho:=v }:=by
  have hS:L.S m L.x:=⟨.x,rfl⟩
  have k:=(Kep.refl (fun b=>b=L.x) W).setCell (p:=⟨L.x,6,none⟩) (.inl rfl) (.int .i64 v)
  exact ⟨S.R.setHo v,fun j u hu=>(S.c j u hu).kep k (fun e=>S.nx ((show xb=_ from e) ▸ hS)),(k.block B (Array.getElem?_eq_some_iff.1 S.r).1 (fun e=>S.nB (e ▸ hS))).trans S.r,S.nx,S.nB,S.xB,S.k.setCell (p:=⟨L.x,6,none⟩) (.inl (.inl hS)) _,S.pl.set _ _⟩

theorem TS.cq {w0 W:World} {B xb:Nat} {L:PL} {o:Od} {m:Mt} (S:TS w0 B L xb o W m) (hr:xb≠L.rb) (hb:xb≠L.bb) (v:Int):TS w0 B L xb { o with q:=v } (W.setCell ⟨xb,6,none⟩ (.int .i64 v)) m:=by
  have k:=(Kep.refl (fun b=>b=xb) W).setCell (p:=⟨xb,6,none⟩) (.inl rfl) (.int .i64 v)
  exact ⟨S.R.keep k (fun b hb e=>S.nx (e ▸ hb)) (fun e=>hr e.symm) (fun e=>hb e.symm),S.c.setQ v,(k.block B (Array.getElem?_eq_some_iff.1 S.r).1 (fun e=>S.xB e.symm)).trans S.r,S.nx,S.nB,S.xB,S.k.setCell (p:=⟨xb,6,none⟩) (.inl (.inr rfl)) _,S.pl.set _ _⟩

theorem TS.zq {w0 W:World} {B xb:Nat} {L:PL} {o:Od} {m:Mt} (S:TS w0 B L xb o W m) {h g s i yb:Nat} {z:Od} (q:at3 m h g s) (hi:(L.ob h g s)[i]? = some yb) (hz:(m.bk h g s)[i]? = some z) (v:Int):TS w0 B L xb o (W.setCell ⟨yb,6,none⟩ (.int .i64 v)) (m.setBk h g s ((m.bk h g s).set i { z with q:=v })):=by
  have hS:L.S m yb:=⟨.ob h g s i,by simp only [PL.F,q,if_true];exact hi⟩
  have k:=(Kep.refl (fun b=>b=yb) W).setCell (p:=⟨yb,6,none⟩) (.inl rfl) (.int .i64 v)
  exact ⟨S.R.setOq q hi hz v,fun j u hu=>(S.c j u hu).kep k (fun e=>S.nx ((show xb=_ from e) ▸ hS)),(k.block B (Array.getElem?_eq_some_iff.1 S.r).1 (fun e=>S.nB (e ▸ hS))).trans S.r,S.nx,S.nB,S.xB,S.k.setCell (p:=⟨yb,6,none⟩) (.inl (.inl hS)) _,S.pl.set _ _⟩

def tradeM (m:Mt) (tb ts tc h g s i:Nat) (d n a f:Int) (z':Od):Mt :=
  let m1:=m.setMo tb (m.mo tb+d)
  let m2:=m1.setPc tb h g (m1.pc tb h g+n)
  let m3:=m2.setMo ts (m2.mo ts+a)
  let m4:=m3.setMo tc (m3.mo tc - f)
  let m5:={ m4 with ho:=m4.ho+f }
  m5.setBk h g s ((m5.bk h g s).set i z')

theorem tradeM_buy (m:Mt) {tb ts:Nat} (hne:tb≠ts) (h g s i:Nat) (d n a f:Int) (z':Od) :
    tradeM m tb ts tb h g s i d n a f z'=({ (((m.setMo tb (m.mo tb+d)).setPc tb h g (m.pc tb h g+n)).setMo ts (m.mo ts+a)).setMo tb (m.mo tb+d - f) with ho:=m.ho+f }:Mt).setBk h g s ((m.bk h g s).set i z'):=by
  have e3:(m.setMo tb (m.mo tb+d)).mo ts=m.mo ts:=by simp [Mt.setMo,Ne.symm hne]
  have e4:(((m.setMo tb (m.mo tb+d)).setPc tb h g (m.pc tb h g+n)).setMo ts (m.mo ts+a)).mo tb=m.mo tb+d:=by simp [Mt.setMo,Mt.setPc,hne]
  show ({ ((((m.setMo tb (m.mo tb+d)).setPc tb h g (m.pc tb h g+n)).setMo ts ((m.setMo tb (m.mo tb+d)).mo ts+a)).setMo tb ((((m.setMo tb (m.mo tb+d)).setPc tb h g (m.pc tb h g+n)).setMo ts ((m.setMo tb (m.mo tb+d)).mo ts+a)).mo tb - f)) with ho:=m.ho+f }:Mt).setBk h g s ((m.bk h g s).set i z')=_
  rw [e3,e4]

theorem TS.fin {w0 W:World} {B xb:Nat} {L:PL} {o:Od} {m:Mt} (S:TS w0 B L xb o W m) (hB:w0.heap.size=B) (hr:L.rb<B∧L.bb<B) (v0 v1 v2 v3 v4 v5:Value) :
    PRep ((((((W.setCell ⟨B,0,none⟩ v0).setCell ⟨B,1,none⟩ v1).setCell ⟨B,2,none⟩ v2).setCell ⟨B,3,none⟩ v3).setCell ⟨B,4,none⟩ v4).setCell ⟨B,5,none⟩ v5).drew L m ∧
    OdAt ((((((W.setCell ⟨B,0,none⟩ v0).setCell ⟨B,1,none⟩ v1).setCell ⟨B,2,none⟩ v2).setCell ⟨B,3,none⟩ v3).setCell ⟨B,4,none⟩ v4).setCell ⟨B,5,none⟩ v5).drew xb o ∧
    Kep (fun b=>L.S m b∨b=xb) w0 ((((((W.setCell ⟨B,0,none⟩ v0).setCell ⟨B,1,none⟩ v1).setCell ⟨B,2,none⟩ v2).setCell ⟨B,3,none⟩ v3).setCell ⟨B,4,none⟩ v4).setCell ⟨B,5,none⟩ v5).drew ∧
    Plain ((((((W.setCell ⟨B,0,none⟩ v0).setCell ⟨B,1,none⟩ v1).setCell ⟨B,2,none⟩ v2).setCell ⟨B,3,none⟩ v3).setCell ⟨B,4,none⟩ v4).setCell ⟨B,5,none⟩ v5).drew xb:=by
  have gen:∀ {S':Nat→Prop} {a W:World},Kep S' a W→(S' B∨a.heap.size≤B)→Kep S' a ((((((W.setCell ⟨B,0,none⟩ v0).setCell ⟨B,1,none⟩ v1).setCell ⟨B,2,none⟩ v2).setCell ⟨B,3,none⟩ v3).setCell ⟨B,4,none⟩ v4).setCell ⟨B,5,none⟩ v5).drew:=fun h q =>
    ((((((h.setCell (p:=⟨B,0,none⟩) q v0).setCell (p:=⟨B,1,none⟩) q v1).setCell (p:=⟨B,2,none⟩) q v2).setCell (p:=⟨B,3,none⟩) q v3).setCell (p:=⟨B,4,none⟩) q v4).setCell (p:=⟨B,5,none⟩) q v5).drew
  have k:Kep (fun b=>b=B) W _:=gen (Kep.refl (fun b=>b=B) W) (.inl rfl)
  exact ⟨S.R.keep k (fun b hb e=>S.nB (e ▸ hb)) (by omega) (by omega),fun j u hu=>(S.c j u hu).kep k S.xB,gen S.k (.inr (by omega)),S.pl.kep k S.xB⟩
end

section
open Go.RowKit Go.Sort

def Od.agg (o:Od):Value:=.agg #[.int .i64 o.id,.int .i64 o.t,.int .i64 o.h,.int .i64 o.g,.int .i64 o.s,.int .i64 o.p,.int .i64 o.q,.int .i64 o.w]

def Od.fit (o:Od):Bool:=inR o.s 0 1 && inR o.w 0 3 && inR o.p 1 100000 && inR o.q 1 10000

set_option maxHeartbeats 4000000 in
set_option maxRecDepth 100000 in
theorem fit_any (w:World) (o:Od) :
    Calls Tryz.prog 68 #[o.agg] w fun e w'=>e = .returned (.bool o.fit)∧Below w.heap.size w w':=by
  obtain ⟨r1,h1⟩ : ∃ r1,inR o.s 0 1=r1:=⟨_,rfl⟩
  obtain ⟨r2,h2⟩ : ∃ r2,inR o.w 0 3=r2:=⟨_,rfl⟩
  obtain ⟨r3,h3⟩ : ∃ r3,inR o.p 1 100000=r3:=⟨_,rfl⟩
  obtain ⟨r4,h4⟩ : ∃ r4,inR o.q 1 10000=r4:=⟨_,rfl⟩
  have e:Hid (o.fit=(r1 && r2 && r3 && r4)):=hide (by unfold Od.fit;rw [h1,h2,h3,h4])
  have H1:=hide h1
  have H2:=hide h2
  have H3:=hide h3
  have H4:=hide h4
  clear h1 h2 h3 h4
  unfold Od.agg
  generalize o.fit=r at *
  cases r1 with
  | false =>
    go_enter Tryz.func68,Tryz.ntmps68
    go_wp2_with (go_at_call 78;refine (within_b _ _ _ _).mono ?_;(first | rw [H1.out]);rintro e w' ⟨rfl,rfl⟩)
    go_ret
    exact ⟨by rw [e.out];rfl,(Below.refl _ _).alloc (Nat.le_refl _) _⟩
  | true =>
    cases r2 with
    | false =>
      go_enter Tryz.func68,Tryz.ntmps68
      go_wp2_with (go_at_call 78;refine (within_b _ _ _ _).mono ?_;(first | rw [H1.out] | rw [H2.out]);rintro e w' ⟨rfl,rfl⟩)
      go_ret
      exact ⟨by rw [e.out];rfl,(Below.refl _ _).alloc (Nat.le_refl _) _⟩
    | true =>
      cases r3 with
      | false =>
        go_enter Tryz.func68,Tryz.ntmps68
        go_wp2_with (go_at_call 78;refine (within_b _ _ _ _).mono ?_;(first | rw [H1.out] | rw [H2.out] | rw [H3.out]);rintro e w' ⟨rfl,rfl⟩)
        go_ret
        exact ⟨by rw [e.out];rfl,(Below.refl _ _).alloc (Nat.le_refl _) _⟩
      | true =>
        cases r4 with
        | false =>
          go_enter Tryz.func68,Tryz.ntmps68
          go_wp2_with (go_at_call 78;refine (within_b _ _ _ _).mono ?_;(first | rw [H1.out] | rw [H2.out] | rw [H3.out] | rw [H4.out]);rintro e w' ⟨rfl,rfl⟩)
          go_ret
          exact ⟨by rw [e.out];rfl,(Below.refl _ _).alloc (Nat.le_refl _) _⟩
        | true =>
          go_enter Tryz.func68,Tryz.ntmps68
          go_wp2_with (go_at_call 78;refine (within_b _ _ _ _).mono ?_;(first | rw [H1.out] | rw [H2.out] | rw [H3.out] | rw [H4.out]);rintro e w' ⟨rfl,rfl⟩)
          go_ret
          exact ⟨by rw [e.out];rfl,(Below.refl _ _).alloc (Nat.le_refl _) _⟩

def Mt.costOf (m:Mt) (o:Od):Int:=o.p * o.q+m.fee o.h.toNat (o.p * o.q)

set_option maxHeartbeats 1000000 in
set_option maxRecDepth 100000 in
theorem cost_any (w:World) (L:PL) (m:Mt) (N:Int) (R:PRep w L m) (ok:m.Ok N) (o:Od) (h:Nat) (eh:o.h=h) (hh:h<m.H) (hp:0≤o.p∧o.p≤100000) (hq:0≤o.q∧o.q≤10000) (hf:0≤m.fee h (o.p * o.q)∧m.fee h (o.p * o.q)≤1000000000) :
    Calls Tryz.prog 94 #[.pointer (some ⟨L.x,0,none⟩),o.agg] w fun e w'=>e = .returned (.int .i64 (m.costOf o))∧Below w.heap.size w w':=by
  have hb:=mul_le' (a:=o.p) (b:=o.q) (A:=100000) (B:=10000) hp.1 hp.2 hq.1 hq.2
  obtain ⟨hb0,hb1⟩:=hb
  have HF:=hide (fun ob=>fee_any _ L m N (R.later ((Kep.refl non w).alloc ob)) ok h (o.p * o.q) hh hb0 (by omega))
  have e:Hid (m.costOf o=o.p * o.q+m.fee h (o.p * o.q)):=hide (by unfold Mt.costOf;rw [eh];rfl)
  have w1:IntKind.i64.wrap (o.p * o.q)=o.p * o.q:=by rw [IntKind.wrap_i64];omega
  have w2:IntKind.i64.wrap (o.p * o.q+m.fee h (o.p * o.q))=o.p * o.q+m.fee h (o.p * o.q):=by rw [IntKind.wrap_i64];omega
  unfold Od.agg
  rw [eh]
  generalize m.costOf o=r at *
  generalize m.fee h (o.p * o.q)=ff at *
  clear hf
  go_enter Tryz.func94,Tryz.ntmps94
  go_wp2_with (go_at_call 123;refine (HF.out _).mono ?_;rintro e w' ⟨rfl,rfl⟩)
  go_ret
  exact ⟨by rw [e.out];rfl,(Below.refl _ _).alloc (Nat.le_refl _) _⟩

def bookE (m:Mt) (h g:Int):Int:=if okI m.H h then if okI m.G g then 0 else 4 else 3

theorem checkBook_any (w:World) (L:PL) (m:Mt) (N h g:Int) (R:PRep w L m) (ok:m.Ok N) :
    Calls Tryz.prog 110 #[.pointer (some ⟨L.x,0,none⟩),.int .i64 h,.int .i64 g] w fun e w'=>e = .returned (.int .i64 (bookE m h g))∧w'=w:=by
  have c0:=R.cG.cell
  have c1:=R.cR.cell
  have bG:m.G≤8:=by have:=ok.G4;omega
  have bH:m.H≤8:=by have:=ok.H4;omega
  go_enter Tryz.func110,Tryz.ntmps110
  go_wp2_with (first | (go_at_call 88;refine (hasHall_b _ _ _ _ _ _ bH c1).mono ?_;rintro e w' ⟨rfl,rfl⟩) | (go_at_call 89;refine (hasGood_b _ _ _ _ bG c0).mono ?_;rintro e w' ⟨rfl,rfl⟩))
  all_goals go_ret
  all_goals refine ⟨ret_int ?_,rfl⟩
  all_goals clear c0 c1 R
  all_goals unfold bookE
  all_goals (repeat' split)
  all_goals first | rfl | (exfalso;simp_all [inB];done) | (exfalso;simp_all [inB];omega)

theorem house_any (w:World) (L:PL) (m:Mt) (R:PRep w L m) :
    Calls Tryz.prog 61 #[.pointer (some ⟨L.x,0,none⟩)] w fun e w'=>e = .returned (.int .i64 m.ho)∧w'=w:=by
  have c6:=R.cH.cell
  go_enter Tryz.func61,Tryz.ntmps61
  go_wp2
  go_ret
  exact ⟨rfl,rfl⟩
end

section
open Go.RowKit Go.Sort

structure Td where
  tk:Int
  mr:Int
  wi:Int
  p:Int
  q:Int
  f:Int

def Td.cells (t:Td):List Value:=[.int .i64 t.tk,.int .i64 t.mr,.int .i64 t.wi,.int .i64 t.p,.int .i64 t.q,.int .i64 t.f]
def tdCells (l:List Td):List Value:=l.flatMap Td.cells

def noteM (m:Mt) (h g:Nat) (p q:Int):Mt :=
  { m with la:=fun a b=>if a=h∧b=g then p else m.la a b,pi:=fun a b=>if a=h∧b=g then m.pi a b+q else m.pi a b,am:=fun a b=>if a=h∧b=g then m.am a b+p * q else m.am a b }

theorem tradeM_sell (m:Mt) {tb ts:Nat} (hne:tb≠ts) (h g s i:Nat) (n a f:Int) (z':Od) :
    tradeM m tb ts ts h g s i 0 n a f z'=({ (((m.setMo tb (m.mo tb)).setPc tb h g (m.pc tb h g+n)).setMo ts (m.mo ts+a)).setMo ts (m.mo ts+a - f) with ho:=m.ho+f }:Mt).setBk h g s ((m.bk h g s).set i z'):=by
  have e0:m.mo tb+0=m.mo tb:=Int.add_zero _
  have e3:(m.setMo tb (m.mo tb)).mo ts=m.mo ts:=by simp [Mt.setMo,Ne.symm hne]
  have e4:(((m.setMo tb (m.mo tb)).setPc tb h g (m.pc tb h g+n)).setMo ts (m.mo ts+a)).mo ts=m.mo ts+a:=by simp [Mt.setMo,Mt.setPc]
  show ({ ((((m.setMo tb (m.mo tb+0)).setPc tb h g (m.pc tb h g+n)).setMo ts ((m.setMo tb (m.mo tb+0)).mo ts+a)).setMo ts ((((m.setMo tb (m.mo tb+0)).setPc tb h g (m.pc tb h g+n)).setMo ts ((m.setMo tb (m.mo tb+0)).mo ts+a)).mo ts - f)) with ho:=m.ho+f }:Mt).setBk h g s ((m.bk h g s).set i z')=_
  rw [e0,e3,e4]

def oneM (m:Mt) (h g s:Nat) (o z:Od) (n:Int):Mt :=
  if s=1 then tradeM m o.t.toNat z.t.toNat o.t.toNat h g 1 0 (o.p * n - z.p * n) n (z.p * n) (m.fee h (z.p * n)) { z with q:=z.q - n }
  else tradeM m z.t.toNat o.t.toNat o.t.toNat h g 0 0 0 n (z.p * n) (m.fee h (z.p * n)) { z with q:=z.q - n }

def oneT (m:Mt) (h:Nat) (o z:Od) (n:Int):Td:=⟨o.id,z.id,z.t,z.p,n,m.fee h (z.p * n)⟩

def matchM (h g s:Nat):List Od→Mt→Od→Mt × Od × List Td
  | [],m,o=>(m,o,[])
  | z :: r,m,o =>
    if o.q≤0 then (m,o,[])
    else if pfits o z=false then (m,o,[])
    else if z.t=o.t then matchM h g s r (releaseM (m.setBk h g s r) z.t.toNat h g s z) o
    else if z.q - min o.q z.q=0 then
      let x:=matchM h g s r ((noteM (oneM m h g s o z (min o.q z.q)) h g z.p (min o.q z.q)).setBk h g s r) { o with q:=o.q - min o.q z.q }
      (x.1,x.2.1,oneT m h o z (min o.q z.q) :: x.2.2)
    else (noteM (oneM m h g s o z (min o.q z.q)) h g z.p (min o.q z.q),{ o with q:=o.q - min o.q z.q },[oneT m h o z (min o.q z.q)])

def metL (o:Od):List Od→Int
  | []=>0
  | z :: r=>(if z.t≠o.t∧pfits o z=true then z.q else 0)+metL o r
def otherS (s:Nat):Nat:=if s=0 then 1 else 0
def Mt.met (m:Mt) (o:Od):Int:=metL o (m.bk o.h.toNat o.g.toNat (otherS o.s.toNat))

def placeE (m:Mt) (o:Od):Int :=
  if ¬ okI m.T o.t then 2 else if ¬ okI m.H o.h then 3 else if ¬ okI m.G o.g then 4 else if o.fit=false then 5
  else if 60≤m.all.length then 8
  else if o.s=0∧m.mo o.t.toNat<m.costOf o then 6
  else if o.s=1∧m.pc o.t.toNat o.h.toNat o.g.toNat<o.q then 7
  else if o.w=3∧0<m.met o then 10
  else if o.w=2∧m.met o<o.q then 11
  else 0

def holdM (m:Mt) (o:Od):Mt :=
  if o.s=0 then m.setMo o.t.toNat (m.mo o.t.toNat - o.p * o.q) else m.setPc o.t.toNat o.h.toNat o.g.toNat (m.pc o.t.toNat o.h.toNat o.g.toNat - o.q)

def waitM (m:Mt) (o:Od):Mt :=
  m.setBk o.h.toNat o.g.toNat o.s.toNat (putAt (m.bk o.h.toNat o.g.toNat o.s.toNat) (slot (ahAt (m.bk o.h.toNat o.g.toNat o.s.toNat) o.s.toNat o) (m.bk o.h.toNat o.g.toNat o.s.toNat).length) o)

def settleM (m:Mt) (o:Od):Mt :=
  if 0<o.q∧(o.w=0∨o.w=3) then waitM m o else releaseM m o.t.toNat o.h.toNat o.g.toNat o.s.toNat o

def placed (m:Mt) (o:Od):Mt × Od × List Td :=
  matchM o.h.toNat o.g.toNat (otherS o.s.toNat) (m.bk o.h.toNat o.g.toNat (otherS o.s.toNat)) (holdM { m with nu:=m.nu+1 } { o with id:=m.nu+1 }) { o with id:=m.nu+1 }

def placeM (m:Mt) (o:Od):Mt:=if placeE m o=0 then settleM (placed m o).1 (placed m o).2.1 else m
def placeI (m:Mt) (o:Od):Int:=if placeE m o=0 then m.nu+1 else 0
def placeT (m:Mt) (o:Od):List Td:=if placeE m o=0 then (placed m o).2.2 else []
end

end Go.Proofs.YtcfoobhihhndjaaGreat
