
import Derived.Test.YtcfoobhihhndjaaGreatB04
import Derived.Test.YtcfoobhihhndjaaGreatB07
namespace Go.Proofs.YtcfoobhihhndjaaGreat

section
open Go.RowKit Go.Sort

def slot (ah:Nat→Bool):Nat→Nat
  | 0=>0
  | k+1=>if ah k then slot ah k else k+1

theorem slot_le (ah:Nat→Bool):∀ n,slot ah n≤n
  | 0=>Nat.le_refl _
  | k+1=>by
    unfold slot
    split
    · exact Nat.le_succ_of_le (slot_le ah k)
    · exact Nat.le_refl _

def aheadF (s:Nat):Nat:=if s=0 then 120 else 121

theorem ahead_any (s:Nat) (hs:s<2) (w:World) (x y:Nat) (a b:Od) (ha:OdAt w x a) (hb:OdAt w y b) :
    Calls Tryz.prog (aheadF s) #[.pointer (some ⟨x,0,none⟩),.pointer (some ⟨y,0,none⟩)] w fun e w'=>e = .returned (.bool (aheadB s a b))∧∃ n,w'=w.drewN n:=by
  by_cases h:s=0
  · subst h
    exact aheadBuy_any w x y a b ha hb
  · obtain rfl:s=1:=by omega
    exact aheadSell_any w x y a b ha hb

theorem ahead_enters (s:Nat) (args:Array Value) (w:World):(callFunc (aheadF s) args).run Tryz.prog w = .ok (.enter (aheadF s) args) w:=by
  unfold aheadF
  split
  · exact enters_of Tryz.func120 (by kernel_rfl) rfl _ _
  · exact enters_of Tryz.func121 (by kernel_rfl) rfl _ _

theorem quiet_at {f:FuncId} {args:Array Value} {w:World} {m a:Nat} {v:Value} (h:Calls Tryz.prog f args (w.drewN (m+a)) fun e w'=>e = .returned v∧∃ k,w'=(w.drewN (m+a)).drewN k):Calls Tryz.prog f args (w.drewN (m+a)) fun e w''=>e = .returned v∧∃ n,w''=w.drewN (m+n) :=
  h.mono fun _ _ ⟨he,k,hk⟩=>⟨he,a+k,by rw [hk,World.drewN_drewN,Nat.add_assoc]⟩

def AddPost (w:World) (q:Nat) (v:Value) (n:Nat) (ys:List Nat) (e:Ending) (w':World):Prop :=
  e = .returned (.tuple #[])∧∃ W g cap,w'=W.setCell ⟨q,1,none⟩ (.slice (some ⟨g,0,none⟩) (n+1) cap)∧W.ownsRow 0 94 1 (.slice (some ⟨g,0,none⟩) (n+1) cap) (n+1) (ys.map optr)∧Kep (fun b=>v.ownBlock=some b) w W∧(v.ownBlock=some g∨w.heap.size≤g)

def AddIns (w:World) (q:Nat) (v:Value) (n:Nat) (ys:List Nat) (e:Ending) (W:World):Prop :=
  ∃ g cap,e = .returned (.slice (some ⟨g,0,none⟩) (n+1) cap)∧W.ownsRow 0 94 1 (.slice (some ⟨g,0,none⟩) (n+1) cap) (n+1) (ys.map optr)∧Kep (fun b=>v.ownBlock=some b) w W∧(v.ownBlock=some g∨w.heap.size≤g)∧Own W ⟨q,1,none⟩ v

set_option maxHeartbeats 4000000 in
set_option maxRecDepth 100000 in
theorem add_any (w:World) (q n c x g:Nat) (a:Option Addr) (zs:List Nat) (ah:Nat→Bool) (hq0:w.cell? ⟨q,0,none⟩=some (.func (.func g) #[] #[])) (hq:Own w ⟨q,1,none⟩ (.slice a n c)) (h60:n≤1000000) (hr:w.ownsRow 0 94 1 (.slice a n c) n (zs.map optr))
    (hbq:Value.ownBlock (.slice a n c)≠some q) (eg:∀ args W,(callFunc g args).run Tryz.prog W = .ok (.enter g args) W)
    (hah:∀ m (j z:Nat),zs[j]? = some z→Calls Tryz.prog g #[.pointer (some ⟨x,0,none⟩),.pointer (some ⟨z,0,none⟩)] (w.drewN m) fun e w'=>e = .returned (.bool (ah j))∧∃ k,w'=(w.drewN m).drewN k) :
    Calls Tryz.prog 46 #[.pointer (some ⟨q,0,none⟩),.pointer (some ⟨x,0,none⟩)] w (AddPost w q (.slice a n c) n (putAt zs (slot ah n) x)):=by
  have hl:zs.length=n:=by have:=hr.1;simpa using this
  have HR:=hide hr
  have HA:=hide hah
  have HQ:=hide hq
  have c1:=hq.cell
  have HC:=hide (show ∀ j z,zs[j]? = some z→∃ b,a=some ⟨b,0,none⟩∧w.cell? ⟨b,j,none⟩=some (.pointer (some ⟨z,0,none⟩)) from fun j z hj=>by
    rcases hr.2 with ⟨e,e2⟩ | ⟨b,cap,cur,e,_⟩
    · have:=(List.getElem?_eq_some_iff.1 hj).1;omega
    · injection e with e1 e2 e3
      subst e1 e3
      obtain ⟨cur,_,_,_,_,_,hc,_⟩:=owns_cell hr
      exact ⟨b,rfl,hc j _ (by rw [List.getElem?_map,hj];rfl)⟩)
  have HI:=hide (show ∀ m i,i≤n→Calls Tryz.prog 103 #[.slice a n c,.int .i64 i,.slice (some ⟨w.heap.size,0,none⟩) 1 1] ((w.drewN m).alloc (.cells #[.pointer (some ⟨x,0,none⟩)] 94)) (AddIns w q (.slice a n c) n (putAt zs i x)) from fun m i hi=>by
    have k0:Kep non w ((w.drewN m).alloc (.cells #[.pointer (some ⟨x,0,none⟩)] 94)):=((Kep.refl non w).drewN m).alloc _
    have hH:((w.drewN m).alloc (.cells #[.pointer (some ⟨x,0,none⟩)] 94)).heap[w.heap.size]? = some (.cells #[.pointer (some ⟨x,0,none⟩)] 94 (0,0)):=by
      show (w.heap.push _)[w.heap.size]? = _
      simp
    refine (insert_any _ a n c i w.heap.size x zs h60 (ownsRow_kep hr k0 (fun _ _ q=>q)) (by simp only [World.cell?,hH];rfl) ⟨_,_,hH⟩ (fun q=>by have:=(hr.lt _ q).2;omega) hi).mono ?_
    rintro e W ⟨g,cap,rfl,h1,h2,h3⟩
    have k1:Kep (fun b=>Value.ownBlock (.slice a n c)=some b) w W:=(k0.none (S:=fun b=>Value.ownBlock (.slice a n c)=some b)).trans h2
    refine ⟨g,cap,rfl,h1,k1,h3.imp id (fun h=>Nat.le_trans k0.size h),hq.kep k1 hbq⟩)
  clear hr hah hq
  go_enter Tryz.func46,Tryz.ntmps46
  go_wp2
  go_loopw [4] (fun i wr=>∃ j m:Nat,j≤n∧i = .int .i64 j∧slot ah j=slot ah n∧wr=w.drewN m) (fun i _=>(intOf i).toNat)
  case atStart=>exact ⟨n,0,Nat.le_refl _,rfl,rfl,rfl⟩
  case round =>
    obtain ⟨j,m,hj,rfl,hs,rfl⟩:=hrel
    have HS:=hide hs
    clear hs
    by_cases h0:j=0
    · have h1:decide ((0:Int)<(j:Int))=false:=by simp [h0]
      have h2:decide (0<j)=false:=by simp [h0]
      have HZ:=hide h0
      clear h0
      go_wp2
      go_quiet (fail)
      go_wp2_with (go_at_call 103;refine (HI.out _ j hj).mono ?_;rintro e W ⟨gg,cap,rfl,hR,hK,hL,hO⟩;have c3:=hO.cell;have c4:=hO.free;have HX:=hide (And.intro hR (And.intro hK hL));clear hR hK hL hO c1)
      go_end0
      refine ⟨rfl,_,gg,cap,rfl,?_,HX.out.2.1,HX.out.2.2⟩
      have e:slot ah n=j:=by rw [← HS.out,HZ.out];rfl
      rw [e]
      exact HX.out.1
    · obtain ⟨k,hk⟩ : ∃ k,j=k+1:=⟨j - 1,by omega⟩
      have h1:decide ((0:Int)<(j:Int))=true:=by simp;omega
      have h2:decide (0<j)=true:=by simp;omega
      have hz:zs[k]? = some zs[k]:=List.getElem?_eq_getElem (by omega)
      obtain ⟨b,rfl,cb⟩:=HC.out k _ hz
      have hcall:=hide (fun m=>HA.out m k _ hz)
      generalize zs[k]'(by omega)=z at *
      have ek:(j:Int) - 1=(k:Int):=by omega
      have e5:(k:Int)<(n:Int):=by omega
      have e6:IntKind.i64.wrap (k:Int)=(k:Int):=by rw [IntKind.wrap_i64];omega
      have e7:k<n:=by omega
      have HS2:=hide (show slot ah n=if ah k then slot ah k else j by rw [← HS.out,hk];rfl)
      have HK:=hide hk
      clear hk h0
      generalize ah k=bb at *
      go_wp2
      go_quiet (exact quiet_at (hcall.out _))
      cases bb with
      | true =>
        go_wp2
        refine ⟨⟨k,m+nq,by omega,rfl,?_,rfl⟩,?_⟩
        · have:=HS2.out
          simpa using this.symm
        · have e1:(intOf (.int .i64 (k:Int))).toNat=k:=by simp only [intOf];omega
          have e2:(intOf (.int .i64 (j:Int))).toNat=j:=by simp only [intOf];omega
          have:=HK.out
          omega
      | false =>
        go_wp2_with (go_at_call 103;refine (HI.out _ j hj).mono ?_;rintro e W ⟨gg,cap,rfl,hR,hK,hL,hO⟩;have c3:=hO.cell;have c4:=hO.free;have HX:=hide (And.intro hR (And.intro hK hL));clear hR hK hL hO c1)
        go_end0
        refine ⟨rfl,_,gg,cap,rfl,?_,HX.out.2.1,HX.out.2.2⟩
        have e:slot ah n=j:=HS2.out
        rw [e]
        exact HX.out.1
end

section
open Go.RowKit Go.Sort

def PL.setQ (L:PL) (h g s:Nat) (v:Value) (ys:List Nat):PL:={ L with qv:=fun a b c=>if a=h∧b=g∧c=s then v else L.qv a b c,ob:=fun a b c=>if a=h∧b=g∧c=s then ys else L.ob a b c }
def Mt.setBk (m:Mt) (h g s:Nat) (os:List Od):Mt:={ m with bk:=fun a b c=>if a=h∧b=g∧c=s then os else m.bk a b c }

theorem F_setQ {L:PL} {m:Mt} {h g s:Nat} {v:Value} {ys:List Nat} {os:List Od} {j:Jx} {b:Nat} (e:(L.setQ h g s v ys).F (m.setBk h g s os) j=some b) :
    (L.F m j=some b∧j ≠ .qv h g s∧∀ i,j ≠ .ob h g s i)∨(j = .qv h g s∧v.ownBlock=some b)∨∃ i,j = .ob h g s i∧ys[i]? = some b:=by
  rcases j with _ | _ | _ | a | ⟨a,c,d⟩ | ⟨a,c,d⟩ | ⟨a,c,d,i⟩
  · exact .inl ⟨e,by simp,by simp⟩
  · exact .inl ⟨e,by simp,by simp⟩
  · exact .inl ⟨e,by simp,by simp⟩
  · exact .inl ⟨e,by simp,by simp⟩
  · exact .inl ⟨e,by simp,by simp⟩
  · by_cases q:a=h∧c=g∧d=s
    · obtain ⟨rfl,rfl,rfl⟩:=q
      refine .inr (.inl ⟨rfl,?_⟩)
      simp only [PL.F] at e
      split at e
      · simpa [PL.setQ] using e
      · cases e
    · refine .inl ⟨?_,fun k=>q (by simpa using k),by simp⟩
      simp only [PL.F] at e ⊢
      split at e
      · rename_i q3
        have q3':at3 m a c d:=q3
        rw [if_pos q3']
        simpa [PL.setQ,q] using e
      · cases e
  · by_cases q:a=h∧c=g∧d=s
    · obtain ⟨rfl,rfl,rfl⟩:=q
      refine .inr (.inr ⟨i,rfl,?_⟩)
      simp only [PL.F] at e
      split at e
      · simpa [PL.setQ] using e
      · cases e
    · refine .inl ⟨?_,by simp,fun i' k=>q (by have:=k;simp at this;exact ⟨this.1,this.2.1,this.2.2.1⟩)⟩
      simp only [PL.F] at e ⊢
      split at e
      · rename_i q3
        have q3':at3 m a c d:=q3
        rw [if_pos q3']
        simpa [PL.setQ,q] using e
      · cases e

theorem PRep.setQ {w w':World} {L:PL} {m:Mt} (R:PRep w L m) (hlt:∀ b,L.S m b→b<w.heap.size) (hrb:L.rb<w.heap.size∧L.bb<w.heap.size) {h g s:Nat} (q0:at3 m h g s) (k:Kep (fun b=>b=L.qb h g s∨(L.qv h g s).ownBlock=some b) w w') {v:Value} {ys:List Nat} {os:List Od}
    (c1:Own w' ⟨L.qb h g s,1,none⟩ v) (c0:w'.cell? ⟨L.qb h g s,0,none⟩=some (aheadFn s)) (hr:w'.ownsRow 0 94 1 v ys.length (ys.map optr)) (hl:ys.length=os.length)
    (hoc:∀ (i b:Nat) (o:Od),ys[i]? = some b→os[i]? = some o→∀ j u,o.cells[j]? = some u→Own w' ⟨b,j,none⟩ u) (hoz:∀ i b:Nat,ys[i]? = some b→Plain w' b)
    (hv:∀ b,v.ownBlock=some b→(L.qv h g s).ownBlock=some b∨w.heap.size≤b)
    (hys:∀ i b:Nat,ys[i]? = some b→(∃ i':Nat,(L.ob h g s)[i']? = some b)∨(¬ L.S m b∧b≠L.rb∧b≠L.bb∧v.ownBlock≠some b)) (nd:∀ i j b:Nat,ys[i]? = some b→ys[j]? = some b→i=j) :
    PRep w' (L.setQ h g s v ys) (m.setBk h g s os):=by
  have eQv:L.F m (.qv h g s)=(L.qv h g s).ownBlock:=by simp [PL.F,q0]
  have eQb:L.F m (.qb h g s)=some (L.qb h g s):=by simp [PL.F,q0]
  have eOb:∀ i:Nat,L.F m (.ob h g s i)=(L.ob h g s)[i]?:=fun i=>by simp [PL.F,q0]
  have out:∀ {j:Jx} {b:Nat},L.F m j=some b→j ≠ .qb h g s→j ≠ .qv h g s→¬ (b=L.qb h g s∨(L.qv h g s).ownBlock=some b):=fun {j b} hj n1 n2 q=>by
    rcases q with q | q
    · exact n1 (R.inj j _ b hj (by rw [eQb,q]))
    · exact n2 (R.inj j _ b hj (by rw [eQv,q]))
  have a1:=out (j:=.x) (b:=L.x) rfl (by simp) (by simp)
  have a2:=out (j:=.ab) (b:=L.ab) rfl (by simp) (by simp)
  have a3:∀ i,i<m.H→¬ (L.gb i=L.qb h g s∨(L.qv h g s).ownBlock=some (L.gb i)):=fun i hi=>out (j:=.gb i) (by simp [PL.F,hi]) (by simp) (by simp)
  have a4:∀ a b c,at3 m a b c→¬ (a=h∧b=g∧c=s)→¬ (L.qb a b c=L.qb h g s∨(L.qv h g s).ownBlock=some (L.qb a b c)):=fun a b c q n=>out (j:=.qb a b c) (by simp [PL.F,q]) (fun e=>n (by simpa using e)) (by simp)
  have a5:∀ a b c x,at3 m a b c→¬ (a=h∧b=g∧c=s)→(L.qv a b c).ownBlock=some x→¬ (x=L.qb h g s∨(L.qv h g s).ownBlock=some x):=fun a b c x q n e=>out (j:=.qv a b c) (by simp [PL.F,q,e]) (by simp) (fun e=>n (by simpa using e))
  have a6:∀ a b c n x:Nat,at3 m a b c→(L.ob a b c)[n]? = some x→¬ (x=L.qb h g s∨(L.qv h g s).ownBlock=some x):=fun a b c n x q e=>out (j:=.ob a b c n) (by simp [PL.F,q,e]) (by simp) (by simp)
  have a7:¬ (L.rb=L.qb h g s∨(L.qv h g s).ownBlock=some L.rb):=fun q=>R.nrb (q.elim (fun q=>⟨.qb h g s,by rw [eQb,q]⟩) (fun q=>⟨.qv h g s,by rw [eQv,q]⟩))
  have a8:¬ (L.bb=L.qb h g s∨(L.qv h g s).ownBlock=some L.bb):=fun q=>R.nbb (q.elim (fun q=>⟨.qb h g s,by rw [eQb,q]⟩) (fun q=>⟨.qv h g s,by rw [eQv,q]⟩))
  have nS:∀ b,b=L.rb∨b=L.bb→¬ (L.setQ h g s v ys).S (m.setBk h g s os) b:=by
    rintro b hb ⟨j,hj⟩
    have hbS:¬ L.S m b:=by rcases hb with rfl | rfl;exact R.nrb;exact R.nbb
    have hbl:b<w.heap.size:=by rcases hb with rfl | rfl;exact hrb.1;exact hrb.2
    rcases F_setQ hj with ⟨e,_,_⟩ | ⟨_,e⟩ | ⟨i,_,e⟩
    · exact hbS ⟨j,e⟩
    · rcases hv b e with q | q
      · exact hbS ⟨.qv h g s,by rw [eQv,q]⟩
      · omega
    · rcases hys i b e with ⟨i',q⟩ | ⟨_,q1,q2,_⟩
      · exact hbS ⟨.ob h g s i',by rw [eOb,q]⟩
      · exact hb.elim q1 q2
  refine ⟨R.cG.kep k a1,R.cR.kep k a1,R.cA.kep k a1,R.cL.kep k a1,R.cB.kep k a1,R.cN.kep k a1,R.cH.kep k a1,R.cTm.kep k a1,fun i hi=>k.cell (R.rt i hi) a7,fun t ht=>(R.mo t ht).kep k a2,fun t i g ht hi hg=>(R.pc t i g ht hi hg).kep k a2,
    ownsRow_kep R.ld k (fun b hb=>out (j:=.lv) hb (by simp) (by simp)),fun i hi=>k.cell (R.bks i hi) a8,fun i g s q=>(R.sd i g s q).kep k (a3 i q.1),fun i g hi hg=>(R.la i g hi hg).kep k (a3 i hi),fun i g hi hg=>(R.pi i g hi hg).kep k (a3 i hi),fun i g hi hg=>(R.am i g hi hg).kep k (a3 i hi),
    fun a b c q=>?_,fun a b c q=>?_,fun a b c q=>?_,fun a b c q=>?_,fun a b c n x o q e1 e2=>?_,fun a b c n x q e=>?_,fun i j b h1 h2=>?_,nS _ (.inl rfl),nS _ (.inr rfl)⟩
  · by_cases e:a=h∧b=g∧c=s
    · obtain ⟨rfl,rfl,rfl⟩:=e
      exact c0
    · exact k.cell (R.q0 a b c q) (a4 a b c q e)
  · by_cases e:a=h∧b=g∧c=s
    · obtain ⟨rfl,rfl,rfl⟩:=e
      simpa [PL.setQ] using c1
    · simpa [PL.setQ,e] using (R.q1 a b c q).kep k (a4 a b c q e)
  · by_cases e:a=h∧b=g∧c=s
    · obtain ⟨rfl,rfl,rfl⟩:=e
      simpa [PL.setQ] using hr
    · simpa [PL.setQ,e] using ownsRow_kep (R.qr a b c q) k (fun x hx=>a5 a b c x q e hx)
  · by_cases e:a=h∧b=g∧c=s
    · obtain ⟨rfl,rfl,rfl⟩:=e
      simpa [PL.setQ,Mt.setBk] using hl
    · simpa [PL.setQ,Mt.setBk,e] using R.ln a b c q
  · by_cases e:a=h∧b=g∧c=s
    · obtain ⟨rfl,rfl,rfl⟩:=e
      exact hoc n x o (by simpa [PL.setQ] using e1) (by simpa [Mt.setBk] using e2)
    · have e1':(L.ob a b c)[n]? = some x:=by simpa [PL.setQ,e] using e1
      exact fun j u e3=>(R.oc a b c n x o q e1' (by simpa [Mt.setBk,e] using e2) j u e3).kep k (a6 a b c n x q e1')
  · by_cases e':a=h∧b=g∧c=s
    · obtain ⟨rfl,rfl,rfl⟩:=e'
      exact hoz n x (by simpa [PL.setQ] using e)
    · have e1':(L.ob a b c)[n]? = some x:=by simpa [PL.setQ,e'] using e
      exact (R.oz a b c n x q e1').kep k (a6 a b c n x q e1')
  · rcases F_setQ h1 with ⟨p1,n1,n1'⟩ | ⟨rfl,p1⟩ | ⟨i1,rfl,p1⟩
    · rcases F_setQ h2 with ⟨p2,_,_⟩ | ⟨rfl,p2⟩ | ⟨i2,rfl,p2⟩
      · exact R.inj i j b p1 p2
      · rcases hv b p2 with q | q
        · exact R.inj i _ b p1 (by rw [eQv,q])
        · have:=hlt b ⟨i,p1⟩;omega
      · rcases hys i2 b p2 with ⟨i',q⟩ | ⟨q,_⟩
        · exact absurd (R.inj i _ b p1 (by rw [eOb,q])) (n1' i')
        · exact absurd ⟨i,p1⟩ q
    · rcases F_setQ h2 with ⟨p2,_,_⟩ | ⟨rfl,p2⟩ | ⟨i2,rfl,p2⟩
      · rcases hv b p1 with q | q
        · exact R.inj _ j b (by rw [eQv,q]) p2
        · have:=hlt b ⟨j,p2⟩;omega
      · rfl
      · rcases hys i2 b p2 with ⟨i',q⟩ | ⟨_,_,_,q⟩
        · rcases hv b p1 with q1 | q1
          · have:=R.inj (.qv h g s) (.ob h g s i') b (by rw [eQv,q1]) (by rw [eOb,q])
            cases this
          · have:=hlt b ⟨.ob h g s i',by rw [eOb,q]⟩;omega
        · exact absurd p1 q
    · rcases F_setQ h2 with ⟨p2,_,n2'⟩ | ⟨rfl,p2⟩ | ⟨i2,rfl,p2⟩
      · rcases hys i1 b p1 with ⟨i',q⟩ | ⟨q,_⟩
        · exact absurd (R.inj j _ b p2 (by rw [eOb,q])) (n2' i')
        · exact absurd ⟨j,p2⟩ q
      · rcases hys i1 b p1 with ⟨i',q⟩ | ⟨_,_,_,q⟩
        · rcases hv b p2 with q1 | q1
          · have:=R.inj (.qv h g s) (.ob h g s i') b (by rw [eQv,q1]) (by rw [eOb,q])
            cases this
          · have:=hlt b ⟨.ob h g s i',by rw [eOb,q]⟩;omega
        · exact absurd p2 q
      · rw [nd i1 i2 b p1 p2]
end

section
open Go.RowKit Go.Sort

structure QPost (w:World) (L:PL) (m:Mt) (h g s:Nat) (ys:List Nat) (os:List Od) (w':World):Prop where
  kp:Kep (fun b=>b=L.qb h g s∨(L.qv h g s).ownBlock=some b) w w'
  rep:∃ v,PRep w' (L.setQ h g s v ys) (m.setBk h g s os)∧∀ b,v.ownBlock=some b→(L.qv h g s).ownBlock=some b∨w.heap.size≤b

theorem PRep.ob_lt {w:World} {L:PL} {m:Mt} (R:PRep w L m) {h g s:Nat} (q:at3 m h g s):∀ i j b:Nat,(L.ob h g s)[i]? = some b→(L.ob h g s)[j]? = some b→i=j:=fun i j b e1 e2=>by
  have:=R.inj (.ob h g s i) (.ob h g s j) b (by simp [PL.F,q,e1]) (by simp [PL.F,q,e2])
  simpa using this

theorem PRep.qb_ne {w:World} {L:PL} {m:Mt} (R:PRep w L m) {h g s:Nat} (q:at3 m h g s):(L.qv h g s).ownBlock≠some (L.qb h g s):=fun e=>by
  have:=R.inj (.qv h g s) (.qb h g s) _ (by simp only [PL.F,q,if_true];exact e) (by simp [PL.F,q])
  cases this

theorem eraseIdx_get {α:Type} (l:List α) (i j:Nat):(l.eraseIdx i)[j]? = if j<i then l[j]? else l[j+1]?:=by
  rw [List.getElem?_eraseIdx]

theorem remove_q0 (w:World) (L:PL) (m:Mt) (R:PRep w L m) (T1:1≤m.T) (G1:1≤m.G) (H1:1≤m.H) {h g s i x:Nat} (q:at3 m h g s) (hi:(L.ob h g s)[i]? = some x) (h60:(L.ob h g s).length≤1000000) :
    Calls Tryz.prog 102 #[.pointer (some ⟨L.qb h g s,0,none⟩),.pointer (some ⟨x,0,none⟩)] w fun e w'=>e = .returned (.tuple #[])∧QPost w L m h g s ((L.ob h g s).eraseIdx i) ((m.bk h g s).eraseIdx i) w':=by
  have hr:=R.qr h g s q
  have hil:=(List.getElem?_eq_some_iff.1 hi).1
  have hq:=R.q1 h g s q
  have hne:=R.qb_ne q
  rcases hr.2 with ⟨e,e2⟩ | ⟨b,cap,cur,e,_⟩
  · omega
  · rw [e] at hr hq hne
    have hbq:L.qb h g s≠b:=fun k=>hne (by rw [k];rfl)
    refine (remove_any w (L.qb h g s) b _ cap x i (L.ob h g s) hq h60 hr (fun j z hz=>R.oz h g s j z q hz) hi (fun j hj k=>by have:=R.ob_lt q j i x k hi;omega) hbq).mono ?_
    rintro en w' ⟨rfl,W,rfl,hR,hK⟩
    refine ⟨rfl,?_⟩
    have el:((L.ob h g s).eraseIdx i).length=(L.ob h g s).length - 1:=List.length_eraseIdx_of_lt hil
    have em:((m.bk h g s).eraseIdx i).length=(m.bk h g s).length - 1:=List.length_eraseIdx_of_lt (by rw [← R.ln h g s q];exact hil)
    have hb:(L.qv h g s).ownBlock=some b:=by rw [e];rfl
    have kW:Kep (fun k=>k=L.qb h g s∨(L.qv h g s).ownBlock=some k) w W:=hK.mono (fun k hk=>.inl (.inr (by rw [hb,hk])))
    have k2:Kep (fun k=>k=L.qb h g s∨(L.qv h g s).ownBlock=some k) w (W.setCell ⟨L.qb h g s,1,none⟩ (.slice (some ⟨b,0,none⟩) ((L.ob h g s).length - 1) cap)):=kW.setCell (p:=⟨L.qb h g s,1,none⟩) (.inl (.inl rfl)) _
    refine ⟨k2,_,R.setQ (R.lt T1 G1) (R.rblt H1) q k2 ((hq.kep hK hbq).set rfl _) ?_ (by rw [el];exact ownsRow_setCell_other hR (fun k=>hbq (by injection k with k;exact k.symm)) _) (by rw [el,em,R.ln h g s q]) ?_ ?_ ?_ ?_ ?_,?_⟩
    · rw [World.cell?_setCell_other _ _ _ _ (by simp)]
      exact hK.cell (R.q0 h g s q) hbq
    · intro n y o e1 e2 j u e3
      rw [eraseIdx_get] at e1 e2
      have key:∀ n',(L.ob h g s)[n']? = some y→(m.bk h g s)[n']? = some o→Own (W.setCell ⟨L.qb h g s,1,none⟩ (.slice (some ⟨b,0,none⟩) ((L.ob h g s).length - 1) cap)) ⟨y,j,none⟩ u:=fun n' f1 f2 =>
        (R.oc h g s n' y o q f1 f2 j u e3).kep k2 (fun k=>by
          rcases k with k | k
          · have:=R.inj (.ob h g s n') (.qb h g s) y (by simp [PL.F,q,f1]) (by simp [PL.F,q];exact k.symm)
            cases this
          · have:=R.inj (.ob h g s n') (.qv h g s) y (by simp [PL.F,q,f1]) (by simp [PL.F,q];exact k)
            cases this)
      split at e1
      · rename_i hlt
        rw [if_pos hlt] at e2
        exact key n e1 e2
      · rename_i hlt
        rw [if_neg hlt] at e2
        exact key (n+1) e1 e2
    · intro n y e1
      have key:∀ n',(L.ob h g s)[n']? = some y→Plain (W.setCell ⟨L.qb h g s,1,none⟩ (.slice (some ⟨b,0,none⟩) ((L.ob h g s).length - 1) cap)) y:=fun n' f1 =>
        (R.oz h g s n' y q f1).kep k2 (fun k=>by
          rcases k with k | k
          · have:=R.inj (.ob h g s n') (.qb h g s) y (by simp [PL.F,q,f1]) (by simp [PL.F,q];exact k.symm)
            cases this
          · have:=R.inj (.ob h g s n') (.qv h g s) y (by simp [PL.F,q,f1]) (by simp [PL.F,q];exact k)
            cases this)
      rw [eraseIdx_get] at e1
      split at e1
      · exact key n e1
      · exact key (n+1) e1
    · intro k hk
      exact .inl (by rw [hb];exact hk)
    · intro n y e1
      rw [eraseIdx_get] at e1
      split at e1
      · exact .inl ⟨n,e1⟩
      · exact .inl ⟨n+1,e1⟩
    · intro n n' y e1 e2
      rw [eraseIdx_get] at e1 e2
      split at e1 <;> split at e2 <;> (have:=R.ob_lt q _ _ y e1 e2;omega)
    · intro k hk
      exact .inl (by rw [hb];exact hk)

theorem remove_q (w:World) (L:PL) (m:Mt) (N:Int) (R:PRep w L m) (ok:m.Ok N) {h g s i x:Nat} (q:at3 m h g s) (hi:(L.ob h g s)[i]? = some x) (h60:(L.ob h g s).length≤1000000) :
    Calls Tryz.prog 102 #[.pointer (some ⟨L.qb h g s,0,none⟩),.pointer (some ⟨x,0,none⟩)] w fun e w'=>e = .returned (.tuple #[])∧QPost w L m h g s ((L.ob h g s).eraseIdx i) ((m.bk h g s).eraseIdx i) w' :=
  remove_q0 w L m R ok.T1 ok.G1 ok.H1 q hi h60

def ahAt (os:List Od) (s:Nat) (o:Od) (j:Nat):Bool:=match os[j]? with | some z=>aheadB s o z | none=>false

theorem aheadFn_eq (s:Nat):aheadFn s = .func (.func (aheadF s)) #[] #[]:=by
  unfold aheadFn aheadF
  split <;> rfl

theorem add_q (w:World) (L:PL) (m:Mt) (N:Int) (R:PRep w L m) (ok:m.Ok N) {h g s x:Nat} (o:Od) (q:at3 m h g s) (hx:OdAt w x o) (hp:Plain w x) (hxS:¬ L.S m x) (hxr:x≠L.rb) (hxb:x≠L.bb) (h60:(L.ob h g s).length≤1000000) :
    Calls Tryz.prog 46 #[.pointer (some ⟨L.qb h g s,0,none⟩),.pointer (some ⟨x,0,none⟩)] w fun e w'=>e = .returned (.tuple #[])∧QPost w L m h g s (putAt (L.ob h g s) (slot (ahAt (m.bk h g s) s o) (L.ob h g s).length) x) (putAt (m.bk h g s) (slot (ahAt (m.bk h g s) s o) (L.ob h g s).length) o) w':=by
  have hr:=R.qr h g s q
  have hq:=R.q1 h g s q
  have hne:=R.qb_ne q
  obtain ⟨a,c,e⟩:=R.qvform q
  have c0:=R.q0 h g s q
  rw [aheadFn_eq] at c0
  have hln:=R.ln h g s q
  have hlt:=R.lt ok.T1 ok.G1
  generalize hn:(L.ob h g s).length=n at *
  rw [e] at hr hq hne
  have hS:∀ b,(L.qv h g s).ownBlock=some b→L.S m b:=fun b hb=>⟨.qv h g s,by simp [PL.F,q,hb]⟩
  refine (add_any w (L.qb h g s) n c x (aheadF s) a (L.ob h g s) (ahAt (m.bk h g s) s o) c0 hq h60 hr hne (ahead_enters s) (fun mm j z hz=>?_)).mono ?_
  · have hj:j<(m.bk h g s).length:=by have:=(List.getElem?_eq_some_iff.1 hz).1;omega
    have hz2:(m.bk h g s)[j]? = some (m.bk h g s)[j]:=List.getElem?_eq_getElem hj
    have hk:Kep non w (w.drewN mm):=(Kep.refl non w).drewN mm
    have:=ahead_any s q.2.2 (w.drewN mm) x z o _ (fun i v hv=>(hx i v hv).kep hk (fun f=>f)) (fun i v hv=>(R.oc h g s j z _ q hz hz2 i v hv).kep hk (fun f=>f))
    have ea:ahAt (m.bk h g s) s o j=aheadB s o (m.bk h g s)[j]:=by simp only [ahAt,hz2]
    rw [ea]
    exact this
  · rintro en w' ⟨rfl,W,gg,cap,rfl,hR,hK,hg⟩
    refine ⟨rfl,?_⟩
    have hsl:slot (ahAt (m.bk h g s) s o) n≤n:=slot_le _ _
    generalize slot (ahAt (m.bk h g s) s o) n=i at *
    rw [← e] at hK hg hne
    have el:(putAt (L.ob h g s) i x).length=n+1:=by rw [putAt_length _ _ _ (by omega),hn]
    have em:(putAt (m.bk h g s) i o).length=n+1:=by rw [putAt_length _ _ _ (by omega),← hln]
    have kW:Kep (fun k=>k=L.qb h g s∨(L.qv h g s).ownBlock=some k) w W:=hK.mono (fun k hk=>.inl (.inr hk))
    have hqb:L.qb h g s<w.heap.size:=hq.lt
    have hgq:gg≠L.qb h g s:=fun k=>by
      rcases hg with f | f
      · exact hne (by rw [← k];exact f)
      · omega
    have k2:Kep (fun k=>k=L.qb h g s∨(L.qv h g s).ownBlock=some k) w (W.setCell ⟨L.qb h g s,1,none⟩ (.slice (some ⟨gg,0,none⟩) (n+1) cap)):=kW.setCell (p:=⟨L.qb h g s,1,none⟩) (.inl (.inl rfl)) _
    have hxn:¬ (x=L.qb h g s∨(L.qv h g s).ownBlock=some x):=fun f=>by
      rcases f with f | f
      · exact hxS ⟨.qb h g s,by simp [PL.F,q,f]⟩
      · exact hxS (hS _ f)
    have hob:∀ n' y:Nat,(L.ob h g s)[n']? = some y→¬ (y=L.qb h g s∨(L.qv h g s).ownBlock=some y):=fun n' y f1 f=>by
      rcases f with f | f
      · have:=R.inj (.ob h g s n') (.qb h g s) y (by simp only [PL.F,q,if_true];exact f1) (by simp [PL.F,q];exact f.symm)
        cases this
      · have:=R.inj (.ob h g s n') (.qv h g s) y (by simp only [PL.F,q,if_true];exact f1) (by simp [PL.F,q];exact f)
        cases this
    have hobx:∀ n',(L.ob h g s)[n']? ≠ some x:=fun n' f=>hxS ⟨.ob h g s n',by simp [PL.F,q,f]⟩
    have hv:∀ b,Value.ownBlock (.slice (some ⟨gg,0,none⟩) (n+1) cap)=some b→(L.qv h g s).ownBlock=some b∨w.heap.size≤b:=fun b hb=>by
      obtain rfl:gg=b:=by simpa [Value.ownBlock] using hb
      exact hg
    have oq:Own W ⟨L.qb h g s,1,none⟩ (L.qv h g s):=(R.q1 h g s q).kep hK hne
    refine ⟨k2,_,R.setQ hlt (R.rblt ok.H1) q k2 (oq.set rfl _) ?_ (by rw [el];exact ownsRow_setCell_other hR (fun k=>hgq (by injection k)) _) (by rw [el,em]) ?_ ?_ hv ?_ ?_,hv⟩
    · rw [World.cell?_setCell_other _ _ _ _ (by simp)]
      exact hK.cell (R.q0 h g s q) hne
    · intro n' y z e1 e2 j u e3
      rw [putAt_get _ _ _ _ (by omega)] at e1 e2
      split at e1
      · rename_i hl1
        rw [if_pos hl1] at e2
        exact (R.oc h g s n' y z q e1 e2 j u e3).kep k2 (hob n' y e1)
      · rename_i hl1
        rw [if_neg hl1] at e2
        split at e1
        · rename_i hl2
          rw [if_pos hl2] at e2
          obtain rfl:x=y:=by simpa using e1
          obtain rfl:o=z:=by simpa using e2
          exact (hx j u e3).kep k2 hxn
        · rename_i hl2
          rw [if_neg hl2] at e2
          exact (R.oc h g s _ y z q e1 e2 j u e3).kep k2 (hob _ y e1)
    · intro n' y e1
      rw [putAt_get _ _ _ _ (by omega)] at e1
      split at e1
      · exact (R.oz h g s n' y q e1).kep k2 (hob n' y e1)
      · split at e1
        · obtain rfl:x=y:=by simpa using e1
          exact hp.kep k2 hxn
        · exact (R.oz h g s _ y q e1).kep k2 (hob _ y e1)
    · intro n' y e1
      rw [putAt_get _ _ _ _ (by omega)] at e1
      split at e1
      · exact .inl ⟨n',e1⟩
      · split at e1
        · obtain rfl:x=y:=by simpa using e1
          refine .inr ⟨hxS,hxr,hxb,fun f=>?_⟩
          rcases hv x f with f | f
          · exact hxS (hS _ f)
          · have:=hp.lt;omega
        · exact .inl ⟨_,e1⟩
    · intro n1 n2 y e1 e2
      rw [putAt_get _ _ _ _ (by omega)] at e1 e2
      split at e1
      · split at e2
        · exact R.ob_lt q _ _ y e1 e2
        · split at e2
          · obtain rfl:x=y:=by simpa using e2
            exact absurd e1 (hobx _)
          · have:=R.ob_lt q _ _ y e1 e2;omega
      · split at e1
        · obtain rfl:x=y:=by simpa using e1
          split at e2
          · exact absurd e2 (hobx _)
          · split at e2
            · omega
            · exact absurd e2 (hobx _)
        · split at e2
          · have:=R.ob_lt q _ _ y e1 e2;omega
          · split at e2
            · obtain rfl:x=y:=by simpa using e2
              exact absurd e1 (hobx _)
            · have:=R.ob_lt q _ _ y e1 e2;omega
end

section
open Go.RowKit Go.Sort

set_option maxHeartbeats 1000000 in
set_option maxRecDepth 100000 in
theorem hold_buy (w:World) (L:PL) (m:Mt) (R:PRep w L m) (b t:Nat) (o:Od) (ho:OdAt w b o) (et:o.t=t) (ht:t<m.T) (bm:0≤m.mo t∧m.mo t≤10000000000000) (es:o.s=0) (hp:0≤o.p∧o.p≤100000) (hq:0≤o.q∧o.q≤10000) :
    Calls Tryz.prog 43 #[.pointer (some ⟨L.x,0,none⟩),.pointer (some ⟨b,0,none⟩)] w fun e w'=>e = .returned (.tuple #[])∧∃ k,w'=(w.drewN k).setCell ⟨L.ab,t * 17,none⟩ (.int .i64 (m.mo t - o.p * o.q)):=by
  have c2:=R.cA.cell
  obtain ⟨cm,cf⟩:=R.mo t ht
  obtain ⟨bm0,bm1⟩:=bm
  have o1:=(ho 1 _ rfl).cell
  have o4:=(ho 4 _ rfl).cell
  have o5:=(ho 5 _ rfl).cell
  have o6:=(ho 6 _ rfl).cell
  rw [et] at o1
  rw [es] at o4
  have hb:=mul_le' (a:=o.p) (b:=o.q) (A:=100000) (B:=10000) hp.1 hp.2 hq.1 hq.2
  obtain ⟨hb0,hb1⟩:=hb
  have w1:IntKind.i64.wrap (o.p * o.q)=o.p * o.q:=by rw [IntKind.wrap_i64];omega
  have w2:IntKind.i64.wrap (m.mo t - o.p * o.q)=m.mo t - o.p * o.q:=by rw [IntKind.wrap_i64];omega
  have ht':(t:Int)<(m.T:Int):=by omega
  have hmx:=mixed
  clear ho et es
  go_enter Tryz.func43,Tryz.ntmps43
  go_wp2
  go_quiet (fail)
  go_wp2
  go_region
  go_wp2
  go_end0
  exact ⟨rfl,_,rfl⟩

set_option maxHeartbeats 1000000 in
set_option maxRecDepth 100000 in
theorem hold_sell (w:World) (L:PL) (m:Mt) (R:PRep w L m) (b t h g:Nat) (o:Od) (ho:OdAt w b o) (et:o.t=t) (eh:o.h=h) (eg:o.g=g) (ht:t<m.T) (hh:h<4) (hg:g<4) (bm:0≤m.pc t h g∧m.pc t h g≤10000000000000) (es:o.s=1) (hq:0≤o.q∧o.q≤10000) :
    Calls Tryz.prog 43 #[.pointer (some ⟨L.x,0,none⟩),.pointer (some ⟨b,0,none⟩)] w fun e w'=>e = .returned (.tuple #[])∧∃ k,w'=(w.drewN k).setCell ⟨L.ab,t * 17+1+h * 4+g,none⟩ (.int .i64 (m.pc t h g - o.q)):=by
  have c2:=R.cA.cell
  obtain ⟨cm,cf⟩:=R.pc t h g ht hh hg
  obtain ⟨bm0,bm1⟩:=bm
  have o1:=(ho 1 _ rfl).cell
  have o2:=(ho 2 _ rfl).cell
  have o3:=(ho 3 _ rfl).cell
  have o4:=(ho 4 _ rfl).cell
  have o6:=(ho 6 _ rfl).cell
  rw [et] at o1
  rw [eh] at o2
  rw [eg] at o3
  rw [es] at o4
  obtain ⟨hq0,hq1⟩:=hq
  have w2:IntKind.i64.wrap (m.pc t h g - o.q)=m.pc t h g - o.q:=by rw [IntKind.wrap_i64];omega
  have ht':(t:Int)<(m.T:Int):=by omega
  have hh':(h:Int)<4:=by omega
  have hg':(g:Int)<4:=by omega
  have hmx:=mixed
  clear ho et es eh eg
  go_enter Tryz.func43,Tryz.ntmps43
  go_wp2
  go_quiet (fail)
  go_wp2
  go_region
  go_wp2
  go_end0
  exact ⟨rfl,_,rfl⟩

set_option maxHeartbeats 1000000 in
set_option maxRecDepth 100000 in
theorem release_buy (w:World) (L:PL) (m:Mt) (R:PRep w L m) (b t:Nat) (o:Od) (ho:OdAt w b o) (et:o.t=t) (ht:t<m.T) (bm:0≤m.mo t∧m.mo t≤10000000000000) (es:o.s=0) (hp:0≤o.p∧o.p≤100000) (hq:0≤o.q∧o.q≤10000) :
    Calls Tryz.prog 47 #[.pointer (some ⟨L.x,0,none⟩),.pointer (some ⟨b,0,none⟩)] w fun e w'=>e = .returned (.tuple #[])∧∃ k,w'=(w.drewN k).setCell ⟨L.ab,t * 17,none⟩ (.int .i64 (m.mo t+o.p * o.q)):=by
  have c2:=R.cA.cell
  obtain ⟨cm,cf⟩:=R.mo t ht
  obtain ⟨bm0,bm1⟩:=bm
  have o1:=(ho 1 _ rfl).cell
  have o4:=(ho 4 _ rfl).cell
  have o5:=(ho 5 _ rfl).cell
  have o6:=(ho 6 _ rfl).cell
  rw [et] at o1
  rw [es] at o4
  have hb:=mul_le' (a:=o.p) (b:=o.q) (A:=100000) (B:=10000) hp.1 hp.2 hq.1 hq.2
  obtain ⟨hb0,hb1⟩:=hb
  have w1:IntKind.i64.wrap (o.p * o.q)=o.p * o.q:=by rw [IntKind.wrap_i64];omega
  have w2:IntKind.i64.wrap (m.mo t+o.p * o.q)=m.mo t+o.p * o.q:=by rw [IntKind.wrap_i64];omega
  have ht':(t:Int)<(m.T:Int):=by omega
  have hmx:=mixed
  clear ho et es
  go_enter Tryz.func47,Tryz.ntmps47
  go_wp2
  go_quiet (fail)
  go_wp2
  go_region
  go_wp2
  go_end0
  exact ⟨rfl,_,rfl⟩

set_option maxHeartbeats 1000000 in
set_option maxRecDepth 100000 in
theorem release_sell (w:World) (L:PL) (m:Mt) (R:PRep w L m) (b t h g:Nat) (o:Od) (ho:OdAt w b o) (et:o.t=t) (eh:o.h=h) (eg:o.g=g) (ht:t<m.T) (hh:h<4) (hg:g<4) (bm:0≤m.pc t h g∧m.pc t h g≤10000000000000) (es:o.s=1) (hq:0≤o.q∧o.q≤10000) :
    Calls Tryz.prog 47 #[.pointer (some ⟨L.x,0,none⟩),.pointer (some ⟨b,0,none⟩)] w fun e w'=>e = .returned (.tuple #[])∧∃ k,w'=(w.drewN k).setCell ⟨L.ab,t * 17+1+h * 4+g,none⟩ (.int .i64 (m.pc t h g+o.q)):=by
  have c2:=R.cA.cell
  obtain ⟨cm,cf⟩:=R.pc t h g ht hh hg
  obtain ⟨bm0,bm1⟩:=bm
  have o1:=(ho 1 _ rfl).cell
  have o2:=(ho 2 _ rfl).cell
  have o3:=(ho 3 _ rfl).cell
  have o4:=(ho 4 _ rfl).cell
  have o6:=(ho 6 _ rfl).cell
  rw [et] at o1
  rw [eh] at o2
  rw [eg] at o3
  rw [es] at o4
  obtain ⟨hq0,hq1⟩:=hq
  have w2:IntKind.i64.wrap (m.pc t h g+o.q)=m.pc t h g+o.q:=by rw [IntKind.wrap_i64];omega
  have ht':(t:Int)<(m.T:Int):=by omega
  have hh':(h:Int)<4:=by omega
  have hg':(g:Int)<4:=by omega
  have hmx:=mixed
  clear ho et es eh eg
  go_enter Tryz.func47,Tryz.ntmps47
  go_wp2
  go_quiet (fail)
  go_wp2
  go_region
  go_wp2
  go_end0
  exact ⟨rfl,_,rfl⟩
end

section
open Go.RowKit Go.Sort

set_option maxHeartbeats 1000000 in
set_option maxRecDepth 100000 in
theorem bookOf_any (w:World) (L:PL) (m:Mt) (R:PRep w L m) (b h g:Nat) (o:Od) (ho:OdAt w b o) (eh:o.h=h) (eg:o.g=g) (hh:h<m.H) (hg:g<m.G) :
    Calls Tryz.prog 96 #[.pointer (some ⟨L.x,0,none⟩),.pointer (some ⟨b,0,none⟩)] w fun e w'=>e = .returned (.pointer (some ⟨L.gb h,g * 5,none⟩))∧∃ k,w'=w.drewN k:=by
  have c4:=R.cB.cell
  have cb:=R.bks h hh
  have o2:=(ho 2 _ rfl).cell
  have o3:=(ho 3 _ rfl).cell
  rw [eh] at o2
  rw [eg] at o3
  have hh':(h:Int)<(m.H:Int):=by omega
  have hg':(g:Int)<(m.G:Int):=by omega
  clear ho eh eg
  go_enter Tryz.func96,Tryz.ntmps96
  go_wp2
  go_quiet (fail)
  go_wp2
  go_ret
  exact ⟨rfl,_,rfl⟩

set_option maxHeartbeats 1000000 in
set_option maxRecDepth 100000 in
theorem sideOf_any (w:World) (L:PL) (m:Mt) (R:PRep w L m) (b h g s:Nat) (o:Od) (ho:OdAt w b o) (eh:o.h=h) (eg:o.g=g) (es:o.s=s) (q:at3 m h g s) :
    Calls Tryz.prog 45 #[.pointer (some ⟨L.x,0,none⟩),.pointer (some ⟨b,0,none⟩)] w fun e w'=>e = .returned (.pointer (some ⟨L.qb h g s,0,none⟩))∧∃ k,w'=w.drewN k:=by
  have HB:=hide (show ∀ k,Calls Tryz.prog 96 #[.pointer (some ⟨L.x,0,none⟩),.pointer (some ⟨b,0,none⟩)] (w.drewN k) fun e w'=>e = .returned (.pointer (some ⟨L.gb h,g * 5,none⟩))∧∃ n,w'=(w.drewN k).drewN n from fun k =>
    bookOf_any _ L m (R.later ((Kep.refl non w).drewN k)) b h g o (fun j v hv=>(ho j v hv).kep ((Kep.refl non w).drewN k) (fun f=>f)) eh eg q.1 q.2.1)
  have o4:=(ho 4 _ rfl).cell
  rw [es] at o4
  have cs:=(R.sd h g s q).cell
  have hs2:(s:Int)<2:=by have:=q.2.2;omega
  clear ho eh eg es
  go_enter Tryz.func45,Tryz.ntmps45
  go_wp2
  go_quiet (exact Calls.quiet_of (HB.out _))
  go_wp2
  go_ret
  exact ⟨rfl,_,rfl⟩

set_option maxHeartbeats 1000000 in
set_option maxRecDepth 100000 in
theorem note_any (w:World) (B off:Nat) (la pi am a0 a1 a2 p q f:Int) (h2:Own w ⟨B,off+2,none⟩ (.int .i64 la)) (h3:Own w ⟨B,off+3,none⟩ (.int .i64 pi)) (h4:Own w ⟨B,off+4,none⟩ (.int .i64 am)) (hpi:0≤pi∧pi≤1000000000000) (ham:0≤am∧am≤1000000000000000000) (hp:0≤p∧p≤100000) (hq:0≤q∧q≤10000) :
    Calls Tryz.prog 101 #[.pointer (some ⟨B,off,none⟩),.agg #[.int .i64 a0,.int .i64 a1,.int .i64 a2,.int .i64 p,.int .i64 q,.int .i64 f]] w fun e w'=>e = .returned (.tuple #[]) ∧
      w'=((((w.setCell ⟨B,off+2,none⟩ (.int .i64 p)).setCell ⟨B,off+3,none⟩ (.int .i64 (pi+q))).setCell ⟨B,off+4,none⟩ (.int .i64 (am+p * q))).alloc (.cells #[.int .i64 a0,.int .i64 a1,.int .i64 a2,.int .i64 p,.int .i64 q,.int .i64 f] 67)).drewN 2:=by
  obtain ⟨c2,f2⟩:=h2
  obtain ⟨c3,f3⟩:=h3
  obtain ⟨c4,f4⟩:=h4
  have hlt:B<w.heap.size:=World.block_lt_of_cell? w _ c2
  have hb:=mul_le' (a:=p) (b:=q) (A:=100000) (B:=10000) hp.1 hp.2 hq.1 hq.2
  obtain ⟨hb0,hb1⟩:=hb
  have w1:IntKind.i64.wrap (p * q)=p * q:=by rw [IntKind.wrap_i64];omega
  have w2:IntKind.i64.wrap (pi+q)=pi+q:=by rw [IntKind.wrap_i64];omega
  have w3:IntKind.i64.wrap (am+p * q)=am+p * q:=by rw [IntKind.wrap_i64];omega
  have hmx:=mixed
  go_enter Tryz.func101,Tryz.ntmps101
  go_wp2
  go_region
  go_wp2
  go_region
  go_wp2
  go_end0
  exact ⟨rfl,rfl⟩
end

end Go.Proofs.YtcfoobhihhndjaaGreat
