
import Derived.Test.YtcfoobhihhndjaaGreatB23
import Derived.Test.YtcfoobhihhndjaaGreatB28
namespace Go.Proofs.YtcfoobhihhndjaaGreat

section
open Go.RowKit Go.Sort

def matchL:List Od→Od→List Od × Int
  | [],o=>([],o.q)
  | z :: r,o =>
    if o.q≤0 then (z :: r,o.q)
    else if pfits o z=false then (z :: r,o.q)
    else if z.t=o.t then matchL r o
    else if z.q - min o.q z.q=0 then matchL r { o with q:=o.q - min o.q z.q }
    else ({ z with q:=z.q - min o.q z.q } :: r,o.q - min o.q z.q)

theorem one_bkJ (m:Mt) (h g s:Nat) (hs:s<2) (o z:Od) (n p q:Int):(noteM (oneM m h g s o z n) h g p q).bk=(m.setBk h g s ((m.bk h g s).set 0 { z with q:=z.q - n })).bk:=by
  unfold oneM
  rcases s with _ | _ | s
  · rw [if_neg (by omega)];rfl
  · rw [if_pos rfl];rfl
  · omega

theorem setBk_bk {m m':Mt} (h:m'.bk=m.bk) (a b c:Nat) (l:List Od):(m'.setBk a b c l).bk=(m.setBk a b c l).bk:=by
  unfold Mt.setBk
  simp only [h]
theorem setBk_twice (m:Mt) (a b c:Nat) (k l:List Od):((m.setBk a b c k).setBk a b c l).bk=(m.setBk a b c l).bk:=by
  unfold Mt.setBk
  funext x y z
  simp only []
  split <;> rfl
theorem setBk_sameJ (m:Mt) (a b c:Nat):(m.setBk a b c (m.bk a b c)).bk=m.bk:=by
  unfold Mt.setBk
  funext x y z
  simp only []
  split
  · rename_i e;obtain ⟨rfl,rfl,rfl⟩:=e;rfl
  · rfl
theorem setBk_at (m:Mt) (a b c:Nat) (l:List Od):(m.setBk a b c l).bk a b c=l:=by simp [Mt.setBk]
theorem release_bk (m:Mt) (t h g s:Nat) (o:Od):(releaseM m t h g s o).bk=m.bk:=by unfold releaseM;split <;> rfl

theorem matchM_bk (h g s:Nat) (hs:s<2):∀ (l:List Od) (m:Mt) (o:Od),m.bk h g s=l→(matchM h g s l m o).1.bk=(m.setBk h g s (matchL l o).1).bk∧(matchM h g s l m o).2.1={ o with q:=(matchL l o).2 }
  | [],m,o,hb=>by
    unfold matchM matchL
    refine ⟨?_,rfl⟩
    rw [← hb,setBk_sameJ]
  | z :: r,m,o,hb=>by
    unfold matchM matchL
    by_cases h1:o.q≤0
    · rw [if_pos h1,if_pos h1]
      exact ⟨by rw [← hb,setBk_sameJ],rfl⟩
    · rw [if_neg h1,if_neg h1]
      by_cases h2:pfits o z=false
      · rw [if_pos h2,if_pos h2]
        exact ⟨by rw [← hb,setBk_sameJ],rfl⟩
      · rw [if_neg h2,if_neg h2]
        by_cases h3:z.t=o.t
        · rw [if_pos h3,if_pos h3]
          obtain ⟨i1,i2⟩:=matchM_bk h g s hs r (releaseM (m.setBk h g s r) z.t.toNat h g s z) o (by rw [release_bk,setBk_at])
          exact ⟨by rw [i1,setBk_bk (release_bk _ _ _ _ _ _),setBk_twice],i2⟩
        · rw [if_neg h3,if_neg h3]
          by_cases h4:z.q - min o.q z.q=0
          · rw [if_pos h4,if_pos h4]
            obtain ⟨i1,i2⟩:=matchM_bk h g s hs r ((noteM (oneM m h g s o z (min o.q z.q)) h g z.p (min o.q z.q)).setBk h g s r) { o with q:=o.q - min o.q z.q } (setBk_at _ _ _ _ _)
            exact ⟨by simp only [];rw [i1,setBk_twice,setBk_bk (one_bkJ m h g s hs o z _ _ _),setBk_twice],i2⟩
          · rw [if_neg h4,if_neg h4]
            refine ⟨?_,rfl⟩
            simp only []
            rw [one_bkJ m h g s hs o z,hb]
            rfl

theorem matchL_keys:∀ (l:List Od) (o:Od),(matchL l o).1.map Od.key <:+ l.map Od.key
  | [],o=>List.suffix_refl _
  | z :: r,o=>by
    unfold matchL
    by_cases h1:o.q≤0
    · rw [if_pos h1];exact List.suffix_refl _
    · rw [if_neg h1]
      by_cases h2:pfits o z=false
      · rw [if_pos h2];exact List.suffix_refl _
      · rw [if_neg h2]
        by_cases h3:z.t=o.t
        · rw [if_pos h3]
          exact (matchL_keys r o).trans (List.suffix_cons _ _)
        · rw [if_neg h3]
          by_cases h4:z.q - min o.q z.q=0
          · rw [if_pos h4]
            exact (matchL_keys r _).trans (List.suffix_cons _ _)
          · rw [if_neg h4]
            exact List.suffix_refl _

theorem matchL_done:∀ (l:List Od) (o:Od),0<(matchL l o).2→∀ z r,(matchL l o).1=z :: r→pfits o z=false
  | [],o,_,z,r,e=>by cases e
  | y :: l,o,hp,z,r,e=>by
    unfold matchL at hp e
    by_cases h1:o.q≤0
    · rw [if_pos h1] at hp
      simp only [] at hp
      omega
    · rw [if_neg h1] at hp e
      by_cases h2:pfits o y=false
      · rw [if_pos h2] at e
        simp only [List.cons.injEq] at e
        rw [← e.1];exact h2
      · rw [if_neg h2] at hp e
        by_cases h3:y.t=o.t
        · rw [if_pos h3] at hp e
          exact matchL_done l o hp z r e
        · rw [if_neg h3] at hp e
          by_cases h4:y.q - min o.q y.q=0
          · rw [if_pos h4] at hp e
            exact matchL_done l { o with q:=o.q - min o.q y.q } hp z r e
          · rw [if_neg h4] at hp
            simp only [] at hp
            omega

def Mt.keys (m:Mt):Nat→Nat→Nat→List Od:=fun h g s=>(m.bk h g s).map Od.key
def Mt.Jn (m:Mt):Prop:=Jk m.H m.G m.keys

theorem Mt.Jn.srt {m:Mt} (J:m.Jn) {h g s:Nat} (q:at3 m h g s):(m.bk h g s).Pairwise (Ahd s):=by
  have:=Jk.srt J h g s q.1 q.2.1 q.2.2
  unfold Mt.keys at this
  rw [List.pairwise_map] at this
  exact this.imp fun {a b} h=>(ahd_key s a b).1 h
theorem Mt.Jn.of {m m':Mt} (J:m.Jn) (hG:m'.G=m.G) (hH:m'.H=m.H) (hb:m'.bk=m.bk):m'.Jn:=by
  unfold Mt.Jn Mt.keys at *
  rw [hG,hH,hb];exact J

theorem keys_setBk {m m':Mt} {h g s:Nat} {l:List Od} (hb:m'.bk=(m.setBk h g s l).bk):m'.keys=setB m.keys h g s (l.map Od.key):=by
  unfold Mt.keys setB
  rw [hb]
  funext a b c
  simp only [Mt.setBk]
  split <;> rfl

theorem Mt.Jn.sub {m m':Mt} (J:m.Jn) (hG:m'.G=m.G) (hH:m'.H=m.H) {h g s:Nat} (q:at3 m h g s) {l:List Od} (hb:m'.bk=(m.setBk h g s l).bk) (hl:(l.map Od.key).Sublist ((m.bk h g s).map Od.key)):m'.Jn:=by
  unfold Mt.Jn
  rw [keys_setBk hb,hG,hH]
  exact Jk.sub J q.1 q.2.1 q.2.2 hl

theorem Mt.Jn.back {m:Mt} (J:m.Jn) {h g s:Nat} (q:at3 m h g s) (i:Nat) (o:Od):(backM m h g s i o).Jn :=
  J.sub (dims_back m h g s i o).G (dims_back m h g s i o).H q (release_bk _ _ _ _ _ _) ((List.eraseIdx_sublist ..).map _)

theorem Mt.Jn.less {m:Mt} (J:m.Jn) {h g s:Nat} (q:at3 m h g s) {i:Nat} {o:Od} (hb:(m.bk h g s)[i]? = some o) (n:Int):(lessM m h g s i o n).Jn:=by
  have e:(lessM m h g s i o n).bk=(m.setBk h g s ((m.bk h g s).set i { o with q:=n })).bk:=by
    unfold lessM holdH
    have:=setBk_bk (release_bk m o.t.toNat h g s o) h g s ((m.bk h g s).set i { o with q:=n })
    split <;> exact this
  refine J.sub (dims_less m h g s i o n).G (dims_less m h g s i o n).H q e ?_
  have k:((m.bk h g s).set i { o with q:=n }).map Od.key=(m.bk h g s).map Od.key:=by
    rw [List.map_set]
    obtain ⟨hi,ho⟩:=List.getElem?_eq_some_iff.1 hb
    rw [key_q,← ho,← List.getElem_map Od.key (h:=by simpa using hi),List.set_getElem_self]
  rw [k]
  exact List.Sublist.refl _

theorem Mt.Jn.again {m:Mt} (J:m.Jn) {h g s:Nat} (q:at3 m h g s) {i:Nat} {o:Od} (hb:(m.bk h g s)[i]? = some o):againM (backM m h g s i o) h g s o=m:=by
  rw [again_eq,put_again (J.srt q) hb]
  have:=setBk_sameJ m h g s
  unfold Mt.setBk at *
  cases m
  simp only [Mt.mk.injEq,true_and,and_true] at *
  exact this

theorem ahAt_key (l:List Od) (s:Nat) (o:Od):ahAt (l.map Od.key) s o.key=ahAt l s o:=by
  funext j
  unfold ahAt
  rw [List.getElem?_map]
  cases l[j]? <;> rfl
theorem put_map (l:List Od) (i:Nat) (o:Od):(putAt l i o).map Od.key=putAt (l.map Od.key) i o.key:=by simp [putAt]

theorem left_fits {s:Nat} (s2:s<2) {o:Od} (es:o.s=s) {l:List Od} (hs:l.Pairwise (Ahd (otherS s))) (hf:∀ z r,l=z :: r→pfits o z=false):∀ z∈l,if s=0 then o.p<z.p else z.p<o.p:=by
  intro z hz
  rcases l with _ | ⟨y,r⟩
  · cases hz
  · have h1:=hf y r rfl
    unfold pfits at h1
    have h2:z=y∨Ahd (otherS s) y z:=(List.mem_cons.1 hz).imp id fun h=>(List.pairwise_cons.1 hs).1 z h
    rw [ahd_iff] at h2
    unfold otherS at h2
    rcases s with _ | _ | s
    · rw [if_pos (by omega)] at h1
      simp only [decide_eq_false_iff_not] at h1
      rw [if_pos rfl]
      rcases h2 with rfl | h2
      · omega
      · simp at h2;omega
    · rw [if_neg (by omega)] at h1
      simp only [decide_eq_false_iff_not] at h1
      rw [if_neg (by omega)]
      rcases h2 with rfl | h2
      · omega
      · simp at h2;omega
    · omega

theorem Mt.Jn.place {m:Mt} {N:Int} (J:m.Jn) (I:m.Inv N) (o:Od):(placeM m o).Jn:=by
  unfold placeM
  by_cases hE:placeE m o=0
  · rw [if_pos hE]
    have hr:=(placeE_zero hE).1
    unfold refE1 at hr
    have k1:okI m.T o.t:=by
      by_cases q:okI m.T o.t
      · exact q
      · rw [if_pos q] at hr;omega
    rw [if_neg (fun f=>f k1)] at hr
    have k2:okI m.H o.h:=by
      by_cases q:okI m.H o.h
      · exact q
      · rw [if_pos q] at hr;omega
    rw [if_neg (fun f=>f k2)] at hr
    have k3:okI m.G o.g:=by
      by_cases q:okI m.G o.g
      · exact q
      · rw [if_pos q] at hr;omega
    rw [if_neg (fun f=>f k3)] at hr
    have k4:o.fit=true:=by
      by_cases q:o.fit=false
      · rw [if_pos q] at hr;omega
      · simpa using q
    obtain ⟨b1,b2,_,_⟩:=fit_bd k4
    obtain ⟨h,eh⟩:=Int.eq_ofNat_of_zero_le k2.1
    obtain ⟨g,eg⟩:=Int.eq_ofNat_of_zero_le k3.1
    obtain ⟨s,es⟩:=Int.eq_ofNat_of_zero_le b1.1
    have hh:h<m.H:=by have:=k2.2;omega
    have hg:g<m.G:=by have:=k3.2;omega
    have hs:s<2:=by have:=b1.2;omega
    have q:at3 m h g s:=⟨hh,hg,hs⟩
    have hs':otherS s<2:=by unfold otherS;split <;> omega
    have hne:s≠otherS s:=by unfold otherS;split <;> omega
    have q':at3 m h g (otherS s):=⟨hh,hg,hs'⟩
    unfold placed
    rw [show o.h.toNat=h by omega,show o.g.toNat=g by omega,show o.s.toNat=s by omega]
    have hb0:(holdM { m with nu:=m.nu+1 } { o with id:=m.nu+1 }).bk=m.bk:=bk_hold _ _
    obtain ⟨e1,e2⟩:=matchM_bk h g (otherS s) hs' (m.bk h g (otherS s)) (holdM { m with nu:=m.nu+1 } { o with id:=m.nu+1 }) { o with id:=m.nu+1 } (by rw [hb0])
    rw [setBk_bk hb0] at e1
    have D0:Dims m (holdM { m with nu:=m.nu+1 } { o with id:=m.nu+1 }):=Dims.trans (b:={ m with nu:=m.nu+1 }) ⟨rfl,rfl,rfl,rfl⟩ (same_hold _ _).dims
    have D1:=D0.trans (matchM_same (h:=h) (g:=g) (s:=otherS s) (m.bk h g (otherS s)) (holdM { m with nu:=m.nu+1 } { o with id:=m.nu+1 }) { o with id:=m.nu+1 }).dims
    have hL:=matchL_keys (m.bk h g (otherS s)) { o with id:=m.nu+1 }
    have hD:=matchL_done (m.bk h g (otherS s)) { o with id:=m.nu+1 }
    generalize matchL (m.bk h g (otherS s)) { o with id:=m.nu+1 }=ml at *
    generalize matchM h g (otherS s) (m.bk h g (otherS s)) (holdM { m with nu:=m.nu+1 } { o with id:=m.nu+1 }) { o with id:=m.nu+1 }=mm at *
    have J1:mm.1.Jn:=J.sub D1.G D1.H q' e1 hL.sublist
    rw [e2]
    unfold settleM
    split
    · rename_i hw
      show (waitM mm.1 { id:=m.nu+1,t:=o.t,h:=o.h,g:=o.g,s:=o.s,p:=o.p,q:=ml.2,w:=o.w }).Jn
      have hw1:0<ml.2:=hw.1
      have hw2:o.w=0∨o.w=3:=hw.2
      generalize hx:({ id:=m.nu+1,t:=o.t,h:=o.h,g:=o.g,s:=o.s,p:=o.p,q:=ml.2,w:=o.w }:Od)=x
      have xi:x.id=m.nu+1:=by rw [← hx]
      have xh:x.h.toNat=h:=by rw [← hx];show o.h.toNat=h;omega
      have xg:x.g.toNat=g:=by rw [← hx];show o.g.toNat=g;omega
      have xs:x.s.toNat=s:=by rw [← hx];show o.s.toNat=s;omega
      have xp:x.p=o.p:=by rw [← hx]
      have xw:x.w=o.w:=by rw [← hx]
      unfold waitM
      rw [xh,xg,xs]
      have e3:mm.1.bk h g s=m.bk h g s:=by rw [e1];simp [Mt.setBk,hne]
      have e4:mm.1.bk h g (otherS s)=ml.1:=by rw [e1];simp [Mt.setBk]
      unfold Mt.Jn
      rw [keys_setBk (m:=mm.1) rfl,put_map,← ahAt_key,show (mm.1.bk h g s).map Od.key=mm.1.keys h g s from rfl,show (mm.1.bk h g s).length=(mm.1.keys h g s).length by simp [Mt.keys]]
      refine Jk.put (s:=s) J1 (by show h<mm.1.H;rw [D1.H];exact hh) (by show g<mm.1.G;rw [D1.G];exact hg) hs (o:=x.key) (by show x.w=0∨x.w=3;rw [xw];exact hw2) (fun z hz=>?_) (fun z hz=>?_)
      · obtain ⟨a,b,c,h1,h2,h3,h4⟩:=mem_upH.1 hz
        have h1':a<m.H:=by rw [← D1.H];exact h1
        have h2':b<m.G:=by rw [← D1.G];exact h2
        have h5:z∈m.keys a b c:=by
          rw [keys_setBk e1] at h4
          unfold setB at h4
          split at h4
          · rename_i e;obtain ⟨rfl,rfl,rfl⟩:=e
            exact hL.subset h4
          · exact h4
        obtain ⟨y,hy,rfl⟩:=List.mem_map.1 h5
        have:=(I.od a b c y h1' h2' h3 hy).id
        show y.id≠x.id
        omega
      · have h5:z∈ml.1.map Od.key:=by
          have:z∈(mm.1.bk h g (otherS s)).map Od.key:=hz
          rw [e4] at this;exact this
        obtain ⟨y,hy,rfl⟩:=List.mem_map.1 h5
        show if s=0 then x.p<y.p else y.p<x.p
        rw [xp]
        refine left_fits (l:=ml.1) hs es ?_ (fun z r e=>hD hw1 z r e) y hy
        have:=J1.srt (h:=h) (g:=g) (s:=otherS s) ⟨by rw [D1.H];exact hh,by rw [D1.G];exact hg,hs'⟩
        rw [e4] at this
        exact this
    · exact J1.of (dims_release _ _ _ _ _ _).G (dims_release _ _ _ _ _ _).H (release_bk _ _ _ _ _ _)
  · rw [if_neg hE];exact J

theorem Moves.jn {m m':Mt} {N:Int} (I:m.Inv N) (J:m.Jn) (h:Moves m m'):m'.Jn:=by
  have D:=h.dims
  rcases h with rfl | ⟨t,n,rfl⟩ | ⟨t,n,rfl⟩ | ⟨t,h,g,n,rfl⟩ | ⟨t,h,g,n,rfl⟩ | ⟨t,f,o,g,n,rfl⟩ | rfl | ⟨t,id,c,C⟩ | ⟨t,id,p,q,n,ts,c,C⟩ | ⟨o,rfl⟩
  · exact J
  · exact J.of D.G D.H (by unfold payM;split <;> rfl)
  · exact J.of D.G D.H (by unfold drawM;split <;> rfl)
  · exact J.of D.G D.H (by unfold bringM;split <;> rfl)
  · exact J.of D.G D.H (by unfold takeM;split <;> rfl)
  · exact J.of D.G D.H (by unfold shipM;split <;> rfl)
  · refine J.of D.G D.H ?_
    unfold tickM
    split
    · exact (landM_rest _ _ _).2.1
    · rfl
  · rcases C with ⟨_,_,rfl⟩ | ⟨_,_,_,rfl⟩ | ⟨_,h,g,s,i,o,S,_,rfl⟩
    · exact J
    · exact J
    · exact J.back S.q i o
  · rcases C with ⟨_,_,_,_,rfl⟩ | ⟨_,_,_,_,_,rfl⟩ | ⟨_,h,g,s,i,o,S,(⟨_,_,_,_,rfl⟩ | ⟨hf,hA,_,_,_,rfl⟩ | ⟨hf,hA,hE,_,_,_,rfl⟩ | ⟨hf,hA,hE,_,_,_,rfl⟩)⟩
    · exact J
    · exact J
    · exact J
    · exact J.less S.q S.ho q
    · exact (J.back S.q i o).place (I.back S.q S.ho) _
    · rw [J.again S.q S.ho];exact J
  · exact J.place I o
end

section
structure Fit (m:Mt) (r:Rm):Prop where
  inv:m.Inv 20000000
  jn:m.Jn
  rel:Rel m r

theorem Fit.rok {m:Mt} {r:Rm} (F:Fit m r):r.Ok 0:=F.rel.ok F.inv

structure Alike (m m':Mt):Prop where
  G:m'.G=m.G
  H:m'.H=m.H
  bk:m'.bk=m.bk
  nu:m'.nu=m.nu

theorem Fit.alike {m m':Mt} {r r':Rm} (F:Fit m r) (A:Alike m m') (I:m'.Inv 20000000) (R:Rel m' r'):Fit m' r' :=
  ⟨I,F.jn.of A.G A.H A.bk,R⟩

section
variable {m:Mt} {r:Rm}
theorem Alike.refl (m:Mt):Alike m m:=⟨rfl,rfl,rfl,rfl⟩
theorem alike_pay (t x:Int):Alike m (payM m t x):=by unfold payM;split <;> exact ⟨rfl,rfl,rfl,rfl⟩
theorem alike_draw (t x:Int):Alike m (drawM m t x):=by unfold drawM;split <;> exact ⟨rfl,rfl,rfl,rfl⟩
theorem alike_bring (t h g n:Int):Alike m (bringM m t h g n):=by unfold bringM;split <;> exact ⟨rfl,rfl,rfl,rfl⟩
theorem alike_take (t h g n:Int):Alike m (takeM m t h g n):=by unfold takeM;split <;> exact ⟨rfl,rfl,rfl,rfl⟩
theorem alike_ship (t f o g n:Int):Alike m (shipM m t f o g n):=by unfold shipM;split <;> exact ⟨rfl,rfl,rfl,rfl⟩
theorem alike_tick:Alike m (tickM m):=by
  unfold tickM
  split
  · obtain ⟨s1,s2,s3,_⟩:=landM_same m (m.tm+1) m.ld
    obtain ⟨_,t2,t3,_⟩:=landM_rest m (m.tm+1) m.ld
    exact ⟨s2,s3,t2,t3⟩
  · exact Alike.refl m

theorem Fit.pay (F:Fit m r) (t x:Int):Fit (payM m t x) (rpayM r t x):=F.alike (alike_pay t x) (F.inv.pay t x) (F.rel.pay t x).2
theorem Fit.draw (F:Fit m r) (t x:Int):Fit (drawM m t x) (rdrawM r t x):=F.alike (alike_draw t x) (F.inv.draw t x) (F.rel.draw t x).2
theorem Fit.bring (F:Fit m r) (t h g n:Int):Fit (bringM m t h g n) (rbringM r t h g n):=F.alike (alike_bring t h g n) (F.inv.bring t h g n) (F.rel.bring t h g n).2
theorem Fit.take (F:Fit m r) (t h g n:Int):Fit (takeM m t h g n) (rtakeM r t h g n):=F.alike (alike_take t h g n) (F.inv.take t h g n) (F.rel.take F.inv.ok t h g n).2
theorem Fit.ship (F:Fit m r) (t f o g n:Int):Fit (shipM m t f o g n) (rshipM r t f o g n):=F.alike (alike_ship t f o g n) (F.inv.ship t f o g n) (F.rel.ship F.inv.ok t f o g n).2
theorem Fit.tick (F:Fit m r):Fit (tickM m) (rtickM r):=F.alike alike_tick F.inv.tick (F.rel.tick F.inv.ok).2
end

theorem newG_inv {T G:Nat} {rs:List Int} (h:sizeOk T G rs=true):(newM T G rs).Inv 20000000:=by
  rw [sizeOk_eq] at h
  simp only [size1,Bool.and_eq_true,decide_eq_true_eq] at h
  obtain ⟨⟨⟨⟨⟨⟨t1,t8⟩,g1⟩,g4⟩,n1⟩,n4⟩,hall⟩:=h
  have ha:=newM_all T G rs
  refine ⟨by decide,by show 1≤T;omega,by show T≤8;omega,by show 1≤G;omega,by show G≤4;omega,n1,n4,fun h hh=>?_,fun t ht=>Int.le_refl _,fun _ _ _ _ _ _=>Int.le_refl _,by show 0≤20;decide,fun l hl=>(by cases hl),(by rw [ha];decide),fun _ _ _ o _ _ _ ho=>(by cases ho),⟨Int.le_refl _,by show (0:Int)≤20000000;decide⟩,Int.le_refl _,⟨Int.le_refl _,by show (0:Int)≤1000000000;decide⟩,?_,fun g hg=>?_,fun a b _ _=>?_,fun a b _ _=>?_⟩
  · show 0≤rs.getD h 0∧rs.getD h 0≤100
    have hh':h<rs.length:=hh
    have:=List.all_eq_true.1 hall rs[h] (by simp)
    simp only [rateOk,Bool.and_eq_true,decide_eq_true_eq] at this
    simpa [hh'] using this
  · show (0:Int)+sumN (fun _=>0) T+heldS T (newM T G rs).all+0≤_
    rw [ha,(adds_heldS T).nil,sumN_zero]
    decide
  · show sumN (fun _=>sumN (fun _=>(0:Int)) rs.length) T+sumN (fun _=>keptS T []) rs.length+comeS T rs.length g []+0≤_
    have k1:sumN (fun _=>sumN (fun _=>(0:Int)) rs.length) T=0:=by rw [sumN_congr (k:=fun _=>0) (fun _ _=>sumN_zero _),sumN_zero]
    have k2:sumN (fun _=>keptS T []) rs.length=0:=by rw [sumN_congr (k:=fun _=>0) (fun _ _=>(adds_keptS T).nil),sumN_zero]
    have k3:comeS T rs.length (g:Int) []=0:=by
      have:=come_app T rs.length (g:Int) [] []
      simp only [List.append_nil] at this
      omega
    omega
  · show 0≤(0:Int)∧(0:Int)+10000 * ((newM T G rs).all.length+0)≤20000 * 0
    rw [ha];simp
  · show 0≤(0:Int)∧(0:Int)+1000000000 * ((newM T G rs).all.length+0)≤2000000000 * 0
    rw [ha];simp

theorem newM_jn (T G:Nat) (rs:List Int):(newM T G rs).Jn:=by
  have e:(newM T G rs).keys=fun _ _ _=>[]:=rfl
  unfold Mt.Jn
  rw [e]
  refine ⟨fun _ _ _ _ _ _ _ h=>absurd h List.not_mem_nil,fun n=>?_,fun _ _ _ _ _ _=>List.Pairwise.nil,fun _ _ _ _ _ _ h=>absurd h List.not_mem_nil⟩
  have:upH (newM T G rs).G (fun _ _ _=>([]:List Od)) (newM T G rs).H=[]:=newM_all T G rs
  rw [this]
  simp [cntI]

theorem new_fit {T G:Nat} {rs:List Int} (h:sizeOk T G rs=true):Fit (newM T G rs) (newR T G rs)∧(newM T G rs).nu=0:=⟨⟨newG_inv h,newM_jn T G rs,Rel.new T G rs⟩,rfl⟩
end

end Go.Proofs.YtcfoobhihhndjaaGreat
