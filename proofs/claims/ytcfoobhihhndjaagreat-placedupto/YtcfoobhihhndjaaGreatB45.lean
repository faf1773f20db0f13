
import Derived.Test.YtcfoobhihhndjaaGreatB41
import Derived.Test.YtcfoobhihhndjaaGreatB44
import Derived.WalkLawsBesides
namespace Go.Proofs.YtcfoobhihhndjaaGreat

section
theorem keptL_perm {t:Int} {a b:List Od} (h:a.Perm b):keptL t a=keptL t b:=by
  induction h with
  | nil=>rfl
  | cons x _ ih=>simp only [keptL,ih]
  | swap x y l=>simp only [keptL];omega
  | trans _ _ ih1 ih2=>rw [ih1,ih2]
theorem putAt_perm {α:Type} (l:List α) (i:Nat) (o:α):(putAt l i o).Perm (o :: l):=by
  unfold putAt
  have:=List.perm_middle (a:=o) (l₁:=l.take i) (l₂:=l.drop i)
  rwa [List.take_append_drop] at this

section
variable {h g s:Nat} {N:Int} {m:Mt} {r:Rm} {o:Od}

theorem RelO.wait (R:RelO m r o) (q:at3 m h g s) (eh:o.h=h) (eg:o.g=g) (es:o.s=s):Rel (waitM m o) { r with wt:=r.wt ++ [o] }:=by
  have e1:o.h.toNat=h:=by omega
  have e2:o.g.toNat=g:=by omega
  have e3:o.s.toNat=s:=by omega
  have hp:=putAt_perm (m.bk h g s) (slot (ahAt (m.bk h g s) s o) (m.bk h g s).length) o
  unfold waitM
  rw [e1,e2,e3]
  generalize putAt (m.bk h g s) (slot (ahAt (m.bk h g s) s o) (m.bk h g s).length) o=l at *
  refine ⟨R.T,R.G,R.H,R.rt,fun t ht=>?_,fun t a b h1 h2 h3=>?_,?_,?_,R.ld,R.la,R.pi,R.am,R.nx,R.ho,R.tm⟩
  · have k:=held_setBk q l t
    rw [heldL_perm hp] at k
    have e:=R.mo t ht
    simp only [heldL] at k e
    show r.mo t=m.mo t+_
    rw [e,k]
    omega
  · have e:=R.pc t a b h1 h2 h3
    show r.pc t a b=m.pc t a b+_
    rw [e,kept_setBk]
    simp only [keptA]
    by_cases c:a=h∧b=g∧s=1
    · obtain ⟨rfl,rfl,rfl⟩:=c
      rw [if_pos (show a=a∧b=b∧(1:Nat)=1 from ⟨rfl,rfl,rfl⟩),keptL_perm hp]
      simp only [keptL]
      have:m.kept t a b=keptL t (m.bk a b 1):=rfl
      rw [this]
      have i1:(o.t=(t:Int)∧o.s=1∧o.h=(a:Int)∧o.g=(b:Int)) ↔ o.t=(t:Int):=⟨fun k=>k.1,fun k=>⟨k,es,eh,eg⟩⟩
      simp only [i1]
      omega
    · rw [if_neg c,if_neg (fun k=>c ⟨by omega,by omega,by omega⟩)]
      omega
  · have p1:=all_more q hp
    exact (List.perm_append_singleton o r.wt).trans ((R.wt.cons o).trans p1.symm)
  · refine List.pairwise_append.2 ⟨R.srt,List.pairwise_singleton _ _,fun a ha b hb=>?_⟩
    rw [List.mem_singleton] at hb
    subst hb
    exact R.lt a ha

theorem RelO.free (R:RelO m r o) (ht:0≤o.t∧o.t<m.T) (q:at3 m h g s) (eh:o.h=h) (eg:o.g=g) (es:o.s=s):Rel (releaseM m o.t.toNat o.h.toNat o.g.toNat o.s.toNat o) r:=by
  have e1:o.h.toNat=h:=by omega
  have e2:o.g.toNat=g:=by omega
  have e3:o.s.toNat=s:=by omega
  rw [e1,e2,e3]
  have s2:=q.2.2
  have d:=same_release m o.t.toNat h g s o
  have db:=bk_release m o.t.toNat h g s o
  have da:(releaseM m o.t.toNat h g s o).all=m.all:=by unfold Mt.all;rw [db,d.G,d.H]
  have dl:(releaseM m o.t.toNat h g s o).la=m.la:=by unfold releaseM;split <;> rfl
  have dp:(releaseM m o.t.toNat h g s o).pi=m.pi:=by unfold releaseM;split <;> rfl
  have dm:(releaseM m o.t.toNat h g s o).am=m.am:=by unfold releaseM;split <;> rfl
  have dh:(releaseM m o.t.toNat h g s o).ho=m.ho:=by unfold releaseM;split <;> rfl
  refine ⟨R.T.trans d.T.symm,R.G.trans d.G.symm,R.H.trans d.H.symm,R.rt.trans d.rt.symm,fun t h1=>?_,fun t a b h1 h2 h3=>?_,by rw [da];exact R.wt,R.srt,R.ld.trans d.ld.symm,?_,?_,?_,by rw [d.nu];exact R.nx,R.ho.trans dh.symm,R.tm.trans d.tm.symm⟩
  · rw [d.T] at h1
    have e:=R.mo t h1
    have eh:(releaseM m o.t.toNat h g s o).held t=m.held t:=by unfold Mt.held;rw [da]
    rw [eh,e]
    simp only [heldL]
    have i1:(o.t=(t:Int)) ↔ t=o.t.toNat:=by omega
    simp only [i1]
    unfold releaseM
    by_cases c:s=0
    · rw [if_pos c]
      show _=(if t=o.t.toNat then m.mo o.t.toNat+o.p * o.q else m.mo t)+_
      have os:o.s=0:=by omega
      simp only [os,and_true]
      by_cases c1:t=o.t.toNat
      · have e3:m.mo o.t.toNat=m.mo t:=by rw [c1]
        rw [if_pos c1,if_pos c1,e3]
        omega
      · rw [if_neg c1,if_neg c1]
        omega
    · rw [if_neg c,if_neg (fun k=>by omega)]
      show _=m.mo t+_
      omega
  · rw [d.T] at h1
    rw [d.H] at h2
    rw [d.G] at h3
    have e:=R.pc t a b h1 h2 h3
    have ek:(releaseM m o.t.toNat h g s o).kept t a b=m.kept t a b:=by unfold Mt.kept;rw [db]
    rw [ek,e]
    simp only [keptA]
    have i1:(o.t=(t:Int)) ↔ t=o.t.toNat:=by omega
    have i3:(o.h=(a:Int)) ↔ a=h:=by omega
    have i4:(o.g=(b:Int)) ↔ b=g:=by omega
    simp only [i1,i3,i4]
    unfold releaseM
    by_cases c:s=0
    · rw [if_pos c,if_neg (fun k=>by omega)]
      show _=m.pc t a b+_
      omega
    · rw [if_neg c]
      show _=(if t=o.t.toNat∧a=h∧b=g then m.pc o.t.toNat h g+o.q else m.pc t a b)+_
      have os:o.s=1:=by omega
      simp only [os,true_and]
      by_cases c1:t=o.t.toNat∧a=h∧b=g
      · rw [if_pos c1,if_pos c1,c1.1,c1.2.1,c1.2.2]
        omega
      · rw [if_neg c1,if_neg c1]
        omega
  · rw [dl,d.G,d.H];exact R.la
  · rw [dp,d.G,d.H];exact R.pi
  · rw [dm,d.G,d.H];exact R.am

theorem RelO.settle (R:RelO m r o) (ht:0≤o.t∧o.t<m.T) (q:at3 m h g s) (eh:o.h=h) (eg:o.g=g) (es:o.s=s):Rel (settleM m o) (rwaits r o):=by
  unfold settleM rwaits
  split
  · exact R.wait q eh eg es
  · exact R.free ht q eh eg es

theorem adds_rmet (o:Od):Adds (rmetL o):=⟨rfl,rmetL_append o⟩
theorem Rel.met (R:Rel m r) (ok:m.Ok N) (q:at3 m h g s) (eh:o.h=h) (eg:o.g=g) (es:o.s=s):rmetL o r.wt=m.met o:=by
  have e1:o.h.toNat=h:=by omega
  have e2:o.g.toNat=g:=by omega
  have e3:o.s.toNat=s:=by omega
  have s2:=q.2.2
  have o2:otherS s<2:=by unfold otherS;split <;> omega
  have q':at3 m h g (otherS s):=⟨q.1,q.2.1,o2⟩
  unfold Mt.met
  rw [e1,e2,e3,rmetL_perm R.wt]
  have k:rmetL o (m.setBk h g (otherS s) []).all=rmetL o m.all+(rmetL o [] - rmetL o (m.bk h g (otherS s))):=by
    have k:=adds_upH (adds_rmet o) m.G m.bk h g (otherS s) q.2.1 o2 [] m.H
    rw [if_pos q.1] at k
    exact k
  have z:rmetL o (m.setBk h g (otherS s) []).all=0:=rmetL_none fun x hx f=>by
    obtain ⟨a,b,c,h1,h2,h3,h4⟩:=mem_upH.1 hx
    have h4':x∈(if a=h∧b=g∧c=otherS s then ([]:List Od) else m.bk a b c):=h4
    split at h4'
    · cases h4'
    · rename_i hne
      have w:=ok.od a b c x h1 h2 h3 h4'
      have w1:=w.h
      have w2:=w.g
      have w3:=w.s
      apply hne
      refine ⟨by omega,by omega,?_⟩
      have:(x.s:Int)≠o.s:=f.2.2
      unfold otherS
      split <;> omega
  have y:rmetL o (m.bk h g (otherS s))=metL o (m.bk h g (otherS s)):=rmetL_all fun x hx=>by
    have w:=ok.od h g (otherS s) x q.1 q.2.1 o2 hx
    refine ⟨by rw [w.h,eh],by rw [w.g,eg],fun f=>?_⟩
    have w3:=w.s
    unfold otherS at w3
    split at w3 <;> omega
  have n0:rmetL o []=0:=rfl
  omega

theorem fit_side {o:Od} (h:o.fit=true):0≤o.s∧o.s≤1:=((fit_iff o).1 h).1

theorem Rel.may (R:Rel m r) (ok:m.Ok N) (o:Od):rmayE r o=placeE m o:=by
  unfold rmayE placeE
  rw [R.T,R.H,R.G]
  by_cases h1:okI m.T o.t
  · by_cases h2:okI m.H o.h
    · by_cases h3:okI m.G o.g
      · cases h4:o.fit
        · simp [h1,h2,h3]
        · obtain ⟨s0,s1⟩:=fit_side h4
          have b1:o.t.toNat<m.T:=by have:=h1.1;have:=h1.2;omega
          have b2:o.h.toNat<m.H:=by have:=h2.1;have:=h2.2;omega
          have b3:o.g.toNat<m.G:=by have:=h3.1;have:=h3.2;omega
          have c1:=toNat_cast h1.1
          have c2:=toNat_cast h2.1
          have c3:=toNat_cast h3.1
          have e1:r.mo o.t.toNat - r.held o.t=m.mo o.t.toNat:=by
            have e:=R.mo _ b1
            rw [c1] at e
            have:=R.held o.t
            omega
          have e2:r.pc o.t.toNat o.h.toNat o.g.toNat - r.kept o.t o.h o.g=m.pc o.t.toNat o.h.toNat o.g.toNat:=by
            have e:=R.pc _ _ _ b1 b2 b3
            have k:=R.kept ok o.t b2 b3
            rw [c2,c3] at k
            rw [c1] at e
            omega
          have e3:o.p * o.q+r.fee o.h.toNat (o.p * o.q)=m.costOf o:=by unfold Mt.costOf Rm.fee Mt.fee;rw [R.rt]
          have e4:=R.met (o:=o) (h:=o.h.toNat) (g:=o.g.toNat) (s:=o.s.toNat) ok ⟨b2,b3,by omega⟩ c2.symm c3.symm (toNat_cast s0).symm
          rw [e1,e2,e3,e4,R.wt.length_eq]
      · simp [h1,h2,h3]
    · simp [h1,h2]
  · simp [h1]

theorem Rel.place (R:Rel m r) (I:m.Inv N) (J:m.Jn) (hn:m.nu+1≤N) (o:Od):rmayE r o=placeE m o∧Rel (placeM m o) (rplaceM r o)∧rplaceI r o=placeI m o∧rplaceT r o=placeT m o:=by
  have hE:=R.may I.ok o
  refine ⟨hE,?_⟩
  unfold placeM rplaceM placeI rplaceI placeT rplaceT
  rw [hE]
  by_cases h0:placeE m o=0
  · rw [if_pos h0,if_pos h0,if_pos h0,if_pos h0,if_pos h0,if_pos h0]
    obtain ⟨x1,_⟩:=placeE_zero h0
    obtain ⟨h1,h2,h3,h4⟩:=refE1_zero x1
    obtain ⟨s0,s1⟩:=fit_side h4
    have b1:o.t.toNat<m.T:=by have:=h1.1;have:=h1.2;omega
    have b2:o.h.toNat<m.H:=by have:=h2.1;have:=h2.2;omega
    have b3:o.g.toNat<m.G:=by have:=h3.1;have:=h3.2;omega
    have c2:=(toNat_cast h2.1).symm
    have c3:=(toNat_cast h3.1).symm
    have c4:=(toNat_cast s0).symm
    have M:=I.start hn h0 c2 c3 c4
    have B:=R.begin I.ok h1 h2 h3 ⟨s0,s1⟩
    have db:(holdM { m with nu:=m.nu+1 } { o with id:=m.nu+1 }).bk=m.bk:=by unfold holdM;split <;> rfl
    have o2:otherS o.s.toNat<2:=by unfold otherS;split <;> omega
    have q':at3 m o.h.toNat o.g.toNat (otherS o.s.toNat):=⟨b2,b3,o2⟩
    have lq:=all_setBk m q' []
    have ll:=R.wt.length_eq
    obtain ⟨r',e,R'⟩:=run_match (m.bk o.h.toNat o.g.toNat (otherS o.s.toNat)) _ _ _ (r.wt.length+1) (by rw [db]) M (J.srt q') B (by simp only [List.length_nil] at lq;omega)
    have ep:rplaced r o=(r',(placed m o).2.1,(placed m o).2.2):=by
      unfold rplaced placed
      rw [R.nx]
      have:({ r with nx:=m.nu+1+1 }:Rm)={ r with nx:=r.nx+1 }:=by rw [R.nx]
      rw [this]
      exact e
    rw [ep]
    refine ⟨?_,R.nx,rfl⟩
    have d:Same { m with nu:=m.nu+1 } (holdM { m with nu:=m.nu+1 } { o with id:=m.nu+1 }):=by unfold holdM;split <;> exact ⟨rfl,rfl,rfl,rfl,rfl,rfl,rfl⟩
    have d2:=d.trans (matchM_same (h:=o.h.toNat) (g:=o.g.toNat) (s:=otherS o.s.toNat) (m.bk o.h.toNat o.g.toNat (otherS o.s.toNat)) _ { o with id:=m.nu+1 })
    obtain ⟨x,hx⟩:=matchM_o (h:=o.h.toNat) (g:=o.g.toNat) (s:=otherS o.s.toNat) (m.bk o.h.toNat o.g.toNat (otherS o.s.toNat)) (holdM { m with nu:=m.nu+1 } { o with id:=m.nu+1 }) { o with id:=m.nu+1 }
    show Rel (settleM (matchM _ _ _ _ _ _).1 (matchM _ _ _ _ _ _).2.1) (rwaits r' (matchM _ _ _ _ _ _).2.1)
    refine R'.settle (h:=o.h.toNat) (g:=o.g.toNat) (s:=o.s.toNat) ?_ ?_ ?_ ?_ ?_
    · rw [hx,d2.T]
      exact h1
    · refine ⟨?_,?_,by omega⟩
      · rw [d2.H];exact b2
      · rw [d2.G];exact b3
    · rw [hx];exact c2
    · rw [hx];exact c3
    · rw [hx];exact c4
  · rw [if_neg h0,if_neg h0,if_neg h0,if_neg h0,if_neg h0,if_neg h0]
    exact ⟨R,rfl,rfl⟩
end
end

section
def RCancels (r:Rm) (t id:Int) (c:Int) (r':Rm):Prop :=
  (¬ okI r.T t∧c=2∧r'=r)∨(okI r.T t∧(∀ x∈r.wt,¬ (x.id=id∧x.t=t))∧c=9∧r'=r)∨(okI r.T t∧∃ (j:Nat) (x:Od),r.wt[j]? = some x∧x.id=id∧x.t=t∧c=0∧r'=rdrop r j)

def RChanges (r:Rm) (t id p q:Int) (n:Int) (ts:List Td) (c:Int) (r':Rm):Prop :=
  (¬ okI r.T t∧n=0∧ts=[]∧c=2∧r'=r)∨(okI r.T t∧(∀ x∈r.wt,¬ (x.id=id∧x.t=t))∧n=0∧ts=[]∧c=9∧r'=r) ∨
  (okI r.T t∧∃ (j:Nat) (x:Od),(r.wt[j]? = some x∧x.id=id∧x.t=t) ∧
    (((p<1∨100000<p∨q<1∨10000<q)∧n=0∧ts=[]∧c=5∧r'=r) ∨
     (((1≤p∧p≤100000)∧(1≤q∧q≤10000))∧(p=x.p∧q≤x.q)∧n=id∧ts=[]∧c=0∧r'={ r with wt:=r.wt.set j { x with q:=q } }) ∨
     (((1≤p∧p≤100000)∧(1≤q∧q≤10000))∧¬ (p=x.p∧q≤x.q)∧rmayE (rdrop r j) (chOd x p q)=0∧n=rplaceI (rdrop r j) (chOd x p q)∧ts=rplaceT (rdrop r j) (chOd x p q)∧c=0∧r'=rplaceM (rdrop r j) (chOd x p q)) ∨
     (((1≤p∧p≤100000)∧(1≤q∧q≤10000))∧¬ (p=x.p∧q≤x.q)∧rmayE (rdrop r j) (chOd x p q)≠0∧n=0∧ts=[]∧c=rmayE (rdrop r j) (chOd x p q)∧r'=r)))

theorem ids_one {l:List Od} (h:l.Pairwise fun a b=>a.id<b.id) {x y:Od} (hx:x∈l) (hy:y∈l) (e:x.id=y.id):x=y:=by
  obtain ⟨i,hi,rfl⟩:=List.mem_iff_getElem.1 hx
  obtain ⟨j,hj,rfl⟩:=List.mem_iff_getElem.1 hy
  by_cases c:i=j
  · subst c;rfl
  · have k:=List.pairwise_iff_getElem.1 h
    by_cases c2:i<j
    · have:=k i j hi hj c2;omega
    · have:=k j i hj hi (by omega);omega

section
variable {h g s i k:Nat} {N:Int} {m:Mt} {r:Rm} {z:Od}

theorem erase_perm {l:List Od} {i:Nat} {z:Od} (h:l[i]? = some z):l.Perm (z :: l.eraseIdx i):=by
  have:=drop_perm h
  rwa [← List.eraseIdx_eq_take_drop_succ] at this

theorem Rel.back (R:Rel m r) (ok:m.Ok N) (q:at3 m h g s) (hb:(m.bk h g s)[i]? = some z) (hk:r.wt[k]? = some z):Rel (backM m h g s i z) (rdrop r k):=by
  have zo:=ok.od h g s z q.1 q.2.1 q.2.2 (List.mem_of_getElem? hb)
  unfold backM
  have hp:=erase_perm hb
  generalize hR:(m.bk h g s).eraseIdx i=rest at *
  have d:=same_release (m.setBk h g s rest) z.t.toNat h g s z
  have db:=bk_release (m.setBk h g s rest) z.t.toNat h g s z
  have da:(releaseM (m.setBk h g s rest) z.t.toNat h g s z).all=(m.setBk h g s rest).all:=by unfold Mt.all;rw [db,d.G,d.H]
  have dl:(releaseM (m.setBk h g s rest) z.t.toNat h g s z).la=m.la:=by unfold releaseM;split <;> rfl
  have dp:(releaseM (m.setBk h g s rest) z.t.toNat h g s z).pi=m.pi:=by unfold releaseM;split <;> rfl
  have dm:(releaseM (m.setBk h g s rest) z.t.toNat h g s z).am=m.am:=by unfold releaseM;split <;> rfl
  have dh:(releaseM (m.setBk h g s rest) z.t.toNat h g s z).ho=m.ho:=by unfold releaseM;split <;> rfl
  have s2:=q.2.2
  have zs:=zo.s
  have zt:=zo.t
  refine ⟨R.T.trans d.T.symm,R.G.trans d.G.symm,R.H.trans d.H.symm,R.rt.trans d.rt.symm,fun t ht=>?_,fun t a b h1 h2 h3=>?_,?_,R.srt.sublist (drop_sub _ _),R.ld.trans d.ld.symm,?_,?_,?_,by rw [d.nu];exact R.nx,R.ho.trans dh.symm,R.tm.trans d.tm.symm⟩
  · rw [d.T] at ht
    have e:=R.mo t ht
    have eh:(releaseM (m.setBk h g s rest) z.t.toNat h g s z).held t=(m.setBk h g s rest).held t:=by unfold Mt.held;rw [da]
    have e2:=held_setBk q rest t
    rw [heldL_perm hp] at e2
    simp only [heldL] at e2
    show r.mo t=_
    rw [eh,e2,e]
    have i2:(z.t=(t:Int)) ↔ t=z.t.toNat:=by omega
    simp only [i2]
    unfold releaseM
    by_cases c:s=0
    · rw [if_pos c]
      show _=(if t=z.t.toNat then m.mo z.t.toNat+z.p * z.q else m.mo t)+_
      have zs0:z.s=0:=by omega
      simp only [zs0,and_true]
      by_cases c1:t=z.t.toNat
      · have e3:m.mo z.t.toNat=m.mo t:=by rw [c1]
        rw [if_pos c1,if_pos c1,e3]
        omega
      · rw [if_neg c1,if_neg c1]
        omega
    · rw [if_neg c,if_neg (fun k=>by omega)]
      show _=m.mo t+_
      omega
  · rw [d.T] at h1
    rw [d.H] at h2
    rw [d.G] at h3
    have e:=R.pc t a b h1 h2 h3
    have ek:(releaseM (m.setBk h g s rest) z.t.toNat h g s z).kept t a b=(m.setBk h g s rest).kept t a b:=by unfold Mt.kept;rw [db]
    show r.pc t a b=_
    rw [ek,kept_setBk,e]
    unfold releaseM
    by_cases c:s=0
    · rw [if_pos c,if_neg (fun k=>by omega)]
      show _=m.pc t a b+_
      omega
    · rw [if_neg c]
      show _=(if t=z.t.toNat∧a=h∧b=g then m.pc z.t.toNat h g+z.q else m.pc t a b)+_
      by_cases c3:a=h∧b=g
      · have c4:a=h∧b=g∧s=1:=⟨c3.1,c3.2,by omega⟩
        have i2:(z.t=(t:Int)) ↔ t=z.t.toNat:=by omega
        have ek2:m.kept t a b=(if t=z.t.toNat then z.q else 0)+keptL t rest:=by
          have:m.kept t a b=keptL t (m.bk h g s):=by unfold Mt.kept;rw [c3.1,c3.2,c4.2.2]
          rw [this,keptL_perm hp]
          simp only [keptL,i2]
        rw [if_pos c4,ek2]
        simp only [c3,and_true]
        by_cases c1:t=z.t.toNat
        · have e3:m.pc z.t.toNat h g=m.pc t h g:=by rw [c1]
          simp only [if_pos c1]
          omega
        · simp only [if_neg c1]
          omega
      · rw [if_neg (fun k=>c3 k.2),if_neg (fun k=>c3 ⟨k.1,k.2.1⟩)]
  · rw [da]
    have p1:=drop_perm hk
    have p2:=all_less q (z:=z) (l:=rest) hp
    exact ((p1.symm.trans R.wt).trans p2).cons_inv
  · rw [dl,d.G,d.H];exact R.la
  · rw [dp,d.G,d.H];exact R.pi
  · rw [dm,d.G,d.H];exact R.am

theorem same_holdH (m:Mt) (t h g s:Nat) (o:Od):Same m (holdH m t h g s o):=by unfold holdH;split <;> exact ⟨rfl,rfl,rfl,rfl,rfl,rfl,rfl⟩

theorem Rel.less (R:Rel m r) (ok:m.Ok N) (q:at3 m h g s) (hb:(m.bk h g s)[i]? = some z) (hk:r.wt[k]? = some z) (n:Int):Rel (lessM m h g s i z n) { r with wt:=r.wt.set k { z with q:=n } }:=by
  have zo:=ok.od h g s z q.1 q.2.1 q.2.2 (List.mem_of_getElem? hb)
  unfold lessM
  have hp:=set_perm hb { z with q:=n }
  have hp0:=drop_perm hb
  rw [← List.eraseIdx_eq_take_drop_succ] at hp hp0
  generalize (m.bk h g s).set i { z with q:=n }=l at *
  generalize (m.bk h g s).eraseIdx i=rest at *
  have d1:=(same_release m z.t.toNat h g s z).trans (same_setBk _ h g s l)
  have d:=d1.trans (same_holdH _ z.t.toNat h g s { z with q:=n })
  have db:(holdH ((releaseM m z.t.toNat h g s z).setBk h g s l) z.t.toNat h g s { z with q:=n }).bk=(m.setBk h g s l).bk:=by
    rw [(holdM_bk' _ _ _ _ _ _).1]
    unfold Mt.setBk
    simp only [bk_release]
  have da:(holdH ((releaseM m z.t.toNat h g s z).setBk h g s l) z.t.toNat h g s { z with q:=n }).all=(m.setBk h g s l).all:=by unfold Mt.all;rw [db,d.G,d.H];rfl
  have dl:(holdH ((releaseM m z.t.toNat h g s z).setBk h g s l) z.t.toNat h g s { z with q:=n }).la=m.la:=by unfold holdH releaseM;split <;> rfl
  have dp:(holdH ((releaseM m z.t.toNat h g s z).setBk h g s l) z.t.toNat h g s { z with q:=n }).pi=m.pi:=by unfold holdH releaseM;split <;> rfl
  have dm:(holdH ((releaseM m z.t.toNat h g s z).setBk h g s l) z.t.toNat h g s { z with q:=n }).am=m.am:=by unfold holdH releaseM;split <;> rfl
  have dh:(holdH ((releaseM m z.t.toNat h g s z).setBk h g s l) z.t.toNat h g s { z with q:=n }).ho=m.ho:=by unfold holdH releaseM;split <;> rfl
  have s2:=q.2.2
  have zs:=zo.s
  have zt:=zo.t
  refine ⟨R.T.trans d.T.symm,R.G.trans d.G.symm,R.H.trans d.H.symm,R.rt.trans d.rt.symm,fun t ht=>?_,fun t a b h1 h2 h3=>?_,?_,set_ids hk _ R.srt,R.ld.trans d.ld.symm,?_,?_,?_,by rw [d.nu];exact R.nx,R.ho.trans dh.symm,R.tm.trans d.tm.symm⟩
  · rw [d.T] at ht
    have e:=R.mo t ht
    have eh:(holdH ((releaseM m z.t.toNat h g s z).setBk h g s l) z.t.toNat h g s { z with q:=n }).held t=(m.setBk h g s l).held t:=by unfold Mt.held;rw [da]
    have e2:=held_setBk q l t
    rw [heldL_perm hp,heldL_perm hp0] at e2
    simp only [heldL] at e2
    show r.mo t=_
    rw [eh,e2,e]
    have i2:(z.t=(t:Int)) ↔ t=z.t.toNat:=by omega
    simp only [i2]
    unfold holdH releaseM
    by_cases c:s=0
    · rw [if_pos c,if_pos c]
      show _=(if t=z.t.toNat then (if z.t.toNat=z.t.toNat then m.mo z.t.toNat+z.p * z.q else m.mo z.t.toNat) - z.p * n else if t=z.t.toNat then m.mo z.t.toNat+z.p * z.q else m.mo t)+_
      have zs0:z.s=0:=by omega
      simp only [zs0,and_true,if_true]
      by_cases c1:t=z.t.toNat
      · have e3:m.mo z.t.toNat=m.mo t:=by rw [c1]
        simp only [if_pos c1,e3]
        omega
      · simp only [if_neg c1]
        omega
    · rw [if_neg c,if_neg c,if_neg (fun k=>by omega),if_neg (fun k=>by omega)]
      show _=m.mo t+_
      omega
  · rw [d.T] at h1
    rw [d.H] at h2
    rw [d.G] at h3
    have e:=R.pc t a b h1 h2 h3
    have ek:(holdH ((releaseM m z.t.toNat h g s z).setBk h g s l) z.t.toNat h g s { z with q:=n }).kept t a b=(m.setBk h g s l).kept t a b:=by unfold Mt.kept;rw [db]
    show r.pc t a b=_
    rw [ek,kept_setBk,e]
    unfold holdH releaseM
    by_cases c:s=0
    · rw [if_pos c,if_pos c,if_neg (fun k=>by omega)]
      show _=m.pc t a b+_
      omega
    · rw [if_neg c,if_neg c]
      show _=(if t=z.t.toNat∧a=h∧b=g then (if z.t.toNat=z.t.toNat∧h=h∧g=g then m.pc z.t.toNat h g+z.q else m.pc z.t.toNat h g) - n else if t=z.t.toNat∧a=h∧b=g then m.pc z.t.toNat h g+z.q else m.pc t a b)+_
      by_cases c3:a=h∧b=g
      · have c4:a=h∧b=g∧s=1:=⟨c3.1,c3.2,by omega⟩
        have i2:(z.t=(t:Int)) ↔ t=z.t.toNat:=by omega
        have ek2:m.kept t a b=(if t=z.t.toNat then z.q else 0)+keptL t rest:=by
          have:m.kept t a b=keptL t (m.bk h g s):=by unfold Mt.kept;rw [c3.1,c3.2,c4.2.2]
          rw [this,keptL_perm hp0]
          simp only [keptL,i2]
        have ek3:keptL t l=(if t=z.t.toNat then n else 0)+keptL t rest:=by
          rw [keptL_perm hp]
          simp only [keptL,i2]
        rw [if_pos c4,ek2,ek3]
        simp only [c3,and_true,and_self,if_true]
        by_cases c1:t=z.t.toNat
        · have e3:m.pc z.t.toNat h g=m.pc t h g:=by rw [c1]
          simp only [if_pos c1]
          omega
        · simp only [if_neg c1]
      · rw [if_neg (fun k=>c3 k.2),if_neg (fun k=>c3 k.2),if_neg (fun k=>c3 ⟨k.1,k.2.1⟩)]
  · rw [da]
    have p1:=drop_perm hk
    have p2:=all_less q (z:=z) (l:=rest) hp0
    have p3:=((p1.symm.trans R.wt).trans p2).cons_inv
    have p4:=set_perm hk { z with q:=n }
    have p5:=all_less (m:=m.setBk h g s l) (h:=h) (g:=g) (s:=s) q (z:={ z with q:=n }) (l:=rest) (by rw [bk_set];exact hp)
    rw [setBk_setBk] at p5
    exact (p4.trans (p3.cons _)).trans p5.symm
  · rw [dl,d.G,d.H];exact R.la
  · rw [dp,d.G,d.H];exact R.pi
  · rw [dm,d.G,d.H];exact R.am

theorem Rel.spot (R:Rel m r) {t id:Int} {o x:Od} {j:Nat} (S:Spot m t id h g s i o) (hx:r.wt[j]? = some x) (ex:x.id=id):x=o :=
  ids_one R.srt (List.mem_of_getElem? hx) (R.wt.mem_iff.2 (mem_upH.2 ⟨h,g,s,S.q.1,S.q.2.1,S.q.2.2,List.mem_of_getElem? S.ho⟩)) (by rw [ex,S.id])
theorem Rel.nospot (R:Rel m r) {t id:Int}:NoSpot m t id ↔ ∀ x∈r.wt,¬ (x.id=id∧x.t=t) :=
  ⟨fun h x hx f=>h x (R.wt.mem_iff.1 hx) ⟨f.2,f.1⟩,fun h x hx f=>h x (R.wt.mem_iff.2 hx) ⟨f.2,f.1⟩⟩
theorem Spot.mem {t id:Int} {o:Od} (S:Spot m t id h g s i o):o∈m.all:=mem_upH.2 ⟨h,g,s,S.q.1,S.q.2.1,S.q.2.2,List.mem_of_getElem? S.ho⟩
end

theorem Fit.cancels {m m':Mt} {r r':Rm} {t id c c':Int} (F:Fit m r) (C:Cancels m t id c m') (D:RCancels r t id c' r'):c'=c∧Fit m' r'∧m'.nu=m.nu:=by
  have R:=F.rel
  have hT:=R.T
  rcases C with ⟨a1,rfl,rfl⟩ | ⟨a1,a2,rfl,rfl⟩ | ⟨a1,h,g,s,i,o,S,rfl,rfl⟩
  · rcases D with ⟨_,rfl,rfl⟩ | ⟨b1,_⟩ | ⟨b1,_⟩
    · exact ⟨rfl,F,rfl⟩
    · rw [hT] at b1;exact absurd b1 a1
    · rw [hT] at b1;exact absurd b1 a1
  · rcases D with ⟨b1,_⟩ | ⟨_,_,rfl,rfl⟩ | ⟨_,j,x,x1,x2,x3,_⟩
    · rw [hT] at b1;exact absurd a1 b1
    · exact ⟨rfl,F,rfl⟩
    · exact absurd ⟨x2,x3⟩ (R.nospot.1 a2 x (List.mem_of_getElem? x1))
  · rcases D with ⟨b1,_⟩ | ⟨_,b2,_⟩ | ⟨_,j,x,x1,x2,x3,rfl,rfl⟩
    · rw [hT] at b1;exact absurd a1 b1
    · exact absurd ⟨S.t,S.id⟩ (R.nospot.2 b2 o S.mem)
    · have e:=R.spot S x1 x2
      subst e
      refine ⟨rfl,⟨F.inv.back S.q S.ho,F.jn.back S.q i x,R.back F.inv.ok S.q S.ho x1⟩,?_⟩
      unfold backM
      rw [(same_release _ _ _ _ _ _).nu]
      rfl

theorem Fit.place {m:Mt} {r:Rm} (F:Fit m r) (hn:m.nu+1≤20000000) (o:Od):Fit (placeM m o) (rplaceM r o):=⟨F.inv.place hn o,F.jn.place F.inv o,(F.rel.place F.inv F.jn hn o).2.1⟩

theorem ch_fit {m:Mt} {h g s:Nat} {o:Od} (k:o.Ok m h g s) (s2:s<2) (p q:Int):(chOd o p q).fit=true ↔ (1≤p∧p≤100000)∧(1≤q∧q≤10000):=by
  have:=k.s
  rw [fit_iff]
  simp only [chOd]
  constructor
  · rintro ⟨_,_,a,b⟩;exact ⟨a,b⟩
  · rintro ⟨a,b⟩;exact ⟨by omega,by omega,a,b⟩

theorem Fit.changes {m m':Mt} {r r':Rm} {t id p q n c n' c':Int} {ts ts':List Td} (F:Fit m r) (hn:m.nu+1≤20000000) (C:Changes m t id p q n ts c m') (D:RChanges r t id p q n' ts' c' r'):(n'=n∧ts'=ts∧c'=c)∧Fit m' r'∧m'.nu≤m.nu+1:=by
  have R:=F.rel
  have hT:=R.T
  have K:=Changes.keeps F.inv hn C
  have J:m'.Jn:=Moves.jn F.inv F.jn (.inr (.inr (.inr (.inr (.inr (.inr (.inr (.inr (.inl ⟨t,id,p,q,n,ts,c,C⟩)))))))))
  suffices h:(n'=n∧ts'=ts∧c'=c)∧Rel m' r' from ⟨h.1,⟨K.1,J,h.2⟩,K.2.2⟩
  clear K J
  rcases C with ⟨a1,rfl,rfl,rfl,rfl⟩ | ⟨a1,a2,rfl,rfl,rfl,rfl⟩ | ⟨a1,h,g,s,i,o,S,C⟩
  · rcases D with ⟨_,rfl,rfl,rfl,rfl⟩ | ⟨b1,_⟩ | ⟨b1,_⟩
    · exact ⟨⟨rfl,rfl,rfl⟩,R⟩
    · rw [hT] at b1;exact absurd b1 a1
    · rw [hT] at b1;exact absurd b1 a1
  · rcases D with ⟨b1,_⟩ | ⟨_,_,rfl,rfl,rfl,rfl⟩ | ⟨_,j,x,⟨x1,x2,x3⟩,_⟩
    · rw [hT] at b1;exact absurd a1 b1
    · exact ⟨⟨rfl,rfl,rfl⟩,R⟩
    · exact absurd ⟨x2,x3⟩ (R.nospot.1 a2 x (List.mem_of_getElem? x1))
  · rcases D with ⟨b1,_⟩ | ⟨_,b2,_⟩ | ⟨_,j,x,⟨x1,x2,x3⟩,D⟩
    · rw [hT] at b1;exact absurd a1 b1
    · exact absurd ⟨S.t,S.id⟩ (R.nospot.2 b2 o S.mem)
    · have e:=R.spot S x1 x2
      subst e
      have xo:=F.inv.ok.od h g s x S.q.1 S.q.2.1 S.q.2.2 (List.mem_of_getElem? S.ho)
      have fi:=ch_fit xo S.q.2.2 p q
      have RB:=R.back F.inv.ok S.q S.ho x1
      have IB:=F.inv.back S.q S.ho
      have nb:(backM m h g s i x).nu=m.nu:=by unfold backM;rw [(same_release _ _ _ _ _ _).nu];rfl
      obtain ⟨P1,P2,P3,P4⟩:=RB.place IB (F.jn.back S.q i x) (by rw [nb];exact hn) (chOd x p q)
      rw [← P1,← P3,← P4] at C
      rcases C with ⟨f,rfl,rfl,rfl,rfl⟩ | ⟨f,f2,rfl,rfl,rfl,rfl⟩ | ⟨f,f2,f3,rfl,rfl,rfl,rfl⟩ | ⟨f,f2,f3,rfl,rfl,rfl,rfl⟩
      · rcases D with ⟨_,rfl,rfl,rfl,rfl⟩ | ⟨d,_⟩ | ⟨d,_⟩ | ⟨d,_⟩
        · exact ⟨⟨rfl,rfl,rfl⟩,R⟩
        · rw [fi.2 d] at f;cases f
        · rw [fi.2 d] at f;cases f
        · rw [fi.2 d] at f;cases f
      · rcases D with ⟨d,_⟩ | ⟨_,d2,rfl,rfl,rfl,rfl⟩ | ⟨_,d2,_⟩ | ⟨_,d2,_⟩
        · have:=fi.1 f;omega
        · exact ⟨⟨rfl,rfl,rfl⟩,R.less F.inv.ok S.q S.ho x1 q⟩
        · exact absurd f2 d2
        · exact absurd f2 d2
      · rcases D with ⟨d,_⟩ | ⟨_,d2,_⟩ | ⟨_,d2,d3,rfl,rfl,rfl,rfl⟩ | ⟨_,d2,d3,_⟩
        · have:=fi.1 f;omega
        · exact absurd d2 f2
        · exact ⟨⟨rfl,rfl,rfl⟩,P2⟩
        · exact absurd f3 d3
      · rcases D with ⟨d,_⟩ | ⟨_,d2,_⟩ | ⟨_,d2,d3,_⟩ | ⟨_,d2,d3,rfl,rfl,rfl,rfl⟩
        · have:=fi.1 f;omega
        · exact absurd d2 f2
        · exact absurd d3 f3
        · refine ⟨⟨rfl,rfl,rfl⟩,?_⟩
          rw [F.jn.again S.q S.ho]
          exact R
end

section
open Go.RowKit Go.Sort

theorem fl_store {P:Program} {w:World} {a:Addr} {m:Mode} (k:FloatKind) (n:Nat):(store a (.float k n) m).run P w=stored P w a (.float k n) m:=run_store P w a _ m rfl
attribute [local go_sem] fl_store

def meanF (a b:Int):Nat:=if 0<b then (floatBits .quo .f64 (floatOfInt .f64 a) (floatOfInt .f64 b)).getD 0 else 0
theorem meanF_pos {a b:Int} (a0:0≤a) (a1:a≤1000000000000000000) (b0:0<b) (b1:b≤1000000000000000000):floatBits .quo .f64 (floatOfInt .f64 a) (floatOfInt .f64 b)=some (meanF a b):=by
  obtain ⟨f,e,_⟩:=mean_some a0 a1 b0 b1
  unfold meanF
  rw [if_pos b0,e]
  rfl
theorem meanF_self {a b:Int} (a0:0≤a) (a1:a≤1000000000000000000) (b1:b≤1000000000000000000):(FloatKind.f64.format.order (meanF a b) (meanF a b) == some .eq)=true:=by
  by_cases b0:0<b
  · obtain ⟨f,e,h⟩:=mean_some a0 a1 b0 b1
    have:meanF a b=f:=by
      unfold meanF
      rw [if_pos b0,e]
      rfl
    rw [this]
    exact h
  · unfold meanF
    rw [if_neg b0]
    decide

def statV (a b c:Int):Value:=.agg #[.int .i64 a,.int .i64 b,.float .f64 (meanF c b)]

theorem rhouse_any (w:World) (L:RL) (r:Rm) (R:RRep w L r) :
    Calls Tryz.prog 62 #[.pointer (some ⟨L.c,0,none⟩)] w fun e w'=>e = .returned (.int .i64 r.ho)∧w'=w:=by
  have c:=R.c.cF.cell
  clear R
  go_enter Tryz.func62,Tryz.ntmps62
  go_wp2
  go_ret
  exact ⟨rfl,rfl⟩

theorem mean_any (w:World) (b n:Nat) (p a:Int) (hp:w.cell? ⟨b,n+3,none⟩=some (.int .i64 p)) (ha:w.cell? ⟨b,n+4,none⟩=some (.int .i64 a)) (p0:0≤p) (p1:p≤1000000000000000) (a0:0≤a) (a1:a≤1000000000000000000) :
    Calls Tryz.prog 117 #[.pointer (some ⟨b,n,none⟩)] w fun e w'=>e = .returned (.float .f64 (meanF a p))∧Kep non w w':=by
  by_cases h:p=0
  · have f1:(p == 0)=true:=by simpa using h
    have HE:Hid (meanF a p=0):=hide (by unfold meanF;rw [if_neg (by omega)])
    go_enter Tryz.func117,Tryz.ntmps117
    go_wp2
    go_ret
    exact ⟨by rw [HE.out];rfl,Kep.refl _ _⟩
  · have f1:(p == 0)=false:=by simpa using h
    have h0:0<p:=by omega
    have HM:=meanF_pos (a:=a) (b:=p) a0 a1 h0 (by omega)
    have hop:∀ t w,(binOp .quo t (.float .f64 (floatOfInt .f64 a)) (.float .f64 (floatOfInt .f64 p))).run Tryz.prog w = .ok (.float .f64 (meanF a p)) w:=fun t w=>run_float_arith w .quo t .f64 _ _ _ HM
    clear HM
    go_enter Tryz.func117,Tryz.ntmps117
    go_wp2_with (simp only [hop])
    go_quiet (simp only [hop])
    go_wp2
    go_ret
    exact ⟨rfl,(Kep.refl _ _).drewN _⟩

set_option maxRecDepth 100000 in
set_option maxHeartbeats 1000000 in
theorem stat_no (w:World) (L:PL) (m:Mt) (N h g:Int) (R:PRep w L m) (ok:m.Ok N) (hE:bookE m h g≠0) :
    Calls Tryz.prog 59 #[.pointer (some ⟨L.x,0,none⟩),.int .i64 h,.int .i64 g] w fun e w'=>e = .returned (.tuple #[statV 0 0 0,.int .i64 (bookE m h g)])∧Kep non w w':=by
  have HC:=hide (fun W (k:Kep non w W)=>checkBook_any W L m N h g (R.later k) ok)
  clear R ok
  generalize bookE m h g=E at *
  have f1:(E != 0)=true:=by simpa using hE
  have HZ:Hid (meanF 0 0=0):=hide (by unfold meanF;rw [if_neg (by omega)])
  go_enter Tryz.func59,Tryz.ntmps59
  go_wp2_with (go_at_call 110;refine (HC.out _ ((Kep.refl _ _).alloc _)).mono ?_;rintro e w1 ⟨rfl,rfl⟩)
  exact bodyPost_ret (v:=.tuple #[.agg #[.int .i64 0,.int .i64 0,.float .f64 0],.int .i64 E]) (by simp [results,Tryz.results59,go_sem]) rfl ⟨by unfold statV;rw [HZ.out],(Kep.refl _ _).alloc _⟩

set_option maxRecDepth 100000 in
set_option maxHeartbeats 1000000 in
theorem stat_yes (w:World) (L:PL) (m:Mt) (N:Int) (h g:Nat) (R:PRep w L m) (I:m.Inv N) (hh:h<m.H) (hg:g<m.G) :
    Calls Tryz.prog 59 #[.pointer (some ⟨L.x,0,none⟩),.int .i64 h,.int .i64 g] w fun e w'=>e = .returned (.tuple #[statV (m.la h g) (m.pi h g) (m.am h g),.int .i64 0])∧Kep non w w':=by
  have HC:=hide (fun W (k:Kep non w W)=>show Calls Tryz.prog 110 #[.pointer (some ⟨L.x,0,none⟩),.int .i64 h,.int .i64 g] W fun e w'=>e = .returned (.int .i64 0)∧w'=W from by
    have:=checkBook_any W L m N h g (R.later k) I.ok
    have e:bookE m h g=0:=by
      unfold bookE
      rw [if_pos ⟨by omega,by omega⟩,if_pos ⟨by omega,by omega⟩]
    rwa [e] at this)
  have c4:=R.cB.cell
  have cb:=R.bks h hh
  have hh':(h:Int)<(m.H:Int):=by omega
  have hg':(g:Int)<(m.G:Int):=by omega
  have cl:=(R.la h g hh hg).cell
  have cp:=(R.pi h g hh hg).cell
  have ca:=(R.am h g hh hg).cell
  have bd:=Mt.In.pi_le I (Int.le_refl _) hh hg
  obtain ⟨⟨p0,p1⟩,a0,a1⟩:=bd
  have HMn:=hide (fun W (k:Kep non w W)=>mean_any W (L.gb h) (g * 5) (m.pi h g) (m.am h g) (k.cell cp (fun q=>q)) (k.cell ca (fun q=>q)) p0 (by omega) a0 a1)
  have HW:Hid (∀ W,Kep non w W→W.cell? ⟨L.x,4,none⟩=some (.slice (some ⟨L.bb,0,none⟩) m.H m.H)∧W.cell? ⟨L.bb,h,none⟩=some (.slice (some ⟨L.gb h,0,none⟩) m.G m.G)∧W.cell? ⟨L.gb h,g * 5+2,none⟩=some (.int .i64 (m.la h g))∧W.cell? ⟨L.gb h,g * 5+3,none⟩=some (.int .i64 (m.pi h g))):=hide fun W k=>⟨k.cell c4 (fun q=>q),k.cell cb (fun q=>q),k.cell cl (fun q=>q),k.cell cp (fun q=>q)⟩
  clear R I c4 cb cl cp ca
  generalize m.la h g=la at *
  generalize m.pi h g=pi at *
  generalize m.am h g=am at *
  obtain ⟨W0,hW0⟩ : ∃ W0,W0=w.alloc (.cells #[.int .i64 0,.int .i64 0,.float .f64 0] 114):=⟨_,rfl⟩
  have K0:Kep non w W0:=by rw [hW0];exact (Kep.refl _ _).alloc _
  have hb:W0.heap[w.heap.size]? = some (.cells #[.int .i64 0,.int .i64 0,.float .f64 0] 114):=by rw [hW0];exact heap_alloc_new w _
  have HC0:=hide (HC.out W0 K0)
  obtain ⟨c4,cb,cl,cp⟩:=HW.out W0 K0
  have HW0:=hide hW0
  have HK0:=hide K0
  have HHB:=hide hb
  have hz0:=K0.size
  have hz1:w.heap.size<W0.heap.size:=(Array.getElem?_eq_some_iff.1 hb).1
  clear HC hW0 K0 hb
  go_enter Tryz.func59,Tryz.ntmps59
  go_upto_region 1 with fail
  rw [← HW0.out]
  generalize hA:w.heap.size=A at *
  have HAA:=hide hA
  clear hA
  go_upto_region 5 with (go_at_call 110;refine HC0.out.mono ?_;rintro e w1 ⟨rfl,rfl⟩)
  have x0:w1.cell? ⟨A,0,none⟩=some (.int .i64 0):=cell_of_row _ _ 0 _ _ _ HHB.out
  have x1:w1.cell? ⟨A,1,none⟩=some (.int .i64 0):=cell_of_row _ _ 1 _ _ _ HHB.out
  have x2:w1.cell? ⟨A,2,none⟩=some (.float .f64 0):=cell_of_row _ _ 2 _ _ _ HHB.out
  have z0:w1.frozen? ⟨A,0,none⟩=false:=frozen_of_row _ _ 0 _ _ HHB.out
  have z1:w1.frozen? ⟨A,1,none⟩=false:=frozen_of_row _ _ 1 _ _ HHB.out
  have z2:w1.frozen? ⟨A,2,none⟩=false:=frozen_of_row _ _ 2 _ _ HHB.out
  have HA:Hid (∀ W,Kep non w1 W→(W.cell? ⟨A,0,none⟩=some (.int .i64 0)∧W.frozen? ⟨A,0,none⟩=false)∧(W.cell? ⟨A,1,none⟩=some (.int .i64 0)∧W.frozen? ⟨A,1,none⟩=false)∧(W.cell? ⟨A,2,none⟩=some (.float .f64 0)∧W.frozen? ⟨A,2,none⟩=false)):=hide fun W k=>by
    have hb:=(k.block A hz1 (fun q=>q)).trans HHB.out
    exact ⟨⟨cell_of_row _ _ 0 _ _ _ hb,frozen_of_row _ _ 0 _ _ hb⟩,⟨cell_of_row _ _ 1 _ _ _ hb,frozen_of_row _ _ 1 _ _ hb⟩,⟨cell_of_row _ _ 2 _ _ _ hb,frozen_of_row _ _ 2 _ _ hb⟩⟩
  go_cut [7] (fun v7 wx=>v7 = .int .i64 0∧wx.cell? ⟨A,0,none⟩=some (.int .i64 la)∧wx.cell? ⟨A,1,none⟩=some (.int .i64 pi)∧wx.cell? ⟨A,2,none⟩=some (.float .f64 (meanF am pi))∧Kep non w wx)
  case first =>
    go_region_held3 (fun w'=>w'.cell? ⟨L.gb h,g * 5+2,none⟩=some (.int .i64 la)∧w'.cell? ⟨L.gb h,g * 5+3,none⟩=some (.int .i64 pi))
      ((refine (HW.out _ ?_).2.2;(repeat (first | apply Kep.drew | apply Kep.alloc | (refine Kep.setCell ?_ (.inr (Nat.le_of_eq HAA.out)) _)));first | exact HK0.out | assumption))
      ((go_at_call 117;refine (HMn.out _ ?_).mono ?_;((repeat (first | apply Kep.drew | apply Kep.alloc));first | exact HK0.out | assumption);rintro e w2 ⟨rfl,kb⟩;have K1:Kep non w w2:=Kep.trans (by (repeat (first | apply Kep.drew | apply Kep.alloc));exact HK0.out) kb;have K2:Kep non w1 w2:=Kep.trans (by (repeat (first | apply Kep.drew | apply Kep.alloc));exact Kep.refl _ _) kb;obtain ⟨⟨e0,e1⟩,⟨e2,e3⟩,e4,e5⟩:=HA.out w2 K2))
    all_goals go_step
    all_goals go_step
    all_goals go_meet
    all_goals have T:=three_set (w:=w2) (b:=A) ⟨e0,e1⟩ ⟨e2,e3⟩ ⟨e4,e5⟩ (.int .i64 la) (.int .i64 pi) (.float .f64 (meanF am pi))
    all_goals exact ⟨rfl,T.1,T.2.1,T.2.2,((K1.setCell (p:=⟨A,0,none⟩) (.inr (Nat.le_of_eq HAA.out)) _).setCell (p:=⟨A,1,none⟩) (.inr (Nat.le_of_eq HAA.out)) _).setCell (p:=⟨A,2,none⟩) (.inr (Nat.le_of_eq HAA.out)) _⟩
  case rest =>
    obtain ⟨rfl,t0,t1,t2,kw⟩:=hcut
    go_wp2
    exact bodyPost_ret (v:=.tuple #[.agg #[.int .i64 la,.int .i64 pi,.float .f64 (meanF am pi)],.int .i64 0]) (by simp [results,Tryz.results59,go_sem,t0,t1,t2]) rfl ⟨rfl,kw⟩
end

end Go.Proofs.YtcfoobhihhndjaaGreat
