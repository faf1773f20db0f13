
import Derived.Test.YtcfoobhihhndjaaGreatB43
namespace Go.Proofs.YtcfoobhihhndjaaGreat

section
theorem rpaid_mo (r:Rm) (b s t h g:Nat) (n a f:Int) (i:Nat):(rpaid r b s t h g n a f).mo i=r.mo i - (if i=b then a else 0)+(if i=s then a else 0) - (if i=t then f else 0):=by
  simp only [rpaid,Rm.setMo,Rm.setPc]
  by_cases h1:i=t
  · subst h1
    by_cases h2:i=s
    · subst h2
      by_cases h3:i=b
      · subst h3;simp
      · simp [h3]
    · by_cases h3:i=b
      · subst h3;simp [h2]
      · simp [h2,h3]
  · by_cases h2:i=s
    · subst h2
      by_cases h3:i=b
      · subst h3;simp [h1]
      · simp [h1,h3]
    · by_cases h3:i=b
      · subst h3;simp [h1,h2]
      · simp [h1,h2,h3]
theorem rpaid_pc (r:Rm) (b s t h g:Nat) (n a f:Int) (i j l:Nat):(rpaid r b s t h g n a f).pc i j l=r.pc i j l - (if i=s∧j=h∧l=g then n else 0)+(if i=b∧j=h∧l=g then n else 0):=by
  simp only [rpaid,Rm.setMo,Rm.setPc]
  by_cases hj:j=h∧l=g
  · obtain ⟨rfl,rfl⟩:=hj
    by_cases h2:i=b
    · subst h2
      by_cases h3:i=s
      · subst h3;simp
      · simp [h3]
    · by_cases h3:i=s
      · subst h3;simp [h2]
      · simp [h2,h3]
  · rw [if_neg (fun k=>hj k.2),if_neg (fun k=>hj k.2),if_neg (fun k=>hj k.2),if_neg (fun k=>hj k.2)]
    omega

theorem rpaid_rest (r:Rm) (b s t h g:Nat) (n a f:Int):(rpaid r b s t h g n a f).la=r.la∧(rpaid r b s t h g n a f).pi=r.pi∧(rpaid r b s t h g n a f).am=r.am∧(rpaid r b s t h g n a f).ho=r.ho+f∧(rpaid r b s t h g n a f).nx=r.nx:=⟨rfl,rfl,rfl,rfl,rfl⟩
theorem rn_la (X:Rm) (h g:Nat) (p n a:Int) (k:Nat) (x:Od) (q:Int) (i j:Nat):(rless (rnote X h g p n a) k x q).la i j=if i=h∧j=g then p else X.la i j:=rfl
theorem rn_pi (X:Rm) (h g:Nat) (p n a:Int) (k:Nat) (x:Od) (q:Int) (i j:Nat):(rless (rnote X h g p n a) k x q).pi i j=if i=h∧j=g then X.pi h g+n else X.pi i j:=rfl
theorem rn_am (X:Rm) (h g:Nat) (p n a:Int) (k:Nat) (x:Od) (q:Int) (i j:Nat):(rless (rnote X h g p n a) k x q).am i j=if i=h∧j=g then X.am h g+a else X.am i j:=rfl
theorem rn_mo (X:Rm) (h g:Nat) (p n a:Int) (k:Nat) (x:Od) (q:Int):(rless (rnote X h g p n a) k x q).mo=X.mo∧(rless (rnote X h g p n a) k x q).pc=X.pc∧(rless (rnote X h g p n a) k x q).nx=X.nx∧(rless (rnote X h g p n a) k x q).ho=X.ho:=⟨rfl,rfl,rfl,rfl⟩
theorem no_la (X:Mt) (h g:Nat) (p q:Int) (i j:Nat):(noteM X h g p q).la i j=if i=h∧j=g then p else X.la i j:=rfl
theorem no_pi (X:Mt) (h g:Nat) (p q:Int) (i j:Nat):(noteM X h g p q).pi i j=if i=h∧j=g then X.pi i j+q else X.pi i j:=rfl
theorem no_am (X:Mt) (h g:Nat) (p q:Int) (i j:Nat):(noteM X h g p q).am i j=if i=h∧j=g then X.am i j+p * q else X.am i j:=rfl
theorem no_mo (X:Mt) (h g:Nat) (p q:Int):(noteM X h g p q).mo=X.mo∧(noteM X h g p q).pc=X.pc∧(noteM X h g p q).nu=X.nu∧(noteM X h g p q).ho=X.ho∧(noteM X h g p q).T=X.T∧(noteM X h g p q).G=X.G∧(noteM X h g p q).H=X.H:=⟨rfl,rfl,rfl,rfl,rfl,rfl,rfl⟩

section
variable {h g s:Nat} {N:Int} {m:Mt} {r:Rm} {o z:Od} {rest:List Od} {k:Nat}

theorem note_all (q:at3 m h g s) (hb:m.bk h g s=z :: rest) (n p x:Int):(noteM (oneM m h g s o z n) h g p x).bk=(m.setBk h g s ({ z with q:=z.q - n } :: rest)).bk∧(noteM (oneM m h g s o z n) h g p x).all=(m.setBk h g s ({ z with q:=z.q - n } :: rest)).all:=by
  have e:(noteM (oneM m h g s o z n) h g p x).bk=(m.setBk h g s ({ z with q:=z.q - n } :: rest)).bk:=by
    have:=one_bkJ m h g s q.2.2 o z n p x
    rw [hb] at this
    exact this
  refine ⟨e,?_⟩
  have d:=same_one m h g s o z n
  unfold Mt.all
  show upH (oneM m h g s o z n).G _ (oneM m h g s o z n).H=upH m.G _ m.H
  rw [e,d.G,d.H]

set_option maxHeartbeats 2000000 in
theorem RelO.trade (M:Mid h g s N m o) (R:RelO m r o) (hb:m.bk h g s=z :: rest) (hk:r.wt[k]? = some z) (hne:z.t≠o.t):RelO (noteM (oneM m h g s o z (min o.q z.q)) h g z.p (min o.q z.q)) (rtraded r o z k) { o with q:=o.q - min o.q z.q }:=by
  have zo:=M.I.od h g s z M.q.1 M.q.2.1 M.q.2.2 (by rw [hb];exact List.mem_cons_self)
  have eh:o.h.toNat=h:=by have:=M.eh;omega
  have eg:o.g.toNat=g:=by have:=M.eg;omega
  have zt:=zo.t
  have ot:=M.t
  have hne':z.t.toNat≠o.t.toNat:=by omega
  have zs:=zo.s
  have es:=M.es
  have s2:=M.q.2.2
  unfold rtraded
  rw [eh,eg]
  generalize min o.q z.q=n
  have ef:r.fee h (z.p * n)=m.fee h (z.p * n):=by unfold Rm.fee Mt.fee;rw [R.rt]
  rw [ef]
  have d:=same_one m h g s o z n
  obtain ⟨nb,na⟩:=note_all (o:=o) M.q hb n z.p n
  obtain ⟨ho,_,_,_,_,opi,oam,ola⟩:=one_rest (m:=m) (h:=h) (g:=g) (s:=s) (o:=o) (z:=z) n
  have omo:=one_mo (m:=m) (h:=h) (g:=g) (s:=s) (o:=o) (z:=z) hne' n
  have opc:=one_pc (m:=m) (h:=h) (g:=g) (s:=s) (o:=o) (z:=z) n
  have mz:z.p * (z.q - n)=z.p * z.q - z.p * n:=Int.mul_sub _ _ _
  have mo':o.p * (o.q - n)=o.p * o.q - o.p * n:=Int.mul_sub _ _ _
  obtain ⟨x1,x2,x3,x4,xT,xG,xH⟩:=no_mo (oneM m h g s o z n) h g z.p n
  obtain ⟨y1,y2,y3,y4⟩:=rn_mo (rpaid r (rbuys o z) (rsells o z) o.t.toNat h g n (z.p * n) (m.fee h (z.p * n))) h g z.p n (z.p * n) k z n
  obtain ⟨v1,v2,v3,v4,v5⟩:=rpaid_rest r (rbuys o z) (rsells o z) o.t.toNat h g n (z.p * n) (m.fee h (z.p * n))
  have hmo:=rpaid_mo r (rbuys o z) (rsells o z) o.t.toNat h g n (z.p * n) (m.fee h (z.p * n))
  have hpc:=rpaid_pc r (rbuys o z) (rsells o z) o.t.toNat h g n (z.p * n) (m.fee h (z.p * n))
  have l1:=rn_la (rpaid r (rbuys o z) (rsells o z) o.t.toNat h g n (z.p * n) (m.fee h (z.p * n))) h g z.p n (z.p * n) k z n
  have l2:=rn_pi (rpaid r (rbuys o z) (rsells o z) o.t.toNat h g n (z.p * n) (m.fee h (z.p * n))) h g z.p n (z.p * n) k z n
  have l3:=rn_am (rpaid r (rbuys o z) (rsells o z) o.t.toNat h g n (z.p * n) (m.fee h (z.p * n))) h g z.p n (z.p * n) k z n
  have lw:(rless (rnote (rpaid r (rbuys o z) (rsells o z) o.t.toNat h g n (z.p * n) (m.fee h (z.p * n))) h g z.p n (z.p * n)) k z n).wt=r.wt.set k { z with q:=z.q - n }:=rfl
  have ld':(rless (rnote (rpaid r (rbuys o z) (rsells o z) o.t.toNat h g n (z.p * n) (m.fee h (z.p * n))) h g z.p n (z.p * n)) k z n).T=r.T∧(rless (rnote (rpaid r (rbuys o z) (rsells o z) o.t.toNat h g n (z.p * n) (m.fee h (z.p * n))) h g z.p n (z.p * n)) k z n).G=r.G∧(rless (rnote (rpaid r (rbuys o z) (rsells o z) o.t.toNat h g n (z.p * n) (m.fee h (z.p * n))) h g z.p n (z.p * n)) k z n).H=r.H∧(rless (rnote (rpaid r (rbuys o z) (rsells o z) o.t.toNat h g n (z.p * n) (m.fee h (z.p * n))) h g z.p n (z.p * n)) k z n).rt=r.rt∧(rless (rnote (rpaid r (rbuys o z) (rsells o z) o.t.toNat h g n (z.p * n) (m.fee h (z.p * n))) h g z.p n (z.p * n)) k z n).ld=r.ld∧(rless (rnote (rpaid r (rbuys o z) (rsells o z) o.t.toNat h g n (z.p * n) (m.fee h (z.p * n))) h g z.p n (z.p * n)) k z n).tm=r.tm:=⟨rfl,rfl,rfl,rfl,rfl,rfl⟩
  obtain ⟨u1,u2,u3,u4,u5,u6⟩:=ld'
  have n1:(noteM (oneM m h g s o z n) h g z.p n).rt=m.rt∧(noteM (oneM m h g s o z n) h g z.p n).ld=m.ld∧(noteM (oneM m h g s o z n) h g z.p n).tm=m.tm:=⟨d.rt,d.ld,d.tm⟩
  have l4:=no_la (oneM m h g s o z n) h g z.p n
  have l5:=no_pi (oneM m h g s o z n) h g z.p n
  have l6:=no_am (oneM m h g s o z n) h g z.p n
  generalize rpaid r (rbuys o z) (rsells o z) o.t.toNat h g n (z.p * n) (m.fee h (z.p * n))=P at *
  generalize rless (rnote P h g z.p n (z.p * n)) k z n=Q at *
  have dT:=d.T
  have dG:=d.G
  have dH:=d.H
  have dN:=d.nu
  clear d
  generalize oneM m h g s o z n=O at *
  generalize noteM O h g z.p n=X at *
  have hT:X.T=m.T:=by omega
  have hG:X.G=m.G:=by omega
  have hH:X.H=m.H:=by omega
  refine ⟨by rw [u1,hT];exact R.T,by rw [u2,hG];exact R.G,by rw [u3,hH];exact R.H,by rw [u4,n1.1];exact R.rt,fun t ht=>?_,fun t a b h1 h2 h3=>?_,?_,by rw [lw];exact set_ids hk _ R.srt,fun x hx=>?_,by rw [u5,n1.2.1];exact R.ld,fun a b h1 h2=>?_,fun a b h1 h2=>?_,fun a b h1 h2=>?_,?_,?_,by rw [u6,n1.2.2];exact R.tm⟩
  · rw [hT] at ht
    have e:=R.mo t ht
    have eh2:X.held t=(m.setBk h g s ({ z with q:=z.q - n } :: rest)).held t:=by unfold Mt.held;rw [na]
    have e2:=held_setBk M.q ({ z with q:=z.q - n } :: rest) t
    rw [hb] at e2
    simp only [heldL] at e2 e
    rw [mz] at e2
    rw [eh2,e2,y1,x1,hmo,omo,e]
    simp only [heldL]
    rw [mo']
    have i1:(o.t=(t:Int)) ↔ t=o.t.toNat:=by omega
    have i2:(z.t=(t:Int)) ↔ t=z.t.toNat:=by omega
    simp only [i1,i2]
    generalize m.fee h (z.p * n)=f
    generalize z.p * n=a
    generalize o.p * n=b
    generalize z.p * z.q=a2
    generalize o.p * o.q=b2
    by_cases c:s=1
    · have os:o.s=0:=by rw [es,c];rfl
      have zs':z.s=1:=by omega
      have eb:rbuys o z=o.t.toNat:=by unfold rbuys;rw [if_neg (by omega)]
      have esl:rsells o z=z.t.toNat:=by unfold rsells;rw [if_neg (by omega)]
      rw [eb,esl,if_pos c]
      simp only [os,zs',show ¬ (1:Int)=0 by decide,and_false,if_false,and_true]
      by_cases c1:t=o.t.toNat
      · have c2:¬ t=z.t.toNat:=by omega
        have e3:m.mo o.t.toNat=m.mo t:=by rw [c1]
        simp only [if_pos c1,if_neg c2]
        omega
      · by_cases c2:t=z.t.toNat
        · have e3:m.mo z.t.toNat=m.mo t:=by rw [c2]
          simp only [if_neg c1,if_pos c2]
          omega
        · simp only [if_neg c1,if_neg c2]
          omega
    · have os:o.s=1:=by rw [es,show s=0 by omega];rfl
      have zs':z.s=0:=by omega
      have eb:rbuys o z=z.t.toNat:=by unfold rbuys;rw [if_pos os]
      have esl:rsells o z=o.t.toNat:=by unfold rsells;rw [if_pos os]
      rw [eb,esl,if_neg c]
      simp only [os,zs',show ¬ (1:Int)=0 by decide,and_false,if_false,and_true]
      by_cases c1:t=o.t.toNat
      · have c2:¬ t=z.t.toNat:=by omega
        have e3:m.mo o.t.toNat=m.mo t:=by rw [c1]
        simp only [if_pos c1,if_neg c2]
        omega
      · by_cases c2:t=z.t.toNat
        · simp only [if_neg c1,if_pos c2]
          omega
        · simp only [if_neg c1,if_neg c2]
          omega
  · rw [hT] at h1
    rw [hH] at h2
    rw [hG] at h3
    have e:=R.pc t a b h1 h2 h3
    have ek:X.kept t a b=(m.setBk h g s ({ z with q:=z.q - n } :: rest)).kept t a b:=by unfold Mt.kept;rw [nb]
    rw [ek,kept_setBk,y2,x2,hpc,opc,e]
    have eO:=M.eh
    have eG:=M.eg
    have i1:(o.t=(t:Int)) ↔ t=o.t.toNat:=by omega
    have i2:(z.t=(t:Int)) ↔ t=z.t.toNat:=by omega
    have i3:(o.h=(a:Int)) ↔ a=h:=by omega
    have i4:(o.g=(b:Int)) ↔ b=g:=by omega
    simp only [keptA,keptL,i1,i2,i3,i4]
    by_cases c3:a=h∧b=g
    · obtain ⟨c4,c5⟩:=c3
      by_cases c:s=1
      · have os:o.s=0:=by rw [es,c];rfl
        have eb:rbuys o z=o.t.toNat:=by unfold rbuys;rw [if_neg (by omega)]
        have esl:rsells o z=z.t.toNat:=by unfold rsells;rw [if_neg (by omega)]
        have ek2:m.kept t a b=(if t=z.t.toNat then z.q else 0)+keptL t rest:=by
          rw [← c4,← c5,c] at hb
          unfold Mt.kept
          rw [hb]
          simp only [keptL,i2]
        rw [eb,esl,ek2,if_pos c]
        simp only [os,c,c4,c5,show ¬ (0:Int)=1 by decide,and_false,if_false,and_true,if_true]
        by_cases c1:t=o.t.toNat
        · have c2:¬ t=z.t.toNat:=by omega
          simp only [if_pos c1,if_neg c2]
          omega
        · by_cases c2:t=z.t.toNat
          · simp only [if_neg c1,if_pos c2]
            omega
          · simp only [if_neg c1,if_neg c2]
            omega
      · have os:o.s=1:=by rw [es,show s=0 by omega];rfl
        have eb:rbuys o z=z.t.toNat:=by unfold rbuys;rw [if_pos os]
        have esl:rsells o z=o.t.toNat:=by unfold rsells;rw [if_pos os]
        rw [eb,esl,if_neg c]
        simp only [os,c,c4,c5,and_false,if_false,and_true]
        by_cases c1:t=o.t.toNat
        · have c2:¬ t=z.t.toNat:=by omega
          simp only [if_pos c1,if_neg c2]
          omega
        · by_cases c2:t=z.t.toNat
          · simp only [if_neg c1,if_pos c2]
            omega
          · simp only [if_neg c1,if_neg c2]
            omega
    · have c4:¬ (a=h∧b=g∧s=1):=fun k=>c3 ⟨k.1,k.2.1⟩
      simp only [if_neg c4,c3,and_false,if_false]
      omega
  · have p1:=drop_perm hk
    have p2:=all_less M.q (z:=z) (l:=rest) (by rw [hb])
    have p3:=((p1.symm.trans R.wt).trans p2).cons_inv
    have p4:=set_perm hk { z with q:=z.q - n }
    have p5:(m.setBk h g s ({ z with q:=z.q - n } :: rest)).all.Perm ({ z with q:=z.q - n } :: (m.setBk h g s rest).all):=by
      have:=all_less (m:=m.setBk h g s ({ z with q:=z.q - n } :: rest)) (h:=h) (g:=g) (s:=s) M.q (z:={ z with q:=z.q - n }) (l:=rest) (by rw [bk_set])
      rwa [setBk_setBk] at this
    rw [na,lw]
    exact (p4.trans (p3.cons _)).trans p5.symm
  · rw [lw] at hx
    rcases List.mem_or_eq_of_mem_set hx with q | q
    · exact R.lt x q
    · subst q
      exact R.lt z (List.mem_of_getElem? hk)
  · rw [l1,l4,v1,ola,R.la a b (by omega) (by omega)]
  · rw [l2,l5,v2,opi,R.pi a b (by omega) (by omega)]
    by_cases c:a=h∧b=g
    · rw [if_pos c,if_pos c,R.pi h g M.q.1 M.q.2.1,c.1,c.2]
    · rw [if_neg c,if_neg c]
  · rw [l3,l6,v3,oam,R.am a b (by omega) (by omega)]
    by_cases c:a=h∧b=g
    · rw [if_pos c,if_pos c,R.am h g M.q.1 M.q.2.1,c.1,c.2]
    · rw [if_neg c,if_neg c]
  · rw [y3,x3,v5,dN];exact R.nx
  · rw [y4,x4,v4,ho,R.ho]

theorem no_fit (M:Mid h g s N m o) {l:List Od} (hp:l.Pairwise (Ahd s)) (hf:∀ z r,l=z :: r→pfits o z=false):∀ x∈l,pfits o x=false:=by
  have s2:=M.q.2.2
  have e:otherS (otherS s)=s:=by rcases s with _ | _ | s <;> first | rfl | omega
  have ho2:otherS s<2:=by unfold otherS;split <;> omega
  intro x hx
  have:=left_fits ho2 M.es (l:=l) (by rw [e];exact hp) hf x hx
  unfold pfits
  have es:=M.es
  unfold otherS at this es
  rcases s with _ | _ | s
  · simp at this es
    rw [if_neg (by omega)]
    simp;omega
  · simp at this es
    rw [if_pos (by omega)]
    simp;omega
  · omega

theorem run_match:∀ (l:List Od) (m:Mt) (r:Rm) (o:Od) (n:Nat),m.bk h g s=l→Mid h g s N m o→l.Pairwise (Ahd s)→RelO m r o→l.length+1≤n →
    ∃ r',rrun n r o=(r',(matchM h g s l m o).2.1,(matchM h g s l m o).2.2)∧RelO (matchM h g s l m o).1 r' (matchM h g s l m o).2.1
  | [],m,r,o,n,hb,M,hp,R,hn=>by
    refine ⟨r,?_,R⟩
    rw [rrun_none (rround_alone (best_none M R (by rw [hb];intro x hx;cases hx)))]
    rfl
  | z :: rest,m,r,o,n,hb,M,hp,R,hn=>by
    rw [matchM]
    split
    · rename_i h1
      exact ⟨r,by rw [rrun_none (rround_used h1)],R⟩
    · rename_i h1
      split
      · rename_i h2
        refine ⟨r,?_,R⟩
        rw [rrun_none (rround_alone (best_none M R (by rw [hb];exact no_fit M hp (fun y q e=>by cases e;exact h2))))]
      · rename_i h2
        have hf:pfits o z=true:=by simpa using h2
        obtain ⟨k,hk,hz⟩:=best_head M R hb hp hf
        have hp':=(List.pairwise_cons.1 hp).2
        obtain ⟨n',rfl⟩ : ∃ n',n=n'+1:=⟨n - 1,by simp only [List.length_cons] at hn;omega⟩
        simp only [List.length_cons] at hn
        split
        · rename_i h3
          obtain ⟨r',e,R'⟩:=run_match rest _ (rdrop r k) o n' (by rw [bk_release,bk_set]) (M.tb hb) hp' (R.own M hb hz) (by omega)
          refine ⟨r',?_,R'⟩
          rw [rrun,rround_own (by omega) hk hz h3]
          simp only [e,List.nil_append]
        · rename_i h3
          have T:=R.trade M hb hz h3
          have kl:=(List.getElem?_eq_some_iff.1 hz).1
          have eh:o.h.toNat=h:=by have:=M.eh;omega
          have et:rtold r o z=oneT m h o z (min o.q z.q):=by
            unfold rtold oneT Rm.fee Mt.fee
            rw [R.rt,eh]
          split
          · rename_i h4
            have M':=M.tr (by omega) hb hf h3 h4
            have hb':(noteM (oneM m h g s o z (min o.q z.q)) h g z.p (min o.q z.q)).bk h g s={ z with q:=z.q - min o.q z.q } :: rest:=mo_bk0 M.q.2.2 hb _ _
            have d:=same_one m h g s o z (min o.q z.q)
            have q':at3 (noteM (oneM m h g s o z (min o.q z.q)) h g z.p (min o.q z.q)) h g s:=by
              have:=M.q
              exact ⟨by show h<(oneM m h g s o z (min o.q z.q)).H;rw [d.H];exact this.1,by show g<(oneM m h g s o z (min o.q z.q)).G;rw [d.G];exact this.2.1,this.2.2⟩
            have T2:=T.gone (k:=k) q' hb' h4 (by show (r.wt.set k { z with q:=z.q - min o.q z.q })[k]? = _;rw [List.getElem?_set_self kl])
            obtain ⟨r',e,R'⟩:=run_match rest _ (rdrop (rtraded r o z k) k) { o with q:=o.q - min o.q z.q } n' (bk_set _ _ _ _ _) M' hp' T2 (by omega)
            refine ⟨r',?_,R'⟩
            have er:rtrade r o z k=rdrop (rtraded r o z k) k:=by unfold rtrade;rw [if_pos (by omega)]
            rw [rrun,rround_other (by omega) hk hz h3,er]
            simp only [e,et,List.cons_append,List.nil_append]
          · rename_i h4
            have er:rtrade r o z k=rtraded r o z k:=by unfold rtrade;rw [if_neg (by omega)]
            refine ⟨rtraded r o z k,?_,T⟩
            have e0:=rrun_none (r:=rtraded r o z k) (rround_used (r:=rtraded r o z k) (o:={ o with q:=o.q - min o.q z.q }) (by show o.q - min o.q z.q≤0;omega)) n'
            rw [rrun,rround_other (by omega) hk hz h3,er]
            simp only [e0,et,List.append_nil]
end
end

end Go.Proofs.YtcfoobhihhndjaaGreat
