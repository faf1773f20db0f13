
import Derived.Test.YtcfoobhihhndjaaGreatB19
namespace Go.Proofs.YtcfoobhihhndjaaGreat

section
theorem Adds.put {α:Type} {φ:List α→Int} (A:Adds φ) (l:List α) (i:Nat) (x:α):φ (putAt l i x)=φ l+φ [x]:=by
  have h1:φ l=φ (l.take i)+φ (l.drop i):=by rw [← A.app,List.take_append_drop]
  unfold putAt
  rw [A.app,A.cons x,h1]
  omega

theorem mem_put {α:Type} {l:List α} {i:Nat} {x y:α} (h:y∈putAt l i x):y=x∨y∈l:=by
  unfold putAt at h
  rcases List.mem_append.1 h with h | h
  · exact .inr (List.mem_of_mem_take h)
  · rcases List.mem_cons.1 h with h | h
    · exact .inl h
    · exact .inr (List.mem_of_mem_drop h)

theorem Mid.settle {h g s:Nat} {N:Int} {m:Mt} {o:Od} (M:Mid h g (otherS s) N m o) (es:o.s=s) (s2:s<2) (hid:o.id=m.nu) (hn1:1≤m.nu) (hw:0≤o.w∧o.w≤3) (h60:m.all.length<60):(settleM m o).Inv N:=by
  obtain ⟨q1,q2,_⟩:=M.q
  have q:at3 m h g s:=⟨q1,q2,s2⟩
  have ot:=M.t
  have hz:o.t.toNat<m.T:=by omega
  have op:=M.p
  have oq:=M.n
  have eh:=M.eh
  have eg:=M.eg
  have toh:o.h.toNat=h:=by omega
  have tog:o.g.toNat=g:=by omega
  have tos:o.s.toNat=s:=by omega
  have mon:=M.I.mon
  have stk:=M.I.stk
  have hpq:=mul_le' (a:=o.p) (b:=o.q) (A:=100000) (B:=10000) (by omega) op.2 oq.1 oq.2
  have sl:0≤(if 0<o.q then (2:Int) else 0):=by split <;> omega
  have pi':=M.I.pi
  have am':=M.I.am
  unfold settleM Mt.Inv
  split
  · rename_i hq
    have sl2:(if 0<o.q then (2:Int) else 0)=2:=if_pos hq.1
    rw [sl2] at pi' am'
    unfold waitM
    rw [toh,tog,tos]
    obtain ⟨k,hk⟩ : ∃ k,k=slot (ahAt (m.bk h g s) s o) (m.bk h g s).length:=⟨_,rfl⟩
    rw [← hk]
    have al:=all_setBk m q (putAt (m.bk h g s) k o)
    have pl:=(adds_len (α:=Od)).put (m.bk h g s) k o
    simp only [List.length_singleton] at pl
    have he:=(adds_heldS m.T).put (m.bk h g s) k o
    have ke:=(adds_keptS m.T).put (m.bk h g s) k o
    rw [heldS_one M.t] at he
    rw [keptS_one M.t] at ke
    refine ⟨M.I.bN,M.I.T1,M.I.T8,M.I.G1,M.I.G4,M.I.H1,M.I.H4,M.I.rt,M.I.mo,M.I.pc,M.I.l20,M.I.ld,by omega,fun a b c x ha hb hc hx=>?_,M.I.nu,M.I.ho,M.I.tm,?_,fun g' hg'=>?_,fun a b ha hb=>?_,fun a b ha hb=>?_⟩
    · by_cases e:a=h∧b=g∧c=s
      · obtain ⟨rfl,rfl,rfl⟩:=e
        have hx':x∈putAt (m.bk a b c) k o:=by simpa [Mt.setBk] using hx
        rcases mem_put hx' with rfl | hx'
        · exact ⟨⟨by rw [hid];exact hn1,by rw [hid];exact Int.le_refl _⟩,M.t,eh,eg,es,op,⟨by omega,oq.2⟩,hw⟩
        · exact (M.I.od a b c x ha hb hc hx').of (Int.le_refl _) rfl
      · exact (M.I.od a b c x ha hb hc (by simpa [Mt.setBk,e] using hx)).of (Int.le_refl _) rfl
    · rw [money_setBk m q,he]
      show _+_+(0:Int)≤_
      unfold airM at mon
      omega
    · rw [stock_setBk m q]
      have k1:=stk g' hg'
      unfold airP at k1
      show _+_+(0:Int)≤_
      by_cases e:s=1∧g'=g
      · obtain ⟨rfl,rfl⟩:=e
        rw [if_pos ⟨es,by rw [eg]⟩] at k1
        rw [if_pos ⟨rfl,rfl⟩,ke]
        omega
      · rw [if_neg e]
        rw [if_neg (fun f=>e ⟨by omega,by have:=f.2;omega⟩)] at k1
        omega
    · have:=pi' a b ha hb
      show 0≤m.pi a b∧m.pi a b+10000 * (_+0)≤20000 * m.nu
      omega
    · have:=am' a b ha hb
      show 0≤m.am a b∧m.am a b+1000000000 * (_+0)≤2000000000 * m.nu
      omega
  · rw [toh,tog,tos]
    unfold releaseM
    by_cases e:s=0
    · subst e
      have o0:o.s=0:=es
      rw [if_pos rfl]
      have a1:airM o=o.p * o.q:=by unfold airM;rw [if_pos o0]
      refine ⟨M.I.bN,M.I.T1,M.I.T8,M.I.G1,M.I.G4,M.I.H1,M.I.H4,M.I.rt,fun t ht=>?_,M.I.pc,M.I.l20,M.I.ld,M.I.a60,fun a b c x ha hb hc hx=>(M.I.od a b c x ha hb hc hx).of (Int.le_refl _) rfl,M.I.nu,M.I.ho,M.I.tm,?_,fun g' hg'=>?_,fun a b ha hb=>?_,fun a b ha hb=>?_⟩
      · show 0≤if t=o.t.toNat then m.mo o.t.toNat+o.p * o.q else m.mo t
        have:=M.I.mo t ht
        have:=M.I.mo _ hz
        split <;> omega
      · rw [money_setMo _ _ hz]
        show _+_+(0:Int)≤_
        omega
      · have k1:=stk g' hg'
        have:=airP_nonneg (o:=o) oq.1 g'
        rw [stock_setMo]
        show _+(0:Int)≤_
        omega
      · have:=pi' a b ha hb
        show 0≤m.pi a b∧m.pi a b+10000 * (m.all.length+0)≤20000 * m.nu
        omega
      · have:=am' a b ha hb
        show 0≤m.am a b∧m.am a b+1000000000 * (m.all.length+0)≤2000000000 * m.nu
        omega
    · have s1:s=1:=by omega
      subst s1
      have o1:o.s=1:=es
      rw [if_neg (by decide)]
      have a1:airM o=0:=by unfold airM;rw [if_neg (by omega)]
      refine ⟨M.I.bN,M.I.T1,M.I.T8,M.I.G1,M.I.G4,M.I.H1,M.I.H4,M.I.rt,M.I.mo,fun a b c ha hb hc=>?_,M.I.l20,M.I.ld,M.I.a60,fun a b c x ha hb hc hx=>(M.I.od a b c x ha hb hc hx).of (Int.le_refl _) rfl,M.I.nu,M.I.ho,M.I.tm,?_,fun g' hg'=>?_,fun a b ha hb=>?_,fun a b ha hb=>?_⟩
      · show 0≤if a=o.t.toNat∧b=h∧c=g then m.pc o.t.toNat h g+o.q else m.pc a b c
        have:=M.I.pc a b c ha hb hc
        have:=M.I.pc _ _ _ hz q1 q2
        split <;> omega
      · rw [money_setPc]
        show _+(0:Int)≤_
        omega
      · have k1:=stk g' hg'
        unfold airP at k1
        rw [stock_setPc _ _ _ _ hz q1]
        show _+(if g'=g then m.pc o.t.toNat h g+o.q - m.pc o.t.toNat h g else 0)+(0:Int)≤_
        by_cases e':g'=g
        · rw [if_pos ⟨o1,by rw [eg,e']⟩] at k1
          rw [if_pos e']
          omega
        · rw [if_neg (fun f=>e' (by have:=f.2;omega))] at k1
          rw [if_neg e']
          omega
      · have:=pi' a b ha hb
        show 0≤m.pi a b∧m.pi a b+10000 * (m.all.length+0)≤20000 * m.nu
        omega
      · have:=am' a b ha hb
        show 0≤m.am a b∧m.am a b+1000000000 * (m.all.length+0)≤2000000000 * m.nu
        omega

theorem same_hold (m:Mt) (o:Od):Same m (holdM m o):=by unfold holdM;split <;> exact ⟨rfl,rfl,rfl,rfl,rfl,rfl,rfl⟩
theorem bk_hold (m:Mt) (o:Od):(holdM m o).bk=m.bk:=by unfold holdM;split <;> rfl
theorem all_hold (m:Mt) (o:Od):(holdM m o).all=m.all:=by unfold Mt.all;rw [bk_hold,(same_hold m o).G,(same_hold m o).H]

theorem Mt.Inv.mid {m:Mt} {N:Int} (I:m.Inv N) (hn:m.nu+1≤N) {o:Od} (hE:placeE m o=0) {h g s:Nat} (eh:o.h=h) (eg:o.g=g) (es:o.s=s) :
    Mid h g (otherS s) N (placed m o).1 (placed m o).2.1∧(placed m o).1.all.length<60∧(placed m o).1.nu=m.nu+1∧∃ x,(placed m o).2.1={ o with id:=m.nu+1,q:=x }:=by
  have M0:=I.start hn hE eh eg es
  have toh:o.h.toNat=h:=by omega
  have tog:o.g.toNat=g:=by omega
  have tos:o.s.toNat=s:=by omega
  unfold placed
  rw [toh,tog,tos]
  have hb:(holdM { m with nu:=m.nu+1 } { o with id:=m.nu+1 }).bk h g (otherS s)=m.bk h g (otherS s):=by rw [bk_hold]
  refine ⟨(run_mid h g (otherS s) N).out _ _ _ hb M0,?_,?_,?_⟩
  · have l:=matchM_all (m.bk h g (otherS s)) (holdM { m with nu:=m.nu+1 } { o with id:=m.nu+1 }) { o with id:=m.nu+1 } M0.q hb
    rw [all_hold] at l
    have:=(placeE_zero hE).2.1
    exact Nat.lt_of_le_of_lt l this
  · rw [(matchM_same _ _ _).nu,(same_hold _ _).nu]
  · obtain ⟨x,hx⟩:=matchM_o (h:=h) (g:=g) (s:=otherS s) (m.bk h g (otherS s)) (holdM { m with nu:=m.nu+1 } { o with id:=m.nu+1 }) { o with id:=m.nu+1 }
    exact ⟨x,hx⟩

theorem Mt.Inv.place {m:Mt} {N:Int} (I:m.Inv N) (hn:m.nu+1≤N) (o:Od):(placeM m o).Inv N:=by
  unfold placeM
  split
  · rename_i hE
    have i:=(refE1_zero (placeE_zero hE).1)
    obtain ⟨bs,bw,bp,bq⟩:=fit_bd i.2.2.2
    obtain ⟨h,eh⟩ : ∃ h:Nat,o.h=h:=⟨o.h.toNat,by have:=i.2.1.1;omega⟩
    obtain ⟨g,eg⟩ : ∃ g:Nat,o.g=g:=⟨o.g.toNat,by have:=i.2.2.1.1;omega⟩
    obtain ⟨s,es⟩ : ∃ s:Nat,o.s=s:=⟨o.s.toNat,by omega⟩
    obtain ⟨M,l,n,x,ex⟩:=I.mid hn hE eh eg es
    have nu0:=I.nu
    refine M.settle (s:=s) (by rw [ex];exact es) (by omega) (by rw [ex,n]) (by omega) (by rw [ex];exact bw) l
  · exact I
end

section
theorem sumM_eq (m:Mt):∀ j,m.sumM j=m.ho+sumN m.mo j+sumN (fun i=>heldL i m.all) j
  | 0=>by simp [Mt.sumM,sumN]
  | j+1=>by
    simp only [Mt.sumM,sumN,sumM_eq m j]
    have:m.held j=heldL j m.all:=rfl
    omega
theorem sumM_money (m:Mt):m.sumM m.T=m.money:=sumM_eq m m.T

theorem sumN_swap (f:Nat→Nat→Int) (H:Nat):∀ T,sumN (fun i=>sumN (fun k=>f i k) H) T=sumN (fun k=>sumN (fun i=>f i k) T) H
  | 0=>by
    simp only [sumN]
    exact (sumN_zero H).symm
  | T+1=>by
    simp only [sumN]
    rw [sumN_swap f H T]
    exact (sumN_add _ _ H).symm

theorem rowTo_eq (m:Mt) (g i:Nat):∀ k,rowTo m g i k=sumN (fun k=>m.pc i k g) k+sumN (fun k=>keptL i (m.bk k g 1)) k+sumN (fun k=>comeL i k g m.ld) k
  | 0=>by simp [rowTo,sumN]
  | k+1=>by
    simp only [rowTo,sumN,rowTo_eq m g i k]
    have h1:m.kept i k g=keptL i (m.bk k g 1):=rfl
    have h2:m.come i k g=comeL i k g m.ld:=rfl
    omega
theorem totTo_eq (m:Mt) (g:Nat):∀ i,totTo m g i=sumN (fun i=>sumN (fun k=>m.pc i k g) m.H) i+sumN (fun i=>sumN (fun k=>keptL i (m.bk k g 1)) m.H) i+sumN (fun i=>sumN (fun k=>comeL i k g m.ld) m.H) i
  | 0=>by simp [totTo,sumN]
  | i+1=>by simp only [totTo,sumN,totTo_eq m g i,rowTo_eq];omega
theorem totTo_stock (m:Mt) (g:Nat):totTo m g m.T=m.stock g:=by
  rw [totTo_eq,sumN_swap (fun i k=>keptL i (m.bk k g 1))]
  rfl

section
variable {m:Mt} {N:Int}

theorem Mt.Inv.setMo (I:m.Inv N) {t:Nat} (ht:t<m.T) {x:Int} (h0:0≤x) (h1:m.money+(x - m.mo t)≤1000000000000):(m.setMo t x).Inv N:=by
  refine ⟨I.bN,I.T1,I.T8,I.G1,I.G4,I.H1,I.H4,I.rt,fun i hi=>?_,I.pc,I.l20,I.ld,I.a60,fun a b c o ha hb hc ho=>(I.od a b c o ha hb hc ho).of (Int.le_refl _) rfl,I.nu,I.ho,I.tm,?_,fun g hg=>I.stk g hg,I.pi,I.am⟩
  · show 0≤if i=t then x else m.mo i
    have:=I.mo i hi
    split <;> omega
  · rw [money_setMo m t ht]
    show _+(0:Int)≤_
    omega

theorem Mt.Inv.setPc (I:m.Inv N) {t h g:Nat} (ht:t<m.T) (hh:h<m.H) {x:Int} (h0:0≤x) (h1:m.stock g+(x - m.pc t h g)≤1000000):(m.setPc t h g x).Inv N:=by
  refine ⟨I.bN,I.T1,I.T8,I.G1,I.G4,I.H1,I.H4,I.rt,I.mo,fun a b c ha hb hc=>?_,I.l20,I.ld,I.a60,fun a b c o ha hb hc ho=>(I.od a b c o ha hb hc ho).of (Int.le_refl _) rfl,I.nu,I.ho,I.tm,I.mon,fun g' hg=>?_,I.pi,I.am⟩
  · show 0≤if a=t∧b=h∧c=g then x else m.pc a b c
    have:=I.pc a b c ha hb hc
    split <;> omega
  · rw [stock_setPc m t h g ht hh]
    have k:m.stock g'+0≤1000000:=I.stk g' hg
    show _+(0:Int)≤_
    by_cases e:g'=g
    · subst e
      rw [if_pos rfl];omega
    · rw [if_neg e];omega

theorem Mt.Inv.pay (I:m.Inv N) (t x:Int):(payM m t x).Inv N:=by
  unfold payM
  split
  · rename_i h
    unfold payE at h
    split at h
    · omega
    · rename_i h1
      split at h
      · omega
      · rename_i h2
        split at h
        · omega
        · rename_i h3
          have h1':okI m.T t:=Classical.not_not.1 h1
          have h2':okN x 1000000000000:=Classical.not_not.1 h2
          have ht:t.toNat<m.T:=by have:=h1'.1;have:=h1'.2;omega
          rw [sumM_money] at h3
          have:=I.mo _ ht
          have:=h2'.1
          exact I.setMo ht (by omega) (by omega)
  · exact I

theorem Mt.Inv.draw (I:m.Inv N) (t x:Int):(drawM m t x).Inv N:=by
  unfold drawM
  split
  · rename_i h
    unfold drawE at h
    split at h
    · omega
    · rename_i h1
      split at h
      · omega
      · rename_i h2
        split at h
        · omega
        · rename_i h3
          have h1':okI m.T t:=Classical.not_not.1 h1
          have h2':okN x 1000000000000:=Classical.not_not.1 h2
          have ht:t.toNat<m.T:=by have:=h1'.1;have:=h1'.2;omega
          have:=I.mo _ ht
          have:=h2'.1
          have k:m.money+0≤1000000000000:=I.mon
          exact I.setMo ht (by omega) (by omega)
  · exact I

theorem bringE_zero {t h g n:Int} (e:bringE m t h g n=0):lotsE m t h g n=0∧totTo m g.toNat m.T+n≤1000000:=by
  unfold bringE at e
  split at e
  · rename_i h1
    exact absurd e h1
  · rename_i h1
    split at e
    · omega
    · exact ⟨Classical.not_not.1 h1,by omega⟩
theorem takeE_zero {t h g n:Int} (e:takeE m t h g n=0):lotsE m t h g n=0∧n≤m.pc t.toNat h.toNat g.toNat:=by
  unfold takeE at e
  split at e
  · rename_i h1
    exact absurd e h1
  · rename_i h1
    split at e
    · omega
    · exact ⟨Classical.not_not.1 h1,by omega⟩

theorem Mt.Inv.bring (I:m.Inv N) (t h g n:Int):(bringM m t h g n).Inv N:=by
  unfold bringM
  split
  · rename_i e
    obtain ⟨e1,e2⟩:=bringE_zero e
    obtain ⟨i1,i2,i3,i4⟩:=lotsE_zero e1
    rw [totTo_stock] at e2
    have ht:t.toNat<m.T:=by have:=i1.1;have:=i1.2;omega
    have hh:h.toNat<m.H:=by have:=i2.1;have:=i2.2;omega
    have hg:g.toNat<m.G:=by have:=i3.1;have:=i3.2;omega
    have:=I.pc _ _ _ ht hh hg
    have:=i4.1
    exact I.setPc ht hh (by omega) (by omega)
  · exact I

theorem Mt.Inv.take (I:m.Inv N) (t h g n:Int):(takeM m t h g n).Inv N:=by
  unfold takeM
  split
  · rename_i e
    obtain ⟨e1,e2⟩:=takeE_zero e
    obtain ⟨i1,i2,i3,i4⟩:=lotsE_zero e1
    have ht:t.toNat<m.T:=by have:=i1.1;have:=i1.2;omega
    have hh:h.toNat<m.H:=by have:=i2.1;have:=i2.2;omega
    have hg:g.toNat<m.G:=by have:=i3.1;have:=i3.2;omega
    have k:m.stock g.toNat+0≤1000000:=I.stk _ hg
    have:=i4.1
    exact I.setPc ht hh (by omega) (by omega)
  · exact I
end

theorem comeS_cons (T H:Nat) (g:Int) (l:Lo) (r:List Lo):comeS T H g (l :: r)=comeS T H g [l]+comeS T H g r:=by
  unfold comeS
  rw [← sumN_add]
  refine sumN_congr fun i _=>?_
  rw [← sumN_add]
  exact sumN_congr fun k _=>comeL_append i k g [l] r

theorem comeS_one {T H:Nat} {g:Nat} {l:Lo} (ht:0≤l.t∧l.t<T) (hh:0≤l.h∧l.h<H):comeS T H g [l]=if l.g=g then l.n else 0:=by
  have e:∀ i k:Nat,comeL i k g [l]=if i=l.t.toNat∧k=l.h.toNat then (if l.g=g then l.n else 0) else 0:=by
    intro i k
    simp only [comeL,Int.add_zero]
    by_cases q:i=l.t.toNat∧k=l.h.toNat
    · rw [if_pos q]
      by_cases eg:l.g=g
      · rw [if_pos eg,if_pos ⟨by omega,by omega,eg⟩]
      · rw [if_neg eg,if_neg (fun f=>eg f.2.2)]
    · rw [if_neg q,if_neg (fun f=>q ⟨by omega,by omega⟩)]
  unfold comeS
  have e2:(fun i:Nat=>sumN (fun k=>comeL i k g [l]) H)=fun i:Nat=>sumN (fun k=>if i=l.t.toNat∧k=l.h.toNat then (if l.g=g then l.n else 0) else (fun (_ _:Nat)=>(0:Int)) i k) H:=by
    funext i
    exact sumN_congr fun k _=>e i k
  rw [e2,sumN2_upd (fun _ _=>0)]
  rw [if_pos ⟨by omega,by omega⟩,sumN_congr (k:=fun _=>0) (fun i _=>sumN_zero H),sumN_zero]
  omega

theorem come_app (T H:Nat) (g:Int):∀ (a b:List Lo),comeS T H g (a ++ b)=comeS T H g a+comeS T H g b
  | [],b=>by
    have:comeS T H g []=0:=by
      unfold comeS
      rw [sumN_congr (k:=fun _=>0) (fun i _=>?_),sumN_zero]
      exact sumN_zero H
    rw [this,List.nil_append];omega
  | l :: r,b=>by rw [List.cons_append,comeS_cons,come_app T H g r b,comeS_cons T H g l r];omega

theorem land_stock (now:Int):∀ (ls:List Lo) (m:Mt),(∀ l∈ls,(0≤l.t∧l.t<m.T)∧(0≤l.h∧l.h<m.H)∧0≤l.g)→∀ g:Nat,
    (landM m now ls).stock g+comeS m.T m.H g (stay now ls)=m.stock g+comeS m.T m.H g ls
  | [],m,_,g=>rfl
  | l :: r,m,h,g=>by
    have hl:=h l List.mem_cons_self
    have hr:=fun x hx=>h x (List.mem_cons_of_mem _ hx)
    rw [comeS_cons m.T m.H g l r]
    by_cases d:now<l.d
    · have ih:=land_stock now r m hr g
      have e:stay now (l :: r)=l :: stay now r:=by simp [stay,d]
      rw [e,comeS_cons m.T m.H g l,landM,if_pos d]
      omega
    · have ih:=land_stock now r (m.setPc l.t.toNat l.h.toNat l.g.toNat (m.pc l.t.toNat l.h.toNat l.g.toNat+l.n)) hr g
      have e:stay now (l :: r)=stay now r:=by simp [stay,d]
      rw [e,landM,if_neg d]
      rw [stock_setPc m _ _ _ (by omega) (by omega)] at ih
      change _+comeS m.T m.H g (stay now r)=_+comeS m.T m.H g r at ih
      rw [comeS_one hl.1 hl.2.1]
      by_cases eg:l.g=g
      · rw [if_pos eg]
        rw [if_pos (by omega)] at ih
        omega
      · rw [if_neg eg]
        rw [if_neg (by omega)] at ih
        omega

theorem landM_rest (m:Mt) (now:Int) (a:List Lo):(landM m now a).rt=m.rt∧(landM m now a).bk=m.bk∧(landM m now a).nu=m.nu∧(landM m now a).ho=m.ho∧(landM m now a).la=m.la∧(landM m now a).pi=m.pi∧(landM m now a).am=m.am:=by
  induction a generalizing m with
  | nil=>simp [landM]
  | cons x a ih =>
    simp only [landM]
    have:=ih (if now<x.d then m else m.setPc x.t.toNat x.h.toNat x.g.toNat (m.pc x.t.toNat x.h.toNat x.g.toNat+x.n))
    by_cases h:now<x.d
    · simpa [h] using this
    · simpa [h,Mt.setPc] using this

theorem landM_nn (now:Int):∀ (a:List Lo) (m:Mt),(∀ l∈a,0≤l.n)→(∀ t h g,t<m.T→h<m.H→g<m.G→0≤m.pc t h g)→∀ t h g,t<m.T→h<m.H→g<m.G→0≤(landM m now a).pc t h g
  | [],m,_,hp=>hp
  | l :: r,m,hb,hp=>by
    rw [landM]
    by_cases d:now<l.d
    · rw [if_pos d]
      exact landM_nn now r m (fun x hx=>hb x (List.mem_cons_of_mem _ hx)) hp
    · rw [if_neg d]
      refine landM_nn now r (m.setPc l.t.toNat l.h.toNat l.g.toNat (m.pc l.t.toNat l.h.toNat l.g.toNat+l.n)) (fun x hx=>hb x (List.mem_cons_of_mem _ hx)) (fun t h g ht hh hg=>?_)
      show 0≤if t=l.t.toNat∧h=l.h.toNat∧g=l.g.toNat then m.pc l.t.toNat l.h.toNat l.g.toNat+l.n else m.pc t h g
      have h1:=hp t h g ht hh hg
      have h2:=hb l List.mem_cons_self
      split
      · rename_i e
        obtain ⟨rfl,rfl,rfl⟩:=e
        omega
      · exact h1

theorem stock_ld (m:Mt) (ls:List Lo) (x:Int) (g:Nat):({ m with ld:=ls,tm:=x }:Mt).stock g=m.stock g+(comeS m.T m.H g ls - comeS m.T m.H g m.ld):=by
  show sumN (fun i=>sumN (fun k=>m.pc i k g) m.H) m.T+sumN (fun k=>keptS m.T (m.bk k g 1)) m.H+comeS m.T m.H g ls=sumN (fun i=>sumN (fun k=>m.pc i k g) m.H) m.T+sumN (fun k=>keptS m.T (m.bk k g 1)) m.H+comeS m.T m.H g m.ld+_
  omega

section
variable {m:Mt} {N:Int}

theorem tick_stock (I:m.Inv N) (g:Nat):(tickM m).stock g=m.stock g:=by
  unfold tickM
  split
  · have s:=landM_same m (m.tm+1) m.ld
    rw [stock_ld,s.1,s.2.2.1,s.2.2.2.2.1]
    have:=land_stock (m.tm+1) m.ld m (fun l hl=>⟨(I.ld l hl).1,(I.ld l hl).2.1,(I.ld l hl).2.2.1.1⟩) g
    omega
  · rfl

theorem tick_money (m:Mt):(tickM m).money=m.money:=by
  unfold tickM
  split
  · have s:=landM_same m (m.tm+1) m.ld
    have r:=landM_rest m (m.tm+1) m.ld
    have ha:(landM m (m.tm+1) m.ld).all=m.all:=by unfold Mt.all;rw [s.2.1,s.2.2.1,r.2.1]
    show (landM m (m.tm+1) m.ld).ho+sumN (landM m (m.tm+1) m.ld).mo (landM m (m.tm+1) m.ld).T+heldS (landM m (m.tm+1) m.ld).T (landM m (m.tm+1) m.ld).all=_
    rw [s.1,s.2.2.2.1,r.2.2.2.1,ha]
    rfl
  · rfl

theorem Mt.Inv.tick (I:m.Inv N):(tickM m).Inv N:=by
  have hs:=fun g=>tick_stock I g
  have hm:=tick_money m
  by_cases e:tickE m=0
  · have s:=landM_same m (m.tm+1) m.ld
    have r:=landM_rest m (m.tm+1) m.ld
    have ha:(landM m (m.tm+1) m.ld).all=m.all:=by unfold Mt.all;rw [s.2.1,s.2.2.1,r.2.1]
    rw [tickM,if_pos e] at hs hm ⊢
    have et:m.tm<1000000000:=by
      unfold tickE at e
      split at e <;> omega
    have tm:=I.tm
    refine ⟨I.bN,?_,?_,?_,?_,?_,?_,fun h hh=>?_,fun t ht=>?_,fun a b c h1 h2 h3=>?_,?_,fun l hl=>?_,?_,fun a b c o h1 h2 h3 ho=>?_,?_,?_,⟨by show 0≤m.tm+1;omega,by show m.tm+1≤1000000000;omega⟩,?_,fun g hg=>?_,fun a b h1 h2=>?_,fun a b h1 h2=>?_⟩
    · show 1≤(landM m (m.tm+1) m.ld).T;rw [s.1];exact I.T1
    · show (landM m (m.tm+1) m.ld).T≤8;rw [s.1];exact I.T8
    · show 1≤(landM m (m.tm+1) m.ld).G;rw [s.2.1];exact I.G1
    · show (landM m (m.tm+1) m.ld).G≤4;rw [s.2.1];exact I.G4
    · show 1≤(landM m (m.tm+1) m.ld).H;rw [s.2.2.1];exact I.H1
    · show (landM m (m.tm+1) m.ld).H≤4;rw [s.2.2.1];exact I.H4
    · show 0≤(landM m (m.tm+1) m.ld).rt h∧(landM m (m.tm+1) m.ld).rt h≤100
      rw [r.1];exact I.rt h (by rw [← s.2.2.1];exact hh)
    · show 0≤(landM m (m.tm+1) m.ld).mo t
      rw [s.2.2.2.1];exact I.mo t (by rw [← s.1];exact ht)
    · exact landM_nn (m.tm+1) m.ld m (fun l hl=>by have:=(I.ld l hl).2.2.2.1.1;omega) I.pc a b c (by rw [← s.1];exact h1) (by rw [← s.2.2.1];exact h2) (by rw [← s.2.1];exact h3)
    · exact Nat.le_trans (stay_length _ _) I.l20
    · have hl':l∈m.ld:=(List.mem_filter.1 hl).1
      show (0≤l.t∧l.t<(landM m (m.tm+1) m.ld).T)∧(0≤l.h∧l.h<(landM m (m.tm+1) m.ld).H)∧(0≤l.g∧l.g<(landM m (m.tm+1) m.ld).G)∧_
      rw [s.1,s.2.1,s.2.2.1]
      exact I.ld l hl'
    · show (landM m (m.tm+1) m.ld).all.length≤60
      rw [ha];exact I.a60
    · have ho':o∈m.bk a b c:=by rw [← r.2.1];exact ho
      exact (I.od a b c o (by rw [← s.2.2.1];exact h1) (by rw [← s.2.1];exact h2) h3 ho').of (by show m.nu≤(landM m (m.tm+1) m.ld).nu;rw [r.2.2.1];omega) s.1
    · show 0≤(landM m (m.tm+1) m.ld).nu∧(landM m (m.tm+1) m.ld).nu≤N
      rw [r.2.2.1];exact I.nu
    · show 0≤(landM m (m.tm+1) m.ld).ho
      rw [r.2.2.2.1];exact I.ho
    · rw [hm];exact I.mon
    · rw [hs g];exact I.stk g (by rw [← s.2.1];exact hg)
    · show 0≤(landM m (m.tm+1) m.ld).pi a b∧(landM m (m.tm+1) m.ld).pi a b+10000 * ((landM m (m.tm+1) m.ld).all.length+0)≤20000 * (landM m (m.tm+1) m.ld).nu
      rw [ha,r.2.2.2.2.2.1,r.2.2.1]
      exact I.pi a b (by rw [← s.2.2.1];exact h1) (by rw [← s.2.1];exact h2)
    · show 0≤(landM m (m.tm+1) m.ld).am a b∧(landM m (m.tm+1) m.ld).am a b+1000000000 * ((landM m (m.tm+1) m.ld).all.length+0)≤2000000000 * (landM m (m.tm+1) m.ld).nu
      rw [ha,r.2.2.2.2.2.2,r.2.2.1]
      exact I.am a b (by rw [← s.2.2.1];exact h1) (by rw [← s.2.1];exact h2)
  · rw [tickM,if_neg e];exact I

theorem shipE_zero {t f o g n:Int} (e:shipE m t f o g n=0):okI m.T t∧okI m.H f∧okI m.H o∧f≠o∧okI m.G g∧okN n 10000∧n≤m.pc t.toNat f.toNat g.toNat∧m.ld.length<20:=by
  unfold shipE at e
  split at e
  · cases e
  · rename_i i1
    split at e
    · cases e
    · rename_i i2
      split at e
      · cases e
      · rename_i i3
        split at e
        · cases e
        · rename_i i4
          split at e
          · cases e
          · split at e
            · cases e
            · exact ⟨Classical.not_not.1 i1,Classical.byContradiction fun q=>i2 (.inl q),Classical.byContradiction fun q=>i2 (.inr (.inl q)),fun q=>i2 (.inr (.inr q)),Classical.not_not.1 i3,Classical.not_not.1 i4,by omega,by omega⟩

theorem ship_stock (t f o g n:Int) (g':Nat):(shipM m t f o g n).stock g'=m.stock g':=by
  unfold shipM
  split
  · rename_i e
    obtain ⟨i1,i2,i3,_,i5,i6,_,_⟩:=shipE_zero e
    have e1:=stock_ld (m.setPc t.toNat f.toNat g.toNat (m.pc t.toNat f.toNat g.toNat - n)) (m.ld ++ [⟨t,o,g,n,m.tm+2 * far f o⟩]) m.tm g'
    refine e1.trans ?_
    rw [stock_setPc m _ _ _ (by have:=i1.1;have:=i1.2;omega) (by have:=i2.1;have:=i2.2;omega)]
    show m.stock g'+_+(comeS m.T m.H g' (m.ld ++ [⟨t,o,g,n,m.tm+2 * far f o⟩]) - comeS m.T m.H g' m.ld)=_
    rw [come_app,comeS_one (l:=⟨t,o,g,n,m.tm+2 * far f o⟩) i1 i3]
    have:=i5.1
    show m.stock g'+(if g'=g.toNat then m.pc t.toNat f.toNat g.toNat - n - m.pc t.toNat f.toNat g.toNat else 0)+(comeS m.T m.H g' m.ld+(if g=g' then n else 0) - comeS m.T m.H g' m.ld)=_
    by_cases q:g=g'
    · rw [if_pos q,if_pos (by omega)];omega
    · rw [if_neg q,if_neg (by omega)];omega
  · rfl

theorem Mt.Inv.ship (I:m.Inv N) (t f o g n:Int):(shipM m t f o g n).Inv N:=by
  have hs:=fun g'=>ship_stock (m:=m) t f o g n g'
  by_cases e:shipE m t f o g n=0
  · obtain ⟨i1,i2,i3,i4,i5,i6,i7,i8⟩:=shipE_zero e
    rw [shipM,if_pos e] at hs ⊢
    have tm:=I.tm
    have hf:0≤far f o∧far f o≤4:=by
      have:=I.H4
      have:=i2.1
      have:=i2.2
      have:=i3.1
      have:=i3.2
      unfold far
      split <;> omega
    refine ⟨I.bN,I.T1,I.T8,I.G1,I.G4,I.H1,I.H4,I.rt,I.mo,fun a b c h1 h2 h3=>?_,by simp;omega,fun l hl=>?_,I.a60,fun a b c x h1 h2 h3 hx=>(I.od a b c x h1 h2 h3 hx).of (Int.le_refl _) rfl,I.nu,I.ho,I.tm,I.mon,fun g' hg=>by rw [hs];exact I.stk g' hg,I.pi,I.am⟩
    · show 0≤if a=t.toNat∧b=f.toNat∧c=g.toNat then m.pc t.toNat f.toNat g.toNat - n else m.pc a b c
      have:=I.pc a b c h1 h2 h3
      split <;> omega
    · rcases List.mem_append.1 hl with h | h
      · exact I.ld l h
      · have:l=⟨t,o,g,n,m.tm+2 * far f o⟩:=by simpa using h
        subst this
        exact ⟨i1,i3,i5,i6,by show 0≤m.tm+2 * far f o;omega,by show m.tm+2 * far f o≤1000000010;omega⟩
  · rw [shipM,if_neg e];exact I
end
end

end Go.Proofs.YtcfoobhihhndjaaGreat
