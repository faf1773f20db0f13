
import Derived.Test.YtcfoobhihhndjaaGreatB15
namespace Go.Proofs.YtcfoobhihhndjaaGreat

section
theorem in_tb {m:Mt} {N A:Int} {P:Nat→Int} {sl:Int} (I:m.In N A P sl) {h g s:Nat} (q:at3 m h g s) {z:Od} {r:List Od} (hb:m.bk h g s=z :: r):(releaseM (m.setBk h g s r) z.t.toNat h g s z).In N A P sl:=by
  have zo:=I.od h g s z q.1 q.2.1 q.2.2 (by rw [hb];exact List.mem_cons_self)
  have zt:=zo.t
  have hz:z.t.toNat<m.T:=by omega
  have zp:=zo.p
  have zq:=zo.q
  have hm:(m.setBk h g s r).money=m.money+(heldS m.T r - heldS m.T (z :: r)):=by rw [money_setBk m q,hb]
  have h1:heldS m.T (z :: r)=heldS m.T [z]+heldS m.T r:=(adds_heldS _).cons z r
  have h2:=heldS_one zo.t
  have k1:keptS m.T (z :: r)=keptS m.T [z]+keptS m.T r:=(adds_keptS _).cons z r
  have k2:=keptS_one zo.t
  have hl:=all_setBk m q r
  rw [hb] at hl
  simp only [List.length_cons] at hl
  have hod:∀ a b c o',a<m.H→b<m.G→c<2→o'∈(m.setBk h g s r).bk a b c→o'.Ok m a b c:=by
    intro a b c o' ha hb' hc ho
    by_cases e:a=h∧b=g∧c=s
    · obtain ⟨rfl,rfl,rfl⟩:=e
      have:o'∈r:=by simpa [Mt.setBk] using ho
      exact I.od a b c o' ha hb' hc (by rw [hb];exact List.mem_cons_of_mem _ this)
    · exact I.od a b c o' ha hb' hc (by simpa [Mt.setBk,e] using ho)
  have hpq:=mul_le' (a:=z.p) (b:=z.q) (A:=100000) (B:=10000) (by omega) zp.2 (by omega) zq.2
  have a60:(m.setBk h g s r).all.length≤60:=by have:=I.a60;omega
  by_cases e:s=0
  · subst e
    have hmo:=I.mo _ hz
    rw [zo.s] at h2
    simp only [Int.natCast_zero,if_true] at h2
    rw [releaseM,if_pos rfl]
    refine ⟨I.bN,I.T1,I.T8,I.G1,I.G4,I.H1,I.H4,I.rt,fun t ht=>?_,I.pc,I.l20,I.ld,a60,fun a b c o' ha hb' hc ho=>(hod a b c o' ha hb' hc ho).of (Int.le_refl _) rfl,I.nu,I.ho,I.tm,?_,fun g' hg'=>?_,fun a b ha hb'=>?_,fun a b ha hb'=>?_⟩
    · show 0≤if t=z.t.toNat then m.mo z.t.toNat+z.p * z.q else m.mo t
      split
      · omega
      · exact I.mo t ht
    · rw [money_setMo _ _ (by exact hz),hm]
      show m.money+_+(m.mo z.t.toNat+z.p * z.q - m.mo z.t.toNat)+A≤_
      have:=I.mon
      omega
    · rw [stock_setMo,stock_setBk m q]
      have:=I.stk g' hg'
      simp only [Nat.zero_ne_one,false_and,if_false]
      omega
    · have:=I.pi a b ha hb'
      show 0≤m.pi a b∧m.pi a b+10000 * ((m.setBk h g 0 r).all.length+sl)≤20000 * m.nu
      omega
    · have:=I.am a b ha hb'
      show 0≤m.am a b∧m.am a b+1000000000 * ((m.setBk h g 0 r).all.length+sl)≤2000000000 * m.nu
      omega
  · have s1:s=1:=by have:=q.2.2;omega
    subst s1
    have hpc:=I.pc _ _ _ hz q.1 q.2.1
    rw [zo.s] at h2
    simp only [Int.natCast_one,Int.one_ne_zero,if_false] at h2
    rw [releaseM,if_neg (by decide)]
    refine ⟨I.bN,I.T1,I.T8,I.G1,I.G4,I.H1,I.H4,I.rt,I.mo,fun a b c ha hb' hc=>?_,I.l20,I.ld,a60,fun a b c o' ha hb' hc ho=>(hod a b c o' ha hb' hc ho).of (Int.le_refl _) rfl,I.nu,I.ho,I.tm,?_,fun g' hg'=>?_,fun a b ha hb'=>?_,fun a b ha hb'=>?_⟩
    · show 0≤if a=z.t.toNat∧b=h∧c=g then m.pc z.t.toNat h g+z.q else m.pc a b c
      split
      · omega
      · exact I.pc a b c ha hb' hc
    · rw [money_setPc,hm]
      have:=I.mon
      omega
    · rw [stock_setPc _ _ _ _ (by exact hz) (by exact q.1),stock_setBk m q]
      have:=I.stk g' hg'
      show _+(if g'=g then m.pc z.t.toNat h g+z.q - m.pc z.t.toNat h g else 0)+_≤_
      by_cases eg:g'=g
      · rw [if_pos eg,if_pos ⟨rfl,eg⟩,hb]
        omega
      · rw [if_neg eg,if_neg (fun f=>eg f.2)]
        omega
    · have:=I.pi a b ha hb'
      show 0≤m.pi a b∧m.pi a b+10000 * ((m.setBk h g 1 r).all.length+sl)≤20000 * m.nu
      omega
    · have:=I.am a b ha hb'
      show 0≤m.am a b∧m.am a b+1000000000 * ((m.setBk h g 1 r).all.length+sl)≤2000000000 * m.nu
      omega

structure Mid (h g s:Nat) (N:Int) (m:Mt) (o:Od):Prop where
  I:m.In N (airM o) (airP o) (if 0<o.q then 2 else 0)
  q:at3 m h g s
  eh:o.h=h
  eg:o.g=g
  es:o.s=otherS s
  t:0≤o.t∧o.t<m.T
  p:1≤o.p∧o.p≤100000
  n:0≤o.q∧o.q≤10000
  fe:s=1→m.fee h (o.p * o.q)≤m.mo o.t.toNat

theorem airM_nonneg {o:Od} (p:1≤o.p) (n:0≤o.q):0≤airM o:=by
  unfold airM
  split
  · exact Int.mul_nonneg (by omega) n
  · exact Int.le_refl _
theorem airP_nonneg {o:Od} (n:0≤o.q) (g:Nat):0≤airP o g:=by
  unfold airP
  split <;> omega

theorem Mid.ok {h g s:Nat} {N:Int} {m:Mt} {o:Od} (M:Mid h g s N m o):m.Ok N:=M.I.ok (airM_nonneg M.p.1 M.n.1) (fun g _=>airP_nonneg M.n.1 g)

theorem Mid.tb {h g s:Nat} {N:Int} {m:Mt} {o:Od} (M:Mid h g s N m o) {z:Od} {r:List Od} (hb:m.bk h g s=z :: r):Mid h g s N (releaseM (m.setBk h g s r) z.t.toNat h g s z) o:=by
  have zo:=M.I.od h g s z M.q.1 M.q.2.1 M.q.2.2 (by rw [hb];exact List.mem_cons_self)
  have hT:(releaseM (m.setBk h g s r) z.t.toNat h g s z).T=m.T:=by unfold releaseM;split <;> rfl
  refine ⟨in_tb M.I M.q hb,?_,M.eh,M.eg,M.es,by rw [hT];exact M.t,M.p,M.n,fun e=>?_⟩
  · have:=M.q
    unfold releaseM
    split <;> exact this
  · subst e
    rw [releaseM,if_neg (by decide)]
    exact M.fe rfl

section
variable {h g s:Nat} {N:Int} {m:Mt} {o z:Od} {r:List Od}

theorem one_money (M:Mid h g s N m o) (hb:m.bk h g s=z :: r) (n:Int):(oneM m h g s o z n).money+airM { o with q:=o.q - n }=m.money+airM o:=by
  have zo:=M.I.od h g s z M.q.1 M.q.2.1 M.q.2.2 (by rw [hb];exact List.mem_cons_self)
  have zt:=zo.t
  have ot:=M.t
  have h1:heldS m.T (z :: r)=heldS m.T [z]+heldS m.T r:=(adds_heldS _).cons z r
  have h2:=heldS_one zo.t
  have h3:heldS m.T ({ z with q:=z.q - n } :: r)=heldS m.T [{ z with q:=z.q - n }]+heldS m.T r:=(adds_heldS _).cons _ r
  have h4:=heldS_one (o:={ z with q:=z.q - n }) zo.t
  have es:=M.es
  have zs:=zo.s
  by_cases e:s=1
  · subst e
    rw [oneM,if_pos rfl,money_trade m M.q (by omega) (by omega) (by omega),hb]
    simp only [List.set_cons_zero]
    have z0:¬ z.s=0:=by omega
    have o0:o.s=0:=by rw [es];rfl
    rw [if_neg z0] at h2
    rw [if_neg z0] at h4
    have e2:o.p * (o.q - n)=o.p * o.q - o.p * n:=Int.mul_sub _ _ _
    simp only [airM,o0,if_true,e2]
    omega
  · have s0:s=0:=by have:=M.q.2.2;omega
    subst s0
    rw [oneM,if_neg (by decide),money_trade m M.q (by omega) (by omega) (by omega),hb]
    simp only [List.set_cons_zero]
    have z0:z.s=0:=by omega
    have o0:¬ o.s=0:=by rw [es];decide
    rw [if_pos z0] at h2
    rw [if_pos z0] at h4
    have e2:z.p * (z.q - n)=z.p * z.q - z.p * n:=Int.mul_sub _ _ _
    simp only [e2] at h4
    simp only [airM,o0,if_false]
    omega

theorem one_stock (M:Mid h g s N m o) (hb:m.bk h g s=z :: r) (n:Int) (g':Nat):(oneM m h g s o z n).stock g'+airP { o with q:=o.q - n } g'=m.stock g'+airP o g':=by
  have zo:=M.I.od h g s z M.q.1 M.q.2.1 M.q.2.2 (by rw [hb];exact List.mem_cons_self)
  have zt:=zo.t
  have ot:=M.t
  have h1:keptS m.T (z :: r)=keptS m.T [z]+keptS m.T r:=(adds_keptS _).cons z r
  have h2:=keptS_one zo.t
  have h3:keptS m.T ({ z with q:=z.q - n } :: r)=keptS m.T [{ z with q:=z.q - n }]+keptS m.T r:=(adds_keptS _).cons _ r
  have h4:=keptS_one (o:={ z with q:=z.q - n }) zo.t
  simp only at h4
  have es:=M.es
  have eg:=M.eg
  by_cases e:s=1
  · subst e
    rw [oneM,if_pos rfl,stock_trade m M.q (by omega),hb]
    simp only [List.set_cons_zero]
    have o0:¬ o.s=1:=by rw [es];decide
    simp only [airP,o0,false_and,if_false]
    by_cases k:g'=g
    · simp only [k,if_true,and_self]
      omega
    · simp only [k,if_false,and_false]
      omega
  · have s0:s=0:=by have:=M.q.2.2;omega
    subst s0
    rw [oneM,if_neg (by decide),stock_trade m M.q (by omega)]
    have o0:o.s=1:=by rw [es];rfl
    simp only [airP,o0,true_and]
    by_cases k:g'=g
    · have kk:o.g=(g':Int):=by omega
      simp only [k,if_true,Nat.zero_ne_one,false_and,if_false]
      rw [if_pos (by omega),if_pos (by omega)]
      omega
    · simp only [k,if_false,Nat.zero_ne_one,false_and]
      rw [if_neg (by omega),if_neg (by omega)]
      omega

theorem one_mo (hne:z.t.toNat≠o.t.toNat) (n:Int) (t:Nat):(oneM m h g s o z n).mo t =
    if s=1 then (if t=o.t.toNat then m.mo o.t.toNat+(o.p * n - z.p * n) - m.fee h (z.p * n) else if t=z.t.toNat then m.mo z.t.toNat+z.p * n else m.mo t)
    else (if t=o.t.toNat then m.mo o.t.toNat+z.p * n - m.fee h (z.p * n) else m.mo t):=by
  by_cases e:s=1
  · subst e
    rw [oneM,if_pos rfl,if_pos rfl,tradeM_buy m (Ne.symm hne)]
    simp only [Mt.setMo,Mt.setPc,Mt.setBk]
    by_cases k1:t=o.t.toNat
    · rw [if_pos k1,if_pos k1]
    · rw [if_neg k1,if_neg k1]
      split <;> simp_all
  · rw [oneM,if_neg e,if_neg e,tradeM_sell m hne]
    simp only [Mt.setMo,Mt.setPc,Mt.setBk]
    by_cases k1:t=o.t.toNat
    · rw [if_pos k1,if_pos k1]
    · rw [if_neg k1,if_neg k1,if_neg k1]
      split <;> simp_all

theorem one_pc (n:Int) (a b c:Nat):(oneM m h g s o z n).pc a b c=if a=(if s=1 then o.t.toNat else z.t.toNat)∧b=h∧c=g then m.pc a b c+n else m.pc a b c:=by
  by_cases e:s=1
  · subst e
    rw [oneM,if_pos rfl,if_pos rfl]
    simp only [tradeM,Mt.setMo,Mt.setPc,Mt.setBk]
    by_cases k:a=o.t.toNat∧b=h∧c=g
    · rw [if_pos k]
      obtain ⟨rfl,rfl,rfl⟩:=k
      simp
    · rw [if_neg k,if_neg k]
  · rw [oneM,if_neg e,if_neg e]
    simp only [tradeM,Mt.setMo,Mt.setPc,Mt.setBk]
    by_cases k:a=z.t.toNat∧b=h∧c=g
    · rw [if_pos k]
      obtain ⟨rfl,rfl,rfl⟩:=k
      simp
    · rw [if_neg k,if_neg k]

theorem one_rest (n:Int):(oneM m h g s o z n).ho=m.ho+m.fee h (z.p * n)∧(oneM m h g s o z n).nu=m.nu∧(oneM m h g s o z n).ld=m.ld∧(oneM m h g s o z n).tm=m.tm∧(oneM m h g s o z n).rt=m.rt∧(oneM m h g s o z n).pi=m.pi∧(oneM m h g s o z n).am=m.am∧(oneM m h g s o z n).la=m.la:=by
  unfold oneM
  split <;> exact ⟨rfl,rfl,rfl,rfl,rfl,rfl,rfl,rfl⟩

theorem one_bk (hs:s<2) (n:Int):(oneM m h g s o z n).bk=(m.setBk h g s ((m.bk h g s).set 0 { z with q:=z.q - n })).bk:=by
  by_cases e:s=1
  · subst e
    rw [oneM,if_pos rfl]
    rfl
  · have:s=0:=by omega
    subst this
    rw [oneM,if_neg (by decide)]
    rfl
end
end

end Go.Proofs.YtcfoobhihhndjaaGreat
