
import Derived.Test.YtcfoobhihhndjaaGreatB24
import Derived.Test.YtcfoobhihhndjaaGreatB41
import Derived.Test.YtcfoobhihhndjaaGreatB42
namespace Go.Proofs.YtcfoobhihhndjaaGreat

section
open Go.RowKit Go.Sort

theorem rtrades_any (w:World) (L:RL) (r:Rm) (K:Int) (R:RRep w L r) (ok:r.Ok K) (hK:K+10≤1000) (o x:Od) (C:o.Come r) (oq:1≤o.q) (k:Nat) (hx:r.wt[k]? = some x) :
    Calls Tryz.prog 51 #[.pointer (some ⟨L.c,0,none⟩),.agg #[.int .i64 o.id,.int .i64 o.t,.int .i64 o.h,.int .i64 o.g,.int .i64 o.s,.int .i64 o.p,.int .i64 o.q,.int .i64 o.w],.int .i64 k] w fun e w'=>e = .returned (.agg #[.int .i64 o.id,.int .i64 x.id,.int .i64 x.t,.int .i64 x.p,.int .i64 (min o.q x.q),.int .i64 (r.fee o.h.toNat (x.p * min o.q x.q))])∧RPost w L (rtrade r o x k) w':=by
  have hm:=ok.wt x (List.mem_of_getElem? hx)
  have hk:k<r.wt.length:=(List.getElem?_eq_some_iff.1 hx).1
  obtain ⟨oid,ot,oh,og,os,op,oqq,ow⟩:=o
  obtain ⟨xid,xt,xh,xg,xs,xp,xq,xw⟩:=x
  obtain ⟨⟨t0,t1⟩,⟨h0,h1⟩,⟨g0,g1⟩,⟨s0,s1⟩,⟨p0,p1⟩,q1⟩:=C
  simp only [] at t0 t1 h0 h1 g0 g1 s0 s1 p0 p1 q1 hm oq ⊢
  obtain ⟨⟨xt0,xt1⟩,_,_,_,⟨xp0,xp1⟩,⟨xq0,xq1⟩⟩:=hm
  obtain ⟨t,rfl⟩:=Int.eq_ofNat_of_zero_le t0
  obtain ⟨h,rfl⟩:=Int.eq_ofNat_of_zero_le h0
  obtain ⟨g,rfl⟩:=Int.eq_ofNat_of_zero_le g0
  obtain ⟨tx,rfl⟩:=Int.eq_ofNat_of_zero_le xt0
  have hs:os=1∨os=0:=by omega
  rcases hs with rfl | rfl
  · exact trades_sell w L r K R ok hK oid op oqq ow xid xh xg xs xp xq xw t h g tx k (by omega) (by omega) (by omega) (by omega) hk hx oq q1 xp0 xp1 xq0 xq1 _ _ _ rfl rfl rfl
  · exact trades_buy w L r K R ok hK oid op oqq ow xid xh xg xs xp xq xw t h g tx k (by omega) (by omega) (by omega) (by omega) hk hx oq q1 xp0 xp1 xq0 xq1 _ _ _ rfl rfl rfl
end

section
open Go.RowKit Go.Sort

theorem rdrop_len {r:Rm} {k:Nat} (hk:k<r.wt.length):(rdrop r k).wt.length+1=r.wt.length:=by
  simp only [rdrop,List.length_append,List.length_take,List.length_drop]
  omega
theorem rtraded_wt (r:Rm) (o x:Od) (k:Nat):(rtraded r o x k).wt=r.wt.set k { x with q:=x.q - min o.q x.q }:=by
  simp only [rtraded,rless,rnote,rpaid,Rm.setMo,Rm.setPc]
theorem rtrade_len {r:Rm} {o x:Od} {k:Nat} (hk:k<r.wt.length):(rtrade r o x k).wt.length+(if x.q=min o.q x.q then 1 else 0)=r.wt.length:=by
  unfold rtrade
  split
  · have e:=rtraded_wt r o x k
    have:=rdrop_len (r:=rtraded r o x k) (k:=k) (by rw [e,List.length_set];exact hk)
    rw [e,List.length_set] at this
    exact this
  · rw [rtraded_wt,List.length_set]
    omega

def leftAt (c b:Nat) (w:World):Nat :=
  (match w.cell? ⟨c,5,none⟩ with
    | some (.slice _ n _)=>n
    | _=>0) +
  (match w.cell? ⟨b,6,none⟩ with
    | some (.int _ q)=>if 0<q then 1 else 0
    | _=>0)
theorem leftAt_eq {c b:Nat} {w:World} {a:Option Addr} {n cap:Nat} {q:Int} (h5:w.cell? ⟨c,5,none⟩=some (.slice a n cap)) (h6:w.cell? ⟨b,6,none⟩=some (.int .i64 q)):leftAt c b w=n+if 0<q then 1 else 0:=by
  unfold leftAt
  rw [h5,h6]

structure RGo (w:World) (B:Nat) (L Li:RL) (W:World) (r:Rm) (o:Od) (l:Value) (ts:List Td):Prop where
  R:RRep W Li r
  c:Li.c=L.c
  lo:∀ b,Li.S b→L.S b∨w.heap.size≤b
  ob:OdAt W B o
  nb:¬ Li.S B
  row:W.ownsRow w.heap.size 67 6 l ts.length (tdCells ts)
  nl:∀ b,l.ownBlock=some b→¬ Li.S b∧b≠B
  hB:w.heap.size≤B
  kp:Kep L.S w W

section
variable {w W W':World} {B:Nat} {L Li:RL} {r r':Rm} {o:Od} {l:Value} {ts:List Td}
theorem RGo.later (S:RGo w B L Li W r o l ts) (k:Kep non W W'):RGo w B L Li W' r o l ts :=
  ⟨S.R.later k,S.c,S.lo,fun j v h=>(S.ob j v h).kep k (fun q=>q),S.nb,ownsRow_kep S.row k (fun _ _ q=>q),S.nl,S.hB,S.kp.trans k.none⟩
theorem RGo.lt (S:RGo w B L Li W r o l ts):B<W.heap.size:=(S.ob 0 _ rfl).lt

theorem RGo.drop (S:RGo w B L Li W r o l ts) (D:DropPost W Li r' W'):∃ Lj,RGo w B L Lj W' r' o l ts:=by
  obtain ⟨k,v,hv,R⟩:=D
  have hB:=S.hB
  have lB:=S.lt
  have nc:∀ b,¬ Li.S b→¬ b=Li.c:=fun b hb q=>hb ⟨0,by rw [q];rfl⟩
  have sw:=S.kp.size
  have cls:∀ b,({ Li with wv:=v }:RL).S b→Li.S b∨W.heap.size≤b:=by
    rintro b ⟨i,hi⟩
    by_cases e6:i=6
    · subst e6
      exact .inr (hv b hi)
    · exact .inl ⟨i,by rcases i with _ | _ | _ | _ | _ | _ | _ | _ | _ | i;all_goals first | exact hi | exact absurd rfl e6⟩
  refine ⟨{ Li with wv:=v },R,S.c,fun b hb=>?_,fun j u h=>(S.ob j u h).kep k (nc _ S.nb),fun q=>?_,ownsRow_kep S.row k (fun b hb=>nc b (S.nl b hb).1),fun b hb=>⟨fun q=>?_,(S.nl b hb).2⟩,hB,S.kp.trans' k (fun i hi=>?_)⟩
  · rcases cls b hb with q | q
    · exact S.lo b q
    · exact .inr (by omega)
  · rcases cls B q with q | q
    · exact S.nb q
    · omega
  · rcases cls b q with q | q
    · exact (S.nl b hb).1 q
    · have:=(S.row.lt b hb).2
      omega
  · subst hi
    rcases S.lo Li.c ⟨0,rfl⟩ with q | q
    · exact .inl q
    · exact .inr q

theorem RGo.turn (S:RGo w B L Li W r o l ts) (P:RPost W Li r' W'):∃ Lj,RGo w B L Lj W' r' o l ts:=by
  obtain ⟨Lj,ec,cls,R⟩:=P.rep
  have k:=P.kp
  have hB:=S.hB
  have lB:=S.lt
  have sw:=S.kp.size
  refine ⟨Lj,R,ec.trans S.c,fun b hb=>?_,fun j u h=>(S.ob j u h).kep k S.nb,fun q=>?_,ownsRow_kep S.row k (fun b hb=>(S.nl b hb).1),fun b hb=>⟨fun q=>?_,(S.nl b hb).2⟩,hB,S.kp.trans' k (fun i hi=>S.lo i hi)⟩
  · rcases cls b hb with q | q
    · exact S.lo b q
    · exact .inr (by omega)
  · rcases cls B q with q | q
    · exact S.nb q
    · omega
  · rcases cls b q with q | q
    · exact (S.nl b hb).1 q
    · have:=(S.row.lt b hb).2
      omega

theorem RGo.grow {w0 w1:World} {gg cap:Nat} (S:RGo w B L Li W r o l ts) (T1:1≤r.T) (G1:1≤r.G) (H1:1≤r.H) (k0:Kep non W w0) (hg:w0.grownBy w1 l.ownBlock) (t:Td)
    (hr:w1.ownsRow w.heap.size 67 6 (.slice (some ⟨gg,0,none⟩) (ts.length+1) cap) (ts.length+1) (tdCells ts ++ t.cells)) (hat:l.ownBlock=some gg∨gg=w0.heap.size) :
    RGo w B L Li w1 r o (.slice (some ⟨gg,0,none⟩) (ts.length+1) cap) (ts ++ [t]):=by
  have k:Kep (fun b=>l.ownBlock=some b) W w1:=(k0.none).grown hg (fun b hb=>.inl hb)
  have z0:=k0.size
  have lB:=S.lt
  have LT:=S.R.lt T1 G1 H1
  refine ⟨S.R.keep k (fun b hb q=>(S.nl b q).1 hb),S.c,S.lo,fun j u h=>(S.ob j u h).kep k (fun q=>(S.nl B q).2 rfl),S.nb,by simpa [tdCells] using hr,fun b hb=>?_,S.hB,S.kp.trans' k (fun i hi=>.inr (S.row.lt i hi).1)⟩
  have e:gg=b:=by simpa [Value.ownBlock] using hb
  subst e
  rcases hat with h | h
  · exact S.nl gg h
  · exact ⟨fun q=>by have:=LT gg q;omega,by omega⟩

theorem RGo.setQ (S:RGo w B L Li W r o l ts) (q:Int):RGo w B L Li (W.setCell ⟨B,6,none⟩ (.int .i64 q)) r { o with q:=q } l ts:=by
  have k:Kep (fun b=>b=B) W (W.setCell ⟨B,6,none⟩ (.int .i64 q)):=(Kep.refl (fun b=>b=B) W).setCell (p:=⟨B,6,none⟩) (.inl rfl) _
  refine ⟨S.R.keep k (fun b hb e=>S.nb (e ▸ hb)),S.c,S.lo,fun j v hv=>?_,S.nb,ownsRow_kep S.row k (fun b hb e=>(S.nl b hb).2 e),S.nl,S.hB,S.kp.trans' k (fun i hi=>.inr (by rw [hi];exact S.hB))⟩
  by_cases e:j=6
  · subst e
    obtain rfl:Value.int .i64 q=v:=by simpa [Od.cells] using hv
    exact (S.ob 6 _ rfl).set rfl _
  · have hv':o.cells[j]? = some v:=by
      rcases j with _ | _ | _ | _ | _ | _ | _ | j
      case succ.succ.succ.succ.succ.succ.zero=>exact absurd rfl e
      all_goals exact hv
    exact (S.ob j v hv').set_other (by intro c;injection c with _ c _;exact e c) rfl rfl _
end
end

section
open Go.RowKit Go.Sort

structure RTold (w:World) (L:RL) (r':Rm) (v:Value) (ts:List Td) (w':World):Prop where
  kp:Kep L.S w w'
  rep:∃ L',L'.c=L.c∧(∀ b,L'.S b→L.S b∨w.heap.size≤b)∧RRep w' L' r'∧(∀ b,v.ownBlock=some b→¬ L'.S b)
  tr:w'.ownsRow w.heap.size 67 6 v ts.length (tdCells ts)

theorem RTold.none {w w':World} {L:RL} {r:Rm} (R:RRep w L r) (k:Kep non w w'):RTold w L r (.slice none 0 0) [] w' :=
  ⟨k.none,⟨L,rfl,fun _ hb=>.inl hb,R.later k,fun b hb=>by simp [Value.ownBlock] at hb⟩,World.ownsRow_nil _ _ _ _⟩

theorem RGo.told {w W:World} {B:Nat} {L Li:RL} {r:Rm} {o:Od} {l:Value} {ts:List Td} (S:RGo w B L Li W r o l ts):RTold w L r l ts W:=⟨S.kp,⟨Li,S.c,S.lo,S.R,fun b hb=>(S.nl b hb).1⟩,S.row⟩

set_option maxRecDepth 100000 in
set_option maxHeartbeats 1000000 in
theorem refPlace_no (w:World) (L:RL) (r:Rm) (K:Int) (R:RRep w L r) (ok:r.Ok K) (o:Od) (hE:rmayE r o≠0) :
    Calls Tryz.prog 15 #[.pointer (some ⟨L.c,0,none⟩),.agg #[.int .i64 o.id,.int .i64 o.t,.int .i64 o.h,.int .i64 o.g,.int .i64 o.s,.int .i64 o.p,.int .i64 o.q,.int .i64 o.w]] w fun e w'=>∃ v,e = .returned (.tuple #[.int .i64 (rplaceI r o),v,.int .i64 (rmayE r o)])∧RTold w L (rplaceM r o) v (rplaceT r o) w':=by
  obtain ⟨W0,hW0,K0,o8,R0⟩:=may_box w L r R o
  obtain ⟨y0,y1,y2,y3,y4,y5,y6,y7⟩:=box_eight o8
  have HM:=hide (rmay_any W0 L r K R0 ok o)
  have HI:Hid (rplaceI r o=0):=hide (by unfold rplaceI;rw [if_neg hE])
  have HPM:Hid (rplaceM r o=r):=hide (by unfold rplaceM;rw [if_neg hE])
  have HT:Hid (rplaceT r o=[]):=hide (by unfold rplaceT;rw [if_neg hE])
  have HW0:=hide hW0
  have HK0:=hide K0
  have HR:=hide R
  clear R ok hW0 K0 o8 R0
  generalize hEE:rmayE r o=E at *
  have hne:(E != 0)=true:=by simpa using hE
  clear hEE hE
  go_enter Tryz.func15,Tryz.ntmps15
  go_upto_region 1 with fail
  rw [← HW0.out]
  generalize hob:w.heap.size=ob at *
  have HOB:=hide hob
  clear hob
  go_wp2_with fail
  refine HM.out.mono ?_
  rintro e w1 ⟨rfl,k1⟩
  go_wp2
  exact bodyPost_ret (v:=.tuple #[.int .i64 0,.slice none 0 0,.int .i64 E]) (by simp [results,Tryz.results15,go_sem]) rfl ⟨.slice none 0 0,by rw [HI.out],by rw [HPM.out,HT.out];exact RTold.none HR.out (HK0.out.trans k1)⟩
end

section
theorem rmayE_zero {r:Rm} {o:Od} (h:rmayE r o=0):okI r.T o.t∧okI r.H o.h∧okI r.G o.g∧o.fit=true∧r.wt.length<60:=by
  unfold rmayE at h
  by_cases h1:okI r.T o.t
  · by_cases h2:okI r.H o.h
    · by_cases h3:okI r.G o.g
      · cases h4:o.fit
        · simp [h1,h2,h3,h4] at h
        · by_cases h5:60≤r.wt.length
          · simp [h1,h2,h3,h4,h5] at h
          · exact ⟨h1,h2,h3,rfl,by omega⟩
      · simp [h1,h2,h3] at h
    · simp [h1,h2] at h
  · simp [h1] at h

theorem Come.of {r:Rm} {o:Od} (h:rmayE r o=0) (n:Int):({ o with id:=n }:Od).Come r∧1≤o.q:=by
  obtain ⟨h1,h2,h3,h4,_⟩:=rmayE_zero h
  obtain ⟨f1,_,f3,f4⟩:=(fit_iff o).1 h4
  exact ⟨⟨h1,h2,h3,f1,f3,f4.2⟩,f4.1⟩

theorem Od.Come.dims {r r':Rm} {o:Od} (C:o.Come r) (hT:r'.T=r.T) (hG:r'.G=r.G) (hH:r'.H=r.H):o.Come r':=⟨by rw [hT];exact C.t,by rw [hH];exact C.h,by rw [hG];exact C.g,C.s,C.p,C.q⟩

theorem box_own (w:World) (o:Od) (t:TypeId):OdAt (w.alloc (.cells #[.int .i64 o.id,.int .i64 o.t,.int .i64 o.h,.int .i64 o.g,.int .i64 o.s,.int .i64 o.p,.int .i64 o.q,.int .i64 o.w] t)) w.heap.size o:=by
  intro j v hv
  have hb:=heap_alloc_new w (.cells #[.int .i64 o.id,.int .i64 o.t,.int .i64 o.h,.int .i64 o.g,.int .i64 o.s,.int .i64 o.p,.int .i64 o.q,.int .i64 o.w] t)
  refine ⟨?_,frozen_of_row _ _ j _ _ hb⟩
  rw [cell_of_row _ _ j _ _ _ hb]
  simpa [Od.cells] using hv

theorem rrun_none {r:Rm} {o:Od} (h:rround r o=none):∀ n,rrun n r o=(r,o,[])
  | 0=>rfl
  | n+1=>by rw [rrun,h]
theorem rround_used {r:Rm} {o:Od} (h:o.q≤0):rround r o=none:=by unfold rround;rw [if_pos h]
theorem rround_alone {r:Rm} {o:Od} (h:rbest r o<0):rround r o=none:=by
  unfold rround
  simp [h]
theorem rround_own {r:Rm} {o:Od} (hq:0<o.q) {k:Nat} (hk:rbest r o=k) {x:Od} (hx:r.wt[k]? = some x) (ht:x.t=o.t):rround r o=some (rdrop r k,o,[]):=by
  unfold rround
  have e:r.wt.getD k noOd=x:=by simp [List.getD,hx]
  rw [if_neg (by omega),if_neg (by omega),hk,Int.toNat_natCast,e,if_pos ht]
theorem rround_other {r:Rm} {o:Od} (hq:0<o.q) {k:Nat} (hk:rbest r o=k) {x:Od} (hx:r.wt[k]? = some x) (ht:x.t≠o.t):rround r o=some (rtrade r o x k,{ o with q:=o.q - min o.q x.q },[rtold r o x]):=by
  unfold rround
  have e:r.wt.getD k noOd=x:=by simp [List.getD,hx]
  rw [if_neg (by omega),if_neg (by omega),hk,Int.toNat_natCast,e,if_neg ht]

theorem rleft_own {r:Rm} {o:Od} {k:Nat} (hk:k<r.wt.length):rleft (rdrop r k) o<rleft r o:=by
  have:=rdrop_len hk
  unfold rleft
  omega
theorem rleft_other {r:Rm} {o x:Od} {k:Nat} (hk:k<r.wt.length) (hq:0<o.q):rleft (rtrade r o x k) { o with q:=o.q - min o.q x.q }<rleft r o:=by
  have:=rtrade_len (o:=o) (x:=x) hk
  unfold rleft
  by_cases h:x.q=min o.q x.q
  · rw [if_pos h] at this
    rw [if_pos hq]
    split <;> omega
  · rw [if_neg h] at this
    rw [if_neg (show ¬ 0<({ o with q:=o.q - min o.q x.q }:Od).q by simp only [];omega),if_pos hq]
    omega
end

section
theorem upG_alike {α:Type} {f f':Nat→Nat→List α}:∀ G,(∀ a b,a<G→b<2→f' a b=f a b)→upG f' G=upG f G
  | 0,_=>rfl
  | G+1,k=>by
    simp only [upG,two]
    rw [upG_alike G (fun a b ha hb=>k a b (by omega) hb),k G 0 (by omega) (by omega),k G 1 (by omega) (by omega)]
theorem upH_alike {α:Type} {G:Nat} {f f':Nat→Nat→Nat→List α}:∀ H,(∀ h a b,h<H→a<G→b<2→f' h a b=f h a b)→upH G f' H=upH G f H
  | 0,_=>rfl
  | H+1,k=>by
    simp only [upH]
    rw [upH_alike H (fun h a b hh=>k h a b (by omega)),upG_alike G (fun a b=>k H a b (by omega))]
theorem two_perm {α:Type} {f f':Nat→List α} {s:Nat} {z:α} (hs:s<2) (ho:∀ b,b<2→b≠s→f' b=f b) (hz:(f s).Perm (z :: f' s)):(two f).Perm (z :: two f'):=by
  unfold two
  rcases s with _ | _ | s
  · rw [ho 1 (by omega) (by omega)]
    exact hz.append_right _
  · rw [ho 0 (by omega) (by omega)]
    exact (hz.append_left _).trans List.perm_middle
  · omega
theorem upG_perm {α:Type} {f f':Nat→Nat→List α} {g s:Nat} {z:α} (hs:s<2) (ho:∀ a b,b<2→¬ (a=g∧b=s)→f' a b=f a b) (hz:(f g s).Perm (z :: f' g s)):∀ G,g<G→(upG f G).Perm (z :: upG f' G)
  | 0,h=>by omega
  | G+1,h=>by
    simp only [upG]
    by_cases e:g=G
    · subst e
      rw [upG_alike (f:=f) (f':=f') g (fun a b ha hb=>ho a b hb (by omega))]
      exact ((two_perm hs (fun b hb hne=>ho g b hb (by omega)) hz).append_left _).trans List.perm_middle
    · have e2:two (f' G)=two (f G):=by unfold two;rw [ho G 0 (by omega) (by omega),ho G 1 (by omega) (by omega)]
      rw [e2]
      exact (upG_perm hs ho hz G (by omega)).append_right _
theorem upH_perm {α:Type} {G:Nat} {f f':Nat→Nat→Nat→List α} {h g s:Nat} {z:α} (hg:g<G) (hs:s<2) (ho:∀ i a b,b<2→¬ (i=h∧a=g∧b=s)→f' i a b=f i a b) (hz:(f h g s).Perm (z :: f' h g s)):∀ H,h<H→(upH G f H).Perm (z :: upH G f' H)
  | 0,k=>by omega
  | H+1,k=>by
    simp only [upH]
    by_cases e:h=H
    · subst e
      rw [upH_alike (f:=f) (f':=f') h (fun i a b hi _ hb=>ho i a b hb (by omega))]
      exact ((upG_perm hs (fun a b hb hne=>ho h a b hb (by omega)) hz G hg).append_left _).trans List.perm_middle
    · rw [upG_alike (f:=f H) (f':=f' H) G (fun a b _ hb=>ho H a b hb (by omega))]
      exact (upH_perm hg hs ho hz H (by omega)).append_right _

theorem all_less {m:Mt} {h g s:Nat} (q:at3 m h g s) {z:Od} {l:List Od} (hp:(m.bk h g s).Perm (z :: l)):m.all.Perm (z :: (m.setBk h g s l).all):=by
  refine upH_perm q.2.1 q.2.2 (fun i a b _ hne=>?_) ?_ m.H q.1
  · simp [Mt.setBk,hne]
  · simpa [Mt.setBk] using hp
theorem all_more {m:Mt} {h g s:Nat} (q:at3 m h g s) {z:Od} {l:List Od} (hp:l.Perm (z :: m.bk h g s)):(m.setBk h g s l).all.Perm (z :: m.all):=by
  have:=all_less (m:=m.setBk h g s l) (h:=h) (g:=g) (s:=s) q (z:=z) (l:=m.bk h g s) (by simpa [Mt.setBk] using hp)
  rwa [setBk_setBk,setBk_same] at this

theorem held_setBk {m:Mt} {h g s:Nat} (q:at3 m h g s) (l:List Od) (t:Int):(m.setBk h g s l).held t=m.held t+(heldL t l - heldL t (m.bk h g s)):=by
  have k:=adds_upH (adds_held t) m.G m.bk h g s q.2.1 q.2.2 l m.H
  rw [if_pos q.1] at k
  exact k
theorem kept_setBk {m:Mt} {h g s:Nat} (l:List Od) (t:Int) (a b:Nat):(m.setBk h g s l).kept t a b=if a=h∧b=g∧s=1 then keptL t l else m.kept t a b:=by
  unfold Mt.kept
  simp only [Mt.setBk]
  by_cases e:a=h∧b=g∧s=1
  · rw [if_pos e,if_pos ⟨e.1,e.2.1,e.2.2.symm⟩]
  · rw [if_neg e,if_neg (fun k=>e ⟨k.1,k.2.1,k.2.2.symm⟩)]

theorem drop_perm {α:Type} {l:List α} {k:Nat} {z:α} (h:l[k]? = some z):l.Perm (z :: (l.take k ++ l.drop (k+1))):=by
  have hk:=(List.getElem?_eq_some_iff.1 h).1
  have e:l=l.take k ++ z :: l.drop (k+1):=by
    conv=>lhs;rw [← List.take_append_drop k l]
    rw [List.drop_eq_getElem_cons hk,(List.getElem?_eq_some_iff.1 h).2]
  conv=>lhs;rw [e]
  exact List.perm_middle
theorem set_perm {α:Type} {l:List α} {k:Nat} {z:α} (h:l[k]? = some z) (y:α):(l.set k y).Perm (y :: (l.take k ++ l.drop (k+1))):=by
  have hk:=(List.getElem?_eq_some_iff.1 h).1
  have:=drop_perm (l:=l.set k y) (k:=k) (z:=y) (by rw [List.getElem?_set_self hk])
  rwa [List.take_set,List.set_eq_of_length_le (l:=l.take k) (by rw [List.length_take];exact Nat.min_le_left _ _),List.drop_set,if_pos (by omega)] at this
theorem drop_sub {α:Type} (l:List α) (k:Nat):(l.take k ++ l.drop (k+1)).Sublist l:=by
  rw [← List.eraseIdx_eq_take_drop_succ]
  exact List.eraseIdx_sublist _ _

theorem best_spec {o:Od} {l:List Od} {s:Nat} (s2:s<2) (hs:∀ x∈l,hits o x=true→x.s=s) (hid:l.Pairwise fun a b=>a.id<b.id):∀ i,i≤l.length →
    (rbestTo o l i = -1∧∀ (j:Nat) (x:Od),j<i→l[j]? = some x→hits o x=false)∨∃ (k:Nat) (x:Od),rbestTo o l i=k∧k<i∧l[k]? = some x∧hits o x=true∧∀ (j:Nat) (y:Od),j<i→l[j]? = some y→hits o y=true→j=k∨Ahd s x y
  | 0,_=>.inl ⟨rfl,fun j x h _=>by omega⟩
  | i+1,hi=>by
    have ih:=best_spec s2 hs hid i (by omega)
    have hi':i<l.length:=by omega
    have hg:l[i]? = some l[i]:=List.getElem?_eq_getElem hi'
    have gd:l.getD i noOd=l[i]:=by simp [List.getD,hi']
    have hm:l[i]∈l:=List.getElem_mem hi'
    simp only [rbestTo,gd]
    by_cases e:hits o l[i]=true
    · rw [if_pos e]
      rcases ih with ⟨h1,h2⟩ | ⟨k,x,h1,h2,h3,h4,h5⟩
      · rw [if_pos (by omega)]
        refine .inr ⟨i,l[i],rfl,by omega,hg,e,fun j y hj hy he=>?_⟩
        by_cases q:j=i
        · exact .inl q
        · rw [h2 j y (by omega) hy] at he
          cases he
      · have gk:l.getD k noOd=x:=by simp [List.getD,h3]
        have hx:x∈l:=List.mem_of_getElem? h3
        rw [if_neg (by omega),h1,Int.toNat_natCast,gk]
        have lt:x.id<l[i].id:=by
          have:=List.pairwise_iff_getElem.1 hid k i (by omega) hi' h2
          rwa [(List.getElem?_eq_some_iff.1 h3).2] at this
        have sx:=hs x hx h4
        have si:=hs l[i] hm e
        have ha:rahead l[i] x=true ↔ Ahd s l[i] x:=by
          rw [ahd_iff]
          unfold rahead
          by_cases p1:l[i].p=x.p
          · rw [if_pos p1]
            simp only [decide_eq_true_eq]
            omega
          · rw [if_neg p1]
            rcases s with _ | _ | s
            · rw [si]
              simp
              omega
            · rw [si]
              simp
              omega
            · omega
        by_cases p:rahead l[i] x=true
        · rw [if_pos p]
          have p':=ha.1 p
          refine .inr ⟨i,l[i],rfl,by omega,hg,e,fun j y hj hy he=>?_⟩
          by_cases q:j=i
          · exact .inl q
          · rcases h5 j y (by omega) hy he with rfl | h6
            · rw [h3] at hy
              cases hy
              exact .inr p'
            · exact .inr (ahd_trans p' h6)
        · rw [if_neg p]
          refine .inr ⟨k,x,rfl,by omega,h3,h4,fun j y hj hy he=>?_⟩
          by_cases q:j=i
          · subst q
            rw [hg] at hy
            cases hy
            exact .inr ((ahd_total s (a:=x) (b:=l[j]) (by omega)).resolve_right (fun f=>p (ha.2 f)))
          · exact h5 j y (by omega) hy he
    · rw [if_neg e]
      have e':hits o l[i]=false:=by simpa using e
      rcases ih with ⟨h1,h2⟩ | ⟨k,x,h1,h2,h3,h4,h5⟩
      · refine .inl ⟨h1,fun j x hj hx=>?_⟩
        by_cases q:j=i
        · subst q
          rw [hg] at hx
          cases hx
          exact e'
        · exact h2 j x (by omega) hx
      · refine .inr ⟨k,x,h1,by omega,h3,h4,fun j y hj hy he=>?_⟩
        by_cases q:j=i
        · subst q
          rw [hg] at hy
          cases hy
          rw [he] at e'
          cases e'
        · exact h5 j y (by omega) hy he
end

section
structure RelO (m:Mt) (r:Rm) (o:Od):Prop where
  T:r.T=m.T
  G:r.G=m.G
  H:r.H=m.H
  rt:r.rt=m.rt
  mo:∀ t:Nat,t<m.T→r.mo t=m.mo t+m.held t+heldL t [o]
  pc:∀ t h g:Nat,t<m.T→h<m.H→g<m.G→r.pc t h g=m.pc t h g+m.kept t h g+keptA t h g [o]
  wt:r.wt.Perm m.all
  srt:r.wt.Pairwise fun a b=>a.id<b.id
  lt:∀ x∈r.wt,x.id<o.id
  ld:r.ld=m.ld
  la:∀ h g,h<m.H→g<m.G→r.la h g=m.la h g
  pi:∀ h g,h<m.H→g<m.G→r.pi h g=m.pi h g
  am:∀ h g,h<m.H→g<m.G→r.am h g=m.am h g
  nx:r.nx=m.nu+1
  ho:r.ho=m.ho
  tm:r.tm=m.tm

theorem Rel.begin {m:Mt} {r:Rm} {N:Int} (R:Rel m r) (ok:m.Ok N) {o:Od} (ht:okI m.T o.t) (hh:okI m.H o.h) (hg:okI m.G o.g) (hs:0≤o.s∧o.s≤1):RelO (holdM { m with nu:=m.nu+1 } { o with id:=m.nu+1 }) { r with nx:=r.nx+1 } { o with id:=m.nu+1 }:=by
  have d:Same { m with nu:=m.nu+1 } (holdM { m with nu:=m.nu+1 } { o with id:=m.nu+1 }):=by unfold holdM;split <;> exact ⟨rfl,rfl,rfl,rfl,rfl,rfl,rfl⟩
  have db:(holdM { m with nu:=m.nu+1 } { o with id:=m.nu+1 }).bk=m.bk:=by unfold holdM;split <;> rfl
  have da:(holdM { m with nu:=m.nu+1 } { o with id:=m.nu+1 }).all=m.all:=by unfold Mt.all;rw [db,d.G,d.H]
  have dl:(holdM { m with nu:=m.nu+1 } { o with id:=m.nu+1 }).la=m.la:=by unfold holdM;split <;> rfl
  have dp:(holdM { m with nu:=m.nu+1 } { o with id:=m.nu+1 }).pi=m.pi:=by unfold holdM;split <;> rfl
  have dm:(holdM { m with nu:=m.nu+1 } { o with id:=m.nu+1 }).am=m.am:=by unfold holdM;split <;> rfl
  have dh:(holdM { m with nu:=m.nu+1 } { o with id:=m.nu+1 }).ho=m.ho:=by unfold holdM;split <;> rfl
  refine ⟨R.T.trans d.T.symm,R.G.trans d.G.symm,R.H.trans d.H.symm,R.rt.trans d.rt.symm,fun t h=>?_,fun t a b h1 h2 h3=>?_,by rw [da];exact R.wt,R.srt,fun x hx=>?_,R.ld.trans d.ld.symm,?_,?_,?_,?_,R.ho.trans dh.symm,R.tm.trans d.tm.symm⟩
  · have h':t<m.T:=by rw [d.T] at h;exact h
    have e:=R.mo t h'
    show r.mo t=_
    unfold Mt.held
    rw [da]
    have e2:heldL t m.all=m.held t:=rfl
    rw [e2,e]
    simp only [heldL]
    unfold holdM
    simp only []
    split
    · rename_i hz
      show _=(if t=o.t.toNat then m.mo o.t.toNat - o.p * o.q else m.mo t)+_+_
      by_cases c:t=o.t.toNat
      · subst c
        rw [if_pos rfl,if_pos ⟨(toNat_cast ht.1).symm,hz⟩]
        omega
      · rw [if_neg c,if_neg (fun k=>c (by omega))]
        omega
    · rename_i hz
      rw [if_neg (fun k=>hz k.2)]
      show _=m.mo t+_+_
      omega
  · have k1:t<m.T:=by rw [d.T] at h1;exact h1
    have k2:a<m.H:=by rw [d.H] at h2;exact h2
    have k3:b<m.G:=by rw [d.G] at h3;exact h3
    have e:=R.pc t a b k1 k2 k3
    show r.pc t a b=_
    unfold Mt.kept
    rw [db]
    have e2:keptL t (m.bk a b 1)=m.kept t a b:=rfl
    rw [e2,e]
    simp only [keptA]
    unfold holdM
    simp only []
    split
    · rename_i hz
      rw [if_neg (fun k=>by omega)]
      show _=m.pc t a b+_+_
      omega
    · rename_i hz
      show _=(if t=o.t.toNat∧a=o.h.toNat∧b=o.g.toNat then m.pc o.t.toNat o.h.toNat o.g.toNat - o.q else m.pc t a b)+_+_
      by_cases c:t=o.t.toNat∧a=o.h.toNat∧b=o.g.toNat
      · obtain ⟨rfl,rfl,rfl⟩:=c
        rw [if_pos ⟨rfl,rfl,rfl⟩,if_pos ⟨(toNat_cast ht.1).symm,by omega,(toNat_cast hh.1).symm,(toNat_cast hg.1).symm⟩]
        omega
      · rw [if_neg c,if_neg (fun k=>c ⟨by omega,by omega,by omega⟩)]
        omega
  · obtain ⟨h,g,s,h1,h2,h3,h4⟩:=mem_upH.1 (R.wt.mem_iff.1 hx)
    have:=(ok.od h g s x h1 h2 h3 h4).id
    show x.id<m.nu+1
    omega
  · rw [dl,d.G,d.H];exact R.la
  · rw [dp,d.G,d.H];exact R.pi
  · rw [dm,d.G,d.H];exact R.am
  · rw [d.nu];show r.nx+1=m.nu+1+1;rw [R.nx]

section
variable {h g s:Nat} {N:Int} {m:Mt} {r:Rm} {o z:Od} {rest:List Od} {k:Nat}

theorem hits_iff (M:Mid h g s N m o) (R:RelO m r o) {x:Od} (hx:x∈r.wt):hits o x=true ↔ x∈m.bk h g s∧pfits o x=true:=by
  obtain ⟨h',g',s',h1,h2,h3,h4⟩:=mem_upH.1 (R.wt.mem_iff.1 hx)
  have q:=M.I.od h' g' s' x h1 h2 h3 h4
  have e1:=M.eh
  have e2:=M.eg
  have e3:=M.es
  have s2:=M.q.2.2
  unfold hits
  simp only [Bool.and_eq_true,decide_eq_true_eq]
  constructor
  · rintro ⟨⟨⟨a,b⟩,c⟩,d⟩
    refine ⟨?_,d⟩
    have:h'=h:=by have:=q.h;omega
    subst this
    have:g'=g:=by have:=q.g;omega
    subst this
    have:s'=s:=by
      have:=q.s
      unfold otherS at e3
      split at e3 <;> omega
    subst this
    exact h4
  · rintro ⟨a,b⟩
    have q:=M.I.od h g s x M.q.1 M.q.2.1 M.q.2.2 a
    refine ⟨⟨⟨by rw [q.h,e1],by rw [q.g,e2]⟩,?_⟩,b⟩
    have:=q.s
    unfold otherS at e3
    split at e3 <;> omega

theorem Mid.mem (M:Mid h g s N m o) (R:RelO m r o) {x:Od} (hx:x∈m.bk h g s):x∈r.wt:=R.wt.mem_iff.2 (mem_upH.2 ⟨h,g,s,M.q.1,M.q.2.1,M.q.2.2,hx⟩)

theorem best_head (M:Mid h g s N m o) (R:RelO m r o) (hb:m.bk h g s=z :: rest) (hp:(z :: rest).Pairwise (Ahd s)) (hf:pfits o z=true):∃ k:Nat,rbest r o=k∧r.wt[k]? = some z:=by
  have hz:z∈m.bk h g s:=by rw [hb];exact List.mem_cons_self
  have hw:=M.mem R hz
  have hh:=(hits_iff M R hw).2 ⟨hz,hf⟩
  obtain ⟨j,hj,hj2⟩:=List.mem_iff_getElem.1 hw
  have hj3:r.wt[j]? = some z:=by rw [List.getElem?_eq_getElem hj,hj2]
  rcases best_spec (o:=o) (l:=r.wt) M.q.2.2 (fun x hx he=>(M.I.od h g s x M.q.1 M.q.2.1 M.q.2.2 ((hits_iff M R hx).1 he).1).s) R.srt r.wt.length (Nat.le_refl _) with ⟨_,h2⟩ | ⟨k,x,h1,h2,h3,h4,h5⟩
  · rw [h2 j z hj hj3] at hh
    cases hh
  · refine ⟨k,h1,?_⟩
    rcases h5 j z hj hj3 hh with rfl | h6
    · exact hj3
    · have hx:=((hits_iff M R (List.mem_of_getElem? h3)).1 h4).1
      rw [hb] at hx
      rcases List.mem_cons.1 hx with rfl | hx
      · exact h3
      · exact absurd h6 (ahd_asymm ((List.pairwise_cons.1 hp).1 x hx))
theorem best_none (M:Mid h g s N m o) (R:RelO m r o) (hn:∀ x∈m.bk h g s,pfits o x=false):rbest r o<0:=by
  rcases best_spec (o:=o) (l:=r.wt) M.q.2.2 (fun x hx he=>(M.I.od h g s x M.q.1 M.q.2.1 M.q.2.2 ((hits_iff M R hx).1 he).1).s) R.srt r.wt.length (Nat.le_refl _) with ⟨h1,_⟩ | ⟨k,x,h1,h2,h3,h4,h5⟩
  · unfold rbest;omega
  · have:=(hits_iff M R (List.mem_of_getElem? h3)).1 h4
    rw [hn x this.1] at this
    exact absurd this.2 (by decide)

theorem RelO.own (M:Mid h g s N m o) (R:RelO m r o) (hb:m.bk h g s=z :: rest) (hk:r.wt[k]? = some z):RelO (releaseM (m.setBk h g s rest) z.t.toNat h g s z) (rdrop r k) o:=by
  have zo:=M.I.od h g s z M.q.1 M.q.2.1 M.q.2.2 (by rw [hb];exact List.mem_cons_self)
  have d:=same_release (m.setBk h g s rest) z.t.toNat h g s z
  have db:=bk_release (m.setBk h g s rest) z.t.toNat h g s z
  have da:(releaseM (m.setBk h g s rest) z.t.toNat h g s z).all=(m.setBk h g s rest).all:=by unfold Mt.all;rw [db,d.G,d.H]
  have dl:(releaseM (m.setBk h g s rest) z.t.toNat h g s z).la=m.la:=by unfold releaseM;split <;> rfl
  have dp:(releaseM (m.setBk h g s rest) z.t.toNat h g s z).pi=m.pi:=by unfold releaseM;split <;> rfl
  have dm:(releaseM (m.setBk h g s rest) z.t.toNat h g s z).am=m.am:=by unfold releaseM;split <;> rfl
  have dh:(releaseM (m.setBk h g s rest) z.t.toNat h g s z).ho=m.ho:=by unfold releaseM;split <;> rfl
  have s2:=M.q.2.2
  have zs:=zo.s
  have zt:=zo.t
  refine ⟨R.T.trans d.T.symm,R.G.trans d.G.symm,R.H.trans d.H.symm,R.rt.trans d.rt.symm,fun t ht=>?_,fun t a b h1 h2 h3=>?_,?_,R.srt.sublist (drop_sub _ _),fun x hx=>R.lt x ((drop_sub _ _).subset hx),R.ld.trans d.ld.symm,?_,?_,?_,by rw [d.nu];exact R.nx,R.ho.trans dh.symm,R.tm.trans d.tm.symm⟩
  · have h':t<m.T:=by rw [d.T] at ht;exact ht
    have e:=R.mo t h'
    have eh:(releaseM (m.setBk h g s rest) z.t.toNat h g s z).held t=(m.setBk h g s rest).held t:=by unfold Mt.held;rw [da]
    have e2:=held_setBk M.q rest t
    rw [hb] at e2
    simp only [heldL] at e2
    show r.mo t=_
    rw [eh,e2,e]
    unfold releaseM
    split
    · rename_i hz
      show _=(if t=z.t.toNat then m.mo z.t.toNat+z.p * z.q else m.mo t)+_+_
      by_cases c:t=z.t.toNat
      · subst c
        rw [if_pos rfl,if_pos ⟨(toNat_cast zt.1).symm,by omega⟩]
        omega
      · rw [if_neg c,if_neg (fun k=>c (by omega))]
        omega
    · rename_i hz
      rw [if_neg (fun k=>by omega)]
      show _=m.mo t+_+_
      omega
  · have k1:t<m.T:=by rw [d.T] at h1;exact h1
    have k2:a<m.H:=by rw [d.H] at h2;exact h2
    have k3:b<m.G:=by rw [d.G] at h3;exact h3
    have e:=R.pc t a b k1 k2 k3
    have ek:(releaseM (m.setBk h g s rest) z.t.toNat h g s z).kept t a b=(m.setBk h g s rest).kept t a b:=by unfold Mt.kept;rw [db]
    show r.pc t a b=_
    rw [ek,kept_setBk,e]
    unfold releaseM
    split
    · rename_i hz
      rw [if_neg (fun k=>by omega)]
      show _=m.pc t a b+_+_
      omega
    · rename_i hz
      have es:s=1:=by omega
      subst es
      show _=(if t=z.t.toNat∧a=h∧b=g then m.pc z.t.toNat h g+z.q else m.pc t a b)+_+_
      by_cases c:a=h∧b=g
      · obtain ⟨rfl,rfl⟩:=c
        have ek2:m.kept t a b=(if z.t=t then z.q else 0)+keptL t rest:=by unfold Mt.kept;rw [hb];rfl
        rw [if_pos (show a=a∧b=b∧(1:Nat)=1 from ⟨rfl,rfl,rfl⟩),ek2]
        by_cases c2:t=z.t.toNat
        · subst c2
          rw [if_pos (toNat_cast zt.1).symm,if_pos ⟨rfl,rfl,rfl⟩]
          omega
        · rw [if_neg (show ¬ z.t=(t:Int) by omega),if_neg (fun k=>c2 k.1)]
          omega
      · rw [if_neg (fun k=>c k.2),if_neg (fun k=>c ⟨k.1,k.2.1⟩)]
  · rw [da]
    have p1:=drop_perm hk
    have p2:=all_less M.q (z:=z) (l:=rest) (by rw [hb])
    exact ((p1.symm.trans R.wt).trans p2).cons_inv
  · rw [dl,d.G,d.H];exact R.la
  · rw [dp,d.G,d.H];exact R.pi
  · rw [dm,d.G,d.H];exact R.am

theorem RelO.gone (q:at3 m h g s) (R:RelO m r o) (hb:m.bk h g s=z :: rest) (hz:z.q=0) (hk:r.wt[k]? = some z):RelO (m.setBk h g s rest) (rdrop r k) o:=by
  refine ⟨R.T,R.G,R.H,R.rt,fun t ht=>?_,fun t a b h1 h2 h3=>?_,?_,R.srt.sublist (drop_sub _ _),fun x hx=>R.lt x ((drop_sub _ _).subset hx),R.ld,R.la,R.pi,R.am,R.nx,R.ho,R.tm⟩
  · have e:=R.mo t ht
    have e2:=held_setBk q rest t
    rw [hb] at e2
    simp only [heldL,hz,Int.mul_zero,ite_self] at e2
    show r.mo t=m.mo t+_+_
    rw [e2,e]
    omega
  · have e:=R.pc t a b h1 h2 h3
    show r.pc t a b=m.pc t a b+_+_
    rw [kept_setBk,e]
    by_cases c:a=h∧b=g∧s=1
    · rw [if_pos c]
      obtain ⟨rfl,rfl,rfl⟩:=c
      have:m.kept t a b=keptL t rest:=by
        unfold Mt.kept
        rw [hb]
        simp only [keptL,hz,ite_self]
        omega
      rw [this]
    · rw [if_neg c]
  · have p1:=drop_perm hk
    have p2:=all_less q (z:=z) (l:=rest) (by rw [hb])
    exact ((p1.symm.trans R.wt).trans p2).cons_inv

theorem set_ids {l:List Od} {k:Nat} {z:Od} (hk:l[k]? = some z) (n:Int) (h:l.Pairwise fun a b=>a.id<b.id):(l.set k { z with q:=n }).Pairwise fun a b=>a.id<b.id:=by
  have e:(l.set k { z with q:=n }).map Od.id=l.map Od.id:=by
    rw [List.map_set]
    have:(l.map Od.id)[k]? = some z.id:=by rw [List.getElem?_map,hk];rfl
    obtain ⟨h1,h2⟩:=List.getElem?_eq_some_iff.1 this
    show (l.map Od.id).set k z.id=_
    rw [← h2]
    exact List.set_getElem_self h1
  have h':=(List.pairwise_map (f:=Od.id) (R:=fun a b=>a<b)).2 h
  rw [← e] at h'
  exact List.pairwise_map.1 h'

end
end

end Go.Proofs.YtcfoobhihhndjaaGreat
