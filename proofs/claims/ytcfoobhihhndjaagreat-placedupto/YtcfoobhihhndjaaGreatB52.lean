
import Derived.Test.YtcfoobhihhndjaaGreatB45
import Derived.Test.YtcfoobhihhndjaaGreatB51
namespace Go.Proofs.YtcfoobhihhndjaaGreat

section
def lvIn (h g s:Nat) (o:Od):Bool:=decide (o.h=h) && decide (o.g=g) && decide (o.s=s)
def lvLater (s:Nat) (gs:List Lv) (o:Od):Bool :=
  match gs.getLast? with
  | none=>true
  | some l=>if s=0 then decide (o.p<l.p) else decide (l.p<o.p)
def lvNext (s:Nat) (b p:Int):Bool:=decide (b=0) || (if s=0 then decide (b<p) else decide (p≤b))
def lvBst (h g s:Nat) (gs:List Lv) (b:Int) (o:Od):Int:=if lvIn h g s o=true∧lvLater s gs o=true∧lvNext s b o.p=true then o.p else b
def lvTop (h g s:Nat) (gs:List Lv) (l:List Od):Int:=l.foldl (lvBst h g s gs) 0
def lvOf (h g s:Nat) (b:Int) (l:List Od):Lv:=⟨b,sumQ b (l.filter (lvIn h g s)),cntP b (l.filter (lvIn h g s))⟩
def rlv (h g s:Nat) (l:List Od):Nat→List Lv→List Lv
  | 0,gs=>gs
  | n+1,gs=>if lvTop h g s gs l=0 then gs else rlv h g s l n (gs ++ [lvOf h g s (lvTop h g s gs l) l])

theorem top_spec {h g s:Nat} (s2:s<2) {gs:List Lv}:∀ (l:List Od) (b0:Int),0≤b0→(∀ o∈l,1≤o.p) →
    0≤l.foldl (lvBst h g s gs) b0∧(l.foldl (lvBst h g s gs) b0=b0∨∃ o∈l,(lvIn h g s o=true∧lvLater s gs o=true)∧o.p=l.foldl (lvBst h g s gs) b0)∧(b0≠0→l.foldl (lvBst h g s gs) b0≠0∧¬ Sr s b0 (l.foldl (lvBst h g s gs) b0))∧∀ o∈l,lvIn h g s o=true∧lvLater s gs o=true→l.foldl (lvBst h g s gs) b0≠0∧¬ Sr s o.p (l.foldl (lvBst h g s gs) b0)
  | [],b0,h0,_=>⟨h0,.inl rfl,fun h=>⟨h,fun f=>by simp only [List.foldl_nil,Sr] at f;split at f <;> omega⟩,fun o ho=>by cases ho⟩
  | x :: l,b0,h0,hp=>by
    have px:=hp x List.mem_cons_self
    have h1:0≤lvBst h g s gs b0 x:=by unfold lvBst;split <;> omega
    obtain ⟨i0,i1,i2,i3⟩:=top_spec s2 (gs:=gs) l (lvBst h g s gs b0 x) h1 (fun o ho=>hp o (List.mem_cons_of_mem _ ho))
    simp only [List.foldl_cons]
    generalize l.foldl (lvBst h g s gs) (lvBst h g s gs b0 x)=b at *
    have tr:∀ a c:Int,¬ Sr s a c→¬ Sr s c b→¬ Sr s a b:=fun a c k1 k2=>by unfold Sr at *;split <;> simp_all <;> omega
    have ir:∀ a:Int,¬ Sr s a a:=fun a=>by unfold Sr;split <;> omega
    by_cases c:lvIn h g s x=true∧lvLater s gs x=true∧lvNext s b0 x.p=true
    · have e:lvBst h g s gs b0 x=x.p:=by unfold lvBst;rw [if_pos c]
      rw [e] at i1 i2
      obtain ⟨j1,j2⟩:=i2 (by omega)
      refine ⟨i0,?_,fun hb=>⟨j1,?_⟩,fun o ho k=>?_⟩
      · rcases i1 with q | ⟨o,ho,k⟩
        · exact .inr ⟨x,List.mem_cons_self,⟨c.1,c.2.1⟩,q.symm⟩
        · exact .inr ⟨o,List.mem_cons_of_mem _ ho,k⟩
      · refine tr b0 x.p ?_ j2
        have:=c.2.2
        unfold lvNext at this
        unfold Sr
        rcases s with _ | _ | s
        · simp [hb] at this;simp;omega
        · simp [hb] at this;simp;omega
        · omega
      · rcases List.mem_cons.1 ho with rfl | ho
        · exact ⟨j1,j2⟩
        · exact i3 o ho k
    · have e:lvBst h g s gs b0 x=b0:=by unfold lvBst;rw [if_neg c]
      rw [e] at i1 i2
      refine ⟨i0,?_,i2,fun o ho k=>?_⟩
      · rcases i1 with q | ⟨o,ho,k⟩
        · exact .inl q
        · exact .inr ⟨o,List.mem_cons_of_mem _ ho,k⟩
      · rcases List.mem_cons.1 ho with rfl | ho
        · have hn:¬ lvNext s b0 o.p=true:=fun f=>c ⟨k.1,k.2,f⟩
          unfold lvNext at hn
          have hb:b0≠0:=fun f=>hn (by simp [f])
          obtain ⟨j1,j2⟩:=i2 hb
          refine ⟨j1,tr o.p b0 ?_ j2⟩
          unfold Sr
          rcases s with _ | _ | s
          · simp [hb] at hn;simp;omega
          · simp [hb] at hn;simp;omega
          · omega
        · exact i3 o ho k

structure LvPart (s:Nat) (F:List Od) (gs:List Lv):Prop where
  pw:gs.Pairwise fun a b=>Sr s a.p b.p
  sq:∀ l∈gs,l.q=sumQ l.p F∧l.n=cntP l.p F
  fr:∀ l∈gs,∃ o∈F,o.p=l.p
  ex:∀ o∈F,(∃ l∈gs,l.p=o.p)∨lvLater s gs o=true

theorem later_snoc {s:Nat} {gs:List Lv} {x:Lv} {o:Od}:lvLater s (gs ++ [x]) o=true ↔ Sr s x.p o.p:=by
  unfold lvLater Sr
  simp only [List.getLast?_append,List.getLast?_singleton,Option.some_or]
  split <;> simp

theorem LvPart.last {s:Nat} {F:List Od} {gs:List Lv} (P:LvPart s F gs) {o:Od} (ho:lvLater s gs o=true):∀ l∈gs,Sr s l.p o.p:=by
  intro l hl
  rcases List.eq_nil_or_concat gs with e | ⟨g0,z,e⟩
  · subst e;cases hl
  · rw [List.concat_eq_append] at e
    subst e
    have hz:=later_snoc.1 ho
    rcases List.mem_append.1 hl with q | q
    · have:=(List.pairwise_append.1 P.pw).2.2 l q z (List.mem_singleton_self _)
      unfold Sr at *
      split at this <;> simp_all <;> omega
    · rw [List.mem_singleton.1 q]
      exact hz

theorem rlv_part {h g s:Nat} (s2:s<2) {wt:List Od} (hp:∀ o∈wt,1≤o.p):∀ (n:Nat) (gs:List Lv),LvPart s (wt.filter (lvIn h g s)) gs→((wt.filter (lvIn h g s)).filter (lvLater s gs)).length≤n →
    LvPart s (wt.filter (lvIn h g s)) (rlv h g s wt n gs)∧∀ o∈wt.filter (lvIn h g s),∃ l∈rlv h g s wt n gs,l.p=o.p
  | 0,gs,P,hn=>by
    refine ⟨P,fun o ho=>?_⟩
    have e:(wt.filter (lvIn h g s)).filter (lvLater s gs)=[]:=List.length_eq_zero_iff.1 (by omega)
    refine (P.ex o ho).resolve_right fun f=>?_
    have:o∈(wt.filter (lvIn h g s)).filter (lvLater s gs):=List.mem_filter.2 ⟨ho,f⟩
    rw [e] at this
    cases this
  | n+1,gs,P,hn=>by
    obtain ⟨t0,t1,_,t3⟩:=top_spec s2 (h:=h) (g:=g) (gs:=gs) wt 0 (Int.le_refl _) hp
    have et:wt.foldl (lvBst h g s gs) 0=lvTop h g s gs wt:=rfl
    rw [et] at t0 t1 t3
    rw [rlv]
    by_cases c:lvTop h g s gs wt=0
    · rw [if_pos c]
      refine ⟨P,fun o ho=>(P.ex o ho).resolve_right fun f=>?_⟩
      obtain ⟨m1,m2⟩:=List.mem_filter.1 ho
      exact (t3 o m1 ⟨m2,f⟩).1 c
    · rw [if_neg c]
      rcases t1 with q | ⟨o,ho,⟨k1,k2⟩,k3⟩
      · exact absurd q c
      · have hoF:o∈wt.filter (lvIn h g s):=List.mem_filter.2 ⟨ho,k1⟩
        generalize hb:lvTop h g s gs wt=b at *
        have P':LvPart s (wt.filter (lvIn h g s)) (gs ++ [lvOf h g s b wt]):=by
          refine ⟨List.pairwise_append.2 ⟨P.pw,List.pairwise_singleton _ _,fun l hl x hx=>?_⟩,fun l hl=>?_,fun l hl=>?_,fun y hy=>?_⟩
          · rw [List.mem_singleton.1 hx]
            show Sr s l.p b
            rw [← k3]
            exact P.last k2 l hl
          · rcases List.mem_append.1 hl with q | q
            · exact P.sq l q
            · rw [List.mem_singleton.1 q]
              exact ⟨rfl,rfl⟩
          · rcases List.mem_append.1 hl with q | q
            · exact P.fr l q
            · rw [List.mem_singleton.1 q]
              exact ⟨o,hoF,k3⟩
          · rcases P.ex y hy with ⟨l,hl,e⟩ | f
            · exact .inl ⟨l,List.mem_append_left _ hl,e⟩
            · obtain ⟨m1,m2⟩:=List.mem_filter.1 hy
              have nb:=(t3 y m1 ⟨m2,f⟩).2
              by_cases e:y.p=b
              · exact .inl ⟨lvOf h g s b wt,List.mem_append_right _ (List.mem_singleton_self _),e.symm⟩
              · exact .inr (later_snoc.2 (show Sr s b y.p from sr_of nb (fun f=>e f.symm)))
        refine rlv_part s2 hp n _ P' ?_
        have sub:((wt.filter (lvIn h g s)).filter (lvLater s (gs ++ [lvOf h g s b wt]))).length<((wt.filter (lvIn h g s)).filter (lvLater s gs)).length:=by
          have e1:(wt.filter (lvIn h g s)).filter (lvLater s (gs ++ [lvOf h g s b wt]))=((wt.filter (lvIn h g s)).filter (lvLater s gs)).filter (lvLater s (gs ++ [lvOf h g s b wt])):=by
            conv=>rhs;rw [List.filter_filter]
            refine List.filter_congr fun y hy=>?_
            by_cases f:lvLater s (gs ++ [lvOf h g s b wt]) y=true
            · rw [f]
              have:lvLater s gs y=true:=by
                rcases P.ex y hy with ⟨l,hl,e⟩ | f2
                · have h1:Sr s b y.p:=later_snoc.1 f
                  have h2:Sr s l.p b:=by rw [← k3];exact P.last k2 l hl
                  rw [e] at h2
                  unfold Sr at *
                  split at h1 <;> simp_all <;> omega
                · exact f2
              rw [this]
              rfl
            · have f':lvLater s (gs ++ [lvOf h g s b wt]) y=false:=by simpa using f
              rw [f']
              rfl
          rw [e1]
          have hmem:o∈(wt.filter (lvIn h g s)).filter (lvLater s gs):=List.mem_filter.2 ⟨hoF,k2⟩
          have hnot:¬ lvLater s (gs ++ [lvOf h g s b wt]) o=true:=fun f=>by
            have:Sr s b o.p:=later_snoc.1 f
            rw [k3] at this
            unfold Sr at this
            split at this <;> omega
          have hle:=List.length_filter_le (lvLater s (gs ++ [lvOf h g s b wt])) ((wt.filter (lvIn h g s)).filter (lvLater s gs))
          rcases Nat.lt_or_eq_of_le hle with q | q
          · exact q
          · exact absurd (List.length_filter_eq_length_iff.1 q o hmem) hnot
        omega

theorem lv_one {s:Nat}:∀ (a b:List Lv),a.Pairwise (fun a b=>Sr s a.p b.p)→b.Pairwise (fun a b=>Sr s a.p b.p)→(∀ x∈a,∃ y∈b,y=x)→(∀ y∈b,∃ x∈a,x=y)→a=b
  | [],[],_,_,_,_=>rfl
  | [],y :: b,_,_,_,h=>by obtain ⟨x,hx,_⟩:=h y List.mem_cons_self;cases hx
  | x :: a,[],_,_,h,_=>by obtain ⟨y,hy,_⟩:=h x List.mem_cons_self;cases hy
  | x :: a,y :: b,pa,pb,h1,h2=>by
    have asym:∀ p q:Int,Sr s p q→¬ Sr s q p:=fun p q k1 k2=>by unfold Sr at *;split at k1 <;> simp_all <;> omega
    obtain ⟨a1,a2⟩:=List.pairwise_cons.1 pa
    obtain ⟨b1,b2⟩:=List.pairwise_cons.1 pb
    have e:x=y:=by
      obtain ⟨y',hy',e1⟩:=h1 x List.mem_cons_self
      obtain ⟨x',hx',e2⟩:=h2 y List.mem_cons_self
      subst e1 e2
      rcases List.mem_cons.1 hy' with q | q
      · exact q
      · rcases List.mem_cons.1 hx' with q2 | q2
        · exact q2.symm
        · exact absurd (a1 _ q2) (asym _ _ (b1 _ q))
    subst e
    have irr:∀ z∈a,z≠x:=fun z hz f=>by subst f;exact sr_ne (a1 _ hz) rfl
    have irr2:∀ z∈b,z≠x:=fun z hz f=>by subst f;exact sr_ne (b1 _ hz) rfl
    rw [lv_one a b a2 b2 (fun z hz=>?_) (fun z hz=>?_)]
    · obtain ⟨y,hy,e⟩:=h1 z (List.mem_cons_of_mem _ hz)
      subst e
      rcases List.mem_cons.1 hy with q | q
      · exact absurd q (irr _ hz)
      · exact ⟨_,q,rfl⟩
    · obtain ⟨y,hy,e⟩:=h2 z (List.mem_cons_of_mem _ hz)
      subst e
      rcases List.mem_cons.1 hy with q | q
      · exact absurd q (irr2 _ hz)
      · exact ⟨_,q,rfl⟩

theorem upG_split {α:Type} {f f':Nat→Nat→List α} {g s:Nat} (s2:s<2) (ho:∀ a b,b<2→¬ (a=g∧b=s)→f' a b=f a b) (hz:f' g s=[]):∀ G,g<G→(upG f G).Perm (upG f' G ++ f g s)
  | 0,h=>by omega
  | G+1,h=>by
    simp only [upG]
    by_cases e:g=G
    · subst e
      rw [upG_alike (f:=f) (f':=f') g (fun a b ha hb=>ho a b hb (by omega)),List.append_assoc]
      refine List.Perm.append_left _ ?_
      unfold two
      rcases s with _ | _ | s
      · rw [hz,ho g 1 (by omega) (by omega),List.nil_append]
        exact List.perm_append_comm
      · rw [hz,ho g 0 (by omega) (by omega),List.append_nil]
      · omega
    · have e2:two (f' G)=two (f G):=by unfold two;rw [ho G 0 (by omega) (by omega),ho G 1 (by omega) (by omega)]
      rw [e2]
      refine ((upG_split s2 ho hz G (by omega)).append_right _).trans ?_
      rw [List.append_assoc,List.append_assoc]
      exact List.Perm.append_left _ List.perm_append_comm
theorem upH_split {α:Type} {G:Nat} {f f':Nat→Nat→Nat→List α} {h g s:Nat} (hg:g<G) (s2:s<2) (ho:∀ i a b,b<2→¬ (i=h∧a=g∧b=s)→f' i a b=f i a b) (hz:f' h g s=[]):∀ H,h<H→(upH G f H).Perm (upH G f' H ++ f h g s)
  | 0,k=>by omega
  | H+1,k=>by
    simp only [upH]
    by_cases e:h=H
    · subst e
      rw [upH_alike (f:=f) (f':=f') h (fun i a b hi _ hb=>ho i a b hb (by omega)),List.append_assoc]
      exact List.Perm.append_left _ (upG_split s2 (fun a b hb hne=>ho h a b hb (by omega)) hz G hg)
    · rw [upG_alike (f:=f H) (f':=f' H) G (fun a b _ hb=>ho H a b hb (by omega))]
      refine ((upH_split hg s2 ho hz H (by omega)).append_right _).trans ?_
      rw [List.append_assoc,List.append_assoc]
      exact List.Perm.append_left _ List.perm_append_comm
theorem all_apart (m:Mt) {h g s:Nat} (q:at3 m h g s):m.all.Perm ((m.setBk h g s []).all ++ m.bk h g s):=by
  refine upH_split q.2.1 q.2.2 (fun i a b _ hne=>?_) ?_ m.H q.1
  · simp [Mt.setBk,hne]
  · simp [Mt.setBk]

theorem bk_filter {m:Mt} {N:Int} (ok:m.Ok N) {h g s:Nat} (q:at3 m h g s):(m.all.filter (lvIn h g s)).Perm (m.bk h g s):=by
  have k:=all_apart m q
  have e1:(m.setBk h g s []).all.filter (lvIn h g s)=[]:=by
    rw [List.filter_eq_nil_iff]
    intro x hx f
    obtain ⟨a,b,c,h1,h2,h3,h4⟩:=mem_upH.1 hx
    have h4':x∈(if a=h∧b=g∧c=s then ([]:List Od) else m.bk a b c):=h4
    split at h4'
    · cases h4'
    · rename_i hne
      have w:=ok.od a b c x h1 h2 h3 h4'
      have w1:=w.h
      have w2:=w.g
      have w3:=w.s
      unfold lvIn at f
      simp only [Bool.and_eq_true,decide_eq_true_eq] at f
      exact hne ⟨by omega,by omega,by omega⟩
  have e2:(m.bk h g s).filter (lvIn h g s)=m.bk h g s:=by
    rw [List.filter_eq_self]
    intro x hx
    have w:=ok.od h g s x q.1 q.2.1 q.2.2 hx
    unfold lvIn
    simp [w.h,w.g,w.s]
  have:=k.filter (lvIn h g s)
  rwa [List.filter_append,e1,e2,List.nil_append] at this

theorem Rel.levels {m:Mt} {r:Rm} {N:Int} (R:Rel m r) (I:m.Inv N) (J:m.Jn) {h g s:Nat} (q:at3 m h g s):rlv h g s r.wt r.wt.length []=lvL (m.bk h g s):=by
  have s2:=q.2.2
  have ok:=I.ok
  have pm:(r.wt.filter (lvIn h g s)).Perm (m.bk h g s):=(R.wt.filter _).trans (bk_filter ok q)
  have hp:∀ o∈r.wt,1≤o.p:=fun o ho=>by
    obtain ⟨a,b,c,h1,h2,h3,h4⟩:=mem_upH.1 (R.wt.mem_iff.1 ho)
    exact (ok.od a b c o h1 h2 h3 h4).p.1
  have A:=lvOk (s:=s) (m.bk h g s) ((J.srt q).imp fun {a b} k=>by
    rw [ahd_iff] at k
    unfold Sr
    rcases s with _ | _ | s
    · simp at k;simp;omega
    · simp at k;simp;omega
    · omega)
  have P0:LvPart s (r.wt.filter (lvIn h g s)) []:=⟨List.Pairwise.nil,fun l hl=>(by cases hl),fun l hl=>(by cases hl),fun o _=>.inr rfl⟩
  obtain ⟨B,C⟩:=rlv_part s2 hp r.wt.length [] P0 (Nat.le_trans (List.length_filter_le _ _) (List.length_filter_le _ _))
  have lv_ext:∀ x y:Lv,x.p=y.p→x.q=y.q→x.n=y.n→x=y:=fun x y e1 e2 e3=>by cases x;cases y;simp only at e1 e2 e3;rw [e1,e2,e3]
  refine lv_one (s:=s) _ _ B.pw A.pw (fun x hx=>?_) (fun y hy=>?_)
  · obtain ⟨o,ho,e⟩:=B.fr x hx
    obtain ⟨l,hl,e2⟩:=A.ex o (pm.mem_iff.1 ho)
    have h1:=B.sq x hx
    have h2:=A.sq l hl
    have ep:l.p=x.p:=by rw [e2,e]
    refine ⟨l,hl,lv_ext _ _ ep ?_ ?_⟩
    · rw [h1.1,h2.1,ep,sumQ_perm pm]
    · rw [h1.2,h2.2,ep,cntP_perm pm]
  · obtain ⟨o,ho,e⟩:=A.fr y hy
    obtain ⟨l,hl,e2⟩:=C o (pm.mem_iff.2 ho)
    have h1:=B.sq l hl
    have h2:=A.sq y hy
    have ep:l.p=y.p:=by rw [e2,e]
    refine ⟨l,hl,lv_ext _ _ ep ?_ ?_⟩
    · rw [h1.1,h2.1,ep,sumQ_perm pm]
    · rw [h1.2,h2.2,ep,cntP_perm pm]
end

end Go.Proofs.YtcfoobhihhndjaaGreat
