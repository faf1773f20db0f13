
import Derived.Test.YtcfoobhihhndjaaGreatB30
import Derived.Test.YtcfoobhihhndjaaGreatB36
namespace Go.Proofs.YtcfoobhihhndjaaGreat

section
open Go.RowKit

def StepPost (a d:Nat) (w:World) (B0 p:Nat) (K:Int) (s:Sta) (w':World):Prop:=∃ s',Stands B0 p (K+1) s' w'∧Goes B0 a d 2 s w s' w'

section
variable {B0 p:Nat} {K:Int} {s:Sta} {w w':World}

theorem StepPost.wide {a d a' d':Nat} (h:StepPost a d w B0 p K s w') (ha:a'≤a) (hd:d≤d'):StepPost a' d' w B0 p K s w':=by
  obtain ⟨s',h1,h2⟩:=h
  exact ⟨s',h1,h2.wide ha hd (Nat.le_refl _)⟩
theorem StepPost.same (h:Stands B0 p K s w) (k:Kep non w w'):StepPost 0 0 w B0 p K s w':=⟨s,(h.later k).mono (by omega),(h.goes k).wide (by omega) (by omega) (by omega)⟩
theorem StepPost.after {W:World} {a d e:Nat} (h:Stands B0 p K s w) (k:Kep non w W) (he:e≤2) {s':Sta} {K':Int} (hK:K'≤K+1) (h1:Stands B0 p K' s' w') (h2:Goes B0 a d e s W s' w'):StepPost a d w B0 p K s w' :=
  ⟨s',h1.mono hK,((h.goes k).trans h2).wide (by omega) (by omega) (by omega)⟩

theorem Stands.add {L:PL} {R:RL} {m:Mt} {r:Rm} {psv':Value} (h:Stands B0 p K s w) (F:Fit m r) (nu:m.nu≤K) (hp:PRep w L m) (hr:RRep w R r) (hX:∀ b,L.X m b→B0≤b∧¬ s.dd b∧∀ ix,¬ s.F p ix b) (hR:∀ b,R.S b→B0≤b∧¬ s.dd b∧∀ ix,¬ s.F p ix b) (dis:∀ b,L.X m b→¬ R.S b)
    (o0:Own w' ⟨p,0,none⟩ psv') (r0:w'.ownsRow B0 48 2 psv' (s.n+1) (pairCells s.L s.R s.n ++ [.pointer (some ⟨L.x,0,none⟩),.pointer (some ⟨R.c,0,none⟩)])) (l0:psv'.ownBlock=s.psv.ownBlock∨∃ b,psv'.ownBlock=some b∧w.heap.size≤b)
    (oj:∀ j v,j≠0→Own w ⟨p,j,none⟩ v→Own w' ⟨p,j,none⟩ v) (k:Kep (fun b=>b=p∨s.psv.ownBlock=some b) w w'):∃ s',Stands B0 p K s' w'∧Goes B0 1 1 0 s w s' w':=by
  have lt:=h.lt
  have ltL:=xlt hp F.inv.ok
  have ltR:=rlt hr F.rok
  have notS:∀ ix b,ix ≠ .p→ix ≠ .ps→s.F p ix b→¬ (b=p∨s.psv.ownBlock=some b):=fun ix b h1 h2 hb hb'=>by
    rcases hb' with q | q
    · exact h.sep ix .p b h1 hb q
    · exact h.sep ix .ps b h2 hb q
  have deadS:∀ b,s.dd b→¬ (b=p∨s.psv.ownBlock=some b):=fun b hb hb'=>by
    rcases hb' with q | q
    · exact h.dead b hb .p q
    · exact h.dead b hb .ps q
  let s':Sta:={ s with n:=s.n+1,L:=fun j=>if j=s.n then L else s.L j,R:=fun j=>if j=s.n then R else s.R j,m:=fun j=>if j=s.n then m else s.m j,r:=fun j=>if j=s.n then r else s.r j,psv:=psv' }
  have fx:∀ j b,s'.F p (.x j) b→(j=s.n∧L.X m b)∨(j≠s.n∧s.F p (.x j) b):=fun j b hb=>by
    obtain ⟨hj,hb⟩:=hb
    by_cases e:j=s.n
    · subst e
      exact .inl ⟨rfl,by simpa [s'] using hb⟩
    · refine .inr ⟨e,?_⟩
      simp only [s',if_neg e] at hj hb
      exact ⟨by omega,hb⟩
  have fc:∀ j b,s'.F p (.c j) b→(j=s.n∧R.S b)∨(j≠s.n∧s.F p (.c j) b):=fun j b hb=>by
    obtain ⟨hj,hb⟩:=hb
    by_cases e:j=s.n
    · subst e
      exact .inl ⟨rfl,by simpa [s'] using hb⟩
    · refine .inr ⟨e,?_⟩
      simp only [s',if_neg e] at hj hb
      exact ⟨by omega,hb⟩
  have psl:∀ b,psv'.ownBlock=some b→s.F p .ps b∨w.heap.size≤b:=fun b hb=>by
    rcases l0 with q | ⟨b',q,hs⟩
    · exact .inl (by show s.psv.ownBlock=some b;rw [← q];exact hb)
    · have e:b'=b:=by rw [hb] at q;simpa using q.symm
      exact .inr (by omega)
  -- what one footprint has,another has not
  have sep':∀ ix jx b,ix≠jx→s'.F p ix b→¬ s'.F p jx b:=by
    have cls:∀ ix b,s'.F p ix b→(s.F p ix b)∨(ix = .ps∧w.heap.size≤b)∨(ix = .x s.n∧L.X m b)∨(ix = .c s.n∧R.S b):=fun ix b hb=>by
      cases ix with
      | p=>exact .inl hb
      | b j=>exact .inl hb
      | ps=>exact (psl b hb).imp id fun q=>.inl ⟨rfl,q⟩
      | x j =>
        rcases fx j b hb with ⟨e,q⟩ | ⟨_,q⟩
        · exact .inr (.inr (.inl ⟨by rw [e],q⟩))
        · exact .inl q
      | c j =>
        rcases fc j b hb with ⟨e,q⟩ | ⟨_,q⟩
        · exact .inr (.inr (.inr ⟨by rw [e],q⟩))
        · exact .inl q
    intro ix jx b hne hb hb'
    rcases cls ix b hb with q | ⟨e,q⟩ | ⟨e,q⟩ | ⟨e,q⟩ <;> rcases cls jx b hb' with q' | ⟨e',q'⟩ | ⟨e',q'⟩ | ⟨e',q'⟩
    · exact h.sep ix jx b hne q q'
    · have:=lt ix b q;omega
    · exact (hX b q').2.2 ix q
    · exact (hR b q').2.2 ix q
    · have:=lt jx b q';omega
    · exact hne (e.trans e'.symm)
    · have:=ltL b q';omega
    · have:=ltR b q';omega
    · exact (hX b q).2.2 jx q'
    · have:=ltL b q;omega
    · exact hne (e.trans e'.symm)
    · exact dis b q q'
    · exact (hR b q).2.2 jx q'
    · have:=ltR b q;omega
    · exact dis b q' q
    · exact hne (e.trans e'.symm)
  refine ⟨s',⟨Nat.le_trans h.b0 k.size,o0,fun j hj=>oj (j+1) _ (by omega) (h.cb j hj),?_,fun j hj=>ownsRow_kep (h.rb j hj) k (fun b hb=>notS (.b j) b (by simp) (by simp) ⟨hj,hb⟩),
    fun j hj=>?_,fun j hj=>?_,fun j hj=>?_,fun j hj=>?_,sep',fun ix b hb=>?_,fun b hb ix q=>?_,fun b hb=>Nat.lt_of_lt_of_le (h.dlt b hb) k.size,fun j hj q hq=>(h.mrk j hj q hq).keep (mark_pos _ _) k deadS (fun _ _ q=>q)⟩,
    ⟨Nat.le_refl _,Nat.le_refl _,fun _=>Nat.le_refl _,k.below h.b0 (fun b hb=>?_),fun b hb=>⟨k.block b (h.dlt b hb) (deadS b hb),hb⟩⟩⟩
  · have e:pairCells s'.L s'.R s'.n=pairCells s.L s.R s.n ++ [.pointer (some ⟨L.x,0,none⟩),.pointer (some ⟨R.c,0,none⟩)]:=by
      show pairCells s'.L s'.R (s.n+1)=_
      rw [pairCells,pairCells_congr (L:=s.L) (R:=s.R) s.n (fun j hj=>by simp [s',show j≠s.n by omega])]
      simp [s']
    rw [e]
    exact r0
  · by_cases e:j=s.n
    · subst e
      simp only [s',if_true]
      exact hp.kx k (fun b hb q=>by
        rcases q with q | q
        · exact (hX b hb).2.2 .p q
        · exact (hX b hb).2.2 .ps q)
    · have hj':j<s.n:=by have:j<s.n+1:=hj;omega
      simp only [s',if_neg e]
      exact (h.rx j hj').kx k (fun b hb=>notS (.x j) b (by simp) (by simp) ⟨hj',hb⟩)
  · by_cases e:j=s.n
    · subst e
      simp only [s',if_true]
      exact hr.keep k (fun b hb q=>by
        rcases q with q | q
        · exact (hR b hb).2.2 .p q
        · exact (hR b hb).2.2 .ps q)
    · have hj':j<s.n:=by have:j<s.n+1:=hj;omega
      simp only [s',if_neg e]
      exact (h.rc j hj').keep k (fun b hb=>notS (.c j) b (by simp) (by simp) ⟨hj',hb⟩)
  · by_cases e:j=s.n
    · subst e;simpa [s'] using F
    · have hj':j<s.n:=by have:j<s.n+1:=hj;omega
      simp only [s',if_neg e]
      exact h.fit j hj'
  · by_cases e:j=s.n
    · subst e;simpa [s'] using nu
    · have hj':j<s.n:=by have:j<s.n+1:=hj;omega
      simp only [s',if_neg e]
      exact h.nu j hj'
  · cases ix with
    | p=>exact h.low .p b hb
    | b j=>exact h.low (.b j) b hb
    | ps=>exact (psl b hb).elim (fun q=>h.low .ps b q) fun q=>by have:=h.b0;omega
    | x j =>
      rcases fx j b hb with ⟨_,q⟩ | ⟨_,q⟩
      · exact (hX b q).1
      · exact h.low _ b q
    | c j =>
      rcases fc j b hb with ⟨_,q⟩ | ⟨_,q⟩
      · exact (hR b q).1
      · exact h.low _ b q
  · cases ix with
    | p=>exact h.dead b hb .p q
    | b j=>exact h.dead b hb (.b j) q
    | ps=>exact (psl b q).elim (fun q=>h.dead b hb .ps q) fun q=>by have:=h.dlt b hb;omega
    | x j =>
      rcases fx j b q with ⟨_,q⟩ | ⟨_,q⟩
      · exact (hX b q).2.1 hb
      · exact h.dead b hb _ q
    | c j =>
      rcases fc j b q with ⟨_,q⟩ | ⟨_,q⟩
      · exact (hR b q).2.1 hb
      · exact h.dead b hb _ q
  · rcases hb with q | q
    · exact h.low .p b q
    · exact h.low .ps b q

theorem Stands.madeY {n:Nat} {T G:Nat} {rs:List Int} (h:Stands B0 p K s w) (hK:0≤K) (hs:sizeOk T G rs=true) (hn:n=s.n) (P:MadeY w p B0 (s.bv 4) s.psv (s.bl 4) (pairCells s.L s.R s.n) n T G rs w'):∃ s',Stands B0 p K s' w'∧Goes B0 1 1 1 s w s' w':=by
  subst hn
  obtain ⟨L,R,psv',l,W3,w4,k3,hp,hr,hL,hR,dis,hl,la,o0,r0,l0,oj,k⟩:=P
  obtain ⟨F,e0⟩:=new_fit hs
  have h3:=h.later k3
  have ltL:=xlt hp F.inv.ok
  have ltR:=rlt hr F.rok
  obtain ⟨s1,h1,g1,d1,f1,e1⟩:=h3.entry 4 (by omega) (fun b hb=>⟨by have:=(hl b hb).1;have:=h.b0;omega,(hl b hb).2.1,fun q=>by have:=h.dlt b q;have:=(hl b hb).1;omega,fun ix q=>by have:=h.lt ix b q;have:=(hl b hb).1;omega⟩) la
  have kl:Kep (fun b=>b=p∨l.ownBlock=some b∨(s.bv 4).ownBlock=some b) W3 w4:=by obtain ⟨_,_,_,_,_,_,kk,_⟩:=la;exact kk
  have out:∀ b,w.heap.size≤b→l.ownBlock≠some b→¬ (b=p∨l.ownBlock=some b∨(s.bv 4).ownBlock=some b):=fun b hb hl' q=>by
    rcases q with q | q | q
    · have:=h.lt .p b q;omega
    · exact hl' q
    · have:=h.lt (.b 4) b ⟨by omega,q⟩;omega
  have hX:∀ b,w.heap.size≤b→b<W3.heap.size→l.ownBlock≠some b→B0≤b∧¬ s1.dd b∧∀ ix,¬ s1.F p ix b:=fun b b1 b2 b3=>by
    refine ⟨by have:=h.b0;omega,fun q=>?_,fun ix q=>?_⟩
    · rcases d1 b q with q | q | q
      · have:=h.dlt b q;omega
      · exact b3 q
      · omega
    · rcases f1 ix b q with q | q
      · have:=h.lt ix b q;omega
      · omega
  have en:s1.n=s.n:=by rw [e1]
  have eL:s1.L=s.L:=by rw [e1]
  have eR:s1.R=s.R:=by rw [e1]
  have ep:s1.psv=s.psv:=by rw [e1]
  obtain ⟨s2,h2,g2⟩:=h1.add (L:=L) (R:=R) (psv':=psv') F (by rw [e0];exact hK) (hp.kx kl fun b hb=>out b (hL b hb) (fun q=>(hl b q).2.2.1 hb)) (hr.keep kl fun b hb=>out b (hR b hb) (fun q=>(hl b q).2.2.2 hb))
    (fun b hb=>hX b (hL b hb) (ltL b hb) (fun q=>(hl b q).2.2.1 hb)) (fun b hb=>hX b (hR b hb) (ltR b hb) (fun q=>(hl b q).2.2.2 hb)) dis o0 (by rw [en,eL,eR];exact r0) (by rw [ep];exact l0) oj (by rw [ep];exact k)
  exact ⟨s2,h2,(((h.goes k3).trans g1).trans g2).wide (by omega) (by omega) (by omega)⟩
end

def RvOk (w:World) (v:Value):Prop:=v = .slice none 0 0∨(∃ a:Addr,v = .slice (some a) 0 0)∨∃ rb off rc,∃ rs:List Int,v = .slice (some ⟨rb,off,none⟩) rs.length rc∧(∀ i x,rs[i]? = some x→w.cell? ⟨rb,off+i,none⟩=some (.int .i64 x))∧rs.length≤1048576

theorem RvOk.form {w:World} {v:Value} (h:RvOk w v):∃ a n c,v = .slice a n c:=by
  rcases h with h | ⟨a,h⟩ | ⟨rb,off,rc,rs,h,_⟩
  · exact ⟨_,_,_,h⟩
  · exact ⟨_,_,_,h⟩
  · exact ⟨_,_,_,h⟩

theorem step_on1_yes (w:World) (B0 p:Nat) (K:Int) (s:Sta) (o:OpV) (rb off rc:Nat) (rs:List Int) (hv:o.rv = .slice (some ⟨rb,off,none⟩) rs.length rc) (hc:∀ i x,rs[i]? = some x→w.cell? ⟨rb,off+i,none⟩=some (.int .i64 x)) (hl:rs.length≤1048576) (hs:sizeOk o.A o.B rs=true) (h:Stands B0 p K s w) (hK:0≤K) (hn2:s.n≤4000000) (hes:(s.bl 4).length≤4000000) (hk:o.kd=1) :
    Calls Tryz.prog 8 #[.pointer (some ⟨p,0,none⟩),.agg o.cells] w fun e w'=>e = .returned (.bool true)∧StepPost 1 1 w B0 p K s w':=by
  refine step_new w p _ o _ _ _ hv hk (hide fun W kW=>?_)
  have hW:=h.later kW
  have hcW:∀ i x,rs[i]? = some x→W.cell? ⟨rb,off+i,none⟩=some (.int .i64 x):=fun i x q=>kW.cell (hc i x q) (fun q=>q)
  have hs':=hs
  simp only [sizeOk,inR,Bool.and_eq_true,decide_eq_true_eq] at hs'
  have e1:((o.A.toNat:Nat):Int)=o.A:=by omega
  have e2:((o.B.toNat:Nat):Int)=o.B:=by omega
  refine (made_yes W p B0 (s.bv 4) s.psv (s.bl 4) (pairCells s.L s.R s.n) s.n o rb off rc rs hv hcW hl (hW.cb 4 (by omega)) (hW.rb 4 (by omega)) hW.b0 (fun q=>hW.sep (.b 4) .p p (by simp) ⟨by omega,q⟩ rfl) hes hs hW.c0 hW.rps (fun q=>hW.sep .ps .p p (by simp) q rfl) (fun b q q'=>hW.sep .ps (.b 4) b (by simp) q ⟨by omega,q'⟩) hn2).mono ?_
  rintro e w' ⟨rfl,P⟩
  obtain ⟨s',i1,i2⟩:=hW.madeY hK (by rw [e1,e2];exact hs) rfl P
  exact ⟨rfl,StepPost.after h kW (by omega) (by omega) i1 i2⟩

theorem step_on1 (w:World) (B0 p:Nat) (K:Int) (s:Sta) (o:OpV) (hrv:RvOk w o.rv) (h:Stands B0 p K s w) (hK:0≤K) (hn2:s.n≤4000000) (hes:(s.bl 4).length≤4000000) (hk:o.kd=1) :
    Calls Tryz.prog 8 #[.pointer (some ⟨p,0,none⟩),.agg o.cells] w fun e w'=>e = .returned (.bool true)∧StepPost 0 1 w B0 p K s w':=by
  rcases hrv with hv | ⟨ad,hv⟩ | ⟨rb,off,rc,rs,hv,hc,hl⟩
  · refine step_new w p _ o _ _ _ hv hk (hide fun W kW=>?_)
    refine (made_nil W p o hv).mono ?_
    rintro e w' ⟨rfl,k⟩
    exact ⟨rfl,(StepPost.same h (kW.trans k)).wide (by omega) (by omega)⟩
  · refine step_new w p _ o _ _ _ hv hk (hide fun W kW=>?_)
    have hW:=h.later kW
    refine (made_empty W p B0 (s.bv 4) (s.bl 4) o ad hv (hW.cb 4 (by omega)) (hW.rb 4 (by omega)) hW.b0 (fun q=>hW.sep (.b 4) .p p (by simp) ⟨by omega,q⟩ rfl) hes).mono ?_
    rintro e w' ⟨rfl,P⟩
    obtain ⟨s',i1,i2⟩:=hW.laid 4 (by omega) P
    exact ⟨rfl,(StepPost.after h kW (by omega) (by omega) i1 i2).wide (by omega) (by omega)⟩
  · cases hs:sizeOk o.A o.B rs with
    | false =>
      refine step_new w p _ o _ _ _ hv hk (hide fun W kW=>?_)
      have hW:=h.later kW
      have hcW:∀ i x,rs[i]? = some x→W.cell? ⟨rb,off+i,none⟩=some (.int .i64 x):=fun i x q=>kW.cell (hc i x q) (fun q=>q)
      refine (made_no W p B0 (s.bv 4) (s.bl 4) o rb off rc rs hv hcW hl (hW.cb 4 (by omega)) (hW.rb 4 (by omega)) hW.b0 (fun q=>hW.sep (.b 4) .p p (by simp) ⟨by omega,q⟩ rfl) hes hs).mono ?_
      rintro e w' ⟨rfl,P⟩
      obtain ⟨s',i1,i2⟩:=hW.laid 4 (by omega) P
      exact ⟨rfl,(StepPost.after h kW (by omega) (by omega) i1 i2).wide (by omega) (by omega)⟩
    | true =>
      refine (step_on1_yes w B0 p K s o rb off rc rs hv hc hl hs h hK hn2 hes hk).mono ?_
      rintro e w' ⟨rfl,P⟩
      exact ⟨rfl,P.wide (by omega) (by omega)⟩

theorem Stands.at {B0 p:Nat} {K:Int} {s:Sta} {w:World} (h:Stands B0 p K s w) (k:Nat) (hk:k<s.n):∃ pb pc,w.cell? ⟨p,0,none⟩=some (.slice (some ⟨pb,0,none⟩) s.n pc)∧w.cell? ⟨pb,k * 2,none⟩=some (.pointer (some ⟨(s.L k).x,0,none⟩))∧w.cell? ⟨pb,k * 2+1,none⟩=some (.pointer (some ⟨(s.R k).c,0,none⟩)):=by
  obtain ⟨pb,pc,hpv,_,_⟩:=h.rps.form (by omega)
  have r:=h.rps
  rw [hpv] at r
  refine ⟨pb,pc,by rw [h.c0.cell,hpv],?_,?_⟩
  · rw [r.cellAt (k * 2) (by omega)];exact (pairCells_at s.L s.R s.n k hk).1
  · rw [r.cellAt (k * 2+1) (by omega)];exact (pairCells_at s.L s.R s.n k hk).2

theorem brought_at (w:World) (B0 p:Nat) (K:Int) (s:Sta) (h:Stands B0 p K s w) (k:Nat) (hkn:k<s.n) (o:OpV) (ra:Option Addr) (rn rc:Nat) (hrv:o.rv = .slice ra rn rc) (hk:o.kd=2∨o.kd=3∨o.kd=4∨o.kd=5∨o.kd=7∨o.kd=8) (W:World) (kW:Kep non w W) :
    Calls Tryz.prog 13 #[.agg #[.pointer (some ⟨(s.L k).x,0,none⟩),.pointer (some ⟨(s.R k).c,0,none⟩)],.agg o.cells] W fun e w'=>e = .returned (.bool true)∧StepPost 0 0 w B0 p K s w':=by
  have hW:=h.later kW
  refine (brought_any W (s.L k) (s.R k) (s.m k) (s.r k) o ra rn rc hrv (hW.rx k hkn) (hW.rc k hkn) (hW.fit k hkn) (fun b hb hb'=>hW.sep (.x k) (.c k) b (by simp) ⟨hkn,hb⟩ ⟨hkn,hb'⟩) hk).mono ?_
  rintro e w' ⟨rfl,m',r',P,F,hnu⟩
  have:=h.nu k hkn
  obtain ⟨s',i1,i2,_⟩:=hW.pair k hkn P F (show K≤K+1 by omega) (by omega)
  exact ⟨rfl,StepPost.after h kW (by omega) (by omega) i1 i2⟩

theorem step_other (w:World) (B0 p:Nat) (K:Int) (s:Sta) (o:OpV) (hrv:RvOk w o.rv) (h:Stands B0 p K s w) (hn2:s.n≤4000000) (hal:(s.bl 0).length≤4000000) (hM:-9223372036854775808≤o.M∧o.M≤9223372036854775807) (hk:o.kd≤8) (h1:o.kd≠1) :
    Calls Tryz.prog 8 #[.pointer (some ⟨p,0,none⟩),.agg o.cells] w fun e w'=>e = .returned (.bool true)∧StepPost 0 0 w B0 p K s w':=by
  obtain ⟨ra,rn,rc,hf⟩:=hrv.form
  by_cases hn:s.n=0
  · obtain ⟨pa,pc,hpv⟩:=row_form h.rps
    have c0:=h.c0.cell
    rw [hpv,hn] at c0
    exact step_none w p _ o ra rn rc hf pa pc c0 h1 (hide fun W k=>StepPost.same h k)
  obtain ⟨k,hpk,hkn⟩:=pick_fn o.M s.n hM.1 hM.2 (by omega) (by omega)
  obtain ⟨pb,pc,c0,x0,x1⟩:=h.at k hkn
  have OA:OpAt w p o (s.L k).x (s.R k).c:=⟨⟨ra,rn,rc,hf⟩,pb,pc,s.n,k,c0,x0,x1,hkn,hpk⟩
  by_cases h0:o.kd≤0
  · exact step_kind0 w p _ o _ _ OA h0 (hide fun W kW=>StepPost.same h kW)
  have hc:o.kd=2∨o.kd=3∨o.kd=4∨o.kd=5∨o.kd=6∨o.kd=7∨o.kd=8:=by omega
  rcases hc with q | q | q | q | q | q | q
  · exact step_kind2 w p _ o _ _ OA q (hide fun W kW=>brought_at w B0 p K s h k hkn o ra rn rc hf (by omega) W kW)
  · exact step_kind3 w p _ o _ _ OA q (hide fun W kW=>brought_at w B0 p K s h k hkn o ra rn rc hf (by omega) W kW)
  · exact step_kind4 w p _ o _ _ OA q (hide fun W kW=>brought_at w B0 p K s h k hkn o ra rn rc hf (by omega) W kW)
  · exact step_kind5 w p _ o _ _ OA q (hide fun W kW=>brought_at w B0 p K s h k hkn o ra rn rc hf (by omega) W kW)
  · refine step_kind6 w p _ o _ _ OA q (hide fun W kW=>?_)
    refine (acc_at W B0 p K s (h.later kW) k hkn o.A hal).mono ?_
    rintro e w' ⟨rfl,s',i1,i2⟩
    exact ⟨rfl,StepPost.after h kW (by omega) (by omega) i1 i2⟩
  · exact step_kind7 w p _ o _ _ OA q (hide fun W kW=>brought_at w B0 p K s h k hkn o ra rn rc hf (by omega) W kW)
  · exact step_kind8 w p _ o _ _ OA q (hide fun W kW=>brought_at w B0 p K s h k hkn o ra rn rc hf (by omega) W kW)
end

section
open Go.RowKit

set_option maxRecDepth 100000 in
set_option maxHeartbeats 4000000 in
theorem rest_any (D:Nat→Prop) (w:World) (p B0:Nat) (v3:Value) (vs3:List Value) (v4:Value) (vs4:List Value) (c3:w.cell? ⟨p,4,none⟩=some v3) (hv3:w.ownsRow B0 124 1 v3 vs3.length vs3) (hn3:vs3.length≤4000000) (hm3:∀ i (hi:i<vs3.length),Marked D w vs3[i] (mark 8 i) 8) (c4:w.cell? ⟨p,5,none⟩=some v4) (hv4:w.ownsRow B0 126 1 v4 vs4.length vs4) (hn4:vs4.length≤4000000) (hm4:∀ i (hi:i<vs4.length),Marked D w vs4[i] (mark 1 i) 1) :
    Calls Tryz.prog 22 #[.pointer (some ⟨p,1,none⟩)] w fun e w'=>e = .returned (.bool true)∧w'=w:=by
  obtain ⟨ea3,ec3,hw3⟩:=row_form hv3
  subst hw3
  have HE3:=hide hv3
  have HM3:=hide hm3
  clear hv3 hm3
  obtain ⟨ea4,ec4,hw4⟩:=row_form hv4
  subst hw4
  have HE4:=hide hv4
  have HM4:=hide hm4
  clear hv4 hm4
  go_enter Tryz.func22,Tryz.ntmps22
  go_wp2
  go_loop [3] (fun i=>∃ k:Nat,k≤vs3.length∧i = .int .i64 k) (fun i=>vs3.length - (intOf i).toNat)
  case atStart=>exact ⟨0,by omega,rfl⟩
  case round =>
    obtain ⟨i,hi,rfl⟩:=hrel
    by_cases hlt:i<vs3.length
    · obtain ⟨eb,ec',he,ci⟩:=entry_at HE3.out i hlt
      simp only [Value.slice.injEq,true_and] at he
      obtain ⟨rfl,rfl⟩:=he
      obtain ⟨nb,hnb,hat⟩:=(HM3.out i hlt).at
      rw [hnb] at ci
      have HA:=hide hat
      clear hat hnb
      go_wp2
      go_loop [4] (fun x=>∃ k:Nat,k≤4∧x = .int .i64 k) (fun x=>4 - (intOf x).toNat)
      case atStart=>exact ⟨0,by omega,rfl⟩
      case round =>
        obtain ⟨k,hk,rfl⟩:=hrel
        by_cases hk4:k<4
        · obtain ⟨a,n,c,ck,hbn,hj⟩:=HA.out k hk4
          have HJ:=hide hj
          clear hj
          have hk4':(k:Int)<4:=by omega
          go_wp2
          go_loop [5] (fun x=>∃ j:Nat,j≤n∧x = .int .i64 j) (fun x=>n - (intOf x).toNat)
          case atStart=>exact ⟨0,by omega,rfl⟩
          case round =>
            obtain ⟨j,hj,rfl⟩:=hrel
            by_cases hjn:j<n
            · obtain ⟨g,rfl,hcell⟩:=HJ.out j hjn
              have y0:w.cell? ⟨g,j * 8,none⟩=some (.int .i64 (-7070 - (i:Int))):=hcell 0 _ rfl
              have y1:w.cell? ⟨g,j * 8+1,none⟩=some (.int .i64 0):=hcell 1 _ rfl
              have y2:w.cell? ⟨g,j * 8+2,none⟩=some (.int .i64 0):=hcell 2 _ rfl
              have y3:w.cell? ⟨g,j * 8+3,none⟩=some (.int .i64 0):=hcell 3 _ rfl
              have y4:w.cell? ⟨g,j * 8+4,none⟩=some (.int .i64 0):=hcell 4 _ rfl
              have y5:w.cell? ⟨g,j * 8+5,none⟩=some (.int .i64 0):=hcell 5 _ rfl
              have y6:w.cell? ⟨g,j * 8+6,none⟩=some (.int .i64 0):=hcell 6 _ rfl
              have y7:w.cell? ⟨g,j * 8+7,none⟩=some (.int .i64 0):=hcell 7 _ rfl
              clear hcell
              go_wp2
              exact ⟨⟨j+1,by omega,by go_num⟩,by simp [intOf];omega⟩
            · go_wp2
              exact ⟨⟨k+1,by omega,by go_num⟩,by simp [intOf];omega⟩
        · go_wp2
          exact ⟨⟨i+1,by omega,by go_num⟩,by simp [intOf];omega⟩
    · go_wp2
      go_loop [6] (fun i=>∃ k:Nat,k≤vs4.length∧i = .int .i64 k) (fun i=>vs4.length - (intOf i).toNat)
      case atStart=>exact ⟨0,by omega,rfl⟩
      case round =>
        obtain ⟨i,hi,rfl⟩:=hrel
        by_cases hlt:i<vs4.length
        · obtain ⟨eb,ec',he,ci⟩:=entry_at HE4.out i hlt
          simp only [Value.slice.injEq,true_and] at he
          obtain ⟨rfl,rfl⟩:=he
          obtain ⟨nb,hnb,hat⟩:=(HM4.out i hlt).at
          rw [hnb] at ci
          have HA:=hide hat
          clear hat hnb
          go_wp2
          go_loop [7] (fun x=>∃ k:Nat,k≤4∧x = .int .i64 k) (fun x=>4 - (intOf x).toNat)
          case atStart=>exact ⟨0,by omega,rfl⟩
          case round =>
            obtain ⟨k,hk,rfl⟩:=hrel
            by_cases hk4:k<4
            · obtain ⟨a,n,c,ck,hbn,hj⟩:=HA.out k hk4
              have HJ:=hide hj
              clear hj
              have hk4':(k:Int)<4:=by omega
              go_wp2
              go_loop [8] (fun x=>∃ j:Nat,j≤n∧x = .int .i64 j) (fun x=>n - (intOf x).toNat)
              case atStart=>exact ⟨0,by omega,rfl⟩
              case round =>
                obtain ⟨j,hj,rfl⟩:=hrel
                by_cases hjn:j<n
                · obtain ⟨g,rfl,hcell⟩:=HJ.out j hjn
                  have y0:w.cell? ⟨g,j,none⟩=some (.int .i64 (-7070 - (i:Int))):=by simpa using hcell 0 _ rfl
                  clear hcell
                  go_wp2
                  exact ⟨⟨j+1,by omega,by go_num⟩,by simp [intOf];omega⟩
                · go_wp2
                  exact ⟨⟨k+1,by omega,by go_num⟩,by simp [intOf];omega⟩
            · go_wp2
              exact ⟨⟨i+1,by omega,by go_num⟩,by simp [intOf];omega⟩
        · go_wp2
          go_ret
          exact ⟨rfl,rfl⟩

set_option maxRecDepth 100000 in
set_option maxHeartbeats 4000000 in
theorem bookWhole_any (D:Nat→Prop) (w:World) (p B0:Nat) (v0:Value) (vs0:List Value) (v1:Value) (vs1:List Value) (v2:Value) (vs2:List Value) (v3:Value) (vs3:List Value) (v4:Value) (vs4:List Value) (c0:w.cell? ⟨p,1,none⟩=some v0) (hv0:w.ownsRow B0 60 1 v0 vs0.length vs0) (hn0:vs0.length≤4000000) (hm0:∀ i (hi:i<vs0.length),Marked D w vs0[i] (mark 5 i) 5) (c1:w.cell? ⟨p,2,none⟩=some v1) (hv1:w.ownsRow B0 65 1 v1 vs1.length vs1) (hn1:vs1.length≤4000000) (hm1:∀ i (hi:i<vs1.length),Marked D w vs1[i] (mark 6 i) 6) (c2:w.cell? ⟨p,3,none⟩=some v2) (hv2:w.ownsRow B0 69 1 v2 vs2.length vs2) (hn2:vs2.length≤4000000) (hm2:∀ i (hi:i<vs2.length),Marked D w vs2[i] (mark 3 i) 3) (c3:w.cell? ⟨p,4,none⟩=some v3) (hv3:w.ownsRow B0 124 1 v3 vs3.length vs3) (hn3:vs3.length≤4000000) (hm3:∀ i (hi:i<vs3.length),Marked D w vs3[i] (mark 8 i) 8) (c4:w.cell? ⟨p,5,none⟩=some v4) (hv4:w.ownsRow B0 126 1 v4 vs4.length vs4) (hn4:vs4.length≤4000000) (hm4:∀ i (hi:i<vs4.length),Marked D w vs4[i] (mark 1 i) 1) :
    Calls Tryz.prog 9 #[.pointer (some ⟨p,1,none⟩)] w fun e w'=>e = .returned (.bool true)∧w'=w:=by
  have HR:=hide (rest_any D w p B0 v3 vs3 v4 vs4 c3 hv3 hn3 hm3 c4 hv4 hn4 hm4)
  clear hv3 hm3 hv4 hm4 c3 c4
  obtain ⟨ea0,ec0,hw0⟩:=row_form hv0
  subst hw0
  have HE0:=hide hv0
  have HM0:=hide hm0
  clear hv0 hm0
  obtain ⟨ea1,ec1,hw1⟩:=row_form hv1
  subst hw1
  have HE1:=hide hv1
  have HM1:=hide hm1
  clear hv1 hm1
  obtain ⟨ea2,ec2,hw2⟩:=row_form hv2
  subst hw2
  have HE2:=hide hv2
  have HM2:=hide hm2
  clear hv2 hm2
  go_enter Tryz.func9,Tryz.ntmps9
  go_wp2
  go_loop [3] (fun i=>∃ k:Nat,k≤vs0.length∧i = .int .i64 k) (fun i=>vs0.length - (intOf i).toNat)
  case atStart=>exact ⟨0,by omega,rfl⟩
  case round =>
    obtain ⟨i,hi,rfl⟩:=hrel
    by_cases hlt:i<vs0.length
    · obtain ⟨eb,ec',he,ci⟩:=entry_at HE0.out i hlt
      simp only [Value.slice.injEq,true_and] at he
      obtain ⟨rfl,rfl⟩:=he
      obtain ⟨nb,hnb,hat⟩:=(HM0.out i hlt).at
      rw [hnb] at ci
      have HA:=hide hat
      clear hat hnb
      go_wp2
      go_loop [4] (fun x=>∃ k:Nat,k≤4∧x = .int .i64 k) (fun x=>4 - (intOf x).toNat)
      case atStart=>exact ⟨0,by omega,rfl⟩
      case round =>
        obtain ⟨k,hk,rfl⟩:=hrel
        by_cases hk4:k<4
        · obtain ⟨a,n,c,ck,hbn,hj⟩:=HA.out k hk4
          have HJ:=hide hj
          clear hj
          have hk4':(k:Int)<4:=by omega
          go_wp2
          go_loop [5] (fun x=>∃ j:Nat,j≤n∧x = .int .i64 j) (fun x=>n - (intOf x).toNat)
          case atStart=>exact ⟨0,by omega,rfl⟩
          case round =>
            obtain ⟨j,hj,rfl⟩:=hrel
            by_cases hjn:j<n
            · obtain ⟨g,rfl,hcell⟩:=HJ.out j hjn
              have y0:w.cell? ⟨g,j * 5,none⟩=some (.int .i64 (-7070 - (i:Int))):=hcell 0 _ rfl
              have y1:w.cell? ⟨g,j * 5+1,none⟩=some (.int .i64 0):=hcell 1 _ rfl
              have y2:w.cell? ⟨g,j * 5+2,none⟩=some (.int .i64 0):=hcell 2 _ rfl
              have y3:w.cell? ⟨g,j * 5+3,none⟩=some (.int .i64 0):=hcell 3 _ rfl
              have y4:w.cell? ⟨g,j * 5+4,none⟩=some (.int .i64 0):=hcell 4 _ rfl
              clear hcell
              go_wp2
              exact ⟨⟨j+1,by omega,by go_num⟩,by simp [intOf];omega⟩
            · go_wp2
              exact ⟨⟨k+1,by omega,by go_num⟩,by simp [intOf];omega⟩
        · go_wp2
          exact ⟨⟨i+1,by omega,by go_num⟩,by simp [intOf];omega⟩
    · go_wp2
      go_loop [6] (fun i=>∃ k:Nat,k≤vs1.length∧i = .int .i64 k) (fun i=>vs1.length - (intOf i).toNat)
      case atStart=>exact ⟨0,by omega,rfl⟩
      case round =>
        obtain ⟨i,hi,rfl⟩:=hrel
        by_cases hlt:i<vs1.length
        · obtain ⟨eb,ec',he,ci⟩:=entry_at HE1.out i hlt
          simp only [Value.slice.injEq,true_and] at he
          obtain ⟨rfl,rfl⟩:=he
          obtain ⟨nb,hnb,hat⟩:=(HM1.out i hlt).at
          rw [hnb] at ci
          have HA:=hide hat
          clear hat hnb
          go_wp2
          go_loop [7] (fun x=>∃ k:Nat,k≤4∧x = .int .i64 k) (fun x=>4 - (intOf x).toNat)
          case atStart=>exact ⟨0,by omega,rfl⟩
          case round =>
            obtain ⟨k,hk,rfl⟩:=hrel
            by_cases hk4:k<4
            · obtain ⟨a,n,c,ck,hbn,hj⟩:=HA.out k hk4
              have HJ:=hide hj
              clear hj
              have hk4':(k:Int)<4:=by omega
              go_wp2
              go_loop [8] (fun x=>∃ j:Nat,j≤n∧x = .int .i64 j) (fun x=>n - (intOf x).toNat)
              case atStart=>exact ⟨0,by omega,rfl⟩
              case round =>
                obtain ⟨j,hj,rfl⟩:=hrel
                by_cases hjn:j<n
                · obtain ⟨g,rfl,hcell⟩:=HJ.out j hjn
                  have y0:w.cell? ⟨g,j * 6,none⟩=some (.int .i64 (-7070 - (i:Int))):=hcell 0 _ rfl
                  have y1:w.cell? ⟨g,j * 6+1,none⟩=some (.int .i64 0):=hcell 1 _ rfl
                  have y2:w.cell? ⟨g,j * 6+2,none⟩=some (.int .i64 0):=hcell 2 _ rfl
                  have y3:w.cell? ⟨g,j * 6+3,none⟩=some (.int .i64 0):=hcell 3 _ rfl
                  have y4:w.cell? ⟨g,j * 6+4,none⟩=some (.int .i64 0):=hcell 4 _ rfl
                  have y5:w.cell? ⟨g,j * 6+5,none⟩=some (.int .i64 0):=hcell 5 _ rfl
                  clear hcell
                  go_wp2
                  exact ⟨⟨j+1,by omega,by go_num⟩,by simp [intOf];omega⟩
                · go_wp2
                  exact ⟨⟨k+1,by omega,by go_num⟩,by simp [intOf];omega⟩
            · go_wp2
              exact ⟨⟨i+1,by omega,by go_num⟩,by simp [intOf];omega⟩
        · go_wp2
          go_loop [9] (fun i=>∃ k:Nat,k≤vs2.length∧i = .int .i64 k) (fun i=>vs2.length - (intOf i).toNat)
          case atStart=>exact ⟨0,by omega,rfl⟩
          case round =>
            obtain ⟨i,hi,rfl⟩:=hrel
            by_cases hlt:i<vs2.length
            · obtain ⟨eb,ec',he,ci⟩:=entry_at HE2.out i hlt
              simp only [Value.slice.injEq,true_and] at he
              obtain ⟨rfl,rfl⟩:=he
              obtain ⟨nb,hnb,hat⟩:=(HM2.out i hlt).at
              rw [hnb] at ci
              have HA:=hide hat
              clear hat hnb
              go_wp2
              go_loop [10] (fun x=>∃ k:Nat,k≤4∧x = .int .i64 k) (fun x=>4 - (intOf x).toNat)
              case atStart=>exact ⟨0,by omega,rfl⟩
              case round =>
                obtain ⟨k,hk,rfl⟩:=hrel
                by_cases hk4:k<4
                · obtain ⟨a,n,c,ck,hbn,hj⟩:=HA.out k hk4
                  have HJ:=hide hj
                  clear hj
                  have hk4':(k:Int)<4:=by omega
                  go_wp2
                  go_loop [11] (fun x=>∃ j:Nat,j≤n∧x = .int .i64 j) (fun x=>n - (intOf x).toNat)
                  case atStart=>exact ⟨0,by omega,rfl⟩
                  case round =>
                    obtain ⟨j,hj,rfl⟩:=hrel
                    by_cases hjn:j<n
                    · obtain ⟨g,rfl,hcell⟩:=HJ.out j hjn
                      have y0:w.cell? ⟨g,j * 3,none⟩=some (.int .i64 (-7070 - (i:Int))):=hcell 0 _ rfl
                      have y1:w.cell? ⟨g,j * 3+1,none⟩=some (.int .i64 0):=hcell 1 _ rfl
                      have y2:w.cell? ⟨g,j * 3+2,none⟩=some (.int .i64 0):=hcell 2 _ rfl
                      clear hcell
                      go_wp2
                      exact ⟨⟨j+1,by omega,by go_num⟩,by simp [intOf];omega⟩
                    · go_wp2
                      exact ⟨⟨k+1,by omega,by go_num⟩,by simp [intOf];omega⟩
                · go_wp2
                  exact ⟨⟨i+1,by omega,by go_num⟩,by simp [intOf];omega⟩
            · go_wp2_with fail
              refine HR.out.mono ?_
              rintro e w' ⟨rfl,rfl⟩
              go_wp2
              go_ret
              exact ⟨rfl,rfl⟩
end

end Go.Proofs.YtcfoobhihhndjaaGreat
