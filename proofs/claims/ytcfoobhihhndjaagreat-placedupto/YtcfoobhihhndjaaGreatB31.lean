
import Derived.Test.YtcfoobhihhndjaaGreatB29
import Derived.Test.YtcfoobhihhndjaaGreatB30
namespace Go.Proofs.YtcfoobhihhndjaaGreat

section
open Go.RowKit

def PL.X (L:PL) (m:Mt) (b:Nat):Prop:=L.S m b∨b=L.rb∨b=L.bb

structure PairPost (V:Nat→Prop) (w:World) (L:PL) (R:RL) (m m':Mt) (r':Rm) (w':World):Prop where
  kp:Kep (fun b=>L.S m b∨R.S b) w w'
  rep:∃ L' R',L'.x=L.x∧R'.c=R.c∧(∀ b,L'.X m' b→L.X m b∨w.heap.size≤b)∧(∀ b,R'.S b→R.S b∨w.heap.size≤b)∧(∀ b,L'.X m' b→¬ R'.S b)∧PRep w' L' m'∧RRep w' R' r'∧∀ b,V b→¬ L'.X m' b∧¬ R'.S b

theorem xlt {w:World} {L:PL} {m:Mt} {N:Int} (h:PRep w L m) (ok:m.Ok N):∀ b,L.X m b→b<w.heap.size:=by
  rintro b (q | rfl | rfl)
  · exact h.lt ok.T1 ok.G1 b q
  · exact (h.rblt ok.H1).1
  · exact (h.rblt ok.H1).2
theorem rlt {w:World} {R:RL} {r:Rm} {K:Int} (h:RRep w R r) (ok:r.Ok K):∀ b,R.S b→b<w.heap.size:=h.lt ok.T1 ok.G1 ok.H1

theorem PRep.kx {S:Nat→Prop} {w w':World} {L:PL} {m:Mt} (h:PRep w L m) (k:Kep S w w') (hs:∀ b,L.X m b→¬ S b):PRep w' L m :=
  h.keep k (fun b q=>hs b (.inl q)) (hs _ (.inr (.inl rfl))) (hs _ (.inr (.inr rfl)))

theorem pair_post {V:Nat→Prop} {w W0 w1 w2:World} {L L':PL} {R:RL} {m m':Mt} {r r':Rm} {N N' K:Int} (k0:Kep non w W0) (ok:m.Ok N) (ok':m'.Ok N') (okr:r.Ok K) (hp:PRep w L m) (hr:RRep w R r) (dis:∀ b,L.X m b→¬ R.S b)
    (kP:Kep (L.S m) W0 w1) (hL:L'.x=L.x∧L'.rb=L.rb∧L'.bb=L.bb) (fL:∀ b,L'.S m' b→L.S m b∨W0.heap.size≤b) (p1:PRep w1 L' m') (hV:∀ b,V b→W0.heap.size≤b∧b<w1.heap.size∧¬ L'.S m' b) (Q:RPost w1 R r' w2):PairPost V w L R m m' r' w2:=by
  obtain ⟨R',b1,b2,b3⟩:=Q.rep
  obtain ⟨a1,a2,a3⟩:=hL
  have s0:=k0.size
  have s1:=kP.size
  have ltL:=xlt hp ok
  have ltR:=rlt hr okr
  have ltL':=xlt p1 ok'
  have fX:∀ b,L'.X m' b→L.X m b∨W0.heap.size≤b:=fun b hb=>by
    rcases hb with q | q | q
    · exact (fL b q).imp .inl id
    · exact .inl (.inr (.inl (q.trans a2)))
    · exact .inl (.inr (.inr (q.trans a3)))
  have dis1:∀ b,L'.X m' b→¬ R.S b:=fun b hb hb'=>by
    rcases fX b hb with h | h
    · exact dis b h hb'
    · have:=ltR b hb';omega
  refine ⟨?_,L',R',a1,b1,fun b hb=>?_,fun b hb=>?_,fun b hb hb'=>?_,p1.kx Q.kp dis1,b3,fun b hb=>⟨fun q=>?_,fun q=>?_⟩⟩
  · exact (k0.none.trans' kP (fun i hi=>.inl (.inl hi))).trans' Q.kp (fun i hi=>.inl (.inr hi))
  · exact (fX b hb).imp id fun h=>by omega
  · exact (b2 b hb).imp id fun h=>by omega
  · rcases b2 b hb' with h' | h'
    · exact dis1 b hb h'
    · have:=ltL' b hb;omega
  · obtain ⟨v1,v2,v3⟩:=hV b hb
    rcases q with q | q | q
    · exact v3 q
    · have:=ltL b (.inr (.inl (q.trans a2)));omega
    · have:=ltL b (.inr (.inr (q.trans a3)));omega
  · obtain ⟨v1,v2,v3⟩:=hV b hb
    rcases b2 b q with q | q
    · have:=ltR b q;omega
    · omega

inductive Ix where
  | p
  | ps
  | b (i:Nat)
  | x (i:Nat)
  | c (i:Nat)

structure Sta where
  n:Nat
  L:Nat→PL
  R:Nat→RL
  m:Nat→Mt
  r:Nat→Rm
  psv:Value
  bv:Nat→Value
  bl:Nat→List Value
  dd:Nat→Prop

def Sta.F (s:Sta) (p:Nat) (ix:Ix) (b:Nat):Prop :=
  match ix with
  | .p=>b=p
  | .ps=>s.psv.ownBlock=some b
  | .b i=>i<5∧(s.bv i).ownBlock=some b
  | .x i=>i<s.n∧(s.L i).X (s.m i) b
  | .c i=>i<s.n∧(s.R i).S b

def bT:Nat→TypeId
  | 0=>60
  | 1=>65
  | 2=>69
  | 3=>124
  | _=>126
def bZ:Nat→Nat
  | 0=>5
  | 1=>6
  | 2=>3
  | 3=>8
  | _=>1

def pairCells (L:Nat→PL) (R:Nat→RL):Nat→List Value
  | 0=>[]
  | k+1=>pairCells L R k ++ [.pointer (some ⟨(L k).x,0,none⟩),.pointer (some ⟨(R k).c,0,none⟩)]

theorem pairCells_congr {L L':Nat→PL} {R R':Nat→RL}:∀ n,(∀ i,i<n→(L' i).x=(L i).x∧(R' i).c=(R i).c)→pairCells L' R' n=pairCells L R n
  | 0,_=>rfl
  | k+1,h=>by
    simp only [pairCells]
    rw [pairCells_congr k (fun i hi=>h i (by omega)),(h k (by omega)).1,(h k (by omega)).2]

theorem pairCells_length (L:Nat→PL) (R:Nat→RL) (n:Nat):(pairCells L R n).length=n * 2:=by
  induction n with
  | zero=>rfl
  | succ k ih=>simp [pairCells,ih];omega

theorem pairCells_at (L:Nat→PL) (R:Nat→RL) (n i:Nat) (hi:i<n):(pairCells L R n)[i * 2]? = some (.pointer (some ⟨(L i).x,0,none⟩))∧(pairCells L R n)[i * 2+1]? = some (.pointer (some ⟨(R i).c,0,none⟩)):=by
  induction n with
  | zero=>omega
  | succ k ih =>
    have hl:=pairCells_length L R k
    simp only [pairCells]
    by_cases e:i=k
    · subst e
      rw [List.getElem?_append_right (by omega),List.getElem?_append_right (by omega),hl]
      simp
    · have:=ih (by omega)
      rw [List.getElem?_append_left (by omega),List.getElem?_append_left (by omega)]
      exact this

structure Stands (B0 p:Nat) (K:Int) (s:Sta) (w:World):Prop where
  b0:B0≤w.heap.size
  c0:Own w ⟨p,0,none⟩ s.psv
  cb:∀ i,i<5→Own w ⟨p,i+1,none⟩ (s.bv i)
  rps:w.ownsRow B0 48 2 s.psv s.n (pairCells s.L s.R s.n)
  rb:∀ i,i<5→w.ownsRow B0 (bT i) 1 (s.bv i) (s.bl i).length (s.bl i)
  rx:∀ i,i<s.n→PRep w (s.L i) (s.m i)
  rc:∀ i,i<s.n→RRep w (s.R i) (s.r i)
  fit:∀ i,i<s.n→Fit (s.m i) (s.r i)
  nu:∀ i,i<s.n→(s.m i).nu≤K
  sep:∀ i j b,i≠j→s.F p i b→¬ s.F p j b
  low:∀ i b,s.F p i b→B0≤b
  dead:∀ b,s.dd b→∀ i,¬ s.F p i b
  dlt:∀ b,s.dd b→b<w.heap.size
  mrk:∀ i,i<5→∀ k (hk:k<(s.bl i).length),Marked s.dd w (s.bl i)[k] (mark (bZ i) k) (bZ i)

structure Goes (B0 a d e:Nat) (s:Sta) (w:World) (s':Sta) (w':World):Prop where
  nlo:s.n+a≤s'.n
  nhi:s'.n≤s.n+d
  ln:∀ i,(s'.bl i).length≤(s.bl i).length+e
  bel:Below B0 w w'
  dd:∀ b,s.dd b→w'.heap[b]? = w.heap[b]?∧s'.dd b

section
variable {B0 p:Nat} {K K':Int} {s s' s'':Sta} {w w' w'':World}

theorem Goes.trans {a d e a' d' e':Nat} (h:Goes B0 a d e s w s' w') (k:Goes B0 a' d' e' s' w' s'' w''):Goes B0 (a+a') (d+d') (e+e') s w s'' w'' :=
  ⟨by have:=h.nlo;have:=k.nlo;omega,by have:=h.nhi;have:=k.nhi;omega,fun i=>by have:=h.ln i;have:=k.ln i;omega,h.bel.trans k.bel,fun b hb=>⟨((k.dd b (h.dd b hb).2).1).trans (h.dd b hb).1,(k.dd b (h.dd b hb).2).2⟩⟩
theorem Goes.wide {a d e a' d' e':Nat} (h:Goes B0 a d e s w s' w') (ha:a'≤a) (hd:d≤d') (he:e≤e'):Goes B0 a' d' e' s w s' w' :=
  ⟨by have:=h.nlo;omega,by have:=h.nhi;omega,fun i=>by have:=h.ln i;omega,h.bel,h.dd⟩

theorem Stands.lt (h:Stands B0 p K s w):∀ i b,s.F p i b→b<w.heap.size:=by
  intro i b hb
  cases i with
  | p=>obtain rfl:b=p:=hb;exact h.c0.lt
  | ps=>exact (h.rps.lt b hb).2
  | b i=>exact ((h.rb i hb.1).lt b hb.2).2
  | x i=>exact xlt (h.rx i hb.1) (h.fit i hb.1).inv.ok b hb.2
  | c i=>exact rlt (h.rc i hb.1) (h.fit i hb.1).rok b hb.2

theorem Stands.later (h:Stands B0 p K s w) (k:Kep non w w'):Stands B0 p K s w' :=
  ⟨Nat.le_trans h.b0 k.size,h.c0.kep k (fun q=>q),fun i hi=>(h.cb i hi).kep k (fun q=>q),ownsRow_kep h.rps k (fun _ _ q=>q),fun i hi=>ownsRow_kep (h.rb i hi) k (fun _ _ q=>q),fun i hi=>(h.rx i hi).later k,fun i hi=>(h.rc i hi).later k,h.fit,h.nu,h.sep,h.low,h.dead,fun b hb=>Nat.lt_of_lt_of_le (h.dlt b hb) k.size,
    fun i hi j hj=>(h.mrk i hi j hj).keep (mark_pos _ _) k (fun _ _ q=>q) (fun _ _ q=>q)⟩
theorem Stands.goes (h:Stands B0 p K s w) (k:Kep non w w'):Goes B0 0 0 0 s w s w' :=
  ⟨by omega,by omega,fun i=>by omega,k.below h.b0 (fun _ q=>q.elim),fun b hb=>⟨k.block b (h.dlt b hb) (fun q=>q),hb⟩⟩
theorem Stands.mono (h:Stands B0 p K s w) (hK:K≤K'):Stands B0 p K' s w :=
  ⟨h.b0,h.c0,h.cb,h.rps,h.rb,h.rx,h.rc,h.fit,fun i hi=>Int.le_trans (h.nu i hi) hK,h.sep,h.low,h.dead,h.dlt,h.mrk⟩

theorem sep_upd {F F':Ix→Nat→Prop} {z:Nat} (h:∀ i j b,i≠j→F i b→¬ F j b) (hlt:∀ i b,F i b→b<z) (hF:∀ i b,F' i b→F i b∨z≤b) (hN:∀ i j b,i≠j→z≤b→F' i b→¬ F' j b):∀ i j b,i≠j→F' i b→¬ F' j b:=by
  intro i j b hij hi hj
  rcases hF i b hi with h1 | h1
  · rcases hF j b hj with h2 | h2
    · exact h i j b hij h1 h2
    · have:=hlt i b h1;omega
  · exact hN i j b hij h1 hi hj

theorem Stands.pair (h:Stands B0 p K s w) (i:Nat) (hi:i<s.n) {V:Nat→Prop} {m':Mt} {r':Rm} (P:PairPost V w (s.L i) (s.R i) (s.m i) m' r' w') (fit':Fit m' r') (hK:K≤K') (nu':m'.nu≤K') :
    ∃ s',Stands B0 p K' s' w'∧Goes B0 0 0 0 s w s' w'∧s'.bv=s.bv∧s'.bl=s.bl∧s'.dd=s.dd∧∀ b,V b→w.heap.size≤b→∀ ix,¬ s'.F p ix b:=by
  obtain ⟨L',R',e1,e2,f1,f2,dis,hp,hr,out⟩:=P.rep
  have k:=P.kp
  have lt:=h.lt
  have notS:∀ ix b,ix ≠ .x i→ix ≠ .c i→s.F p ix b→¬ ((s.L i).S (s.m i) b∨(s.R i).S b):=fun ix b h1 h2 hb hb'=>by
    rcases hb' with q | q
    · exact h.sep ix (.x i) b h1 hb ⟨hi,.inl q⟩
    · exact h.sep ix (.c i) b h2 hb ⟨hi,q⟩
  have deadS:∀ b,s.dd b→¬ ((s.L i).S (s.m i) b∨(s.R i).S b):=fun b hb hb'=>by
    rcases hb' with q | q
    · exact h.dead b hb (.x i) ⟨hi,.inl q⟩
    · exact h.dead b hb (.c i) ⟨hi,q⟩
  let s':Sta:={ s with L:=fun j=>if j=i then L' else s.L j,R:=fun j=>if j=i then R' else s.R j,m:=fun j=>if j=i then m' else s.m j,r:=fun j=>if j=i then r' else s.r j }
  have hF:∀ ix b,s'.F p ix b→s.F p ix b∨w.heap.size≤b:=fun ix b hb=>by
    cases ix with
    | p=>exact .inl hb
    | ps=>exact .inl hb
    | b j=>exact .inl hb
    | x j =>
      obtain ⟨hj,hb⟩:=hb
      by_cases e:j=i
      · subst e
        simp only [s',if_true] at hb
        exact (f1 b hb).imp (fun q=>⟨hi,q⟩) id
      · simp only [s',if_neg e] at hb
        exact .inl ⟨hj,hb⟩
    | c j =>
      obtain ⟨hj,hb⟩:=hb
      by_cases e:j=i
      · subst e
        simp only [s',if_true] at hb
        exact (f2 b hb).imp (fun q=>⟨hi,q⟩) id
      · simp only [s',if_neg e] at hb
        exact .inl ⟨hj,hb⟩
  have inL:∀ b,s'.F p (.x i) b→L'.X m' b:=fun b q=>by have:=q.2;simpa only [s',if_true] using this
  have inR:∀ b,s'.F p (.c i) b→R'.S b:=fun b q=>by have:=q.2;simpa only [s',if_true] using this
  have loc:∀ kx b,w.heap.size≤b→s'.F p kx b→kx = .x i∨kx = .c i:=fun kx b hz hk=>by
    cases kx with
    | p=>have:=lt .p b hk;omega
    | ps=>have:=lt .ps b hk;omega
    | b j=>have:=lt (.b j) b hk;omega
    | x j =>
      by_cases e:j=i
      · exact .inl (by rw [e])
      · obtain ⟨hj,hb⟩:=hk
        simp only [s',if_neg e] at hb
        have:=lt (.x j) b ⟨hj,hb⟩;omega
    | c j =>
      by_cases e:j=i
      · exact .inr (by rw [e])
      · obtain ⟨hj,hb⟩:=hk
        simp only [s',if_neg e] at hb
        have:=lt (.c j) b ⟨hj,hb⟩;omega
  have hN2:∀ ix jx b,ix≠jx→w.heap.size≤b→s'.F p ix b→¬ s'.F p jx b:=fun ix jx b hne hz hb hb'=>by
    rcases loc ix b hz hb with rfl | rfl
    · rcases loc jx b hz hb' with rfl | rfl
      · exact hne rfl
      · exact dis b (inL b hb) (inR b hb')
    · rcases loc jx b hz hb' with rfl | rfl
      · exact dis b (inL b hb') (inR b hb)
      · exact hne rfl
  have pn:¬ ((s.L i).S (s.m i) p∨(s.R i).S p):=notS .p p (by simp) (by simp) rfl
  refine ⟨s',⟨Nat.le_trans h.b0 k.size,h.c0.kep k pn,fun j hj=>(h.cb j hj).kep k pn,?_,fun j hj=>ownsRow_kep (h.rb j hj) k (fun b hb=>notS (.b j) b (by simp) (by simp) ⟨hj,hb⟩),
    fun j hj=>?_,fun j hj=>?_,fun j hj=>?_,fun j hj=>?_,sep_upd h.sep lt hF hN2,fun ix b hb=>?_,fun b hb ix q=>?_,fun b hb=>Nat.lt_of_lt_of_le (h.dlt b hb) k.size,fun j hj q hq=>(h.mrk j hj q hq).keep (mark_pos _ _) k deadS (fun _ _ q=>q)⟩,
    ⟨Nat.le_refl _,Nat.le_refl _,fun _=>Nat.le_refl _,k.below h.b0 (fun b hb=>?_),fun b hb=>⟨k.block b (h.dlt b hb) (deadS b hb),hb⟩⟩,rfl,rfl,rfl,fun b hb hz ix q=>?_⟩
  · have e:pairCells s'.L s'.R s'.n=pairCells s.L s.R s.n:=pairCells_congr _ (fun j _=>by
      by_cases e:j=i
      · subst e;simp [s',e1,e2]
      · simp [s',e])
    rw [e]
    exact ownsRow_kep h.rps k (fun b hb=>notS .ps b (by simp) (by simp) hb)
  · by_cases e:j=i
    · subst e;simpa [s'] using hp
    · simp only [s',if_neg e]
      exact (h.rx j hj).kx k (fun b hb=>notS (.x j) b (by simpa using e) (by simp) ⟨hj,hb⟩)
  · by_cases e:j=i
    · subst e;simpa [s'] using hr
    · simp only [s',if_neg e]
      exact (h.rc j hj).keep k (fun b hb=>notS (.c j) b (by simp) (by simpa using e) ⟨hj,hb⟩)
  · by_cases e:j=i
    · subst e;simpa [s'] using fit'
    · simp only [s',if_neg e]
      exact h.fit j hj
  · by_cases e:j=i
    · subst e;simpa [s'] using nu'
    · simp only [s',if_neg e]
      exact Int.le_trans (h.nu j hj) hK
  · rcases hF ix b hb with q | q
    · exact h.low ix b q
    · have:=h.b0;omega
  · rcases hF ix b q with q | q
    · exact h.dead b hb ix q
    · have:=h.dlt b hb;omega
  · rcases hb with q | q
    · exact h.low (.x i) b ⟨hi,.inl q⟩
    · exact h.low (.c i) b ⟨hi,q⟩
  · rcases loc ix b hz q with rfl | rfl
    · exact (out b hb).1 (inL b q)
    · exact (out b hb).2 (inR b q)

theorem Stands.entry (h:Stands B0 p K s w) (i:Nat) (hi:i<5) {l:Value} (hl:∀ b,l.ownBlock=some b→B0≤b∧b<w.heap.size∧¬ s.dd b∧∀ ix,¬ s.F p ix b) (P:Laid (i+1) (bT i) (bZ i) w p B0 (s.bv i) (s.bl i) l w') :
    ∃ s',Stands B0 p K s' w'∧Goes B0 0 0 1 s w s' w'∧(∀ b,s'.dd b→s.dd b∨l.ownBlock=some b∨w.heap.size≤b)∧(∀ ix b,s'.F p ix b→s.F p ix b∨w.heap.size≤b)∧s'={ s with bv:=s'.bv,bl:=s'.bl,dd:=s'.dd }:=by
  obtain ⟨v',nv,q1,q2,q3,q4,k,q6⟩:=P
  have lt:=h.lt
  have notS:∀ ix b,ix ≠ .p→ix ≠ .b i→s.F p ix b→¬ (b=p∨l.ownBlock=some b∨(s.bv i).ownBlock=some b):=fun ix b h1 h2 hb hb'=>by
    rcases hb' with q | q | q
    · exact h.sep ix .p b h1 hb q
    · exact (hl b q).2.2.2 ix hb
    · exact h.sep ix (.b i) b h2 hb ⟨hi,q⟩
  have deadS:∀ b,s.dd b→¬ (b=p∨l.ownBlock=some b∨(s.bv i).ownBlock=some b):=fun b hb hb'=>by
    rcases hb' with q | q | q
    · exact h.dead b hb .p q
    · exact (hl b q).2.2.1 hb
    · exact h.dead b hb (.b i) ⟨hi,q⟩
  let s':Sta:={ s with bv:=fun j=>if j=i then v' else s.bv j,bl:=fun j=>if j=i then s.bl i ++ [nv] else s.bl j,dd:=fun b=>s.dd b∨(b<w'.heap.size∧(l.ownBlock=some b∨(w.heap.size≤b∧v'.ownBlock≠some b))) }
  have hF:∀ ix b,s'.F p ix b→s.F p ix b∨w.heap.size≤b:=fun ix b hb=>by
    cases ix with
    | b j =>
      by_cases e:j=i
      · subst e
        have hb2:v'.ownBlock=some b:=by have:=hb.2;simpa [s'] using this
        rcases q3 with q | ⟨b',q,hs⟩
        · exact .inl ⟨hi,by rw [← q];exact hb2⟩
        · have e:b'=b:=by rw [hb2] at q;simpa using q.symm
          exact .inr (by omega)
      · have:=hb.2
        simp only [s',if_neg e] at this
        exact .inl ⟨hb.1,this⟩
    | _=>exact .inl hb
  have loc:∀ kx b,w.heap.size≤b→s'.F p kx b→kx = .b i∧v'.ownBlock=some b:=fun kx b hz hk=>by
    cases kx with
    | b j =>
      by_cases e:j=i
      · subst e
        exact ⟨rfl,by have:=hk.2;simpa [s'] using this⟩
      · have:=hk.2
        simp only [s',if_neg e] at this
        have:=lt (.b j) b ⟨hk.1,this⟩
        omega
    | p=>have:=lt .p b hk;omega
    | ps=>have:=lt .ps b hk;omega
    | x j=>have:=lt (.x j) b hk;omega
    | c j=>have:=lt (.c j) b hk;omega
  have hN2:∀ ix jx b,ix≠jx→w.heap.size≤b→s'.F p ix b→¬ s'.F p jx b:=fun ix jx b hne hz hb hb'=>hne ((loc ix b hz hb).1.trans (loc jx b hz hb').1.symm)
  have hd:∀ b,s'.dd b→s.dd b∨l.ownBlock=some b∨w.heap.size≤b:=fun b hb=>by
    rcases hb with q | ⟨_,q | q⟩
    · exact .inl q
    · exact .inr (.inl q)
    · exact .inr (.inr q.1)
  refine ⟨s',⟨Nat.le_trans h.b0 k.size,q4 0 _ (by omega) h.c0,fun j hj=>?_,ownsRow_kep h.rps k (fun b hb=>notS .ps b (by simp) (by simp) hb),fun j hj=>?_,
    fun j hj=>(h.rx j hj).kx k (fun b hb=>notS (.x j) b (by simp) (by simp) ⟨hj,hb⟩),fun j hj=>(h.rc j hj).keep k (fun b hb=>notS (.c j) b (by simp) (by simp) ⟨hj,hb⟩),h.fit,h.nu,sep_upd h.sep lt hF hN2,fun ix b hb=>?_,fun b hb ix q=>?_,fun b hb=>?_,fun j hj q hq=>?_⟩,
    ⟨Nat.le_refl _,Nat.le_refl _,fun j=>?_,k.below h.b0 (fun b hb=>?_),fun b hb=>⟨k.block b (h.dlt b hb) (deadS b hb),.inl hb⟩⟩,hd,hF,rfl⟩
  · by_cases e:j=i
    · subst e;simpa [s'] using q1
    · simp only [s',if_neg e]
      exact q4 (j+1) _ (by omega) (h.cb j hj)
  · by_cases e:j=i
    · subst e;simpa [s'] using q2
    · simp only [s',if_neg e]
      exact ownsRow_kep (h.rb j hj) k (fun b hb=>notS (.b j) b (by simp) (by simpa using e) ⟨hj,hb⟩)
  · rcases hF ix b hb with q | q
    · exact h.low ix b q
    · have:=h.b0;omega
  · rcases hb with hb | ⟨hlt,hb | ⟨hb,hb'⟩⟩
    · rcases hF ix b q with q | q
      · exact h.dead b hb ix q
      · have:=h.dlt b hb;omega
    · rcases hF ix b q with q | q
      · exact (hl b hb).2.2.2 ix q
      · have:=(hl b hb).2.1;omega
    · exact hb' (loc ix b hb q).2
  · rcases hb with hb | hb
    · exact Nat.lt_of_lt_of_le (h.dlt b hb) k.size
    · exact hb.1
  · by_cases e:j=i
    · subst e
      have ebl:s'.bl j=s.bl j ++ [nv]:=by simp [s']
      by_cases e2:q<(s.bl j).length
      · have e3:(s'.bl j)[q]=(s.bl j)[q]:=by simp only [ebl];rw [List.getElem_append_left e2]
        rw [e3]
        exact (h.mrk j hi q e2).keep (mark_pos _ _) k deadS (fun b hb q=>.inl q)
      · have hq':q<(s.bl j).length+1:=by simpa [ebl] using hq
        obtain rfl:q=(s.bl j).length:=by omega
        have e3:(s'.bl j)[(s.bl j).length]=nv:=by simp [ebl]
        rw [e3]
        exact (q6 (fun b=>l.ownBlock=some b∨(w.heap.size≤b∧v'.ownBlock≠some b)) (fun b hb=>hb)).keep (mark_pos _ _) (Kep.refl non w') (fun _ _ q=>q) (fun b hlt hb=>.inr ⟨hlt,hb⟩)
    · have ebl:s'.bl j=s.bl j:=by simp [s',e]
      have hq':q<(s.bl j).length:=by rw [← ebl];exact hq
      have e3:(s'.bl j)[q]=(s.bl j)[q]:=by simp only [ebl]
      rw [e3]
      exact (h.mrk j hj q hq').keep (mark_pos _ _) k deadS (fun b hb q=>.inl q)
  · by_cases e:j=i
    · subst e;simp [s']
    · simp [s',e]
  · rcases hb with q | q | q
    · subst q;exact h.low .p b rfl
    · exact (hl b q).1
    · exact h.low (.b i) b ⟨hi,q⟩
end
end

section
open Go.RowKit

structure OpV where
  kd:Int
  M:Int
  A:Int
  B:Int
  C:Int
  D:Int
  E:Int
  rv:Value
  od:Od

def OpV.cells (o:OpV):Array Value:=#[.int .i64 o.kd,.int .i64 o.M,.int .i64 o.A,.int .i64 o.B,.int .i64 o.C,.int .i64 o.D,.int .i64 o.E,o.rv,.int .i64 o.od.id,.int .i64 o.od.t,.int .i64 o.od.h,.int .i64 o.od.g,.int .i64 o.od.s,.int .i64 o.od.p,.int .i64 o.od.q,.int .i64 o.od.w]

theorem boxes {w w1:World} {X Y:Array Value} {t1 t2:TypeId} {S:Nat→Prop} (k:Kep S ((w.alloc (.cells X t1)).alloc (.cells Y t2)) w1) (hs:∀ b,S b→b<w.heap.size) :
    (∀ j,w1.cell? ⟨w.heap.size,j,none⟩=X[j]?)∧(∀ j,w1.cell? ⟨w.heap.size+1,j,none⟩=Y[j]?):=by
  have h0:=heap_alloc2_old w (.cells X t1) (.cells Y t2)
  have h1:=heap_alloc2_new w (.cells X t1) (.cells Y t2)
  have e0:=k.block w.heap.size (by simp;omega) (fun h=>by have:=hs _ h;omega)
  have e1:=k.block (w.heap.size+1) (by simp) (fun h=>by have:=hs _ h;omega)
  exact ⟨fun j=>cell_of_row _ _ j _ _ _ (e0.trans h0),fun j=>cell_of_row _ _ j _ _ _ (e1.trans h1)⟩

def Brought (w:World) (L:PL) (R:RL) (m:Mt) (w':World):Prop:=∃ m' r',PairPost non w L R m m' r' w'∧Fit m' r'∧m'.nu≤m.nu+1

theorem brought_post {w W0 w1 w2:World} {L:PL} {R:RL} {m m':Mt} {r r':Rm} (k0:Kep non w W0) (F:Fit m r) (F':Fit m' r') (hnu:m'.nu≤m.nu+1) (hp:PRep w L m) (hr:RRep w R r) (dis:∀ b,L.X m b→¬ R.S b) (P:PPost W0 L m m' w1) (Q:RPost w1 R r' w2):Brought w L R m w2:=by
  obtain ⟨L',a1,a2,a3⟩:=P.rep
  exact ⟨m',r',pair_post k0 F.inv.ok F'.inv.ok F.rok hp hr dis P.kp a1 a2 a3 (fun _ q=>q.elim) Q,F',hnu⟩

set_option maxRecDepth 100000 in
set_option maxHeartbeats 1000000 in
theorem brought_2 (w:World) (L:PL) (R:RL) (m:Mt) (r:Rm) (o:OpV) (ra:Option Addr) (rn rc:Nat) (hrv:o.rv = .slice ra rn rc) (hp:PRep w L m) (hr:RRep w R r) (F:Fit m r) (dis:∀ b,L.X m b→¬ R.S b) (hk:o.kd=2) :
    Calls Tryz.prog 13 #[.agg #[.pointer (some ⟨L.x,0,none⟩),.pointer (some ⟨R.c,0,none⟩)],.agg o.cells] w fun e w'=>e = .returned (.bool true)∧Brought w L R m w':=by
  obtain ⟨kd,M,A,B,C,D,E,rv,o0,o1,o2,o3,o4,o5,o6,o7⟩:=o
  simp only [] at hk hrv
  subst hk
  subst hrv
  have ltL:=hp.lt F.inv.ok.T1 F.inv.ok.G1
  have HE:=hide (F.rel.pay A B).1
  have HF:=hide (F.pay A B)
  have HP:=hide hp
  have HR:=hide hr
  have HQ:=hide F
  have HD:=hide dis
  clear hp hr F dis
  simp only [OpV.cells]
  go_enter Tryz.func13,Tryz.ntmps13
  go_wp2_with fail
  refine (progPay_any _ L m _ A B (HP.out.later (((Kep.refl _ _).alloc _).alloc _)) HQ.out.inv.ok).mono ?_
  rintro e w1 ⟨rfl,P⟩
  have bx:=boxes P.kp ltL
  have p1:w1.cell? ⟨w.heap.size,1,none⟩=some (.pointer (some ⟨R.c,0,none⟩)):=bx.1 1
  have q2:w1.cell? ⟨w.heap.size+1,2,none⟩=some (.int .i64 A):=bx.2 2
  have q3:w1.cell? ⟨w.heap.size+1,3,none⟩=some (.int .i64 B):=bx.2 3
  clear bx
  have RR:Hid (RRep w1 R r):=hide ((HR.out.later (((Kep.refl _ _).alloc _).alloc _)).keep P.kp (fun b hb hb'=>HD.out b (.inl hb') hb))
  go_wp2_with fail
  refine (refPay_any _ R r 0 A B RR.out HQ.out.rok).mono ?_
  rintro e w2 ⟨rfl,Q⟩
  rw [HE.out]
  go_wp2
  go_ret
  exact ⟨by simp,brought_post (((Kep.refl _ _).alloc _).alloc _) HQ.out HF.out (by rw [(alike_pay A B).nu];omega) HP.out HR.out HD.out P Q⟩

set_option maxRecDepth 100000 in
set_option maxHeartbeats 1000000 in
theorem brought_3 (w:World) (L:PL) (R:RL) (m:Mt) (r:Rm) (o:OpV) (ra:Option Addr) (rn rc:Nat) (hrv:o.rv = .slice ra rn rc) (hp:PRep w L m) (hr:RRep w R r) (F:Fit m r) (dis:∀ b,L.X m b→¬ R.S b) (hk:o.kd=3) :
    Calls Tryz.prog 13 #[.agg #[.pointer (some ⟨L.x,0,none⟩),.pointer (some ⟨R.c,0,none⟩)],.agg o.cells] w fun e w'=>e = .returned (.bool true)∧Brought w L R m w':=by
  obtain ⟨kd,M,A,B,C,D,E,rv,o0,o1,o2,o3,o4,o5,o6,o7⟩:=o
  simp only [] at hk hrv
  subst hk
  subst hrv
  have ltL:=hp.lt F.inv.ok.T1 F.inv.ok.G1
  have HE:=hide (F.rel.draw A B).1
  have HF:=hide (F.draw A B)
  have HP:=hide hp
  have HR:=hide hr
  have HQ:=hide F
  have HD:=hide dis
  clear hp hr F dis
  simp only [OpV.cells]
  go_enter Tryz.func13,Tryz.ntmps13
  go_wp2_with fail
  refine (progDraw_any _ L m _ A B (HP.out.later (((Kep.refl _ _).alloc _).alloc _)) HQ.out.inv.ok).mono ?_
  rintro e w1 ⟨rfl,P⟩
  have bx:=boxes P.kp ltL
  have p1:w1.cell? ⟨w.heap.size,1,none⟩=some (.pointer (some ⟨R.c,0,none⟩)):=bx.1 1
  have q2:w1.cell? ⟨w.heap.size+1,2,none⟩=some (.int .i64 A):=bx.2 2
  have q3:w1.cell? ⟨w.heap.size+1,3,none⟩=some (.int .i64 B):=bx.2 3
  clear bx
  have RR:Hid (RRep w1 R r):=hide ((HR.out.later (((Kep.refl _ _).alloc _).alloc _)).keep P.kp (fun b hb hb'=>HD.out b (.inl hb') hb))
  go_wp2_with fail
  refine (refDraw_any _ R r 0 A B RR.out HQ.out.rok).mono ?_
  rintro e w2 ⟨rfl,Q⟩
  rw [HE.out]
  go_wp2
  go_ret
  exact ⟨by simp,brought_post (((Kep.refl _ _).alloc _).alloc _) HQ.out HF.out (by rw [(alike_draw A B).nu];omega) HP.out HR.out HD.out P Q⟩

set_option maxRecDepth 100000 in
set_option maxHeartbeats 1000000 in
theorem brought_4 (w:World) (L:PL) (R:RL) (m:Mt) (r:Rm) (o:OpV) (ra:Option Addr) (rn rc:Nat) (hrv:o.rv = .slice ra rn rc) (hp:PRep w L m) (hr:RRep w R r) (F:Fit m r) (dis:∀ b,L.X m b→¬ R.S b) (hk:o.kd=4) :
    Calls Tryz.prog 13 #[.agg #[.pointer (some ⟨L.x,0,none⟩),.pointer (some ⟨R.c,0,none⟩)],.agg o.cells] w fun e w'=>e = .returned (.bool true)∧Brought w L R m w':=by
  obtain ⟨kd,M,A,B,C,D,E,rv,o0,o1,o2,o3,o4,o5,o6,o7⟩:=o
  simp only [] at hk hrv
  subst hk
  subst hrv
  have ltL:=hp.lt F.inv.ok.T1 F.inv.ok.G1
  have HE:=hide (F.rel.bring A B C D).1
  have HF:=hide (F.bring A B C D)
  have HP:=hide hp
  have HR:=hide hr
  have HQ:=hide F
  have HD:=hide dis
  clear hp hr F dis
  simp only [OpV.cells]
  go_enter Tryz.func13,Tryz.ntmps13
  go_wp2_with fail
  refine (progBring_any _ L m _ A B C D (HP.out.later (((Kep.refl _ _).alloc _).alloc _)) HQ.out.inv.ok).mono ?_
  rintro e w1 ⟨rfl,P⟩
  have bx:=boxes P.kp ltL
  have p1:w1.cell? ⟨w.heap.size,1,none⟩=some (.pointer (some ⟨R.c,0,none⟩)):=bx.1 1
  have q2:w1.cell? ⟨w.heap.size+1,2,none⟩=some (.int .i64 A):=bx.2 2
  have q3:w1.cell? ⟨w.heap.size+1,3,none⟩=some (.int .i64 B):=bx.2 3
  have q4:w1.cell? ⟨w.heap.size+1,4,none⟩=some (.int .i64 C):=bx.2 4
  have q5:w1.cell? ⟨w.heap.size+1,5,none⟩=some (.int .i64 D):=bx.2 5
  clear bx
  have RR:Hid (RRep w1 R r):=hide ((HR.out.later (((Kep.refl _ _).alloc _).alloc _)).keep P.kp (fun b hb hb'=>HD.out b (.inl hb') hb))
  go_wp2_with fail
  refine (refBring_any _ R r 0 A B C D RR.out HQ.out.rok).mono ?_
  rintro e w2 ⟨rfl,Q⟩
  rw [HE.out]
  go_wp2
  go_ret
  exact ⟨by simp,brought_post (((Kep.refl _ _).alloc _).alloc _) HQ.out HF.out (by rw [(alike_bring A B C D).nu];omega) HP.out HR.out HD.out P Q⟩

set_option maxRecDepth 100000 in
set_option maxHeartbeats 1000000 in
theorem brought_5 (w:World) (L:PL) (R:RL) (m:Mt) (r:Rm) (o:OpV) (ra:Option Addr) (rn rc:Nat) (hrv:o.rv = .slice ra rn rc) (hp:PRep w L m) (hr:RRep w R r) (F:Fit m r) (dis:∀ b,L.X m b→¬ R.S b) (hk:o.kd=5) :
    Calls Tryz.prog 13 #[.agg #[.pointer (some ⟨L.x,0,none⟩),.pointer (some ⟨R.c,0,none⟩)],.agg o.cells] w fun e w'=>e = .returned (.bool true)∧Brought w L R m w':=by
  obtain ⟨kd,M,A,B,C,D,E,rv,o0,o1,o2,o3,o4,o5,o6,o7⟩:=o
  simp only [] at hk hrv
  subst hk
  subst hrv
  have ltL:=hp.lt F.inv.ok.T1 F.inv.ok.G1
  have HE:=hide (F.rel.take F.inv.ok A B C D).1
  have HF:=hide (F.take A B C D)
  have HP:=hide hp
  have HR:=hide hr
  have HQ:=hide F
  have HD:=hide dis
  clear hp hr F dis
  simp only [OpV.cells]
  go_enter Tryz.func13,Tryz.ntmps13
  go_wp2_with fail
  refine (progTake_any _ L m _ A B C D (HP.out.later (((Kep.refl _ _).alloc _).alloc _)) HQ.out.inv.ok).mono ?_
  rintro e w1 ⟨rfl,P⟩
  have bx:=boxes P.kp ltL
  have p1:w1.cell? ⟨w.heap.size,1,none⟩=some (.pointer (some ⟨R.c,0,none⟩)):=bx.1 1
  have q2:w1.cell? ⟨w.heap.size+1,2,none⟩=some (.int .i64 A):=bx.2 2
  have q3:w1.cell? ⟨w.heap.size+1,3,none⟩=some (.int .i64 B):=bx.2 3
  have q4:w1.cell? ⟨w.heap.size+1,4,none⟩=some (.int .i64 C):=bx.2 4
  have q5:w1.cell? ⟨w.heap.size+1,5,none⟩=some (.int .i64 D):=bx.2 5
  clear bx
  have RR:Hid (RRep w1 R r):=hide ((HR.out.later (((Kep.refl _ _).alloc _).alloc _)).keep P.kp (fun b hb hb'=>HD.out b (.inl hb') hb))
  go_wp2_with fail
  refine (refTake_any _ R r 0 A B C D RR.out HQ.out.rok).mono ?_
  rintro e w2 ⟨rfl,Q⟩
  rw [HE.out]
  go_wp2
  go_ret
  exact ⟨by simp,brought_post (((Kep.refl _ _).alloc _).alloc _) HQ.out HF.out (by rw [(alike_take A B C D).nu];omega) HP.out HR.out HD.out P Q⟩

set_option maxRecDepth 100000 in
set_option maxHeartbeats 1000000 in
theorem brought_7 (w:World) (L:PL) (R:RL) (m:Mt) (r:Rm) (o:OpV) (ra:Option Addr) (rn rc:Nat) (hrv:o.rv = .slice ra rn rc) (hp:PRep w L m) (hr:RRep w R r) (F:Fit m r) (dis:∀ b,L.X m b→¬ R.S b) (hk:o.kd=7) :
    Calls Tryz.prog 13 #[.agg #[.pointer (some ⟨L.x,0,none⟩),.pointer (some ⟨R.c,0,none⟩)],.agg o.cells] w fun e w'=>e = .returned (.bool true)∧Brought w L R m w':=by
  obtain ⟨kd,M,A,B,C,D,E,rv,o0,o1,o2,o3,o4,o5,o6,o7⟩:=o
  simp only [] at hk hrv
  subst hk
  subst hrv
  have ltL:=hp.lt F.inv.ok.T1 F.inv.ok.G1
  have HE:=hide (F.rel.ship F.inv.ok A B C D E).1
  have HF:=hide (F.ship A B C D E)
  have HP:=hide hp
  have HR:=hide hr
  have HQ:=hide F
  have HD:=hide dis
  clear hp hr F dis
  simp only [OpV.cells]
  go_enter Tryz.func13,Tryz.ntmps13
  go_wp2_with fail
  refine (progShip_any _ L m _ A B C D E (HP.out.later (((Kep.refl _ _).alloc _).alloc _)) HQ.out.inv.ok).mono ?_
  rintro e w1 ⟨rfl,P⟩
  have bx:=boxes P.kp ltL
  have p1:w1.cell? ⟨w.heap.size,1,none⟩=some (.pointer (some ⟨R.c,0,none⟩)):=bx.1 1
  have q2:w1.cell? ⟨w.heap.size+1,2,none⟩=some (.int .i64 A):=bx.2 2
  have q3:w1.cell? ⟨w.heap.size+1,3,none⟩=some (.int .i64 B):=bx.2 3
  have q4:w1.cell? ⟨w.heap.size+1,4,none⟩=some (.int .i64 C):=bx.2 4
  have q5:w1.cell? ⟨w.heap.size+1,5,none⟩=some (.int .i64 D):=bx.2 5
  have q6:w1.cell? ⟨w.heap.size+1,6,none⟩=some (.int .i64 E):=bx.2 6
  clear bx
  have RR:Hid (RRep w1 R r):=hide ((HR.out.later (((Kep.refl _ _).alloc _).alloc _)).keep P.kp (fun b hb hb'=>HD.out b (.inl hb') hb))
  go_wp2_with fail
  refine (refShip_any _ R r 0 A B C D E RR.out HQ.out.rok).mono ?_
  rintro e w2 ⟨rfl,Q⟩
  rw [HE.out]
  go_wp2
  go_ret
  exact ⟨by simp,brought_post (((Kep.refl _ _).alloc _).alloc _) HQ.out HF.out (by rw [(alike_ship A B C D E).nu];omega) HP.out HR.out HD.out P Q⟩

set_option maxRecDepth 100000 in
set_option maxHeartbeats 1000000 in
theorem brought_8 (w:World) (L:PL) (R:RL) (m:Mt) (r:Rm) (o:OpV) (ra:Option Addr) (rn rc:Nat) (hrv:o.rv = .slice ra rn rc) (hp:PRep w L m) (hr:RRep w R r) (F:Fit m r) (dis:∀ b,L.X m b→¬ R.S b) (hk:o.kd=8) :
    Calls Tryz.prog 13 #[.agg #[.pointer (some ⟨L.x,0,none⟩),.pointer (some ⟨R.c,0,none⟩)],.agg o.cells] w fun e w'=>e = .returned (.bool true)∧Brought w L R m w':=by
  obtain ⟨kd,M,A,B,C,D,E,rv,o0,o1,o2,o3,o4,o5,o6,o7⟩:=o
  simp only [] at hk hrv
  subst hk
  subst hrv
  have ltL:=hp.lt F.inv.ok.T1 F.inv.ok.G1
  have HE:=hide (F.rel.tick F.inv.ok).1
  have HF:=hide (F.tick)
  have HP:=hide hp
  have HR:=hide hr
  have HQ:=hide F
  have HD:=hide dis
  clear hp hr F dis
  simp only [OpV.cells]
  go_enter Tryz.func13,Tryz.ntmps13
  go_wp2_with fail
  refine (progTick_any _ L m _ (HP.out.later (((Kep.refl _ _).alloc _).alloc _)) HQ.out.inv.ok (by omega)).mono ?_
  rintro e w1 ⟨rfl,P⟩
  have bx:=boxes P.kp ltL
  have p1:w1.cell? ⟨w.heap.size,1,none⟩=some (.pointer (some ⟨R.c,0,none⟩)):=bx.1 1
  clear bx
  have RR:Hid (RRep w1 R r):=hide ((HR.out.later (((Kep.refl _ _).alloc _).alloc _)).keep P.kp (fun b hb hb'=>HD.out b (.inl hb') hb))
  go_wp2_with fail
  refine (refTick_any _ R r 0 RR.out HQ.out.rok (by omega)).mono ?_
  rintro e w2 ⟨rfl,Q⟩
  rw [HE.out]
  go_wp2
  go_ret
  exact ⟨by simp,brought_post (((Kep.refl _ _).alloc _).alloc _) HQ.out HF.out (by rw [alike_tick.nu];omega) HP.out HR.out HD.out P Q⟩

theorem brought_any (w:World) (L:PL) (R:RL) (m:Mt) (r:Rm) (o:OpV) (ra:Option Addr) (rn rc:Nat) (hrv:o.rv = .slice ra rn rc) (hp:PRep w L m) (hr:RRep w R r) (F:Fit m r) (dis:∀ b,L.X m b→¬ R.S b) (hk:o.kd=2∨o.kd=3∨o.kd=4∨o.kd=5∨o.kd=7∨o.kd=8) :
    Calls Tryz.prog 13 #[.agg #[.pointer (some ⟨L.x,0,none⟩),.pointer (some ⟨R.c,0,none⟩)],.agg o.cells] w fun e w'=>e = .returned (.bool true)∧Brought w L R m w':=by
  rcases hk with q | q | q | q | q | q
  · exact brought_2 w L R m r o ra rn rc hrv hp hr F dis q
  · exact brought_3 w L R m r o ra rn rc hrv hp hr F dis q
  · exact brought_4 w L R m r o ra rn rc hrv hp hr F dis q
  · exact brought_5 w L R m r o ra rn rc hrv hp hr F dis q
  · exact brought_7 w L R m r o ra rn rc hrv hp hr F dis q
  · exact brought_8 w L R m r o ra rn rc hrv hp hr F dis q
end

end Go.Proofs.YtcfoobhihhndjaaGreat
