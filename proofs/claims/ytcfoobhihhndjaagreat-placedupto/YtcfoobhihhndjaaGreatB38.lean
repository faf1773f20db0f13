
import Derived.Carry
import Derived.Deep.Slices
import Derived.JoinedCond
import Derived.OpenShut
import Derived.ProofKit
import Derived.Test.YtcfoobhihhndjaaGreatB37
import Derived.Test.YtcfoobhihhndjaaGreatRows
namespace Go.Proofs.YtcfoobhihhndjaaGreat

section
open Go.RowKit

def opc (kd A B C D:Int) (rv:Value):List Value:=[.int .i64 kd,.int .i64 0,.int .i64 A,.int .i64 B,.int .i64 C,.int .i64 D,.int .i64 0,rv,.int .i64 0,.int .i64 0,.int .i64 0,.int .i64 0,.int .i64 0,.int .i64 0,.int .i64 0,.int .i64 0]

def headCells (rb:Nat):List Value :=
  opc 1 4 2 0 0 (.slice (some ⟨rb,0,none⟩) 3 3) ++ opc 2 0 500000 0 0 (.slice none 0 0) ++ opc 2 1 300000 0 0 (.slice none 0 0) ++ opc 4 1 0 1 500 (.slice none 0 0) ++ opc 4 2 1 0 900 (.slice none 0 0) ++ opc 4 2 0 1 300 (.slice none 0 0) ++ opc 6 1 0 0 0 (.slice none 0 0)

theorem lay_two (w:World) (aa bs:List Value) (ta tb:TypeId):Kep non w ((w.alloc (.cells aa.toArray ta)).alloc (.cells bs.toArray tb))∧(∀ j v,bs[j]? = some v→((w.alloc (.cells aa.toArray ta)).alloc (.cells bs.toArray tb)).cell? ⟨w.heap.size+1,j,none⟩=some v)∧(∀ j v,aa[j]? = some v→((w.alloc (.cells aa.toArray ta)).alloc (.cells bs.toArray tb)).cell? ⟨w.heap.size,j,none⟩=some v):=by
  refine ⟨((Kep.refl _ _).alloc _).alloc _,fun j v h=>?_,fun j v h=>?_⟩
  · have z:=cell_of_row _ _ j _ _ _ (heap_alloc_new (w.alloc (.cells aa.toArray ta)) (.cells bs.toArray tb))
    have e:(w.alloc (.cells aa.toArray ta)).heap.size=w.heap.size+1:=by simp
    rw [e] at z
    rw [z]
    simpa using h
  · have z:=cell_of_row _ _ j _ _ _ (heap_alloc_new w (.cells aa.toArray ta))
    refine ((Kep.refl non _).alloc _).cell ?_ (fun q=>q)
    rw [z]
    simpa using h

set_option maxRecDepth 100000 in
set_option maxHeartbeats 2000000 in
theorem head_any (w:World):Calls Tryz.prog 7 #[] w fun e w'=>∃ hb rb,e = .returned (.slice (some ⟨hb,0,none⟩) 7 7)∧w.heap.size≤hb∧w.heap.size≤rb∧Kep non w w'∧(∀ j v,(headCells rb)[j]? = some v→w'.cell? ⟨hb,j,none⟩=some v)∧(∀ j v,[Value.int .i64 50,.int .i64 0,.int .i64 100][j]? = some v→w'.cell? ⟨rb,j,none⟩=some v):=by
  go_enter Tryz.func7,Tryz.ntmps7
  go_wp2
  go_ret
  obtain ⟨h1,h2,h3⟩:=lay_two w [Value.int .i64 50,.int .i64 0,.int .i64 100] (headCells w.heap.size) 3 42
  exact ⟨_,_,rfl,Nat.le_succ _,Nat.le_refl _,h1,h2,h3⟩

def hop (kd A B C D:Int) (rv:Value):OpV:=⟨kd,0,A,B,C,D,0,rv,⟨0,0,0,0,0,0,0,0⟩⟩
def headOp (rb:Nat):Nat→OpV
  | 0=>hop 1 4 2 0 0 (.slice (some ⟨rb,0,none⟩) 3 3)
  | 1=>hop 2 0 500000 0 0 (.slice none 0 0)
  | 2=>hop 2 1 300000 0 0 (.slice none 0 0)
  | 3=>hop 4 1 0 1 500 (.slice none 0 0)
  | 4=>hop 4 2 1 0 900 (.slice none 0 0)
  | 5=>hop 4 2 0 1 300 (.slice none 0 0)
  | _=>hop 6 1 0 0 0 (.slice none 0 0)

theorem headCells_at (rb k j:Nat) (hk:k<7) (hj:j<16):(headCells rb)[k * 16+j]? = (headOp rb k).cells[j]?:=by
  rcases k with _ | _ | _ | _ | _ | _ | _ | k
  case succ.succ.succ.succ.succ.succ.succ=>omega
  all_goals
    rcases j with _ | _ | _ | _ | _ | _ | _ | _ | _ | _ | _ | _ | _ | _ | _ | _ | j
    case succ.succ.succ.succ.succ.succ.succ.succ.succ.succ.succ.succ.succ.succ.succ.succ=>omega
    all_goals rfl

theorem headOp_other (rb k:Nat) (hk:k≠0):(headOp rb k).rv = .slice none 0 0∧(headOp rb k).kd≠1∧(headOp rb k).kd≤8∧(headOp rb k).M=0:=by
  rcases k with _ | _ | _ | _ | _ | _ | k
  case zero=>exact absurd rfl hk
  all_goals exact ⟨rfl,by simp [headOp,hop],by simp [headOp,hop],rfl⟩

def HSt (w:World) (B0 p hb rb k:Nat) (wr:World):Prop :=
  ∃ s,Stands B0 p (k:Int) s wr∧(k=0→s.n=0)∧(k≠0→s.n=1)∧(∀ i,(s.bl i).length≤2 * k)∧Below B0 w wr∧s.dd hb∧s.dd rb ∧
    (∀ j v,(headCells rb)[j]? = some v→wr.cell? ⟨hb,j,none⟩=some v)∧(∀ j v,[Value.int .i64 50,.int .i64 0,.int .i64 100][j]? = some v→wr.cell? ⟨rb,j,none⟩=some v)

theorem HSt.cell {w wr:World} {B0 p hb rb k:Nat} (h:HSt w B0 p hb rb k wr) (hk:k<7) (j:Nat) (u:Value) (hu:(headOp rb k).cells[j]? = some u):wr.cell? ⟨hb,k * 16+j,none⟩=some u:=by
  obtain ⟨s,_,_,_,_,_,_,_,hc,_⟩:=h
  refine hc _ _ ?_
  rw [headCells_at rb k j hk (by have:=(Array.getElem?_eq_some_iff.1 hu).1;simpa [OpV.cells] using this)]
  exact hu

theorem HSt.next {a d:Nat} {w wr w':World} {B0 p hb rb k:Nat} {s:Sta} (hd:k=0→a=1∧d=1) (hd':k≠0→a=0∧d=0) (h0:k=0→s.n=0) (h1:k≠0→s.n=1) (hbl:∀ i,(s.bl i).length≤2 * k) (hB:Below B0 w wr) (dh:s.dd hb) (dr:s.dd rb)
    (ch:∀ j v,(headCells rb)[j]? = some v→wr.cell? ⟨hb,j,none⟩=some v) (cr:∀ j v,[Value.int .i64 50,.int .i64 0,.int .i64 100][j]? = some v→wr.cell? ⟨rb,j,none⟩=some v)
    (P:StepPost a d wr B0 p (k:Int) s w'):HSt w B0 p hb rb (k+1) w':=by
  obtain ⟨s',i1,g⟩:=P
  have e1:=g.nlo
  have e2:=g.nhi
  refine ⟨s',by simpa using i1,by omega,fun _=>?_,fun i=>?_,hB.trans g.bel,(g.dd hb dh).2,(g.dd rb dr).2,fun j v q=>?_,fun j v q=>?_⟩
  · by_cases e:k=0
    · have:=hd e;have:=h0 e;omega
    · have:=hd' e;have:=h1 e;omega
  · have:=g.ln i;have:=hbl i;omega
  · exact (World.cell?_of_block (g.dd hb dh).1).trans (ch j v q)
  · exact (World.cell?_of_block (g.dd rb dr).1).trans (cr j v q)

theorem HSt.step {w wr:World} {B0 p hb rb k:Nat} (h:HSt w B0 p hb rb k wr) (hk:k<7) :
    Calls Tryz.prog 8 #[.pointer (some ⟨p,0,none⟩),.agg (headOp rb k).cells] wr fun e w'=>e = .returned (.bool true)∧HSt w B0 p hb rb (k+1) w':=by
  obtain ⟨s,h1,h2,h3,h5,h6,h7,h8,h9,h10⟩:=h
  have l0:=h5 0
  have l4:=h5 4
  by_cases e:k=0
  · subst e
    have n0:=h2 rfl
    refine (step_on1_yes wr B0 p _ s (headOp rb 0) rb 0 3 [50,0,100] rfl (fun i x q=>?_) (by simp) (by rfl) h1 (by omega) (by omega) (by omega) rfl).mono ?_
    · rw [Nat.zero_add]
      refine h10 i _ ?_
      rcases i with _ | _ | _ | i
      · simp at q;subst q;rfl
      · simp at q;subst q;rfl
      · simp at q;subst q;rfl
      · simp at q
    · rintro e w' ⟨rfl,P⟩
      exact ⟨rfl,HSt.next (fun _=>⟨rfl,rfl⟩) (fun q=>absurd rfl q) h2 h3 h5 h6 h7 h8 h9 h10 P⟩
  · obtain ⟨g1,g2,g3,g4⟩:=headOp_other rb k e
    have n1:=h3 e
    refine (step_other wr B0 p _ s (headOp rb k) (.inl g1) h1 (by omega) (by omega) (by rw [g4];omega) g3 g2).mono ?_
    rintro e' w' ⟨rfl,P⟩
    exact ⟨rfl,HSt.next (fun q=>absurd q e) (fun _=>⟨rfl,rfl⟩) h2 h3 h5 h6 h7 h8 h9 h10 P⟩

def SSt (w:World) (B0 p k:Nat) (wr:World):Prop :=
  ∃ s,Stands B0 p ((7+k:Nat):Int) s wr∧1≤s.n∧s.n≤k+1∧(∀ i,(s.bl i).length≤2 * (7+k))∧Below B0 w wr

theorem HSt.done {w wr:World} {B0 p hb rb:Nat} (h:HSt w B0 p hb rb 7 wr):SSt w B0 p 0 wr∧∃ a c,wr.cell? ⟨p,0,none⟩=some (.slice a 1 c):=by
  obtain ⟨s,h1,h2,h3,h5,h6,h7,h8,h9,h10⟩:=h
  have n1:=h3 (by omega)
  refine ⟨⟨s,h1,by omega,by omega,h5,h6⟩,?_⟩
  obtain ⟨pb,pc,hpv,_,_⟩:=h1.rps.form (by omega)
  refine ⟨some ⟨pb,0,none⟩,pc,?_⟩
  rw [h1.c0.cell,hpv,n1]

def Steps (last:Int):Prop:=∀ (w:World) (B0 p:Nat) (K:Int) (s:Sta) (o:OpV),RvOk w o.rv→Stands B0 p K s w→0≤K→K≤1100000→s.n≤4000000→(∀ i,(s.bl i).length≤3000000)→(-9223372036854775808≤o.M∧o.M≤9223372036854775807)→o.kd≤last →
    Calls Tryz.prog 8 #[.pointer (some ⟨p,0,none⟩),.agg o.cells] w fun e w'=>e = .returned (.bool true)∧StepPost 0 1 w B0 p K s w'

theorem steps8:Steps 8:=by
  intro w B0 p K s o hrv h hK hK2 hn hbl hM hk
  by_cases h1:o.kd=1
  · exact step_on1 w B0 p K s o hrv h hK hn (by have:=hbl 4;omega) h1
  refine (step_other w B0 p K s o hrv h hn (by have:=hbl 0;omega) hM hk h1).mono ?_
  rintro e w' ⟨rfl,P⟩
  exact ⟨rfl,P.wide (by omega) (by omega)⟩

theorem SSt.next {a d:Nat} {w wr w':World} {B0 p k:Nat} {s:Sta} (hd:d≤1) (h1:1≤s.n) (h2:s.n≤k+1) (hbl:∀ i,(s.bl i).length≤2 * (7+k)) (hB:Below B0 w wr) (P:StepPost a d wr B0 p ((7+k:Nat):Int) s w'):SSt w B0 p (k+1) w':=by
  obtain ⟨s',i1,g⟩:=P
  have e1:=g.nlo
  have e2:=g.nhi
  refine ⟨s',i1.mono (by omega),by omega,by omega,fun i=>?_,hB.trans g.bel⟩
  have:=g.ln i
  have:=hbl i
  omega

theorem SSt.step {last:Int} (HK:Steps last) {w wr:World} {B0 p k:Nat} (h:SSt w B0 p k wr) (hk:k≤1048600) (o:OpV) (hrv:RvOk wr o.rv) (hM:-9223372036854775808≤o.M∧o.M≤9223372036854775807) (h8:o.kd≤last) :
    Calls Tryz.prog 8 #[.pointer (some ⟨p,0,none⟩),.agg o.cells] wr fun e w'=>e = .returned (.bool true)∧SSt w B0 p (k+1) w':=by
  obtain ⟨s,h1,h2,h3,h5,h6⟩:=h
  refine (HK wr B0 p _ s o hrv h1 (by omega) (by omega) (by omega) (fun i=>by have:=h5 i;omega) hM h8).mono ?_
  rintro e' w' ⟨rfl,P⟩
  exact ⟨rfl,SSt.next (Nat.le_refl _) h2 h3 h5 h6 P⟩

theorem SSt.skip {w wr:World} {B0 p k:Nat} (h:SSt w B0 p k wr):SSt w B0 p (k+1) wr:=by
  obtain ⟨s,h1,h2,h3,h5,h6⟩:=h
  exact ⟨s,h1.mono (by omega),by omega,by omega,fun i=>by have:=h5 i;omega,h6⟩

theorem SSt.whole {w wr:World} {B0 p k:Nat} (h:SSt w B0 p k wr) (hk:k≤1048600):Calls Tryz.prog 9 #[.pointer (some ⟨p,1,none⟩)] wr fun e w'=>e = .returned (.bool true)∧w'=wr:=by
  obtain ⟨s,h1,h2,h3,h5,h6⟩:=h
  have l:=fun i=>show (s.bl i).length≤4000000 by have:=h5 i;omega
  exact bookWhole_any s.dd wr p B0 (s.bv 0) (s.bl 0) (s.bv 1) (s.bl 1) (s.bv 2) (s.bl 2) (s.bv 3) (s.bl 3) (s.bv 4) (s.bl 4) (h1.cb 0 (by omega)).cell (h1.rb 0 (by omega)) (l 0) (h1.mrk 0 (by omega)) (h1.cb 1 (by omega)).cell (h1.rb 1 (by omega)) (l 1) (h1.mrk 1 (by omega)) (h1.cb 2 (by omega)).cell (h1.rb 2 (by omega)) (l 2) (h1.mrk 2 (by omega))
    (h1.cb 3 (by omega)).cell (h1.rb 3 (by omega)) (l 3) (h1.mrk 3 (by omega)) (h1.cb 4 (by omega)).cell (h1.rb 4 (by omega)) (l 4) (h1.mrk 4 (by omega))

theorem SSt.acc {w wr:World} {B0 p k:Nat} (h:SSt w B0 p k wr) (hk:k≤1048600):∃ (pb n pc lx rx:Nat),wr.cell? ⟨p,0,none⟩=some (.slice (some ⟨pb,0,none⟩) n pc)∧1≤n∧wr.cell? ⟨pb,0,none⟩=some (.pointer (some ⟨lx,0,none⟩))∧wr.cell? ⟨pb,1,none⟩=some (.pointer (some ⟨rx,0,none⟩)) ∧
    Hid (∀ A:Int,Calls Tryz.prog 10 #[.pointer (some ⟨p,0,none⟩),.agg #[.pointer (some ⟨lx,0,none⟩),.pointer (some ⟨rx,0,none⟩)],.int .i64 A] wr fun e w'=>e = .returned (.bool true)∧SSt w B0 p (k+1) w'):=by
  obtain ⟨s,h1,h2,h3,h5,h6⟩:=h
  obtain ⟨pb,pc,c0,x0,x1⟩:=h1.at 0 h2
  refine ⟨pb,s.n,pc,(s.L 0).x,(s.R 0).c,c0,h2,by simpa using x0,by simpa using x1,hide fun A=>?_⟩
  refine (acc_at wr B0 p _ s h1 0 h2 A (by have:=h5 0;omega)).mono ?_
  rintro e' w' ⟨rfl,s',i1,i2⟩
  exact ⟨rfl,SSt.next (Nat.zero_le _) h2 h3 h5 h6 (StepPost.after h1 (Kep.refl _ _) (by omega) (by omega) i1 i2)⟩

def st0 (hb rb:Nat):Sta:=⟨0,fun _=>⟨0,0,0,0,.slice none 0 0,0,fun _=>0,fun _ _ _=>0,fun _ _ _=>.slice none 0 0,fun _ _ _=>[]⟩,fun _=>⟨0,0,0,0,0,.slice none 0 0,.slice none 0 0,0,0,0⟩,fun _=>newM 0 0 [],fun _=>newR 0 0 [],.slice none 0 0,fun _=>.slice none 0 0,fun _=>[],fun b=>b=hb∨b=rb⟩

def playBlock:Obj:=.cells #[.slice none 0 0,.slice none 0 0,.slice none 0 0,.slice none 0 0,.slice none 0 0,.slice none 0 0] 35

theorem st0_F {hb rb p b:Nat} {ix:Ix} (h:(st0 hb rb).F p ix b):ix = .p∧b=p:=by
  cases ix with
  | p=>exact ⟨rfl,h⟩
  | ps=>simp [Sta.F,st0,Value.ownBlock] at h
  | b i=>simp [Sta.F,st0,Value.ownBlock] at h
  | x i=>simp [Sta.F,st0] at h
  | c i=>simp [Sta.F,st0] at h

theorem HSt.start {w W:World} {hb rb:Nat} (kW:Kep non (w.alloc playBlock) W) (h1:(w.alloc playBlock).heap.size≤hb) (h2:(w.alloc playBlock).heap.size≤rb) (ch:∀ j v,(headCells rb)[j]? = some v→W.cell? ⟨hb,j,none⟩=some v) (cr:∀ j v,[Value.int .i64 50,.int .i64 0,.int .i64 100][j]? = some v→W.cell? ⟨rb,j,none⟩=some v) :
    HSt w w.heap.size w.heap.size hb rb 0 W:=by
  have e:(w.alloc playBlock).heap.size=w.heap.size+1:=by simp
  have hblk:(w.alloc playBlock).heap[w.heap.size]? = some playBlock:=heap_alloc_new w _
  have hc:∀ j,j<6→Own W ⟨w.heap.size,j,none⟩ (.slice none 0 0):=fun j hj=>by
    refine Own.kep ⟨?_,frozen_of_row _ _ j _ _ hblk⟩ kW (fun q=>q)
    rw [cell_of_row _ _ j _ _ _ hblk]
    rcases j with _ | _ | _ | _ | _ | _ | j
    all_goals first | rfl | omega
  have sW:=kW.size
  have lh:hb<W.heap.size:=World.block_lt_of_cell? W ⟨hb,0,none⟩ (ch 0 _ rfl)
  have lr:rb<W.heap.size:=World.block_lt_of_cell? W ⟨rb,0,none⟩ (cr 0 _ rfl)
  have h0:Stands w.heap.size w.heap.size ((0:Nat):Int) (st0 hb rb) W:=by
    refine ⟨by omega,hc 0 (by decide),fun i hi=>hc (i+1) (by omega),⟨rfl,.inl ⟨rfl,rfl⟩⟩,fun i hi=>⟨rfl,.inl ⟨rfl,rfl⟩⟩,
      fun i hi=>absurd hi (Nat.not_lt_zero _),fun i hi=>absurd hi (Nat.not_lt_zero _),fun i hi=>absurd hi (Nat.not_lt_zero _),fun i hi=>absurd hi (Nat.not_lt_zero _),fun i j b hij h1 h2=>?_,fun ix b h=>?_,fun b hb' ix q=>?_,fun b hb'=>?_,fun i _ k hk=>absurd hk (Nat.not_lt_zero _)⟩
    · exact hij ((st0_F h1).1.trans (st0_F h2).1.symm)
    · exact Nat.le_of_eq (st0_F h).2.symm
    · have:=(st0_F q).2
      rcases hb' with q' | q' <;> omega
    · rcases hb' with q' | q' <;> omega
  exact ⟨st0 hb rb,h0,fun _=>rfl,fun q=>absurd rfl q,fun i=>Nat.le_refl _,(((Kep.refl non w).alloc playBlock).trans kW).below (Nat.le_refl _) (fun _ q=>q.elim),.inl rfl,.inr rfl,ch,cr⟩
end

section
open Go.RowKit

structure Script (w:World) (a:Option Addr) (ops:List OpV):Prop where
  len:ops.length≤1048576
  cell:∀ i o,ops[i]? = some o→∃ b off,a=some ⟨b,off,none⟩∧∀ j u,o.cells[j]? = some u→w.cell? ⟨b,off+i * 16+j,none⟩=some u
  rv:∀ o,o∈ops→RvOk w o.rv
  M:∀ o,o∈ops→-9223372036854775808≤o.M∧o.M≤9223372036854775807

theorem below_cell {w w':World} (h:Below w.heap.size w w') {p:Addr} {v:Value} (hc:w.cell? p=some v):w'.cell? p=some v :=
  (Kep.of_below (S:=non) h).cell hc (fun q=>q)

theorem RvOk.below {w w':World} {v:Value} (h:RvOk w v) (k:Below w.heap.size w w'):RvOk w' v:=by
  rcases h with h | h | ⟨rb,off,rc,rs,h1,h2,h3⟩
  · exact .inl h
  · exact .inr (.inl h)
  · exact .inr (.inr ⟨rb,off,rc,rs,h1,fun i x q=>below_cell k (h2 i x q),h3⟩)

theorem Script.below {w w':World} {a:Option Addr} {ops:List OpV} (h:Script w a ops) (k:Below w.heap.size w w'):Script w' a ops :=
  ⟨h.len,fun i o q=>by
    obtain ⟨b,off,h1,h2⟩:=h.cell i o q
    exact ⟨b,off,h1,fun j u q=>below_cell k (h2 j u q)⟩,fun o q=>(h.rv o q).below k,h.M⟩

theorem SSt.script {w wr:World} {p k:Nat} {a:Option Addr} {ops:List OpV} (h:SSt w w.heap.size p k wr) (S:Script w a ops):Script wr a ops:=by
  obtain ⟨s,h1,h2,h3,h5,h6⟩:=h
  exact S.below h6

theorem headOp_form (rb k:Nat):∃ a n c,(headOp rb k).rv = .slice a n c:=by
  by_cases e:k=0
  · subst e;exact ⟨_,_,_,rfl⟩
  · exact ⟨_,_,_,(headOp_other rb k e).1⟩

set_option maxRecDepth 100000 in
set_option maxHeartbeats 4000000 in
theorem plays_any (last:Int) (HK:Steps last) (w:World) (a:Option Addr) (c:Nat) (ops:List OpV) (S:Script w a ops) :
    Calls Tryz.prog 6 #[.slice a ops.length c,.int .i64 last] w fun e w'=>e = .returned (.bool true)∧Below w.heap.size w w':=by
  have bl:=S.len
  have HSc:=hide S
  have HKS:=hide HK
  clear S HK
  go_enter Tryz.func6,Tryz.ntmps6
  go_wp2_with (go_at_call 7;refine (head_any _).mono ?_;rintro e W ⟨hb,rb,rfl,h1,h2,kW,ch,cr⟩)
  have H0:Hid (HSt w w.heap.size w.heap.size hb rb 0 W):=hide (HSt.start kW h1 h2 ch cr)
  clear h1 h2 kW ch cr
  go_loopw [7,8] (fun ok i wr=>∃ k:Nat,k≤7∧i = .int .i64 k∧ok = .bool true∧HSt w w.heap.size w.heap.size hb rb k wr) (fun _ i _=>7 - (intOf i).toNat)
  case atStart=>exact ⟨0,by omega,rfl,rfl,H0.out⟩
  case round =>
    clear H0
    obtain ⟨k,hk,rfl,rfl,hst⟩:=hrel
    by_cases hlt:k<7
    · have hlt':(k:Int)<7:=by omega
      have hc:=hst.cell hlt
      have HB:=hide (hst.step hlt)
      obtain ⟨ra,rn,rc,hf⟩:=headOp_form rb k
      clear hst
      generalize headOp rb k=o at hc HB hf
      obtain ⟨kd,M,A,B,C,D,E,rv,o0,o1,o2,o3,o4,o5,o6,o7⟩:=o
      simp only [] at hf
      subst hf
      have q0:wr.cell? ⟨hb,k * 16,none⟩=some (.int .i64 kd):=hc 0 _ rfl
      have q1:wr.cell? ⟨hb,k * 16+1,none⟩=some (.int .i64 M):=hc 1 _ rfl
      have q2:wr.cell? ⟨hb,k * 16+2,none⟩=some (.int .i64 A):=hc 2 _ rfl
      have q3:wr.cell? ⟨hb,k * 16+3,none⟩=some (.int .i64 B):=hc 3 _ rfl
      have q4:wr.cell? ⟨hb,k * 16+4,none⟩=some (.int .i64 C):=hc 4 _ rfl
      have q5:wr.cell? ⟨hb,k * 16+5,none⟩=some (.int .i64 D):=hc 5 _ rfl
      have q6:wr.cell? ⟨hb,k * 16+6,none⟩=some (.int .i64 E):=hc 6 _ rfl
      have q7:wr.cell? ⟨hb,k * 16+7,none⟩=some (.slice ra rn rc):=hc 7 _ rfl
      have q8:wr.cell? ⟨hb,k * 16+8,none⟩=some (.int .i64 o0):=hc 8 _ rfl
      have q9:wr.cell? ⟨hb,k * 16+9,none⟩=some (.int .i64 o1):=hc 9 _ rfl
      have q10:wr.cell? ⟨hb,k * 16+10,none⟩=some (.int .i64 o2):=hc 10 _ rfl
      have q11:wr.cell? ⟨hb,k * 16+11,none⟩=some (.int .i64 o3):=hc 11 _ rfl
      have q12:wr.cell? ⟨hb,k * 16+12,none⟩=some (.int .i64 o4):=hc 12 _ rfl
      have q13:wr.cell? ⟨hb,k * 16+13,none⟩=some (.int .i64 o5):=hc 13 _ rfl
      have q14:wr.cell? ⟨hb,k * 16+14,none⟩=some (.int .i64 o6):=hc 14 _ rfl
      have q15:wr.cell? ⟨hb,k * 16+15,none⟩=some (.int .i64 o7):=hc 15 _ rfl
      clear hc
      simp only [OpV.cells] at HB
      go_wp2_with ((go_at_call 8;refine HB.out.mono ?_;rintro e W2 ⟨rfl,hst⟩))
      exact ⟨⟨k+1,by omega,by go_num,rfl,hst⟩,by simp [intOf];omega⟩
    · have h7:HSt w w.heap.size w.heap.size hb rb 7 wr:=by
        have e:k=7:=by omega
        rw [e] at hst
        exact hst
      obtain ⟨H1,pa,pc,c0⟩:=h7.done
      have HS:=hide H1
      have hnk:¬ (k:Int)<7:=by omega
      clear H1 hst h7
      go_wp2
      go_loopw [7,9] (fun ok i wr=>∃ k:Nat,k≤ops.length∧i = .int .i64 k∧ok = .bool true∧SSt w w.heap.size w.heap.size k wr) (fun _ i _=>ops.length - (intOf i).toNat)
      case atStart=>exact ⟨0,by omega,rfl,rfl,HS.out⟩
      case round =>
        clear HS c0
        obtain ⟨k,hk,rfl,rfl,hst⟩:=hrel
        by_cases hlt:k<ops.length
        · have hlt':(k:Int)<(ops.length:Int):=by omega
          have Sc:=hst.script HSc.out
          have ho:ops[k]? = some ops[k]:=by simp
          have hmem:ops[k]∈ops:=List.getElem_mem hlt
          obtain ⟨b,off,ha,hc⟩:=Sc.cell k _ ho
          have HV:=hide (Sc.rv _ hmem)
          have HM:=hide (Sc.M _ hmem)
          obtain ⟨ra,rn,rc,hf⟩:=HV.out.form
          have HT:=hide hst
          clear hst Sc ho hmem
          generalize ops[k]=o at hc HV HM hf
          have HB:Hid (o.kd≤last→Calls Tryz.prog 8 #[.pointer (some ⟨w.heap.size,0,none⟩),.agg o.cells] wr fun e w'=>e = .returned (.bool true)∧SSt w w.heap.size w.heap.size (k+1) w'):=hide fun h8=>HT.out.step HKS.out (by omega) o HV.out HM.out h8
          clear HV HM
          obtain ⟨kd,M,A,B,C,D,E,rv,o0,o1,o2,o3,o4,o5,o6,o7⟩:=o
          simp only [] at hf HB
          subst hf
          subst ha
          have q0:wr.cell? ⟨b,off+k * 16,none⟩=some (.int .i64 kd):=hc 0 _ rfl
          have q1:wr.cell? ⟨b,off+k * 16+1,none⟩=some (.int .i64 M):=hc 1 _ rfl
          have q2:wr.cell? ⟨b,off+k * 16+2,none⟩=some (.int .i64 A):=hc 2 _ rfl
          have q3:wr.cell? ⟨b,off+k * 16+3,none⟩=some (.int .i64 B):=hc 3 _ rfl
          have q4:wr.cell? ⟨b,off+k * 16+4,none⟩=some (.int .i64 C):=hc 4 _ rfl
          have q5:wr.cell? ⟨b,off+k * 16+5,none⟩=some (.int .i64 D):=hc 5 _ rfl
          have q6:wr.cell? ⟨b,off+k * 16+6,none⟩=some (.int .i64 E):=hc 6 _ rfl
          have q7:wr.cell? ⟨b,off+k * 16+7,none⟩=some (.slice ra rn rc):=hc 7 _ rfl
          have q8:wr.cell? ⟨b,off+k * 16+8,none⟩=some (.int .i64 o0):=hc 8 _ rfl
          have q9:wr.cell? ⟨b,off+k * 16+9,none⟩=some (.int .i64 o1):=hc 9 _ rfl
          have q10:wr.cell? ⟨b,off+k * 16+10,none⟩=some (.int .i64 o2):=hc 10 _ rfl
          have q11:wr.cell? ⟨b,off+k * 16+11,none⟩=some (.int .i64 o3):=hc 11 _ rfl
          have q12:wr.cell? ⟨b,off+k * 16+12,none⟩=some (.int .i64 o4):=hc 12 _ rfl
          have q13:wr.cell? ⟨b,off+k * 16+13,none⟩=some (.int .i64 o5):=hc 13 _ rfl
          have q14:wr.cell? ⟨b,off+k * 16+14,none⟩=some (.int .i64 o6):=hc 14 _ rfl
          have q15:wr.cell? ⟨b,off+k * 16+15,none⟩=some (.int .i64 o7):=hc 15 _ rfl
          clear hc
          simp only [OpV.cells] at HB
          by_cases h8:kd≤last
          · have HB':=hide (HB.out h8)
            clear HB HT
            go_wp2_with (first | (go_at_call 8;refine HB'.out.mono ?_;rintro e W2 ⟨rfl,hst⟩;have HW:=hide (hst.whole (by omega));have HT:=hide hst;clear hst) | (go_at_call 9;refine HW.out.mono ?_;rintro e W3 ⟨rfl,hw3⟩;subst hw3))
            exact ⟨⟨k+1,by omega,by go_num,rfl,HT.out⟩,by simp [intOf];omega⟩
          · have h8':last<kd:=by omega
            clear HB
            go_wp2
            exact ⟨⟨k+1,by omega,by go_num,rfl,HT.out.skip⟩,by simp [intOf];omega⟩
        · have HT:Hid (SSt w w.heap.size w.heap.size ops.length wr):=by
            have e:k=ops.length:=by omega
            rw [e] at hst
            exact hst
          have hnk2:¬ (k:Int)<(ops.length:Int):=by omega
          clear hst
          go_wp2
          go_loopw [7,11] (fun ok i wr=>∃ j:Nat,j≤4∧i = .int .i64 j∧ok = .bool true∧SSt w w.heap.size w.heap.size (ops.length+j) wr) (fun _ i _=>4 - (intOf i).toNat)
          case atStart=>exact ⟨0,by omega,rfl,rfl,HT.out⟩
          case round =>
            clear HT
            obtain ⟨j,hj,rfl,rfl,hst⟩:=hrel
            by_cases hlt4:j<4
            · have hlt4':(j:Int)<4:=by omega
              obtain ⟨pb,pn,pc,lx,rx,c0,hpn,x0,x1,HA⟩:=hst.acc (by omega)
              have hpn':(0:Int)<(pn:Int):=by omega
              clear hst
              go_wp2_with ((go_at_call 10;refine (HA.out j).mono ?_;rintro e W2 ⟨rfl,hst⟩))
              exact ⟨⟨j+1,by omega,by go_num,rfl,hst⟩,by simp [intOf];omega⟩
            · obtain ⟨s,_,_,_,_,hB⟩:=hst
              go_wp2
              go_ret
              exact ⟨rfl,hB⟩
end

section
open Go.ChangeShapes Go.WideShapes Go.ChangeAt Go.RowKit Go.Deep

theorem bulk_pos {H:Type} (d:DataW H):1≤Rows.uptoBulk d:=by
  cases d with
  | lit l=>cases l <;> simp [Rows.uptoBulk]
  | _=>simp [Rows.uptoBulk]

theorem bulk_mem {H:Type} {d:DataW H}:∀ {l:List (DataW H)},d∈l→Rows.uptoBulk d≤Rows.uptoBulkAll l
  | x :: r,h=>by
    simp only [Rows.uptoBulkAll]
    rcases List.mem_cons.1 h with e | e
    · rw [e];omega
    · have:=bulk_mem e;omega

theorem bulk_len {H:Type}:∀ l:List (DataW H),l.length≤Rows.uptoBulkAll l
  | []=>Nat.zero_le _
  | x :: r=>by
    have h1:=bulk_len r
    have h2:=bulk_pos x
    simp only [Rows.uptoBulkAll,List.length_cons]
    omega

theorem cells42:Tryz.prog.cellsOf 42=16:=by kernel_rfl
theorem cells3':Tryz.prog.cellsOf 3=1:=by kernel_rfl

section
variable {H:Type} {enc:TypeId × Value→H} {w:World} {base:Nat} {held:Bool}

theorem int_of {spare:Nat→Bool} {n:Nat} {v:Value} {y:DataW H × List MemPlace} (h:DataW.trod enc Tryz.prog w base spare held n 3 [v]=some y):∃ k:Int,v = .int .i64 k∧-9223372036854775808≤k∧k≤9223372036854775807:=by
  obtain ⟨k,e,_,hw⟩:=DataW.trod_int Tryz.underlying3 h
  refine ⟨k,by simpa using e,?_⟩
  simpa [Lit.wf,IntKind.min,IntKind.max,IntKind.signed,IntKind.bits] using hw

theorem rv_of {n:Nat} {v:Value} {y:DataW H × List MemPlace} (h:DataW.trod enc Tryz.prog w base (fun _=>true) held n 38 [v]=some y) (hb:Rows.uptoBulk y.1≤1048576):RvOk w v:=by
  rcases open_ints Tryz.underlying38 Tryz.underlying3 cells3' h with ⟨e,_⟩ | ⟨a,len,cap,zs,e,_,hl,_,hz,hy,hc,_⟩
  · exact .inl (by simpa using e)
  · have e:v = .slice (some a) len cap:=by simpa using e
    simp only [if_true] at hz
    by_cases h0:cap=0
    · have hl0:len=0:=by omega
      subst h0 hl0
      exact .inr (.inl ⟨a,e⟩)
    · have hsp:=World.cell?_spot (hc 0 (by omega))
      obtain ⟨b,off,sp⟩:=a
      have hsp:sp=none:=by simpa [Addr.add] using hsp
      subst hsp
      have hlen:(zs.take len).length=len:=by rw [List.length_take];omega
      refine .inr (.inr ⟨b,off,cap,zs.take len,by rw [hlen];exact e,fun i x q=>?_,?_⟩)
      · have hi:i<len:=by
          have:=(List.getElem?_eq_some_iff.1 q).1
          omega
        have hx:zs[i]? = some x:=by rw [List.getElem?_take] at q;simpa [hi] using q
        have:=hc i (by omega)
        rw [add_plain] at this
        rw [this]
        simp [List.getD,hx]
      · rw [hlen]
        subst hy
        have h1:=bulk_len (lits (H:=H) .i64 (zs.take len))
        simp only [Rows.uptoBulk] at hb
        simp only [lits,List.length_map] at h1
        rw [hlen] at h1
        simp only [lits] at hb
        omega

set_option maxRecDepth 100000 in
set_option maxHeartbeats 1000000 in
theorem order_of {spare:Nat→Bool} {n:Nat} {v0 v1 v2 v3 v4 v5 v6 v7:Value} {x:DataW H × List MemPlace} (h:DataW.trod enc Tryz.prog w base spare held n 40 [v0,v1,v2,v3,v4,v5,v6,v7]=some x) :
    ∃ o0 o1 o2 o3 o4 o5 o6 o7:Int,(v0 = .int .i64 o0∧v1 = .int .i64 o1∧v2 = .int .i64 o2∧v3 = .int .i64 o3)∧v4 = .int .i64 o4∧v5 = .int .i64 o5∧v6 = .int .i64 o6∧v7 = .int .i64 o7:=by
  obtain ⟨zs,m2,_,_,_,hzl,hz⟩:=DataW.trod_struct Tryz.underlying40 h
  have hn:∀ i,i<8→∃ y,zs[i]? = some y:=fun i hi=>⟨zs[i]'(by rw [hzl];exact hi),by simp⟩
  obtain ⟨z0,q0⟩:=hn 0 (by decide)
  obtain ⟨z1,q1⟩:=hn 1 (by decide)
  obtain ⟨z2,q2⟩:=hn 2 (by decide)
  obtain ⟨z3,q3⟩:=hn 3 (by decide)
  obtain ⟨z4,q4⟩:=hn 4 (by decide)
  obtain ⟨z5,q5⟩:=hn 5 (by decide)
  obtain ⟨z6,q6⟩:=hn 6 (by decide)
  obtain ⟨z7,q7⟩:=hn 7 (by decide)
  have t0:=hz 0 _ rfl
  rw [q0] at t0
  have t1:=hz 1 _ rfl
  rw [q1] at t1
  have t2:=hz 2 _ rfl
  rw [q2] at t2
  have t3:=hz 3 _ rfl
  rw [q3] at t3
  have t4:=hz 4 _ rfl
  rw [q4] at t4
  have t5:=hz 5 _ rfl
  rw [q5] at t5
  have t6:=hz 6 _ rfl
  rw [q6] at t6
  have t7:=hz 7 _ rfl
  rw [q7] at t7
  clear hn hz q0 q1 q2 q3 q4 q5 q6 q7 h
  obtain ⟨o0,e0,_⟩:=int_of t0
  obtain ⟨o1,e1,_⟩:=int_of t1
  obtain ⟨o2,e2,_⟩:=int_of t2
  obtain ⟨o3,e3,_⟩:=int_of t3
  obtain ⟨o4,e4,_⟩:=int_of t4
  obtain ⟨o5,e5,_⟩:=int_of t5
  obtain ⟨o6,e6,_⟩:=int_of t6
  obtain ⟨o7,e7,_⟩:=int_of t7
  exact ⟨o0,o1,o2,o3,o4,o5,o6,o7,⟨e0,e1,e2,e3⟩,e4,e5,e6,e7⟩

set_option maxRecDepth 100000 in
set_option maxHeartbeats 1000000 in
theorem op_of {n:Nat} {cs:List Value} {x:DataW H × List MemPlace} (h:DataW.trod enc Tryz.prog w base (fun _=>true) held n 42 cs=some x) (hb:Rows.uptoBulk x.1≤1048576) :
    ∃ o:OpV,cs=o.cells.toList∧RvOk w o.rv∧-9223372036854775808≤o.M∧o.M≤9223372036854775807:=by
  obtain ⟨xs,m,rfl,rfl,hl,hxl,hf⟩:=DataW.trod_struct Tryz.underlying42 h
  rw [cells42] at hl
  match xs,hxl,cs,hl with
  | [y0,y1,y2,y3,y4,y5,y6,y7,y8],_,[v0,v1,v2,v3,v4,v5,v6,v7,v8,v9,v10,v11,v12,v13,v14,v15],_ =>
    have g0:=hf 0 _ rfl
    have g1:=hf 1 _ rfl
    have g2:=hf 2 _ rfl
    have g3:=hf 3 _ rfl
    have g4:=hf 4 _ rfl
    have g5:=hf 5 _ rfl
    have g6:=hf 6 _ rfl
    have g7:=hf 7 _ rfl
    have g8:=hf 8 _ rfl
    simp only [List.getElem?_cons_zero,List.getElem?_cons_succ] at g0 g1 g2 g3 g4 g5 g6 g7 g8
    obtain ⟨o0,o1,o2,o3,o4,o5,o6,o7,⟨rfl,rfl,rfl,rfl⟩,rfl,rfl,rfl,rfl⟩:=order_of g8
    obtain ⟨k0,rfl,_⟩:=int_of g0
    obtain ⟨k1,rfl,hM⟩:=int_of g1
    obtain ⟨k2,rfl,_⟩:=int_of g2
    obtain ⟨k3,rfl,_⟩:=int_of g3
    obtain ⟨k4,rfl,_⟩:=int_of g4
    obtain ⟨k5,rfl,_⟩:=int_of g5
    obtain ⟨k6,rfl,_⟩:=int_of g6
    have hb7:Rows.uptoBulk y7.1≤1048576:=by
      simp only [Rows.uptoBulk] at hb
      have:=bulk_mem (d:=y7.1) (l:=[y0,y1,y2,y3,y4,y5,y6,y7,y8].map (·.1)) (by simp)
      omega
    exact ⟨⟨k0,k1,k2,k3,k4,k5,k6,v7,⟨o0,o1,o2,o3,o4,o5,o6,o7⟩⟩,rfl,rv_of g7 hb7,hM⟩

theorem script_of {fuel:Nat} {a:Option Addr} {len cap:Nat} {x:DataW H × List MemPlace} (h:DataW.trod enc Tryz.prog w base (fun _=>true) held fuel 22 [.slice a len cap]=some x) (hb:Rows.uptoBulk x.1≤1048576):∃ ops:List OpV,ops.length=len∧Script w a ops:=by
  rcases open_slice Tryz.underlying22 h with ⟨e,_⟩ | ⟨ad,len',cap',m,n,D,Pl,e,_,hl,_,hm,rfl,hx⟩
  · have e:a=none∧len=0∧cap=0:=by simpa using e
    obtain ⟨rfl,rfl,rfl⟩:=e
    exact ⟨[],rfl,by simp,fun i o q=>by simp at q,fun o q=>by simp at q,fun o q=>by simp at q⟩
  · have e:a=some ad∧len=len'∧cap=cap':=by simpa using e
    obtain ⟨rfl,rfl,rfl⟩:=e
    simp only [if_true] at hm
    subst hm
    rw [cells42] at hx
    simp only [Rows.uptoBulk] at hb
    have hlen:len≤1048576:=by
      have:=bulk_len ((List.range len).map D)
      simp only [List.length_map,List.length_range] at this
      omega
    have each:∀ i,i<len→∃ o:OpV,(∀ j u,o.cells[j]? = some u→w.cell? (ad.add (i * 16+j))=some u)∧RvOk w o.rv∧-9223372036854775808≤o.M∧o.M≤9223372036854775807:=fun i hi=>by
      obtain ⟨cs,h1,h2⟩:=hx i (by omega)
      have hbi:Rows.uptoBulk (D i)≤1048576:=by
        have:=bulk_mem (d:=D i) (l:=(List.range len).map D) (List.mem_map.2 ⟨i,List.mem_range.2 hi,rfl⟩)
        omega
      obtain ⟨o,ho,hr,hM⟩:=op_of h2 hbi
      obtain ⟨_,hcl,hcell⟩:=World.cells?_some h1
      refine ⟨o,fun j u q=>?_,hr,hM⟩
      have hj:j<16:=by have:=(Array.getElem?_eq_some_iff.1 q).1;simpa [OpV.cells] using this
      have:=hcell j hj
      rw [add_add] at this
      rw [this,ho]
      simpa using q
    haveI:Inhabited OpV:=⟨⟨0,0,0,0,0,0,0,.slice none 0 0,⟨0,0,0,0,0,0,0,0⟩⟩⟩
    obtain ⟨f,hf⟩:=choose_lt each
    have mem:∀ o,o∈(List.range len).map f→∃ i,i<len∧f i=o:=fun o q=>by
      obtain ⟨i,hi,e⟩:=List.mem_map.1 q
      exact ⟨i,List.mem_range.1 hi,e⟩
    refine ⟨(List.range len).map f,by simp,by simpa using hlen,fun i o q=>?_,fun o q=>?_,fun o q=>?_⟩
    · have hi:i<len:=by have:=(List.getElem?_eq_some_iff.1 q).1;simpa using this
      have e:f i=o:=by simpa [hi] using q
      subst e
      obtain ⟨hc,_,_⟩:=hf i hi
      have hsp:=World.cell?_spot ((hf 0 (by omega)).1 0 _ rfl)
      obtain ⟨b,off,sp⟩:=ad
      have hsp:sp=none:=by simpa [Addr.add] using hsp
      subst hsp
      refine ⟨b,off,rfl,fun j u q=>?_⟩
      have:=hc j u q
      rw [add_plain] at this
      rw [Nat.add_assoc]
      exact this
    · obtain ⟨i,hi,rfl⟩:=mem o q
      exact (hf i hi).2.1
    · obtain ⟨i,hi,rfl⟩:=mem o q
      exact (hf i hi).2.2

end
end

end Go.Proofs.YtcfoobhihhndjaaGreat
