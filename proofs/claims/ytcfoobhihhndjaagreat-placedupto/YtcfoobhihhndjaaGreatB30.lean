
import Derived.ArgAppend
import Derived.Deep.AppendLies
import Derived.Deep.DeepCutAuto
import Derived.Deep.RegionHeld3
import Derived.Deep.RegionLaw
import Derived.Test.YtcfoobhihhndjaaGreatB01
import Derived.Test.YtcfoobhihhndjaaGreatB02
namespace Go.Proofs.YtcfoobhihhndjaaGreat

section
open Go.RowKit

def There (w:World) (g k:Nat):Prop:=∀ j,j<k→(w.cell? ⟨g,j,none⟩).isSome=true∧w.frozen? ⟨g,j,none⟩=false

theorem There.less {w:World} {g k k':Nat} (h:There w g k) (hk:k'≤k):There w g k':=fun j hj=>h j (by omega)
theorem There.at {w:World} {g k:Nat} (h:There w g k) (j:Nat) (hj:j<k):∃ u,Own w ⟨g,j,none⟩ u:=by
  obtain ⟨u,hu⟩:=Option.isSome_iff_exists.1 (h j hj).1
  exact ⟨u,hu,(h j hj).2⟩

structure Ext (row:Option Nat) (w w':World):Prop where
  kp:Kep (fun b=>row=some b) w w'
  th:∀ g k,There w g k→There w' g k

theorem Ext.refl (row:Option Nat) (w:World):Ext row w w:=⟨Kep.refl _ _,fun _ _ h=>h⟩
theorem Ext.trans {row:Option Nat} {a b c:World} (h:Ext row a b) (k:Ext row b c):Ext row a c:=⟨h.kp.trans k.kp,fun g n q=>k.th g n (h.th g n q)⟩
theorem There.keep {w w':World} {S:Nat→Prop} {g k:Nat} (h:There w g k) (kp:Kep S w w') (hg:¬ S g):There w' g k:=fun j hj=>by
  obtain ⟨u,hu⟩:=h.at j hj
  have:=hu.kep kp hg
  exact ⟨by rw [this.cell];rfl,this.free⟩
theorem Ext.of_keeps {row:Option Nat} {w w':World} (k:Kep non w w'):Ext row w w':=⟨k.none,fun _ _ h=>h.keep k (fun q=>q)⟩
theorem Ext.alloc {row:Option Nat} {a w:World} (h:Ext row a w) (o:Obj):Ext row a (w.alloc o):=h.trans (.of_keeps ((Kep.refl _ _).alloc o))
theorem Ext.drew {row:Option Nat} {a w:World} (h:Ext row a w):Ext row a w.drew:=h.trans (.of_keeps ((Kep.refl _ _).drew))

theorem There.setCell {w:World} {g k:Nat} (h:There w g k) (b o:Nat) (v:Value):There (w.setCell ⟨b,o,none⟩ v) g k:=fun j hj=>by
  obtain ⟨u,hu⟩:=h.at j hj
  by_cases e:(⟨g,j,none⟩ : Addr)=⟨b,o,none⟩
  · rw [← e]
    have:=hu.set rfl v
    exact ⟨by rw [this.cell];rfl,this.free⟩
  · have:=hu.set_other e rfl rfl v
    exact ⟨by rw [this.cell];rfl,this.free⟩

theorem There.setCells {w:World} {g k:Nat} (h:There w g k) (b o:Nat) (vs:List Value):There (w.setCells b o vs) g k:=by
  induction vs generalizing w o with
  | nil=>exact h
  | cons v r ih=>exact ih (h.setCell b o v) (o+1)

theorem keeps_setCells' {a w:World} {S:Nat→Prop} {b:Nat} (h:Kep S a w) (hb:S b∨a.heap.size≤b) (o:Nat) (vs:List Value):Kep S a (w.setCells b o vs):=by
  induction vs generalizing w o with
  | nil=>exact h
  | cons v r ih=>exact ih (h.setCell (p:=⟨b,o,none⟩) hb v) (o+1)

def LRow (w:World) (l:Value) (z n c:Nat):Prop :=
  (l = .slice none 0 0∧n=0∧c=0)∨∃ g,l = .slice (some ⟨g,0,none⟩) n c∧n≤c∧There w g (c * z)

theorem LRow.ext {w w':World} {l:Value} {z n c:Nat} {row:Option Nat} (h:LRow w l z n c) (e:Ext row w w'):LRow w' l z n c:=by
  rcases h with h | ⟨g,h1,h2,h3⟩
  · exact .inl h
  · exact .inr ⟨g,h1,h2,e.th _ _ h3⟩

theorem LRow.form {w:World} {l:Value} {z n c:Nat} (h:LRow w l z n c):∃ a,l = .slice a n c:=by
  rcases h with ⟨h1,rfl,rfl⟩ | ⟨g,h1,_⟩
  · exact ⟨_,h1⟩
  · exact ⟨_,h1⟩

theorem there_row {w:World} {g n e size:Nat} {xs:List Value} {c:Nat} (h:w.ownsRow 0 e size (.slice (some ⟨g,0,none⟩) n c) n xs):There w g (c * size):=by
  rcases h.2 with ⟨h1,_⟩ | ⟨g',c',cur,h1,_,hg,hn,hm,hc,ht⟩
  · simp at h1
  · simp only [Value.slice.injEq,Option.some.injEq,Addr.mk.injEq,and_true,true_and] at h1
    obtain ⟨rfl,rfl⟩:=h1
    intro j hj
    rw [cell_of_row w g j cur e (0,0) hg]
    exact ⟨by simp [hc,hj],frozen_of_row w g j cur e hg⟩

theorem LRow.of_row {w:World} {v:Value} {n e size b:Nat} {xs:List Value} (h:w.ownsRow b e size v n xs):∃ c,LRow w v size n c:=by
  rcases h.2 with ⟨h1,h2⟩ | ⟨g',c',cur,h1,_,hg,hn,hm,hc,ht⟩
  · exact ⟨0,.inl ⟨h1,h2,rfl⟩⟩
  · refine ⟨c',.inr ⟨g',h1,hn,fun j hj=>?_⟩⟩
    rw [cell_of_row w g' j cur e (0,0) hg]
    exact ⟨by simp [hc,hj],frozen_of_row w g' j cur e hg⟩

theorem run_app {P:Program} (w:World) (t ty e:TypeId) (i:TypeInfo) (z:Value) (size bytes:Nat) (ht:P.underlying t=some (.slice e)) (hi:P.info? e=some i) (hz:i.zero=some z)
    (hsize:i.size=size) (hby:i.bytes=bytes) (hzs:z.cells.size=size) (hsz:0<size) (hbs:bytes≤1000)
    (l:Value) (n c:Nat) (hl:LRow w l size n c) (ad:Addr) (m cc:Nat) (news:List Value) (hn:news.length=m * size) (hc:∀ j u,news[j]? = some u→w.cell? (ad.add j)=some u) (h1c:∀ u∈news,u.oneCell'=true) (hm:0<m) (hnm:n+m≤10000000) :
    ∃ g c' w',(Builtin.append_ #[t,t] ty #[l,.slice (some ad) m cc]).run P w = .ok (.slice (some ⟨g,0,none⟩) (n+m) c') w'∧(l.ownBlock=some g∨w.heap.size≤g)∧g<w'.heap.size∧There w' g ((n+m) * size)∧Ext l.ownBlock w w':=by
  have hb2:(n+m) * bytes≤140737488355328:=by
    have:(n+m) * bytes≤10000000 * 1000:=Nat.mul_le_mul hnm hbs
    omega
  have hb1:n+m≤maxLen:=by simp only [maxLen];omega
  rcases hl with ⟨rfl,rfl,rfl⟩ | ⟨g,rfl,hnc,hth⟩
  · obtain ⟨g,cap,w',hr,h1,h2,h3,h4⟩:=run_append_lies (P:=P) w t ty 0 e i z size bytes ht hi hz hsize hby hzs hsz (.slice none 0 0) 0 [] (World.ownsRow_nil _ _ _ _) ad m cc news hn hc h1c hm hb1 hb2 (Nat.zero_le _) _ rfl
    have hg:w.heap.size≤g:=by
      rcases h3 with h3 | h3
      · simp [Value.ownBlock] at h3
      · omega
    have hlc:0+m≤cap:=by
      rcases h1.2 with ⟨q,_⟩ | ⟨_,_,_,q,_,_,q2,_⟩
      · simp at q
      · simp only [Value.slice.injEq,true_and] at q
        rw [q.2];exact q2
    exact ⟨g,cap,w',hr,.inr hg,h4,(there_row h1).less (Nat.mul_le_mul_right _ hlc),.of_keeps ((Kep.refl _ _).grown h2 (by simp [Value.ownBlock]))⟩
  · by_cases hroom:n+m≤c
    · subst hsize
      have hin:∀ j,j<news.length→0+n * i.size+j<c * i.size:=fun j hj=>by
        have:(n+m) * i.size≤c * i.size:=Nat.mul_le_mul_right _ hroom
        rw [Nat.add_mul] at this
        omega
      have hr:=run_append_room_cells (P:=P) w t ty e i ht hi g 0 n c ad m cc news hn hc h1c hroom (fun j hj=>(hth _ (hin j hj)).1) (fun j hj=>(hth _ (hin j hj)).2)
      have hth':=hth.setCells g (0+n * i.size) news
      have hlt:g<(w.setCells g (0+n * i.size) news).heap.size:=by
        have hpos:0<c * i.size:=Nat.mul_pos (by omega) hsz
        obtain ⟨u,hu⟩:=hth'.at 0 hpos
        exact hu.lt
      exact ⟨g,c,_,hr,.inl rfl,hlt,hth'.less (Nat.mul_le_mul_right _ hroom),keeps_setCells' (S:=fun b=>(Value.slice (some ⟨g,0,none⟩) n c).ownBlock=some b) (b:=g) (Kep.refl _ _) (.inl rfl) _ _,fun _ _ h=>h.setCells _ _ _⟩
    · have hval:∀ j,j<n * size→∃ u,w.cell? ⟨g,j,none⟩=some u:=fun j hj=>by
        have:n * size≤c * size:=Nat.mul_le_mul_right _ hnc
        obtain ⟨u,hu⟩:=hth.at j (by omega)
        exact ⟨u,hu.cell⟩
      let olds:List Value:=(List.range (n * size)).map fun j=>(w.cell? ⟨g,j,none⟩).getD default
      have hlo:olds.length=n * size:=by simp [olds]
      have holds:∀ j u,olds[j]? = some u→w.cell? ((⟨g,0,none⟩ : Addr).add j)=some u:=fun j u hu=>by
        have hj:j<n * size:=by have:=(List.getElem?_eq_some_iff.1 hu).1;rw [hlo] at this;exact this
        obtain ⟨x,hx⟩:=hval j hj
        have:olds[j]? = some ((w.cell? ⟨g,j,none⟩).getD default):=by simp [olds,hj]
        rw [this,hx] at hu
        have hadd:(⟨g,0,none⟩ : Addr).add j=⟨g,j,none⟩:=by unfold Addr.add;split <;> simp_all
        rw [hadd,hx]
        simpa using hu
      obtain ⟨v',w',hr,h1,h2⟩:=run_append_arg_grows (P:=P) w t ty e i z size bytes ht hi hz hsize hby hzs hsz ⟨g,0,none⟩ n c olds hlo holds ad m cc news hn hc (by omega) hb1 hb2
      obtain ⟨g',cap,rfl,hbg,hlt⟩:=h1.form (by omega)
      have h1':w'.ownsRow 0 e size (.slice (some ⟨g',0,none⟩) (n+m) cap) (n+m) (olds ++ news):=by
        refine ⟨h1.1,?_⟩
        rcases h1.2 with q | ⟨a,b,d,q,_,r⟩
        · exact .inl q
        · exact .inr ⟨a,b,d,q,Nat.zero_le _,r⟩
      have hlc:n+m≤cap:=by
        rcases h1.2 with ⟨q,_⟩ | ⟨_,_,_,q,_,_,q2,_⟩
        · simp at q
        · simp only [Value.slice.injEq,true_and] at q
          rw [q.2];exact q2
      exact ⟨g',cap,w',hr,.inr hbg,hlt,(there_row h1').less (Nat.mul_le_mul_right _ hlc),.of_keeps ((Kep.refl _ _).grown h2 (by simp))⟩

theorem step_app {P:Program} {w:World} {ops:Array Oper} {o:Oper} {a:Act} {K:Act→World→Prop} {Q:Exit→Act→World→Prop} {E:Prop} (hgd:o.guard=none) (s x:Operand) (t:TypeId)
    (ho:o.op = .call { callee:=.builtin .append,args:=#[s,x],argTypes:=#[t,t] })
    (e:TypeId) (i:TypeInfo) (z:Value) (size bytes:Nat) (ht:P.underlying t=some (.slice e)) (hi:P.info? e=some i) (hz:i.zero=some z)
    (hsize:i.size=size) (hby:i.bytes=bytes) (hzs:z.cells.size=size) (hsz:0<size) (hbs:bytes≤1000)
    (l:Value) (n c:Nat) (hs:a.eval s=l) (hl:LRow w l size n c) (ad:Addr) (m cc:Nat) (news:List Value) (hx:a.eval x = .slice (some ad) m cc) (hn:news.length=m * size) (hc:∀ j u,news[j]? = some u→w.cell? (ad.add j)=some u) (h1c:∀ u∈news,u.oneCell'=true) (hm:0<m) (hnm:n+m≤10000000)
    (h:∀ g c' w',(l.ownBlock=some g∨w.heap.size≤g)→g<w'.heap.size→There w' g ((n+m) * size)→Ext l.ownBlock w w'→K (a.put o.dst (.slice (some ⟨g,0,none⟩) (n+m) c')) w') :
    if Region.wanted o (yielded ops a.tmps)=true then Oper.wp P o a w K Q else E:=by
  have hw:Region.wanted o (yielded ops a.tmps)=true:=by simp [Region.wanted,hgd]
  rw [if_pos hw]
  obtain ⟨g,c',w',hr,h2,h3,h4,h5⟩:=run_app (P:=P) w t o.type e i z size bytes ht hi hz hsize hby hzs hsz hbs l n c hl ad m cc news hn hc h1c hm hnm
  unfold Oper.wp execOp
  simp only [ho,resolve,invoke,builtin,Sem.run_bind,Sem.run_pure,Result.andThen_ok,List.map_toArray,List.map_cons,List.map_nil,hs,hx,hr]
  exact h g c' w' h2 h3 h4 h5

theorem wpList_app {P:Program} {w:World} {ops:Array Oper} {rest:List Oper} {o:Oper} {a:Act} {Q:Exit→Act→World→Prop} (hgd:o.guard=none) (s x:Operand) (t:TypeId)
    (ho:o.op = .call { callee:=.builtin .append,args:=#[s,x],argTypes:=#[t,t] })
    (e:TypeId) (i:TypeInfo) (z:Value) (size bytes:Nat) (ht:P.underlying t=some (.slice e)) (hi:P.info? e=some i) (hz:i.zero=some z)
    (hsize:i.size=size) (hby:i.bytes=bytes) (hzs:z.cells.size=size) (hsz:0<size) (hbs:bytes≤1000)
    (l:Value) (n c:Nat) (hs:a.eval s=l) (hl:LRow w l size n c) (ad:Addr) (m cc:Nat) (news:List Value) (hx:a.eval x = .slice (some ad) m cc) (hn:news.length=m * size) (hc:∀ j u,news[j]? = some u→w.cell? (ad.add j)=some u) (h1c:∀ u∈news,u.oneCell'=true) (hm:0<m) (hnm:n+m≤10000000)
    (h:∀ g c' w',(l.ownBlock=some g∨w.heap.size≤g)→g<w'.heap.size→There w' g ((n+m) * size)→Ext l.ownBlock w w'→wpList P ops Q rest (a.put o.dst (.slice (some ⟨g,0,none⟩) (n+m) c')) w'):wpList P ops Q (o :: rest) a w :=
  wpList_plain hgd fun K hK=>by
    obtain ⟨g,c',w',hr,h2,h3,h4,h5⟩:=run_app (P:=P) w t o.type e i z size bytes ht hi hz hsize hby hzs hsz hbs l n c hl ad m cc news hn hc h1c hm hnm
    unfold Oper.wp execOp
    simp only [ho,resolve,invoke,builtin,Sem.run_bind,Sem.run_pure,Result.andThen_ok,List.map_toArray,List.map_cons,List.map_nil,hs,hx,hr]
    exact hK _ _ (h g c' w' h2 h3 h4 h5)

def MarkList (D:Nat→Prop) (w:World) (s:Value) (mk:List Value) (z:Nat):Prop :=
  ∃ a n c,s = .slice a n c∧n≤10000000∧(n=0∨∃ g,a=some ⟨g,0,none⟩∧D g∧∀ j,j<n→∀ k u,mk[k]? = some u→w.cell? ⟨g,j * z+k,none⟩=some u)

def Marked (D:Nat→Prop) (w:World) (v:Value) (mk:List Value) (z:Nat):Prop :=
  ∃ nb s0 s1 s2 s3,v = .slice (some ⟨nb,0,none⟩) 4 4∧D nb∧w.cell? ⟨nb,0,none⟩=some s0∧w.cell? ⟨nb,1,none⟩=some s1∧w.cell? ⟨nb,2,none⟩=some s2∧w.cell? ⟨nb,3,none⟩=some s3 ∧
    MarkList D w s0 mk z∧MarkList D w s1 mk z∧MarkList D w s2 mk z∧MarkList D w s3 mk z

theorem MarkList.keep {D D':Nat→Prop} {w w':World} {s:Value} {mk:List Value} {z:Nat} {S:Nat→Prop} (h:MarkList D w s mk z) (hz:0<mk.length) (k:Kep S w w') (hS:∀ b,D b→¬ S b) (hD:∀ b,b<w.heap.size→D b→D' b):MarkList D' w' s mk z:=by
  obtain ⟨a,n,c,h1,hb,h2⟩:=h
  refine ⟨a,n,c,h1,hb,?_⟩
  rcases h2 with h2 | ⟨g,h2,h3,h4⟩
  · exact .inl h2
  · by_cases hn:n=0
    · exact .inl hn
    · have hlt:=World.block_lt_of_cell? w _ (h4 0 (by omega) 0 mk[0] (by simp))
      exact .inr ⟨g,h2,hD g hlt h3,fun j hj i u hu=>k.cell (h4 j hj i u hu) (hS g h3)⟩

theorem Marked.keep {D D':Nat→Prop} {w w':World} {v:Value} {mk:List Value} {z:Nat} {S:Nat→Prop} (h:Marked D w v mk z) (hz:0<mk.length) (k:Kep S w w') (hS:∀ b,D b→¬ S b) (hD:∀ b,b<w.heap.size→D b→D' b):Marked D' w' v mk z:=by
  obtain ⟨nb,s0,s1,s2,s3,h1,h2,c0,c1,c2,c3,m0,m1,m2,m3⟩:=h
  have hlt:=World.block_lt_of_cell? w _ c0
  exact ⟨nb,s0,s1,s2,s3,h1,hD nb hlt h2,k.cell c0 (hS nb h2),k.cell c1 (hS nb h2),k.cell c2 (hS nb h2),k.cell c3 (hS nb h2),m0.keep hz k hS hD,m1.keep hz k hS hD,m2.keep hz k hS hD,m3.keep hz k hS hD⟩

structure Four (w0:World) (own:Option Nat) (nb n z:Nat) (G C:Nat→Nat) (A:Nat→Option Addr) (et:TypeId) (wr:World):Prop where
  ex:Kep (fun b=>own=some b) w0 wr
  row:wr.heap[nb]? = some (.cells #[.slice (A 0) n (C 0),.slice (A 1) (n+1) (C 1),.slice (A 2) (n+2) (C 2),.slice (A 3) (n+3) (C 3)] et (0,0))
  new:w0.heap.size≤nb
  adr:∀ q,q<4→0<n+q→A q=some ⟨G q,0,none⟩
  th:∀ q,q<4→0<n+q→There wr (G q) ((n+q) * z)
  own:∀ q,q<4→0<n+q→own=some (G q)∨w0.heap.size≤G q
  ne:∀ q,q<4→0<n+q→G q≠nb

theorem Four.set {w0:World} {ow:Option Nat} {nb n z:Nat} {G C:Nat→Nat} {A:Nat→Option Addr} {et:TypeId} {wr:World} (h:Four w0 ow nb n z G C A et wr) (q:Nat) (hq:q<4) (hn:0<n+q) (o:Nat) (v:Value) :
    Four w0 ow nb n z G C A et (wr.setCell ⟨G q,o,none⟩ v) :=
  ⟨h.ex.setCell (p:=⟨G q,o,none⟩) (h.own q hq hn) _,by rw [heap_setCell_other _ _ _ _ (Ne.symm (h.ne q hq hn))];exact h.row,h.new,h.adr,fun i hi hi'=>(h.th i hi hi').setCell _ _ _,h.own,h.ne⟩

theorem Four.at {w0:World} {ow:Option Nat} {nb n z:Nat} {G C:Nat→Nat} {A:Nat→Option Addr} {et:TypeId} {wr:World} (h:Four w0 ow nb n z G C A et wr) (q:Nat) (hq:q<4):wr.cell? ⟨nb,q,none⟩=some (.slice (A q) (n+q) (C q)):=by
  rw [cell_of_row wr nb q _ _ _ h.row]
  rcases q with _ | _ | _ | _ | q
  all_goals first | rfl | omega

def Done (n z:Nat) (G:Nat→Nat) (mk:List Value) (k:Nat) (wr:World):Prop:=∀ q,q<k→∀ j,j<n+q→∀ i u,mk[i]? = some u→wr.cell? ⟨G q,j * z+i,none⟩=some u

theorem Four.marked {w0:World} {ow:Option Nat} {nb n z:Nat} {G C:Nat→Nat} {A:Nat→Option Addr} {et:TypeId} {wr:World} {mk:List Value} {D:Nat→Prop} (h:Four w0 ow nb n z G C A et wr) (d:Done n z G mk 4 wr) (hbn:n≤9000000) (hD:∀ b,ow=some b∨w0.heap.size≤b→D b) :
    Marked D wr (.slice (some ⟨nb,0,none⟩) 4 4) mk z:=by
  have ml:∀ q,q<4→MarkList D wr (.slice (A q) (n+q) (C q)) mk z:=fun q hq=>by
    refine ⟨A q,n+q,C q,rfl,by omega,?_⟩
    by_cases hn:n+q=0
    · exact .inl hn
    · exact .inr ⟨G q,h.adr q hq (by omega),hD _ (h.own q hq (by omega)),fun j hj i u hu=>d q hq j hj i u hu⟩
  exact ⟨nb,_,_,_,_,rfl,hD nb (.inr h.new),h.at 0 (by decide),h.at 1 (by decide),h.at 2 (by decide),h.at 3 (by decide),ml 0 (by decide),ml 1 (by decide),ml 2 (by decide),ml 3 (by decide)⟩

theorem cell_set_same {w:World} {p q:Addr} {v:Value} (h:w.cell? p=some v):(w.setCell q v).cell? p=some v:=by
  by_cases e:q=p
  · subst e
    exact World.cell?_setCell_same _ _ _ h
  · rw [World.cell?_setCell_other _ _ _ _ e]
    exact h

def pick4 {α:Type} (x0 x1 x2 x3:α):Nat→α
  | 0=>x0
  | 1=>x1
  | 2=>x2
  | _=>x3

theorem four_made {w w1 w2 w3:World} {a:Option Addr} {n c z g1 c1 g2 c2 g3 c3:Nat} {et:TypeId} (hz:0<z) (hl:LRow w (.slice a n c) z n c)
    (e1:Ext (Value.slice a n c).ownBlock w w1) (h1:(Value.slice a n c).ownBlock=some g1∨w.heap.size≤g1) (l1:g1<w1.heap.size) (t1:There w1 g1 ((n+1) * z))
    (e2:Ext (Value.slice a n c).ownBlock w1 w2) (h2:(Value.slice a n c).ownBlock=some g2∨w.heap.size≤g2) (l2:g2<w2.heap.size) (t2:There w2 g2 ((n+2) * z))
    (e3:Ext (Value.slice a n c).ownBlock w2 w3) (h3:(Value.slice a n c).ownBlock=some g3∨w.heap.size≤g3) (l3:g3<w3.heap.size) (t3:There w3 g3 ((n+3) * z)) :
    Four w (Value.slice a n c).ownBlock w3.heap.size n z (pick4 ((Value.slice a n c).ownBlock.getD 0) g1 g2 g3) (pick4 c c1 c2 c3) (pick4 a (some ⟨g1,0,none⟩) (some ⟨g2,0,none⟩) (some ⟨g3,0,none⟩)) et
      (w3.alloc (.cells #[.slice a n c,.slice (some ⟨g1,0,none⟩) (n+1) c1,.slice (some ⟨g2,0,none⟩) (n+2) c2,.slice (some ⟨g3,0,none⟩) (n+3) c3] et)):=by
  have s1:=e1.kp.size
  have s2:=e2.kp.size
  have s3:=e3.kp.size
  have ex:=((e1.trans e2).trans e3)
  have exa:=ex.alloc (.cells #[.slice a n c,.slice (some ⟨g1,0,none⟩) (n+1) c1,.slice (some ⟨g2,0,none⟩) (n+2) c2,.slice (some ⟨g3,0,none⟩) (n+3) c3] et)
  have al:∀ {g k:Nat},There w3 g k→There (w3.alloc (.cells #[.slice a n c,.slice (some ⟨g1,0,none⟩) (n+1) c1,.slice (some ⟨g2,0,none⟩) (n+2) c2,.slice (some ⟨g3,0,none⟩) (n+3) c3] et)) g k:=fun h=>h.keep (S:=non) ((Kep.refl _ _).alloc _) (fun q=>q)
  have l0:0<n→∃ g,a=some ⟨g,0,none⟩∧There w g (n * z):=fun hn=>by
    rcases hl with ⟨_,h,_⟩ | ⟨g,h,hc,ht⟩
    · omega
    · simp only [Value.slice.injEq,and_true] at h
      exact ⟨g,h,ht.less (Nat.mul_le_mul_right _ hc)⟩
  refine ⟨exa.kp,heap_alloc_new w3 _,by omega,fun q hq hn=>?_,fun q hq hn=>?_,fun q hq hn=>?_,fun q hq hn=>?_⟩
  · rcases q with _ | _ | _ | _ | q
    · obtain ⟨g,rfl,_⟩:=l0 (by omega)
      rfl
    · rfl
    · rfl
    · rfl
    · omega
  · rcases q with _ | _ | _ | _ | q
    · obtain ⟨g,rfl,h⟩:=l0 (by omega)
      exact exa.th _ _ h
    · exact al (e3.th _ _ (e2.th _ _ t1))
    · exact al (e3.th _ _ t2)
    · exact al t3
    · omega
  · rcases q with _ | _ | _ | _ | q
    · obtain ⟨g,rfl,_⟩:=l0 (by omega)
      exact .inl rfl
    · exact h1
    · exact h2
    · exact h3
    · omega
  · rcases q with _ | _ | _ | _ | q
    · obtain ⟨g,rfl,h⟩:=l0 (by omega)
      show g≠w3.heap.size
      obtain ⟨u,hu⟩:=(ex.th _ _ h).at 0 (Nat.mul_pos (by omega) hz)
      have:g<w3.heap.size:=hu.lt
      omega
    · show g1≠w3.heap.size;omega
    · show g2≠w3.heap.size;omega
    · show g3≠w3.heap.size;omega
    · omega

theorem four_any {w W:World} {a:Option Addr} {n c z g1 c1 g2 c2 g3 c3:Nat} {et:TypeId} (hz:0<z) (hl:LRow w (.slice a n c) z n c) (ex:Ext (Value.slice a n c).ownBlock w W)
    (h1:(Value.slice a n c).ownBlock=some g1∨w.heap.size≤g1) (t1:There W g1 ((n+1) * z)) (h2:(Value.slice a n c).ownBlock=some g2∨w.heap.size≤g2) (t2:There W g2 ((n+2) * z)) (h3:(Value.slice a n c).ownBlock=some g3∨w.heap.size≤g3) (t3:There W g3 ((n+3) * z)) :
    Four w (Value.slice a n c).ownBlock W.heap.size n z (pick4 ((Value.slice a n c).ownBlock.getD 0) g1 g2 g3) (pick4 c c1 c2 c3) (pick4 a (some ⟨g1,0,none⟩) (some ⟨g2,0,none⟩) (some ⟨g3,0,none⟩)) et
      (W.alloc (.cells #[.slice a n c,.slice (some ⟨g1,0,none⟩) (n+1) c1,.slice (some ⟨g2,0,none⟩) (n+2) c2,.slice (some ⟨g3,0,none⟩) (n+3) c3] et)):=by
  have lt:∀ {g k:Nat},0<k→There W g (k * z)→g<W.heap.size:=fun hk h=>by
    obtain ⟨u,hu⟩:=h.at 0 (Nat.mul_pos hk hz)
    exact hu.lt
  exact four_made hz hl (Ext.trans ex (Ext.refl _ _)) h1 (lt (by omega) t1) t1 (Ext.refl _ _) h2 (lt (by omega) t2) t2 (Ext.refl _ _) h3 (lt (by omega) t3) t3

structure Whence (row:Option Nat) (w w':World):Prop where
  out:Ext row w w'
theorem Whence.refl (row:Option Nat) (w:World):Whence row w w:=⟨Ext.refl row w⟩
theorem Whence.alloc {row:Option Nat} {a w:World} (h:Whence row a w) (o:Obj):Whence row a (w.alloc o):=⟨Ext.alloc h.out o⟩
theorem Whence.drew {row:Option Nat} {a w:World} (h:Whence row a w):Whence row a w.drew:=⟨Ext.drew h.out⟩
theorem Whence.size {row:Option Nat} {a w:World} (h:Whence row a w):a.heap.size≤w.heap.size:=h.out.kp.size

theorem cell_al {w:World} {p:Addr} {v:Value} {o:Obj} (h:w.cell? p=some v):(w.alloc o).cell? p=some v:=(Kep.alloc (Kep.refl non w) o).cell h (fun q=>q)
theorem blk_new {w:World} {B:Nat} {o:Obj} (h:B=w.heap.size):(w.alloc o).heap[B]? = some o:=by
  subst h
  exact heap_alloc_new w o
theorem blk_alloc {w:World} {B:Nat} {o o':Obj} (h:w.heap[B]? = some o):(w.alloc o').heap[B]? = some o:=by
  rw [Below.heap_alloc w o' B (Array.getElem?_eq_some_iff.1 h).1]
  exact h
theorem blk_ext {row:Option Nat} {w w':World} {B:Nat} {o:Obj} (e:Ext row w w') (hb:∀ b,row=some b→b<B) (h:w.heap[B]? = some o):w'.heap[B]? = some o:=by
  rw [e.kp.block B (Array.getElem?_eq_some_iff.1 h).1 (fun hm=>by have:=hb B hm;omega)]
  exact h

theorem step_app' {P:Program} {w:World} {ops:Array Oper} {o:Oper} {a:Act} {K:Act→World→Prop} {Q:Exit→Act→World→Prop} {E:Prop} (w0:World) (hgd:o.guard=none) (s x:Operand) (t:TypeId)
    (ho:o.op = .call { callee:=.builtin .append,args:=#[s,x],argTypes:=#[t,t] })
    (e:TypeId) (i:TypeInfo) (z:Value) (size bytes:Nat) (ht:P.underlying t=some (.slice e)) (hi:P.info? e=some i) (hz:i.zero=some z)
    (hsize:i.size=size) (hby:i.bytes=bytes) (hzs:z.cells.size=size) (hsz:0<size) (hbs:bytes≤1000)
    (l:Value) (n c:Nat) (hs:a.eval s=l) (hl:LRow w0 l size n c) (ex:Whence l.ownBlock w0 w) (B m cc:Nat) (hx:a.eval x = .slice (some ⟨B,0,none⟩) m cc) (cs:Array Value) (te:TypeId) (hblk:w.heap[B]? = some (.cells cs te (0,0))) (hn:cs.toList.length=m * size) (h1c:∀ u∈cs.toList,u.oneCell'=true) (hm:0<m) (hnm:n+m≤10000000)
    (h:∀ g c' w',(l.ownBlock=some g∨w0.heap.size≤g)→There w' g ((n+m) * size)→Ext l.ownBlock w w'→Whence l.ownBlock w0 w'→K (a.put o.dst (.slice (some ⟨g,0,none⟩) (n+m) c')) w') :
    if Region.wanted o (yielded ops a.tmps)=true then Oper.wp P o a w K Q else E :=
  step_app hgd s x t ho e i z size bytes ht hi hz hsize hby hzs hsz hbs l n c hs (hl.ext ex.out) ⟨B,0,none⟩ m cc cs.toList hx hn (World.news_of_block hblk) h1c hm hnm fun g c' w' h1 _ h3 h4 =>
    h g c' w' (h1.imp id fun h=>Nat.le_trans ex.size h) h3 h4 ⟨Ext.trans ex.out h4⟩

theorem There.dr {w:World} {g k:Nat} (h:There w g k):There w.drew g k:=h
theorem There.alloc {w:World} {g k:Nat} (h:There w g k) (o:Obj):There (w.alloc o) g k:=h.keep (S:=non) ((Kep.refl _ _).alloc o) (fun q=>q)

theorem Four.setCells {w0:World} {ow:Option Nat} {nb n z:Nat} {G C:Nat→Nat} {A:Nat→Option Addr} {et:TypeId} {wr:World} (h:Four w0 ow nb n z G C A et wr) (q:Nat) (hq:q<4) (hn:0<n+q) (o:Nat) (vs:List Value) :
    Four w0 ow nb n z G C A et (wr.setCells (G q) o vs):=by
  induction vs generalizing wr o with
  | nil=>exact h
  | cons v r ih=>exact ih (h.set q hq hn o v) (o+1)

theorem Four.later {w0:World} {ow:Option Nat} {nb n z:Nat} {G C:Nat→Nat} {A:Nat→Option Addr} {et:TypeId} {wr wr':World} (h:Four w0 ow nb n z G C A et wr) (k:Kep non wr wr') (hnb:nb<wr.heap.size):Four w0 ow nb n z G C A et wr' :=
  ⟨h.ex.trans k.none,by rw [k.block nb hnb (fun q=>q)];exact h.row,h.new,h.adr,fun i hi hi'=>(h.th i hi hi').keep k (fun q=>q),h.own,h.ne⟩

theorem mark_stays {wr:World} {g o g' j' i z:Nat} {mk:List Value} {u:Value} (hm:mk.length=z) (hth:∀ x,x<z→(wr.cell? ⟨g,o * z+x,none⟩).isSome=true) (hu:mk[i]? = some u) (h:wr.cell? ⟨g',j' * z+i,none⟩=some u):(wr.setCells g (o * z) mk).cell? ⟨g',j' * z+i,none⟩=some u:=by
  have hi:i<z:=by have:=(List.getElem?_eq_some_iff.1 hu).1;omega
  by_cases e:g'=g∧j'=o
  · obtain ⟨rfl,rfl⟩:=e
    rw [World.cell?_setCells_in g' mk (j' * z) wr (fun j hj=>hth j (by omega)) i (by omega)]
    rw [List.getElem?_eq_getElem (by omega)] at hu
    exact hu
  · rw [World.cell?_setCells_out]
    · exact h
    · intro hb _
      simp only [] at hb ⊢
      have hne:j'≠o:=fun hj=>e ⟨hb,hj⟩
      rcases Nat.lt_or_gt_of_ne hne with q | q
      · have:(j'+1) * z≤o * z:=Nat.mul_le_mul_right _ q
        rw [Nat.add_mul] at this
        omega
      · have:(o+1) * z≤j' * z:=Nat.mul_le_mul_right _ q
        rw [Nat.add_mul] at this
        omega

theorem mark_new {wr:World} {g o i z:Nat} {mk:List Value} {u:Value} (hm:mk.length=z) (hth:∀ x,x<z→(wr.cell? ⟨g,o * z+x,none⟩).isSome=true) (hu:mk[i]? = some u):(wr.setCells g (o * z) mk).cell? ⟨g,o * z+i,none⟩=some u:=by
  have hi:i<z:=by have:=(List.getElem?_eq_some_iff.1 hu).1;omega
  rw [World.cell?_setCells_in g mk (o * z) wr (fun j hj=>hth j (by omega)) i (by omega)]
  rw [List.getElem?_eq_getElem (by omega)] at hu
  exact hu

theorem Marked.at {D:Nat→Prop} {w:World} {v:Value} {mk:List Value} {z:Nat} (h:Marked D w v mk z):∃ nb,v = .slice (some ⟨nb,0,none⟩) 4 4∧∀ k,k<4→∃ a n c,w.cell? ⟨nb,k,none⟩=some (.slice a n c)∧n≤10000000∧∀ j,j<n→∃ g,a=some ⟨g,0,none⟩∧∀ i u,mk[i]? = some u→w.cell? ⟨g,j * z+i,none⟩=some u:=by
  obtain ⟨nb,s0,s1,s2,s3,h1,_,c0,c1,c2,c3,m0,m1,m2,m3⟩:=h
  have ml:∀ {s:Value} {k:Nat},w.cell? ⟨nb,k,none⟩=some s→MarkList D w s mk z→∃ a n c,w.cell? ⟨nb,k,none⟩=some (.slice a n c)∧n≤10000000∧∀ j,j<n→∃ g,a=some ⟨g,0,none⟩∧∀ i u,mk[i]? = some u→w.cell? ⟨g,j * z+i,none⟩=some u:=fun hc hm=>by
    obtain ⟨a,n,c,rfl,hb,h⟩:=hm
    refine ⟨a,n,c,hc,hb,fun j hj=>?_⟩
    rcases h with h | ⟨g,h1,_,h2⟩
    · omega
    · exact ⟨g,h1,fun i u hu=>h2 j hj i u hu⟩
  refine ⟨nb,h1,fun k hk=>?_⟩
  rcases k with _ | _ | _ | _ | k
  · exact ml c0 m0
  · exact ml c1 m1
  · exact ml c2 m2
  · exact ml c3 m3
  · omega

theorem entry_at {w:World} {b:Nat} {e:TypeId} {v:Value} {xs:List Value} (h:w.ownsRow b e 1 v xs.length xs) (i:Nat) (hi:i<xs.length):∃ g c,v = .slice (some ⟨g,0,none⟩) xs.length c∧w.cell? ⟨g,i,none⟩=some xs[i]:=by
  obtain ⟨g,c,rfl,_,_⟩:=h.form (by omega)
  refine ⟨g,c,rfl,?_⟩
  rw [h.cellAt i (by omega)]
  simp
end

section
open Go.RowKit

def mark (z k:Nat):List Value:=.int .i64 (-7070 - (k:Int)) :: List.replicate (z - 1) (.int .i64 0)
theorem mark_pos (z k:Nat):0<(mark z k).length:=by simp [mark]

def Laid (i:Nat) (T:TypeId) (z:Nat) (w:World) (p B0:Nat) (v:Value) (vs:List Value) (l:Value) (w':World):Prop :=
  ∃ v' nv,Own w' ⟨p,i,none⟩ v'∧w'.ownsRow B0 T 1 v' (vs.length+1) (vs ++ [nv])∧(v'.ownBlock=v.ownBlock∨∃ b,v'.ownBlock=some b∧w.heap.size≤b) ∧
      (∀ j u,j≠i→Own w ⟨p,j,none⟩ u→Own w' ⟨p,j,none⟩ u)∧Kep (fun b=>b=p∨l.ownBlock=some b∨v.ownBlock=some b) w w' ∧
      ∀ D:Nat→Prop,(∀ b,l.ownBlock=some b∨(w.heap.size≤b∧v'.ownBlock≠some b)→D b)→Marked D w' nv (mark z vs.length) z

theorem book_end {i na z:Nat} {T:TypeId} {w wr w1:World} {p B0 z0:Nat} {v l:Value} {vs:List Value} {gg cap nb:Nat} (hna:vs.length=na) (hp:p<w.heap.size) (hv:∀ b,v.ownBlock=some b→b<w.heap.size)
    (hlp:l.ownBlock≠some p) (hle:∀ b,l.ownBlock=some b→v.ownBlock≠some b) (hep:v.ownBlock≠some p)
    (hx:Kep (fun b=>l.ownBlock=some b) w wr) (hz0:w.heap.size≤z0) (ho:Own wr ⟨p,i,none⟩ v) (k1:Kep (fun b=>v.ownBlock=some b) wr w1)
    (hown1:w1.ownsRow B0 T 1 (.slice (some ⟨gg,0,none⟩) (na+1) cap) (na+1) (vs ++ [.slice (some ⟨nb,0,none⟩) 4 4])) (hat:v.ownBlock=some gg∨gg=wr.heap.size+1)
    (hM:Marked (fun b=>l.ownBlock=some b∨z0≤b) wr (.slice (some ⟨nb,0,none⟩) 4 4) (mark z na) z) :
    Laid i T z w p B0 v vs l (w1.setCell ⟨p,i,none⟩ (.slice (some ⟨gg,0,none⟩) (na+1) cap)):=by
  have sz:=hx.size
  have nep:(Value.slice (some ⟨gg,0,none⟩) (na+1) cap).ownBlock≠some p:=fun h=>by
    have hgp:gg=p:=by simpa [Value.ownBlock] using h
    rcases hat with h' | h'
    · exact hep (by rw [h',hgp])
    · omega
  have kf:Kep (fun b=>b=p∨v.ownBlock=some b) wr (w1.setCell ⟨p,i,none⟩ (.slice (some ⟨gg,0,none⟩) (na+1) cap)):=(k1.mono (fun b hb=>.inl (.inr hb))).setCell (p:=⟨p,i,none⟩) (.inl (.inl rfl)) _
  subst hna
  refine ⟨.slice (some ⟨gg,0,none⟩) (vs.length+1) cap,.slice (some ⟨nb,0,none⟩) 4 4,(ho.kep k1 hep).set rfl _,ownsRow_setCell_other hown1 nep _,?_,?_,?_,?_⟩
  · rcases hat with h | h
    · exact .inl h.symm
    · exact .inr ⟨gg,rfl,by omega⟩
  · intro j u hj hu
    refine ((hu.kep hx hlp).kep k1 hep).set_other ?_ rfl rfl _
    intro q
    injection q with _ q _
    exact hj q
  · exact (hx.mono fun b hb=>.inl (.inr (.inl hb))).trans (kf.mono fun b hb=>.inl (hb.imp id .inr))
  · intro D hD
    refine hM.keep (mark_pos z _) kf (fun b hb hb'=>?_) (fun b hlt hb=>hD b ?_)
    · rcases hb' with rfl | hb'
      · rcases hb with hb | hb
        · exact hlp hb
        · omega
      · rcases hb with hb | hb
        · exact hle b hb hb'
        · have:=hv b hb';omega
    · rcases hb with hb | hb
      · exact .inl hb
      · refine .inr ⟨by omega,fun h=>?_⟩
        have hgb:gg=b:=by simpa [Value.ownBlock] using h
        rcases hat with h' | h'
        · have:=hv gg h';omega
        · omega
end

end Go.Proofs.YtcfoobhihhndjaaGreat
