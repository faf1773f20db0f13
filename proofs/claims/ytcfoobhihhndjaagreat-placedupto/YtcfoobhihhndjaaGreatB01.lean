
import Derived.LoopIn
import Derived.LoopNIn
import Derived.Maps.AppendAt
import Derived.OwnWalkIn
import Derived.RangeFuncBox
import Derived.RangeFuncLeaves
import Derived.Shelf.Abstract
import Derived.TacticsInMore
import Derived.Test.YtcfoobhihhndjaaGreatProg
import Derived.WalkKit
import Derived.WalkLawsBesides
import Derived.WalkSpells
namespace Go.Proofs.YtcfoobhihhndjaaGreat

section
open Go.RowKit

theorem hide {p:Prop} (h:p):Hid p:=h

structure Own (w:World) (p:Addr) (v:Value):Prop where
  cell:w.cell? p=some v
  free:w.frozen? p=false

theorem Own.lt {w:World} {p:Addr} {v:Value} (h:Own w p v):p.block<w.heap.size:=World.block_lt_of_cell? w p h.cell

theorem Own.set {w:World} {p:Addr} {v:Value} (h:Own w p v) (hs:p.spot=none) (u:Value):Own (w.setCell p u) p u:=by
  obtain ⟨b,o,s⟩:=p
  subst hs
  have hc:=h.cell
  have hf:=h.free
  constructor
  · simp only [World.cell?,World.setCell,Array.getElem?_modify] at hc ⊢
    cases hb:w.heap[b]? with
    | none=>rw [hb] at hc;simp at hc
    | some ob =>
      rw [hb] at hc
      cases ob <;> simp_all
      rename_i c _ _
      rw [Array.getElem?_setIfInBounds_self]
      have:o<c.size:=by have:=(Array.getElem?_eq_some_iff.1 hc).1;exact this
      simp [this]
  · simp only [World.frozen?,World.setCell,Array.getElem?_modify] at hf ⊢
    cases hb:w.heap[b]? with
    | none=>simp
    | some ob =>
      rw [hb] at hf
      cases ob <;> simp_all

theorem Own.set_other {w:World} {p q:Addr} {v:Value} (h:Own w p v) (hs:p≠q) (h1:p.spot=none) (h2:q.spot=none) (u:Value):Own (w.setCell q u) p v:=by
  obtain ⟨b,o,s⟩:=p
  obtain ⟨b',o',s'⟩:=q
  subst h1
  subst h2
  have hc:=h.cell
  have hf:=h.free
  by_cases e:b=b'
  · subst e
    have ho:o≠o':=fun e=>hs (by rw [e])
    constructor
    · simp only [World.cell?,World.setCell,Array.getElem?_modify] at hc ⊢
      cases hb:w.heap[b]? with
      | none=>rw [hb] at hc;simp at hc
      | some ob =>
        rw [hb] at hc
        cases ob <;> simp_all
        rw [Array.getElem?_setIfInBounds_ne (Ne.symm ho)]
        exact hc
    · simp only [World.frozen?,World.setCell,Array.getElem?_modify] at hf ⊢
      cases hb:w.heap[b]? with
      | none=>simp
      | some ob =>
        rw [hb] at hf
        cases ob <;> simp_all
  · have:=Below.heap_setCell w ⟨b',o',none⟩ u b e
    exact ⟨(World.cell?_of_block (a:=⟨b,o,none⟩) this).trans hc,(World.frozen?_of_block (a:=⟨b,o,none⟩) this).trans hf⟩
end

section
open Go.RowKit

structure Kep (S:Nat→Prop) (w w':World):Prop where
  os:w'.os=w.os
  tape:w'.tape=w.tape
  output:w'.output=w.output
  size:w.heap.size≤w'.heap.size
  block:∀ k,k<w.heap.size→¬ S k→w'.heap[k]? = w.heap[k]?

def non:Nat→Prop:=fun _=>False

theorem Kep.refl (S:Nat→Prop) (w:World):Kep S w w:=⟨rfl,rfl,rfl,Nat.le_refl _,fun _ _ _=>rfl⟩

theorem Kep.trans' {S S':Nat→Prop} {a b c:World} (h:Kep S a b) (k:Kep S' b c) (hs:∀ i,S' i→S i∨a.heap.size≤i):Kep S a c :=
  ⟨k.os.trans h.os,k.tape.trans h.tape,k.output.trans h.output,Nat.le_trans h.size k.size,fun i hi hn =>
    (k.block i (Nat.lt_of_lt_of_le hi h.size) (fun hm=>by rcases hs i hm with h1 | h1;exact hn h1;omega)).trans (h.block i hi hn)⟩

theorem Kep.trans {S:Nat→Prop} {a b c:World} (h:Kep S a b) (k:Kep S b c):Kep S a c:=h.trans' k fun _ hi=>.inl hi

theorem Kep.mono {S S':Nat→Prop} {a b:World} (h:Kep S a b) (hs:∀ i,S i→S' i∨a.heap.size≤i):Kep S' a b :=
  ⟨h.os,h.tape,h.output,h.size,fun i hi hn=>h.block i hi fun hm=>by rcases hs i hm with h1 | h1;exact hn h1;omega⟩

theorem Kep.none {S:Nat→Prop} {a b:World} (h:Kep non a b):Kep S a b:=h.mono fun _ q=>q.elim

theorem Kep.drew {S:Nat→Prop} {a w:World} (h:Kep S a w):Kep S a w.drew:=⟨h.os,h.tape,h.output,h.size,h.block⟩
theorem Kep.drewN {S:Nat→Prop} {a w:World} (h:Kep S a w) (n:Nat):Kep S a (w.drewN n):=⟨h.os,h.tape,h.output,h.size,h.block⟩

theorem Kep.alloc {S:Nat→Prop} {a w:World} (h:Kep S a w) (o:Obj):Kep S a (w.alloc o) :=
  h.trans ⟨rfl,rfl,rfl,by simp,fun k hk _=>Below.heap_alloc _ _ _ hk⟩

theorem Kep.setCell {S:Nat→Prop} {a w:World} (h:Kep S a w) {p:Addr} (hp:S p.block∨a.heap.size≤p.block) (u:Value):Kep S a (w.setCell p u) :=
  h.trans' (S':=fun b=>b=p.block) ⟨rfl,rfl,rfl,by simp [World.setCell],fun k _ hn=>Below.heap_setCell _ _ _ _ hn⟩ (fun i q=>by subst q;exact hp)

theorem Kep.grown {S:Nat→Prop} {a w w':World} {row:Option Nat} (h:Kep S a w) (hg:w.grownBy w' row) (hr:∀ k,row=some k→S k∨a.heap.size≤k):Kep S a w' :=
  h.trans' (S':=fun b=>row=some b) ⟨hg.os,hg.tape,hg.output,hg.size,fun k hk hn=>hg.block k hk (fun e=>hn e.symm)⟩ (fun i q=>hr i q)

theorem Kep.of_below {S:Nat→Prop} {w w':World} (h:Below w.heap.size w w'):Kep S w w':=⟨h.os,h.tape,h.output,h.size,fun k hk _=>h.block k hk⟩

theorem Kep.below {w w':World} {B:Nat} {S:Nat→Prop} (h:Kep S w w') (hB:B≤w.heap.size) (hS:∀ k,S k→B≤k):Below B w w' :=
  ⟨h.os,h.tape,h.output,h.size,fun k hk=>h.block k (by omega) (fun hm=>by have:=hS k hm;omega)⟩

theorem Kep.bel {w w':World} (h:Kep non w w'):Below w.heap.size w w':=h.below (Nat.le_refl _) fun _ q=>q.elim

theorem Kep.cell {S:Nat→Prop} {w w':World} (h:Kep S w w') {p:Addr} {v:Value} (hc:w.cell? p=some v) (hp:¬ S p.block):w'.cell? p=some v :=
  (World.cell?_of_block (h.block p.block (World.block_lt_of_cell? w p hc) hp)).trans hc

theorem Kep.frozen {S:Nat→Prop} {w w':World} (h:Kep S w w') {p:Addr} {v:Value} (hc:w.cell? p=some v) (hp:¬ S p.block):w'.frozen? p=w.frozen? p :=
  World.frozen?_of_block (h.block p.block (World.block_lt_of_cell? w p hc) hp)

theorem Own.kep {S:Nat→Prop} {w w':World} {p:Addr} {v:Value} (h:Own w p v) (k:Kep S w w') (hp:¬ S p.block):Own w' p v :=
  ⟨k.cell h.cell hp,(k.frozen h.cell hp).trans h.free⟩

def Plain (w:World) (b:Nat):Prop:=∃ cs t,w.heap[b]? = some (.cells cs t (0,0))

theorem Plain.lt {w:World} {b:Nat} (h:Plain w b):b<w.heap.size:=by
  obtain ⟨cs,t,e⟩:=h
  exact (Array.getElem?_eq_some_iff.1 e).1

theorem Plain.kep {S:Nat→Prop} {w w':World} {b:Nat} (h:Plain w b) (k:Kep S w w') (hp:¬ S b):Plain w' b:=by
  have l:=h.lt
  obtain ⟨cs,t,e⟩:=h
  exact ⟨cs,t,(k.block b l hp).trans e⟩

theorem Plain.set {w:World} {b:Nat} (h:Plain w b) (p:Addr) (u:Value):Plain (w.setCell p u) b:=by
  by_cases q:b=p.block
  · obtain ⟨cs,t,e⟩:=h
    subst q
    rcases p with ⟨k,o,s⟩
    simp only [World.setCell,Plain,Array.getElem?_modify]
    simp only at e
    rw [e]
    cases s <;> exact ⟨_,_,rfl⟩
  · obtain ⟨cs,t,e⟩:=h
    exact ⟨cs,t,(Below.heap_setCell _ _ _ _ q).trans e⟩

theorem ownsRow_kep {S:Nat→Prop} {w w':World} {B:Nat} {e:TypeId} {z:Nat} {v:Value} {n:Nat} {xs:List Value} (h:w.ownsRow B e z v n xs) (k:Kep S w w') (hs:∀ b,v.ownBlock=some b→¬ S b):w'.ownsRow B e z v n xs:=by
  refine ⟨h.1,?_⟩
  rcases h.2 with q | ⟨g,cap,cur,e1,e2,e3,e4⟩
  · exact .inl q
  · refine .inr ⟨g,cap,cur,e1,e2,?_,e4⟩
    have hlt:g<w.heap.size:=(Array.getElem?_eq_some_iff.1 e3).1
    rw [k.block g hlt (hs g (by rw [e1];rfl))]
    exact e3
end

section
structure Od where
  id:Int
  t:Int
  h:Int
  g:Int
  s:Int
  p:Int
  q:Int
  w:Int

def Od.cells (o:Od):List Value:=[.int .i64 o.id,.int .i64 o.t,.int .i64 o.h,.int .i64 o.g,.int .i64 o.s,.int .i64 o.p,.int .i64 o.q,.int .i64 o.w]

structure Lo where
  t:Int
  h:Int
  g:Int
  n:Int
  d:Int

def Lo.cells (l:Lo):List Value:=[.int .i64 l.t,.int .i64 l.h,.int .i64 l.g,.int .i64 l.n,.int .i64 l.d]

structure Mt where
  T:Nat
  G:Nat
  H:Nat
  rt:Nat→Int
  mo:Nat→Int
  pc:Nat→Nat→Nat→Int
  ld:List Lo
  bk:Nat→Nat→Nat→List Od
  la:Nat→Nat→Int
  pi:Nat→Nat→Int
  am:Nat→Nat→Int
  nu:Int
  ho:Int
  tm:Int

section
variable {α:Type}
def two (f:Nat→List α):List α:=f 0 ++ f 1
def upG (f:Nat→Nat→List α):Nat→List α
  | 0=>[]
  | g+1=>upG f g ++ two (f g)
def upH (G:Nat) (f:Nat→Nat→Nat→List α):Nat→List α
  | 0=>[]
  | h+1=>upH G f h ++ upG (f h) G
end

def Mt.all (m:Mt):List Od:=upH m.G m.bk m.H

def heldL (t:Int):List Od→Int
  | []=>0
  | o :: r=>(if o.t=t∧o.s=0 then o.p * o.q else 0)+heldL t r
def Mt.held (m:Mt) (t:Int):Int:=heldL t m.all
def keptL (t:Int):List Od→Int
  | []=>0
  | o :: r=>(if o.t=t then o.q else 0)+keptL t r
def Mt.kept (m:Mt) (t:Int) (h g:Nat):Int:=keptL t (m.bk h g 1)
def comeL (t h g:Int):List Lo→Int
  | []=>0
  | l :: r=>(if l.t=t∧l.h=h∧l.g=g then l.n else 0)+comeL t h g r
def Mt.come (m:Mt) (t h g:Int):Int:=comeL t h g m.ld

theorem heldL_append (t:Int) (a b:List Od):heldL t (a ++ b)=heldL t a+heldL t b:=by
  induction a with
  | nil=>simp [heldL]
  | cons x a ih=>simp only [List.cons_append,heldL,ih];omega
theorem keptL_append (t:Int) (a b:List Od):keptL t (a ++ b)=keptL t a+keptL t b:=by
  induction a with
  | nil=>simp [keptL]
  | cons x a ih=>simp only [List.cons_append,keptL,ih];omega
theorem comeL_append (t h g:Int) (a b:List Lo):comeL t h g (a ++ b)=comeL t h g a+comeL t h g b:=by
  induction a with
  | nil=>simp [comeL]
  | cons x a ih=>simp only [List.cons_append,comeL,ih];omega

structure Od.Ok (m:Mt) (h g s:Nat) (o:Od):Prop where
  id:1≤o.id∧o.id≤m.nu
  t:0≤o.t∧o.t<m.T
  h:o.h=h
  g:o.g=g
  s:o.s=s
  p:1≤o.p∧o.p≤100000
  q:1≤o.q∧o.q≤10000
  w:0≤o.w∧o.w≤3

structure Mt.Ok (m:Mt) (N:Int):Prop where
  bN:N≤1000000000000
  T1:1≤m.T
  T8:m.T≤8
  G1:1≤m.G
  G4:m.G≤4
  H1:1≤m.H
  H4:m.H≤4
  rt:∀ h,h<m.H→0≤m.rt h∧m.rt h≤100
  mo:∀ t,t<m.T→0≤m.mo t∧m.mo t≤1000000000000
  pc:∀ t h g,t<m.T→h<m.H→g<m.G→0≤m.pc t h g∧m.pc t h g≤N
  l20:m.ld.length≤20
  ld:∀ l,l∈m.ld→(0≤l.t∧l.t<m.T)∧(0≤l.h∧l.h<m.H)∧(0≤l.g∧l.g<m.G)∧(1≤l.n∧l.n≤10000)∧(0≤l.d∧l.d≤1000000010)
  a60:m.all.length≤60
  od:∀ h g s o,h<m.H→g<m.G→s<2→o∈m.bk h g s→o.Ok m h g s
  nu:0≤m.nu∧m.nu≤N
  ho:0≤m.ho∧m.ho≤1000000000000
  tm:0≤m.tm∧m.tm≤1000000000

theorem mem_upG {α:Type} {f:Nat→Nat→List α} {G:Nat} {x:α}:x∈upG f G ↔ ∃ g s,g<G∧s<2∧x∈f g s:=by
  induction G with
  | zero=>simp [upG]
  | succ k ih =>
    simp only [upG,two,List.mem_append,ih]
    constructor
    · rintro (⟨g,s,h1,h2,h3⟩ | h | h)
      · exact ⟨g,s,by omega,h2,h3⟩
      · exact ⟨k,0,by omega,by omega,h⟩
      · exact ⟨k,1,by omega,by omega,h⟩
    · rintro ⟨g,s,h1,h2,h3⟩
      by_cases e:g=k
      · subst e
        rcases s with _ | _ | s
        · exact .inr (.inl h3)
        · exact .inr (.inr h3)
        · omega
      · exact .inl ⟨g,s,by omega,h2,h3⟩
theorem mem_upH {α:Type} {f:Nat→Nat→Nat→List α} {G H:Nat} {x:α}:x∈upH G f H ↔ ∃ h g s,h<H∧g<G∧s<2∧x∈f h g s:=by
  induction H with
  | zero=>simp [upH]
  | succ k ih =>
    simp only [upH,List.mem_append,ih,mem_upG]
    constructor
    · rintro (⟨h,g,s,h0,h1,h2,h3⟩ | ⟨g,s,h1,h2,h3⟩)
      · exact ⟨h,g,s,by omega,h1,h2,h3⟩
      · exact ⟨k,g,s,by omega,h1,h2,h3⟩
    · rintro ⟨h,g,s,h0,h1,h2,h3⟩
      by_cases e:h=k
      · subst e
        exact .inr ⟨g,s,h1,h2,h3⟩
      · exact .inl ⟨h,g,s,by omega,h1,h2,h3⟩

theorem Mt.mem_all {m:Mt} {o:Od}:o∈m.all ↔ ∃ h g s,h<m.H∧g<m.G∧s<2∧o∈m.bk h g s:=mem_upH

theorem Mt.Ok.all_ok {m:Mt} {N:Int} (h:m.Ok N) {o:Od} (ho:o∈m.all):(0≤o.t∧o.t<8)∧(0≤o.s∧o.s≤1)∧(1≤o.p∧o.p≤100000)∧(1≤o.q∧o.q≤10000):=by
  obtain ⟨a,b,s,h1,h2,h3,h4⟩:=Mt.mem_all.1 ho
  have k:=h.od a b s o h1 h2 h3 h4
  have:=h.T8
  have:=k.t
  have:=k.s
  exact ⟨by omega,by omega,k.p,k.q⟩

theorem mul_le' {a b A B:Int} (h0:0≤a) (h1:a≤A) (h2:0≤b) (h3:b≤B):0≤a * b∧a * b≤A * B :=
  ⟨Int.mul_nonneg h0 h2,Int.mul_le_mul h1 h3 h2 (Int.le_trans h0 h1)⟩

theorem heldL_bd (t:Int):∀ l:List Od,(∀ o∈l,(1≤o.p∧o.p≤100000)∧(1≤o.q∧o.q≤10000))→0≤heldL t l∧heldL t l≤1000000000 * (l.length:Int)
  | [],_=>by simp [heldL]
  | o :: r,h=>by
    have ih:=heldL_bd t r (fun x hx=>h x (List.mem_cons_of_mem _ hx))
    obtain ⟨hp,hq⟩:=h o List.mem_cons_self
    have:=mul_le' (a:=o.p) (b:=o.q) (A:=100000) (B:=10000) (by omega) hp.2 (by omega) hq.2
    simp only [heldL,List.length_cons]
    split <;> omega

theorem keptL_bd (t:Int):∀ l:List Od,(∀ o∈l,1≤o.q∧o.q≤10000)→0≤keptL t l∧keptL t l≤10000 * (l.length:Int)
  | [],_=>by simp [keptL]
  | o :: r,h=>by
    have ih:=keptL_bd t r (fun x hx=>h x (List.mem_cons_of_mem _ hx))
    have hq:=h o List.mem_cons_self
    simp only [keptL,List.length_cons]
    split <;> omega

theorem comeL_bd (t h g:Int):∀ l:List Lo,(∀ o∈l,1≤o.n∧o.n≤10000)→0≤comeL t h g l∧comeL t h g l≤10000 * (l.length:Int)
  | [],_=>by simp [comeL]
  | o :: r,h'=>by
    have ih:=comeL_bd t h g r (fun x hx=>h' x (List.mem_cons_of_mem _ hx))
    have hq:=h' o List.mem_cons_self
    simp only [comeL,List.length_cons]
    split <;> omega
end

section
open Go.RowKit Go.Shelf

attribute [local go_sem] Oper.semAt_some

def optr (b:Nat):Value:=.pointer (some ⟨b,0,none⟩)

set_option maxRecDepth 100000 in
set_option maxHeartbeats 2000000 in
theorem values1_in {α:Type} (f:α→Nat) (F:Fence) (n:Nat) (h7:F.fn 143) (hro:F.round=none) (hn:1≤n) (l Bs n₀ b off len cap:Nat) (zs:List α) (hlen:zs.length=len) (hreach:len * 8≤140737488351232) (hb:b<n₀) (J Jx:List α→World→Prop)
    (hY:∀ pre x W,J pre W→pre.length<len→YieldAt F (n - 1) Tryz.prog l #[.pointer (some ⟨f x,0,none⟩)] W fun e W' =>
      (e = .returned (.bool true)∧J (pre ++ [x]) W'∧Below n₀ W W')∨(e = .returned (.bool false)∧Jx (pre ++ [x]) W'))
    (W:World) (hBs:W.cell? ⟨Bs,0,none⟩=some (.slice (some ⟨b,off,none⟩) len cap)) (hc:∀ j (hj:j<zs.length),W.cell? ⟨b,off+j,none⟩=some (.pointer (some ⟨f zs[j],0,none⟩))) (h0:J [] W) :
    CallsIn F n Tryz.prog 143 #[.func (.yield l) #[] #[],.pointer (some ⟨Bs,0,none⟩)] W fun e W'=>(∃ v,e = .returned v) ∧
      ((∃ ys,ys=zs∧J ys W')∨(∃ pre,pre <+: zs∧Jx pre W')):=by
  refine callsIn_of_wp Tryz.func143 rfl h7 ?_ hro
  simp only [Tryz.ntmps143,List.size_toArray,List.length_cons,List.length_nil,Nat.reduceAdd,Nat.reduceSub,Array.replicate_succ,Array.replicate_zero,List.push_toArray,List.append_toArray,List.nil_append,List.cons_append]
  gi_wp2
  gi_loopw [7] (fun i wr=>∃ k:Nat,k≤len∧i = .int .i64 k∧J (zs.take k) wr∧Below n₀ W wr)
    (fun i _=>len - (intOf i).toNat)
  case atStart=>exact ⟨0,Nat.zero_le _,rfl,h0,Below.refl _ _⟩
  case round =>
    obtain ⟨k,hk,rfl,hJs,hnx⟩:=hrel
    by_cases hlt:k<len
    · have hlz:k<zs.length:=by omega
      have ht:zs.take (k+1)=zs.take k ++ [zs[k]]:=List.take_succ_eq_append_getElem hlz
      have hcx:wr.cell? ⟨b,off+k,none⟩=some (.pointer (some ⟨f zs[k],0,none⟩)):=(hnx.cell (p:=⟨b,off+k,none⟩) hb).trans (hc k hlz)
      obtain ⟨fn,tmps,assign,body,hy,hR⟩:=hY _ zs[k] wr hJs (by rw [List.length_take];omega)
      rw [← ht] at hR
      have hpre:zs.take (k+1) <+: zs:=List.take_prefix _ _
      clear ht
      generalize f zs[k]=fx at *
      generalize hg1:zs.take (k+1)=z1 at *
      clear hc
      gi_wp2
      refine hR.mono ?_
      rintro e W3 (⟨rfl,hJ3,hk3⟩ | ⟨rfl,hJx3⟩)
      · gi_wp2
        go_roundw
        case rel=>exact ⟨k+1,by omega,by simp,by rw [hg1];exact hJ3,hnx.trans hk3⟩
        case measure=>simp [intOf];omega
      · gi_wp2
        refine bodyPost_ret (results_none rfl _ _ _) rfl ?_
        exact ⟨⟨_,rfl⟩,.inr ⟨_,hpre,hJx3⟩⟩
    · have e:zs.take k=zs:=List.take_of_length_le (by omega)
      rw [e] at hJs
      gi_wp2
      go_end0
      exact ⟨⟨_,rfl⟩,.inl ⟨_,rfl,hJs⟩⟩

def Ptrs (n₀:Nat) (W:World) (sv:Value) (zs:List Nat):Prop :=
  (∃ c,sv = .slice none 0 c∧zs=[])∨∃ b cap,sv = .slice (some ⟨b,0,none⟩) zs.length cap∧b<n₀∧∀ j (hj:j<zs.length),W.cell? ⟨b,0+j,none⟩=some (.pointer (some ⟨zs[j],0,none⟩))
theorem Ptrs.below {n₀:Nat} {A B:World} (h:Below n₀ A B) {sv:Value} {zs:List Nat}:Ptrs n₀ A sv zs→Ptrs n₀ B sv zs
  | .inl e=>.inl e
  | .inr ⟨b,cap,e,hb,hc⟩=>.inr ⟨b,cap,e,hb,fun j hj=>(h.cell (p:=⟨b,0+j,none⟩) hb).trans (hc j hj)⟩

set_option maxRecDepth 100000 in
set_option maxHeartbeats 1000000 in
theorem values1_nil_in {α:Type} (F:Fence) (n:Nat) (h7:F.fn 143) (hro:F.round=none) (l Bs c:Nat) (J:List α→World→Prop) (W:World) (hBs:W.cell? ⟨Bs,0,none⟩=some (.slice none 0 c)) (h0:J [] W) :
    CallsIn F n Tryz.prog 143 #[.func (.yield l) #[] #[],.pointer (some ⟨Bs,0,none⟩)] W fun e W'=>(∃ v,e = .returned v)∧J [] W':=by
  refine callsIn_of_wp Tryz.func143 rfl h7 ?_ hro
  simp only [Tryz.ntmps143,List.size_toArray,List.length_cons,List.length_nil,Nat.reduceAdd,Nat.reduceSub,Array.replicate_succ,Array.replicate_zero,List.push_toArray,List.append_toArray,List.nil_append,List.cons_append]
  gi_wp2
  gi_loopw [7] (fun i wr=>i = .int .i64 0∧J [] wr) (fun _ _=>0)
  case atStart=>exact ⟨rfl,h0⟩
  case round =>
    obtain ⟨rfl,hJs⟩:=hrel
    gi_wp2
    go_end0
    exact ⟨⟨_,rfl⟩,hJs⟩

theorem values_stops {α:Type} (f:α→Nat) (F:Fence) (n:Nat) (h7:F.fn 143) (hro:F.round=none) (hn:1≤n) (Bs n₀:Nat) (sv:Value) (zs:List α) (hreach:zs.length * 8≤140737488351232) (w:World) (hBs:Bs<w.heap.size) (hn₀:n₀≤w.heap.size)
    (hc:w.cell? ⟨Bs,0,none⟩=some sv) (hI:Ptrs n₀ w sv (zs.map f)) :
    SeqStopsK F n Tryz.prog 143 #[.pointer (some ⟨Bs,0,none⟩)] (fun x:α=>#[Value.pointer (some ⟨f x,0,none⟩)]) (Below n₀) (fun ys=>ys=zs) (fun pre=>pre <+: zs) zs.length w:=fun l J Jx W hW _ _ hY h0=>by
  have hc':=(hW.cell (p:=⟨Bs,0,none⟩) hBs).trans hc
  rcases hI.below (hW.mono hn₀) with ⟨c,rfl,e⟩ | ⟨b,cap,rfl,hb,hcs⟩
  · obtain rfl:zs=[]:=by simpa using e
    exact (values1_nil_in F n h7 hro l Bs c J W hc' h0).mono fun e W' ⟨he,hj⟩=>⟨he,.inl ⟨_,rfl,hj⟩⟩
  · rw [List.length_map] at hc'
    exact values1_in f F n h7 hro hn l Bs n₀ b 0 zs.length cap zs rfl hreach hb J Jx hY W hc' (fun j hj=>by have:=hcs j (by simpa using hj);simpa using this) h0

set_option maxHeartbeats 1000000 in
theorem values_in (F:Fence) (n:Nat) (h5:F.fn 131) (hro:F.round=none) (a:Option Addr) (len cap:Nat) (w:World) :
    CallsIn F n Tryz.prog 131 #[.slice a len cap] w fun e w'=>e = .returned (.func (.func 143) #[] #[.pointer (some ⟨w.heap.size,0,none⟩)])∧w'=w.alloc (.cells #[.slice a len cap] 142):=by
  refine callsIn_of_wp Tryz.func131 rfl h5 ?_ hro
  simp only [Tryz.ntmps131,List.size_toArray,List.length_cons,List.length_nil,Nat.reduceAdd,Nat.reduceSub,Array.replicate_succ,Array.replicate_zero,List.push_toArray,List.append_toArray,List.nil_append,List.cons_append]
  gi_wp2
  go_ret
  exact ⟨rfl,rfl⟩

theorem all_any (q:Nat) (a:Option Addr) (len cap:Nat) (w:World) (h1:w.cell? ⟨q,1,none⟩=some (.slice a len cap)) :
    Calls Tryz.prog 118 #[.pointer (some ⟨q,0,none⟩)] w fun e w'=>e = .returned (.func (.func 143) #[] #[.pointer (some ⟨w.heap.size,0,none⟩)])∧w'=w.alloc (.cells #[.slice a len cap] 142):=by
  have hv:∀ w:World,Calls Tryz.prog 131 #[.slice a len cap] w fun e w'=>e = .returned (.func (.func 143) #[] #[.pointer (some ⟨w.heap.size,0,none⟩)])∧w'=w.alloc (.cells #[.slice a len cap] 142):=fun w=>(callsIn_wide (n:=3)).1 (values_in Fence.wide 3 trivial rfl a len cap w)
  go_enter Tryz.func118,Tryz.ntmps118
  go_wp2_with (go_at_call 131;refine (hv _).mono ?_;rintro e w' ⟨rfl,rfl⟩)
  go_ret
  exact ⟨rfl,rfl⟩

theorem infoOrderPtr:(Tryz.prog.info? 94).map (fun i=>(i.zero,i.size,i.bytes))=some (some (.pointer none),1,8):=by kernel_rfl

set_option maxRecDepth 100000 in
set_option maxHeartbeats 2000000 in
theorem appendSeq_in (F:Fence) (n:Nat) (h3:F.fn 122) (h5:F.fn 143) (hro:F.round=none) (hn:3≤n) (w:World) (B Bs:Nat) (a:Option Addr) (len cap:Nat) (qv:Value) (ps zs:List Nat) (hB:B≤w.heap.size) (hl:ps.length+zs.length≤1000000)
    (hrow:w.ownsRow B 94 1 (.slice a len cap) ps.length (ps.map optr)) (hBs:w.cell? ⟨Bs,0,none⟩=some qv) (hq:Ptrs B w qv zs) :
    CallsIn F n Tryz.prog 122 #[.slice a len cap,.func (.func 143) #[] #[.pointer (some ⟨Bs,0,none⟩)]] w fun e W'=>∃ v,e = .returned v∧W'.ownsRow B 94 1 v (ps.length+zs.length) ((ps ++ zs).map optr)∧Below B w W':=by
  have h1:1≤n:=by omega
  obtain ⟨i0,hi,hz0,hz1,hz2⟩:=info_parts infoOrderPtr
  refine callsIn_of_wp_marks Tryz.func122 rfl h3 ?_ hro
  simp only [Tryz.ntmps122,List.size_toArray,List.length_cons,List.length_nil,Nat.reduceAdd,Nat.reduceSub,Array.replicate_succ,Array.replicate_zero,List.push_toArray,List.append_toArray,List.nil_append,List.cons_append]
  gi_wp2
  have bO:=Boxed.new w 142 (.slice a len cap)
  have hB0:Below B w (w.alloc (.cells #[.slice a len cap] 142)):=(Below.refl _ w).alloc hB _
  have hlt:Bs<w.heap.size:=World.block_lt_of_cell? w _ hBs
  refine wpIn_rangeFunc_ownG hro h1 (gf:=143) (lb:=#[.pointer (some ⟨Bs,0,none⟩)]) rfl h5 (enters_of Tryz.func143 (by kernel_rfl) rfl)
    (values_stops (fun x:Nat=>x) F (n - 1) h5 hro (by omega) Bs B qv zs (by omega) _ (by simp;omega) (by simp;omega) ((((Below.refl w.heap.size w).alloc (Nat.le_refl _) _).cell (p:=⟨Bs,0,none⟩) hlt).trans hBs) (by simpa using hq.below hB0)) belowK_t (belowK_b (by simp;omega)) (Below.refl _ _) (fun _=>rfl)
    (fun pre W=>(∃ v,Boxed W w.heap.size 142 v∧W.ownsRow B 94 1 v (ps.length+pre.length) ((ps ++ pre).map optr)∧True)∧Below B w W)
    (fun _ _ _=>False)
    (OwnFrom.and (Own.from (holdsRow_own B w.heap.size 142 94 1 (fun pre=>ps.length+pre.length) (fun pre=>(ps ++ pre).map optr) (fun pre v=>True)) _) (ownFrom_below hB (by simp;omega)))
    (fun _ _ _ _ _ hs _ _=>hs)
    ⟨⟨_,bO,by simpa using hrow.alloc _,trivial⟩,hB0⟩
    (fun x=>{ tmps:=#[.slice a len cap,.func (.func 143) #[] #[.pointer (some ⟨Bs,0,none⟩)],.pointer (some ⟨w.heap.size,0,none⟩),undef,.slice none 0 0,.pointer (some ⟨x,0,none⟩),.func (.func 143) #[] #[.pointer (some ⟨Bs,0,none⟩)],.pointer (some ⟨x,0,none⟩),undef,undef,undef,undef,undef],defers:=[] }) ?assign ?body ?done ?stop
  case assign =>
    intro l x W K hK
    gi_wp2
    exact hK
  case body =>
    rintro l pre x W ⟨⟨v,hv,hrow,_⟩,hB1⟩ hlt1
    have hc:=hv.cell
    have hbs:=hB1.size
    gi_wp2_with (gi_at_builtin;refine wpListIn_append_own _ rfl _ _ 142 rfl B 94 i0 (.pointer none) 1 8 Tryz.underlying142 hi hz0 hz1 hz2 rfl (by decide) _ _ _ rfl (hrow.alloc _) ⟨W.heap.size,0,none⟩ 1 1 [.pointer (some ⟨x,0,none⟩)] rfl rfl (cell_one_new _ _ _) (by simp [Value.oneCell']) (by simp only [maxLen];omega) (by omega) (by simp;omega) ?_;intro v' w1 hown' hgrow _;obtain ⟨g',cap',rfl⟩:=ownsRow_succ hown';obtain ⟨hv1,hv2,hr2,hk2,hb2⟩:=hv.appended (by decide) hrow (by omega) hB hown' hgrow;have hc1:=hv1.cell;have hf1:=hv1.frozen)
    exact ⟨hk2.from _,hb2,⟨_,hv2,by simpa [optr,Nat.add_assoc] using hr2,trivial⟩,hB1.trans hb2⟩
  case done =>
    rintro D ys W hD rfl ⟨⟨v,hv,hrow,_⟩,hB1⟩ hK
    have hc:=hv.cell
    gi_wp2
    refine ⟨by simp,.inl ⟨_,_,rfl,run_takeDeferred hK,?_⟩⟩
    exact ⟨_,results_tmp rfl _ _ _,v,rfl,ownsRow_putObj hrow _ hK rfl,hB1.trans (belowK_b (w:=w) hB W D _ _ (by simp at hD;omega) hK rfl rfl)⟩
  case stop =>
    rintro D c pre W _ _ h _
    exact h.elim
end

section
open Go.RowKit

abbrev Jx:Type:=Unit ⊕ Unit ⊕ Unit ⊕ Nat ⊕ (Nat × Nat × Nat) ⊕ (Nat × Nat × Nat) ⊕ (Nat × Nat × Nat × Nat)
abbrev Jx.x:Jx:=.inl ()
abbrev Jx.ab:Jx:=.inr (.inl ())
abbrev Jx.lv:Jx:=.inr (.inr (.inl ()))
abbrev Jx.gb (h:Nat):Jx:=.inr (.inr (.inr (.inl h)))
abbrev Jx.qb (h g s:Nat):Jx:=.inr (.inr (.inr (.inr (.inl (h,g,s)))))
abbrev Jx.qv (h g s:Nat):Jx:=.inr (.inr (.inr (.inr (.inr (.inl (h,g,s))))))
abbrev Jx.ob (h g s i:Nat):Jx:=.inr (.inr (.inr (.inr (.inr (.inr (h,g,s,i))))))

structure PL where
  x:Nat
  rb:Nat
  rcap:Nat
  ab:Nat
  lv:Value
  bb:Nat
  gb:Nat→Nat
  qb:Nat→Nat→Nat→Nat
  qv:Nat→Nat→Nat→Value
  ob:Nat→Nat→Nat→List Nat

def at3 (m:Mt) (h g s:Nat):Prop:=h<m.H∧g<m.G∧s<2
def at3d (m:Mt) (h g s:Nat):Decidable (at3 m h g s):=by unfold at3;exact inferInstance

def PL.F (L:PL) (m:Mt):Jx→Option Nat
  | .inl _=>some L.x
  | .inr (.inl _)=>some L.ab
  | .inr (.inr (.inl _))=>L.lv.ownBlock
  | .inr (.inr (.inr (.inl h)))=>if h<m.H then some (L.gb h) else none
  | .inr (.inr (.inr (.inr (.inl (h,g,s)))))=>@ite (Option Nat) (at3 m h g s) (at3d m h g s) (some (L.qb h g s)) none
  | .inr (.inr (.inr (.inr (.inr (.inl (h,g,s))))))=>@ite (Option Nat) (at3 m h g s) (at3d m h g s) (L.qv h g s).ownBlock none
  | .inr (.inr (.inr (.inr (.inr (.inr (h,g,s,i))))))=>@ite (Option Nat) (at3 m h g s) (at3d m h g s) (L.ob h g s)[i]? none

def PL.S (L:PL) (m:Mt) (b:Nat):Prop:=∃ i,L.F m i=some b

def loCells (l:List Lo):List Value:=l.flatMap Lo.cells

def aheadFn (s:Nat):Value:=if s=0 then .func (.func 120) #[] #[] else .func (.func 121) #[] #[]

structure PRep (w:World) (L:PL) (m:Mt):Prop where
  cG:Own w ⟨L.x,0,none⟩ (.int .i64 m.G)
  cR:Own w ⟨L.x,1,none⟩ (.slice (some ⟨L.rb,0,none⟩) m.H L.rcap)
  cA:Own w ⟨L.x,2,none⟩ (.slice (some ⟨L.ab,0,none⟩) m.T m.T)
  cL:Own w ⟨L.x,3,none⟩ L.lv
  cB:Own w ⟨L.x,4,none⟩ (.slice (some ⟨L.bb,0,none⟩) m.H m.H)
  cN:Own w ⟨L.x,5,none⟩ (.int .i64 m.nu)
  cH:Own w ⟨L.x,6,none⟩ (.int .i64 m.ho)
  cTm:Own w ⟨L.x,7,none⟩ (.int .i64 m.tm)
  rt:∀ h,h<m.H→w.cell? ⟨L.rb,h,none⟩=some (.int .i64 (m.rt h))
  mo:∀ t,t<m.T→Own w ⟨L.ab,t * 17,none⟩ (.int .i64 (m.mo t))
  pc:∀ t h g,t<m.T→h<4→g<4→Own w ⟨L.ab,t * 17+1+h * 4+g,none⟩ (.int .i64 (m.pc t h g))
  ld:w.ownsRow 0 139 5 L.lv m.ld.length (loCells m.ld)
  bks:∀ h,h<m.H→w.cell? ⟨L.bb,h,none⟩=some (.slice (some ⟨L.gb h,0,none⟩) m.G m.G)
  sd:∀ h g s,at3 m h g s→Own w ⟨L.gb h,g * 5+s,none⟩ (.pointer (some ⟨L.qb h g s,0,none⟩))
  la:∀ h g,h<m.H→g<m.G→Own w ⟨L.gb h,g * 5+2,none⟩ (.int .i64 (m.la h g))
  pi:∀ h g,h<m.H→g<m.G→Own w ⟨L.gb h,g * 5+3,none⟩ (.int .i64 (m.pi h g))
  am:∀ h g,h<m.H→g<m.G→Own w ⟨L.gb h,g * 5+4,none⟩ (.int .i64 (m.am h g))
  q0:∀ h g s,at3 m h g s→w.cell? ⟨L.qb h g s,0,none⟩=some (aheadFn s)
  q1:∀ h g s,at3 m h g s→Own w ⟨L.qb h g s,1,none⟩ (L.qv h g s)
  qr:∀ h g s,at3 m h g s→w.ownsRow 0 94 1 (L.qv h g s) (L.ob h g s).length ((L.ob h g s).map optr)
  ln:∀ h g s,at3 m h g s→(L.ob h g s).length=(m.bk h g s).length
  oc:∀ (h g s i b:Nat) (o:Od),at3 m h g s→(L.ob h g s)[i]? = some b→(m.bk h g s)[i]? = some o→∀ j v,o.cells[j]? = some v→Own w ⟨b,j,none⟩ v
  oz:∀ (h g s i b:Nat),at3 m h g s→(L.ob h g s)[i]? = some b→Plain w b
  inj:∀ i j b,L.F m i=some b→L.F m j=some b→i=j
  nrb:¬ L.S m L.rb
  nbb:¬ L.S m L.bb

theorem PRep.keep {S:Nat→Prop} {w w':World} {L:PL} {m:Mt} (h:PRep w L m) (k:Kep S w w') (hs:∀ b,L.S m b→¬ S b) (hr:¬ S L.rb) (hb:¬ S L.bb):PRep w' L m:=by
  have a1:¬ S L.x:=hs _ ⟨.x,rfl⟩
  have a2:¬ S L.ab:=hs _ ⟨.ab,rfl⟩
  have a3:∀ i,i<m.H→¬ S (L.gb i):=fun i hi=>hs _ ⟨.gb i,by simp [PL.F,hi]⟩
  have a4:∀ i g s,at3 m i g s→¬ S (L.qb i g s):=fun i g s q=>hs _ ⟨.qb i g s,by simp [PL.F,q]⟩
  have a5:∀ i g s b,at3 m i g s→(L.qv i g s).ownBlock=some b→¬ S b:=fun i g s b q e=>hs _ ⟨.qv i g s,by simp [PL.F,q,e]⟩
  have a6:∀ i g s n b,at3 m i g s→(L.ob i g s)[n]? = some b→¬ S b:=fun i g s n b q e=>hs _ ⟨.ob i g s n,by simp [PL.F,q,e]⟩
  exact ⟨h.cG.kep k a1,h.cR.kep k a1,h.cA.kep k a1,h.cL.kep k a1,h.cB.kep k a1,h.cN.kep k a1,h.cH.kep k a1,h.cTm.kep k a1,fun i hi=>k.cell (h.rt i hi) hr,fun t ht=>(h.mo t ht).kep k a2,fun t i g ht hi hg=>(h.pc t i g ht hi hg).kep k a2,
    ownsRow_kep h.ld k (fun g hg=>hs g ⟨.lv,hg⟩),fun i hi=>k.cell (h.bks i hi) hb,fun i g s q=>(h.sd i g s q).kep k (a3 i q.1),fun i g hi hg=>(h.la i g hi hg).kep k (a3 i hi),fun i g hi hg=>(h.pi i g hi hg).kep k (a3 i hi),fun i g hi hg=>(h.am i g hi hg).kep k (a3 i hi),
    fun i g s q=>k.cell (h.q0 i g s q) (a4 i g s q),fun i g s q=>(h.q1 i g s q).kep k (a4 i g s q),fun i g s q=>ownsRow_kep (h.qr i g s q) k (fun b e=>a5 i g s b q e),h.ln,fun i g s n b o q e1 e2 j v e3=>(h.oc i g s n b o q e1 e2 j v e3).kep k (a6 i g s n b q e1),fun i g s n b q e=>(h.oz i g s n b q e).kep k (a6 i g s n b q e),h.inj,h.nrb,h.nbb⟩

theorem PRep.later {w w':World} {L:PL} {m:Mt} (h:PRep w L m) (k:Kep non w w'):PRep w' L m:=h.keep k (fun _ _ q=>q) (fun q=>q) (fun q=>q)

theorem PRep.bel {w w':World} {L:PL} {m:Mt} (h:PRep w L m) (k:Below w.heap.size w w'):PRep w' L m:=h.later (Kep.of_below k)

theorem PRep.lt {w:World} {L:PL} {m:Mt} (h:PRep w L m) (T1:1≤m.T) (G1:1≤m.G):∀ b,L.S m b→b<w.heap.size:=by
  rintro b ⟨i,hi⟩
  rcases i with _ | _ | _ | i | ⟨i,g,s⟩ | ⟨i,g,s⟩ | ⟨i,g,s,n⟩
  · obtain rfl:L.x=b:=by simpa [PL.F] using hi
    exact h.cG.lt
  · obtain rfl:L.ab=b:=by simpa [PL.F] using hi
    exact (h.mo 0 (by omega)).lt
  · exact (h.ld.lt b hi).2
  · simp only [PL.F] at hi
    split at hi
    · obtain rfl:L.gb i=b:=by simpa using hi
      exact (h.la i 0 (by assumption) (by omega)).lt
    · simp at hi
  · simp only [PL.F] at hi
    split at hi
    · obtain rfl:L.qb i g s=b:=by simpa using hi
      exact (h.q1 i g s (by assumption)).lt
    · simp at hi
  · simp only [PL.F] at hi
    split at hi
    · exact ((h.qr i g s (by assumption)).lt b hi).2
    · simp at hi
  · simp only [PL.F] at hi
    split at hi
    · have q:at3 m i g s:=by assumption
      have hn:n<(L.ob i g s).length:=(List.getElem?_eq_some_iff.1 hi).1
      rw [h.ln i g s q] at hn
      exact (h.oc i g s n b _ q hi (List.getElem?_eq_getElem hn) 0 _ rfl).lt
    · simp at hi

theorem PRep.rblt {w:World} {L:PL} {m:Mt} (h:PRep w L m) (H1:1≤m.H):L.rb<w.heap.size∧L.bb<w.heap.size :=
  ⟨World.block_lt_of_cell? w _ (h.rt 0 (by omega)),World.block_lt_of_cell? w _ (h.bks 0 (by omega))⟩

def PL.all (L:PL) (m:Mt):List Nat:=upH m.G L.ob m.H

theorem PRep.ptrs {w:World} {L:PL} {m:Mt} (h:PRep w L m) {i g s:Nat} (q:at3 m i g s):Ptrs w.heap.size w (L.qv i g s) (L.ob i g s):=by
  have r:=h.qr i g s q
  rcases r.2 with ⟨e,e2⟩ | ⟨b,cap,cur,e,_,e2,_⟩
  · exact .inl ⟨0,e,List.eq_nil_of_length_eq_zero e2⟩
  · refine .inr ⟨b,cap,e,(Array.getElem?_eq_some_iff.1 e2).1,fun j hj=>?_⟩
    rw [e] at r
    rw [Nat.zero_add,r.cellAt j (by omega)]
    simp [List.getElem?_eq_getElem hj,optr]

theorem PRep.qvform {w:World} {L:PL} {m:Mt} (h:PRep w L m) {i g s:Nat} (q:at3 m i g s):∃ a c,L.qv i g s = .slice a (L.ob i g s).length c:=by
  rcases (h.qr i g s q).2 with ⟨e,e2⟩ | ⟨b,cap,cur,e,_⟩
  · exact ⟨none,0,by rw [e,e2]⟩
  · exact ⟨_,_,e⟩
end

end Go.Proofs.YtcfoobhihhndjaaGreat
