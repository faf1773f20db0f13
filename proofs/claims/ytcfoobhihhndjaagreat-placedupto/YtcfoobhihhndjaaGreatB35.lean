
import Derived.Deep.DeepCutAuto
import Derived.Test.YtcfoobhihhndjaaGreatB34
namespace Go.Proofs.YtcfoobhihhndjaaGreat

section
open Go.RowKit Go.Sort

section
variable {r:Rm} {K:Int}
theorem Rm.Ok.mono (o:r.Ok K) {K':Int} (h:K≤K') (h':K'≤1000):r.Ok K' :=
  ⟨by have:=o.K0;omega,h',o.T1,o.T8,o.G1,o.G4,o.H1,o.H4,o.rt,fun t ht=>by have:=o.mo t ht;omega,fun t h g ht hh hg=>by have:=o.pc t h g ht hh hg;omega,o.l20,o.ld,o.w60,o.wt,fun h g hh hg=>by have:=o.pi h g hh hg;omega,fun h g hh hg=>by have:=o.am h g hh hg;omega,o.nx,by have:=o.ho;omega,o.tm⟩
theorem Rm.Ok.setMo (o:r.Ok K) (hK:K+1≤1000) (k:Nat) (v:Int) (hv:-(2000000000000+(K+1) * 10000000000)≤v∧v≤2000000000000+(K+1) * 10000000000):(r.setMo k v).Ok (K+1):=by
  have q:=o.mono (K':=K+1) (by omega) hK
  exact ⟨q.K0,q.K1,q.T1,q.T8,q.G1,q.G4,q.H1,q.H4,q.rt,fun t ht=>by
    show _≤(if t=k then v else r.mo t)∧(if t=k then v else r.mo t)≤_
    split
    · exact hv
    · exact q.mo t ht,q.pc,q.l20,q.ld,q.w60,q.wt,q.pi,q.am,q.nx,q.ho,q.tm⟩
theorem Rm.Ok.setPc (o:r.Ok K) (hK:K+1≤1000) (t h g:Nat) (v:Int) (hv:-(1000000000000+(K+1) * 10000)≤v∧v≤1000000000000+(K+1) * 10000):(r.setPc t h g v).Ok (K+1):=by
  have q:=o.mono (K':=K+1) (by omega) hK
  exact ⟨q.K0,q.K1,q.T1,q.T8,q.G1,q.G4,q.H1,q.H4,q.rt,q.mo,fun a b c ha hb hc=>by
    show _≤(if a=t∧b=h∧c=g then v else r.pc a b c)∧(if a=t∧b=h∧c=g then v else r.pc a b c)≤_
    split
    · exact hv
    · exact q.pc a b c ha hb hc,q.l20,q.ld,q.w60,q.wt,q.pi,q.am,q.nx,q.ho,q.tm⟩
theorem Rm.Ok.setHo (o:r.Ok K) (hK:K+1≤1000) (v:Int) (hv:0≤v∧v≤2000000000000+(K+1) * 1000000000):({ r with ho:=v }:Rm).Ok (K+1):=by
  have q:=o.mono (K':=K+1) (by omega) hK
  exact ⟨q.K0,q.K1,q.T1,q.T8,q.G1,q.G4,q.H1,q.H4,q.rt,q.mo,q.pc,q.l20,q.ld,q.w60,q.wt,q.pi,q.am,q.nx,hv,q.tm⟩
theorem Rm.Ok.setLa (o:r.Ok K) (f:Nat→Nat→Int):({ r with la:=f }:Rm).Ok K :=
  ⟨o.K0,o.K1,o.T1,o.T8,o.G1,o.G4,o.H1,o.H4,o.rt,o.mo,o.pc,o.l20,o.ld,o.w60,o.wt,o.pi,o.am,o.nx,o.ho,o.tm⟩
theorem Rm.Ok.setPi (o:r.Ok K) (hK:K+1≤1000) (h g:Nat) (v:Int) (hv:0≤v∧v≤1000000000000000+(K+1) * 10000):({ r with pi:=set2 r.pi h g v }:Rm).Ok (K+1):=by
  have q:=o.mono (K':=K+1) (by omega) hK
  exact ⟨q.K0,q.K1,q.T1,q.T8,q.G1,q.G4,q.H1,q.H4,q.rt,q.mo,q.pc,q.l20,q.ld,q.w60,q.wt,fun a b ha hb=>by
    show _≤(if a=h∧b=g then v else r.pi a b)∧(if a=h∧b=g then v else r.pi a b)≤_
    split
    · exact hv
    · exact q.pi a b ha hb,q.am,q.nx,q.ho,q.tm⟩
theorem Rm.Ok.setAm (o:r.Ok K) (hK:K+1≤1000) (h g:Nat) (v:Int) (hv:0≤v∧v≤1000000000000000000+(K+1) * 1000000000):({ r with am:=set2 r.am h g v }:Rm).Ok (K+1):=by
  have q:=o.mono (K':=K+1) (by omega) hK
  exact ⟨q.K0,q.K1,q.T1,q.T8,q.G1,q.G4,q.H1,q.H4,q.rt,q.mo,q.pc,q.l20,q.ld,q.w60,q.wt,q.pi,fun a b ha hb=>by
    show _≤(if a=h∧b=g then v else r.am a b)∧(if a=h∧b=g then v else r.am a b)≤_
    split
    · exact hv
    · exact q.am a b ha hb,q.nx,q.ho,q.tm⟩
theorem Rm.Ok.setWt (o:r.Ok K) (ls:List Od) (hl:ls.length≤60) (hw:∀ x,x∈ls→(0≤x.t∧x.t<r.T)∧(0≤x.h∧x.h<r.H)∧(0≤x.g∧x.g<r.G)∧(0≤x.s∧x.s≤1)∧(1≤x.p∧x.p≤100000)∧(1≤x.q∧x.q≤10000)):({ r with wt:=ls }:Rm).Ok K :=
  ⟨o.K0,o.K1,o.T1,o.T8,o.G1,o.G4,o.H1,o.H4,o.rt,o.mo,o.pc,o.l20,o.ld,hl,hw,o.pi,o.am,o.nx,o.ho,o.tm⟩
theorem Rm.Ok.drop (o:r.Ok K) (k:Nat):(rdrop r k).Ok K:=o.setWt _ (by have:=o.w60;simp;omega) (fun x hx=>o.wt x (by
  rcases List.mem_append.1 hx with q | q
  · exact List.mem_of_mem_take q
  · exact List.mem_of_mem_drop q))
end

def rpaid (r:Rm) (b s t:Nat) (h g:Nat) (n a f:Int):Rm :=
  let r1:=r.setMo b (r.mo b - a)
  let r2:=r1.setMo s (r1.mo s+a)
  let r3:=r2.setMo t (r2.mo t - f)
  let r4:Rm:={ r3 with ho:=r3.ho+f }
  let r5:=r4.setPc s h g (r4.pc s h g - n)
  r5.setPc b h g (r5.pc b h g+n)
def rnote (r:Rm) (h g:Nat) (p n a:Int):Rm :=
  let r1:Rm:={ r with la:=set2 r.la h g p }
  let r2:Rm:={ r1 with pi:=set2 r1.pi h g (r1.pi h g+n) }
  { r2 with am:=set2 r2.am h g (r2.am h g+a) }
def rless (r:Rm) (k:Nat) (x:Od) (n:Int):Rm:={ r with wt:=r.wt.set k { x with q:=x.q - n } }

def rbuys (o x:Od):Nat:=if o.s=1 then x.t.toNat else o.t.toNat
def rsells (o x:Od):Nat:=if o.s=1 then o.t.toNat else x.t.toNat
def rtraded (r:Rm) (o x:Od) (k:Nat):Rm :=
  rless (rnote (rpaid r (rbuys o x) (rsells o x) o.t.toNat o.h.toNat o.g.toNat (min o.q x.q) (x.p * min o.q x.q) (r.fee o.h.toNat (x.p * min o.q x.q))) o.h.toNat o.g.toNat x.p (min o.q x.q) (x.p * min o.q x.q)) k x (min o.q x.q)
def rtrade (r:Rm) (o x:Od) (k:Nat):Rm:=if x.q=min o.q x.q then rdrop (rtraded r o x k) k else rtraded r o x k

theorem rdCells_setq:∀ (ls:List Od) (k:Nat) (x:Od) (q:Int),ls[k]? = some x→rdCells (ls.set k { x with q:=q })=(rdCells ls).set (k * 8+6) (.int .i64 q)
  | [],k,x,q,h=>by simp at h
  | y :: ls,0,x,q,h=>by
    simp at h
    subst h
    simp [rdCells,Od.cells]
  | y :: ls,k+1,x,q,h=>by
    have ih:=rdCells_setq ls k x q (by simpa using h)
    have e:(k+1) * 8+6=k * 8+6+8:=by omega
    rw [List.set_cons_succ,show rdCells (y :: ls.set k { x with q:=q })=y.cells ++ rdCells (ls.set k { x with q:=q }) from rfl,show rdCells (y :: ls)=y.cells ++ rdCells ls from rfl,ih,e]
    generalize rdCells ls=z
    simp [Od.cells,List.set_cons_succ]

theorem RRep.setQ {w:World} {L:RL} {r:Rm} {lb cap k:Nat} {x:Od} (R:RRep w L r) (hv:L.wv = .slice (some ⟨lb,0,none⟩) r.wt.length cap) (hx:r.wt[k]? = some x) (q:Int) :
    RRep (w.setCell ⟨lb,k * 8+6,none⟩ (.int .i64 q)) L { r with wt:=r.wt.set k { x with q:=q } }:=by
  refine R.one 6 ((Kep.refl (fun b=>L.F 6=some b) w).setCell (p:=⟨lb,k * 8+6,none⟩) (.inl (by show L.wv.ownBlock=some lb;rw [hv];rfl)) _) ?_ (fun i hi h=>?_)
  · have hr:=R.wt
    show World.ownsRow _ 0 _ 8 L.wv (r.wt.set k _).length _
    rw [rdCells_setq _ _ _ _ hx,List.length_set]
    rw [hv] at hr ⊢
    exact (hr.stored (k * 8+6) (.int .i64 q)).1
  · rcases i with _ | _ | _ | _ | _ | _ | _ | _ | _ | i
    · exact ⟨h.cT,h.cG,h.cR,h.cM,h.cP,h.cW,h.cL,h.cLa,h.cPi,h.cAm,h.cN,h.cF,h.cTm⟩
    all_goals first | exact h | exact absurd rfl hi

theorem three_at0 (w:World) (a b c:Obj):(((w.alloc a).alloc b).alloc c).heap[w.heap.size]? = some a:=by
  rw [Below.heap_alloc _ _ _ (by simp;omega),Below.heap_alloc _ _ _ (by simp)]
  exact heap_alloc_new w a
theorem three_at1 (w:World) (a b c:Obj):(((w.alloc a).alloc b).alloc c).heap[w.heap.size+1]? = some b:=by
  rw [Below.heap_alloc _ _ _ (by simp)]
  have:=heap_alloc_new (w.alloc a) b
  simpa using this
theorem three_at2 (w:World) (a b c:Obj):(((w.alloc a).alloc b).alloc c).heap[w.heap.size+2]? = some c:=by
  have:=heap_alloc_new ((w.alloc a).alloc b) c
  simpa using this

theorem six_set {w:World} {b:Nat} (h:∀ j,j<6→Own w ⟨b,j,none⟩ (.int .i64 0)) (v0 v1 v2 v3 v4 v5:Value) :
    let W:=(((((w.setCell ⟨b,0,none⟩ v0).setCell ⟨b,1,none⟩ v1).setCell ⟨b,2,none⟩ v2).setCell ⟨b,3,none⟩ v3).setCell ⟨b,4,none⟩ v4).setCell ⟨b,5,none⟩ v5
    W.cell? ⟨b,0,none⟩=some v0∧W.cell? ⟨b,1,none⟩=some v1∧W.cell? ⟨b,2,none⟩=some v2∧W.cell? ⟨b,3,none⟩=some v3∧W.cell? ⟨b,4,none⟩=some v4∧W.cell? ⟨b,5,none⟩=some v5∧Kep (fun i=>i=b) w W:=by
  have ne:∀ i j:Nat,i≠j→(⟨b,i,none⟩ : Addr)≠⟨b,j,none⟩:=fun i j hj q=>by injection q with _ q _;exact hj q
  have s:∀ {W:World} {i:Nat} {u:Value} (j:Nat) (v:Value),i≠j→Own W ⟨b,i,none⟩ u→Own (W.setCell ⟨b,j,none⟩ v) ⟨b,i,none⟩ u:=fun j v hj h=>h.set_other (ne _ j hj) rfl rfl v
  have e:∀ {W:World} {i:Nat} {u:Value} (v:Value),Own W ⟨b,i,none⟩ u→Own (W.setCell ⟨b,i,none⟩ v) ⟨b,i,none⟩ v:=fun v h=>h.set rfl v
  have o0:=s 5 v5 (by decide) (s 4 v4 (by decide) (s 3 v3 (by decide) (s 2 v2 (by decide) (s 1 v1 (by decide) (e v0 (h 0 (by decide)))))))
  have o1:=s 5 v5 (by decide) (s 4 v4 (by decide) (s 3 v3 (by decide) (s 2 v2 (by decide) (e v1 (s 0 v0 (by decide) (h 1 (by decide)))))))
  have o2:=s 5 v5 (by decide) (s 4 v4 (by decide) (s 3 v3 (by decide) (e v2 (s 1 v1 (by decide) (s 0 v0 (by decide) (h 2 (by decide)))))))
  have o3:=s 5 v5 (by decide) (s 4 v4 (by decide) (e v3 (s 2 v2 (by decide) (s 1 v1 (by decide) (s 0 v0 (by decide) (h 3 (by decide)))))))
  have o4:=s 5 v5 (by decide) (e v4 (s 3 v3 (by decide) (s 2 v2 (by decide) (s 1 v1 (by decide) (s 0 v0 (by decide) (h 4 (by decide)))))))
  have o5:=e v5 (s 4 v4 (by decide) (s 3 v3 (by decide) (s 2 v2 (by decide) (s 1 v1 (by decide) (s 0 v0 (by decide) (h 5 (by decide)))))))
  have k:∀ {W:World} (j:Nat) (v:Value),Kep (fun i=>i=b) w W→Kep (fun i=>i=b) w (W.setCell ⟨b,j,none⟩ v):=fun j v q=>q.setCell (p:=⟨b,j,none⟩) (.inl rfl) v
  exact ⟨o0.cell,o1.cell,o2.cell,o3.cell,o4.cell,o5.cell,k 5 v5 (k 4 v4 (k 3 v3 (k 2 v2 (k 1 v1 (k 0 v0 (Kep.refl _ w))))))⟩

structure RT (w:World) (B:Nat) (L:RL) (o x:Od) (W:World) (r:Rm):Prop where
  R:RRep W L r
  lt:∀ b,L.S b→b<B
  oc:∀ j u,o.cells[j]? = some u→W.cell? ⟨B,j,none⟩=some u
  xc:∀ j u,x.cells[j]? = some u→W.cell? ⟨B+1+1,j,none⟩=some u
  rs:∀ j,j<6→Own W ⟨B+1,j,none⟩ (.int .i64 0)
  kp:Kep L.S w W

section
variable {w W W':World} {B:Nat} {L:RL} {o x:Od} {r r':Rm}
theorem RT.turn (S:RT w B L o x W r) (k:Kep L.S W W') (R:RRep W' L r'):RT w B L o x W' r' :=
  ⟨R,S.lt,fun j u h=>k.cell (S.oc j u h) (fun q=>by have:=S.lt B q;omega),fun j u h=>k.cell (S.xc j u h) (fun q=>by have:=S.lt (B+1+1) q;omega),fun j hj=>(S.rs j hj).kep k (fun q=>by have:=S.lt (B+1) q;omega),S.kp.trans k⟩
theorem RT.later (S:RT w B L o x W r) (k:Kep non W W'):RT w B L o x W' r:=S.turn k.none (S.R.later k)
theorem RT.mo (S:RT w B L o x W r) (k:Nat) (hk:k<r.T) (v:Int):RT w B L o x (W.setCell ⟨L.mb,k,none⟩ (.int .i64 v)).drew (r.setMo k v) :=
  (S.turn ((Kep.refl L.S W).setCell (p:=⟨L.mb,k,none⟩) (.inl ⟨1,rfl⟩) _) (S.R.setMo k hk v)).later ((Kep.refl _ _).drew)
theorem RT.pcs (S:RT w B L o x W r) (t h g:Nat) (ht:t<r.T) (hh:h<r.H) (hg:g<r.G) (k:Nat) (hk:(t * r.H+h) * r.G+g=k) (v:Int):RT w B L o x (W.setCell ⟨L.pb,k,none⟩ (.int .i64 v)).drew (r.setPc t h g v):=hk ▸
  (S.turn ((Kep.refl L.S W).setCell (p:=⟨L.pb,(t * r.H+h) * r.G+g,none⟩) (.inl ⟨2,rfl⟩) _) (S.R.setPc t h g ht hh hg v)).later ((Kep.refl _ _).drew)
theorem RT.ho (S:RT w B L o x W r) (v:Int):RT w B L o x (W.setCell ⟨L.c,11,none⟩ (.int .i64 v)) { r with ho:=v } :=
  S.turn ((Kep.refl L.S W).setCell (p:=⟨L.c,11,none⟩) (.inl ⟨0,rfl⟩) _) (S.R.setHo v)
theorem RT.la (S:RT w B L o x W r) (h g:Nat) (hh:h<r.H) (hg:g<r.G) (k:Nat) (hk:h * r.G+g=k) (v:Int):RT w B L o x (W.setCell ⟨L.lab,k,none⟩ (.int .i64 v)).drew { r with la:=set2 r.la h g v }:=hk ▸
  (S.turn ((Kep.refl L.S W).setCell (p:=⟨L.lab,h * r.G+g,none⟩) (.inl ⟨3,rfl⟩) _) (S.R.setLa h g hh hg v)).later ((Kep.refl _ _).drew)
theorem RT.pi (S:RT w B L o x W r) (h g:Nat) (hh:h<r.H) (hg:g<r.G) (k:Nat) (hk:h * r.G+g=k) (v:Int):RT w B L o x (W.setCell ⟨L.pib,k,none⟩ (.int .i64 v)).drew { r with pi:=set2 r.pi h g v }:=hk ▸
  (S.turn ((Kep.refl L.S W).setCell (p:=⟨L.pib,h * r.G+g,none⟩) (.inl ⟨4,rfl⟩) _) (S.R.setPi h g hh hg v)).later ((Kep.refl _ _).drew)
theorem RT.am (S:RT w B L o x W r) (h g:Nat) (hh:h<r.H) (hg:g<r.G) (k:Nat) (hk:h * r.G+g=k) (v:Int):RT w B L o x (W.setCell ⟨L.amb,k,none⟩ (.int .i64 v)).drew { r with am:=set2 r.am h g v }:=hk ▸
  (S.turn ((Kep.refl L.S W).setCell (p:=⟨L.amb,h * r.G+g,none⟩) (.inl ⟨5,rfl⟩) _) (S.R.setAm h g hh hg v)).later ((Kep.refl _ _).drew)
theorem RT.q (S:RT w B L o x W r) {lb cap k:Nat} {y:Od} (hv:L.wv = .slice (some ⟨lb,0,none⟩) r.wt.length cap) (hx:r.wt[k]? = some y) (v:Int):RT w B L o x (W.setCell ⟨lb,k * 8+6,none⟩ (.int .i64 v)).drew { r with wt:=r.wt.set k { y with q:=v } } :=
  (S.turn ((Kep.refl L.S W).setCell (p:=⟨lb,k * 8+6,none⟩) (.inl ⟨6,by show L.wv.ownBlock=some lb;rw [hv];rfl⟩) _) (S.R.setQ hv hx v)).later ((Kep.refl _ _).drew)
end
end

section
open Go.RowKit Go.Sort

def tailOf:Nat→Code→Code
  | 0,c=>c
  | n+1,.seq _ b=>tailOf n b
  | _+1,c=>c
def bodyTail (f:Func) (n:Nat):Code:=tailOf n (f.body.getD .skip)

set_option maxRecDepth 1000000 in
set_option maxHeartbeats 16000000 in
theorem trades_end (w:World) (B:Nat) (hB:w.heap.size=B) (L:RL) (r:Rm) (K:Int) (ok:r.Ok K) (hK:K+10≤1000) (oid os op oq ow xid xh xg xs xp xq xw:Int) (t h g tx k:Nat) (hh:h<r.H) (hg:g<r.G) (hk:k<r.wt.length) (hx:r.wt[k]? = some (⟨xid,(tx:Int),xh,xg,xs,xp,xq,xw⟩ : Od)) (n a f:Int) (n0:1≤n) (n1:n≤10000) (nq:n≤xq) (xq1:xq≤10000) (a0:0≤a) (a1:a≤100000 * 10000) (lb cap:Nat) (hv:L.wv = .slice (some ⟨lb,0,none⟩) r.wt.length cap) (r6:Rm) (ok6:r6.Ok (K+1+1+1+1+1+1)) (d6:r6.T=r.T∧r6.G=r.G∧r6.H=r.H∧r6.wt=r.wt) (rx:Rm) (hrx:rx=r6) (W6:World) (S6:RT w B L (⟨oid,(t:Int),(h:Int),(g:Int),os,op,oq,ow⟩ : Od) (⟨xid,(tx:Int),xh,xg,xs,xp,xq,xw⟩ : Od) W6 r6) (bb ss ks kb:Nat) {u1 u3 u5 u15 u16 u17 u18 u19 u20 u21 u22 u23 u24 u25 u26 u27 u28 u29 u30 u31 u32 u33 u34 u35 u36 u37 u38 u39 u40 u41 u42 u43 u44 u45 u46 u47 u48 u49 u50 u51 u52 u53 u54 u55 u56 u57 u58 u59 u60 u61 u62 u63 u64 u65 u66 u67 u68 u69 u70 u71 u72 u73 u74 u75 u76 u77 u78 u79 u80 u81 u82 u83 u84 u85 u86 u87 u88 u89 u90 u91 u92 u93 u94 u95 u96 u97 u98 u99 u100 u101 u102 u103 u104 u105 u106 u107 u108 u109 u110 u111 u112 u113 u114 u115 u116 u117 u118 u119 u120 u121 u122 u123 u124 u125 u126 u127 u128 u129 u130 u131 u132 u133 u134 u135 u136 u137 u138 u139 u140 u141 u142 u143 u144 u145 u146 u147 u148 u149 u150 u151 u152 u153 u154 u155 u156 u157 u158 u159 u160 u161 u162 u163 u164 u165 u166 u167 u168 u169 u170 u171 u172 u173 u174 u175 u176 u177 u178 u179 u180 u181 u182 u183 u184 u185 u186 u187 u188 u189 u190 u191 u192 u193 u194 u195 u196 u197 u198 u199 u200 u201 u202 u203 u204 u205 u206 u207 u208 u209 u210 u211 u212 u213 u214 u215 u216 u217 u218 u219 u220:Value} :
    Code.wp Tryz.prog (bodyTail Tryz.f51 16) (bodyPost Tryz.prog Tryz.f51 fun e w'=>e = .returned (.agg #[.int .i64 oid,.int .i64 xid,.int .i64 tx,.int .i64 xp,.int .i64 n,.int .i64 f])∧RPost w L (if xq=n then rdrop (rless (rnote rx h g xp n a) k (⟨xid,(tx:Int),xh,xg,xs,xp,xq,xw⟩ : Od) n) k else rless (rnote rx h g xp n a) k (⟨xid,(tx:Int),xh,xg,xs,xp,xq,xw⟩ : Od) n) w') ⟨#[.pointer (some ⟨L.c,0,none⟩),u1,.int .i64 k,u3,.pointer (some ⟨B,0,none⟩),u5,.pointer (some ⟨B+1,0,none⟩),.pointer (some ⟨B+1+1,0,none⟩),.int .i64 n,.int .i64 a,.int .i64 f,.int .i64 bb,.int .i64 ss,.int .i64 ks,.int .i64 kb,u15,u16,u17,u18,u19,u20,u21,u22,u23,u24,u25,u26,u27,u28,u29,u30,u31,u32,u33,u34,u35,u36,u37,u38,u39,u40,u41,u42,u43,u44,u45,u46,u47,u48,u49,u50,u51,u52,u53,u54,u55,u56,u57,u58,u59,u60,u61,u62,u63,u64,u65,u66,u67,u68,u69,u70,u71,u72,u73,u74,u75,u76,u77,u78,u79,u80,u81,u82,u83,u84,u85,u86,u87,u88,u89,u90,u91,u92,u93,u94,u95,u96,u97,u98,u99,u100,u101,u102,u103,u104,u105,u106,u107,u108,u109,u110,u111,u112,u113,u114,u115,u116,u117,u118,u119,u120,u121,u122,u123,u124,u125,u126,u127,u128,u129,u130,u131,u132,u133,u134,u135,u136,u137,u138,u139,u140,u141,u142,u143,u144,u145,u146,u147,u148,u149,u150,u151,u152,u153,u154,u155,u156,u157,u158,u159,u160,u161,u162,u163,u164,u165,u166,u167,u168,u169,u170,u171,u172,u173,u174,u175,u176,u177,u178,u179,u180,u181,u182,u183,u184,u185,u186,u187,u188,u189,u190,u191,u192,u193,u194,u195,u196,u197,u198,u199,u200,u201,u202,u203,u204,u205,u206,u207,u208,u209,u210,u211,u212,u213,u214,u215,u216,u217,u218,u219,u220],[]⟩ W6:=by
  have HB:=hide hB
  have HX:=hide hx
  have HVV:=hide hv
  have HOK:=hide ok
  have hK0:=ok.K0
  rw [hrx]
  clear hrx
  clear hB hx hv ok
  conv=>arg 2;whnf
  dsimp only
  have o2:=S6.oc 2 _ rfl
  have o3:=S6.oc 3 _ rfl
  simp only [] at o2 o3
  have HL1:=hide (rspot_any W6 L r6 _ S6.R ok6 h g (by rw [d6.2.2.1];exact hh) (by rw [d6.2.1];exact hg))
  rw [d6.2.1] at HL1
  generalize hkp:h * r.G+g=kp at *
  have HKP:=hide hkp
  have lkp:kp<r.G * r.H:=by rw [← hkp];exact spot_lt hh hg
  clear hkp
  generalize hGH:r.G * r.H=GH at *
  have HGH:=hide hGH
  clear hGH
  go_wp2_with fail
  refine HL1.out.mono ?_
  rintro e W6' ⟨rfl,hW6⟩
  subst hW6
  clear HL1 o2 o3
  have x5:=S6.xc 5 _ rfl
  simp only [] at x5
  have c7:=S6.R.c.cLa.cell
  rw [d6.2.1,d6.2.2.1,HGH.out] at c7
  have e1:h * r6.G+g=kp:=by rw [d6.2.1];exact HKP.out
  have t2:h<r6.H:=by rw [d6.2.2.1];exact hh
  have t3:g<r6.G:=by rw [d6.2.1];exact hg
  obtain ⟨cm,cf⟩:=S6.R.la h g t2 t3
  rw [e1] at cm cf
  have hbT:(kp:Int)<(GH:Int):=by omega
  go_upto_region 19 with fail
  go_cut [] (fun wx=>RT w B L (⟨oid,(t:Int),(h:Int),(g:Int),os,op,oq,ow⟩ : Od) (⟨xid,(tx:Int),xh,xg,xs,xp,xq,xw⟩ : Od) wx ({ r6 with la:=set2 r6.la h g (xp) }))
  · go_region
    all_goals go_step
    all_goals go_step
    all_goals go_meet
    exact S6.la h g t2 t3 kp e1 _
  obtain ⟨r7,hr7⟩ : ∃ rr:Rm,rr={ r6 with la:=set2 r6.la h g (xp) }:=⟨_,rfl⟩
  have ok7:r7.Ok (K+1+1+1+1+1+1):=by rw [hr7];exact ok6.setLa _
  have d7:r7.T=r.T∧r7.G=r.G∧r7.H=r.H∧r7.wt=r.wt:=by rw [hr7];exact d6
  rw [← hr7] at hcut
  have HR7:=hide hr7
  clear c7 cm cf hbT hr7 t2 t3 e1 S6 ok6 d6
  have S7:=hcut
  clear hcut
  obtain ⟨W7,hwc⟩ : ∃ V,V=wc:=⟨_,rfl⟩
  subst hwc
  clear x5
  have c7:=S7.R.c.cPi.cell
  rw [d7.2.1,d7.2.2.1,HGH.out] at c7
  have e1:h * r7.G+g=kp:=by rw [d7.2.1];exact HKP.out
  have t2:h<r7.H:=by rw [d7.2.2.1];exact hh
  have t3:g<r7.G:=by rw [d7.2.1];exact hg
  obtain ⟨cm,cf⟩:=S7.R.pi h g t2 t3
  rw [e1] at cm cf
  have mb:=ok7.pi h g t2 t3
  have vw:IntKind.i64.wrap (r7.pi h g+n)=r7.pi h g+n:=by rw [IntKind.wrap_i64];omega
  have hbT:(kp:Int)<(GH:Int):=by omega
  go_upto_region 20 with fail
  go_cut [] (fun wx=>RT w B L (⟨oid,(t:Int),(h:Int),(g:Int),os,op,oq,ow⟩ : Od) (⟨xid,(tx:Int),xh,xg,xs,xp,xq,xw⟩ : Od) wx ({ r7 with pi:=set2 r7.pi h g (r7.pi h g+n) }))
  · go_region
    all_goals go_step
    all_goals go_step
    all_goals go_meet
    exact S7.pi h g t2 t3 kp e1 _
  obtain ⟨r8,hr8⟩ : ∃ rr:Rm,rr={ r7 with pi:=set2 r7.pi h g (r7.pi h g+n) }:=⟨_,rfl⟩
  have ok8:r8.Ok (K+1+1+1+1+1+1+1):=by rw [hr8];exact ok7.setPi (by omega) _ _ _ (by omega)
  have d8:r8.T=r.T∧r8.G=r.G∧r8.H=r.H∧r8.wt=r.wt:=by rw [hr8];exact d7
  rw [← hr8] at hcut
  have HR8:=hide hr8
  clear c7 cm cf hbT hr8 t2 t3 e1 S7 ok7 d7
  have S8:=hcut
  clear hcut
  obtain ⟨W8,hwc⟩ : ∃ V,V=wc:=⟨_,rfl⟩
  subst hwc
  clear mb vw
  have c7:=S8.R.c.cAm.cell
  rw [d8.2.1,d8.2.2.1,HGH.out] at c7
  have e1:h * r8.G+g=kp:=by rw [d8.2.1];exact HKP.out
  have t2:h<r8.H:=by rw [d8.2.2.1];exact hh
  have t3:g<r8.G:=by rw [d8.2.1];exact hg
  obtain ⟨cm,cf⟩:=S8.R.am h g t2 t3
  rw [e1] at cm cf
  have mb:=ok8.am h g t2 t3
  have vw:IntKind.i64.wrap (r8.am h g+a)=r8.am h g+a:=by rw [IntKind.wrap_i64];omega
  have hbT:(kp:Int)<(GH:Int):=by omega
  go_upto_region 21 with fail
  go_cut [] (fun wx=>RT w B L (⟨oid,(t:Int),(h:Int),(g:Int),os,op,oq,ow⟩ : Od) (⟨xid,(tx:Int),xh,xg,xs,xp,xq,xw⟩ : Od) wx ({ r8 with am:=set2 r8.am h g (r8.am h g+a) }))
  · go_region
    all_goals go_step
    all_goals go_step
    all_goals go_meet
    exact S8.am h g t2 t3 kp e1 _
  obtain ⟨r9,hr9⟩ : ∃ rr:Rm,rr={ r8 with am:=set2 r8.am h g (r8.am h g+a) }:=⟨_,rfl⟩
  have ok9:r9.Ok (K+1+1+1+1+1+1+1+1):=by rw [hr9];exact ok8.setAm (by omega) _ _ _ (by omega)
  have d9:r9.T=r.T∧r9.G=r.G∧r9.H=r.H∧r9.wt=r.wt:=by rw [hr9];exact d8
  rw [← hr9] at hcut
  have HR9:=hide hr9
  clear c7 cm cf hbT hr9 t2 t3 e1 S8 ok8 d8
  have S9:=hcut
  clear hcut
  obtain ⟨W9,hwc⟩ : ∃ V,V=wc:=⟨_,rfl⟩
  subst hwc
  clear mb vw
  have hv9:L.wv = .slice (some ⟨lb,0,none⟩) r9.wt.length cap:=by rw [d9.2.2.2];exact HVV.out
  have hx9:r9.wt[k]? = some (⟨xid,(tx:Int),xh,xg,xs,xp,xq,xw⟩ : Od):=by rw [d9.2.2.2];exact HX.out
  have hk9:k<r9.wt.length:=by rw [d9.2.2.2];exact hk
  have c5:=S9.R.c.cW.cell
  rw [hv9,d9.2.2.2] at c5
  obtain ⟨lb2,cap2,hv2,hc2⟩:=ord_cells S9.R.wt k hk9
  rw [hv9] at hv2
  simp only [Value.slice.injEq,Option.some.injEq,Addr.mk.injEq,and_true,true_and] at hv2
  obtain ⟨rfl,rfl⟩:=hv2
  have ek:r9.wt[k]=(⟨xid,(tx:Int),xh,xg,xs,xp,xq,xw⟩ : Od):=by
    have:=List.getElem?_eq_getElem hk9
    rw [this] at hx9
    simpa using hx9
  rw [ek] at hc2
  obtain ⟨cm,cf⟩:=hc2 6 _ rfl
  simp only [] at cm
  have x6:=S9.xc 6 _ rfl
  simp only [] at x6
  have vw:IntKind.i64.wrap (xq - n)=xq - n:=by rw [IntKind.wrap_i64];omega
  go_upto_region 22 with fail
  go_cut [] (fun wx=>RT w B L (⟨oid,(t:Int),(h:Int),(g:Int),os,op,oq,ow⟩ : Od) (⟨xid,(tx:Int),xh,xg,xs,xp,xq,xw⟩ : Od) wx (rless r9 k (⟨xid,(tx:Int),xh,xg,xs,xp,xq,xw⟩ : Od) n))
  · go_region
    all_goals go_step
    all_goals go_step
    all_goals go_meet
    exact S9.q hv9 hx9 _
  obtain ⟨r10,hr10⟩ : ∃ rr:Rm,rr=rless r9 k (⟨xid,(tx:Int),xh,xg,xs,xp,xq,xw⟩ : Od) n:=⟨_,rfl⟩
  have d10:r10.T=r.T∧r10.G=r.G∧r10.H=r.H∧r10.wt.length=r.wt.length:=by rw [hr10];exact ⟨d9.1,d9.2.1,d9.2.2.1,by simp only [rless,List.length_set];rw [d9.2.2.2]⟩
  rw [← hr10] at hcut
  have HR10:=hide hr10
  have HO9:=hide ok9
  clear c5 cm cf x6 vw hr10 hv9 hx9 hk9 hc2 ek S9 ok9 d9
  have S10:=hcut
  clear hcut
  obtain ⟨W10,hwc⟩ : ∃ V,V=wc:=⟨_,rfl⟩
  subst hwc
  have HRF:Hid (rless (rnote r6 h g xp n a) k (⟨xid,(tx:Int),xh,xg,xs,xp,xq,xw⟩ : Od) n=r10):=hide (by
    have e7:=HR7.out
    have e8:=HR8.out
    have e9:=HR9.out
    have e10:=HR10.out
    clear S10
    subst e7 e8 e9 e10
    rfl)
  clear HR7 HR8 HR9 HR10 HO9
  have T1:=HOK.out.T1
  have G1:=HOK.out.G1
  have H1:=HOK.out.H1
  have w60:=HOK.out.w60
  have x6:=S10.xc 6 _ rfl
  simp only [] at x6
  by_cases hq:xq=n
  · have fq:(xq == n)=true:=by simpa using hq
    have HQ:=hide hq
    clear hq
    go_wp2_with fail
    refine (rdrops_any W10 L r10 S10.R (by rw [d10.1];exact T1) (by rw [d10.2.1];exact G1) (by rw [d10.2.2.1];exact H1) (by rw [d10.2.2.2];exact w60) k (by rw [d10.2.2.2];exact hk)).mono ?_
    rintro e W11 ⟨rfl,kd,v,hvf,RD⟩
    have nc:∀ b,B≤b→¬ b=L.c:=fun b hb q=>by have:=S10.lt b ⟨0,by rw [q];rfl⟩;omega
    have o0:=kd.cell (S10.oc 0 _ rfl) (nc _ (Nat.le_refl _))
    have x0:=kd.cell (S10.xc 0 _ rfl) (nc _ (by simp only [];omega))
    have x1:=kd.cell (S10.xc 1 _ rfl) (nc _ (by simp only [];omega))
    have x5:=kd.cell (S10.xc 5 _ rfl) (nc _ (by simp only [];omega))
    simp only [] at o0 x0 x1 x5
    have rs:=fun j hj=>(S10.rs j hj).kep kd (nc _ (by simp only [];omega))
    have HRS:=hide rs
    obtain ⟨b0,g0⟩:=rs 0 (by decide)
    obtain ⟨b1,g1⟩:=rs 1 (by decide)
    obtain ⟨b2,g2⟩:=rs 2 (by decide)
    obtain ⟨b3,g3⟩:=rs 3 (by decide)
    obtain ⟨b4,g4⟩:=rs 4 (by decide)
    obtain ⟨b5,g5⟩:=rs 5 (by decide)
    have HD:=hide RD
    have HS:=hide S10
    have HKD:=hide kd
    clear rs RD S10 kd x6
    go_wp2
    have T:=six_set HRS.out (.int .i64 oid) (.int .i64 xid) (.int .i64 tx) (.int .i64 xp) (.int .i64 n) (.int .i64 f)
    refine bodyPost_ret (v:=.agg #[.int .i64 oid,.int .i64 xid,.int .i64 tx,.int .i64 xp,.int .i64 n,.int .i64 f]) (by simp [results,Tryz.results51,go_sem,T.1,T.2.1,T.2.2.1,T.2.2.2.1,T.2.2.2.2.1,T.2.2.2.2.2.1]) rfl ⟨rfl,?_⟩
    first
      | rw [HRF.out,if_pos HQ.out]
      | (have hF:=HRF.out;rw [HQ.out] at hF;rw [hF])
    have bl:B+1<W10.heap.size:=(HS.out.rs 0 (by decide)).lt
    have kp2:Kep L.S w W11:=HS.out.kp.trans' HKD.out (fun i hi=>.inl ⟨0,by rw [hi];rfl⟩)
    have hBw:=HB.out
    refine ⟨kp2.trans' T.2.2.2.2.2.2 (fun i hi=>.inr (by omega)),{ L with wv:=v },rfl,fun b hb=>?_,HD.out.keep T.2.2.2.2.2.2 (fun b hb q=>?_)⟩
    · obtain ⟨i,hi⟩:=hb
      by_cases e6:i=6
      · subst e6
        have:=hvf b hi
        exact .inr (by omega)
      · exact .inl ⟨i,by rcases i with _ | _ | _ | _ | _ | _ | _ | _ | _ | i;all_goals first | exact hi | exact absurd rfl e6⟩
    · obtain ⟨i,hi⟩:=hb
      by_cases e6:i=6
      · subst e6
        have:=hvf b hi
        omega
      · have:=HS.out.lt b ⟨i,by rcases i with _ | _ | _ | _ | _ | _ | _ | _ | _ | i;all_goals first | exact hi | exact absurd rfl e6⟩
        omega
  · have fq:(xq == n)=false:=by simpa using hq
    have HQ:=hide hq
    clear hq
    have o0:=S10.oc 0 _ rfl
    have x0:=S10.xc 0 _ rfl
    have x1:=S10.xc 1 _ rfl
    have x5:=S10.xc 5 _ rfl
    simp only [] at o0 x0 x1 x5
    have rs:=S10.rs
    have HRS:=hide rs
    obtain ⟨b0,g0⟩:=rs 0 (by decide)
    obtain ⟨b1,g1⟩:=rs 1 (by decide)
    obtain ⟨b2,g2⟩:=rs 2 (by decide)
    obtain ⟨b3,g3⟩:=rs 3 (by decide)
    obtain ⟨b4,g4⟩:=rs 4 (by decide)
    obtain ⟨b5,g5⟩:=rs 5 (by decide)
    have HS:=hide S10
    clear rs S10
    go_wp2
    have T:=six_set HRS.out (.int .i64 oid) (.int .i64 xid) (.int .i64 tx) (.int .i64 xp) (.int .i64 n) (.int .i64 f)
    refine bodyPost_ret (v:=.agg #[.int .i64 oid,.int .i64 xid,.int .i64 tx,.int .i64 xp,.int .i64 n,.int .i64 f]) (by simp [results,Tryz.results51,go_sem,T.1,T.2.1,T.2.2.1,T.2.2.2.1,T.2.2.2.2.1,T.2.2.2.2.2.1]) rfl ⟨rfl,?_⟩
    first
      | rw [HRF.out,if_neg HQ.out]
      | rw [HRF.out]
    have hBw:=HB.out
    refine ⟨HS.out.kp.trans' T.2.2.2.2.2.2 (fun i hi=>.inr (by omega)),L,rfl,fun b hb=>.inl hb,HS.out.R.keep T.2.2.2.2.2.2 (fun b hb q=>?_)⟩
    have:=HS.out.lt b hb
    omega
end

end Go.Proofs.YtcfoobhihhndjaaGreat
