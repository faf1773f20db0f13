
import Derived.Deep.CutRange
import Derived.Deep.DeepCutAuto
import Derived.Deep.RegionHeld3
import Derived.RangeFuncNested
import Derived.Shelf.RegionOpen
import Derived.Test.YtcfoobhihhndjaaGreatB04
namespace Go.Proofs.YtcfoobhihhndjaaGreat

section
open Go.RowKit Go.Sort

attribute [local go_sem] Oper.semAt_some

theorem meets {X:Act→World→Prop} {G:Prop} {A:Act} {w1:World} (ways:X A w1→G) (rest:X A w1):G:=ways rest

def Good (w:World) (b:Nat) (o:Od):Prop:=OdAt w b o∧(0≤o.t∧o.t<8)∧(1≤o.p∧o.p≤100000)∧(1≤o.q∧o.q≤10000)

theorem all2_zip {α β:Type} {R:α→β→Prop}:∀ {a:List α} {b:List β},All2 R a b→∃ zs:List { p:α × β // R p.1 p.2 },zs.map (fun z=>z.1.1)=a∧zs.map (fun z=>z.1.2)=b
  | [],[],_=>⟨[],rfl,rfl⟩
  | [],_ :: _,h=>h.elim
  | _ :: _,[],h=>h.elim
  | x :: a,y :: b,h=>by
    obtain ⟨zs,h1,h2⟩:=all2_zip h.2
    exact ⟨⟨(x,y),h.1⟩ :: zs,by simp [h1],by simp [h2]⟩

theorem PRep.seq {w:World} {L:PL} {m:Mt} {N:Int} (R:PRep w L m) (ok:m.Ok N) {h g s:Nat} (q:at3 m h g s):∃ zs:List { p:Nat × Od // Good w p.1 p.2 },zs.map (fun z=>z.1.1)=L.ob h g s∧zs.map (fun z=>z.1.2)=m.bk h g s:=by
  refine all2_zip (forall2_of (R.ln h g s q) fun i x y q1 q2=>⟨R.oc h g s i x y q q1 q2,?_⟩)
  have hm:y∈m.all:=Mt.mem_all.2 ⟨h,g,s,q.1,q.2.1,q.2.2,List.mem_of_getElem? q2⟩
  obtain ⟨a,_,b,c⟩:=ok.all_ok hm
  exact ⟨a,b,c⟩

theorem loCells_at:∀ (l:List Lo) (k j:Nat) (hk:k<l.length),j<5→(loCells l)[k * 5+j]? = l[k].cells[j]?
  | x :: r,0,j,_,hj=>by
    simp only [loCells,List.flatMap_cons,Nat.zero_mul,Nat.zero_add,List.getElem_cons_zero]
    rw [List.getElem?_append_left (by simpa [Lo.cells] using hj)]
  | x :: r,k+1,j,hk,hj=>by
    have ih:=loCells_at r k j (by simpa using hk) hj
    simp only [loCells,List.flatMap_cons,List.getElem_cons_succ] at ih ⊢
    rw [List.getElem?_append_right (by simp [Lo.cells];omega),← ih]
    congr 1
    simp [Lo.cells]
    omega

theorem load_cells {w:World} {e:TypeId} {lv:Value} {ls:List Lo} (h:w.ownsRow 0 e 5 lv ls.length (loCells ls)) (k:Nat) (hk:k<ls.length):∃ lb cap,lv = .slice (some ⟨lb,0,none⟩) ls.length cap∧∀ j v,ls[k].cells[j]? = some v→w.cell? ⟨lb,k * 5+j,none⟩=some v:=by
  obtain ⟨lb,cap,rfl,_,_⟩:=h.form (by omega)
  refine ⟨lb,cap,rfl,fun j v q=>?_⟩
  have hj:j<5:=by have:=(List.getElem?_eq_some_iff.1 q).1;simpa [Lo.cells] using this
  rw [h.cellAt (k * 5+j) (by omega),loCells_at ls k j hk hj]
  exact q

theorem comeL_take {t h g:Int} {l:List Lo} {k:Nat} (hk:k<l.length):comeL t h g (l.take (k+1))=comeL t h g (l.take k)+if l[k].t=t∧l[k].h=h∧l[k].g=g then l[k].n else 0:=by
  rw [List.take_succ_eq_append_getElem hk,comeL_append]
  simp [comeL]

theorem comeL_take_bd {m:Mt} {N:Int} (ok:m.Ok N) (t h g:Int) (k:Nat):0≤comeL t h g (m.ld.take k)∧comeL t h g (m.ld.take k)≤200000:=by
  have h1:=comeL_bd t h g (m.ld.take k) (fun o ho=>(ok.ld o (List.mem_of_mem_take ho)).2.2.2.1)
  have:=ok.l20
  have:(m.ld.take k).length≤20:=by rw [List.length_take];omega
  omega

structure StkSt (w:World) (t h g x k c:Int) (wr:World):Prop where
  kp:Below w.heap.size w wr
  tb:Own wr ⟨w.heap.size,0,none⟩ (.int .i64 t)
  r:∀ j,j<5→Own wr ⟨w.heap.size+1,j,none⟩ (.int .i64 0)
  a0:Own wr ⟨w.heap.size+2,0,none⟩ (.int .i64 h)
  a1:Own wr ⟨w.heap.size+2,1,none⟩ (.int .i64 g)
  a2:Own wr ⟨w.heap.size+2,2,none⟩ (.int .i64 x)
  a3:Own wr ⟨w.heap.size+2,3,none⟩ (.int .i64 k)
  a4:Own wr ⟨w.heap.size+2,4,none⟩ (.int .i64 c)

theorem StkSt.later {w:World} {t h g x k c:Int} {wr wr':World} (s:StkSt w t h g x k c wr) (q:Kep non wr wr'):StkSt w t h g x k c wr' :=
  ⟨s.kp.trans (q.bel.mono s.kp.size),s.tb.kep q (fun q=>q),fun j hj=>(s.r j hj).kep q (fun q=>q),s.a0.kep q (fun q=>q),s.a1.kep q (fun q=>q),s.a2.kep q (fun q=>q),s.a3.kep q (fun q=>q),s.a4.kep q (fun q=>q)⟩

theorem StkSt.setK {w:World} {t h g x k c:Int} {wr:World} (s:StkSt w t h g x k c wr) (d:Int):StkSt w t h g x d c (wr.setCell ⟨w.heap.size+2,3,none⟩ (.int .i64 d)):=by
  have ne:∀ j,j≠3→(⟨w.heap.size+2,j,none⟩ : Addr)≠⟨w.heap.size+2,3,none⟩:=fun j hj q=>by injection q with _ q _;exact hj q
  exact ⟨s.kp.setCell (p:=⟨w.heap.size+2,3,none⟩) (by simp) _,s.tb.set_other (by intro q;injection q with q _ _;omega) rfl rfl _,fun j hj=>(s.r j hj).set_other (by intro q;injection q with q _ _;omega) rfl rfl _,s.a0.set_other (ne 0 (by decide)) rfl rfl _,s.a1.set_other (ne 1 (by decide)) rfl rfl _,s.a2.set_other (ne 2 (by decide)) rfl rfl _,s.a3.set rfl _,s.a4.set_other (ne 4 (by decide)) rfl rfl _⟩

theorem StkSt.setC {w:World} {t h g x k c:Int} {wr:World} (s:StkSt w t h g x k c wr) (d:Int):StkSt w t h g x k d (wr.setCell ⟨w.heap.size+2,4,none⟩ (.int .i64 d)):=by
  have ne:∀ j,j≠4→(⟨w.heap.size+2,j,none⟩ : Addr)≠⟨w.heap.size+2,4,none⟩:=fun j hj q=>by injection q with _ q _;exact hj q
  exact ⟨s.kp.setCell (p:=⟨w.heap.size+2,4,none⟩) (by simp) _,s.tb.set_other (by intro q;injection q with q _ _;omega) rfl rfl _,fun j hj=>(s.r j hj).set_other (by intro q;injection q with q _ _;omega) rfl rfl _,s.a0.set_other (ne 0 (by decide)) rfl rfl _,s.a1.set_other (ne 1 (by decide)) rfl rfl _,s.a2.set_other (ne 2 (by decide)) rfl rfl _,s.a3.set_other (ne 3 (by decide)) rfl rfl _,s.a4.set rfl _⟩

theorem own_turn {A B:World} {row:Option Nat} {p:Addr} {v:Value} (h:Own A p v) (hg:A.grownBy B row) (hr:∀ r,row=some r→∃ o:Obj,A.heap[r]? = some o∧o.isCells=false):Own B p v :=
  ⟨cell_kept h.cell hg hr,(frozen_kept h.cell hg hr).trans h.free⟩

theorem stk_own {β:Type} (B:Nat) (w:World) (t h g x c:Int) (f:β→Int) (hB:w.heap.size≤B):OwnFrom B (fun (s:β) W=>StkSt w t h g x (f s) c W):=by
  intro s A A' row hs hg hr
  have hr2:∀ r,row=some r→∃ o:Obj,A.heap[r]? = some o∧o.isCells=false:=fun r e=>(hr r e).2
  exact ⟨ownFrom_below (β:=β) (Nat.le_refl _) hB s A A' row hs.kp hg hr,own_turn hs.tb hg hr2,fun j hj=>own_turn (hs.r j hj) hg hr2,own_turn hs.a0 hg hr2,own_turn hs.a1 hg hr2,own_turn hs.a2 hg hr2,own_turn hs.a3 hg hr2,own_turn hs.a4 hg hr2⟩

theorem stk_leaf (w W0:World) (t h g x:Int) (hz:W0.heap.size=w.heap.size+2) (kp:Below w.heap.size w W0) (tb:Own W0 ⟨w.heap.size,0,none⟩ (.int .i64 t)) (r:∀ j,j<5→Own W0 ⟨w.heap.size+1,j,none⟩ (.int .i64 0)) :
    StkSt w t h g x 0 0 (W0.alloc (.cells #[.int .i64 h,.int .i64 g,.int .i64 x,.int .i64 0,.int .i64 0] 63)).drew:=by
  have hb:=heap_alloc_new W0 (.cells #[.int .i64 h,.int .i64 g,.int .i64 x,.int .i64 0,.int .i64 0] 63)
  rw [hz] at hb
  have c:=fun j=>cell_of_row _ _ j _ _ _ hb
  have f:=fun j=>frozen_of_row _ _ j _ _ hb
  have k:Kep non W0 (W0.alloc (.cells #[.int .i64 h,.int .i64 g,.int .i64 x,.int .i64 0,.int .i64 0] 63)).drew:=((Kep.refl _ _).alloc _).drew
  have kd:Kep non (W0.alloc (.cells #[.int .i64 h,.int .i64 g,.int .i64 x,.int .i64 0,.int .i64 0] 63)) (W0.alloc (.cells #[.int .i64 h,.int .i64 g,.int .i64 x,.int .i64 0,.int .i64 0] 63)).drew:=(Kep.refl _ _).drew
  exact ⟨(kp.alloc kp.size _).drew,tb.kep k (fun q=>q),fun j hj=>(r j hj).kep k (fun q=>q),Own.kep ⟨c 0,f 0⟩ kd (fun q=>q),Own.kep ⟨c 1,f 1⟩ kd (fun q=>q),Own.kep ⟨c 2,f 2⟩ kd (fun q=>q),Own.kep ⟨c 3,f 3⟩ kd (fun q=>q),Own.kep ⟨c 4,f 4⟩ kd (fun q=>q)⟩

theorem stk_pre (w:World) (t:Int) :
    let W0:=(w.alloc (.cells #[.int .i64 t] 3)).alloc (.cells #[.int .i64 0,.int .i64 0,.int .i64 0,.int .i64 0,.int .i64 0] 63)
    W0.heap.size=w.heap.size+2∧Below w.heap.size w W0∧Own W0 ⟨w.heap.size,0,none⟩ (.int .i64 t)∧∀ j,j<5→Own W0 ⟨w.heap.size+1,j,none⟩ (.int .i64 0):=by
  intro W0
  have h1:=heap_alloc_new w (.cells #[.int .i64 t] 3)
  have h2:=heap_alloc_new (w.alloc (.cells #[.int .i64 t] 3)) (.cells #[.int .i64 0,.int .i64 0,.int .i64 0,.int .i64 0,.int .i64 0] 63)
  rw [World.size_alloc] at h2
  refine ⟨by simp [W0],((Below.refl _ w).alloc (Nat.le_refl _) _).alloc (by simp) _,?_,fun j hj=>⟨?_,frozen_of_row _ _ j _ _ h2⟩⟩
  · exact Own.kep ⟨cell_of_row _ _ 0 _ _ _ h1,frozen_of_row _ _ 0 _ _ h1⟩ ((Kep.refl non _).alloc _) (fun q=>q)
  · rw [cell_of_row _ _ j _ _ _ h2]
    rcases j with _ | _ | _ | _ | _ | j
    all_goals first | rfl | omega

theorem five_set {w:World} {b:Nat} {u:Value} (h:∀ j,j<5→Own w ⟨b,j,none⟩ u) (v0 v1 v2 v3 v4:Value) :
    let W:=((((w.setCell ⟨b,0,none⟩ v0).setCell ⟨b,1,none⟩ v1).setCell ⟨b,2,none⟩ v2).setCell ⟨b,3,none⟩ v3).setCell ⟨b,4,none⟩ v4
    W.cell? ⟨b,0,none⟩=some v0∧W.cell? ⟨b,1,none⟩=some v1∧W.cell? ⟨b,2,none⟩=some v2∧W.cell? ⟨b,3,none⟩=some v3∧W.cell? ⟨b,4,none⟩=some v4:=by
  have ne:∀ i j:Nat,i≠j→(⟨b,i,none⟩ : Addr)≠⟨b,j,none⟩:=fun i j hj q=>by injection q with _ q _;exact hj q
  have o:∀ {W:World} {i:Nat} {x:Value} (j:Nat) (y:Value),Own W ⟨b,i,none⟩ x→i≠j→Own (W.setCell ⟨b,j,none⟩ y) ⟨b,i,none⟩ x:=fun j y hx hij=>hx.set_other (ne _ _ hij) rfl rfl y
  exact ⟨(o 4 v4 (o 3 v3 (o 2 v2 (o 1 v1 ((h 0 (by decide)).set rfl v0) (by decide)) (by decide)) (by decide)) (by decide)).cell,
    (o 4 v4 (o 3 v3 (o 2 v2 ((o 0 v0 (h 1 (by decide)) (by decide)).set rfl v1) (by decide)) (by decide)) (by decide)).cell,
    (o 4 v4 (o 3 v3 ((o 1 v1 (o 0 v0 (h 2 (by decide)) (by decide)) (by decide)).set rfl v2) (by decide)) (by decide)).cell,
    (o 4 v4 ((o 2 v2 (o 1 v1 (o 0 v0 (h 3 (by decide)) (by decide)) (by decide)) (by decide)).set rfl v3) (by decide)).cell,
    ((o 3 v3 (o 2 v2 (o 1 v1 (o 0 v0 (h 4 (by decide)) (by decide)) (by decide)) (by decide)) (by decide)).set rfl v4).cell⟩

theorem stk_end {w W5:World} {D:Nat} {h g x kk cc K0 C0:Int} {tm:Array Value} (e1:kk=K0) (e2:cc=C0) (hzD:w.heap.size+3≤D) (hKD:W5.heap[D]? = some (.deferred (some []))) (kB:Below w.heap.size w W5)
    (T:W5.cell? ⟨w.heap.size+1,0,none⟩=some (.int .i64 h)∧W5.cell? ⟨w.heap.size+1,1,none⟩=some (.int .i64 g)∧W5.cell? ⟨w.heap.size+1,2,none⟩=some (.int .i64 x)∧W5.cell? ⟨w.heap.size+1,3,none⟩=some (.int .i64 kk)∧W5.cell? ⟨w.heap.size+1,4,none⟩=some (.int .i64 cc))
    (ht:tm[8]? = some (.pointer (some ⟨w.heap.size+1,0,none⟩)):=by rfl) :
    bodyPostM Fence.wide 3 Tryz.prog Tryz.f72 (fun e w'=>e = .returned (.agg #[.int .i64 h,.int .i64 g,.int .i64 x,.int .i64 K0,.int .i64 C0])∧Below w.heap.size w w') .ret { tmps:=tm,defers:=[{ target:=.collected D,args:=#[] }] } W5:=by
  subst e1
  subst e2
  refine ⟨by simp,.inl ⟨_,_,rfl,run_takeDeferred hKD,?_⟩⟩
  have ck:∀ {p:Addr} {v:Value},W5.cell? p=some v→(W5.putObj D (.deferred none)).cell? p=some v:=fun q=>cell_kept q (grownBy_putObj' _ D (.deferred none)) (fun r e=>by cases e;exact ⟨_,hKD,rfl⟩)
  refine ⟨.agg #[.int .i64 h,.int .i64 g,.int .i64 x,.int .i64 kk,.int .i64 cc],?_,rfl,kB.trans (belowK_b (w:=w) (Nat.le_refl _) W5 D _ _ (by omega) hKD rfl rfl)⟩
  simp [results,Tryz.results72,go_sem,ck T.1,ck T.2.1,ck T.2.2.1,ck T.2.2.2.1,ck T.2.2.2.2,ht]

theorem stk_fin {w wr:World} {D:Nat} {t h g x kk cc K0 C0:Int} {tm:Array Value} (e1:kk=K0) (e2:cc=C0) (hzD:w.heap.size+3≤D) (hD:wr.heap[D]? = some (.deferred (some []))) (S:StkSt w t h g x kk cc wr)
    (ht:tm[8]? = some (.pointer (some ⟨w.heap.size+1,0,none⟩)):=by rfl) :
    bodyPostM Fence.wide 3 Tryz.prog Tryz.f72 (fun e w'=>e = .returned (.agg #[.int .i64 h,.int .i64 g,.int .i64 x,.int .i64 K0,.int .i64 C0])∧Below w.heap.size w w') .ret { tmps:=tm,defers:=[{ target:=.collected D,args:=#[] }] }
      (((((wr.setCell ⟨w.heap.size+1,0,none⟩ (.int .i64 h)).setCell ⟨w.heap.size+1,1,none⟩ (.int .i64 g)).setCell ⟨w.heap.size+1,2,none⟩ (.int .i64 x)).setCell ⟨w.heap.size+1,3,none⟩ (.int .i64 kk)).setCell ⟨w.heap.size+1,4,none⟩ (.int .i64 cc)):=by
  have lD:D<wr.heap.size:=(Array.getElem?_eq_some_iff.1 hD).1
  have T:=five_set S.r (.int .i64 h) (.int .i64 g) (.int .i64 x) (.int .i64 kk) (.int .i64 cc)
  have kw:Kep (fun b=>b=w.heap.size+1) wr (((((wr.setCell ⟨w.heap.size+1,0,none⟩ (.int .i64 h)).setCell ⟨w.heap.size+1,1,none⟩ (.int .i64 g)).setCell ⟨w.heap.size+1,2,none⟩ (.int .i64 x)).setCell ⟨w.heap.size+1,3,none⟩ (.int .i64 kk)).setCell ⟨w.heap.size+1,4,none⟩ (.int .i64 cc)) :=
    Kep.setCell (Kep.setCell (Kep.setCell (Kep.setCell (Kep.setCell (Kep.refl (fun b=>b=w.heap.size+1) wr) (p:=⟨w.heap.size+1,0,none⟩) (.inl rfl) _) (p:=⟨w.heap.size+1,1,none⟩) (.inl rfl) _) (p:=⟨w.heap.size+1,2,none⟩) (.inl rfl) _) (p:=⟨w.heap.size+1,3,none⟩) (.inl rfl) _) (p:=⟨w.heap.size+1,4,none⟩) (.inl rfl) _
  exact stk_end e1 e2 hzD ((kw.block D lD (by omega)).trans hD) (S.kp.trans (kw.below S.kp.size (fun b e=>by rw [e];omega))) T ht

set_option maxRecDepth 100000 in
set_option maxHeartbeats 4000000 in
theorem stock_any (w:World) (L:PL) (m:Mt) (N:Int) (R:PRep w L m) (ok:m.Ok N) (t h g:Nat) (ht:t<m.T) (hh:h<m.H) (hg:g<m.G) :
    Calls Tryz.prog 72 #[.pointer (some ⟨L.x,0,none⟩),.int .i64 t,.int .i64 h,.int .i64 g] w fun e w'=>e = .returned (.agg #[.int .i64 h,.int .i64 g,.int .i64 (m.pc t h g),.int .i64 (m.kept t h g),.int .i64 (m.come t h g)])∧Below w.heap.size w w':=by
  have bT:=ok.T8
  have bG:=ok.G4
  have bH:=ok.H4
  have HR:=hide R
  have HO:=hide ok
  have HP:=hide (stk_pre w t)
  have ht':(t:Int)<(m.T:Int):=by omega
  have hh':(h:Int)<4:=by omega
  have hg':(g:Int)<4:=by omega
  have hhH:(h:Int)<(m.H:Int):=by omega
  have hgG:(g:Int)<(m.G:Int):=by omega
  clear R ok
  refine (callsIn_wide (n:=3)).1 ?_
  refine callsIn_of_wp_marks Tryz.func72 rfl trivial ?_ rfl
  simp only [Tryz.ntmps72,List.size_toArray,List.length_cons,List.length_nil,Nat.reduceAdd,Nat.reduceSub,Array.replicate_succ,Array.replicate_zero,List.push_toArray,List.append_toArray,List.nil_append,List.cons_append]
  refine wpIn_wide.2 ?_
  go_wp2
  generalize (w.alloc (.cells #[.int .i64 t] 3)).alloc (.cells #[.int .i64 0,.int .i64 0,.int .i64 0,.int .i64 0,.int .i64 0] 63)=W0 at *
  have hz:=HP.out.1
  have HS:Hid (∀ w',Kep non W0 w'→(w'.cell? ⟨L.x,2,none⟩=some (.slice (some ⟨L.ab,0,none⟩) m.T m.T)∧w'.cell? ⟨w.heap.size,0,none⟩=some (.int .i64 t)∧w'.cell? ⟨L.ab,t * 17+1+h * 4+g,none⟩=some (.int .i64 (m.pc t h g)))) :=
    hide fun w' k=>by
      have Rr:=(HR.out.bel HP.out.2.1).later k
      exact ⟨Rr.cA.cell,k.cell HP.out.2.2.1.cell (fun q=>q),(Rr.pc t h g ht (by omega) (by omega)).cell⟩
  have HL:Hid (∀ W1,W1=(W0.alloc (.cells #[.int .i64 h,.int .i64 g,.int .i64 (m.pc t h g),.int .i64 0,.int .i64 0] 63)).drew→StkSt w t h g (m.pc t h g) 0 0 W1):=hide fun W1 e=>by
    rw [e]
    exact stk_leaf w W0 t h g (m.pc t h g) HP.out.1 HP.out.2.1 HP.out.2.2.1 HP.out.2.2.2
  go_cut [9] from 13 to 27 (fun s9 wx=>s9 = .pointer (some ⟨w.heap.size+2,0,none⟩)∧StkSt w t h g (m.pc t h g) 0 0 wx)
  case first =>
    go_region_held3 (fun w'=>w'.cell? ⟨L.x,2,none⟩=some (.slice (some ⟨L.ab,0,none⟩) m.T m.T)∧w'.cell? ⟨w.heap.size,0,none⟩=some (.int .i64 t)∧w'.cell? ⟨L.ab,t * 17+1+h * 4+g,none⟩=some (.int .i64 (m.pc t h g)))
      ((refine HS.out _ ?_;(repeat (first | apply Kep.drew | apply Kep.alloc));exact Kep.refl _ _))
      (fail)
    all_goals go_step
    all_goals go_step
    all_goals go_meet
    all_goals exact ⟨rfl,HL.out _ rfl⟩
  case rest =>
    obtain ⟨rfl,S0⟩:=hcut
    clear HL HS HP hz
    have q1:at3 m h g 1:=⟨hh,hg,by omega⟩
    obtain ⟨zs,hz1,hz2⟩:=HR.out.seq HO.out q1
    obtain ⟨qa,qc,hqv⟩:=HR.out.qvform q1
    have Rc:=HR.out.bel S0.kp
    have c4:=Rc.cB.cell
    have cb:=Rc.bks h hh
    have cs:=(Rc.sd h g 1 q1).cell
    have cq:=(Rc.q1 h g 1 q1).cell
    rw [hqv] at cq
    have hp:Ptrs w.heap.size wc (.slice qa (L.ob h g 1).length qc) (zs.map fun z=>z.1.1):=by
      have h0:=(HR.out.ptrs q1).below S0.kp
      rw [hqv] at h0
      rw [hz1]
      exact h0
    have hlen:zs.length=(L.ob h g 1).length:=by rw [← hz1,List.length_map]
    have HZ2:=hide hz2
    clear Rc hz1 hz2
    go_wp2_with (go_at_call 118;refine (all_any _ _ _ _ _ cq).mono ?_;rintro e w' ⟨rfl,rfl⟩)
    have hB0:Below w.heap.size wc (wc.alloc (.cells #[.slice qa (L.ob h g 1).length qc] 142)):=(Below.refl _ _).alloc S0.kp.size _
    have hzc:=S0.kp.size
    have lwc:w.heap.size+2<wc.heap.size:=S0.a4.lt
    have hl60:zs.length≤60:=by
      have h1:=HO.out.a60
      have h2:=HR.out.len_all
      have h3:=came_len (L:=L) (m:=m) (s:=2) hh hg
      simp only [cameTo,two,List.length_append] at h3
      simp at h3
      omega
    refine (wpIn_wide (n:=3)).1 ?_
    refine wpIn_rangeFunc_ownG (F:=Fence.wide) (n:=3) rfl (by omega) (gf:=143) (lb:=#[.pointer (some ⟨wc.heap.size,0,none⟩)]) rfl trivial (enters_of Tryz.func143 (by kernel_rfl) rfl)
      (values_stops (fun z:{ p:Nat × Od // Good w p.1 p.2 }=>z.1.1) Fence.wide 2 trivial rfl (by omega) wc.heap.size w.heap.size (.slice qa (L.ob h g 1).length qc) zs (by omega) _ (by simp) (by simp;omega) (Boxed.new wc 142 _).cell (hp.below hB0)) belowK_t (belowK_b (by simp;omega)) (Below.refl _ _) (fun _=>rfl)
      (fun pre W=>StkSt w t h g (m.pc t h g) (keptL t (pre.map fun z=>z.1.2)) 0 W)
      (fun _ _ _=>False)
      (stk_own _ w t h g (m.pc t h g) 0 _ (by simp;omega))
      (fun _ _ _ _ _ hs _ _=>hs)
      (S0.later ((Kep.refl _ _).alloc _))
      (fun x=>{ tmps:=#[.pointer (some ⟨L.x,0,none⟩),.int .i64 t,.int .i64 h,.int .i64 g,undef,.pointer (some ⟨w.heap.size,0,none⟩),undef,undef,.pointer (some ⟨w.heap.size+1,0,none⟩),.pointer (some ⟨w.heap.size+2,0,none⟩),.pointer (some ⟨x.1.1,0,none⟩),undef,undef,u13,u14,u15,u16,u17,u18,u19,u20,u21,u22,u23,u24,u25,u26,u27,.pointer (some ⟨L.x,0,none⟩),.pointer (some ⟨L.x,0,none⟩),.pointer (some ⟨L.x,4,none⟩),.slice (some ⟨L.bb,0,none⟩) m.H m.H,.int .i64 h,.pointer (some ⟨L.bb,h,none⟩),.slice (some ⟨L.gb h,0,none⟩) m.G m.G,.int .i64 g,.pointer (some ⟨L.gb h,g * 5,none⟩),.pointer (some ⟨L.gb h,g * 5,none⟩),.pointer (some ⟨L.gb h,g * 5+1,none⟩),.pointer (some ⟨L.qb h g 1,0,none⟩),.func (.func 143) #[] #[.pointer (some ⟨wc.heap.size,0,none⟩)],.pointer (some ⟨x.1.1,0,none⟩),undef,undef,undef,undef,undef,undef,undef,undef,undef,undef,undef,undef,undef,undef,undef,undef,undef,undef,undef,undef,undef,undef,undef,undef,undef,undef,undef,undef,undef,undef,undef,undef,undef,undef,undef,undef,undef,undef,undef,undef,undef,undef,undef,undef,undef,undef,undef],defers:=[] }) ?assign ?body ?done ?stop
    case assign =>
      intro l x W K hK
      gi_wp2
      exact hK
    case body =>
      rintro l pre x W S hlt1
      have hkb:0≤keptL t (pre.map fun z=>z.1.2)∧keptL t (pre.map fun z=>z.1.2)≤600000:=by
        have h1:=keptL_bd t (pre.map fun z=>z.1.2) (fun o ho=>by obtain ⟨z,_,rfl⟩:=List.mem_map.1 ho;exact z.2.2.2.2)
        have h2:((pre.map fun z=>z.1.2).length:Int)≤60:=by rw [List.length_map];omega
        omega
      have hks:Hid (keptL t ((pre ++ [x]).map fun z=>z.1.2)=keptL t (pre.map fun z=>z.1.2)+if x.1.2.t=t then x.1.2.q else 0):=hide (by rw [List.map_append,keptL_append];simp [keptL])
      have HT:=hide S
      have o1:=((x.2.1 1 _ rfl).kep (Kep.of_below (S:=non) S.kp) (fun q=>q)).cell
      have o6:=((x.2.1 6 _ rfl).kep (Kep.of_below (S:=non) S.kp) (fun q=>q)).cell
      have bq:=x.2.2.2.2
      have t0:=S.tb.cell
      have k0:=S.a3.cell
      have k1:=S.a3.free
      have hmx:=mixed
      clear S
      generalize keptL t (pre.map fun z=>z.1.2)=K0 at *
      generalize x.1.1=b at *
      generalize x.1.2=o at *
      by_cases e1:o.t=t
      · have hK:Hid (keptL t ((pre ++ [x]).map fun z=>z.1.2)=K0+o.q):=hide (by rw [hks.out,if_pos e1])
        clear hks
        gi_wp2
        apply meets
        case ways =>
          intro hX
          gi_region_o
          all_goals exact hX
        gi_wp2
        apply meets
        case ways =>
          intro hX
          gi_region_o
          all_goals exact hX
        gi_wp2
        have w1:IntKind.i64.wrap (K0+o.q)=K0+o.q:=IntWalk.i64_in _ (by omega)
        rw [w1]
        refine ⟨(((KeepsOthers.setCell _ _ _).trans (KeepsOthers.drew _)).trans (KeepsOthers.drew _)).from _,(((Below.refl w.heap.size W).setCell (p:=⟨w.heap.size+2,3,none⟩) (by simp) _).drew).drew,?_⟩
        show StkSt w t h g (m.pc t h g) (keptL t ((pre ++ [x]).map fun z=>z.1.2)) 0 _
        rw [hK.out]
        exact (HT.out.setK _).later (((Kep.refl _ _).drew).drew)
      · have hK:Hid (keptL t ((pre ++ [x]).map fun z=>z.1.2)=K0):=hide (by rw [hks.out,if_neg e1,Int.add_zero])
        clear hks
        gi_wp2
        apply meets
        case ways =>
          intro hX
          gi_region_o
          all_goals exact hX
        gi_wp2
        refine ⟨(KeepsOthers.drew _).from _,(Below.refl w.heap.size W).drew,?_⟩
        show StkSt w t h g (m.pc t h g) (keptL t ((pre ++ [x]).map fun z=>z.1.2)) 0 _
        rw [hK.out]
        exact HT.out.later ((Kep.refl _ _).drew)
    case done =>
      rintro D ys W hD rfl S hK
      have HZ:=hide (show keptL t (ys.map fun z=>z.1.2)=m.kept t h g by rw [HZ2.out];rfl)
      rw [HZ.out] at S
      obtain ⟨kk,hkk⟩ : ∃ kk,kk=m.kept t h g:=⟨_,rfl⟩
      rw [← hkk] at S
      have HKK:=hide hkk
      clear hkk
      have Rc:=HR.out.bel S.kp
      obtain ⟨la,lc,hlv⟩:=row_form HR.out.ld
      have c3:=Rc.cL.cell
      rw [hlv] at c3
      clear Rc
      have HL:=hide HR.out.ld
      rw [hlv] at HL
      have hzD:w.heap.size+3≤D:=by simp at hD;omega
      clear HZ
      go_wp2
      go_loopw [61] (fun i wr=>∃ k:Nat,k≤m.ld.length∧i = .int .i64 k∧StkSt w t h g (m.pc t h g) kk (comeL t h g (m.ld.take k)) wr∧wr.heap[D]? = some (.deferred (some []))) (fun i _=>m.ld.length - (intOf i).toNat)
      case atStart=>exact ⟨0,by omega,rfl,S,hK⟩
      case round =>
        clear S hK c3
        obtain ⟨k,hk,rfl,S,hK⟩:=hrel
        have l20:=HO.out.l20
        by_cases hlt:k<m.ld.length
        · obtain ⟨lb,cap',hv,hc⟩:=load_cells (ownsRow_kep HL.out (Kep.of_below (S:=non) S.kp) (fun _ _ q=>q)) k hlt
          simp only [Value.slice.injEq,true_and] at hv
          obtain ⟨rfl,rfl⟩:=hv
          have q0:wr.cell? ⟨lb,k * 5,none⟩=some (.int .i64 m.ld[k].t):=hc 0 _ rfl
          have q1:=hc 1 _ rfl
          have q2:=hc 2 _ rfl
          have q3:=hc 3 _ rfl
          have q4:=hc 4 _ rfl
          have HS:=hide (comeL_take (t:=t) (h:=h) (g:=g) hlt)
          have hbk:=(HO.out.ld m.ld[k] (by simp)).2.2.2.1
          have hbb:=comeL_take_bd HO.out t h g k
          clear hc
          generalize m.ld[k]=l at *
          generalize comeL (t:Int) (h:Int) (g:Int) (m.ld.take k)=y at *
          have t0:∀ o,(wr.alloc o).cell? ⟨w.heap.size,0,none⟩=some (.int .i64 t):=fun o=>(S.later ((Kep.refl _ _).alloc o)).tb.cell
          have a4:∀ o,(wr.alloc o).cell? ⟨w.heap.size+2,4,none⟩=some (.int .i64 y):=fun o=>(S.later ((Kep.refl _ _).alloc o)).a4.cell
          have f4:∀ o,(wr.alloc o).frozen? ⟨w.heap.size+2,4,none⟩=false:=fun o=>(S.later ((Kep.refl _ _).alloc o)).a4.free
          have lw:w.heap.size+2<wr.heap.size:=S.a4.lt
          have lD:D<wr.heap.size:=(Array.getElem?_eq_some_iff.1 hK).1
          have HT:=hide S
          have HD:=hide hK
          clear S hK
          have hks:∀ (v:Value) (o:Obj),((wr.setCell ⟨w.heap.size+2,4,none⟩ v).alloc o).heap[D]? = some (.deferred (some [])):=fun v o =>
            ((((Kep.refl (fun b=>b=w.heap.size+2) wr).setCell (p:=⟨w.heap.size+2,4,none⟩) (.inl rfl) v).alloc o).block D lD (by omega)).trans HD.out
          have hka:∀ o:Obj,(wr.alloc o).heap[D]? = some (.deferred (some [])):=fun o=>(((Kep.refl non wr).alloc o).block D lD (fun q=>q)).trans HD.out
          have HKS:=hide hks
          have HKA:=hide hka
          clear hks hka
          go_wp2
          all_goals refine ⟨⟨k+1,by omega,by go_num,?_,by first | exact HKS.out _ _ | exact HKA.out _⟩,by simp [intOf];omega⟩
          all_goals rw [HS.out]
          all_goals first
            | (rw [if_pos ⟨‹_›,‹_›,by simpa using ‹(l.g == (g:Int))=true›⟩];exact (HT.out.setC _).later ((Kep.refl _ _).alloc _))
            | (rw [if_neg (by simp_all),Int.add_zero];exact HT.out.later ((Kep.refl _ _).alloc _))
        · have e1:Hid (comeL t h g (m.ld.take k)=m.come t h g):=hide (by rw [List.take_of_length_le (by omega)];rfl)
          obtain ⟨cc,hcc⟩ : ∃ cc,cc=m.come t h g:=⟨_,rfl⟩
          rw [e1.out,← hcc] at S
          have HCC:=hide hcc
          clear hcc
          have HS:=hide S
          have HD:=hide hK
          obtain ⟨s0,t0⟩:=S.r 0 (by decide)
          obtain ⟨s1,t1⟩:=S.r 1 (by decide)
          obtain ⟨s2,t2⟩:=S.r 2 (by decide)
          obtain ⟨s3,t3⟩:=S.r 3 (by decide)
          obtain ⟨s4,t4⟩:=S.r 4 (by decide)
          have a0:=S.a0.cell
          have a1:=S.a1.cell
          have a2:=S.a2.cell
          have a3:=S.a3.cell
          have a4:=S.a4.cell
          clear S hK e1
          have lD:D<wr.heap.size:=(Array.getElem?_eq_some_iff.1 HD.out).1
          go_wp2
          exact stk_fin HKK.out HCC.out hzD HD.out HS.out
    case stop =>
      rintro D c pre W _ _ h _
      exact h.elim
end

section
open Go.RowKit Go.Sort

abbrev okI (n:Nat) (t:Int):Prop:=0≤t∧t<n
abbrev okN (x B:Int):Prop:=1≤x∧x≤B
def inB (n:Nat) (t:Int):Bool:=decide (okI n t)
def inR (n a b:Int):Bool:=decide (a≤n∧n≤b)
theorem inR_okN {x B:Int} (h:okN x B):inR x 1 B=true:=decide_eq_true h
theorem inR_not {x B:Int} (h:¬ okN x B):inR x 1 B=false:=decide_eq_false h
theorem inB_okI {n:Nat} {t:Int} (h:okI n t):inB n t=true:=decide_eq_true h
theorem inB_not {n:Nat} {t:Int} (h:¬ okI n t):inB n t=false:=decide_eq_false h
theorem ret_int {k:IntKind} {a b:Int} (h:a=b):Ending.returned (.int k a) = .returned (.int k b):=by rw [h]

def rowTo (m:Mt) (g i:Nat):Nat→Int
  | 0=>0
  | k+1=>rowTo m g i k+(m.pc i k g+m.kept i k g+m.come i k g)
def totTo (m:Mt) (g:Nat):Nat→Int
  | 0=>0
  | i+1=>totTo m g i+rowTo m g i m.H

def Mt.setMo (m:Mt) (k:Nat) (x:Int):Mt:={ m with mo:=fun i=>if i=k then x else m.mo i }
def Mt.setPc (m:Mt) (t h g:Nat) (x:Int):Mt:={ m with pc:=fun i j k=>if i=t∧j=h∧k=g then x else m.pc i j k }

def payE (m:Mt) (t x:Int):Int:=if ¬ okI m.T t then 2 else if ¬ okN x 1000000000000 then 5 else if 1000000000000<m.sumM m.T+x then 8 else 0
def payM (m:Mt) (t x:Int):Mt:=if payE m t x=0 then m.setMo t.toNat (m.mo t.toNat+x) else m
def drawE (m:Mt) (t x:Int):Int:=if ¬ okI m.T t then 2 else if ¬ okN x 1000000000000 then 5 else if m.mo t.toNat<x then 6 else 0
def drawM (m:Mt) (t x:Int):Mt:=if drawE m t x=0 then m.setMo t.toNat (m.mo t.toNat - x) else m
def lotsE (m:Mt) (t h g n:Int):Int:=if ¬ okI m.T t then 2 else if ¬ okI m.H h then 3 else if ¬ okI m.G g then 4 else if ¬ okN n 10000 then 5 else 0
def bringE (m:Mt) (t h g n:Int):Int:=if lotsE m t h g n≠0 then lotsE m t h g n else if 1000000<totTo m g.toNat m.T+n then 8 else 0
def bringM (m:Mt) (t h g n:Int):Mt:=if bringE m t h g n=0 then m.setPc t.toNat h.toNat g.toNat (m.pc t.toNat h.toNat g.toNat+n) else m
def takeE (m:Mt) (t h g n:Int):Int:=if lotsE m t h g n≠0 then lotsE m t h g n else if m.pc t.toNat h.toNat g.toNat<n then 7 else 0
def takeM (m:Mt) (t h g n:Int):Mt:=if takeE m t h g n=0 then m.setPc t.toNat h.toNat g.toNat (m.pc t.toNat h.toNat g.toNat - n) else m

theorem lotsE_zero {m:Mt} {t h g n:Int} (e:lotsE m t h g n=0):okI m.T t∧okI m.H h∧okI m.G g∧okN n 10000:=by
  unfold lotsE at e
  by_cases h1:okI m.T t
  · by_cases h2:okI m.H h
    · by_cases h3:okI m.G g
      · by_cases h4:okN n 10000
        · exact ⟨h1,h2,h3,h4⟩
        · simp [h1,h2,h3,h4] at e
      · simp [h1,h2,h3] at e
    · simp [h1,h2] at e
  · simp [h1] at e

theorem come_ok {m:Mt} {N:Int} (o:m.Ok N) (t h g:Int):0≤m.come t h g∧m.come t h g≤200000:=by
  have:=comeL_take_bd o t h g m.ld.length
  rwa [List.take_length] at this

theorem kept_ok {m:Mt} {N:Int} (o:m.Ok N) (t:Int) {h g:Nat} (hh:h<m.H) (hg:g<m.G):0≤m.kept t h g∧m.kept t h g≤600000:=by
  have h1:=keptL_bd t (m.bk h g 1) (fun x hx=>(o.all_ok (Mt.mem_all.2 ⟨h,g,1,hh,hg,by omega,hx⟩)).2.2.2)
  have h2:=o.a60
  have h3:(m.bk h g 1).length≤m.all.length:=by
    have e1:∀ {f:Nat→Nat→List Od} {g G:Nat},g<G→(f g 1).length≤(upG f G).length:=by
      intro f g G hg
      induction G with
      | zero=>omega
      | succ k ih =>
        simp only [upG,two,List.length_append]
        by_cases e:g=k
        · subst e;omega
        · have:=ih (by omega);omega
    have e2:∀ {f:Nat→Nat→Nat→List Od} {G h H:Nat},h<H→(upG (f h) G).length≤(upH G f H).length:=by
      intro f G h H hh
      induction H with
      | zero=>omega
      | succ k ih =>
        simp only [upH,List.length_append]
        by_cases e:h=k
        · subst e;omega
        · have:=ih (by omega);omega
    exact Nat.le_trans (e1 (f:=m.bk h) hg) (e2 hh)
  simp only [Mt.kept]
  omega

theorem rowTo_bd {m:Mt} {N:Int} (o:m.Ok N) (g i:Nat) (hg:g<m.G) (hi:i<m.T):∀ k,k≤m.H→0≤rowTo m g i k∧rowTo m g i k≤1000000800000 * k:=by
  intro k
  induction k with
  | zero=>simp [rowTo]
  | succ k ih =>
    intro hk
    have h1:=ih (by omega)
    have h2:=o.pc i k g hi (by omega) hg
    have h3:=come_ok o i k g
    have h5:=kept_ok o i (h:=k) (g:=g) (by omega) hg
    have h4:=o.bN
    simp only [rowTo]
    omega

theorem totTo_bd {m:Mt} {N:Int} (o:m.Ok N) (g:Nat) (hg:g<m.G):∀ i,i≤m.T→0≤totTo m g i∧totTo m g i≤4000003200000 * i:=by
  intro i
  induction i with
  | zero=>simp [totTo]
  | succ i ih =>
    intro hi
    have h1:=ih (by omega)
    have h2:=rowTo_bd o g i hg (by omega) m.H (Nat.le_refl _)
    have h3:=o.H4
    simp only [totTo]
    omega

theorem PRep.ne {w:World} {L:PL} {m:Mt} (R:PRep w L m) {i j:Jx} {a b:Nat} (h1:L.F m i=some a) (h2:L.F m j=some b) (hij:i≠j):a≠b:=fun e=>hij (R.inj i j b (e ▸ h1) h2)

theorem PRep.setAb {w w':World} {L:PL} {m:Mt} (R:PRep w L m) (k:Kep (fun b=>b=L.ab) w w') (mo:Nat→Int) (pc:Nat→Nat→Nat→Int) (hmo:∀ t,t<m.T→Own w' ⟨L.ab,t * 17,none⟩ (.int .i64 (mo t))) (hpc:∀ t h g,t<m.T→h<4→g<4→Own w' ⟨L.ab,t * 17+1+h * 4+g,none⟩ (.int .i64 (pc t h g))) :
    PRep w' L { m with mo:=mo,pc:=pc }:=by
  have ab:∀ {j:Jx} {b:Nat},L.F m j=some b→j ≠ .ab→b≠L.ab:=fun h hj=>R.ne h (show L.F m .ab=some L.ab from rfl) hj
  have a1:L.x≠L.ab:=ab (j:=.x) rfl (by simp)
  have a3:∀ i,i<m.H→L.gb i≠L.ab:=fun i hi=>ab (j:=.gb i) (by simp [PL.F,hi]) (by simp)
  have a4:∀ i g s,at3 m i g s→L.qb i g s≠L.ab:=fun i g s q=>ab (j:=.qb i g s) (by simp [PL.F,q]) (by simp)
  have a5:∀ i g s b,at3 m i g s→(L.qv i g s).ownBlock=some b→b≠L.ab:=fun i g s b q e=>ab (j:=.qv i g s) (by simp [PL.F,q,e]) (by simp)
  have a6:∀ i g s n b,at3 m i g s→(L.ob i g s)[n]? = some b→b≠L.ab:=fun i g s n b q e=>ab (j:=.ob i g s n) (by simp [PL.F,q,e]) (by simp)
  have a7:L.rb≠L.ab:=fun e=>R.nrb ⟨.ab,by rw [e];rfl⟩
  have a8:L.bb≠L.ab:=fun e=>R.nbb ⟨.ab,by rw [e];rfl⟩
  exact ⟨R.cG.kep k a1,R.cR.kep k a1,R.cA.kep k a1,R.cL.kep k a1,R.cB.kep k a1,R.cN.kep k a1,R.cH.kep k a1,R.cTm.kep k a1,fun i hi=>k.cell (R.rt i hi) a7,hmo,hpc,
    ownsRow_kep R.ld k (fun b hb=>ab (j:=.lv) hb (by simp)),fun i hi=>k.cell (R.bks i hi) a8,fun i g s q=>(R.sd i g s q).kep k (a3 i q.1),fun i g hi hg=>(R.la i g hi hg).kep k (a3 i hi),fun i g hi hg=>(R.pi i g hi hg).kep k (a3 i hi),fun i g hi hg=>(R.am i g hi hg).kep k (a3 i hi),
    fun i g s q=>k.cell (R.q0 i g s q) (a4 i g s q),fun i g s q=>(R.q1 i g s q).kep k (a4 i g s q),fun i g s q=>ownsRow_kep (R.qr i g s q) k (fun b e=>a5 i g s b q e),R.ln,fun i g s n b o q e1 e2 j v e3=>(R.oc i g s n b o q e1 e2 j v e3).kep k (a6 i g s n b q e1),fun i g s n b q e=>(R.oz i g s n b q e).kep k (a6 i g s n b q e),R.inj,R.nrb,R.nbb⟩

theorem off_inj {t a t' a':Nat} (ha:a<17) (ha':a'<17) (h:t * 17+a=t' * 17+a'):t=t'∧a=a':=by omega
theorem off_mo_pc {t h g t':Nat} (hh:h<4) (hg:g<4):t * 17+1+h * 4+g≠t' * 17:=fun q=>by
  have:=off_inj (t:=t) (a:=1+h * 4+g) (t':=t') (a':=0) (by omega) (by omega) (by omega)
  omega
theorem off_pc {t h g t' h' g':Nat} (hh:h<4) (hg:g<4) (hh':h'<4) (hg':g'<4) (q:t * 17+1+h * 4+g=t' * 17+1+h' * 4+g'):t=t'∧h=h'∧g=g':=by
  have:=off_inj (t:=t) (a:=1+h * 4+g) (t':=t') (a':=1+h' * 4+g') (by omega) (by omega) (by omega)
  omega

theorem PRep.setMo {w:World} {L:PL} {m:Mt} (R:PRep w L m) (k:Nat) (hk:k<m.T) (x:Int):PRep (w.setCell ⟨L.ab,k * 17,none⟩ (.int .i64 x)) L (m.setMo k x):=by
  refine R.setAb ((Kep.refl (fun b=>b=L.ab) w).setCell (p:=⟨L.ab,k * 17,none⟩) (.inl rfl) _) _ _ (fun t ht=>?_) (fun t h g ht hh hg=>(R.pc t h g ht hh hg).set_other (by intro q;injection q with _ q _;exact off_mo_pc hh hg q) rfl rfl _)
  by_cases e:t=k
  · subst e
    simpa using (R.mo t hk).set rfl (.int .i64 x)
  · simpa [e] using (R.mo t ht).set_other (q:=⟨L.ab,k * 17,none⟩) (by intro q;injection q with _ q _;omega) rfl rfl (.int .i64 x)

theorem PRep.setPc {w:World} {L:PL} {m:Mt} (R:PRep w L m) (t h g:Nat) (ht:t<m.T) (hh:h<4) (hg:g<4) (x:Int):PRep (w.setCell ⟨L.ab,t * 17+1+h * 4+g,none⟩ (.int .i64 x)) L (m.setPc t h g x):=by
  refine R.setAb ((Kep.refl (fun b=>b=L.ab) w).setCell (p:=⟨L.ab,t * 17+1+h * 4+g,none⟩) (.inl rfl) _) _ _ (fun t' ht'=>(R.mo t' ht').set_other (by intro q;injection q with _ q _;exact off_mo_pc hh hg q.symm) rfl rfl _) (fun t' h' g' ht' hh' hg'=>?_)
  by_cases e:t'=t∧h'=h∧g'=g
  · obtain ⟨rfl,rfl,rfl⟩:=e
    simpa using (R.pc t' h' g' ht hh hg).set rfl (.int .i64 x)
  · have:=(R.pc t' h' g' ht' hh' hg').set_other (q:=⟨L.ab,t * 17+1+h * 4+g,none⟩) (by intro q;injection q with _ q _;exact e (off_pc hh' hg' hh hg q)) rfl rfl (.int .i64 x)
    simpa [e] using this

structure PPost (w:World) (L:PL) (m m':Mt) (w':World):Prop where
  kp:Kep (L.S m) w w'
  rep:∃ L',(L'.x=L.x∧L'.rb=L.rb∧L'.bb=L.bb)∧(∀ b,L'.S m' b→L.S m b∨w.heap.size≤b)∧PRep w' L' m'

theorem PPost.same {w w':World} {L:PL} {m:Mt} (R:PRep w L m) (k:Kep non w w'):PPost w L m m w':=⟨k.none,L,⟨rfl,rfl,rfl⟩,fun _ hb=>.inl hb,R.later k⟩

theorem PPost.mo {w w1:World} {L:PL} {m:Mt} (R:PRep w L m) (K:Kep non w w1) (k:Nat) (hk:k<m.T) (x:Int):PPost w L m (m.setMo k x) (w1.setCell ⟨L.ab,k * 17,none⟩ (.int .i64 x)) :=
  ⟨(K.none (S:=L.S m)).setCell (p:=⟨L.ab,k * 17,none⟩) (.inl ⟨.ab,rfl⟩) _,L,⟨rfl,rfl,rfl⟩,fun _ hb=>.inl hb,(R.later K).setMo k hk x⟩

theorem PPost.pcs {w w1:World} {L:PL} {m:Mt} (R:PRep w L m) (K:Kep non w w1) (t h g:Nat) (ht:t<m.T) (hh:h<4) (hg:g<4) (x:Int) :
    PPost w L m (m.setPc t h g x) (w1.setCell ⟨L.ab,t * 17+1+h * 4+g,none⟩ (.int .i64 x)) :=
  ⟨(K.none (S:=L.S m)).setCell (p:=⟨L.ab,t * 17+1+h * 4+g,none⟩) (.inl ⟨.ab,rfl⟩) _,L,⟨rfl,rfl,rfl⟩,fun _ hb=>.inl hb,(R.later K).setPc t h g ht hh hg x⟩

theorem PPost.later {w w1 w2:World} {L:PL} {m m':Mt} (h:PPost w L m m' w1) (k:Kep non w1 w2):PPost w L m m' w2 :=
  ⟨h.kp.trans k.none,by obtain ⟨L',h1,h2,h3⟩:=h.rep;exact ⟨L',h1,h2,h3.later k⟩⟩

theorem within_yes (n a b:Int) (w:World) (h:a≤n∧n≤b):Calls Tryz.prog 78 #[.int .i64 n,.int .i64 a,.int .i64 b] w fun e w'=>e = .returned (.bool true)∧w'=w:=by
  obtain ⟨h1,h2⟩:=h
  go_enter Tryz.func78,Tryz.ntmps78
  go_wp2
  go_ret
  exact ⟨by simp,rfl⟩
theorem within_no (n a b:Int) (w:World) (h:¬ (a≤n∧n≤b)):Calls Tryz.prog 78 #[.int .i64 n,.int .i64 a,.int .i64 b] w fun e w'=>e = .returned (.bool false)∧w'=w:=by
  go_enter Tryz.func78,Tryz.ntmps78
  go_wp2
  all_goals go_ret
  all_goals refine ⟨?_,rfl⟩
  all_goals simp
  all_goals omega
theorem within_b (n a b:Int) (w:World):Calls Tryz.prog 78 #[.int .i64 n,.int .i64 a,.int .i64 b] w fun e w'=>e = .returned (.bool (inR n a b))∧w'=w:=by
  cases h:inR n a b
  · exact within_no n a b w (of_decide_eq_false h)
  · exact within_yes n a b w (of_decide_eq_true h)

theorem hasTrader_b (w:World) (x ab T cap:Nat) (i:Int) (hT:T≤8) (h0:w.cell? ⟨x,2,none⟩=some (.slice (some ⟨ab,0,none⟩) T cap)) :
    Calls Tryz.prog 63 #[.pointer (some ⟨x,0,none⟩),.int .i64 i] w fun e w'=>e = .returned (.bool (inB T i))∧w'=w:=by
  have e:Hid (inR i 0 ((T:Int) - 1)=inB T i):=hide (by simp only [inR,inB,okI];exact decide_eq_decide.2 (by omega))
  go_enter Tryz.func63,Tryz.ntmps63
  go_wp2_with (go_at_call 78;refine (within_b _ _ _ _).mono ?_;rintro e w' ⟨rfl,rfl⟩)
  go_ret
  exact ⟨by rw [← e.out];rfl,rfl⟩

theorem hasHall_b (w:World) (x H cap:Nat) (a:Option Addr) (i:Int) (hT:H≤8) (h0:w.cell? ⟨x,1,none⟩=some (.slice a H cap)) :
    Calls Tryz.prog 88 #[.pointer (some ⟨x,0,none⟩),.int .i64 i] w fun e w'=>e = .returned (.bool (inB H i))∧w'=w:=by
  have e:Hid (inR i 0 ((H:Int) - 1)=inB H i):=hide (by simp only [inR,inB,okI];exact decide_eq_decide.2 (by omega))
  go_enter Tryz.func88,Tryz.ntmps88
  go_wp2_with (go_at_call 78;refine (within_b _ _ _ _).mono ?_;rintro e w' ⟨rfl,rfl⟩)
  go_ret
  exact ⟨by rw [← e.out];rfl,rfl⟩

theorem hasGood_b (w:World) (x G:Nat) (i:Int) (hT:G≤8) (h0:w.cell? ⟨x,0,none⟩=some (.int .i64 G)) :
    Calls Tryz.prog 89 #[.pointer (some ⟨x,0,none⟩),.int .i64 i] w fun e w'=>e = .returned (.bool (inB G i))∧w'=w:=by
  have e:Hid (inR i 0 ((G:Int) - 1)=inB G i):=hide (by simp only [inR,inB,okI];exact decide_eq_decide.2 (by omega))
  go_enter Tryz.func89,Tryz.ntmps89
  go_wp2_with (go_at_call 78;refine (within_b _ _ _ _).mono ?_;rintro e w' ⟨rfl,rfl⟩)
  go_ret
  exact ⟨by rw [← e.out];rfl,rfl⟩
end

end Go.Proofs.YtcfoobhihhndjaaGreat
