
import Derived.ScopeJumps
import Derived.Sort.QuietTacIn
import Derived.Test.YtcfoobhihhndjaaGreatB01
import Derived.Test.YtcfoobhihhndjaaGreatB08
import Derived.Test.YtcfoobhihhndjaaGreatB09
import Derived.Test.YtcfoobhihhndjaaGreatB12
import Derived.Test.YtcfoobhihhndjaaGreatB13
import Derived.Test.YtcfoobhihhndjaaGreatB14
import Derived.WalkMore
namespace Go.Proofs.YtcfoobhihhndjaaGreat

section
open Go.RowKit Go.Sort

theorem wp_scope_label {P:Program} {Q:Exit→Act→World→Prop} {a:Act} {w:World} {rest:Code} (l:Nat) (J:Act→World→Prop) (μ:Act→World→Nat) (h0:J a w) (pass:∀ a w,J a w→rest.wp P (Exit.jump l (fun a' w'=>J a' w'∧μ a' w'<μ a w) Q) a w):(Code.scope (.seq (.label l) rest)).wp P Q a w:=by
  refine wp_scope_jumps l J μ (rest:=.seq .skip rest) (by simp [findLabel]) ?_ ?_
  · refine wp_seq (wp_label ?_)
    refine wp_mono (pass a w h0) (fun e a w h=>?_)
    cases e with
    | goto l'=>exact ⟨h.1,h.2.1⟩
    | normal=>exact h
    | exit _=>exact h
    | ret=>exact h
    | panic _=>exact h
    | outgrown=>exact h
  · intro a w hJ
    refine wp_seq (wp_skip ?_)
    exact pass a w hJ

def Td.agg (t:Td):Value:=.agg #[.int .i64 t.tk,.int .i64 t.mr,.int .i64 t.wi,.int .i64 t.p,.int .i64 t.q,.int .i64 t.f]

theorem first_q0 {W:World} {L:PL} {m:Mt} (R:PRep W L m) {h g s:Nat} (q:at3 m h g s) (hb:m.bk h g s=[]) :
    Calls Tryz.prog 98 #[.pointer (some ⟨L.qb h g s,0,none⟩)] W fun e w'=>e = .returned (.tuple #[.pointer none,.bool false])∧w'=W:=by
  obtain ⟨a,c,e⟩:=R.qvform q
  have h1:=(R.q1 h g s q).cell
  rw [e,R.ln h g s q,hb] at h1
  exact first_none _ c W a h1

theorem first_q1 {W:World} {L:PL} {m:Mt} (R:PRep W L m) {h g s:Nat} (q:at3 m h g s) {y:Nat} {ys:List Nat} (hob:L.ob h g s=y :: ys) :
    Calls Tryz.prog 98 #[.pointer (some ⟨L.qb h g s,0,none⟩)] W fun e w'=>e = .returned (.tuple #[.pointer (some ⟨y,0,none⟩),.bool true])∧w'=W:=by
  have hr:=R.qr h g s q
  have h1:=(R.q1 h g s q).cell
  have hl:(L.ob h g s).length=ys.length+1:=by rw [hob];rfl
  rcases hr.2 with ⟨_,e2⟩ | ⟨b,cap,cur,e,_⟩
  · omega
  · rw [e] at hr h1
    refine first_some _ b _ cap y W (by omega) h1 ?_
    have:=hr.cellAt 0 (by omega)
    rw [this,hob]
    rfl

theorem PRep.head {W:World} {L:PL} {m:Mt} (R:PRep W L m) {h g s:Nat} (q:at3 m h g s) {z:Od} {r:List Od} (hb:m.bk h g s=z :: r):∃ y ys,L.ob h g s=y :: ys:=by
  have hl:=R.ln h g s q
  rw [hb] at hl
  cases e:L.ob h g s with
  | nil=>rw [e] at hl;simp at hl
  | cons y ys=>exact ⟨y,ys,rfl⟩

theorem oneM_dims (m:Mt) (h g s:Nat) (o z:Od) (n:Int):(oneM m h g s o z n).T=m.T∧(oneM m h g s o z n).G=m.G∧(oneM m h g s o z n).H=m.H:=by
  unfold oneM
  split <;> exact ⟨rfl,rfl,rfl⟩

theorem releaseM_dims (m:Mt) (t h g s:Nat) (o:Od):(releaseM m t h g s o).T=m.T∧(releaseM m t h g s o).G=m.G∧(releaseM m t h g s o).H=m.H:=by
  unfold releaseM
  split <;> exact ⟨rfl,rfl,rfl⟩

theorem trade_ms {w0:World} {L0:PL} {m0:Mt} {xb:Nat} {L:PL} {m:Mt} {o:Od} {tv:Value} {ts:List Td} {W:World} (S:MS w0 L0 m0 xb L m o tv ts W) {N:Int} (ok:m.Ok N) {h g s:Nat} (q:at3 m h g s) {z:Od} {r:List Od} (hb:m.bk h g s=z :: r) {y:Nat} {ys:List Nat} (hob:L.ob h g s=y :: ys)
    (eh:o.h=h) (eg:o.g=g) (es:o.s=otherS s) (ht:0≤o.t∧o.t<m.T) (hp:1≤o.p∧o.p≤100000) (hq:1≤o.q∧o.q≤10000) (hne:z.t≠o.t) :
    Calls Tryz.prog 100 #[.pointer (some ⟨L.x,0,none⟩),.pointer (some ⟨xb,0,none⟩),.pointer (some ⟨y,0,none⟩)] W fun e w'=>e = .returned (oneT m h o z (min o.q z.q)).agg∧MS w0 L0 m0 xb L (oneM m h g s o z (min o.q z.q)) { o with q:=o.q - min o.q z.q } tv ts w':=by
  have hi:(L.ob h g s)[0]? = some y:=by rw [hob];rfl
  have hz:(m.bk h g s)[0]? = some z:=by rw [hb];rfl
  have zo:=ok.od h g s z q.1 q.2.1 q.2.2 (by rw [hb];exact List.mem_cons_self)
  have zt:=zo.t
  obtain ⟨t,et⟩ : ∃ t:Nat,o.t=t:=⟨o.t.toNat,by omega⟩
  obtain ⟨u,eu⟩ : ∃ u:Nat,z.t=u:=⟨z.t.toNat,by omega⟩
  have e1:o.t.toNat=t:=by omega
  have e2:z.t.toNat=u:=by omega
  by_cases hs:s=1
  · subst hs
    refine (trade_buy W L m N S.R ok (tb:=t) (ts:=u) o z q hi hz S.c S.pl S.nx S.xr S.xq et eh eg (by simpa [otherS] using es) (by omega) eu (by omega) hp hq _ rfl _ rfl).mono ?_
    rintro e w' ⟨rfl,h1,h2,h3,h4⟩
    refine ⟨rfl,S.same h3 ?_ h2 h4 (oneM_dims m h g 1 o z _)⟩
    rw [oneM,if_pos rfl,e1,e2]
    exact h1
  · have s0:s=0:=by have:=q.2.2;omega
    subst s0
    refine (trade_sell W L m N S.R ok (ts:=t) (tb:=u) o z q hi hz S.c S.pl S.nx S.xr S.xq et eh eg (by simpa [otherS] using es) (by omega) eu (by omega) hq _ rfl _ rfl).mono ?_
    rintro e w' ⟨rfl,h1,h2,h3,h4⟩
    refine ⟨rfl,S.same h3 ?_ h2 h4 (oneM_dims m h g 0 o z _)⟩
    rw [oneM,if_neg (by decide),e1,e2]
    exact h1

theorem remove_ms {w0:World} {L0:PL} {m0:Mt} {xb:Nat} {L:PL} {m:Mt} {o:Od} {tv:Value} {ts:List Td} {W:World} (S:MS w0 L0 m0 xb L m o tv ts W) (T1:1≤m.T) (G1:1≤m.G) (H1:1≤m.H) {h g s:Nat} (q:at3 m h g s) (h60:(m.bk h g s).length≤1000000) {z:Od} {r:List Od} (hb:m.bk h g s=z :: r) {y:Nat} {ys:List Nat} (hob:L.ob h g s=y :: ys) :
    Calls Tryz.prog 102 #[.pointer (some ⟨L.qb h g s,0,none⟩),.pointer (some ⟨y,0,none⟩)] W fun e w'=>e = .returned (.tuple #[])∧∃ v,MS w0 L0 m0 xb (L.setQ h g s v ys) (m.setBk h g s r) o tv ts w':=by
  have hi:(L.ob h g s)[0]? = some y:=by rw [hob];rfl
  refine (remove_q0 W L m S.R T1 G1 H1 q hi (by rw [S.R.ln h g s q];exact h60)).mono ?_
  rintro e w' ⟨rfl,P⟩
  obtain ⟨v,R',hv⟩:=P.rep
  rw [hob,hb] at R'
  refine ⟨rfl,v,S.turn q (P.kp.mono (S':=L.S m) (fun b hb=>.inl ?_)) R' ⟨rfl,rfl,rfl⟩ hv (fun i b hib=>⟨i+1,by rw [hob];simpa using hib⟩)⟩
  rcases hb with f | f
  · exact ⟨.qb h g s,by simp [PL.F,q,f]⟩
  · exact ⟨.qv h g s,by simp only [PL.F,q,if_true];exact f⟩

theorem takeBack_ms {w0:World} {L0:PL} {m0:Mt} {xb:Nat} {L:PL} {m:Mt} {o:Od} {tv:Value} {ts:List Td} {W:World} (S:MS w0 L0 m0 xb L m o tv ts W) {N:Int} (ok:m.Ok N) {h g s:Nat} (q:at3 m h g s) (h60:(m.bk h g s).length≤1000000) {z:Od} {r:List Od} (hb:m.bk h g s=z :: r) {y:Nat} {ys:List Nat} (hob:L.ob h g s=y :: ys) :
    Calls Tryz.prog 65 #[.pointer (some ⟨L.x,0,none⟩),.pointer (some ⟨y,0,none⟩)] W fun e w'=>e = .returned (.tuple #[])∧∃ v,MS w0 L0 m0 xb (L.setQ h g s v ys) (releaseM (m.setBk h g s r) z.t.toNat h g s z) o tv ts w':=by
  have hi:(L.ob h g s)[0]? = some y:=by rw [hob];rfl
  have hz:(m.bk h g s)[0]? = some z:=by rw [hb];rfl
  have zt:=(ok.od h g s z q.1 q.2.1 q.2.2 (by rw [hb];exact List.mem_cons_self)).t
  refine (takeBack_any W L m N S.R ok ok.bN (t:=z.t.toNat) z q hi hz (by rw [S.R.ln h g s q];exact h60) (by omega)).mono ?_
  rintro e w' ⟨rfl,P⟩
  obtain ⟨v,R',hv⟩:=P.rep
  rw [hob,hb] at R'
  refine ⟨rfl,v,S.turn q (P.kp.mono (S':=L.S m) (fun b hb=>.inl ?_)) R' (releaseM_dims _ _ _ _ _ _) hv (fun i b hib=>⟨i+1,by rw [hob];simpa using hib⟩)⟩
  rcases hb with f | f | f
  · exact ⟨.ab,by rw [f];rfl⟩
  · exact ⟨.qb h g s,by simp [PL.F,q,f]⟩
  · exact ⟨.qv h g s,by simp only [PL.F,q,if_true];exact f⟩
end

section
open Go.RowKit Go.Sort

attribute [local go_sem] Oper.semAt_some

theorem other_any (s:Nat) (hs:s<2) (w:World):Calls Tryz.prog 97 #[.int .i64 s] w fun e w'=>e = .returned (.int .i64 (otherS s))∧w'=w:=by
  rcases s with _ | _ | s
  · exact other_buy w
  · exact other_sell w
  · omega

structure MetSt (w:World) (o:Od) (k:Int) (wr:World):Prop where
  kp:Below w.heap.size w wr
  ob:OdAt wr w.heap.size o
  sm:Own wr ⟨w.heap.size+1,0,none⟩ (.int .i64 k)

theorem MetSt.later {w:World} {o:Od} {k:Int} {wr wr':World} (s:MetSt w o k wr) (q:Kep non wr wr'):MetSt w o k wr' :=
  ⟨s.kp.trans (q.bel.mono s.kp.size),fun j v hv=>(s.ob j v hv).kep q (fun q=>q),s.sm.kep q (fun q=>q)⟩

theorem MetSt.setK {w:World} {o:Od} {k:Int} {wr:World} (s:MetSt w o k wr) (d:Int):MetSt w o d (wr.setCell ⟨w.heap.size+1,0,none⟩ (.int .i64 d)) :=
  ⟨s.kp.setCell (p:=⟨w.heap.size+1,0,none⟩) (by simp) _,fun j v hv=>(s.ob j v hv).set_other (by intro q;injection q with q _ _;omega) rfl rfl _,s.sm.set rfl _⟩

theorem met_own {β:Type} (B:Nat) (w:World) (o:Od) (f:β→Int) (hB:w.heap.size≤B):OwnFrom B (fun (s:β) W=>MetSt w o (f s) W):=by
  intro s A A' row hs hg hr
  have hr2:∀ r,row=some r→∃ o:Obj,A.heap[r]? = some o∧o.isCells=false:=fun r e=>(hr r e).2
  exact ⟨ownFrom_below (β:=β) (Nat.le_refl _) hB s A A' row hs.kp hg hr,fun j v hv=>own_turn (hs.ob j v hv) hg hr2,own_turn hs.sm hg hr2⟩

theorem met_pre (w:World) (o:Od) :
    let W0:=(w.alloc (.cells #[.int .i64 o.id,.int .i64 o.t,.int .i64 o.h,.int .i64 o.g,.int .i64 o.s,.int .i64 o.p,.int .i64 o.q,.int .i64 o.w] 40)).alloc (.cells #[.int .i64 0] 3)
    W0.heap.size=w.heap.size+2∧MetSt w o 0 W0:=by
  intro W0
  have h1:=heap_alloc_new w (.cells #[.int .i64 o.id,.int .i64 o.t,.int .i64 o.h,.int .i64 o.g,.int .i64 o.s,.int .i64 o.p,.int .i64 o.q,.int .i64 o.w] 40)
  have h2:=heap_alloc_new (w.alloc (.cells #[.int .i64 o.id,.int .i64 o.t,.int .i64 o.h,.int .i64 o.g,.int .i64 o.s,.int .i64 o.p,.int .i64 o.q,.int .i64 o.w] 40)) (.cells #[.int .i64 0] 3)
  rw [World.size_alloc] at h2
  refine ⟨by simp [W0],((Below.refl _ w).alloc (Nat.le_refl _) _).alloc (by simp) _,fun j v hv=>?_,?_⟩
  · have h0:Own (w.alloc (.cells #[.int .i64 o.id,.int .i64 o.t,.int .i64 o.h,.int .i64 o.g,.int .i64 o.s,.int .i64 o.p,.int .i64 o.q,.int .i64 o.w] 40)) ⟨w.heap.size,j,none⟩ v:=by
      refine ⟨?_,frozen_of_row _ _ j _ _ h1⟩
      rw [cell_of_row _ _ j _ _ _ h1]
      simpa [Od.cells] using hv
    exact h0.kep ((Kep.refl non _).alloc _) (fun q=>q)
  · exact ⟨cell_of_row _ _ 0 _ _ _ h2,frozen_of_row _ _ 0 _ _ h2⟩

theorem ko_drewN (W:World) (n:Nat):KeepsOthers W (W.drewN n):=⟨Nat.le_refl _,fun _ _ h _=>h⟩

theorem meetsK {X:Act→World→Prop} {G:Prop} {A:Act} {W:World} (ways:(∀ k,X A (W.drewN k))→G) (rest:∀ k,X A (W.drewN k)):G:=ways rest

theorem metL_append (o:Od) (a b:List Od):metL o (a ++ b)=metL o a+metL o b:=by
  induction a with
  | nil=>simp [metL]
  | cons x a ih=>simp only [List.cons_append,metL,ih];omega

theorem metL_bd (o:Od):∀ l:List Od,(∀ z∈l,1≤z.q∧z.q≤10000)→0≤metL o l∧metL o l≤10000 * (l.length:Int)
  | [],_=>by simp [metL]
  | z :: r,h=>by
    have ih:=metL_bd o r (fun x hx=>h x (List.mem_cons_of_mem _ hx))
    have hq:=h z List.mem_cons_self
    simp only [metL,List.length_cons]
    split <;> omega

theorem met_end {w wr:World} {D:Nat} {o:Od} {k K:Int} {tm:Array Value} (e1:k=K) (hzD:w.heap.size+2≤D) (hD:wr.heap[D]? = some (.deferred (some []))) (S:MetSt w o k wr) (ht:tm[4]? = some (.int .i64 k):=by rfl) :
    bodyPostM Fence.wide 3 Tryz.prog Tryz.f95 (fun e w'=>e = .returned (.int .i64 K)∧Below w.heap.size w w') .ret { tmps:=tm,defers:=[{ target:=.collected D,args:=#[] }] } wr:=by
  subst e1
  refine ⟨by simp,.inl ⟨_,_,rfl,run_takeDeferred hD,?_⟩⟩
  refine ⟨.int .i64 k,?_,rfl,S.kp.trans (belowK_b (w:=w) (Nat.le_refl _) wr D _ _ (by omega) hD rfl rfl)⟩
  simp [results,Tryz.results95,go_sem,ht]

set_option maxRecDepth 100000 in
set_option maxHeartbeats 4000000 in
theorem piecesMet_any (w:World) (L:PL) (m:Mt) (N:Int) (R:PRep w L m) (ok:m.Ok N) (o:Od) (h g s:Nat) (eh:o.h=h) (eg:o.g=g) (es:o.s=s) (hh:h<m.H) (hg:g<m.G) (hs:s<2) :
    Calls Tryz.prog 95 #[.pointer (some ⟨L.x,0,none⟩),o.agg] w fun e w'=>e = .returned (.int .i64 (m.met o))∧Below w.heap.size w w':=by
  have q1:at3 m h g (otherS s):=⟨hh,hg,by unfold otherS;split <;> omega⟩
  have HM:=hide (show metL o (m.bk h g (otherS s))=m.met o by unfold Mt.met;rw [eh,eg,es];rfl)
  have HR:=hide R
  have HO:=hide ok
  have HP:=hide (met_pre w o)
  have HB:=hide (show ∀ W,MetSt w o 0 W→Calls Tryz.prog 96 #[.pointer (some ⟨L.x,0,none⟩),.pointer (some ⟨w.heap.size,0,none⟩)] W fun e w'=>e = .returned (.pointer (some ⟨L.gb h,g * 5,none⟩))∧∃ k,w'=W.drewN k from fun W S =>
    bookOf_any W L m (R.bel S.kp) _ h g o S.ob eh eg hh hg)
  obtain ⟨su,hsu⟩ : ∃ su,su=otherS s:=⟨_,rfl⟩
  have HT:=hide (show ∀ W,Calls Tryz.prog 97 #[.int .i64 s] W fun e w'=>e = .returned (.int .i64 su)∧w'=W from fun W=>by rw [hsu];exact other_any s hs W)
  rw [← hsu] at q1 HM
  obtain ⟨qa,qc,hqv⟩:=R.qvform q1
  have HA:=hide (show ∀ W,MetSt w o 0 W→Calls Tryz.prog 118 #[.pointer (some ⟨L.qb h g su,0,none⟩)] W fun e w'=>e = .returned (.func (.func 143) #[] #[.pointer (some ⟨W.heap.size,0,none⟩)])∧w'=W.alloc (.cells #[.slice qa (L.ob h g su).length qc] 142) from fun W S =>
    all_any _ _ _ _ _ (by have:=((R.bel S.kp).q1 h g su q1).cell;rwa [hqv] at this))
  have HC:=hide (show ∀ W,MetSt w o 0 W→W.cell? ⟨w.heap.size,4,none⟩=some (.int .i64 s)∧W.cell? ⟨L.gb h,g * 5+su,none⟩=some (.pointer (some ⟨L.qb h g su,0,none⟩)) from fun W S =>
    ⟨by have:=(S.ob 4 _ rfl).cell;rwa [es] at this,((R.bel S.kp).sd h g su q1).cell⟩)
  have hs2:(su:Int)<2:=by have:=q1.2.2;omega
  have hmx:=mixed
  unfold Od.agg
  clear R ok hsu
  refine (callsIn_wide (n:=3)).1 ?_
  refine callsIn_of_wp_marks Tryz.func95 rfl trivial ?_ rfl
  simp only [Tryz.ntmps95,List.size_toArray,List.length_cons,List.length_nil,Nat.reduceAdd,Nat.reduceSub,Array.replicate_succ,Array.replicate_zero,List.push_toArray,List.append_toArray,List.nil_append,List.cons_append]
  refine wpIn_wide.2 ?_
  have EE:=hide (And.intro eh (And.intro eg es))
  clear eh eg es
  go_wp2
  generalize (w.alloc (.cells #[.int .i64 o.id,.int .i64 o.t,.int .i64 o.h,.int .i64 o.g,.int .i64 o.s,.int .i64 o.p,.int .i64 o.q,.int .i64 o.w] 40)).alloc (.cells #[.int .i64 0] 3)=W0 at *
  have hz:=HP.out.1
  have HS0:=hide (show ∀ W,Kep non W0 W→MetSt w o 0 W from fun W k=>HP.out.2.later k)
  obtain ⟨c4,cs⟩:=HC.out W0 (HS0.out W0 (Kep.refl _ _))
  go_cut [16] from 7 to 15 (fun s16 wx=>s16 = .func (.func 143) #[] #[.pointer (some ⟨w.heap.size+2,0,none⟩)]∧MetSt w o 0 wx∧wx.heap[w.heap.size+2]? = some (.cells #[.slice qa (L.ob h g su).length qc] 142 (0,0)))
  case first =>
    go_region_held3 (fun w'=>w'.cell? ⟨w.heap.size,4,none⟩=some (.int .i64 s)∧w'.cell? ⟨L.gb h,g * 5+su,none⟩=some (.pointer (some ⟨L.qb h g su,0,none⟩)))
      ((refine HC.out _ (HS0.out _ ?_);(repeat (first | apply Kep.drew | apply Kep.drewN | apply Kep.alloc));exact Kep.refl _ _))
      (first | (go_at_call 96;refine (HB.out _ (HS0.out _ ?_)).mono ?_;((repeat (first | apply Kep.drew | apply Kep.drewN | apply Kep.alloc));exact Kep.refl _ _);rintro e w' ⟨rfl,k,rfl⟩) | (go_at_call 97;refine (HT.out _).mono ?_;rintro e w' ⟨rfl,rfl⟩) | (go_at_call 118;refine (HA.out _ (HS0.out _ ?_)).mono ?_;((repeat (first | apply Kep.drew | apply Kep.drewN | apply Kep.alloc));exact Kep.refl _ _);rintro e w' ⟨rfl,rfl⟩))
    all_goals go_step
    all_goals go_step
    all_goals go_meet
    all_goals refine ⟨rfl,HS0.out _ ?_,?_⟩
    all_goals first
      | ((repeat (first | apply Kep.drew | apply Kep.drewN | apply Kep.alloc));exact Kep.refl _ _)
      | (rw [← hz];exact heap_alloc_new _ _)
  case rest =>
    obtain ⟨rfl,S0,hbx⟩:=hcut
    clear HS0 HP hz HC HB HT HA c4 cs
    obtain ⟨zs,hz1,hz2⟩:=HR.out.seq HO.out q1
    have hp:Ptrs w.heap.size wc (.slice qa (L.ob h g su).length qc) (zs.map fun z=>z.1.1):=by
      have h0:=(HR.out.ptrs q1).below S0.kp
      rw [hqv] at h0
      rw [hz1]
      exact h0
    have hlen:zs.length=(L.ob h g su).length:=by rw [← hz1,List.length_map]
    have HZ2:=hide hz2
    clear hz1 hz2
    have hzc:=S0.kp.size
    have lwc:w.heap.size+2<wc.heap.size:=(Array.getElem?_eq_some_iff.1 hbx).1
    have hl60:zs.length≤60:=by
      have h1:=HO.out.a60
      have h2:=HR.out.len_all
      have h3:=came_len (L:=L) (m:=m) (s:=2) hh hg
      have h4:(L.ob h g su).length≤(L.ob h g 0).length+(L.ob h g 1).length:=by
        rcases su with _ | _ | su
        · omega
        · simp only [Nat.zero_add];omega
        · have:=q1.2.2;omega
      simp only [cameTo,two,List.length_append] at h3
      simp at h3
      omega
    have hcb:wc.cell? ⟨w.heap.size+2,0,none⟩=some (.slice qa (L.ob h g su).length qc):=by simp [World.cell?,hbx]
    clear hbx
    go_wp2
    refine (wpIn_wide (n:=3)).1 ?_
    refine wpIn_rangeFunc_ownG (F:=Fence.wide) (n:=3) rfl (by omega) (gf:=143) (lb:=#[.pointer (some ⟨w.heap.size+2,0,none⟩)]) rfl trivial (enters_of Tryz.func143 (by kernel_rfl) rfl)
      (values_stops (fun z:{ p:Nat × Od // Good w p.1 p.2 }=>z.1.1) Fence.wide 2 trivial rfl (by omega) (w.heap.size+2) w.heap.size (.slice qa (L.ob h g su).length qc) zs (by omega) _ lwc (by omega) hcb hp) belowK_t (belowK_b (by omega)) (Below.refl _ _) (fun _=>rfl)
      (fun pre W=>MetSt w o (metL o (pre.map fun z=>z.1.2)) W)
      (fun _ _ _=>False)
      (met_own _ w o _ (by omega))
      (fun _ _ _ _ _ hs _ _=>hs)
      S0
      (fun x=>{ tmps:=#[.pointer (some ⟨L.x,0,none⟩),.agg #[.int .i64 o.id,.int .i64 o.t,.int .i64 o.h,.int .i64 o.g,.int .i64 o.s,.int .i64 o.p,.int .i64 o.q,.int .i64 o.w],undef,.pointer (some ⟨w.heap.size,0,none⟩),.int .i64 0,.pointer (some ⟨w.heap.size+1,0,none⟩),.pointer (some ⟨x.1.1,0,none⟩),u7,u8,u9,u10,u11,u12,u13,u14,u15,.func (.func 143) #[] #[.pointer (some ⟨w.heap.size+2,0,none⟩)],.pointer (some ⟨x.1.1,0,none⟩),undef,undef,undef,undef,undef,undef,undef,undef,undef,undef,undef,undef,undef,undef,undef,undef,undef,undef],defers:=[] })
      ?assign ?body ?done ?stop
    case assign =>
      intro l x W K hK
      gi_wp2
      exact hK
    case body =>
      rintro l pre x W S hlt1
      have hkb:0≤metL o (pre.map fun z=>z.1.2)∧metL o (pre.map fun z=>z.1.2)≤600000:=by
        have h1:=metL_bd o (pre.map fun z=>z.1.2) (fun o ho=>by obtain ⟨z,_,rfl⟩:=List.mem_map.1 ho;exact z.2.2.2.2)
        have h2:((pre.map fun z=>z.1.2).length:Int)≤60:=by rw [List.length_map];omega
        omega
      have hks:Hid (metL o ((pre ++ [x]).map fun z=>z.1.2)=metL o (pre.map fun z=>z.1.2)+if x.1.2.t≠o.t∧pfits o x.1.2=true then x.1.2.q else 0):=hide (by rw [List.map_append,metL_append];simp [metL])
      have HT:=hide S
      have hx:OdAt W x.1.1 x.1.2:=fun j v hv=>((x.2.1 j v hv).kep (Kep.of_below (S:=non) S.kp) (fun q=>q))
      have HF:=hide (show ∀ k,CallsIn (Fence.wide.inRound l) (3 - 1 - 1 - 1) Tryz.prog 99 #[.pointer (some ⟨w.heap.size,0,none⟩),.pointer (some ⟨x.1.1,0,none⟩)] (W.drewN k) fun e w'=>e = .returned (.bool (pfits o x.1.2))∧∃ n,w'=(W.drewN k).drewN n from fun k =>
        CallsIn.inRound l ((callsIn_wide (n:=3 - 1 - 1 - 1)).2 (pricesFit_any (W.drewN k) _ _ o x.1.2 (fun j v hv=>(S.ob j v hv).kep ((Kep.refl non W).drewN k) (fun f=>f)) (fun j v hv=>(hx j v hv).kep ((Kep.refl non W).drewN k) (fun f=>f)))))
      have o1:=(hx 1 _ rfl).cell
      have o6:=(hx 6 _ rfl).cell
      have bq:=x.2.2.2.2
      have t1:=(S.ob 1 _ rfl).cell
      have k0:=S.sm.cell
      have k1:=S.sm.free
      have S0le:w.heap.size≤W.heap.size:=S.kp.size
      have hfn:Fence.wide.fn 99=True:=eq_true trivial
      clear S hx
      generalize metL o (pre.map fun z=>z.1.2)=K0 at *
      generalize x.1.1=b at *
      generalize x.1.2=z at *
      by_cases e1:z.t=o.t
      · have hK:Hid (metL o ((pre ++ [x]).map fun z=>z.1.2)=K0):=hide (by rw [hks.out,if_neg (fun f=>f.1 e1),Int.add_zero])
        have e2:(z.t == o.t)=true:=beq_iff_eq.2 e1
        clear hks
        gi_wp2
        apply meets
        case ways =>
          intro hX
          gi_region_with_o (fail)
          all_goals exact hX
        gi_wp2
        refine ⟨(KeepsOthers.drew _).from _,(Below.refl w.heap.size W).drew,?_⟩
        show MetSt w o (metL o ((pre ++ [x]).map fun z=>z.1.2)) _
        rw [hK.out]
        exact HT.out.later ((Kep.refl _ _).drew)
      · have e2:(z.t == o.t)=false:=beq_eq_false_iff_ne.2 e1
        cases hpf:pfits o z with
        | false =>
          have hK:Hid (metL o ((pre ++ [x]).map fun z=>z.1.2)=K0):=hide (by rw [hks.out,if_neg (fun f=>by rw [hpf] at f;cases f.2),Int.add_zero])
          rw [hpf] at HF
          clear hks hpf
          gi_wp2
          apply meetsK (W:=W)
          case ways =>
            intro hX
            gi_region_with_o (gi_at_call 99;refine (HF.out 1).mono ?_;rintro e w' ⟨rfl,k,rfl⟩)
            all_goals exact hX _
          intro k
          gi_wp2
          refine ⟨(ko_drewN W k).from _,((Kep.refl non W).drewN k).below (S:=non) S0le (fun _ f=>f.elim),?_⟩
          show MetSt w o (metL o ((pre ++ [x]).map fun z=>z.1.2)) _
          rw [hK.out]
          exact HT.out.later ((Kep.refl _ _).drewN k)
        | true =>
          have hK:Hid (metL o ((pre ++ [x]).map fun z=>z.1.2)=K0+z.q):=hide (by rw [hks.out,if_pos ⟨e1,hpf⟩])
          rw [hpf] at HF
          clear hks hpf
          gi_wp2
          apply meetsK (W:=W)
          case ways =>
            intro hX
            gi_region_with_o (gi_at_call 99;refine (HF.out 1).mono ?_;rintro e w' ⟨rfl,k,rfl⟩)
            all_goals exact hX _
          intro k
          have kk:Kep non W (W.drewN k):=(Kep.refl _ _).drewN k
          have o6':=kk.cell o6 (fun f=>f)
          have S2:=HT.out.later kk
          have k0':=S2.sm.cell
          have k1':=S2.sm.free
          have KO:=hide (ko_drewN W k)
          have KB:=hide (kk.below (B:=w.heap.size) S0le (fun _ f=>f.elim))
          clear HF o6 o1 t1 k0 k1 HT kk
          generalize W.drewN k=W2 at *
          have HT:=hide S2
          clear S2
          gi_wp2
          apply meets
          case ways =>
            intro hX
            gi_region_o
            all_goals exact hX
          gi_wp2
          have w1:IntKind.i64.wrap (K0+z.q)=K0+z.q:=IntWalk.i64_in _ (by omega)
          rw [w1]
          refine ⟨((KO.out.trans (KeepsOthers.setCell _ _ _)).trans (KeepsOthers.drew _)).from _,KB.out.trans (((Below.refl w.heap.size W2).setCell (p:=⟨w.heap.size+1,0,none⟩) (by simp) _).drew),?_⟩
          show MetSt w o (metL o ((pre ++ [x]).map fun z=>z.1.2)) _
          rw [hK.out]
          exact (HT.out.setK _).later ((Kep.refl _ _).drew)
    case done =>
      rintro D ys W hD rfl S hK
      have HZ:=hide (show metL o (ys.map fun z=>z.1.2)=m.met o by rw [HZ2.out];exact HM.out)
      obtain ⟨kk,hkk⟩ : ∃ kk,kk=metL o (ys.map fun z=>z.1.2):=⟨_,rfl⟩
      rw [← hkk] at S HZ
      have HS:=hide S
      have HD:=hide hK
      have c0:=S.sm.cell
      clear S hK hkk
      go_wp2
      exact met_end HZ.out (by omega) HD.out HS.out
    case stop =>
      rintro D c pre W _ _ h _
      exact h.elim
end

section
structure Adds {α:Type} (φ:List α→Int):Prop where
  nil:φ []=0
  app:∀ a b,φ (a ++ b)=φ a+φ b

theorem Adds.cons {α:Type} {φ:List α→Int} (A:Adds φ) (x:α) (l:List α):φ (x :: l)=φ [x]+φ l:=A.app [x] l

theorem adds_held (t:Int):Adds (heldL t):=⟨rfl,heldL_append t⟩
theorem adds_len {α:Type}:Adds (fun l:List α=>(l.length:Int)):=⟨rfl,fun a b=>by simp⟩

theorem adds_upG {α:Type} {φ:List α→Int} (A:Adds φ) (f:Nat→Nat→List α) (g s:Nat) (hs:s<2) (os:List α):∀ G,φ (upG (fun b c=>if b=g∧c=s then os else f b c) G)=φ (upG f G)+if g<G then φ os - φ (f g s) else 0
  | 0=>by simp [upG]
  | G+1=>by
    have ih:=adds_upG A f g s hs os G
    simp only [upG,two,A.app,ih]
    by_cases e:G=g
    · subst e
      rcases s with _ | _ | s
      · simp;omega
      · simp;omega
      · omega
    · simp only [e,false_and,if_false]
      by_cases q:g<G
      · rw [if_pos q,if_pos (by omega)];omega
      · rw [if_neg q,if_neg (by omega)];omega

theorem adds_upH {α:Type} {φ:List α→Int} (A:Adds φ) (G:Nat) (f:Nat→Nat→Nat→List α) (h g s:Nat) (hg:g<G) (hs:s<2) (os:List α):∀ H,φ (upH G (fun a b c=>if a=h∧b=g∧c=s then os else f a b c) H)=φ (upH G f H)+if h<H then φ os - φ (f h g s) else 0
  | 0=>by simp [upH]
  | H+1=>by
    have ih:=adds_upH A G f h g s hg hs os H
    simp only [upH,A.app,ih]
    by_cases e:H=h
    · subst e
      have:=adds_upG A (f H) g s hs os G
      simp only [true_and]
      rw [this,if_pos hg,if_neg (Nat.lt_irrefl _),if_pos (Nat.lt_succ_self _)]
      omega
    · have e':(fun b c=>if H=h∧b=g∧c=s then os else f H b c)=f H:=by funext b c;simp [e]
      rw [e']
      by_cases q:h<H
      · rw [if_pos q,if_pos (by omega)];omega
      · rw [if_neg q,if_neg (by omega)];omega

def sumN (f:Nat→Int):Nat→Int
  | 0=>0
  | n+1=>sumN f n+f n

theorem sumN_congr {f k:Nat→Int}:∀ {n:Nat},(∀ i,i<n→f i=k i)→sumN f n=sumN k n
  | 0,_=>rfl
  | n+1,h=>by rw [sumN,sumN,sumN_congr (fun i hi=>h i (by omega)),h n (by omega)]
theorem sumN_add (f k:Nat→Int):∀ n,sumN (fun i=>f i+k i) n=sumN f n+sumN k n
  | 0=>rfl
  | n+1=>by simp only [sumN,sumN_add f k n];omega
theorem sumN_zero:∀ n,sumN (fun _=>0) n=0
  | 0=>rfl
  | n+1=>by simp only [sumN,sumN_zero n];omega
theorem sumN_upd (f:Nat→Int) (k:Nat) (x:Int):∀ n,sumN (fun i=>if i=k then x else f i) n=sumN f n+if k<n then x - f k else 0
  | 0=>by simp [sumN]
  | n+1=>by
    simp only [sumN,sumN_upd f k x n]
    by_cases e:n=k
    · subst e;simp;omega
    · rw [if_neg e]
      by_cases q:k<n
      · rw [if_pos q,if_pos (by omega)];omega
      · rw [if_neg q,if_neg (by omega)];omega
theorem sumN_one (k:Nat) (x:Int) (n:Nat):sumN (fun i=>if i=k then x else 0) n=if k<n then x else 0:=by
  rw [sumN_upd (fun _=>0),sumN_zero];simp
theorem sumN_nonneg {f:Nat→Int}:∀ {n:Nat},(∀ i,i<n→0≤f i)→0≤sumN f n
  | 0,_=>by simp [sumN]
  | n+1,h=>by
    have:=sumN_nonneg (f:=f) (n:=n) (fun i hi=>h i (by omega))
    have:=h n (by omega)
    simp only [sumN];omega
theorem sumN_le {f:Nat→Int}:∀ {n:Nat},(∀ i,i<n→0≤f i)→∀ k,k<n→f k≤sumN f n
  | 0,_,k,hk=>by omega
  | n+1,h,k,hk=>by
    have h1:=sumN_nonneg (f:=f) (n:=n) (fun i hi=>h i (by omega))
    have h2:=h n (by omega)
    simp only [sumN]
    by_cases e:k=n
    · subst e;omega
    · have:=sumN_le (f:=f) (n:=n) (fun i hi=>h i (by omega)) k (by omega)
      omega

def heldS (T:Nat) (l:List Od):Int:=sumN (fun j=>heldL j l) T
def keptS (T:Nat) (l:List Od):Int:=sumN (fun j=>keptL j l) T

theorem adds_heldS (T:Nat):Adds (heldS T) :=
  ⟨by simp only [heldS,heldL];exact sumN_zero T,fun a b=>by simp only [heldS,heldL_append];exact sumN_add _ _ T⟩
theorem adds_keptS (T:Nat):Adds (keptS T) :=
  ⟨by simp only [keptS,keptL];exact sumN_zero T,fun a b=>by simp only [keptS,keptL_append];exact sumN_add _ _ T⟩

theorem heldS_one {T:Nat} {o:Od} (h:0≤o.t∧o.t<T):heldS T [o]=if o.s=0 then o.p * o.q else 0:=by
  have e:(fun j:Nat=>heldL j [o])=fun j=>if j=o.t.toNat then (if o.s=0 then o.p * o.q else 0) else 0:=by
    funext j
    simp only [heldL]
    by_cases q:j=o.t.toNat
    · have e:o.t=j:=by omega
      rw [if_pos q]
      simp [e]
    · have e:¬ o.t=j:=by omega
      rw [if_neg q]
      simp [e]
  rw [heldS,e,sumN_one,if_pos (by omega)]

theorem keptS_one {T:Nat} {o:Od} (h:0≤o.t∧o.t<T):keptS T [o]=o.q:=by
  have e:(fun j:Nat=>keptL j [o])=fun j=>if j=o.t.toNat then o.q else 0:=by
    funext j
    simp only [keptL]
    by_cases q:j=o.t.toNat
    · have e:o.t=j:=by omega
      rw [if_pos q]
      simp [e]
    · have e:¬ o.t=j:=by omega
      rw [if_neg q]
      simp [e]
  rw [keptS,e,sumN_one,if_pos (by omega)]
end

section
def Mt.money (m:Mt):Int:=m.ho+sumN m.mo m.T+heldS m.T m.all
def comeS (T H:Nat) (g:Int) (l:List Lo):Int:=sumN (fun i=>sumN (fun k=>comeL i k g l) H) T
def Mt.stock (m:Mt) (g:Nat):Int:=sumN (fun i=>sumN (fun k=>m.pc i k g) m.H) m.T+sumN (fun k=>keptS m.T (m.bk k g 1)) m.H+comeS m.T m.H g m.ld

theorem money_setMo (m:Mt) (k:Nat) (hk:k<m.T) (x:Int):(m.setMo k x).money=m.money+(x - m.mo k):=by
  show m.ho+sumN (fun i=>if i=k then x else m.mo i) m.T+heldS m.T m.all=m.ho+sumN m.mo m.T+heldS m.T m.all+_
  rw [sumN_upd,if_pos hk];omega
theorem money_setPc (m:Mt) (t h g:Nat) (x:Int):(m.setPc t h g x).money=m.money:=rfl
theorem money_ho (m:Mt) (x:Int):({ m with ho:=x }:Mt).money=m.money+(x - m.ho):=by
  show x+sumN m.mo m.T+heldS m.T m.all=m.ho+sumN m.mo m.T+heldS m.T m.all+_
  omega
theorem money_note (m:Mt) (h g:Nat) (p q:Int):(noteM m h g p q).money=m.money:=rfl
theorem money_setBk (m:Mt) {h g s:Nat} (q:at3 m h g s) (os:List Od):(m.setBk h g s os).money=m.money+(heldS m.T os - heldS m.T (m.bk h g s)):=by
  show m.ho+sumN m.mo m.T+heldS m.T (upH m.G (fun a b c=>if a=h∧b=g∧c=s then os else m.bk a b c) m.H)=m.ho+sumN m.mo m.T+heldS m.T m.all+_
  rw [adds_upH (adds_heldS m.T) m.G m.bk h g s q.2.1 q.2.2 os m.H,if_pos q.1]
  show _=m.ho+sumN m.mo m.T+heldS m.T (upH m.G m.bk m.H)+_
  omega

theorem sumN2_upd (f:Nat→Nat→Int) (t h:Nat) (x:Int) (T H:Nat):sumN (fun i=>sumN (fun k=>if i=t∧k=h then x else f i k) H) T=sumN (fun i=>sumN (fun k=>f i k) H) T+if t<T∧h<H then x - f t h else 0:=by
  have e:(fun i=>sumN (fun k=>if i=t∧k=h then x else f i k) H)=fun i=>if i=t then sumN (fun k=>if k=h then x else f t k) H else sumN (fun k=>f i k) H:=by
    funext i
    by_cases q:i=t
    · subst q;simp
    · simp [q]
  rw [e,sumN_upd,sumN_upd]
  have eta:sumN (fun k=>f t k) H=sumN (f t) H:=rfl
  by_cases q:t<T
  · by_cases q':h<H
    · rw [if_pos q,if_pos q',if_pos ⟨q,q'⟩];omega
    · rw [if_pos q,if_neg q',if_neg (fun k=>q' k.2)];omega
  · rw [if_neg q,if_neg (fun k=>q k.1)]

theorem stock_setMo (m:Mt) (k:Nat) (x:Int) (g:Nat):(m.setMo k x).stock g=m.stock g:=rfl
theorem stock_ho (m:Mt) (x:Int) (g:Nat):({ m with ho:=x }:Mt).stock g=m.stock g:=rfl
theorem stock_note (m:Mt) (h g:Nat) (p q:Int) (g':Nat):(noteM m h g p q).stock g'=m.stock g':=rfl
theorem stock_setPc (m:Mt) (t h g:Nat) (ht:t<m.T) (hh:h<m.H) (x:Int) (g':Nat):(m.setPc t h g x).stock g'=m.stock g'+if g'=g then x - m.pc t h g else 0:=by
  show sumN (fun i=>sumN (fun k=>if i=t∧k=h∧g'=g then x else m.pc i k g') m.H) m.T+sumN (fun k=>keptS m.T (m.bk k g' 1)) m.H+comeS m.T m.H g' m.ld=_
  by_cases e:g'=g
  · subst e
    have:=sumN2_upd (fun i k=>m.pc i k g') t h x m.T m.H
    simp only [and_true,if_true]
    rw [this,if_pos ⟨ht,hh⟩]
    unfold Mt.stock
    omega
  · simp only [e,and_false,if_false]
    unfold Mt.stock
    omega
theorem stock_setBk (m:Mt) {h g s:Nat} (q:at3 m h g s) (os:List Od) (g':Nat):(m.setBk h g s os).stock g'=m.stock g'+if s=1∧g'=g then keptS m.T os - keptS m.T (m.bk h g 1) else 0:=by
  show sumN (fun i=>sumN (fun k=>m.pc i k g') m.H) m.T+sumN (fun k=>keptS m.T (if k=h∧g'=g∧1=s then os else m.bk k g' 1)) m.H+comeS m.T m.H g' m.ld=_
  by_cases e:s=1∧g'=g
  · obtain ⟨rfl,rfl⟩:=e
    have e2:(fun k=>keptS m.T (if k=h∧g'=g'∧1=1 then os else m.bk k g' 1))=fun k=>if k=h then keptS m.T os else keptS m.T (m.bk k g' 1):=by
      funext k
      by_cases q:k=h
      · simp [q]
      · simp [q]
    rw [e2,sumN_upd,if_pos q.1,if_pos ⟨rfl,rfl⟩]
    unfold Mt.stock
    omega
  · have e2:(fun k=>keptS m.T (if k=h∧g'=g∧1=s then os else m.bk k g' 1))=fun k=>keptS m.T (m.bk k g' 1):=by
      funext k
      rw [if_neg (fun k=>e ⟨k.2.2.symm,k.2.1⟩)]
    rw [e2,if_neg e]
    unfold Mt.stock
    omega

def airM (o:Od):Int:=if o.s=0 then o.p * o.q else 0
def airP (o:Od) (g:Nat):Int:=if o.s=1∧o.g=g then o.q else 0

theorem money_trade (m:Mt) {tb ts tc h g s i:Nat} (q:at3 m h g s) (htb:tb<m.T) (hts:ts<m.T) (htc:tc<m.T) (d n a f:Int) (z':Od) :
    (tradeM m tb ts tc h g s i d n a f z').money=m.money+d+a+(heldS m.T ((m.bk h g s).set i z') - heldS m.T (m.bk h g s)):=by
  unfold tradeM
  refine (money_setBk _ (by exact q) _).trans ?_
  rw [money_ho,money_setMo _ _ (by exact htc),money_setMo _ _ (by exact hts),money_setPc,money_setMo _ _ htb]
  show _+_+_+(_+f - _)+(heldS m.T ((m.bk h g s).set i z') - heldS m.T (m.bk h g s))=_
  omega

theorem stock_trade (m:Mt) {tb ts tc h g s i:Nat} (q:at3 m h g s) (htb:tb<m.T) (d n a f:Int) (z':Od) (g':Nat) :
    (tradeM m tb ts tc h g s i d n a f z').stock g'=m.stock g'+(if g'=g then n else 0)+if s=1∧g'=g then keptS m.T ((m.bk h g s).set i z') - keptS m.T (m.bk h g 1) else 0:=by
  unfold tradeM
  refine (stock_setBk _ (by exact q) _ g').trans ?_
  rw [stock_ho,stock_setMo,stock_setMo,stock_setPc _ _ _ _ (by exact htb) (by exact q.1),stock_setMo]
  show _+_+(if s=1∧g'=g then keptS m.T ((m.bk h g s).set i z') - keptS m.T (m.bk h g 1) else 0)=_
  have e:∀ k,(m.setMo tb k).pc tb h g=m.pc tb h g:=fun _=>rfl
  rw [e]
  split <;> omega
end

section
structure Mt.In (m:Mt) (N A:Int) (P:Nat→Int) (sl:Int):Prop where
  bN:1000000≤N∧N≤50000000
  T1:1≤m.T
  T8:m.T≤8
  G1:1≤m.G
  G4:m.G≤4
  H1:1≤m.H
  H4:m.H≤4
  rt:∀ h,h<m.H→0≤m.rt h∧m.rt h≤100
  mo:∀ t,t<m.T→0≤m.mo t
  pc:∀ t h g,t<m.T→h<m.H→g<m.G→0≤m.pc t h g
  l20:m.ld.length≤20
  ld:∀ l,l∈m.ld→(0≤l.t∧l.t<m.T)∧(0≤l.h∧l.h<m.H)∧(0≤l.g∧l.g<m.G)∧(1≤l.n∧l.n≤10000)∧(0≤l.d∧l.d≤1000000010)
  a60:m.all.length≤60
  od:∀ h g s o,h<m.H→g<m.G→s<2→o∈m.bk h g s→o.Ok m h g s
  nu:0≤m.nu∧m.nu≤N
  ho:0≤m.ho
  tm:0≤m.tm∧m.tm≤1000000000
  mon:m.money+A≤1000000000000
  stk:∀ g,g<m.G→m.stock g+P g≤1000000
  pi:∀ h g,h<m.H→g<m.G→0≤m.pi h g∧m.pi h g+10000 * (m.all.length+sl)≤20000 * m.nu
  am:∀ h g,h<m.H→g<m.G→0≤m.am h g∧m.am h g+1000000000 * (m.all.length+sl)≤2000000000 * m.nu

theorem heldS_nonneg {T:Nat} {l:List Od} (h:∀ o∈l,(1≤o.p∧o.p≤100000)∧(1≤o.q∧o.q≤10000)):0≤heldS T l:=sumN_nonneg fun i _=>(heldL_bd i l h).1
theorem keptS_nonneg {T:Nat} {l:List Od} (h:∀ o∈l,1≤o.q∧o.q≤10000):0≤keptS T l:=sumN_nonneg fun i _=>(keptL_bd i l h).1
theorem comeS_nonneg {T H:Nat} {g:Int} {l:List Lo} (h:∀ o∈l,1≤o.n∧o.n≤10000):0≤comeS T H g l:=sumN_nonneg fun i _=>sumN_nonneg fun k _=>(comeL_bd i k g l h).1

section
variable {m:Mt} {N A:Int} {P:Nat→Int} {sl:Int}

theorem Mt.In.all_ok (I:m.In N A P sl) {o:Od} (ho:o∈m.all):∃ h g s,at3 m h g s∧o∈m.bk h g s∧o.Ok m h g s:=by
  obtain ⟨a,b,s,h1,h2,h3,h4⟩:=Mt.mem_all.1 ho
  exact ⟨a,b,s,⟨h1,h2,h3⟩,h4,I.od a b s o h1 h2 h3 h4⟩

theorem Mt.In.held0 (I:m.In N A P sl):0≤heldS m.T m.all:=heldS_nonneg fun o ho=>by
  obtain ⟨_,_,_,_,_,k⟩:=I.all_ok ho
  exact ⟨k.p,k.q⟩

theorem Mt.In.kept0 (I:m.In N A P sl) {g:Nat} (hg:g<m.G):0≤sumN (fun k=>keptS m.T (m.bk k g 1)) m.H:=sumN_nonneg fun k hk=>keptS_nonneg fun o ho=>(I.od k g 1 o hk hg (by omega) ho).q

theorem Mt.In.come0 (I:m.In N A P sl) (g:Nat):0≤comeS m.T m.H g m.ld:=comeS_nonneg fun l hl=>(I.ld l hl).2.2.2.1

theorem Mt.In.mo_le (I:m.In N A P sl) {t:Nat} (ht:t<m.T):m.mo t≤m.money:=by
  have h1:=I.held0
  have h2:=sumN_le (f:=m.mo) (n:=m.T) I.mo t ht
  have h3:=I.ho
  unfold Mt.money
  omega

theorem Mt.In.ho_le (I:m.In N A P sl):m.ho≤m.money:=by
  have h1:=I.held0
  have h2:=sumN_nonneg (f:=m.mo) (n:=m.T) I.mo
  unfold Mt.money
  omega

theorem Mt.In.pc_le (I:m.In N A P sl) {t h g:Nat} (ht:t<m.T) (hh:h<m.H) (hg:g<m.G):m.pc t h g≤m.stock g:=by
  have h1:=I.kept0 hg
  have h2:=I.come0 g
  have h3:=sumN_le (f:=fun k=>m.pc t k g) (n:=m.H) (fun k hk=>I.pc t k g ht hk hg) h hh
  have h4:=sumN_le (f:=fun i=>sumN (fun k=>m.pc i k g) m.H) (n:=m.T) (fun i hi=>sumN_nonneg fun k hk=>I.pc i k g hi hk hg) t ht
  unfold Mt.stock
  omega

theorem Mt.In.ok (I:m.In N A P sl) (hA:0≤A) (hP:∀ g,g<m.G→0≤P g):m.Ok N:=by
  have hb:=I.bN
  have hm:=I.mon
  refine ⟨by omega,I.T1,I.T8,I.G1,I.G4,I.H1,I.H4,I.rt,fun t ht=>⟨I.mo t ht,?_⟩,fun t h g ht hh hg=>⟨I.pc t h g ht hh hg,?_⟩,I.l20,I.ld,I.a60,I.od,I.nu,⟨I.ho,?_⟩,I.tm⟩
  · have:=I.mo_le ht;omega
  · have:=I.pc_le ht hh hg
    have:=I.stk g hg
    have:=hP g hg
    omega
  · have:=I.ho_le;omega

theorem Mt.In.pi_le (I:m.In N A P sl) (hs:0≤sl) {h g:Nat} (hh:h<m.H) (hg:g<m.G):(0≤m.pi h g∧m.pi h g≤1000000000000)∧(0≤m.am h g∧m.am h g≤1000000000000000000):=by
  have h1:=I.pi h g hh hg
  have h2:=I.am h g hh hg
  have h3:=I.nu
  have h4:=I.bN
  omega
end

theorem Od.Ok.of {m m':Mt} {h g s:Nat} {o:Od} (k:o.Ok m h g s) (hn:m.nu≤m'.nu) (hT:m'.T=m.T):o.Ok m' h g s :=
  ⟨⟨k.id.1,Int.le_trans k.id.2 hn⟩,by rw [hT];exact k.t,k.h,k.g,k.s,k.p,k.q,k.w⟩

theorem all_setBk (m:Mt) {h g s:Nat} (q:at3 m h g s) (os:List Od):((m.setBk h g s os).all.length:Int)=m.all.length+(os.length - (m.bk h g s).length):=by
  have k:=adds_upH (adds_len (α:=Od)) m.G m.bk h g s q.2.1 q.2.2 os m.H
  rw [if_pos q.1] at k
  exact k

theorem fee_mono {m:Mt} {h:Nat} (hr:0≤m.rt h) {a b:Int} (hab:a≤b):m.fee h a≤m.fee h b:=by
  unfold Mt.fee
  have:=Int.mul_le_mul_of_nonneg_right hab hr
  omega
theorem fee_add (m:Mt) (h:Nat) (a b:Int):m.fee h a+m.fee h b≤m.fee h (a+b):=by
  unfold Mt.fee
  rw [Int.add_mul]
  omega
theorem fee_le {m:Mt} {h:Nat} (hr:0≤m.rt h∧m.rt h≤100) {a:Int} (ha:0≤a):0≤m.fee h a∧m.fee h a≤a:=by
  unfold Mt.fee
  have h1:=Int.mul_le_mul_of_nonneg_left hr.2 ha
  have h2:=Int.mul_nonneg ha hr.1
  omega
end

end Go.Proofs.YtcfoobhihhndjaaGreat
