
import Derived.Deep.CutRange
import Derived.Deep.RegionHeld3
import Derived.Deep.RegionWith
import Derived.Test.YtcfoobhihhndjaaGreatB05
import Derived.Test.YtcfoobhihhndjaaGreatB06
import Derived.Test.YtcfoobhihhndjaaGreatB11
namespace Go.Proofs.YtcfoobhihhndjaaGreat

section
open Go.RowKit Go.Sort

structure Sk where
  h:Int
  g:Int
  f:Int
  k:Int
  c:Int

def Sk.cells (l:Sk):List Value:=[.int .i64 l.h,.int .i64 l.g,.int .i64 l.f,.int .i64 l.k,.int .i64 l.c]
def skCells (l:List Sk):List Value:=l.flatMap Sk.cells
theorem skCells_append (a b:List Sk):skCells (a ++ b)=skCells a ++ skCells b:=by simp [skCells]
theorem Sk.oneCell' (l:Sk):∀ u,u∈l.cells→u.oneCell'=true:=by simp [Sk.cells,Value.oneCell']

theorem infoStock:(Tryz.prog.info? 63).map (fun i=>(i.zero,i.size,i.bytes))=some (some (.agg #[.int .i64 0,.int .i64 0,.int .i64 0,.int .i64 0,.int .i64 0]),5,40):=by kernel_rfl

def stk (m:Mt) (t h g:Nat):List Sk:=if m.pc t h g≠0∨m.kept t h g≠0∨m.come t h g≠0 then [⟨h,g,m.pc t h g,m.kept t h g,m.come t h g⟩] else []
def stkRow (m:Mt) (t h:Nat):Nat→List Sk
  | 0=>[]
  | k+1=>stkRow m t h k ++ stk m t h k
def stkTo (m:Mt) (t:Nat):Nat→List Sk
  | 0=>[]
  | i+1=>stkTo m t i ++ stkRow m t i m.G

theorem stk_len (m:Mt) (t h g:Nat):(stk m t h g).length≤1:=by unfold stk;split <;> simp
theorem stkRow_len (m:Mt) (t h k:Nat):(stkRow m t h k).length≤k:=by
  induction k with
  | zero=>simp [stkRow]
  | succ k ih=>have:=stk_len m t h k;simp only [stkRow,List.length_append];omega
theorem stkTo_len (m:Mt) (t i:Nat) (h4:m.G≤4):(stkTo m t i).length≤4 * i:=by
  induction i with
  | zero=>simp [stkTo]
  | succ k ih=>have:=stkRow_len m t k m.G;simp only [stkTo,List.length_append];omega

structure AccSt (w:World) (A:Nat) (x y:Int) (gs:List Sk) (wr:World):Prop where
  kp:Kep non w wr
  lA:w.heap.size<A
  r0:Own wr ⟨w.heap.size,0,none⟩ (.int .i64 0)
  r1:Own wr ⟨w.heap.size,1,none⟩ (.int .i64 0)
  r2:Own wr ⟨w.heap.size,2,none⟩ (.slice none 0 0)
  a0:Own wr ⟨A,0,none⟩ (.int .i64 x)
  a1:Own wr ⟨A,1,none⟩ (.int .i64 y)
  v:∃ a c,Own wr ⟨A,2,none⟩ (.slice a gs.length c)∧wr.ownsRow (A+1) 63 5 (.slice a gs.length c) gs.length (skCells gs)

theorem AccSt.later {w:World} {A:Nat} {x y:Int} {gs:List Sk} {wr wr':World} (h:AccSt w A x y gs wr) (k:Kep non wr wr'):AccSt w A x y gs wr':=by
  obtain ⟨a,c,h1,h2⟩:=h.v
  have n:∀ b,¬ non b:=fun _ q=>q
  exact ⟨h.kp.trans k,h.lA,h.r0.kep k (n _),h.r1.kep k (n _),h.r2.kep k (n _),h.a0.kep k (n _),h.a1.kep k (n _),a,c,h1.kep k (n _),ownsRow_kep h2 k (fun _ _=>n _)⟩

theorem AccSt.start {w W W1:World} (x y:Int) (hw:W=w.alloc (.cells #[.int .i64 0,.int .i64 0,.slice none 0 0] 74)) (k:Kep non W W1) :
    AccSt w W1.heap.size x y [] (W1.alloc (.cells #[.int .i64 x,.int .i64 y,.slice none 0 0] 74)):=by
  have h0:=heap_alloc_new w (.cells #[.int .i64 0,.int .i64 0,.slice none 0 0] 74)
  have h1:=heap_alloc_new W1 (.cells #[.int .i64 x,.int .i64 y,.slice none 0 0] 74)
  rw [← hw] at h0
  have c0:=fun j=>cell_of_row _ _ j _ _ _ h0
  have c1:=fun j=>cell_of_row _ _ j _ _ _ h1
  have f0:=fun j=>frozen_of_row _ _ j _ _ h0
  have f1:=fun j=>frozen_of_row _ _ j _ _ h1
  have k2:=k.alloc (.cells #[.int .i64 x,.int .i64 y,.slice none 0 0] 74)
  have k0:Kep non w W:=by rw [hw];exact (Kep.refl _ _).alloc _
  have n:∀ b,¬ non b:=fun _ q=>q
  have hz:=k.size
  have hs:W.heap.size=w.heap.size+1:=by rw [hw];simp
  exact ⟨k0.trans k2,by omega,(Own.mk (c0 0) (f0 0)).kep k2 (n _),(Own.mk (c0 1) (f0 1)).kep k2 (n _),(Own.mk (c0 2) (f0 2)).kep k2 (n _),⟨c1 0,f1 0⟩,⟨c1 1,f1 1⟩,none,0,⟨c1 2,f1 2⟩,World.ownsRow_nil _ _ _ _⟩

theorem AccSt.start2 {w W W1:World} (x y:Int) (hw:W=w.alloc (.cells #[.int .i64 0,.int .i64 0,.slice none 0 0] 74)) (k:Kep non (W.alloc (.cells #[.int .i64 0,.int .i64 0,.slice none 0 0] 74)) W1) :
    AccSt w W.heap.size x y [] (((W1.setCell ⟨W.heap.size,0,none⟩ (.int .i64 x)).setCell ⟨W.heap.size,1,none⟩ (.int .i64 y)).setCell ⟨W.heap.size,2,none⟩ (.slice none 0 0)):=by
  have h0:=heap_alloc_new w (.cells #[.int .i64 0,.int .i64 0,.slice none 0 0] 74)
  have h1:=heap_alloc_new W (.cells #[.int .i64 0,.int .i64 0,.slice none 0 0] 74)
  rw [← hw] at h0
  have c0:=fun j=>cell_of_row _ _ j _ _ _ h0
  have c1:=fun j=>cell_of_row _ _ j _ _ _ h1
  have f0:=fun j=>frozen_of_row _ _ j _ _ h0
  have f1:=fun j=>frozen_of_row _ _ j _ _ h1
  have k0:Kep non w W:=by rw [hw];exact (Kep.refl _ _).alloc _
  have k1:Kep non W W1:=((Kep.refl _ _).alloc _).trans k
  have n:∀ b,¬ non b:=fun _ q=>q
  have hs:W.heap.size=w.heap.size+1:=by rw [hw];simp
  have ne:∀ i j:Nat,i≠j→(⟨W.heap.size,i,none⟩ : Addr)≠⟨W.heap.size,j,none⟩:=fun i j hj q=>by injection q with _ q _;exact hj q
  have ne0:∀ i j,(⟨w.heap.size,i,none⟩ : Addr)≠⟨W.heap.size,j,none⟩:=fun i j q=>by injection q with q _ _;omega
  have r:∀ {j u},Own W ⟨w.heap.size,j,none⟩ u→Own (((W1.setCell ⟨W.heap.size,0,none⟩ (.int .i64 x)).setCell ⟨W.heap.size,1,none⟩ (.int .i64 y)).setCell ⟨W.heap.size,2,none⟩ (.slice none 0 0)) ⟨w.heap.size,j,none⟩ u :=
    fun h=>(((h.kep k1 (n _)).set_other (ne0 _ _) rfl rfl _).set_other (ne0 _ _) rfl rfl _).set_other (ne0 _ _) rfl rfl _
  have a0:=(Own.mk (c1 0) (f1 0)).kep k (n _)
  have a1:=(Own.mk (c1 1) (f1 1)).kep k (n _)
  have a2:=(Own.mk (c1 2) (f1 2)).kep k (n _)
  refine ⟨(((k0.trans k1).setCell (p:=⟨W.heap.size,0,none⟩) (.inr (by simp only [];omega)) _).setCell (p:=⟨W.heap.size,1,none⟩) (.inr (by simp only [];omega)) _).setCell (p:=⟨W.heap.size,2,none⟩) (.inr (by simp only [];omega)) _,by omega,r ⟨c0 0,f0 0⟩,r ⟨c0 1,f0 1⟩,r ⟨c0 2,f0 2⟩,
    ((a0.set rfl _).set_other (ne 0 1 (by decide)) rfl rfl _).set_other (ne 0 2 (by decide)) rfl rfl _,((a1.set_other (ne 1 0 (by decide)) rfl rfl _).set rfl _).set_other (ne 1 2 (by decide)) rfl rfl _,none,0,((a2.set_other (ne 2 0 (by decide)) rfl rfl _).set_other (ne 2 1 (by decide)) rfl rfl _).set rfl _,World.ownsRow_nil _ _ _ _⟩

theorem AccSt.more {w:World} {A:Nat} {x y:Int} {gs:List Sk} {wr w1:World} {a:Option Addr} {c gg cap:Nat} {o:Obj} (h:AccSt w A x y gs wr) (h1:Own wr ⟨A,2,none⟩ (.slice a gs.length c)) (h2:wr.ownsRow (A+1) 63 5 (.slice a gs.length c) gs.length (skCells gs))
    (hgrow:(wr.alloc o).grownBy w1 (Value.slice a gs.length c).ownBlock) (l:Sk) (hown1:w1.ownsRow (A+1) 63 5 (.slice (some ⟨gg,0,none⟩) (gs.length+1) cap) (gs.length+1) (skCells gs ++ l.cells)) :
    AccSt w A x y (gs ++ [l]) (w1.setCell ⟨A,2,none⟩ (.slice (some ⟨gg,0,none⟩) (gs.length+1) cap)):=by
  have fresh:∀ b,(Value.slice a gs.length c).ownBlock=some b→A+1≤b:=fun b hb=>(h2.lt b hb).1
  have k1:Kep (fun b=>(Value.slice a gs.length c).ownBlock=some b) wr w1:=((Kep.refl _ _).alloc o).grown hgrow (fun b hb=>.inl hb)
  have lA:=h.lA
  have n0:¬ (Value.slice a gs.length c).ownBlock=some w.heap.size:=fun hb=>by have:=fresh _ hb;omega
  have n1:¬ (Value.slice a gs.length c).ownBlock=some A:=fun hb=>by have:=fresh _ hb;omega
  have ne:∀ j,j≠2→(⟨A,j,none⟩ : Addr)≠⟨A,2,none⟩:=fun j hj q=>by injection q with _ q _;exact hj q
  have ne0:∀ j,(⟨w.heap.size,j,none⟩ : Addr)≠⟨A,2,none⟩:=fun j q=>by injection q with q _ _;omega
  refine ⟨(h.kp.trans' k1 (fun b hb=>.inr (by have:=fresh b hb;omega))).setCell (p:=⟨A,2,none⟩) (.inr (by simp only [];omega)) _,lA,(h.r0.kep k1 n0).set_other (ne0 _) rfl rfl _,(h.r1.kep k1 n0).set_other (ne0 _) rfl rfl _,(h.r2.kep k1 n0).set_other (ne0 _) rfl rfl _,
    (h.a0.kep k1 n1).set_other (ne 0 (by decide)) rfl rfl _,(h.a1.kep k1 n1).set_other (ne 1 (by decide)) rfl rfl _,some ⟨gg,0,none⟩,cap,?_,?_⟩
  · simpa using (h1.kep k1 n1).set rfl (.slice (some ⟨gg,0,none⟩) (gs.length+1) cap)
  · have:=ownsRow_setCell_other hown1 (a:=⟨A,2,none⟩) (by intro q;have:=(hown1.lt _ q).1;simp only [] at this;omega) (.slice (some ⟨gg,0,none⟩) (gs.length+1) cap)
    simpa [skCells_append,skCells] using this

theorem three_set {w:World} {b:Nat} {u0 u1 u2:Value} (h0:Own w ⟨b,0,none⟩ u0) (h1:Own w ⟨b,1,none⟩ u1) (h2:Own w ⟨b,2,none⟩ u2) (v0 v1 v2:Value) :
    (((w.setCell ⟨b,0,none⟩ v0).setCell ⟨b,1,none⟩ v1).setCell ⟨b,2,none⟩ v2).cell? ⟨b,0,none⟩=some v0∧(((w.setCell ⟨b,0,none⟩ v0).setCell ⟨b,1,none⟩ v1).setCell ⟨b,2,none⟩ v2).cell? ⟨b,1,none⟩=some v1∧(((w.setCell ⟨b,0,none⟩ v0).setCell ⟨b,1,none⟩ v1).setCell ⟨b,2,none⟩ v2).cell? ⟨b,2,none⟩=some v2:=by
  have ne:∀ i j:Nat,i≠j→(⟨b,i,none⟩ : Addr)≠⟨b,j,none⟩:=fun i j hj q=>by injection q with _ q _;exact hj q
  exact ⟨(((h0.set rfl v0).set_other (ne 0 1 (by decide)) rfl rfl v1).set_other (ne 0 2 (by decide)) rfl rfl v2).cell,(((h1.set_other (ne 1 0 (by decide)) rfl rfl v0).set rfl v1).set_other (ne 1 2 (by decide)) rfl rfl v2).cell,
    (((h2.set_other (ne 2 0 (by decide)) rfl rfl v0).set_other (ne 2 1 (by decide)) rfl rfl v1).set rfl v2).cell⟩

theorem ownsRow_mono {w:World} {b b':Nat} {e:TypeId} {size:Nat} {v:Value} {n:Nat} {xs:List Value} (h:w.ownsRow b e size v n xs) (hb:b'≤b):w.ownsRow b' e size v n xs:=by
  refine ⟨h.1,?_⟩
  rcases h.2 with hn | ⟨g,cap,cur,rfl,hb',rest⟩
  · exact .inl hn
  · exact .inr ⟨g,cap,cur,rfl,Nat.le_trans hb hb',rest⟩

theorem account_no (w:World) (L:PL) (m:Mt) (N t:Int) (R:PRep w L m) (ok:m.Ok N) (ht:¬ okI m.T t) :
    Calls Tryz.prog 23 #[.pointer (some ⟨L.x,0,none⟩),.int .i64 t] w fun e w'=>e = .returned (.tuple #[.agg #[.int .i64 0,.int .i64 0,.slice none 0 0],.int .i64 2])∧Kep non w w':=by
  have c2:∀ o,(w.alloc o).cell? ⟨L.x,2,none⟩=some (.slice (some ⟨L.ab,0,none⟩) m.T m.T):=fun o=>(R.cA.kep ((Kep.refl non _).alloc o) (fun q=>q)).cell
  have i1:=hide (inB_not ht)
  have bT:=ok.T8
  go_enter Tryz.func23,Tryz.ntmps23
  go_wp2_with (first | (go_at_call 63;refine (hasTrader_b _ _ _ _ _ _ bT (c2 _)).mono ?_;rw [i1.out];rintro e w' ⟨rfl,hw⟩;subst hw))
  exact bodyPost_ret (v:=.tuple #[.agg #[.int .i64 0,.int .i64 0,.slice none 0 0],.int .i64 2]) (by simp [results,Tryz.results23,go_sem]) rfl ⟨rfl,(Kep.refl _ _).alloc _⟩

set_option maxRecDepth 100000 in
set_option maxHeartbeats 2000000 in
theorem account_yes (w:World) (L:PL) (m:Mt) (N:Int) (t:Nat) (R:PRep w L m) (ok:m.Ok N) (ht:t<m.T) :
    Calls Tryz.prog 23 #[.pointer (some ⟨L.x,0,none⟩),.int .i64 t] w fun e w'=>∃ v,e = .returned (.tuple #[.agg #[.int .i64 (m.mo t),.int .i64 (m.held t),v],.int .i64 0])∧Kep non w w' ∧
      w'.ownsRow w.heap.size 63 5 v (stkTo m t m.H).length (skCells (stkTo m t m.H)):=by
  have bT:=ok.T8
  have i1:=hide (inB_okI (show okI m.T t from ⟨by omega,by omega⟩))
  have HW:Hid (∀ W,Kep non w W→W.cell? ⟨L.x,2,none⟩=some (.slice (some ⟨L.ab,0,none⟩) m.T m.T)∧W.cell? ⟨L.ab,t * 17,none⟩=some (.int .i64 (m.mo t))):=hide fun W k=>⟨(R.later k).cA.cell,((R.later k).mo t ht).cell⟩
  have HM:=hide (fun W (k:Kep non w W)=>heldMoney_any W L m N t (R.later k) ok)
  have l4:=ok.G4
  have h4:=ok.H4
  have ht':(t:Int)<(m.T:Int):=by omega
  have HWe:Hid (∃ W0,W0=w.alloc (.cells #[.int .i64 0,.int .i64 0,.slice none 0 0] 74)):=hide ⟨_,rfl⟩
  have c2:(w.alloc (.cells #[.int .i64 0,.int .i64 0,.slice none 0 0] 74)).cell? ⟨L.x,2,none⟩=some (.slice (some ⟨L.ab,0,none⟩) m.T m.T):=(HW.out _ ((Kep.refl _ _).alloc _)).1
  go_enter Tryz.func23,Tryz.ntmps23
  go_wp2_with (first | (go_at_call 63;refine (hasTrader_b _ _ _ _ _ _ bT c2).mono ?_;rw [i1.out];rintro e w' ⟨rfl,hw⟩;subst hw))
  obtain ⟨W0,hW0⟩:=HWe.out
  rw [← hW0]
  have K0:Kep non w W0:=by rw [hW0];exact (Kep.refl _ _).alloc _
  have HW0:=hide hW0
  have HK0:=hide K0
  have hz0:=K0.size
  clear hW0 K0 c2 HWe
  obtain ⟨c2,cm⟩:=HW.out _ HK0.out
  go_cut [6] from 15 to 26 (fun v6 wx=>∃ A:Nat,v6 = .pointer (some ⟨A,0,none⟩)∧AccSt w A (m.mo t) (m.held t) [] wx)
  case first =>
    go_region_held3 (fun w'=>w'.cell? ⟨L.x,2,none⟩=some (.slice (some ⟨L.ab,0,none⟩) m.T m.T)∧w'.cell? ⟨L.ab,t * 17,none⟩=some (.int .i64 (m.mo t)))
      ((refine HW.out _ ?_;(repeat (first | apply Kep.drew | apply Kep.alloc | (refine Kep.setCell ?_ (.inr (by simp only [];omega)) _)));first | exact HK0.out | assumption))
      ((go_at_call 71;refine (HM.out _ ?_).mono ?_;((repeat (first | apply Kep.drew | apply Kep.alloc));first | exact HK0.out | assumption);rintro e w1 ⟨rfl,kb⟩;have K1:Kep non w w1:=Kep.trans (by (repeat (first | apply Kep.drew | apply Kep.alloc));exact HK0.out) (Kep.of_below kb);have hz1:=K1.size;have hc:∀ b o,b<_→w1.cell? ⟨b,o,none⟩=_:=fun b o h=>kb.cell (p:=⟨b,o,none⟩) h;have hf:∀ b o,b<_→w1.frozen? ⟨b,o,none⟩=_:=fun b o h=>kb.frozen (p:=⟨b,o,none⟩) h))
    all_goals go_step
    all_goals go_step
    all_goals go_meet
    · exact ⟨_,rfl,AccSt.start _ _ HW0.out ((Kep.refl non W0).drew.trans (Kep.of_below kb))⟩
    · exact ⟨_,rfl,AccSt.start2 _ _ HW0.out ((Kep.refl non _).drew.trans (Kep.of_below kb))⟩
  case rest =>
    obtain ⟨A,rfl,A0⟩:=hcut
    clear HW HM HW0 HK0 c2 cm i1 hz0
    have c1:=(R.later A0.kp).cR.cell
    go_wp2
    clear c1
    go_loopw [32] (fun i wr=>∃ j:Nat,j≤m.H∧i = .int .i64 j∧AccSt w A (m.mo t) (m.held t) (stkTo m t j) wr) (fun i _=>m.H - (intOf i).toNat)
    case atStart=>exact ⟨0,Nat.zero_le _,rfl,A0⟩
    case round =>
      clear A0
      obtain ⟨j,hj,rfl,A1⟩:=hrel
      by_cases hlt:j<m.H
      · have Rr:=R.later A1.kp
        have c0:=Rr.cG.cell
        clear Rr
        go_wp2
        clear c0
        go_loopw [39] (fun i wr=>∃ k:Nat,k≤m.G∧i = .int .i64 k∧AccSt w A (m.mo t) (m.held t) (stkTo m t j ++ stkRow m t j k) wr) (fun i _=>m.G - (intOf i).toNat)
        case atStart=>exact ⟨0,Nat.zero_le _,rfl,by simpa [stkRow] using A1⟩
        case round =>
          clear A1
          obtain ⟨k,hk,rfl,A1⟩:=hrel
          by_cases hlk:k<m.G
          · have Rr:=R.later A1.kp
            have HQ:=hide (stock_any _ L m N Rr ok t j k ht (by omega) (by omega))
            have HA:=hide A1
            clear Rr A1
            go_wp2_with fail
            refine HQ.out.mono ?_
            rintro e wc ⟨rfl,Kc⟩
            clear HQ
            have Ac:=HA.out.later (Kep.of_below Kc)
            have HAc:=hide Ac
            have HS:=hide (show stkRow m t j (k+1)=stkRow m t j k ++ stk m t j k from rfl)
            clear Kc
            obtain ⟨va,vc,hv,hown⟩:=Ac.v
            have gl:(stkTo m t j ++ stkRow m t j k).length≤16:=by have:=stkTo_len m t j l4;have:=stkRow_len m t j k;simp only [List.length_append];omega
            have av:∀ o,(wc.alloc o).cell? ⟨A,2,none⟩=some (.slice va (stkTo m t j ++ stkRow m t j k).length vc):=fun o=>(hv.kep ((Kep.refl non _).alloc o) (fun q=>q)).cell
            have lw:A<wc.heap.size:=hv.lt
            have HV:=hide hv
            clear hv Ac
            have HK:=hide (show stk m t j k=if m.pc t j k≠0∨m.kept t j k≠0∨m.come t j k≠0 then [⟨j,k,m.pc t j k,m.kept t j k,m.come t j k⟩] else [] from rfl)
            generalize hG:stkTo m t j ++ stkRow m t j k=gs at *
            have HG:=hide hG
            clear hG
            generalize m.pc t j k=x at *
            generalize m.kept t j k=z at *
            generalize m.come t j k=y at *
            by_cases hx:x=0∧z=0∧y=0
            · obtain ⟨rfl,rfl,rfl⟩:=hx
              go_wp2
              refine ⟨⟨k+1,by omega,by go_num,?_⟩,by simp [intOf];omega⟩
              rw [HS.out,← List.append_assoc,HG.out,HK.out,if_neg (by simp),List.append_nil]
              exact HAc.out.later ((Kep.refl _ _).alloc _)
            · have hxy:(x != 0)=true∨((x != 0)=false∧(z != 0)=true)∨((x != 0)=false∧(z != 0)=false∧(y != 0)=true):=by
                by_cases h1:x=0
                · by_cases h2:z=0
                  · exact .inr (.inr ⟨by simpa using h1,by simpa using h2,by simp;omega⟩)
                  · exact .inr (.inl ⟨by simpa using h1,by simpa using h2⟩)
                · exact .inl (by simpa using h1)
              have HX:Hid (x≠0∨z≠0∨y≠0):=hide (by omega)
              clear hx
              obtain ⟨i0,hi0,hz0,hz1,hz2⟩:=info_parts infoStock
              rcases hxy with h1 | ⟨h1,h2⟩ | ⟨h1,h2,h3⟩
              all_goals
                go_wp2_with (at_builtin;refine wpList_append_lies _ rfl _ _ _ rfl (A+1) 63 i0 _ 5 40 Tryz.underlying61 hi0 hz0 hz1 hz2 rfl (by omega) _ gs.length (skCells gs) rfl (by exact (hown.alloc _).alloc _) ⟨wc.heap.size+1,0,none⟩ 1 1 (Sk.cells ⟨j,k,x,z,y⟩) rfl rfl (by exact news_of_last' #[_,_,_,_,_] 63 (by simp)) (Sk.oneCell' _) (by omega) (by simp only [maxLen];omega) (by omega) (by simp;omega) (wc.heap.size+2) (by simp) ?_)
                intro gg cap w1 hown1 hgrow hat hlt1
                have k1:Kep (fun b=>(Value.slice va gs.length vc).ownBlock=some b) wc w1:=((((Kep.refl _ _).alloc _).alloc _)).grown hgrow (fun b hb=>.inl hb)
                have n1:¬ (Value.slice va gs.length vc).ownBlock=some A:=fun hb=>by have:=(hown.lt _ hb).1;omega
                have z6:=(HV.out.kep k1 n1).cell
                have z7:=(HV.out.kep k1 n1).free
                clear k1 n1
                go_wp2
                refine ⟨⟨k+1,by omega,by go_num,?_⟩,by simp [intOf];omega⟩
                rw [HS.out,← List.append_assoc,HG.out,HK.out,if_pos HX.out]
                exact (HAc.out.later ((Kep.refl _ _).alloc _)).more (HV.out.kep ((Kep.refl non _).alloc _) (fun q=>q)) (hown.alloc _) hgrow ⟨j,k,x,z,y⟩ hown1
          · have e1:k=m.G:=by omega
            subst e1
            go_wp2
            refine ⟨⟨j+1,by omega,by go_num,?_⟩,by simp [intOf];omega⟩
            exact A1
      · have e1:j=m.H:=by omega
        subst e1
        have HA:=hide A1
        obtain ⟨va,vc,hv,hown⟩:=A1.v
        have x0:=A1.a0.cell
        have x1:=A1.a1.cell
        have x2:=hv.cell
        have lA:=A1.lA
        obtain ⟨y0,g0⟩:=A1.r0
        obtain ⟨y1,g1⟩:=A1.r1
        obtain ⟨y2,g2⟩:=A1.r2
        clear A1 hv
        go_wp2
        have T:=three_set HA.out.r0 HA.out.r1 HA.out.r2 (.int .i64 (m.mo t)) (.int .i64 (m.held t)) (.slice va (stkTo m t m.H).length vc)
        refine bodyPost_ret (v:=.tuple #[.agg #[.int .i64 (m.mo t),.int .i64 (m.held t),.slice va (stkTo m t m.H).length vc],.int .i64 0]) (by simp [results,Tryz.results23,go_sem,T.1,T.2.1,T.2.2]) rfl ⟨_,rfl,?_,?_⟩
        · exact ((HA.out.kp.setCell (.inr (by simp)) _).setCell (.inr (by simp)) _).setCell (.inr (by simp)) _
        · refine ownsRow_setCell_other (ownsRow_setCell_other (ownsRow_setCell_other (ownsRow_mono hown (by omega)) ?_ _) ?_ _) ?_ _
          all_goals exact fun q=>by have:A+1≤w.heap.size:=(hown.lt _ q).1;omega
end

section
open Go.RowKit Go.Sort

def rstk (m:Rm) (t h g:Nat):List Sk:=if m.pc t h g - m.kept t h g≠0∨m.kept t h g≠0∨m.come t h g≠0 then [⟨h,g,m.pc t h g - m.kept t h g,m.kept t h g,m.come t h g⟩] else []
def rstkRow (m:Rm) (t h:Nat):Nat→List Sk
  | 0=>[]
  | k+1=>rstkRow m t h k ++ rstk m t h k
def rstkTo (m:Rm) (t:Nat):Nat→List Sk
  | 0=>[]
  | i+1=>rstkTo m t i ++ rstkRow m t i m.G

theorem rstk_len (m:Rm) (t h g:Nat):(rstk m t h g).length≤1:=by unfold rstk;split <;> simp
theorem rstkRow_len (m:Rm) (t h k:Nat):(rstkRow m t h k).length≤k:=by
  induction k with
  | zero=>simp [rstkRow]
  | succ k ih=>have:=rstk_len m t h k;simp only [rstkRow,List.length_append];omega
theorem rstkTo_len (m:Rm) (t i:Nat) (h4:m.G≤4):(rstkTo m t i).length≤4 * i:=by
  induction i with
  | zero=>simp [rstkTo]
  | succ k ih=>have:=rstkRow_len m t k m.G;simp only [rstkTo,List.length_append];omega

theorem refAccount_no (w:World) (L:RL) (m:Rm) (t:Int) (R:RRep w L m) (ht:¬ okI m.T t) :
    Calls Tryz.prog 24 #[.pointer (some ⟨L.c,0,none⟩),.int .i64 t] w fun e w'=>e = .returned (.tuple #[.agg #[.int .i64 0,.int .i64 0,.slice none 0 0],.int .i64 2])∧Kep non w w':=by
  have c0:∀ o,(w.alloc o).cell? ⟨L.c,0,none⟩=some (.int .i64 m.T):=fun o=>(R.later ((Kep.refl _ _).alloc o)).c.cT.cell
  have i1:=hide (inB_not ht)
  go_enter Tryz.func24,Tryz.ntmps24
  go_wp2_with (first | (go_at_call 66;refine (trader_b _ _ _ _ (c0 _)).mono ?_;rw [i1.out];rintro e w' ⟨rfl,hw⟩;subst hw))
  exact bodyPost_ret (v:=.tuple #[.agg #[.int .i64 0,.int .i64 0,.slice none 0 0],.int .i64 2]) (by simp [results,Tryz.results24,go_sem]) rfl ⟨rfl,(Kep.refl _ _).alloc _⟩

set_option maxRecDepth 100000 in
set_option maxHeartbeats 2000000 in
theorem refAccount_yes (w:World) (L:RL) (m:Rm) (N:Int) (t:Nat) (R:RRep w L m) (ok:m.Ok N) (ht:t<m.T) :
    Calls Tryz.prog 24 #[.pointer (some ⟨L.c,0,none⟩),.int .i64 t] w fun e w'=>∃ v,e = .returned (.tuple #[.agg #[.int .i64 (m.mo t - m.held t),.int .i64 (m.held t),v],.int .i64 0])∧Kep non w w' ∧
      w'.ownsRow w.heap.size 63 5 v (rstkTo m t m.H).length (skCells (rstkTo m t m.H)):=by
  have i1:=hide (inB_okI (show okI m.T t from ⟨by omega,by omega⟩))
  have c0:∀ o,(w.alloc o).cell? ⟨L.c,0,none⟩=some (.int .i64 m.T):=fun o=>(R.later ((Kep.refl _ _).alloc o)).c.cT.cell
  have HC:=hide c0
  clear c0
  have l4:=ok.G4
  have h4:=ok.H4
  have HF:=hide (fun W (k:Kep non w W)=>rfree_any W L m N (R.later k) ok t ht)
  have HM:=hide (fun W (k:Kep non w W)=>rheld_any W L m N (R.later k) ok t)
  have HWe:Hid (∃ W0,W0=w.alloc (.cells #[.int .i64 0,.int .i64 0,.slice none 0 0] 74)):=hide ⟨_,rfl⟩
  go_enter Tryz.func24,Tryz.ntmps24
  go_wp2_with fail
  refine (trader_b _ _ _ _ (HC.out _)).mono ?_
  rw [i1.out]
  rintro e w' ⟨rfl,hw⟩
  subst hw
  obtain ⟨W0,hW0⟩:=HWe.out
  rw [← hW0]
  have K0:Kep non w W0:=by rw [hW0];exact (Kep.refl _ _).alloc _
  have HW0:=hide hW0
  clear hW0 HWe HC
  go_wp2_with fail
  refine (HF.out _ K0).mono ?_
  rintro e w1 ⟨rfl,kb1⟩
  have K1:Kep non W0 w1:=Kep.of_below kb1
  go_wp2_with fail
  refine (HM.out _ (K0.trans K1)).mono ?_
  rintro e w2 ⟨rfl,kb2⟩
  have A0:=AccSt.start (m.mo t - m.held t) (m.held t) HW0.out (K1.trans (Kep.of_below kb2))
  clear HF HM HW0 K0 K1 kb1 kb2
  go_wp2
  generalize hXX:m.mo t - m.held t=X at *
  generalize hYY:m.held t=Y at *
  have HX0:=hide hXX
  have HY0:=hide hYY
  clear hXX hYY
  generalize w2.heap.size=A at *
  generalize w2.alloc (.cells #[.int .i64 X,.int .i64 Y,.slice none 0 0] 74)=W1 at *
  go_loopw [8] (fun i wr=>∃ j:Nat,j≤m.H∧i = .int .i64 j∧AccSt w A X Y (rstkTo m t j) wr) (fun i _=>m.H - (intOf i).toNat)
  case atStart=>exact ⟨0,Nat.zero_le _,rfl,A0⟩
  case round =>
    clear A0
    obtain ⟨j,hj,rfl,A1⟩:=hrel
    have Rr:=R.later A1.kp
    have c2:=Rr.c.cR.cell
    by_cases hlt:j<m.H
    · go_wp2
      go_loopw [9] (fun i wr=>∃ k:Nat,k≤m.G∧i = .int .i64 k∧AccSt w A X Y (rstkTo m t j ++ rstkRow m t j k) wr) (fun i _=>m.G - (intOf i).toNat)
      case atStart=>exact ⟨0,Nat.zero_le _,rfl,by simpa [rstkRow] using A1⟩
      case round =>
        clear A1 Rr c2
        obtain ⟨k,hk,rfl,A1⟩:=hrel
        have Rr:=R.later A1.kp
        have c1:=Rr.c.cG.cell
        by_cases hlk:k<m.G
        · have HRr:=hide Rr
          have HA:=hide A1
          clear Rr A1
          have bp:=ok.pc t j k ht hlt hlk
          go_wp2_with fail
          refine (rspare_any _ L m N HRr.out ok t j k ht hlt hlk).mono ?_
          rintro e wa ⟨rfl,ba⟩
          have Ka:Kep non wr wa:=.of_below ba
          clear ba
          go_wp2_with fail
          refine (rkept_any _ L m N (HRr.out.later Ka) ok t j k).mono ?_
          rintro e wb ⟨rfl,bb⟩
          have Kb:Kep non wr wb:=Ka.trans (.of_below bb)
          clear bb Ka
          go_wp2_with fail
          refine (rcome_any _ L m N (HRr.out.later Kb) ok t j k).mono ?_
          rintro e wc ⟨rfl,bc⟩
          have Kc:Kep non wr wc:=Kb.trans (.of_below bc)
          have Ac:=HA.out.later Kc
          have HAc:=hide Ac
          have HS:=hide (show rstkRow m t j (k+1)=rstkRow m t j k ++ rstk m t j k from rfl)
          clear bc Kb Kc
          obtain ⟨va,vc,hv,hown⟩:=Ac.v
          have gl:(rstkTo m t j ++ rstkRow m t j k).length≤16:=by have:=rstkTo_len m t j l4;have:=rstkRow_len m t j k;simp only [List.length_append];omega
          have av:∀ o,(wc.alloc o).cell? ⟨A,2,none⟩=some (.slice va (rstkTo m t j ++ rstkRow m t j k).length vc):=fun o=>(hv.kep ((Kep.refl non _).alloc o) (fun q=>q)).cell
          have lw:A<wc.heap.size:=hv.lt
          have HV:=hide hv
          clear hv Ac
          have HK:=hide (show rstk m t j k=if m.pc t j k - m.kept t j k≠0∨m.kept t j k≠0∨m.come t j k≠0 then [⟨j,k,m.pc t j k - m.kept t j k,m.kept t j k,m.come t j k⟩] else [] from rfl)
          generalize hG:rstkTo m t j ++ rstkRow m t j k=gs at *
          have HG:=hide hG
          clear hG
          generalize m.pc t j k - m.kept t j k=x at *
          generalize m.kept t j k=z at *
          generalize m.come t j k=y at *
          by_cases hx:x=0∧z=0∧y=0
          · obtain ⟨rfl,rfl,rfl⟩:=hx
            go_wp2
            refine ⟨⟨k+1,by omega,by go_num,?_⟩,by simp [intOf];omega⟩
            rw [HS.out,← List.append_assoc,HG.out,HK.out,if_neg (by simp),List.append_nil]
            exact HAc.out.later ((Kep.refl _ _).alloc _)
          · have hxy:(x != 0)=true∨((x != 0)=false∧(z != 0)=true)∨((x != 0)=false∧(z != 0)=false∧(y != 0)=true):=by
              by_cases h1:x=0
              · by_cases h2:z=0
                · exact .inr (.inr ⟨by simpa using h1,by simpa using h2,by simp;omega⟩)
                · exact .inr (.inl ⟨by simpa using h1,by simpa using h2⟩)
              · exact .inl (by simpa using h1)
            have HX:Hid (x≠0∨z≠0∨y≠0):=hide (by omega)
            clear hx
            obtain ⟨i0,hi0,hz0,hz1,hz2⟩:=info_parts infoStock
            rcases hxy with h1 | ⟨h1,h2⟩ | ⟨h1,h2,h3⟩
            all_goals
              go_wp2_with (at_builtin;refine wpList_append_lies _ rfl _ _ _ rfl (A+1) 63 i0 _ 5 40 Tryz.underlying61 hi0 hz0 hz1 hz2 rfl (by omega) _ gs.length (skCells gs) rfl (by exact (hown.alloc _).alloc _) ⟨wc.heap.size+1,0,none⟩ 1 1 (Sk.cells ⟨j,k,x,z,y⟩) rfl rfl (by exact news_of_last' #[_,_,_,_,_] 63 (by simp)) (Sk.oneCell' _) (by omega) (by simp only [maxLen];omega) (by omega) (by simp;omega) (wc.heap.size+2) (by simp) ?_)
              intro gg cap w1 hown1 hgrow hat hlt1
              have k1:Kep (fun b=>(Value.slice va gs.length vc).ownBlock=some b) wc w1:=((((Kep.refl _ _).alloc _).alloc _)).grown hgrow (fun b hb=>.inl hb)
              have n1:¬ (Value.slice va gs.length vc).ownBlock=some A:=fun hb=>by have:=(hown.lt _ hb).1;omega
              have z6:=(HV.out.kep k1 n1).cell
              have z7:=(HV.out.kep k1 n1).free
              clear k1 n1
              go_wp2
              refine ⟨⟨k+1,by omega,by go_num,?_⟩,by simp [intOf];omega⟩
              rw [HS.out,← List.append_assoc,HG.out,HK.out,if_pos HX.out]
              exact (HAc.out.later ((Kep.refl _ _).alloc _)).more (HV.out.kep ((Kep.refl non _).alloc _) (fun q=>q)) (hown.alloc _) hgrow ⟨j,k,x,z,y⟩ hown1
        · have e1:k=m.G:=by omega
          subst e1
          go_wp2
          refine ⟨⟨j+1,by omega,by go_num,?_⟩,by simp [intOf];omega⟩
          exact A1
    · have e1:j=m.H:=by omega
      subst e1
      have HA:=hide A1
      obtain ⟨va,vc,hv,hown⟩:=A1.v
      have x0:=A1.a0.cell
      have x1:=A1.a1.cell
      have x2:=hv.cell
      obtain ⟨y0,g0⟩:=A1.r0
      obtain ⟨y1,g1⟩:=A1.r1
      obtain ⟨y2,g2⟩:=A1.r2
      have lA:=A1.lA
      clear A1 hv Rr
      go_wp2
      have T:=three_set HA.out.r0 HA.out.r1 HA.out.r2 (.int .i64 X) (.int .i64 Y) (.slice va (rstkTo m t m.H).length vc)
      refine bodyPost_ret (v:=.tuple #[.agg #[.int .i64 X,.int .i64 Y,.slice va (rstkTo m t m.H).length vc],.int .i64 0]) (by simp [results,Tryz.results24,go_sem,T.1,T.2.1,T.2.2]) rfl ⟨_,by rw [HY0.out,HX0.out],?_,?_⟩
      · exact ((HA.out.kp.setCell (p:=⟨w.heap.size,0,none⟩) (.inr (by simp)) _).setCell (p:=⟨w.heap.size,1,none⟩) (.inr (by simp)) _).setCell (p:=⟨w.heap.size,2,none⟩) (.inr (by simp)) _
      · refine ownsRow_setCell_other (ownsRow_setCell_other (ownsRow_setCell_other (ownsRow_mono hown (by omega)) ?_ _) ?_ _) ?_ _
        all_goals exact fun q=>by have:A+1≤w.heap.size:=(hown.lt _ q).1;omega
end

section
open Go.RowKit Go.Sort

theorem infoInt:(Tryz.prog.info? 3).map (fun i=>(i.zero,i.size,i.bytes))=some (some (.int .i64 0),1,8):=by kernel_rfl
theorem infoAccount:(Tryz.prog.info? 130).map (fun i=>(i.zero,i.size,i.bytes))=some (some (.agg #[.int .i64 0,.int .i64 0,.int .i64 0,.int .i64 0,.int .i64 0,.int .i64 0,.int .i64 0,.int .i64 0,.int .i64 0,.int .i64 0,.int .i64 0,.int .i64 0,.int .i64 0,.int .i64 0,.int .i64 0,.int .i64 0,.int .i64 0]),17,136):=by kernel_rfl
theorem infoBook:(Tryz.prog.info? 149).map (fun i=>(i.zero,i.size,i.bytes))=some (some (.agg #[.pointer none,.pointer none,.int .i64 0,.int .i64 0,.int .i64 0]),5,40):=by kernel_rfl
theorem infoBooks:(Tryz.prog.info? 159).map (fun i=>(i.zero,i.size,i.bytes))=some (some (.slice none 0 0),1,24):=by kernel_rfl

def IntsAt (w:World) (v:Value) (rs:List Int):Prop :=
  (v = .slice none 0 0∧rs=[])∨∃ b off cap,v = .slice (some ⟨b,off,none⟩) rs.length cap∧∀ i x,rs[i]? = some x→w.cell? ⟨b,off+i,none⟩=some (.int .i64 x)

theorem IntsAt.form {w:World} {v:Value} {rs:List Int} (h:IntsAt w v rs):∃ a c,v = .slice a rs.length c:=by
  rcases h with ⟨rfl,rfl⟩ | ⟨b,off,cap,rfl,_⟩
  · exact ⟨_,_,rfl⟩
  · exact ⟨_,_,rfl⟩

theorem IntsAt.kep {w w':World} {v:Value} {rs:List Int} (h:IntsAt w v rs) (k:Kep non w w'):IntsAt w' v rs:=by
  rcases h with h | ⟨b,off,cap,rfl,h⟩
  · exact .inl h
  · exact .inr ⟨b,off,cap,rfl,fun i x hx=>k.cell (h i x hx) (fun q=>q)⟩

def rateOk (r:Int):Bool:=decide (0≤r) && decide (r≤100)
def fitB (rs:List Int):Bool:=decide (1≤rs.length) && decide (rs.length≤4) && rs.all rateOk
def sizeOk (t g:Int) (rs:List Int):Bool:=inR t 1 8 && inR g 1 4 && fitB rs

theorem all_snoc (rs:List Int) (j:Nat) (hlt:j<rs.length):(rs.take (j+1)).all rateOk=((rs.take j).all rateOk && rateOk rs[j]):=by
  rw [List.take_succ_eq_append_getElem hlt,List.all_append]
  simp only [List.all_cons,List.all_nil,Bool.and_true]
theorem all_split (rs:List Int) (j:Nat) (hj:j<rs.length) (h:rateOk rs[j]=false):rs.all rateOk=false:=by
  rw [List.all_eq_false]
  exact ⟨rs[j],by simp,by simp [h]⟩

set_option maxRecDepth 100000 in
set_option maxHeartbeats 1000000 in
theorem ratesFit_any (w:World) (v:Value) (rs:List Int) (hr:IntsAt w v rs) (hl:rs.length≤1048576) :
    Calls Tryz.prog 79 #[v] w fun e w'=>e = .returned (.bool (fitB rs))∧w'=w:=by
  obtain ⟨a,c,rfl⟩:=hr.form
  have HR:=hide hr
  clear hr
  by_cases hn:1≤(rs.length:Int)∧(rs.length:Int)≤4
  · have HB:Hid (fitB rs=rs.all rateOk):=hide (by simp only [fitB];rw [decide_eq_true (by omega),decide_eq_true (by omega)];simp)
    go_enter Tryz.func79,Tryz.ntmps79
    go_wp2_with (go_at_call 78;refine (within_yes _ _ _ _ hn).mono ?_;rintro e w' ⟨rfl,rfl⟩)
    go_loop [11] (fun i=>∃ j:Nat,j≤rs.length∧i = .int .i64 j∧(rs.take j).all rateOk=true) (fun i=>rs.length - (intOf i).toNat)
    case atStart=>exact ⟨0,Nat.zero_le _,rfl,by simp⟩
    case round =>
      obtain ⟨j,hj,rfl,hal⟩:=hrel
      have HAL:=hide hal
      clear hal
      by_cases hlt:j<rs.length
      · have HA:=hide (all_snoc rs j hlt)
        have HX:=hide (all_split rs j hlt)
        rcases HR.out with ⟨_,h⟩ | ⟨rb,off,cap,h,hc⟩
        · subst h;simp at hlt
        · simp only [Value.slice.injEq,true_and] at h
          obtain ⟨rfl,rfl⟩:=h
          have q:=hc j rs[j] (by simp)
          have hq:Hid (rateOk rs[j]=(decide (0≤rs[j]) && decide (rs[j]≤100))):=hide rfl
          clear hc
          generalize rs[j]=x at *
          by_cases hx:0≤x∧x≤100
          · go_wp2_with (go_at_call 78;refine (within_yes _ _ _ _ hx).mono ?_;rintro e w' ⟨rfl,rfl⟩)
            go_round
            case rel=>exact ⟨j+1,by omega,by go_num,by rw [HA.out,HAL.out,hq.out];simp [hx]⟩
            case measure=>simp [intOf];omega
          · go_wp2_with (go_at_call 78;refine (within_no _ _ _ _ hx).mono ?_;rintro e w' ⟨rfl,rfl⟩)
            go_ret
            refine ⟨?_,rfl⟩
            rw [HB.out,HX.out (by rw [hq.out];simp;omega)]
            rfl
      · have e1:j=rs.length:=by omega
        subst e1
        go_wp2
        go_ret
        refine ⟨?_,rfl⟩
        have:=HAL.out
        rw [List.take_of_length_le (Nat.le_refl _)] at this
        rw [HB.out,this]
        rfl
  · have HB:Hid (fitB rs=false):=hide (by simp only [fitB,Bool.and_eq_false_iff,decide_eq_false_iff_not];left;omega)
    go_enter Tryz.func79,Tryz.ntmps79
    go_wp2_with (go_at_call 78;refine (within_no _ _ _ _ hn).mono ?_;rintro e w' ⟨rfl,rfl⟩)
    go_ret
    exact ⟨by rw [HB.out];rfl,rfl⟩

theorem ints_news {w:World} {rb off:Nat} {rs:List Int} (h:∀ i x,rs[i]? = some x→w.cell? ⟨rb,off+i,none⟩=some (.int .i64 x)) (o:Obj) :
    ∀ j u,(rs.map (Value.int .i64))[j]? = some u→(w.alloc o).cell? ((⟨rb,off,none⟩ : Addr).add j)=some u:=by
  intro j u hu
  simp only [List.getElem?_map,Option.map_eq_some_iff] at hu
  obtain ⟨x,hx,rfl⟩:=hu
  have hadd:(⟨rb,off,none⟩ : Addr).add j=⟨rb,off+j,none⟩:=by unfold Addr.add;split <;> simp_all
  rw [hadd]
  exact cell_later ((Below.refl _ w).alloc (Nat.le_refl _) o) (h j x hx)

theorem ints_one (rs:List Int):∀ u,u∈rs.map (Value.int .i64)→u.oneCell'=true:=by
  intro u hu
  obtain ⟨x,_,rfl⟩:=List.mem_map.1 hu
  rfl

set_option maxRecDepth 100000 in
set_option maxHeartbeats 400000 in
theorem clone_any (w:World) (rb off rc:Nat) (rs:List Int) (hc:∀ i x,rs[i]? = some x→w.cell? ⟨rb,off+i,none⟩=some (.int .i64 x)) (n1:1≤rs.length) (n4:rs.length≤4) :
    Calls Tryz.prog 80 #[.slice (some ⟨rb,off,none⟩) rs.length rc] w fun e w'=>∃ gg cap,e = .returned (.slice (some ⟨gg,0,none⟩) rs.length cap)∧w.heap.size≤gg∧gg<w'.heap.size∧Kep non w w'∧∀ i x,rs[i]? = some x→w'.cell? ⟨gg,i,none⟩=some (.int .i64 x):=by
  obtain ⟨i0,hi0,hz0,hz1,hz2⟩:=info_parts infoInt
  have HC:=hide hc
  clear hc
  have hnil:=fun (w:World) (a:Option Addr) (n c:Nat)=>Lib.run_eql_slice_nil (P:=Tryz.prog) w 38 3 a n c 0 0 Tryz.underlying38
  go_enter Tryz.func80,Tryz.ntmps80
  go_wp2_with (at_builtin;refine wpList_append_lies _ rfl _ _ _ rfl 0 3 i0 _ 1 8 Tryz.underlying38 hi0 hz0 hz1 hz2 rfl (by omega) _ 0 [] rfl (by exact World.ownsRow_lit w #[] 0 (Nat.zero_le _) (Nat.zero_le _) rfl) ⟨rb,off,none⟩ rs.length rc (rs.map (.int .i64)) rfl (by simp) (by exact ints_news HC.out _) (ints_one rs) (by omega) (by simp only [maxLen];omega) (by omega) (by simp) (w.heap.size+1) (by simp) ?_)
  intro gg cap w1 hown1 hgrow1 hat1 hlt1
  go_wp2
  go_ret
  refine ⟨gg,cap,by simp,?_,hlt1,?_,fun i x hx=>?_⟩
  · rcases hat1 with h | h
    · have:w.heap.size=gg:=by simpa [Value.ownBlock] using h
      omega
    · omega
  · exact (((Kep.refl _ _).alloc _)).grown hgrow1 (by intro k hk;right;have:w.heap.size=k:=(by simpa [Value.ownBlock] using hk);omega)
  · have hi:i<rs.length:=(List.getElem?_eq_some_iff.1 hx).1
    rw [hown1.cellAt i (by simp;omega)]
    simp [hx]

set_option maxHeartbeats 400000 in
theorem new_no (w:World) (t g:Int) (v:Value) (rs:List Int) (hr:IntsAt w v rs) (hl:rs.length≤1048576) (hn:sizeOk t g rs=false) :
    Calls Tryz.prog 27 #[.int .i64 t,.int .i64 g,v] w fun e w'=>e = .returned (.tuple #[.pointer none,.int .i64 1])∧w'=w:=by
  have HF:=hide (ratesFit_any w v rs hr hl)
  unfold sizeOk at hn
  cases h1:inR t 1 8
  · have i1:=hide h1
    clear hr hn h1
    go_enter Tryz.func27,Tryz.ntmps27
    go_wp2_with (first | (go_at_call 78;refine (within_b _ _ _ _).mono ?_;rw [i1.out];rintro e w' ⟨rfl,rfl⟩))
    go_ret2
    exact ⟨rfl,rfl⟩
  · have i1:=hide h1
    cases h2:inR g 1 4
    · have i2:=hide h2
      clear hr hn h1 h2
      go_enter Tryz.func27,Tryz.ntmps27
      go_wp2_with (first | (go_at_call 78;refine (within_b _ _ _ _).mono ?_;(first | rw [i1.out] | rw [i2.out]);rintro e w' ⟨rfl,rfl⟩))
      go_ret2
      exact ⟨rfl,rfl⟩
    · have i2:=hide h2
      have h3:fitB rs=false:=by rw [h1,h2] at hn;simpa using hn
      rw [h3] at HF
      clear hr hn h1 h2
      go_enter Tryz.func27,Tryz.ntmps27
      go_wp2_with (first | (go_at_call 78;refine (within_b _ _ _ _).mono ?_;(first | rw [i1.out] | rw [i2.out]);rintro e w' ⟨rfl,rfl⟩) | (go_at_call 79;refine HF.out.mono ?_;rintro e w' ⟨rfl,rfl⟩))
      go_ret2
      exact ⟨rfl,rfl⟩

theorem queueNew_any (w:World) (n:Nat) :
    Calls Tryz.prog 119 #[.func (.func n) #[] #[]] w fun e w'=>e = .returned (.pointer (some ⟨w.heap.size,0,none⟩))∧w'=w.alloc (.cells #[.func (.func n) #[] #[],.slice none 0 0] 156):=by
  go_enter Tryz.func119,Tryz.ntmps119
  go_wp2
  go_ret
  exact ⟨rfl,rfl⟩
end

end Go.Proofs.YtcfoobhihhndjaaGreat
