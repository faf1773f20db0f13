
import Derived.Test.YtcfoobhihhndjaaGreatB31
import Derived.Test.YtcfoobhihhndjaaGreatB41
import Derived.Test.YtcfoobhihhndjaaGreatB45
namespace Go.Proofs.YtcfoobhihhndjaaGreat

section
open Go.RowKit Go.Sort
attribute [local go_sem] fl_store

def rbookE (r:Rm) (h g:Int):Int:=if okI r.H h then if okI r.G g then 0 else 4 else 3

set_option maxRecDepth 100000 in
set_option maxHeartbeats 1000000 in
theorem rstat_no (w:World) (L:RL) (r:Rm) (h g:Int) (R:RRep w L r) (hE:rbookE r h g≠0) :
    Calls Tryz.prog 60 #[.pointer (some ⟨L.c,0,none⟩),.int .i64 h,.int .i64 g] w fun e w'=>e = .returned (.tuple #[statV 0 0 0,.int .i64 (rbookE r h g)])∧Kep non w w':=by
  have K0:Kep non w (w.alloc (.cells #[.int .i64 0,.int .i64 0,.float .f64 0] 114)):=(Kep.refl _ _).alloc _
  have HH:=hide (hall_b L.c r.H (some ⟨L.rb,0,none⟩) L.rcap h _ (R.later K0).c.cR.cell)
  have HG:=hide (good_b L.c r.G g _ (R.later K0).c.cG.cell)
  have HZ:Hid (meanF 0 0=0):=hide (by unfold meanF;rw [if_neg (by omega)])
  clear R K0
  by_cases h1:okI r.H h
  · have f1:inB r.H h=true:=by simpa [inB] using h1
    have h2:¬ okI r.G g:=fun f=>hE (by unfold rbookE;rw [if_pos h1,if_pos f])
    have f2:inB r.G g=false:=by simpa [inB] using h2
    have HE:Hid (rbookE r h g=4):=hide (by unfold rbookE;rw [if_pos h1,if_neg h2])
    rw [f1] at HH
    rw [f2] at HG
    clear hE h1 h2 f1 f2
    go_enter Tryz.func60,Tryz.ntmps60
    go_wp2_with (first | (go_at_call 91;refine HH.out.mono ?_;rintro e w1 ⟨rfl,rfl⟩) | (go_at_call 104;refine HG.out.mono ?_;rintro e w1 ⟨rfl,rfl⟩))
    exact bodyPost_ret (v:=.tuple #[.agg #[.int .i64 0,.int .i64 0,.float .f64 0],.int .i64 4]) (by simp [results,Tryz.results60,go_sem]) rfl ⟨by unfold statV;rw [HZ.out,HE.out],(Kep.refl _ _).alloc _⟩
  · have f1:inB r.H h=false:=by simpa [inB] using h1
    have HE:Hid (rbookE r h g=3):=hide (by unfold rbookE;rw [if_neg h1])
    rw [f1] at HH
    clear hE h1 f1
    go_enter Tryz.func60,Tryz.ntmps60
    go_wp2_with (first | (go_at_call 91;refine HH.out.mono ?_;rintro e w1 ⟨rfl,rfl⟩) | (go_at_call 104;refine HG.out.mono ?_;rintro e w1 ⟨rfl,rfl⟩))
    exact bodyPost_ret (v:=.tuple #[.agg #[.int .i64 0,.int .i64 0,.float .f64 0],.int .i64 3]) (by simp [results,Tryz.results60,go_sem]) rfl ⟨by unfold statV;rw [HZ.out,HE.out],(Kep.refl _ _).alloc _⟩

set_option maxRecDepth 100000 in
set_option maxHeartbeats 1000000 in
theorem rstat_yes (w:World) (L:RL) (r:Rm) (K:Int) (h g:Nat) (R:RRep w L r) (ok:r.Ok K) (hh:h<r.H) (hg:g<r.G) (am1:r.am h g≤1000000000000000000) :
    Calls Tryz.prog 60 #[.pointer (some ⟨L.c,0,none⟩),.int .i64 h,.int .i64 g] w fun e w'=>e = .returned (.tuple #[statV (r.la h g) (r.pi h g) (r.am h g),.int .i64 0])∧Kep non w w':=by
  have f1:inB r.H (h:Int)=true:=by simp only [inB,okI,decide_eq_true_eq];omega
  have f2:inB r.G (g:Int)=true:=by simp only [inB,okI,decide_eq_true_eq];omega
  obtain ⟨p,hp⟩ : ∃ p:Nat,h * r.G+g=p:=⟨_,rfl⟩
  have bH:=ok.H4
  have bG:=ok.G4
  have hpl:p<r.G * r.H:=by
    have:h * r.G+g<r.H * r.G:=calc h * r.G+g<h * r.G+r.G:=by omega
      _=(h+1) * r.G:=by rw [Nat.add_mul,Nat.one_mul]
      _≤r.H * r.G:=Nat.mul_le_mul_right _ (by omega)
    rw [Nat.mul_comm r.G]
    omega
  have HP:=hide (fun W (k:Kep non w W)=>show Calls Tryz.prog 109 #[.pointer (some ⟨L.c,0,none⟩),.int .i64 h,.int .i64 g] W fun e w'=>e = .returned (.int .i64 p)∧w'=W from by
    have:=rplace_any L.c r.G h g W (R.later k).c.cG.cell (by omega) (by omega) (by omega) (by omega) (by omega) (by omega)
    rwa [show ((h:Int) * (r.G:Int)+(g:Int))=((p:Nat):Int) by rw [← hp];simp] at this)
  have HW:Hid (∀ W,Kep non w W→W.cell? ⟨L.c,7,none⟩=some (.slice (some ⟨L.lab,0,none⟩) (r.G * r.H) (r.G * r.H))∧W.cell? ⟨L.c,8,none⟩=some (.slice (some ⟨L.pib,0,none⟩) (r.G * r.H) (r.G * r.H))∧W.cell? ⟨L.c,9,none⟩=some (.slice (some ⟨L.amb,0,none⟩) (r.G * r.H) (r.G * r.H))∧W.cell? ⟨L.lab,p,none⟩=some (.int .i64 (r.la h g))∧W.cell? ⟨L.pib,p,none⟩=some (.int .i64 (r.pi h g))∧W.cell? ⟨L.amb,p,none⟩=some (.int .i64 (r.am h g))):=hide fun W k=>by
    have Q:=R.later k
    refine ⟨Q.c.cLa.cell,Q.c.cPi.cell,Q.c.cAm.cell,?_,?_,?_⟩
    · rw [← hp];exact (Q.la h g hh hg).cell
    · rw [← hp];exact (Q.pi h g hh hg).cell
    · rw [← hp];exact (Q.am h g hh hg).cell
  have HH:=hide (fun W (k:Kep non w W)=>hall_b L.c r.H (some ⟨L.rb,0,none⟩) L.rcap h W (R.later k).c.cR.cell)
  have HG:=hide (fun W (k:Kep non w W)=>good_b L.c r.G g W (R.later k).c.cG.cell)
  rw [f1] at HH
  rw [f2] at HG
  have hpl':(p:Int)<(r.G * r.H:Nat):=by omega
  obtain ⟨p0,_⟩:=ok.pi h g hh hg
  obtain ⟨a0,_⟩:=ok.am h g hh hg
  have hpb:r.pi h g≤1000000000000000000:=by have:=(ok.pi h g hh hg).2;have:=ok.K1;omega
  have HMF:=hide (fun (q:0<r.pi h g)=>meanF_pos a0 am1 q hpb)
  have HMZ:=hide (fun (q:¬ 0<r.pi h g)=>show meanF (r.am h g) (r.pi h g)=0 by unfold meanF;rw [if_neg q])
  clear R ok hp f1 f2 hpl am1 hpb
  generalize r.G * r.H=GH at *
  generalize r.la h g=la at *
  generalize r.pi h g=pi at *
  generalize r.am h g=am at *
  obtain ⟨W0,hW0⟩ : ∃ W0,W0=w.alloc (.cells #[.int .i64 0,.int .i64 0,.float .f64 0] 114):=⟨_,rfl⟩
  have K0:Kep non w W0:=by rw [hW0];exact (Kep.refl _ _).alloc _
  have hb:W0.heap[w.heap.size]? = some (.cells #[.int .i64 0,.int .i64 0,.float .f64 0] 114):=by rw [hW0];exact heap_alloc_new w _
  have HW0:=hide hW0
  have HK0:=hide K0
  have HHB:=hide hb
  have hz1:w.heap.size<W0.heap.size:=(Array.getElem?_eq_some_iff.1 hb).1
  clear hW0 K0 hb
  go_enter Tryz.func60,Tryz.ntmps60
  go_upto_region 1 with fail
  rw [← HW0.out]
  generalize hA:w.heap.size=A at *
  have HAA:=hide hA
  clear hA
  go_upto_region 8 with (first | (go_at_call 91;refine (HH.out _ HK0.out).mono ?_;rintro e w1 ⟨rfl,rfl⟩) | (go_at_call 104;refine (HG.out _ HK0.out).mono ?_;rintro e w1 ⟨rfl,rfl⟩) | (go_at_call 109;refine (HP.out _ HK0.out).mono ?_;rintro e w1 ⟨rfl,rfl⟩))
  have hz0:w.heap.size≤w1.heap.size:=HK0.out.size
  obtain ⟨v7,v8,_,vl,vp,_⟩:=HW.out w1 HK0.out
  have HW2:Hid (∀ W,Kep non w W→W.cell? ⟨L.c,7,none⟩=some (.slice (some ⟨L.lab,0,none⟩) GH GH)∧W.cell? ⟨L.c,8,none⟩=some (.slice (some ⟨L.pib,0,none⟩) GH GH)∧W.cell? ⟨L.lab,p,none⟩=some (.int .i64 la)∧W.cell? ⟨L.pib,p,none⟩=some (.int .i64 pi)):=hide fun W k=>by
    have hq:=HW.out W k
    exact ⟨hq.1,hq.2.1,hq.2.2.2.1,hq.2.2.2.2.1⟩
  go_cut [11] (fun v11 wx=>∃ S:Nat,v11 = .pointer (some ⟨S,0,none⟩)∧w1.heap.size≤S∧wx.heap[S]? = some (.cells #[.int .i64 la,.int .i64 pi,.float .f64 0] 114)∧Kep non w1 wx)
  case first =>
    go_region_held3 (fun w'=>w'.cell? ⟨L.c,7,none⟩=some (.slice (some ⟨L.lab,0,none⟩) GH GH)∧w'.cell? ⟨L.c,8,none⟩=some (.slice (some ⟨L.pib,0,none⟩) GH GH)∧w'.cell? ⟨L.lab,p,none⟩=some (.int .i64 la)∧w'.cell? ⟨L.pib,p,none⟩=some (.int .i64 pi))
      ((refine HW2.out _ ?_;(repeat (first | apply Kep.drew | apply Kep.alloc | (refine Kep.setCell ?_ (.inr (by simp only [];omega)) _)));first | exact HK0.out | assumption))
      (fail)
    go_step
    go_step
    go_meet
    exact ⟨w1.heap.size,rfl,Nat.le_refl _,heap_alloc_new w1 _,((Kep.refl _ _).alloc _).drew⟩
  case rest =>
    obtain ⟨S,rfl,hS,hb,kw⟩:=hcut
    have KW:=hide (HK0.out.trans kw)
    have hz2:w1.heap.size≤wc.heap.size:=kw.size
    have hbA:wc.heap[A]? = _:=(kw.block A hz1 (fun q=>q)).trans HHB.out
    have x0:wc.cell? ⟨A,0,none⟩=some (.int .i64 0):=cell_of_row _ _ 0 _ _ _ hbA
    have x1:wc.cell? ⟨A,1,none⟩=some (.int .i64 0):=cell_of_row _ _ 1 _ _ _ hbA
    have x2:wc.cell? ⟨A,2,none⟩=some (.float .f64 0):=cell_of_row _ _ 2 _ _ _ hbA
    have z0:wc.frozen? ⟨A,0,none⟩=false:=frozen_of_row _ _ 0 _ _ hbA
    have z1:wc.frozen? ⟨A,1,none⟩=false:=frozen_of_row _ _ 1 _ _ hbA
    have z2:wc.frozen? ⟨A,2,none⟩=false:=frozen_of_row _ _ 2 _ _ hbA
    have s0:wc.cell? ⟨S,0,none⟩=some (.int .i64 la):=cell_of_row _ _ 0 _ _ _ hb
    have s1:wc.cell? ⟨S,1,none⟩=some (.int .i64 pi):=cell_of_row _ _ 1 _ _ _ hb
    have s2:wc.cell? ⟨S,2,none⟩=some (.float .f64 0):=cell_of_row _ _ 2 _ _ _ hb
    have y2:wc.frozen? ⟨S,2,none⟩=false:=frozen_of_row _ _ 2 _ _ hb
    have nAS:¬ A=S:=by omega
    have nSA:¬ S=A:=by omega
    have hSw:w.heap.size≤S:=by omega
    have HBA:=hide hbA
    have HBS:=hide hb
    clear hb hbA v7 v8 vl vp HHB HW0 HW2
    have HE:Hid (∀ W,Kep (fun b=>b=S) wc W→W.cell? ⟨S,0,none⟩=some (.int .i64 la)→W.cell? ⟨S,1,none⟩=some (.int .i64 pi)→W.cell? ⟨S,2,none⟩=some (.float .f64 (meanF am pi))→(W.cell? ⟨A,0,none⟩=some (.int .i64 0)∧W.frozen? ⟨A,0,none⟩=false)∧(W.cell? ⟨A,1,none⟩=some (.int .i64 0)∧W.frozen? ⟨A,1,none⟩=false)∧(W.cell? ⟨A,2,none⟩=some (.float .f64 0)∧W.frozen? ⟨A,2,none⟩=false)∧Kep non w W):=hide fun W k _ _ _=>by
      have hq:W.heap[A]? = some (.cells #[.int .i64 0,.int .i64 0,.float .f64 0] 114):=(k.block A (by omega) nAS).trans HBA.out
      refine ⟨⟨cell_of_row _ _ 0 _ _ _ hq,frozen_of_row _ _ 0 _ _ hq⟩,⟨cell_of_row _ _ 1 _ _ _ hq,frozen_of_row _ _ 1 _ _ hq⟩,⟨cell_of_row _ _ 2 _ _ _ hq,frozen_of_row _ _ 2 _ _ hq⟩,?_⟩
      exact ⟨k.os.trans KW.out.os,k.tape.trans KW.out.tape,k.output.trans KW.out.output,Nat.le_trans KW.out.size k.size,fun b hb hn=>(k.block b (Nat.lt_of_lt_of_le hb KW.out.size) (fun e=>by omega)).trans (KW.out.block b hb hn)⟩
    clear HBA
    by_cases hp:0<pi
    · have hop:∀ t w,(binOp .quo t (.float .f64 (floatOfInt .f64 am)) (.float .f64 (floatOfInt .f64 pi))).run Tryz.prog w = .ok (.float .f64 (meanF am pi)) w:=fun t w=>run_float_arith w .quo t .f64 _ _ _ (HMF.out hp)
      obtain ⟨_,_,v9,_,_,va⟩:=HW.out wc KW.out
      have HW3:Hid (∀ W,Kep non w W→W.cell? ⟨S,1,none⟩=some (.int .i64 pi)→W.cell? ⟨L.c,9,none⟩=some (.slice (some ⟨L.amb,0,none⟩) GH GH)∧W.cell? ⟨L.amb,p,none⟩=some (.int .i64 am)∧W.cell? ⟨S,1,none⟩=some (.int .i64 pi)):=hide fun W k hs=>by
        have hq:=HW.out W k
        exact ⟨hq.2.2.1,hq.2.2.2.2.2,hs⟩
      go_upto_region 10 with fail
      go_cut [] (fun wx=>(wx.cell? ⟨S,0,none⟩=some (.int .i64 la)∧wx.cell? ⟨S,1,none⟩=some (.int .i64 pi)∧wx.cell? ⟨S,2,none⟩=some (.float .f64 (meanF am pi)))∧Kep (fun b=>b=S) wc wx)
      case first =>
        go_region_held3 (fun w'=>w'.cell? ⟨L.c,9,none⟩=some (.slice (some ⟨L.amb,0,none⟩) GH GH)∧w'.cell? ⟨L.amb,p,none⟩=some (.int .i64 am)∧w'.cell? ⟨S,1,none⟩=some (.int .i64 pi))
          ((refine HW3.out _ ?_ ?_;((repeat (first | apply Kep.drew | apply Kep.alloc | (refine Kep.setCell ?_ (.inr hSw) _)));first | exact KW.out | assumption);(first | exact s1 | (refine (World.cell?_setCell_other _ _ _ _ ?_).trans s1;simp))))
          (simp only [hop])
        go_step
        go_step
        go_meet
        exact ⟨⟨(World.cell?_setCell_other _ _ _ _ (by simp)).trans s0,(World.cell?_setCell_other _ _ _ _ (by simp)).trans s1,World.cell?_setCell_same _ _ _ s2⟩,((Kep.refl (fun b=>b=S) wc).setCell (p:=⟨S,2,none⟩) (.inl rfl) _).drew⟩
      case rest =>
        obtain ⟨⟨t0,t1,t2⟩,kx⟩:=hcut
        obtain ⟨⟨e0,e1⟩,⟨e2,e3⟩,⟨e4,e5⟩,kz⟩:=HE.out _ kx t0 t1 t2
        have HKZ:=hide kz
        have HT:=hide (three_set (b:=A) ⟨e0,e1⟩ ⟨e2,e3⟩ ⟨e4,e5⟩ (.int .i64 la) (.int .i64 pi) (.float .f64 (meanF am pi)))
        clear kx kz s0 s1 s2 y2 x0 x1 x2 z0 z1 z2 v9 va
        go_wp2
        have T:=HT.out
        exact bodyPost_ret (v:=.tuple #[.agg #[.int .i64 la,.int .i64 pi,.float .f64 (meanF am pi)],.int .i64 0]) (by simp [results,Tryz.results60,go_sem,T.1,T.2.1,T.2.2]) rfl ⟨rfl,((HKZ.out.setCell (p:=⟨A,0,none⟩) (.inr (Nat.le_of_eq HAA.out)) _).setCell (p:=⟨A,1,none⟩) (.inr (Nat.le_of_eq HAA.out)) _).setCell (p:=⟨A,2,none⟩) (.inr (Nat.le_of_eq HAA.out)) _⟩
    · have HM:=hide (HMZ.out (by omega))
      have HT:=hide (three_set (b:=A) ⟨x0,z0⟩ ⟨x1,z1⟩ ⟨x2,z2⟩ (.int .i64 la) (.int .i64 pi) (.float .f64 0))
      go_wp2
      have T:=HT.out
      exact bodyPost_ret (v:=.tuple #[.agg #[.int .i64 la,.int .i64 pi,.float .f64 0],.int .i64 0]) (by simp [results,Tryz.results60,go_sem,T.1,T.2.1,T.2.2]) rfl ⟨by unfold statV;rw [HM.out],((KW.out.setCell (p:=⟨A,0,none⟩) (.inr (Nat.le_of_eq HAA.out)) _).setCell (p:=⟨A,1,none⟩) (.inr (Nat.le_of_eq HAA.out)) _).setCell (p:=⟨A,2,none⟩) (.inr (Nat.le_of_eq HAA.out)) _⟩
end

section
open Go.RowKit
attribute [local go_sem] fl_store

set_option maxRecDepth 100000 in
set_option maxHeartbeats 2000000 in
theorem wait_10 (w:World) (p lx rx:Nat) (Q:World→Prop) (o:OpV) (ra:Option Addr) (rn rc:Nat) (hrv:o.rv = .slice ra rn rc) (hk:o.kd=10)
    (HB:Hid (∀ W,Kep non w W→Calls Tryz.prog 53 #[.pointer (some ⟨lx,0,none⟩),.int .i64 o.A,.int .i64 o.B] W fun e w1=>∃ v v2 c,e = .returned (.tuple #[v,v2,.int .i64 c])∧Kep non W w1∧Calls Tryz.prog 54 #[.pointer (some ⟨rx,0,none⟩),.int .i64 o.A,.int .i64 o.B] w1 fun e w2=>∃ u u2,e = .returned (.tuple #[u,u2,.int .i64 c]) ∧
      Calls Tryz.prog 55 #[.pointer (some ⟨p,0,none⟩),v,u] w2 fun e w3=>e = .returned (.bool true)∧Calls Tryz.prog 55 #[.pointer (some ⟨p,0,none⟩),v2,u2] w3 fun e w4=>e = .returned (.bool true)∧Q w4)) :
    Calls Tryz.prog 17 #[.pointer (some ⟨p,0,none⟩),.agg #[.pointer (some ⟨lx,0,none⟩),.pointer (some ⟨rx,0,none⟩)],.agg o.cells] w fun e w'=>e = .returned (.bool true)∧Q w':=by
  obtain ⟨kd,M,A,B,C,D,E,rv,o0,o1,o2,o3,o4,o5,o6,o7⟩:=o
  simp only [] at hk hrv HB
  subst hk
  subst hrv
  simp only [OpV.cells]
  go_enter Tryz.func17,Tryz.ntmps17
  go_wp2_with fail
  refine (HB.out _ (((Kep.refl _ _).alloc _).alloc _)).mono ?_
  rintro e w1 ⟨v,v2,c,rfl,k1,HC0⟩
  have HC:=hide HC0
  have bx:=boxes k1 (fun b q=>q.elim)
  have p1:w1.cell? ⟨w.heap.size,1,none⟩=some (.pointer (some ⟨rx,0,none⟩)):=bx.1 1
  have q2:w1.cell? ⟨w.heap.size+1,2,none⟩=some (.int .i64 A):=bx.2 2
  have q3:w1.cell? ⟨w.heap.size+1,3,none⟩=some (.int .i64 B):=bx.2 3
  clear bx k1 HB HC0
  go_wp2_with fail
  refine HC.out.mono ?_
  rintro e w2 ⟨u,u2,rfl,HD0⟩
  have HD:=hide HD0
  clear HD0 HC p1 q2 q3
  go_wp2_with fail
  refine HD.out.mono ?_
  rintro e w3 ⟨rfl,HE0⟩
  have HE:=hide HE0
  clear HE0 HD
  go_wp2_with fail
  refine HE.out.mono ?_
  rintro e w4 ⟨rfl,hQ⟩
  go_wp2
  go_ret
  exact ⟨by simp,hQ⟩

set_option maxRecDepth 100000 in
set_option maxHeartbeats 2000000 in
theorem wait_12 (w:World) (p lx rx:Nat) (Q:World→Prop) (o:OpV) (ra:Option Addr) (rn rc:Nat) (hrv:o.rv = .slice ra rn rc) (hk:o.kd=12) (a b:Int) (f:Nat) (c n:Int) (hf:(FloatKind.f64.format.order f f == some .eq)=true) (HQ:Hid (∀ W,Kep non w W→Q W))
    (H1:Hid (∀ W,Kep non w W→Calls Tryz.prog 59 #[.pointer (some ⟨lx,0,none⟩),.int .i64 o.A,.int .i64 o.B] W fun e w1=>e = .returned (.tuple #[.agg #[.int .i64 a,.int .i64 b,.float .f64 f],.int .i64 c])∧Kep non W w1))
    (H2:Hid (∀ W,Kep non w W→Calls Tryz.prog 60 #[.pointer (some ⟨rx,0,none⟩),.int .i64 o.A,.int .i64 o.B] W fun e w1=>e = .returned (.tuple #[.agg #[.int .i64 a,.int .i64 b,.float .f64 f],.int .i64 c])∧Kep non W w1))
    (H3:Hid (∀ W,Kep non w W→Calls Tryz.prog 61 #[.pointer (some ⟨lx,0,none⟩)] W fun e w1=>e = .returned (.int .i64 n)∧w1=W))
    (H4:Hid (∀ W,Kep non w W→Calls Tryz.prog 62 #[.pointer (some ⟨rx,0,none⟩)] W fun e w1=>e = .returned (.int .i64 n)∧w1=W)) :
    Calls Tryz.prog 17 #[.pointer (some ⟨p,0,none⟩),.agg #[.pointer (some ⟨lx,0,none⟩),.pointer (some ⟨rx,0,none⟩)],.agg o.cells] w fun e w'=>e = .returned (.bool true)∧Q w':=by
  obtain ⟨kd,M,A,B,C,D,E,rv,o0,o1,o2,o3,o4,o5,o6,o7⟩:=o
  simp only [] at hk hrv H1 H2
  subst hk
  subst hrv
  simp only [OpV.cells]
  go_enter Tryz.func17,Tryz.ntmps17
  go_wp2_with fail
  refine (H1.out _ (((Kep.refl _ _).alloc _).alloc _)).mono ?_
  rintro e w1 ⟨rfl,k1⟩
  have bx:=boxes k1 (fun b q=>q.elim)
  have p0:w1.cell? ⟨w.heap.size,0,none⟩=some (.pointer (some ⟨lx,0,none⟩)):=bx.1 0
  have p1:w1.cell? ⟨w.heap.size,1,none⟩=some (.pointer (some ⟨rx,0,none⟩)):=bx.1 1
  have q2:w1.cell? ⟨w.heap.size+1,2,none⟩=some (.int .i64 A):=bx.2 2
  have q3:w1.cell? ⟨w.heap.size+1,3,none⟩=some (.int .i64 B):=bx.2 3
  have KA:Hid (Kep non w w1):=hide ((((Kep.refl _ _).alloc _).alloc _).trans k1)
  clear bx k1 H1
  generalize w.heap.size=zb at *
  have hb:Hid (∀ W,Kep non (w1.alloc (.cells #[.int .i64 a,.int .i64 b,.float .f64 f] 114)) W→(W.cell? ⟨w1.heap.size,0,none⟩=some (.int .i64 a)∧W.cell? ⟨w1.heap.size,1,none⟩=some (.int .i64 b)∧W.cell? ⟨w1.heap.size,2,none⟩=some (.float .f64 f))∧W.cell? ⟨zb,0,none⟩=some (.pointer (some ⟨lx,0,none⟩))∧W.cell? ⟨zb,1,none⟩=some (.pointer (some ⟨rx,0,none⟩))∧W.cell? ⟨zb+1,2,none⟩=some (.int .i64 A)∧W.cell? ⟨zb+1,3,none⟩=some (.int .i64 B)∧Kep non w W):=hide fun W k=>by
    have h0:=(k.block w1.heap.size (by simp) (fun q=>q)).trans (heap_alloc_new w1 (.cells #[.int .i64 a,.int .i64 b,.float .f64 f] 114))
    have k':Kep non w1 W:=((Kep.refl _ _).alloc _).trans k
    exact ⟨⟨cell_of_row _ _ 0 _ _ _ h0,cell_of_row _ _ 1 _ _ _ h0,cell_of_row _ _ 2 _ _ _ h0⟩,k'.cell p0 (fun q=>q),k'.cell p1 (fun q=>q),k'.cell q2 (fun q=>q),k'.cell q3 (fun q=>q),KA.out.trans k'⟩
  clear p0
  obtain ⟨⟨a0,a1,a2⟩,_,p1',q2',q3',K2⟩:=hb.out _ (Kep.refl _ _)
  clear p1 q2 q3
  go_wp2_with fail
  refine (H2.out _ K2).mono ?_
  rintro e w2 ⟨rfl,k2⟩
  clear H2 p1' q2' q3' a0 a1 a2 K2
  have hc:Hid (∀ W,Kep non (w2.alloc (.cells #[.int .i64 a,.int .i64 b,.float .f64 f] 114)) W→(W.cell? ⟨w2.heap.size,0,none⟩=some (.int .i64 a)∧W.cell? ⟨w2.heap.size,1,none⟩=some (.int .i64 b)∧W.cell? ⟨w2.heap.size,2,none⟩=some (.float .f64 f))∧(W.cell? ⟨w1.heap.size,0,none⟩=some (.int .i64 a)∧W.cell? ⟨w1.heap.size,1,none⟩=some (.int .i64 b)∧W.cell? ⟨w1.heap.size,2,none⟩=some (.float .f64 f))∧W.cell? ⟨zb,0,none⟩=some (.pointer (some ⟨lx,0,none⟩))∧W.cell? ⟨zb,1,none⟩=some (.pointer (some ⟨rx,0,none⟩))∧Kep non w W):=hide fun W k=>by
    have h0:=(k.block w2.heap.size (by simp) (fun q=>q)).trans (heap_alloc_new w2 (.cells #[.int .i64 a,.int .i64 b,.float .f64 f] 114))
    obtain ⟨x1,x2,x3,_,_,x6⟩:=hb.out W (k2.trans (((Kep.refl _ _).alloc _).trans k))
    exact ⟨⟨cell_of_row _ _ 0 _ _ _ h0,cell_of_row _ _ 1 _ _ _ h0,cell_of_row _ _ 2 _ _ _ h0⟩,x1,x2,x3,x6⟩
  obtain ⟨⟨c0,c1,c2⟩,⟨a0,a1,a2⟩,p0,p1,K3⟩:=hc.out _ (Kep.refl _ _)
  clear hb hc k2 KA
  have HQ2:=hide (HQ.out _ K3)
  have H3':=hide (H3.out _ K3)
  have H4':=hide (H4.out _ K3)
  clear HQ H3 H4 K3
  go_wp2_with fail
  refine H3'.out.mono ?_
  rintro e w3 ⟨rfl,rfl⟩
  go_wp2_with fail
  refine H4'.out.mono ?_
  rintro e w4 ⟨rfl,rfl⟩
  go_wp2
  go_ret
  exact ⟨by simp,HQ2.out⟩
end

section
open Go.RowKit

set_option maxRecDepth 100000 in
set_option maxHeartbeats 2000000 in
theorem wait_11 (w:World) (p lx rx:Nat) (Q:World→Prop) (o:OpV) (ra:Option Addr) (rn rc:Nat) (hrv:o.rv = .slice ra rn rc) (hk:o.kd=11)
    (HB:Hid (∀ W,Kep non w W→Calls Tryz.prog 56 #[.pointer (some ⟨lx,0,none⟩),.int .i64 o.A] W fun e w1=>∃ v c,e = .returned (.tuple #[v,.int .i64 c])∧Kep non W w1∧Calls Tryz.prog 57 #[.pointer (some ⟨rx,0,none⟩),.int .i64 o.A] w1 fun e w2=>∃ u ls,e = .returned (.tuple #[u,.int .i64 c]) ∧
      w2.ownsRow 0 40 8 v (List.length ls) (rdCells ls)∧w2.ownsRow 0 40 8 u (List.length ls) (rdCells ls)∧List.length ls≤60∧∀ W',Kep non w2 W'→Calls Tryz.prog 58 #[.pointer (some ⟨p,1,none⟩),v] W' fun e w3=>e = .returned (.tuple #[])∧Q w3)) :
    Calls Tryz.prog 17 #[.pointer (some ⟨p,0,none⟩),.agg #[.pointer (some ⟨lx,0,none⟩),.pointer (some ⟨rx,0,none⟩)],.agg o.cells] w fun e w'=>e = .returned (.bool true)∧Q w':=by
  obtain ⟨kd,M,A,B,C,D,E,rv,o0,o1,o2,o3,o4,o5,o6,o7⟩:=o
  simp only [] at hk hrv HB
  subst hk
  subst hrv
  simp only [OpV.cells]
  go_enter Tryz.func17,Tryz.ntmps17
  go_wp2_with fail
  refine (HB.out _ (((Kep.refl _ _).alloc _).alloc _)).mono ?_
  rintro e w1 ⟨v,c,rfl,k1,HC0⟩
  have HC:=hide HC0
  have bx:=boxes k1 (fun b q=>q.elim)
  have p1:w1.cell? ⟨w.heap.size,1,none⟩=some (.pointer (some ⟨rx,0,none⟩)):=bx.1 1
  have q2:w1.cell? ⟨w.heap.size+1,2,none⟩=some (.int .i64 A):=bx.2 2
  clear bx k1 HB HC0
  go_wp2_with fail
  refine HC.out.mono ?_
  rintro e w2 ⟨u,ls,rfl,r1,r2,l60,HD0⟩
  have HD:=hide HD0
  clear HD0 HC p1 q2
  obtain ⟨a1,c1,rfl⟩:=row_form r1
  obtain ⟨a2,c2,rfl⟩:=row_form r2
  have X1:=hide r1
  have X2:=hide r2
  clear r1 r2
  go_wp2
  go_loopw [19,20] (fun o i wr=>∃ k:Nat,k≤ls.length∧i = .int .i64 k∧o = .bool true∧∃ nd,wr=w2.drewN nd) (fun _ i _=>ls.length - (intOf i).toNat)
  case atStart=>exact ⟨0,by omega,rfl,by simp,0,rfl⟩
  case round =>
    obtain ⟨k,hk,rfl,rfl,nd,rfl⟩:=hrel
    by_cases hlt:k<ls.length
    · obtain ⟨g1,d1,e1,yc⟩:=ord_cells X1.out k hlt
      obtain ⟨g2,d2,e2,zc⟩:=ord_cells X2.out k hlt
      simp only [Value.slice.injEq,true_and] at e1 e2
      obtain ⟨rfl,rfl⟩:=e1
      obtain ⟨rfl,rfl⟩:=e2
      obtain ⟨y0,y1,y2,y3,y4,y5,y6,y7⟩:=ord_eight yc
      obtain ⟨z0,z1,z2,z3,z4,z5,z6,z7⟩:=ord_eight zc
      clear yc zc
      generalize ls[k]=l at *
      go_wp2
      go_quiet (fail)
      go_wp2
      exact ⟨⟨k+1,by omega,by go_num,rfl,_,rfl⟩,by simp [intOf];omega⟩
    · go_wp2_with (go_at_call 58;refine (HD.out _ ((Kep.refl _ _).drewN _)).mono ?_;rintro e w3 ⟨rfl,hsp⟩)
      go_ret
      exact ⟨rfl,hsp⟩
end

end Go.Proofs.YtcfoobhihhndjaaGreat
