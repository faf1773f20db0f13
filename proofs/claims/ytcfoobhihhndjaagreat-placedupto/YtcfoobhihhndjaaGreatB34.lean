
import Derived.Deep.RegionWith
import Derived.Test.YtcfoobhihhndjaaGreatB11
namespace Go.Proofs.YtcfoobhihhndjaaGreat

section
open Go.RowKit Go.Sort

theorem box_cells (w:World) (o:Od) (t:TypeId):Kep non w (w.alloc (.cells #[.int .i64 o.id,.int .i64 o.t,.int .i64 o.h,.int .i64 o.g,.int .i64 o.s,.int .i64 o.p,.int .i64 o.q,.int .i64 o.w] t))∧∀ j u,o.cells[j]? = some u→(w.alloc (.cells #[.int .i64 o.id,.int .i64 o.t,.int .i64 o.h,.int .i64 o.g,.int .i64 o.s,.int .i64 o.p,.int .i64 o.q,.int .i64 o.w] t)).cell? ⟨w.heap.size,j,none⟩=some u:=by
  refine ⟨(Kep.refl _ _).alloc _,fun j u h=>?_⟩
  rw [cell_of_row _ _ j _ _ _ (heap_alloc_new w _)]
  simpa [Od.cells] using h
theorem box_eight {w:World} {b:Nat} {o:Od} (h:∀ j u,o.cells[j]? = some u→w.cell? ⟨b,j,none⟩=some u) :
    w.cell? ⟨b,0,none⟩=some (.int .i64 o.id)∧w.cell? ⟨b,1,none⟩=some (.int .i64 o.t)∧w.cell? ⟨b,2,none⟩=some (.int .i64 o.h)∧w.cell? ⟨b,3,none⟩=some (.int .i64 o.g)∧w.cell? ⟨b,4,none⟩=some (.int .i64 o.s)∧w.cell? ⟨b,5,none⟩=some (.int .i64 o.p)∧w.cell? ⟨b,6,none⟩=some (.int .i64 o.q)∧w.cell? ⟨b,7,none⟩=some (.int .i64 o.w) :=
  ⟨h 0 _ rfl,h 1 _ rfl,h 2 _ rfl,h 3 _ rfl,h 4 _ rfl,h 5 _ rfl,h 6 _ rfl,h 7 _ rfl⟩

def rmetL (o:Od):List Od→Int
  | []=>0
  | x :: r=>(if x.h=o.h∧x.g=o.g∧x.s≠o.s∧x.t≠o.t∧pfits o x=true then x.q else 0)+rmetL o r
theorem rmetL_append (o:Od) (a b:List Od):rmetL o (a ++ b)=rmetL o a+rmetL o b:=by
  induction a with
  | nil=>simp [rmetL]
  | cons x a ih=>simp only [List.cons_append,rmetL,ih];omega
theorem rmetL_take {o:Od} {l:List Od} {k:Nat} (hk:k<l.length):rmetL o (l.take (k+1))=rmetL o (l.take k)+if l[k].h=o.h∧l[k].g=o.g∧l[k].s≠o.s∧l[k].t≠o.t∧pfits o l[k]=true then l[k].q else 0:=by
  rw [List.take_succ_eq_append_getElem hk,rmetL_append]
  simp [rmetL]
theorem rmetL_bd (o:Od):∀ l:List Od,(∀ x∈l,1≤x.q∧x.q≤10000)→0≤rmetL o l∧rmetL o l≤10000 * (l.length:Int)
  | [],_=>by simp [rmetL]
  | x :: r,k=>by
    have ih:=rmetL_bd o r (fun x hx=>k x (List.mem_cons_of_mem _ hx))
    have hq:=k x List.mem_cons_self
    simp only [rmetL,List.length_cons]
    split <;> omega
theorem Rm.Ok.met_take {r:Rm} {K:Int} (ok:r.Ok K) (o:Od) (k:Nat):0≤rmetL o (r.wt.take k)∧rmetL o (r.wt.take k)≤600000:=by
  have:=rmetL_bd o (r.wt.take k) (fun x hx=>(ok.wt x (List.mem_of_mem_take hx)).2.2.2.2.2)
  have:=ok.w60
  have:(r.wt.take k).length≤r.wt.length:=by simp;omega
  omega

def hits (o x:Od):Bool:=decide (x.h=o.h) && decide (x.g=o.g) && decide (x.s≠o.s) && pfits o x
def noOd:Od:=⟨0,0,0,0,0,0,0,0⟩
def rbestTo (o:Od) (l:List Od):Nat→Int
  | 0=>-1
  | i+1=>if hits o (l.getD i noOd)=true then (if rbestTo o l i<0 then (i:Int) else if rahead (l.getD i noOd) (l.getD (rbestTo o l i).toNat noOd)=true then (i:Int) else rbestTo o l i) else rbestTo o l i
theorem rbestTo_lt (o:Od) (l:List Od):∀ i,-1≤rbestTo o l i∧rbestTo o l i<(i:Int)
  | 0=>by simp [rbestTo]
  | i+1=>by
    have:=rbestTo_lt o l i
    simp only [rbestTo]
    split
    · split
      · omega
      · split <;> omega
    · omega

set_option maxRecDepth 100000 in
set_option maxHeartbeats 2000000 in
theorem rmet_any (w:World) (L:RL) (r:Rm) (K:Int) (R:RRep w L r) (ok:r.Ok K) (o:Od) :
    Calls Tryz.prog 106 #[.pointer (some ⟨L.c,0,none⟩),.agg #[.int .i64 o.id,.int .i64 o.t,.int .i64 o.h,.int .i64 o.g,.int .i64 o.s,.int .i64 o.p,.int .i64 o.q,.int .i64 o.w]] w fun e w'=>e = .returned (.int .i64 (rmetL o r.wt))∧Kep non w w':=by
  obtain ⟨a,cap,hv⟩:=row_form R.wt
  have HR:=hide R
  have HV:=hide hv
  clear R hv
  have w60:=ok.w60
  obtain ⟨K0,o8⟩:=box_cells w o 40
  have HK0:=hide K0
  have HO8:=hide o8
  clear K0 o8
  go_enter Tryz.func106,Tryz.ntmps106
  go_wp2
  generalize w.alloc (.cells #[.int .i64 o.id,.int .i64 o.t,.int .i64 o.h,.int .i64 o.g,.int .i64 o.s,.int .i64 o.p,.int .i64 o.q,.int .i64 o.w] 40)=W0 at *
  generalize hob:w.heap.size=ob at *
  have HOB:=hide hob
  clear hob
  go_loopw [5,6] (fun n i wr=>∃ k:Nat,k≤r.wt.length∧i = .int .i64 k∧n = .int .i64 (rmetL o (r.wt.take k))∧Kep non W0 wr) (fun _ i _=>r.wt.length - (intOf i).toNat)
  case atStart=>exact ⟨0,Nat.zero_le _,rfl,by simp [rmetL],Kep.refl _ _⟩
  case round =>
    obtain ⟨k,hk,rfl,rfl,hkp⟩:=hrel
    have Rr:=HR.out.later (HK0.out.trans hkp)
    have c5:=Rr.c.cW.cell
    rw [HV.out] at c5
    by_cases hlt:k<r.wt.length
    · obtain ⟨lb,cap',hv,hc⟩:=ord_cells Rr.wt k hlt
      rw [HV.out] at hv
      simp only [Value.slice.injEq,true_and] at hv
      obtain ⟨rfl,rfl⟩:=hv
      obtain ⟨q0,q1,q2,q3,q4,q5,q6,q7⟩:=ord_eight hc
      have HS:=hide (rmetL_take (o:=o) hlt)
      have hb:=ok.wt r.wt[k] (by simp)
      obtain ⟨_,_,_,_,_,⟨n0,n1⟩⟩:=hb
      obtain ⟨bb0,bb1⟩:=ok.met_take o k
      clear hc Rr
      generalize r.wt[k]=l at *
      obtain ⟨m0,m1,m2,m3,m4,m5,m6,m7⟩:=box_eight HO8.out
      have y0:∀ z,(wr.alloc z).cell? ⟨ob,0,none⟩=some (.int .i64 o.id):=fun z=>(hkp.alloc z).cell m0 (fun q=>q)
      have y1:∀ z,(wr.alloc z).cell? ⟨ob,1,none⟩=some (.int .i64 o.t):=fun z=>(hkp.alloc z).cell m1 (fun q=>q)
      have y2:∀ z,(wr.alloc z).cell? ⟨ob,2,none⟩=some (.int .i64 o.h):=fun z=>(hkp.alloc z).cell m2 (fun q=>q)
      have y3:∀ z,(wr.alloc z).cell? ⟨ob,3,none⟩=some (.int .i64 o.g):=fun z=>(hkp.alloc z).cell m3 (fun q=>q)
      have y4:∀ z,(wr.alloc z).cell? ⟨ob,4,none⟩=some (.int .i64 o.s):=fun z=>(hkp.alloc z).cell m4 (fun q=>q)
      have y5:∀ z,(wr.alloc z).cell? ⟨ob,5,none⟩=some (.int .i64 o.p):=fun z=>(hkp.alloc z).cell m5 (fun q=>q)
      have y6:∀ z,(wr.alloc z).cell? ⟨ob,6,none⟩=some (.int .i64 o.q):=fun z=>(hkp.alloc z).cell m6 (fun q=>q)
      have y7:∀ z,(wr.alloc z).cell? ⟨ob,7,none⟩=some (.int .i64 o.w):=fun z=>(hkp.alloc z).cell m7 (fun q=>q)
      clear m0 m1 m2 m3 m4 m5 m6 m7
      have HX:=hide (heap_alloc_new wr (.cells #[.int .i64 l.id,.int .i64 l.t,.int .i64 l.h,.int .i64 l.g,.int .i64 l.s,.int .i64 l.p,.int .i64 l.q,.int .i64 l.w] 40))
      have obl:ob<wr.heap.size+1:=by
        have:=World.block_lt_of_cell? _ _ (y0 (.cells #[.int .i64 l.id,.int .i64 l.t,.int .i64 l.h,.int .i64 l.g,.int .i64 l.s,.int .i64 l.p,.int .i64 l.q,.int .i64 l.w] 40))
        simpa using this
      go_wp2_with fail
      refine (rfits_any _ o l).mono ?_
      rintro e w1 ⟨rfl,hB⟩
      have k1:Kep non (wr.alloc (.cells #[.int .i64 l.id,.int .i64 l.t,.int .i64 l.h,.int .i64 l.g,.int .i64 l.s,.int .i64 l.p,.int .i64 l.q,.int .i64 l.w] 40)) w1:=Kep.of_below hB
      have bx:w1.heap[wr.heap.size]? = _:=(k1.block wr.heap.size (by simp) (fun q=>q)).trans HX.out
      have x0:w1.cell? ⟨wr.heap.size,0,none⟩=some (.int .i64 l.id):=cell_of_row _ _ 0 _ _ _ bx
      replace y0:w1.cell? ⟨ob,0,none⟩=some (.int .i64 o.id):=k1.cell (y0 _) (fun q=>q)
      have x1:w1.cell? ⟨wr.heap.size,1,none⟩=some (.int .i64 l.t):=cell_of_row _ _ 1 _ _ _ bx
      replace y1:w1.cell? ⟨ob,1,none⟩=some (.int .i64 o.t):=k1.cell (y1 _) (fun q=>q)
      have x2:w1.cell? ⟨wr.heap.size,2,none⟩=some (.int .i64 l.h):=cell_of_row _ _ 2 _ _ _ bx
      replace y2:w1.cell? ⟨ob,2,none⟩=some (.int .i64 o.h):=k1.cell (y2 _) (fun q=>q)
      have x3:w1.cell? ⟨wr.heap.size,3,none⟩=some (.int .i64 l.g):=cell_of_row _ _ 3 _ _ _ bx
      replace y3:w1.cell? ⟨ob,3,none⟩=some (.int .i64 o.g):=k1.cell (y3 _) (fun q=>q)
      have x4:w1.cell? ⟨wr.heap.size,4,none⟩=some (.int .i64 l.s):=cell_of_row _ _ 4 _ _ _ bx
      replace y4:w1.cell? ⟨ob,4,none⟩=some (.int .i64 o.s):=k1.cell (y4 _) (fun q=>q)
      have x5:w1.cell? ⟨wr.heap.size,5,none⟩=some (.int .i64 l.p):=cell_of_row _ _ 5 _ _ _ bx
      replace y5:w1.cell? ⟨ob,5,none⟩=some (.int .i64 o.p):=k1.cell (y5 _) (fun q=>q)
      have x6:w1.cell? ⟨wr.heap.size,6,none⟩=some (.int .i64 l.q):=cell_of_row _ _ 6 _ _ _ bx
      replace y6:w1.cell? ⟨ob,6,none⟩=some (.int .i64 o.q):=k1.cell (y6 _) (fun q=>q)
      have x7:w1.cell? ⟨wr.heap.size,7,none⟩=some (.int .i64 l.w):=cell_of_row _ _ 7 _ _ _ bx
      replace y7:w1.cell? ⟨ob,7,none⟩=some (.int .i64 o.w):=k1.cell (y7 _) (fun q=>q)
      have kw:Kep non W0 w1:=(hkp.alloc _).trans k1
      have HKW:=hide kw
      clear bx k1 hB kw q0 q1 q2 q3 q4 q5 q6 q7 HX
      by_cases g0:l.h=o.h
      · have f0:(l.h == o.h)=true:=by simpa using g0
        by_cases g1:l.g=o.g
        · have f1:(l.g == o.g)=true:=by simpa using g1
          by_cases g2:l.s≠o.s
          · have f2:(l.s != o.s)=true:=by simpa using g2
            by_cases g3:l.t≠o.t
            · have f3:(l.t != o.t)=true:=by simpa using g3
              by_cases g4:pfits o l=true
              · have f4:pfits o l=true:=g4
                have hS:=HS.out
                rw [if_pos ⟨g0,g1,g2,g3,g4⟩] at hS
                have HS':=hide hS
                clear HS hS g0 g1 g2 g3 g4
                go_wp2
                refine ⟨⟨k+1,by omega,by go_num,?_,HKW.out⟩,by simp [intOf];omega⟩
                rw [HS'.out]
              · have f4:pfits o l=false:=by simpa using g4
                have hS:=HS.out
                rw [if_neg (fun f=>g4 f.2.2.2.2)] at hS
                have HS':=hide hS
                clear HS hS g0 g1 g2 g3 g4
                go_wp2
                refine ⟨⟨k+1,by omega,by go_num,?_,HKW.out⟩,by simp [intOf];omega⟩
                rw [HS'.out,Int.add_zero]
            · have f3:(l.t != o.t)=false:=by simpa using g3
              have hS:=HS.out
              rw [if_neg (fun f=>g3 f.2.2.2.1)] at hS
              have HS':=hide hS
              clear HS hS g0 g1 g2 g3
              go_wp2
              refine ⟨⟨k+1,by omega,by go_num,?_,HKW.out⟩,by simp [intOf];omega⟩
              rw [HS'.out,Int.add_zero]
          · have f2:(l.s != o.s)=false:=by simpa using g2
            have hS:=HS.out
            rw [if_neg (fun f=>g2 f.2.2.1)] at hS
            have HS':=hide hS
            clear HS hS g0 g1 g2
            go_wp2
            refine ⟨⟨k+1,by omega,by go_num,?_,HKW.out⟩,by simp [intOf];omega⟩
            rw [HS'.out,Int.add_zero]
        · have f1:(l.g == o.g)=false:=by simpa using g1
          have hS:=HS.out
          rw [if_neg (fun f=>g1 f.2.1)] at hS
          have HS':=hide hS
          clear HS hS g0 g1
          go_wp2
          refine ⟨⟨k+1,by omega,by go_num,?_,HKW.out⟩,by simp [intOf];omega⟩
          rw [HS'.out,Int.add_zero]
      · have f0:(l.h == o.h)=false:=by simpa using g0
        have hS:=HS.out
        rw [if_neg (fun f=>g0 f.1)] at hS
        have HS':=hide hS
        clear HS hS g0
        go_wp2
        refine ⟨⟨k+1,by omega,by go_num,?_,HKW.out⟩,by simp [intOf];omega⟩
        rw [HS'.out,Int.add_zero]
    · go_wp2
      go_ret
      refine ⟨?_,HK0.out.trans hkp⟩
      rw [List.take_of_length_le (by omega)]
      rfl
end

section
open Go.RowKit Go.Sort

set_option maxRecDepth 100000 in
set_option maxHeartbeats 4000000 in
theorem rbest_any (w:World) (L:RL) (r:Rm) (K:Int) (R:RRep w L r) (ok:r.Ok K) (o:Od) :
    Calls Tryz.prog 49 #[.pointer (some ⟨L.c,0,none⟩),.agg #[.int .i64 o.id,.int .i64 o.t,.int .i64 o.h,.int .i64 o.g,.int .i64 o.s,.int .i64 o.p,.int .i64 o.q,.int .i64 o.w]] w fun e w'=>e = .returned (.int .i64 (rbestTo o r.wt r.wt.length))∧Kep non w w':=by
  obtain ⟨a,cap,hv⟩:=row_form R.wt
  have HR:=hide R
  have HV:=hide hv
  clear R hv
  have w60:=ok.w60
  obtain ⟨K0,o8⟩:=box_cells w o 40
  have HK0:=hide K0
  have HO8:=hide o8
  clear K0 o8
  go_enter Tryz.func49,Tryz.ntmps49
  go_wp2
  generalize w.alloc (.cells #[.int .i64 o.id,.int .i64 o.t,.int .i64 o.h,.int .i64 o.g,.int .i64 o.s,.int .i64 o.p,.int .i64 o.q,.int .i64 o.w] 40)=W0 at *
  generalize hob:w.heap.size=ob at *
  have HOB:=hide hob
  clear hob
  go_loopw [5,6] (fun n i wr=>∃ k:Nat,k≤r.wt.length∧i = .int .i64 k∧n = .int .i64 (rbestTo o r.wt k)∧Kep non W0 wr) (fun _ i _=>r.wt.length - (intOf i).toNat)
  case atStart=>exact ⟨0,Nat.zero_le _,rfl,rfl,Kep.refl _ _⟩
  case round =>
    obtain ⟨k,hk,rfl,rfl,hkp⟩:=hrel
    have Rr:=HR.out.later (HK0.out.trans hkp)
    have c5:=Rr.c.cW.cell
    rw [HV.out] at c5
    by_cases hlt:k<r.wt.length
    · obtain ⟨lb,cap',hv,hc⟩:=ord_cells Rr.wt k hlt
      rw [HV.out] at hv
      simp only [Value.slice.injEq,true_and] at hv
      obtain ⟨rfl,rfl⟩:=hv
      obtain ⟨q0,q1,q2,q3,q4,q5,q6,q7⟩:=ord_eight hc
      have gd:r.wt.getD k noOd=r.wt[k]:=by simp [List.getD,hlt]
      have HS:Hid (rbestTo o r.wt (k+1)=if hits o r.wt[k]=true then (if rbestTo o r.wt k<0 then (k:Int) else if rahead r.wt[k] (r.wt.getD (rbestTo o r.wt k).toNat noOd)=true then (k:Int) else rbestTo o r.wt k) else rbestTo o r.wt k):=hide (by rw [← gd];rfl)
      have HH:Hid (hits o r.wt[k]=(decide (r.wt[k].h=o.h) && decide (r.wt[k].g=o.g) && decide (r.wt[k].s≠o.s) && pfits o r.wt[k])):=hide rfl
      obtain ⟨b0,b1⟩:=rbestTo_lt o r.wt k
      have HC:Hid (∀ (V:World) (j:Nat),Kep non W0 V→j<k→∀ i u,(r.wt.getD j noOd).cells[i]? = some u→V.cell? ⟨lb,j * 8+i,none⟩=some u):=hide (fun V j kV hj i u hu=>by
        have RV:=HR.out.later (HK0.out.trans kV)
        have hj':j<r.wt.length:=by omega
        obtain ⟨lb2,cap2,hv2,hc2⟩:=ord_cells RV.wt j hj'
        rw [HV.out] at hv2
        simp only [Value.slice.injEq,true_and,Option.some.injEq,Addr.mk.injEq,and_true] at hv2
        obtain ⟨rfl,_⟩:=hv2
        have e:r.wt.getD j noOd=r.wt[j]:=by simp [List.getD,hj']
        rw [e] at hu
        exact (hc2 i u hu).cell)
      clear hc Rr gd
      generalize r.wt[k]=l at *
      obtain ⟨m0,m1,m2,m3,m4,m5,m6,m7⟩:=box_eight HO8.out
      have y0:∀ z,(wr.alloc z).cell? ⟨ob,0,none⟩=some (.int .i64 o.id):=fun z=>(hkp.alloc z).cell m0 (fun q=>q)
      have y1:∀ z,(wr.alloc z).cell? ⟨ob,1,none⟩=some (.int .i64 o.t):=fun z=>(hkp.alloc z).cell m1 (fun q=>q)
      have y2:∀ z,(wr.alloc z).cell? ⟨ob,2,none⟩=some (.int .i64 o.h):=fun z=>(hkp.alloc z).cell m2 (fun q=>q)
      have y3:∀ z,(wr.alloc z).cell? ⟨ob,3,none⟩=some (.int .i64 o.g):=fun z=>(hkp.alloc z).cell m3 (fun q=>q)
      have y4:∀ z,(wr.alloc z).cell? ⟨ob,4,none⟩=some (.int .i64 o.s):=fun z=>(hkp.alloc z).cell m4 (fun q=>q)
      have y5:∀ z,(wr.alloc z).cell? ⟨ob,5,none⟩=some (.int .i64 o.p):=fun z=>(hkp.alloc z).cell m5 (fun q=>q)
      have y6:∀ z,(wr.alloc z).cell? ⟨ob,6,none⟩=some (.int .i64 o.q):=fun z=>(hkp.alloc z).cell m6 (fun q=>q)
      have y7:∀ z,(wr.alloc z).cell? ⟨ob,7,none⟩=some (.int .i64 o.w):=fun z=>(hkp.alloc z).cell m7 (fun q=>q)
      clear m0 m1 m2 m3 m4 m5 m6 m7
      have HX:=hide (heap_alloc_new wr (.cells #[.int .i64 l.id,.int .i64 l.t,.int .i64 l.h,.int .i64 l.g,.int .i64 l.s,.int .i64 l.p,.int .i64 l.q,.int .i64 l.w] 40))
      have obl:ob<wr.heap.size+1:=by
        have:=World.block_lt_of_cell? _ _ (y0 (.cells #[.int .i64 l.id,.int .i64 l.t,.int .i64 l.h,.int .i64 l.g,.int .i64 l.s,.int .i64 l.p,.int .i64 l.q,.int .i64 l.w] 40))
        simpa using this
      go_wp2_with fail
      refine (rfits_any _ o l).mono ?_
      rintro e w1 ⟨rfl,hB⟩
      have k1:Kep non (wr.alloc (.cells #[.int .i64 l.id,.int .i64 l.t,.int .i64 l.h,.int .i64 l.g,.int .i64 l.s,.int .i64 l.p,.int .i64 l.q,.int .i64 l.w] 40)) w1:=Kep.of_below hB
      have bx:w1.heap[wr.heap.size]? = _:=(k1.block wr.heap.size (by simp) (fun q=>q)).trans HX.out
      have x0:w1.cell? ⟨wr.heap.size,0,none⟩=some (.int .i64 l.id):=cell_of_row _ _ 0 _ _ _ bx
      replace y0:w1.cell? ⟨ob,0,none⟩=some (.int .i64 o.id):=k1.cell (y0 _) (fun q=>q)
      have x1:w1.cell? ⟨wr.heap.size,1,none⟩=some (.int .i64 l.t):=cell_of_row _ _ 1 _ _ _ bx
      replace y1:w1.cell? ⟨ob,1,none⟩=some (.int .i64 o.t):=k1.cell (y1 _) (fun q=>q)
      have x2:w1.cell? ⟨wr.heap.size,2,none⟩=some (.int .i64 l.h):=cell_of_row _ _ 2 _ _ _ bx
      replace y2:w1.cell? ⟨ob,2,none⟩=some (.int .i64 o.h):=k1.cell (y2 _) (fun q=>q)
      have x3:w1.cell? ⟨wr.heap.size,3,none⟩=some (.int .i64 l.g):=cell_of_row _ _ 3 _ _ _ bx
      replace y3:w1.cell? ⟨ob,3,none⟩=some (.int .i64 o.g):=k1.cell (y3 _) (fun q=>q)
      have x4:w1.cell? ⟨wr.heap.size,4,none⟩=some (.int .i64 l.s):=cell_of_row _ _ 4 _ _ _ bx
      replace y4:w1.cell? ⟨ob,4,none⟩=some (.int .i64 o.s):=k1.cell (y4 _) (fun q=>q)
      have x5:w1.cell? ⟨wr.heap.size,5,none⟩=some (.int .i64 l.p):=cell_of_row _ _ 5 _ _ _ bx
      replace y5:w1.cell? ⟨ob,5,none⟩=some (.int .i64 o.p):=k1.cell (y5 _) (fun q=>q)
      have x6:w1.cell? ⟨wr.heap.size,6,none⟩=some (.int .i64 l.q):=cell_of_row _ _ 6 _ _ _ bx
      replace y6:w1.cell? ⟨ob,6,none⟩=some (.int .i64 o.q):=k1.cell (y6 _) (fun q=>q)
      have x7:w1.cell? ⟨wr.heap.size,7,none⟩=some (.int .i64 l.w):=cell_of_row _ _ 7 _ _ _ bx
      replace y7:w1.cell? ⟨ob,7,none⟩=some (.int .i64 o.w):=k1.cell (y7 _) (fun q=>q)
      have kw:Kep non W0 w1:=(hkp.alloc _).trans k1
      have HKW:=hide kw
      clear bx k1 hB kw q0 q1 q2 q3 q4 q5 q6 q7 HX
      by_cases g0:l.h=o.h
      · have f0:(l.h != o.h)=false:=by simpa using g0
        by_cases g1:l.g=o.g
        · have f1:(l.g != o.g)=false:=by simpa using g1
          by_cases g2:l.s≠o.s
          · have f2:(l.s == o.s)=false:=by simpa using g2
            by_cases g3:pfits o l=true
            · have f3:pfits o l=true:=g3
              have hh:hits o l=true:=by rw [HH.out];simp [g0,g1,g2,g3]
              have hS:=HS.out
              rw [if_pos hh] at hS
              have HS1:=hide hS
              clear HS hS HH hh g0 g1 g2 g3
              have cw:w1.cell? ⟨L.c,5,none⟩=some (.slice (some ⟨lb,0,none⟩) r.wt.length cap):=(HKW.out.mono (fun _ q=>q.elim):Kep non W0 w1) |>.cell (by have:=(HR.out.later HK0.out).c.cW.cell;rw [HV.out] at this;exact this) (fun q=>q)
              by_cases hb:rbestTo o r.wt k<0
              · have hS:=HS1.out
                rw [if_pos hb] at hS
                have HS':=hide hS
                clear HS1 hS HC
                generalize rbestTo o r.wt k=kk at *
                go_wp2
                refine ⟨⟨k+1,by omega,by go_num,?_,HKW.out⟩,by simp [intOf];omega⟩
                rw [HS'.out]
              · have hS:=HS1.out
                rw [if_neg hb] at hS
                obtain ⟨j,hj⟩:=Int.eq_ofNat_of_zero_le (show 0≤rbestTo o r.wt k by omega)
                have jk:j<k:=by omega
                have HJ:=hide hj
                rw [hj,Int.toNat_natCast] at hS
                have HS':=hide hS
                clear HS1 hS
                rw [hj]
                clear hj hb b0 b1
                have hcj:=HC.out w1 j HKW.out jk
                clear HC
                generalize r.wt.getD j noOd=z at *
                have z0:w1.cell? ⟨lb,j * 8,none⟩=some (.int .i64 z.id):=hcj 0 _ rfl
                have z1:w1.cell? ⟨lb,j * 8+1,none⟩=some (.int .i64 z.t):=hcj 1 _ rfl
                have z2:w1.cell? ⟨lb,j * 8+2,none⟩=some (.int .i64 z.h):=hcj 2 _ rfl
                have z3:w1.cell? ⟨lb,j * 8+3,none⟩=some (.int .i64 z.g):=hcj 3 _ rfl
                have z4:w1.cell? ⟨lb,j * 8+4,none⟩=some (.int .i64 z.s):=hcj 4 _ rfl
                have z5:w1.cell? ⟨lb,j * 8+5,none⟩=some (.int .i64 z.p):=hcj 5 _ rfl
                have z6:w1.cell? ⟨lb,j * 8+6,none⟩=some (.int .i64 z.q):=hcj 6 _ rfl
                have z7:w1.cell? ⟨lb,j * 8+7,none⟩=some (.int .i64 z.w):=hcj 7 _ rfl
                clear hcj
                have hjl:(j:Int)<(r.wt.length:Int):=by omega
                have HA:Hid (∀ V,Kep non w1 V→Calls Tryz.prog 108 #[.agg #[.int .i64 l.id,.int .i64 l.t,.int .i64 l.h,.int .i64 l.g,.int .i64 l.s,.int .i64 l.p,.int .i64 l.q,.int .i64 l.w],.agg #[.int .i64 z.id,.int .i64 z.t,.int .i64 z.h,.int .i64 z.g,.int .i64 z.s,.int .i64 z.p,.int .i64 z.q,.int .i64 z.w]] V fun e w'=>e = .returned (.bool (rahead l z))∧Below V.heap.size V w'):=hide fun V _=>rahead_any V l z
                by_cases ha:rahead l z=true
                · have fa:=hide ha
                  have hS:=HS'.out
                  rw [if_pos fa.out] at hS
                  have HS2:=hide hS
                  clear HS' hS ha
                  go_wp2
                  go_region_with (go_at_call 108;refine (HA.out _ ((Kep.refl _ _).drew)).mono ?_;rw [fa.out];rintro e w2 ⟨rfl,hA⟩)
                  all_goals go_wp2
                  all_goals refine ⟨⟨k+1,by omega,by go_num,?_,?_⟩,by simp [intOf];omega⟩
                  all_goals first | (rw [HS2.out];done) | exact HKW.out.trans (Kep.of_below hA) | exact HKW.out.trans ((Kep.refl non _).drew.trans (Kep.of_below hA))
                · have ha:rahead l z=false:=by simpa using ha
                  have fa:=hide ha
                  have hS:=HS'.out
                  rw [if_neg (by rw [fa.out];simp)] at hS
                  have HS2:=hide hS
                  clear HS' hS ha
                  go_wp2
                  go_region_with (go_at_call 108;refine (HA.out _ ((Kep.refl _ _).drew)).mono ?_;rw [fa.out];rintro e w2 ⟨rfl,hA⟩)
                  all_goals go_wp2
                  all_goals refine ⟨⟨k+1,by omega,by go_num,?_,?_⟩,by simp [intOf];omega⟩
                  all_goals first | (rw [HS2.out];done) | exact HKW.out.trans (Kep.of_below hA) | exact HKW.out.trans ((Kep.refl non _).drew.trans (Kep.of_below hA))
            · have f3:pfits o l=false:=by simpa using g3
              have hh:hits o l=false:=by rw [HH.out];simp [g3]
              have hS:=HS.out
              rw [if_neg (by rw [hh];simp)] at hS
              have HS':=hide hS
              clear HS hS HH hh HC g0 g1 g2 g3
              generalize rbestTo o r.wt k=kk at *
              go_wp2
              refine ⟨⟨k+1,by omega,by go_num,?_,HKW.out⟩,by simp [intOf];omega⟩
              rw [HS'.out]
          · have f2:(l.s == o.s)=true:=by simpa using g2
            have hh:hits o l=false:=by rw [HH.out];simp [g2]
            have hS:=HS.out
            rw [if_neg (by rw [hh];simp)] at hS
            have HS':=hide hS
            clear HS hS HH hh HC g0 g1 g2
            generalize rbestTo o r.wt k=kk at *
            go_wp2
            refine ⟨⟨k+1,by omega,by go_num,?_,HKW.out⟩,by simp [intOf];omega⟩
            rw [HS'.out]
        · have f1:(l.g != o.g)=true:=by simpa using g1
          have hh:hits o l=false:=by rw [HH.out];simp [g1]
          have hS:=HS.out
          rw [if_neg (by rw [hh];simp)] at hS
          have HS':=hide hS
          clear HS hS HH hh HC g0 g1
          generalize rbestTo o r.wt k=kk at *
          go_wp2
          refine ⟨⟨k+1,by omega,by go_num,?_,HKW.out⟩,by simp [intOf];omega⟩
          rw [HS'.out]
      · have f0:(l.h != o.h)=true:=by simpa using g0
        have hh:hits o l=false:=by rw [HH.out];simp [g0]
        have hS:=HS.out
        rw [if_neg (by rw [hh];simp)] at hS
        have HS':=hide hS
        clear HS hS HH hh HC g0
        generalize rbestTo o r.wt k=kk at *
        go_wp2
        refine ⟨⟨k+1,by omega,by go_num,?_,HKW.out⟩,by simp [intOf];omega⟩
        rw [HS'.out]
    · have e:k=r.wt.length:=by omega
      subst e
      go_wp2
      go_ret
      exact ⟨rfl,HK0.out.trans hkp⟩
end

section
open Go.RowKit Go.Sort

theorem infoOrd:(Tryz.prog.info? 40).map (fun i=>(i.zero,i.size,i.bytes))=some (some (.agg #[.int .i64 0,.int .i64 0,.int .i64 0,.int .i64 0,.int .i64 0,.int .i64 0,.int .i64 0,.int .i64 0]),8,64):=by kernel_rfl

def rdrop (r:Rm) (k:Nat):Rm:={ r with wt:=r.wt.take k ++ r.wt.drop (k+1) }

theorem rd_first {w:World} {e:TypeId} {lb cap B:Nat} {ls:List Od} (h:w.ownsRow B e 8 (.slice (some ⟨lb,0,none⟩) ls.length cap) ls.length (rdCells ls)) (k:Nat) (hk:k≤ls.length):∀ j u,(rdCells (ls.take k))[j]? = some u→w.cell? ((⟨lb,0,none⟩ : Addr).add j)=some u:=by
  intro j u hu
  have hj:j<k * 8:=by have:=(List.getElem?_eq_some_iff.1 hu).1;rw [rdCells_length,List.length_take] at this;omega
  have hadd:(⟨lb,0,none⟩ : Addr).add j=⟨lb,j,none⟩:=by unfold Addr.add;split <;> simp_all
  rw [hadd,h.cellAt j (by omega)]
  have e:rdCells ls=rdCells (ls.take k) ++ rdCells (ls.drop k):=by rw [← rdCells_append,List.take_append_drop]
  rw [e,List.getElem?_append_left (by rw [rdCells_length,List.length_take];omega)]
  exact hu
theorem rd_rest {w:World} {e:TypeId} {lb cap B:Nat} {ls:List Od} (h:w.ownsRow B e 8 (.slice (some ⟨lb,0,none⟩) ls.length cap) ls.length (rdCells ls)) (k:Nat) (hk:k≤ls.length):∀ j u,(rdCells (ls.drop k))[j]? = some u→w.cell? ((⟨lb,k * 8,none⟩ : Addr).add j)=some u:=by
  intro j u hu
  have hj:j<(ls.length - k) * 8:=by have:=(List.getElem?_eq_some_iff.1 hu).1;rw [rdCells_length,List.length_drop] at this;omega
  have hadd:(⟨lb,k * 8,none⟩ : Addr).add j=⟨lb,k * 8+j,none⟩:=by unfold Addr.add;split <;> simp_all
  rw [hadd,h.cellAt (k * 8+j) (by omega)]
  have e:rdCells ls=rdCells (ls.take k) ++ rdCells (ls.drop k):=by rw [← rdCells_append,List.take_append_drop]
  have l:(rdCells (ls.take k)).length=k * 8:=by rw [rdCells_length,List.length_take];omega
  rw [e,List.getElem?_append_right (by omega),l]
  simpa using hu

theorem rd_none {ls:List Od} {k j:Nat} {u:Value} {P:Prop} (h:ls.length≤k) (hu:(rdCells (ls.drop k))[j]? = some u):P:=by
  rw [List.drop_eq_nil_of_le h] at hu
  simp [rdCells] at hu

def DropPost (w:World) (L:RL) (r':Rm) (w':World):Prop:=Kep (fun b=>b=L.c) w w'∧∃ v,(∀ b,v.ownBlock=some b→w.heap.size≤b)∧RRep w' { L with wv:=v } r'

set_option maxRecDepth 100000 in
set_option maxHeartbeats 1000000 in
theorem rdrops_any (w:World) (L:RL) (r:Rm) (R:RRep w L r) (T1:1≤r.T) (G1:1≤r.G) (H1:1≤r.H) (w60:r.wt.length≤60) (k:Nat) (hk:k<r.wt.length) :
    Calls Tryz.prog 50 #[.pointer (some ⟨L.c,0,none⟩),.int .i64 k] w fun e w'=>e = .returned (.tuple #[])∧DropPost w L (rdrop r k) w':=by
  obtain ⟨lb,cap,hv,_⟩:=ord_cells R.wt k hk
  have hrow:=R.wt
  rw [hv] at hrow
  have c5:=R.c.cW.cell
  rw [hv] at c5
  have lbl:lb<w.heap.size:=(hrow.lt lb rfl).2
  have hne:lb≠L.c:=fun q=>by have:=R.inj 6 0 lb (by show L.wv.ownBlock=some lb;rw [hv];rfl) (by show some L.c=some lb;rw [q]);omega
  have lcl:L.c<w.heap.size:=World.block_lt_of_cell? w _ c5
  have hcap:r.wt.length≤cap:=by
    rcases hrow.2 with ⟨q,_⟩ | ⟨_,_,_,q,_,_,q2,_⟩
    · simp at q
    · simp only [Value.slice.injEq,true_and] at q
      rw [q.2];exact q2
  have LT:=R.lt T1 G1 H1
  have HLT:=hide LT
  have HR:=hide R
  have HROW:=hide hrow
  have HV:=hide hv
  obtain ⟨i0,hi0,hz0,hz1,hz2⟩:=info_parts infoOrd
  have l1:(rdCells (r.wt.take k)).length=k * 8:=by rw [rdCells_length,List.length_take];omega
  have l2:(rdCells (r.wt.drop (k+1))).length=(r.wt.length - (k+1)) * 8:=by rw [rdCells_length,List.length_drop]
  have HL1:=hide l1
  have HL2:=hide l2
  clear R LT hrow hv l1 l2
  have hk':(k:Int)<(r.wt.length:Int):=by omega
  go_enter Tryz.func50,Tryz.ntmps50
  go_wp2_with (at_builtin;(refine wpList_append_own _ rfl _ _ _ rfl w.heap.size 40 i0 _ 8 64 Tryz.underlying98 hi0 hz0 hz1 hz2 rfl (by omega) _ 0 [] rfl (World.ownsRow_nil _ _ _ _) ⟨lb,0,none⟩ k cap (rdCells (r.wt.take k)) rfl HL1.out (by exact rd_first HROW.out k (by omega)) (rdCells_one' _) (by simp only [maxLen];omega) (by omega) (Nat.le_refl _) ?_))
  intro v1 w1 hown1 hgrow1 hv1
  clear hv1
  have K1:Kep non w w1:=(Kep.refl _ _).grown hgrow1 (by simp [Value.ownBlock])
  have c5':w1.cell? ⟨L.c,5,none⟩=some (.slice (some ⟨lb,0,none⟩) r.wt.length cap):=K1.cell c5 (fun q=>q)
  have s1:=K1.size
  obtain ⟨va,vc,hv1⟩:=row_form hown1
  subst hv1
  have HO1:=hide hown1
  have HK1:=hide K1
  clear hgrow1 hown1 K1 c5
  by_cases hcc:cap=k+1
  · go_wp2_with (at_builtin;(refine wpList_append_own _ rfl _ _ _ rfl w.heap.size 40 i0 _ 8 64 Tryz.underlying98 hi0 hz0 hz1 hz2 rfl (by omega) _ k _ rfl HO1.out ⟨lb,0,none⟩ (r.wt.length - (k+1)) 0 (rdCells (r.wt.drop (k+1))) rfl HL2.out (fun j u hu=>rd_none (show r.wt.length≤k+1 by omega) hu) (rdCells_one' _) (by simp only [maxLen];omega) (by omega) (by omega) ?_))
    intro v2 w2 hown2 hgrow2 hv2
    clear hv2
    have K2:Kep non w w2:=HK1.out.grown hgrow2 (fun b hb=>.inr (HO1.out.lt b hb).1)
    obtain ⟨c6,f6⟩:=(HR.out.later K2).c.cW
    rw [HV.out] at c6
    have HO2:=hide hown2
    have HK2:=hide K2
    obtain ⟨vb,vd,hv2⟩:=row_form hown2
    subst hv2
    clear hown2 hgrow2 K2
    go_wp2
    go_end0
    have fr:∀ b,(Value.slice vb (k+(r.wt.length - (k+1))) vd).ownBlock=some b→w.heap.size≤b:=fun b hb=>(HO2.out.lt b hb).1
    refine ⟨rfl,(HK2.out.none (S:=fun b=>b=L.c)).setCell (p:=⟨L.c,5,none⟩) (.inl rfl) _,_,fr,?_⟩
    have e:k+(r.wt.length - (k+1))=(r.wt.take k ++ r.wt.drop (k+1)).length:=by simp;omega
    refine HR.out.setWt (HK2.out.none) (r.wt.take k ++ r.wt.drop (k+1)) _ ?_ (fun i b _ hb q=>?_)
    · have:=ownsRow_zero HO2.out
      rw [e] at this ⊢
      simpa [rdCells_append] using this
    · have:=HLT.out b ⟨i,hb⟩
      have:=fr b q
      omega
  · go_wp2_with (at_builtin;(refine wpList_append_own _ rfl _ _ _ rfl w.heap.size 40 i0 _ 8 64 Tryz.underlying98 hi0 hz0 hz1 hz2 rfl (by omega) _ k _ rfl HO1.out ⟨lb,(k+1) * 8,none⟩ (r.wt.length - (k+1)) (cap - (k+1)) (rdCells (r.wt.drop (k+1))) rfl HL2.out (by exact rd_rest (ownsRow_kep HROW.out HK1.out (fun _ _ q=>q)) (k+1) (by omega)) (rdCells_one' _) (by simp only [maxLen];omega) (by omega) (by omega) ?_))
    intro v2 w2 hown2 hgrow2 hv2
    clear hv2
    have K2:Kep non w w2:=HK1.out.grown hgrow2 (fun b hb=>.inr (HO1.out.lt b hb).1)
    obtain ⟨c6,f6⟩:=(HR.out.later K2).c.cW
    rw [HV.out] at c6
    have HO2:=hide hown2
    have HK2:=hide K2
    obtain ⟨vb,vd,hv2⟩:=row_form hown2
    subst hv2
    clear hown2 hgrow2 K2
    go_wp2
    go_end0
    have fr:∀ b,(Value.slice vb (k+(r.wt.length - (k+1))) vd).ownBlock=some b→w.heap.size≤b:=fun b hb=>(HO2.out.lt b hb).1
    refine ⟨rfl,(HK2.out.none (S:=fun b=>b=L.c)).setCell (p:=⟨L.c,5,none⟩) (.inl rfl) _,_,fr,?_⟩
    have e:k+(r.wt.length - (k+1))=(r.wt.take k ++ r.wt.drop (k+1)).length:=by simp;omega
    refine HR.out.setWt (HK2.out.none) (r.wt.take k ++ r.wt.drop (k+1)) _ ?_ (fun i b _ hb q=>?_)
    · have:=ownsRow_zero HO2.out
      rw [e] at this ⊢
      simpa [rdCells_append] using this
    · have:=HLT.out b ⟨i,hb⟩
      have:=fr b q
      omega
end

end Go.Proofs.YtcfoobhihhndjaaGreat
