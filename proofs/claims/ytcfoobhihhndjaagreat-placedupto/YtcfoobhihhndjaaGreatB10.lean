
import Derived.BigQuiet
import Derived.Deep.QuietTactic
import Derived.Test.YtcfoobhihhndjaaGreatB02
import Derived.Test.YtcfoobhihhndjaaGreatB09
namespace Go.Proofs.YtcfoobhihhndjaaGreat

section
open Go.RowKit Go.Sort

structure Rm.Ok (r:Rm) (K:Int):Prop where
  K0:0≤K
  K1:K≤1000
  T1:1≤r.T
  T8:r.T≤8
  G1:1≤r.G
  G4:r.G≤4
  H1:1≤r.H
  H4:r.H≤4
  rt:∀ h,h<r.H→0≤r.rt h∧r.rt h≤100
  mo:∀ t,t<r.T→-(2000000000000+K * 10000000000)≤r.mo t∧r.mo t≤2000000000000+K * 10000000000
  pc:∀ t h g,t<r.T→h<r.H→g<r.G→-(1000000000000+K * 10000)≤r.pc t h g∧r.pc t h g≤1000000000000+K * 10000
  l20:r.ld.length≤20
  ld:∀ l,l∈r.ld→(0≤l.t∧l.t<r.T)∧(0≤l.h∧l.h<r.H)∧(0≤l.g∧l.g<r.G)∧(1≤l.n∧l.n≤10000)∧(0≤l.d∧l.d≤1000000010)
  w60:r.wt.length≤60
  wt:∀ o,o∈r.wt→(0≤o.t∧o.t<r.T)∧(0≤o.h∧o.h<r.H)∧(0≤o.g∧o.g<r.G)∧(0≤o.s∧o.s≤1)∧(1≤o.p∧o.p≤100000)∧(1≤o.q∧o.q≤10000)
  pi:∀ h g,h<r.H→g<r.G→0≤r.pi h g∧r.pi h g≤1000000000000000+K * 10000
  am:∀ h g,h<r.H→g<r.G→0≤r.am h g∧r.am h g≤1000000000000000000+K * 1000000000
  nx:0≤r.nx∧r.nx≤1000000000001
  ho:0≤r.ho∧r.ho≤2000000000000+K * 1000000000
  tm:0≤r.tm∧r.tm≤1000000000

def keptA (t h g:Int):List Od→Int
  | []=>0
  | o :: r=>(if o.t=t∧o.s=1∧o.h=h∧o.g=g then o.q else 0)+keptA t h g r
theorem keptA_append (t h g:Int) (a b:List Od):keptA t h g (a ++ b)=keptA t h g a+keptA t h g b:=by
  induction a with
  | nil=>simp [keptA]
  | cons x a ih=>simp only [List.cons_append,keptA,ih];omega
theorem keptA_take {t h g:Int} {l:List Od} {k:Nat} (hk:k<l.length):keptA t h g (l.take (k+1))=keptA t h g (l.take k)+if l[k].t=t∧l[k].s=1∧l[k].h=h∧l[k].g=g then l[k].q else 0:=by
  rw [List.take_succ_eq_append_getElem hk,keptA_append]
  simp [keptA]
theorem keptA_bd (t h g:Int):∀ l:List Od,(∀ o∈l,1≤o.q∧o.q≤10000)→0≤keptA t h g l∧keptA t h g l≤10000 * (l.length:Int)
  | [],_=>by simp [keptA]
  | o :: r,k=>by
    have ih:=keptA_bd t h g r (fun x hx=>k x (List.mem_cons_of_mem _ hx))
    have hq:=k o List.mem_cons_self
    simp only [keptA,List.length_cons]
    split <;> omega

def Rm.held (r:Rm) (t:Int):Int:=heldL t r.wt
def Rm.kept (r:Rm) (t h g:Int):Int:=keptA t h g r.wt
def Rm.come (r:Rm) (t h g:Int):Int:=comeL t h g r.ld

section
variable {r:Rm} {K:Int}
theorem Rm.Ok.held_take (o:r.Ok K) (t:Int) (k:Nat):0≤heldL t (r.wt.take k)∧heldL t (r.wt.take k)≤60000000000:=by
  have:=heldL_bd t (r.wt.take k) (fun x hx=>⟨(o.wt x (List.mem_of_mem_take hx)).2.2.2.2.1,(o.wt x (List.mem_of_mem_take hx)).2.2.2.2.2⟩)
  have:=o.w60
  have:(r.wt.take k).length≤r.wt.length:=by simp;omega
  omega
theorem Rm.Ok.kept_take (o:r.Ok K) (t h g:Int) (k:Nat):0≤keptA t h g (r.wt.take k)∧keptA t h g (r.wt.take k)≤600000:=by
  have:=keptA_bd t h g (r.wt.take k) (fun x hx=>(o.wt x (List.mem_of_mem_take hx)).2.2.2.2.2)
  have:=o.w60
  have:(r.wt.take k).length≤r.wt.length:=by simp;omega
  omega
theorem Rm.Ok.come_take (o:r.Ok K) (t h g:Int) (k:Nat):0≤comeL t h g (r.ld.take k)∧comeL t h g (r.ld.take k)≤200000:=by
  have:=comeL_bd t h g (r.ld.take k) (fun x hx=>(o.ld x (List.mem_of_mem_take hx)).2.2.2.1)
  have:=o.l20
  have:(r.ld.take k).length≤r.ld.length:=by simp;omega
  omega
theorem Rm.Ok.held_bd (o:r.Ok K) (t:Int):0≤r.held t∧r.held t≤60000000000:=by
  have:=o.held_take t r.wt.length
  rwa [List.take_length] at this
theorem Rm.Ok.kept_bd (o:r.Ok K) (t h g:Int):0≤r.kept t h g∧r.kept t h g≤600000:=by
  have:=o.kept_take t h g r.wt.length
  rwa [List.take_length] at this
theorem Rm.Ok.come_bd (o:r.Ok K) (t h g:Int):0≤r.come t h g∧r.come t h g≤200000:=by
  have:=o.come_take t h g r.ld.length
  rwa [List.take_length] at this
end

theorem ord_cells {w:World} {e:TypeId} {v:Value} {ls:List Od} {B:Nat} (h:w.ownsRow B e 8 v ls.length (rdCells ls)) (k:Nat) (hk:k<ls.length):∃ lb cap,v = .slice (some ⟨lb,0,none⟩) ls.length cap∧∀ j u,ls[k].cells[j]? = some u→Own w ⟨lb,k * 8+j,none⟩ u:=by
  rcases h.2 with ⟨_,hn⟩ | ⟨g,cap,cur,rfl,hb,hgg,rest⟩
  · omega
  · refine ⟨g,cap,rfl,fun j u hu=>⟨?_,h.frozenAt _⟩⟩
    have hj:j<8:=by have:=(List.getElem?_eq_some_iff.1 hu).1;simpa [Od.cells] using this
    rw [h.cellAt (k * 8+j) (by omega),rdCells_at ls k ls[k] (by simp) j hj]
    exact hu

theorem ord_eight {w:World} {lb n:Nat} {o:Od} (h:∀ j u,o.cells[j]? = some u→Own w ⟨lb,n+j,none⟩ u) :
    w.cell? ⟨lb,n,none⟩=some (.int .i64 o.id)∧w.cell? ⟨lb,n+1,none⟩=some (.int .i64 o.t)∧w.cell? ⟨lb,n+2,none⟩=some (.int .i64 o.h)∧w.cell? ⟨lb,n+3,none⟩=some (.int .i64 o.g)∧w.cell? ⟨lb,n+4,none⟩=some (.int .i64 o.s)∧w.cell? ⟨lb,n+5,none⟩=some (.int .i64 o.p)∧w.cell? ⟨lb,n+6,none⟩=some (.int .i64 o.q)∧w.cell? ⟨lb,n+7,none⟩=some (.int .i64 o.w) :=
  ⟨(h 0 _ rfl).cell,(h 1 _ rfl).cell,(h 2 _ rfl).cell,(h 3 _ rfl).cell,(h 4 _ rfl).cell,(h 5 _ rfl).cell,(h 6 _ rfl).cell,(h 7 _ rfl).cell⟩

set_option maxHeartbeats 400000 in
theorem lot_any (c rb rcap:Nat) (H:Nat) (G t h g:Int) (w:World) (h1:w.cell? ⟨c,1,none⟩=some (.int .i64 G)) (h2:w.cell? ⟨c,2,none⟩=some (.slice (some ⟨rb,0,none⟩) H rcap))
    (bt:0≤t) (bt':t≤8) (bh:0≤h) (bh':h≤4) (bg:0≤g) (bg':g≤4) (bG:0≤G) (bG':G≤4) (bH:(H:Int)≤4) :
    Calls Tryz.prog 87 #[.pointer (some ⟨c,0,none⟩),.int .i64 t,.int .i64 h,.int .i64 g] w fun e w'=>e = .returned (.int .i64 ((t * (H:Int)+h) * G+g))∧∃ n,w'=w.drewN n:=by
  have b1:=mul_le' bt bt' (Int.natCast_nonneg H) bH
  obtain ⟨b1,b1'⟩:=b1
  have b2:=mul_le' (a:=t * (H:Int)+h) (A:=36) (b:=G) (B:=4) (by omega) (by omega) (by omega) (by omega)
  obtain ⟨b2,b2'⟩:=b2
  go_enter Tryz.func87,Tryz.ntmps87
  go_wp2
  go_quiet (fail)
  go_wp2
  go_ret
  exact ⟨rfl,_,rfl⟩

theorem rplace_any (c:Nat) (G h g:Int) (w:World) (h1:w.cell? ⟨c,1,none⟩=some (.int .i64 G)) (bh:0≤h) (bh':h≤4) (bg:0≤g) (bg':g≤4) (bG:0≤G) (bG':G≤4) :
    Calls Tryz.prog 109 #[.pointer (some ⟨c,0,none⟩),.int .i64 h,.int .i64 g] w fun e w'=>e = .returned (.int .i64 (h * G+g))∧w'=w:=by
  obtain ⟨b1,b1'⟩:=mul_le' bh bh' bG bG'
  go_enter Tryz.func109,Tryz.ntmps109
  go_wp2
  go_ret
  exact ⟨rfl,rfl⟩

theorem trader_b (c T:Nat) (i:Int) (w:World) (h0:w.cell? ⟨c,0,none⟩=some (.int .i64 T)) :
    Calls Tryz.prog 66 #[.pointer (some ⟨c,0,none⟩),.int .i64 i] w fun e w'=>e = .returned (.bool (inB T i))∧w'=w:=by
  have e:Hid (inB T i=(decide (0≤i) && decide (i<(T:Int)))):=hide (by simp [inB,okI])
  by_cases h1:0≤i
  · go_enter Tryz.func66,Tryz.ntmps66
    go_wp2
    go_ret
    exact ⟨by rw [e.out];simp [h1],rfl⟩
  · go_enter Tryz.func66,Tryz.ntmps66
    go_wp2
    go_ret
    exact ⟨by rw [e.out];simp;omega,rfl⟩
theorem good_b (c T:Nat) (i:Int) (w:World) (h0:w.cell? ⟨c,1,none⟩=some (.int .i64 T)) :
    Calls Tryz.prog 104 #[.pointer (some ⟨c,0,none⟩),.int .i64 i] w fun e w'=>e = .returned (.bool (inB T i))∧w'=w:=by
  have e:Hid (inB T i=(decide (0≤i) && decide (i<(T:Int)))):=hide (by simp [inB,okI])
  by_cases h1:0≤i
  · go_enter Tryz.func104,Tryz.ntmps104
    go_wp2
    go_ret
    exact ⟨by rw [e.out];simp [h1],rfl⟩
  · go_enter Tryz.func104,Tryz.ntmps104
    go_wp2
    go_ret
    exact ⟨by rw [e.out];simp;omega,rfl⟩
theorem hall_b (c T:Nat) (a:Option Addr) (cap:Nat) (i:Int) (w:World) (h0:w.cell? ⟨c,2,none⟩=some (.slice a T cap)) :
    Calls Tryz.prog 91 #[.pointer (some ⟨c,0,none⟩),.int .i64 i] w fun e w'=>e = .returned (.bool (inB T i))∧w'=w:=by
  have e:Hid (inB T i=(decide (0≤i) && decide (i<(T:Int)))):=hide (by simp [inB,okI])
  by_cases h1:0≤i
  · go_enter Tryz.func91,Tryz.ntmps91
    go_wp2
    go_ret
    exact ⟨by rw [e.out];simp [h1],rfl⟩
  · go_enter Tryz.func91,Tryz.ntmps91
    go_wp2
    go_ret
    exact ⟨by rw [e.out];simp;omega,rfl⟩

def Rm.fee (r:Rm) (h:Nat) (a:Int):Int:=a * r.rt h / 10000

theorem rfee_any (w:World) (L:RL) (r:Rm) (K:Int) (R:RRep w L r) (ok:r.Ok K) (h:Nat) (a:Int) (hh:h<r.H) (ha:0≤a) (ha2:a≤1000000000) :
    Calls Tryz.prog 105 #[.pointer (some ⟨L.c,0,none⟩),.int .i64 h,.int .i64 a] w fun e w'=>e = .returned (.int .i64 (r.fee h a))∧w'=w:=by
  have c1:=R.c.cR.cell
  have cr:=R.rt h hh
  have hh':(h:Int)<(r.H:Int):=by omega
  have br:=ok.rt h hh
  have bm:=mul_le' ha ha2 br.1 br.2
  have e:Hid (a * r.rt h / 10000=r.fee h a):=hide rfl
  clear R ok
  generalize r.rt h=x at *
  go_enter Tryz.func105,Tryz.ntmps105
  go_wp2
  go_ret
  exact ⟨ret_int e.out,rfl⟩

theorem rfits_any (w:World) (o x:Od):Calls Tryz.prog 107 #[.agg #[.int .i64 o.id,.int .i64 o.t,.int .i64 o.h,.int .i64 o.g,.int .i64 o.s,.int .i64 o.p,.int .i64 o.q,.int .i64 o.w],.agg #[.int .i64 x.id,.int .i64 x.t,.int .i64 x.h,.int .i64 x.g,.int .i64 x.s,.int .i64 x.p,.int .i64 x.q,.int .i64 x.w]] w fun e w'=>e = .returned (.bool (pfits o x))∧Below w.heap.size w w':=by
  have HE:Hid (pfits o x=if o.s=0 then decide (x.p≤o.p) else decide (o.p≤x.p)):=hide rfl
  by_cases h:o.s=0
  · go_enter Tryz.func107,Tryz.ntmps107
    go_wp2
    go_ret
    exact ⟨by rw [HE.out,if_pos h];simp,((Below.refl _ _).alloc (Nat.le_refl _) _).alloc (by simp) _⟩
  · go_enter Tryz.func107,Tryz.ntmps107
    go_wp2
    go_ret
    exact ⟨by rw [HE.out,if_neg h];simp,((Below.refl _ _).alloc (Nat.le_refl _) _).alloc (by simp) _⟩

def rahead (a b:Od):Bool:=if a.p=b.p then decide (a.id<b.id) else (decide (a.s=0) == decide (b.p<a.p))

theorem rahead_any (w:World) (o x:Od):Calls Tryz.prog 108 #[.agg #[.int .i64 o.id,.int .i64 o.t,.int .i64 o.h,.int .i64 o.g,.int .i64 o.s,.int .i64 o.p,.int .i64 o.q,.int .i64 o.w],.agg #[.int .i64 x.id,.int .i64 x.t,.int .i64 x.h,.int .i64 x.g,.int .i64 x.s,.int .i64 x.p,.int .i64 x.q,.int .i64 x.w]] w fun e w'=>e = .returned (.bool (rahead o x))∧Below w.heap.size w w':=by
  have HE:Hid (rahead o x=if o.p=x.p then decide (o.id<x.id) else (decide (o.s=0) == decide (x.p<o.p))):=hide rfl
  have HB:Hid (∀ v:World,Below v.heap.size v ((v.alloc (.cells #[.int .i64 o.id,.int .i64 o.t,.int .i64 o.h,.int .i64 o.g,.int .i64 o.s,.int .i64 o.p,.int .i64 o.q,.int .i64 o.w] 40)).alloc (.cells #[.int .i64 x.id,.int .i64 x.t,.int .i64 x.h,.int .i64 x.g,.int .i64 x.s,.int .i64 x.p,.int .i64 x.q,.int .i64 x.w] 40))):=hide fun v=>((Below.refl _ _).alloc (Nat.le_refl _) _).alloc (by simp) _
  by_cases h:o.p=x.p
  · have e0:(o.p != x.p)=false:=by simpa using h
    rw [if_pos h] at HE
    clear h
    go_enter Tryz.func108,Tryz.ntmps108
    go_wp2
    go_ret
    exact ⟨by rw [HE.out];rfl,HB.out _⟩
  · have e0:(o.p != x.p)=true:=by simpa using h
    rw [if_neg h] at HE
    clear h
    go_enter Tryz.func108,Tryz.ntmps108
    go_wp2
    go_ret
    exact ⟨by rw [HE.out];rfl,HB.out _⟩

set_option maxRecDepth 100000 in
set_option maxHeartbeats 1000000 in
theorem rheld_any (w:World) (L:RL) (r:Rm) (K:Int) (R:RRep w L r) (ok:r.Ok K) (t:Int) :
    Calls Tryz.prog 74 #[.pointer (some ⟨L.c,0,none⟩),.int .i64 t] w fun e w'=>e = .returned (.int .i64 (r.held t))∧Below w.heap.size w w':=by
  obtain ⟨a,cap,hv⟩:=row_form R.wt
  have HR:=hide R
  have HV:=hide hv
  clear R hv
  have w60:=ok.w60
  go_enter Tryz.func74,Tryz.ntmps74
  go_wp2
  go_loopw [5,6] (fun n i wr=>∃ k:Nat,k≤r.wt.length∧i = .int .i64 k∧n = .int .i64 (heldL t (r.wt.take k))∧Below w.heap.size w wr) (fun _ i _=>r.wt.length - (intOf i).toNat)
  case atStart=>exact ⟨0,Nat.zero_le _,rfl,by simp [heldL],Below.refl _ _⟩
  case round =>
    obtain ⟨k,hk,rfl,rfl,hkp⟩:=hrel
    have Rr:=HR.out.bel hkp
    have c5:=Rr.c.cW.cell
    rw [HV.out] at c5
    by_cases hlt:k<r.wt.length
    · obtain ⟨lb,cap',hv,hc⟩:=ord_cells Rr.wt k hlt
      rw [HV.out] at hv
      simp only [Value.slice.injEq,true_and] at hv
      obtain ⟨rfl,rfl⟩:=hv
      obtain ⟨q0,q1,q2,q3,q4,q5,q6,q7⟩:=ord_eight hc
      have HS:=hide (heldL_take (t:=t) hlt)
      have hb:=ok.wt r.wt[k] (by simp)
      obtain ⟨_,_,_,_,⟨p0,p1⟩,⟨n0,n1⟩⟩:=hb
      obtain ⟨bb0,bb1⟩:=ok.held_take t k
      have hpq:=mul_le' (a:=r.wt[k].p) (b:=r.wt[k].q) (A:=100000) (B:=10000) (by omega) p1 (by omega) n1
      obtain ⟨hp0,hp1⟩:=hpq
      clear hc Rr
      generalize r.wt[k]=l at *
      by_cases g1:l.t=t
      · have f1:(l.t == t)=true:=by simpa using g1
        by_cases g2:l.s=0
        · have f2:(l.s == 0)=true:=by simpa using g2
          have hS:=HS.out
          rw [if_pos ⟨g1,g2⟩] at hS
          have HS':=hide hS
          clear HS hS g1 g2
          go_wp2
          refine ⟨⟨k+1,by omega,by go_num,?_,hkp.alloc hkp.size _⟩,by simp [intOf];omega⟩
          rw [HS'.out]
        · have f2:(l.s == 0)=false:=by simpa using g2
          have hS:=HS.out
          rw [if_neg (fun f=>g2 f.2)] at hS
          have HS':=hide hS
          clear HS hS g1 g2
          go_wp2
          refine ⟨⟨k+1,by omega,by go_num,?_,hkp.alloc hkp.size _⟩,by simp [intOf];omega⟩
          rw [HS'.out,Int.add_zero]
      · have f1:(l.t == t)=false:=by simpa using g1
        have hS:=HS.out
        rw [if_neg (fun f=>g1 f.1)] at hS
        have HS':=hide hS
        clear HS hS g1
        go_wp2
        refine ⟨⟨k+1,by omega,by go_num,?_,hkp.alloc hkp.size _⟩,by simp [intOf];omega⟩
        rw [HS'.out,Int.add_zero]
    · go_wp2
      go_ret
      refine ⟨?_,hkp⟩
      rw [List.take_of_length_le (by omega)]
      rfl
end

section
open Go.RowKit Go.Sort

set_option maxRecDepth 100000 in
set_option maxHeartbeats 1000000 in
theorem rkept_any (w:World) (L:RL) (r:Rm) (K:Int) (R:RRep w L r) (ok:r.Ok K) (t h g:Int) :
    Calls Tryz.prog 76 #[.pointer (some ⟨L.c,0,none⟩),.int .i64 t,.int .i64 h,.int .i64 g] w fun e w'=>e = .returned (.int .i64 (r.kept t h g))∧Below w.heap.size w w':=by
  obtain ⟨a,cap,hv⟩:=row_form R.wt
  have HR:=hide R
  have HV:=hide hv
  clear R hv
  have w60:=ok.w60
  go_enter Tryz.func76,Tryz.ntmps76
  go_wp2
  go_loopw [9,10] (fun n i wr=>∃ k:Nat,k≤r.wt.length∧i = .int .i64 k∧n = .int .i64 (keptA t h g (r.wt.take k))∧Below w.heap.size w wr) (fun _ i _=>r.wt.length - (intOf i).toNat)
  case atStart=>exact ⟨0,Nat.zero_le _,rfl,by simp [keptA],Below.refl _ _⟩
  case round =>
    obtain ⟨k,hk,rfl,rfl,hkp⟩:=hrel
    have Rr:=HR.out.bel hkp
    have c5:=Rr.c.cW.cell
    rw [HV.out] at c5
    by_cases hlt:k<r.wt.length
    · obtain ⟨lb,cap',hv,hc⟩:=ord_cells Rr.wt k hlt
      rw [HV.out] at hv
      simp only [Value.slice.injEq,true_and] at hv
      obtain ⟨rfl,rfl⟩:=hv
      obtain ⟨q0,q1,q2,q3,q4,q5,q6,q7⟩:=ord_eight hc
      have HS:=hide (keptA_take (t:=t) (h:=h) (g:=g) hlt)
      have hb:=ok.wt r.wt[k] (by simp)
      obtain ⟨_,_,_,_,_,⟨n0,n1⟩⟩:=hb
      obtain ⟨bb0,bb1⟩:=ok.kept_take t h g k
      clear hc Rr
      generalize r.wt[k]=l at *
      by_cases g0:l.t=t
      · have f0:(l.t == t)=true:=by simpa using g0
        by_cases g1:l.s=1
        · have f1:(l.s == 1)=true:=by simpa using g1
          by_cases g2:l.h=h
          · have f2:(l.h == h)=true:=by simpa using g2
            by_cases g3:l.g=g
            · have f3:(l.g == g)=true:=by simpa using g3
              have hS:=HS.out
              rw [if_pos ⟨g0,g1,g2,g3⟩] at hS
              have HS':=hide hS
              clear HS hS
              clear g0 g1 g2 g3
              go_wp2
              refine ⟨⟨k+1,by omega,by go_num,?_,hkp.alloc hkp.size _⟩,by simp [intOf];omega⟩
              rw [HS'.out]
            · have f3:(l.g == g)=false:=by simpa using g3
              have hS:=HS.out
              rw [if_neg (fun f=>g3 (f.2.2.2))] at hS
              have HS':=hide hS
              clear HS hS
              go_wp2
              refine ⟨⟨k+1,by omega,by go_num,?_,hkp.alloc hkp.size _⟩,by simp [intOf];omega⟩
              rw [HS'.out,Int.add_zero]
          · have f2:(l.h == h)=false:=by simpa using g2
            have hS:=HS.out
            rw [if_neg (fun f=>g2 (f.2.2.1))] at hS
            have HS':=hide hS
            clear HS hS
            go_wp2
            refine ⟨⟨k+1,by omega,by go_num,?_,hkp.alloc hkp.size _⟩,by simp [intOf];omega⟩
            rw [HS'.out,Int.add_zero]
        · have f1:(l.s == 1)=false:=by simpa using g1
          have hS:=HS.out
          rw [if_neg (fun f=>g1 (f.2.1))] at hS
          have HS':=hide hS
          clear HS hS
          go_wp2
          refine ⟨⟨k+1,by omega,by go_num,?_,hkp.alloc hkp.size _⟩,by simp [intOf];omega⟩
          rw [HS'.out,Int.add_zero]
      · have f0:(l.t == t)=false:=by simpa using g0
        have hS:=HS.out
        rw [if_neg (fun f=>g0 (f.1))] at hS
        have HS':=hide hS
        clear HS hS
        go_wp2
        refine ⟨⟨k+1,by omega,by go_num,?_,hkp.alloc hkp.size _⟩,by simp [intOf];omega⟩
        rw [HS'.out,Int.add_zero]
    · go_wp2
      go_ret
      refine ⟨?_,hkp⟩
      rw [List.take_of_length_le (by omega)]
      rfl

set_option maxRecDepth 100000 in
set_option maxHeartbeats 1000000 in
theorem rcome_any (w:World) (L:RL) (r:Rm) (K:Int) (R:RRep w L r) (ok:r.Ok K) (t h g:Int) :
    Calls Tryz.prog 77 #[.pointer (some ⟨L.c,0,none⟩),.int .i64 t,.int .i64 h,.int .i64 g] w fun e w'=>e = .returned (.int .i64 (r.come t h g))∧Below w.heap.size w w':=by
  obtain ⟨a,cap,hv⟩:=row_form R.ld
  have HR:=hide R
  have HV:=hide hv
  clear R hv
  have l20:=ok.l20
  go_enter Tryz.func77,Tryz.ntmps77
  go_wp2
  go_loopw [9,10] (fun n i wr=>∃ k:Nat,k≤r.ld.length∧i = .int .i64 k∧n = .int .i64 (comeL t h g (r.ld.take k))∧Below w.heap.size w wr) (fun _ i _=>r.ld.length - (intOf i).toNat)
  case atStart=>exact ⟨0,Nat.zero_le _,rfl,by simp [comeL],Below.refl _ _⟩
  case round =>
    obtain ⟨k,hk,rfl,rfl,hkp⟩:=hrel
    have Rr:=HR.out.bel hkp
    have c5:=Rr.c.cL.cell
    rw [HV.out] at c5
    by_cases hlt:k<r.ld.length
    · obtain ⟨lb,cap',hv,hc⟩:=load_cells Rr.ld k hlt
      rw [HV.out] at hv
      simp only [Value.slice.injEq,true_and] at hv
      obtain ⟨rfl,rfl⟩:=hv
      have q0:wr.cell? ⟨lb,k * 5,none⟩=some (.int .i64 r.ld[k].t):=hc 0 _ rfl
      have q1:=hc 1 _ rfl
      have q2:=hc 2 _ rfl
      have q3:=hc 3 _ rfl
      have q4:=hc 4 _ rfl
      have HS:=hide (comeL_take (t:=t) (h:=h) (g:=g) hlt)
      have hb:=ok.ld r.ld[k] (by simp)
      obtain ⟨_,_,_,⟨n0,n1⟩,_⟩:=hb
      obtain ⟨bb0,bb1⟩:=ok.come_take t h g k
      clear hc Rr
      generalize r.ld[k]=l at *
      by_cases g0:l.t=t
      · have f0:(l.t == t)=true:=by simpa using g0
        by_cases g1:l.h=h
        · have f1:(l.h == h)=true:=by simpa using g1
          by_cases g2:l.g=g
          · have f2:(l.g == g)=true:=by simpa using g2
            have hS:=HS.out
            rw [if_pos ⟨g0,g1,g2⟩] at hS
            have HS':=hide hS
            clear HS hS
            clear g0 g1 g2
            go_wp2
            refine ⟨⟨k+1,by omega,by go_num,?_,hkp.alloc hkp.size _⟩,by simp [intOf];omega⟩
            rw [HS'.out]
          · have f2:(l.g == g)=false:=by simpa using g2
            have hS:=HS.out
            rw [if_neg (fun f=>g2 (f.2.2))] at hS
            have HS':=hide hS
            clear HS hS
            go_wp2
            refine ⟨⟨k+1,by omega,by go_num,?_,hkp.alloc hkp.size _⟩,by simp [intOf];omega⟩
            rw [HS'.out,Int.add_zero]
        · have f1:(l.h == h)=false:=by simpa using g1
          have hS:=HS.out
          rw [if_neg (fun f=>g1 (f.2.1))] at hS
          have HS':=hide hS
          clear HS hS
          go_wp2
          refine ⟨⟨k+1,by omega,by go_num,?_,hkp.alloc hkp.size _⟩,by simp [intOf];omega⟩
          rw [HS'.out,Int.add_zero]
      · have f0:(l.t == t)=false:=by simpa using g0
        have hS:=HS.out
        rw [if_neg (fun f=>g0 (f.1))] at hS
        have HS':=hide hS
        clear HS hS
        go_wp2
        refine ⟨⟨k+1,by omega,by go_num,?_,hkp.alloc hkp.size _⟩,by simp [intOf];omega⟩
        rw [HS'.out,Int.add_zero]
    · go_wp2
      go_ret
      refine ⟨?_,hkp⟩
      rw [List.take_of_length_le (by omega)]
      rfl

theorem rfree_any (w:World) (L:RL) (r:Rm) (K:Int) (R:RRep w L r) (ok:r.Ok K) (t:Nat) (ht:t<r.T) :
    Calls Tryz.prog 73 #[.pointer (some ⟨L.c,0,none⟩),.int .i64 t] w fun e w'=>e = .returned (.int .i64 (r.mo t - r.held t))∧Below w.heap.size w w':=by
  have HH:=hide (rheld_any w L r K R ok t)
  have HR:=hide R
  have hb:=ok.held_bd t
  have hm:=ok.mo t ht
  have k0:=ok.K0
  have k1:=ok.K1
  clear R
  generalize r.held t=x at *
  go_enter Tryz.func73,Tryz.ntmps73
  go_wp2_with fail
  refine HH.out.mono ?_
  rintro e w1 ⟨rfl,hB⟩
  have R1:=HR.out.bel hB
  have c3:=R1.c.cM.cell
  have c4:=(R1.mo t ht).cell
  have hT:(t:Int)<(r.T:Int):=by omega
  have HB:=hide hB
  clear R1 hB
  go_wp2
  go_ret
  exact ⟨rfl,HB.out⟩

theorem rlot_any (w:World) (L:RL) (r:Rm) (K:Int) (R:RRep w L r) (ok:r.Ok K) (t h g:Nat) (ht:t<r.T) (hh:h<r.H) (hg:g<r.G) :
    Calls Tryz.prog 87 #[.pointer (some ⟨L.c,0,none⟩),.int .i64 t,.int .i64 h,.int .i64 g] w fun e w'=>e = .returned (.int .i64 (((t * r.H+h) * r.G+g:Nat):Int))∧∃ n,w'=w.drewN n:=by
  have bT:=ok.T8
  have bG:=ok.G4
  have bH:=ok.H4
  have:=lot_any L.c L.rb L.rcap r.H r.G t h g w R.c.cG.cell R.c.cR.cell (by omega) (by omega) (by omega) (by omega) (by omega) (by omega) (by omega) (by omega) (by omega)
  simpa using this
theorem rspot_any (w:World) (L:RL) (r:Rm) (K:Int) (R:RRep w L r) (ok:r.Ok K) (h g:Nat) (hh:h<r.H) (hg:g<r.G) :
    Calls Tryz.prog 109 #[.pointer (some ⟨L.c,0,none⟩),.int .i64 h,.int .i64 g] w fun e w'=>e = .returned (.int .i64 ((h * r.G+g:Nat):Int))∧w'=w:=by
  have bG:=ok.G4
  have bH:=ok.H4
  have:=rplace_any L.c r.G h g w R.c.cG.cell (by omega) (by omega) (by omega) (by omega) (by omega) (by omega)
  simpa using this

set_option maxHeartbeats 1000000 in
theorem rspare_any (w:World) (L:RL) (r:Rm) (K:Int) (R:RRep w L r) (ok:r.Ok K) (t h g:Nat) (ht:t<r.T) (hh:h<r.H) (hg:g<r.G) :
    Calls Tryz.prog 75 #[.pointer (some ⟨L.c,0,none⟩),.int .i64 t,.int .i64 h,.int .i64 g] w fun e w'=>e = .returned (.int .i64 (r.pc t h g - r.kept t h g))∧Below w.heap.size w w':=by
  have HH:=hide (rkept_any w L r K R ok t h g)
  have HR:=hide R
  have HO:=hide ok
  have hb:=ok.kept_bd t h g
  have hm:=ok.pc t h g ht hh hg
  have k0:=ok.K0
  have k1:=ok.K1
  have hlt:=lot_lt ht hh hg
  clear R ok
  generalize r.kept t h g=x at *
  go_enter Tryz.func75,Tryz.ntmps75
  go_wp2_with fail
  refine HH.out.mono ?_
  rintro e w1 ⟨rfl,hB⟩
  have R1:=HR.out.bel hB
  have c3:=R1.c.cP.cell
  have c4:=(R1.pc t h g ht hh hg).cell
  have Hq:=hide (fun n=>rlot_any (w1.drewN n) L r K (R1.later ((Kep.refl _ _).drewN n)) HO.out t h g ht hh hg)
  have HB:=hide hB
  clear R1 hB
  generalize (t * r.H+h) * r.G+g=k at *
  generalize r.T * r.G * r.H=TT at *
  go_wp2
  go_quiet ((go_at_call 87;exact Calls.quiet_of (Hq.out _)))
  go_wp2
  go_ret
  exact ⟨rfl,below_drewN HB.out _⟩
end

section
open Go.RowKit Go.Sort

def sumTo (f:Nat→Int):Nat→Int
  | 0=>0
  | k+1=>sumTo f k+f k

theorem sumTo_bd (f:Nat→Int) (B:Int) (T:Nat) (h:∀ t,t<T→-B≤f t∧f t≤B):-(B * T)≤sumTo f T∧sumTo f T≤B * T:=by
  induction T with
  | zero=>simp [sumTo]
  | succ k ih =>
    have h1:=ih fun t ht=>h t (by omega)
    have h2:=h k (by omega)
    have e:B * ((k+1:Nat):Int)=B * (k:Int)+B:=by rw [Int.natCast_add,Int.mul_add];simp
    simp only [sumTo]
    rw [e]
    omega

def rpayE (r:Rm) (t x:Int):Int:=if ¬ okI r.T t then 2 else if ¬ okN x 1000000000000 then 5 else if 1000000000000<r.ho+x+sumTo r.mo r.T then 8 else 0
def rpayM (r:Rm) (t x:Int):Rm:=if rpayE r t x=0 then r.setMo t.toNat (r.mo t.toNat+x) else r
def rdrawE (r:Rm) (t x:Int):Int:=if ¬ okI r.T t then 2 else if ¬ okN x 1000000000000 then 5 else if r.mo t.toNat - r.held t<x then 6 else 0
def rdrawM (r:Rm) (t x:Int):Rm:=if rdrawE r t x=0 then r.setMo t.toNat (r.mo t.toNat - x) else r
def rlotsE (r:Rm) (t h g n:Int):Int:=if ¬ okI r.T t then 2 else if ¬ okI r.H h then 3 else if ¬ okI r.G g then 4 else if ¬ okN n 10000 then 5 else 0
def rtakeE (r:Rm) (t h g n:Int):Int:=if rlotsE r t h g n≠0 then rlotsE r t h g n else if r.pc t.toNat h.toNat g.toNat - r.kept t h g<n then 7 else 0
def rtakeM (r:Rm) (t h g n:Int):Rm:=if rtakeE r t h g n=0 then r.setPc t.toNat h.toNat g.toNat (r.pc t.toNat h.toNat g.toNat - n) else r

theorem rlotsE_zero {m:Rm} {t h g n:Int} (e:rlotsE m t h g n=0):okI m.T t∧okI m.H h∧okI m.G g∧okN n 10000:=by
  unfold rlotsE at e
  by_cases h1:okI m.T t
  · by_cases h2:okI m.H h
    · by_cases h3:okI m.G g
      · by_cases h4:okN n 10000
        · exact ⟨h1,h2,h3,h4⟩
        · simp [h1,h2,h3,h4] at e
      · simp [h1,h2,h3] at e
    · simp [h1,h2] at e
  · simp [h1] at e

set_option maxHeartbeats 400000 in
theorem refPay_any (w:World) (L:RL) (m:Rm) (K t x:Int) (R:RRep w L m) (o:m.Ok K) :
    Calls Tryz.prog 31 #[.pointer (some ⟨L.c,0,none⟩),.int .i64 t,.int .i64 x] w fun e w'=>e = .returned (.int .i64 (rpayE m t x))∧RPost w L (rpayM m t x) w':=by
  have c0:=R.c.cT.cell
  have c3:=R.c.cM.cell
  have cF:=R.c.cF.cell
  have bT:=o.T8
  have k0:=o.K0
  have k1:=o.K1
  have bho:=o.ho
  by_cases ht:okI m.T t
  · have j1:=hide (inB_okI ht)
    by_cases hx:okN x 1000000000000
    · obtain ⟨k,rfl⟩:=Int.eq_ofNat_of_zero_le ht.1
      have hk:k<m.T:=by have:=ht.2;omega
      have hx1:=hx.1
      have hx2:=hx.2
      obtain ⟨cm,cf⟩:=R.mo k hk
      obtain ⟨bm0,bm1⟩:=o.mo k hk
      go_enter Tryz.func31,Tryz.ntmps31
      go_wp2_with (first | (go_at_call 66;refine (trader_b _ _ _ _ c0).mono ?_;rw [j1.out];rintro e w' ⟨rfl,rfl⟩))
      go_loop [8,9] (fun a i=>∃ j:Nat,j≤m.T∧i = .int .i64 j∧a = .int .i64 (m.ho+x+sumTo m.mo j)) (fun _ i=>m.T - (intOf i).toNat)
      case atStart=>exact ⟨0,Nat.zero_le _,rfl,by simp [sumTo]⟩
      case round =>
        obtain ⟨j,hj,rfl,rfl⟩:=hrel
        have bs:=sumTo_bd m.mo 12000000000000 j (fun t ht=>by have:=o.mo t (by omega);omega)
        have bj2:(12000000000000:Int) * j≤12000000000000 * 8:=by omega
        by_cases hlt:j<m.T
        · have cj:=(R.mo j hlt).cell
          have bj:=o.mo j hlt
          have hlt':(j:Int)<(m.T:Int):=by omega
          go_wp2
          go_round
          case rel=>exact ⟨j+1,by omega,by go_num,by simp only [sumTo];go_num⟩
          case measure=>simp [intOf];omega
        · have:j=m.T:=by omega
          subst this
          by_cases hS:1000000000000<m.ho+x+sumTo m.mo m.T
          · go_wp2
            go_ret
            have e:Hid (rpayE m k x=8):=hide (by unfold rpayE;rw [if_neg (fun f=>f ht),if_neg (fun f=>f hx),if_pos hS])
            exact ⟨ret_int e.out.symm,by rw [rpayM,e.out];exact .same R (Kep.refl _ _)⟩
          · go_wp2
            go_region
            all_goals go_wp2
            all_goals go_ret
            all_goals have e:Hid (rpayE m k x=0):=hide (by unfold rpayE;rw [if_neg (fun f=>f ht),if_neg (fun f=>f hx),if_neg (Int.not_lt.2 hS)])
            all_goals exact ⟨ret_int e.out.symm,by rw [rpayM,e.out];exact (RPost.mo R (Kep.refl _ _) k hk _).later ((Kep.refl _ _).drew)⟩
    · have e:Hid (rpayE m t x=5):=hide (by unfold rpayE;rw [if_neg (fun f=>f ht),if_pos hx])
      have hx':x<1∨1000000000000<x:=by simp only [okN] at hx;omega
      clear hx
      rcases hx' with hx' | hx'
      all_goals
        go_enter Tryz.func31,Tryz.ntmps31
        go_wp2_with (first | (go_at_call 66;refine (trader_b _ _ _ _ c0).mono ?_;rw [j1.out];rintro e w' ⟨rfl,rfl⟩))
        go_ret
        exact ⟨ret_int e.out.symm,by rw [rpayM,e.out];exact .same R (Kep.refl _ _)⟩
  · have e:Hid (rpayE m t x=2):=hide (by unfold rpayE;rw [if_pos ht])
    have j1:=hide (inB_not ht)
    go_enter Tryz.func31,Tryz.ntmps31
    go_wp2_with (first | (go_at_call 66;refine (trader_b _ _ _ _ c0).mono ?_;rw [j1.out];rintro e w' ⟨rfl,rfl⟩))
    go_ret
    exact ⟨ret_int e.out.symm,by rw [rpayM,e.out];exact .same R (Kep.refl _ _)⟩

set_option maxHeartbeats 400000 in
theorem refDraw_any (w:World) (L:RL) (m:Rm) (K t x:Int) (R:RRep w L m) (o:m.Ok K) :
    Calls Tryz.prog 33 #[.pointer (some ⟨L.c,0,none⟩),.int .i64 t,.int .i64 x] w fun e w'=>e = .returned (.int .i64 (rdrawE m t x))∧RPost w L (rdrawM m t x) w':=by
  have c0:=R.c.cT.cell
  have k0:=o.K0
  have k1:=o.K1
  by_cases ht:okI m.T t
  · have j1:=hide (inB_okI ht)
    by_cases hx:okN x 1000000000000
    · obtain ⟨k,rfl⟩:=Int.eq_ofNat_of_zero_le ht.1
      have hk:k<m.T:=by have:=ht.2;omega
      have hx1:=hx.1
      have hx2:=hx.2
      obtain ⟨bm0,bm1⟩:=o.mo k hk
      have HF:=hide (rfree_any w L m K R o k hk)
      have hk':(k:Int)<(m.T:Int):=by omega
      by_cases hS:m.mo k - m.held k<x
      · have e:Hid (rdrawE m k x=6):=hide (by unfold rdrawE;rw [if_neg (fun f=>f ht),if_neg (fun f=>f hx)];exact if_pos hS)
        go_enter Tryz.func33,Tryz.ntmps33
        go_wp2_with (first | (go_at_call 66;refine (trader_b _ _ _ _ c0).mono ?_;rw [j1.out];rintro e w' ⟨rfl,rfl⟩))
        refine HF.out.mono ?_
        rintro e w1 ⟨rfl,hB⟩
        go_wp2
        go_ret
        exact ⟨ret_int e.out.symm,by rw [rdrawM,e.out];exact .same R (Kep.of_below hB)⟩
      · have e:Hid (rdrawE m k x=0):=hide (by unfold rdrawE;rw [if_neg (fun f=>f ht),if_neg (fun f=>f hx)];exact if_neg hS)
        go_enter Tryz.func33,Tryz.ntmps33
        go_wp2_with (first | (go_at_call 66;refine (trader_b _ _ _ _ c0).mono ?_;rw [j1.out];rintro e w' ⟨rfl,rfl⟩))
        refine HF.out.mono ?_
        rintro e w1 ⟨rfl,hB⟩
        have R1:=R.bel hB
        obtain ⟨cm,cf⟩:=R1.mo k hk
        have c3:=R1.c.cM.cell
        have HB:=hide hB
        clear hB R1
        go_wp2
        go_region
        all_goals go_wp2
        all_goals go_ret
        all_goals exact ⟨ret_int e.out.symm,by rw [rdrawM,e.out];exact (RPost.mo R (Kep.of_below HB.out) k hk _).later ((Kep.refl _ _).drew)⟩
    · have e:Hid (rdrawE m t x=5):=hide (by unfold rdrawE;rw [if_neg (fun f=>f ht),if_pos hx])
      have hx':x<1∨1000000000000<x:=by simp only [okN] at hx;omega
      clear hx
      rcases hx' with hx' | hx'
      all_goals
        go_enter Tryz.func33,Tryz.ntmps33
        go_wp2_with (first | (go_at_call 66;refine (trader_b _ _ _ _ c0).mono ?_;rw [j1.out];rintro e w' ⟨rfl,rfl⟩))
        go_ret
        exact ⟨ret_int e.out.symm,by rw [rdrawM,e.out];exact .same R (Kep.refl _ _)⟩
  · have e:Hid (rdrawE m t x=2):=hide (by unfold rdrawE;rw [if_pos ht])
    have j1:=hide (inB_not ht)
    go_enter Tryz.func33,Tryz.ntmps33
    go_wp2_with (first | (go_at_call 66;refine (trader_b _ _ _ _ c0).mono ?_;rw [j1.out];rintro e w' ⟨rfl,rfl⟩))
    go_ret
    exact ⟨ret_int e.out.symm,by rw [rdrawM,e.out];exact .same R (Kep.refl _ _)⟩

set_option maxHeartbeats 400000 in
theorem lots_any (w:World) (L:RL) (m:Rm) (t h g n:Int) (R:RRep w L m) :
    Calls Tryz.prog 86 #[.pointer (some ⟨L.c,0,none⟩),.int .i64 t,.int .i64 h,.int .i64 g,.int .i64 n] w fun e w'=>e = .returned (.int .i64 (rlotsE m t h g n))∧w'=w:=by
  have c0:=R.c.cT.cell
  have c1:=R.c.cG.cell
  have c2:=R.c.cR.cell
  go_enter Tryz.func86,Tryz.ntmps86
  go_wp2_with (first | (go_at_call 66;refine (trader_b _ _ _ _ c0).mono ?_;rintro e w' ⟨rfl,rfl⟩) | (go_at_call 91;refine (hall_b _ _ _ _ _ _ c2).mono ?_;rintro e w' ⟨rfl,rfl⟩) | (go_at_call 104;refine (good_b _ _ _ _ c1).mono ?_;rintro e w' ⟨rfl,rfl⟩))
  all_goals go_ret
  all_goals refine ⟨ret_int ?_,rfl⟩
  all_goals clear c0 c1 c2 R
  all_goals simp_all [rlotsE,inB,okN,okI]
  all_goals omega

set_option maxHeartbeats 400000 in
theorem refTake_any (w:World) (L:RL) (m:Rm) (K t h g n:Int) (R:RRep w L m) (o:m.Ok K) :
    Calls Tryz.prog 37 #[.pointer (some ⟨L.c,0,none⟩),.int .i64 t,.int .i64 h,.int .i64 g,.int .i64 n] w fun e w'=>e = .returned (.int .i64 (rtakeE m t h g n))∧RPost w L (rtakeM m t h g n) w':=by
  have k0:=o.K0
  have k1:=o.K1
  by_cases hl:rlotsE m t h g n=0
  · obtain ⟨⟨t0,t1⟩,⟨h0,h1⟩,⟨g0,g1⟩,⟨n0,n1⟩⟩:=rlotsE_zero hl
    obtain ⟨t,rfl⟩:=Int.eq_ofNat_of_zero_le t0
    obtain ⟨h,rfl⟩:=Int.eq_ofNat_of_zero_le h0
    obtain ⟨g,rfl⟩:=Int.eq_ofNat_of_zero_le g0
    have ht:t<m.T:=by omega
    have hh:h<m.H:=by omega
    have hg:g<m.G:=by omega
    obtain ⟨bm0,bm1⟩:=o.pc t h g ht hh hg
    have hlt:=lot_lt ht hh hg
    have HL:=hide (lots_any w L m t h g n R)
    rw [hl] at HL
    have HSp:=hide (rspare_any w L m K R o t h g ht hh hg)
    by_cases hS:m.pc t h g - m.kept t h g<n
    · have e:Hid (rtakeE m t h g n=7):=hide (by unfold rtakeE;rw [if_neg (fun f=>f hl)];exact if_pos hS)
      clear hl
      go_enter Tryz.func37,Tryz.ntmps37
      go_wp2_with fail
      refine HL.out.mono ?_
      rintro e w' ⟨rfl,rfl⟩
      go_wp2_with fail
      refine HSp.out.mono ?_
      rintro e w1 ⟨rfl,hB⟩
      go_wp2
      go_ret
      exact ⟨ret_int e.out.symm,by rw [rtakeM,e.out];exact .same R (Kep.of_below hB)⟩
    · have e:Hid (rtakeE m t h g n=0):=hide (by unfold rtakeE;rw [if_neg (fun f=>f hl)];exact if_neg hS)
      clear hl
      go_enter Tryz.func37,Tryz.ntmps37
      go_wp2_with fail
      refine HL.out.mono ?_
      rintro e w' ⟨rfl,rfl⟩
      go_wp2_with fail
      refine HSp.out.mono ?_
      rintro e w1 ⟨rfl,hB⟩
      have R1:=R.bel hB
      have HB:=hide hB
      go_wp2_with fail
      refine (rlot_any w1 L m K R1 o t h g ht hh hg).mono ?_
      rintro e w2 ⟨rfl,nd',rfl⟩
      obtain ⟨cm,cf⟩:=R1.pc t h g ht hh hg
      have c4:=R1.c.cP.cell
      generalize hk:(t * m.H+h) * m.G+g=k at *
      have HK:=hide hk
      clear hk hB
      generalize m.T * m.G * m.H=TT at *
      go_wp2
      go_region
      all_goals go_wp2
      all_goals go_ret
      all_goals exact ⟨ret_int e.out.symm,by rw [rtakeM,e.out];exact RPost.pcs R ((Kep.of_below HB.out).drewN _) t h g ht hh hg k HK.out _⟩
  · have e:Hid (rtakeE m t h g n=rlotsE m t h g n):=hide (by unfold rtakeE;rw [if_pos hl])
    have HL:=hide (lots_any w L m t h g n R)
    have hM:Hid (rtakeM m t h g n=m):=hide (by unfold rtakeM;rw [e.out,if_neg hl])
    generalize rlotsE m t h g n=E at *
    have hne:(E != 0)=true:=by simpa using hl
    clear hl
    go_enter Tryz.func37,Tryz.ntmps37
    go_wp2_with fail
    refine HL.out.mono ?_
    rintro e w' ⟨rfl,rfl⟩
    go_wp2
    go_ret
    exact ⟨ret_int e.out.symm,by rw [hM.out];exact .same R (Kep.refl _ _)⟩
end

end Go.Proofs.YtcfoobhihhndjaaGreat
