
import Derived.Test.YtcfoobhihhndjaaGreatB50
import Derived.Test.YtcfoobhihhndjaaGreatB51
namespace Go.Proofs.YtcfoobhihhndjaaGreat

section
open Go.RowKit Go.Sort

theorem row_some {w:World} {B:Nat} {e:TypeId} {z:Nat} {v:Value} {n:Nat} {xs:List Value} (h:w.ownsRow B e z v n xs) (hn:0<n):∃ b c,v = .slice (some ⟨b,0,none⟩) n c:=by
  rcases h.2 with ⟨e1,e2⟩ | ⟨b,cap,cur,e1,_⟩
  · omega
  · exact ⟨b,cap,e1⟩
def RLvPost (w:World) (gs:List Lv) (e:Ending) (w':World):Prop:=∃ v,e = .returned v∧w'.ownsRow w.heap.size 72 3 v gs.length (lvCells gs)∧Kep non w w'

theorem lvCells_at (a:List Lv) (x:Lv) (b:List Lv) (j:Nat) (hj:j<3):(lvCells (a ++ x :: b))[a.length * 3+j]? = x.cells[j]?:=by
  rw [lvCells_append,List.getElem?_append_right (by rw [lvCells_length];omega),lvCells_length]
  have:a.length * 3+j - a.length * 3=j:=by omega
  rw [this]
  show (x.cells ++ lvCells b)[j]? = _
  rw [List.getElem?_append_left (by simp [Lv.cells];omega)]

structure LvSum (w:World) (xb:Nat) (T q n:Int) (v:Value) (gs:List Lv) (W:World):Prop where
  a0:Own W ⟨xb,0,none⟩ (.int .i64 T)
  a1:Own W ⟨xb,1,none⟩ (.int .i64 q)
  a2:Own W ⟨xb,2,none⟩ (.int .i64 n)
  kp:Kep non w W
  row:W.ownsRow w.heap.size 72 3 v gs.length (lvCells gs)
  ne:∀ b,v.ownBlock=some b→b≠xb
  lo:w.heap.size≤xb

theorem LvSum.later {w W W':World} {xb:Nat} {T q n:Int} {v:Value} {gs:List Lv} (S:LvSum w xb T q n v gs W) (k:Kep non W W'):LvSum w xb T q n v gs W' :=
  ⟨S.a0.kep k (fun q=>q),S.a1.kep k (fun q=>q),S.a2.kep k (fun q=>q),S.kp.trans k,ownsRow_kep S.row k (fun _ _ q=>q),S.ne,S.lo⟩
theorem LvSum.add {w W:World} {xb:Nat} {T q n:Int} {v:Value} {gs:List Lv} (S:LvSum w xb T q n v gs W) (q' n':Int):LvSum w xb T q' n' v gs ((W.setCell ⟨xb,1,none⟩ (.int .i64 q')).setCell ⟨xb,2,none⟩ (.int .i64 n')) :=
  ⟨oc_ne (oc_ne S.a0 (by decide)) (by decide),oc_ne (S.a1.set rfl _) (by decide),(oc_ne S.a2 (by decide)).set rfl _,(S.kp.setCell (p:=⟨xb,1,none⟩) (.inr S.lo) _).setCell (p:=⟨xb,2,none⟩) (.inr S.lo) _,ownsRow_setCell_other (ownsRow_setCell_other S.row (fun q=>S.ne _ q rfl) _) (fun q=>S.ne _ q rfl) _,S.ne,S.lo⟩
theorem LvSum.new {w W:World} {T:Int} {v:Value} {gs:List Lv} (k:Kep non w W) (row:W.ownsRow w.heap.size 72 3 v gs.length (lvCells gs)) (t:TypeId):LvSum w W.heap.size T 0 0 v gs (W.alloc (.cells #[.int .i64 T,.int .i64 0,.int .i64 0] t)):=by
  have hb:=heap_alloc_new W (.cells #[.int .i64 T,.int .i64 0,.int .i64 0] t)
  refine ⟨⟨cell_of_row _ _ 0 _ _ _ hb,frozen_of_row _ _ 0 _ _ hb⟩,⟨cell_of_row _ _ 1 _ _ _ hb,frozen_of_row _ _ 1 _ _ hb⟩,⟨cell_of_row _ _ 2 _ _ _ hb,frozen_of_row _ _ 2 _ _ hb⟩,k.alloc _,row.alloc _,fun b hb f=>?_,k.size⟩
  have:=(row.lt b hb).2
  omega

theorem filter_take {p:Od→Bool} {l:List Od} {k:Nat} (hk:k<l.length):(l.take (k+1)).filter p=(l.take k).filter p ++ if p l[k]=true then [l[k]] else []:=by
  rw [List.take_succ_eq_append_getElem hk,List.filter_append]
  congr 1
  by_cases h:p l[k]=true
  · rw [if_pos h,List.filter_cons_of_pos h];rfl
  · rw [if_neg h,List.filter_cons_of_neg h];rfl
theorem sum_take {p:Od→Bool} {T:Int} {l:List Od} {k:Nat} (hk:k<l.length):sumQ T ((l.take (k+1)).filter p)=sumQ T ((l.take k).filter p)+(if p l[k]=true∧l[k].p=T then l[k].q else 0)∧cntP T ((l.take (k+1)).filter p)=cntP T ((l.take k).filter p)+(if p l[k]=true∧l[k].p=T then 1 else 0):=by
  rw [filter_take hk,sumQ_app,cntP_app]
  by_cases h:p l[k]=true
  · by_cases h2:l[k].p=T
    · rw [if_pos h,if_pos ⟨h,h2⟩,if_pos ⟨h,h2⟩];simp [sumQ,cntP,h2]
    · rw [if_pos h,if_neg (fun f=>h2 f.2),if_neg (fun f=>h2 f.2)];simp [sumQ,cntP,h2]
  · rw [if_neg h,if_neg (fun f=>h f.1),if_neg (fun f=>h f.1)];simp [sumQ,cntP]
theorem sum_bd {p:Od→Bool} (T:Int) {l:List Od} (hl:l.length≤60) (h:∀ o∈l,1≤o.q∧o.q≤10000) (k:Nat):(0≤sumQ T ((l.take k).filter p)∧sumQ T ((l.take k).filter p)≤600000)∧0≤cntP T ((l.take k).filter p)∧cntP T ((l.take k).filter p)≤60:=by
  have a:=sumQ_bd T (a:=(l.take k).filter p) fun o ho=>h o (List.mem_of_mem_take (List.mem_filter.1 ho).1)
  have b:((l.take k).filter p).length≤l.length:=Nat.le_trans (List.length_filter_le _ _) (by rw [List.length_take];exact Nat.min_le_right _ _)
  omega

theorem top_take {h g s:Nat} {gs:List Lv} {l:List Od} {k:Nat} (hk:k<l.length):lvTop h g s gs (l.take (k+1))=lvBst h g s gs (lvTop h g s gs (l.take k)) l[k]:=by
  unfold lvTop
  rw [List.take_succ_eq_append_getElem hk,List.foldl_append]
  rfl

set_option maxRecDepth 100000 in
set_option maxHeartbeats 4000000 in
theorem rlevels_0 (w:World) (L:RL) (r:Rm) (K:Int) (R:RRep w L r) (ok:r.Ok K) (h g:Nat) :
    Calls Tryz.prog 112 #[.pointer (some ⟨L.c,0,none⟩),.int .i64 h,.int .i64 g,.int .i64 0] w (RLvPost w (rlv h g 0 r.wt r.wt.length [])):=by
  obtain ⟨a,cap,hv⟩:=row_form R.wt
  have HR:=hide R
  have HV:=hide hv
  have HK:=hide ok
  have w60:=ok.w60
  clear R hv ok
  go_enter Tryz.func112,Tryz.ntmps112
  go_wp2
  go_loopw [9,10] (fun l p wr=>∃ gs:List Lv,gs.length≤r.wt.length∧p = .int .i64 ((gs.length+1:Nat):Int)∧rlv h g 0 r.wt r.wt.length []=rlv h g 0 r.wt (r.wt.length - gs.length) gs∧Kep non w wr∧wr.ownsRow w.heap.size 72 3 l gs.length (lvCells gs)) (fun _ p _=>r.wt.length+1 - (intOf p).toNat)
  case atStart=>exact ⟨[],Nat.zero_le _,rfl,rfl,Kep.refl _ _,by simpa [lvCells] using World.ownsRow_nil _ _ _ _⟩
  case round =>
    obtain ⟨gs,hgl,rfl,hrun,hkp,hown⟩:=hrel
    obtain ⟨va,vc,rfl⟩:=row_form hown
    have HRUN:=hide hrun
    have HOWN:=hide hown
    have HKP:=hide hkp
    have Rr:=HR.out.later hkp
    have c5:=Rr.c.cW.cell
    rw [HV.out] at c5
    have zw:=hkp.size
    clear hrun hown Rr
    by_cases hlt:gs.length<r.wt.length
    · go_upto_block 2 with fail
      clear hkp
      go_cut [11] (fun b wx=>b = .int .i64 (lvTop h g 0 gs r.wt)∧Kep non w wx∧wx.ownsRow w.heap.size 72 3 (.slice va gs.length vc) gs.length (lvCells gs))
      case first =>
        go_wp2_with fail
        go_loopw [11,12] (fun b i w2=>∃ k:Nat,k≤r.wt.length∧i = .int .i64 k∧b = .int .i64 (lvTop h g 0 gs (r.wt.take k))∧Kep non w w2∧w2.ownsRow w.heap.size 72 3 (.slice va gs.length vc) gs.length (lvCells gs)) (fun _ i _=>r.wt.length - (intOf i).toNat)
        case atStart=>exact ⟨0,Nat.zero_le _,rfl,rfl,HKP.out,HOWN.out⟩
        case round =>
          clear c5
          obtain ⟨k,hk,rfl,rfl,kp2,own2⟩:=hrel
          have R2:=HR.out.later kp2
          have c5:=R2.c.cW.cell
          rw [HV.out] at c5
          by_cases hlk:k<r.wt.length
          · obtain ⟨lb,cap',hv,hc⟩:=ord_cells R2.wt k hlk
            rw [HV.out] at hv
            simp only [Value.slice.injEq,true_and] at hv
            obtain ⟨rfl,rfl⟩:=hv
            obtain ⟨q0,q1,q2,q3,q4,q5,q6,q7⟩:=ord_eight hc
            have HS:=hide (top_take (h:=h) (g:=g) (s:=0) (gs:=gs) hlk)
            clear hc R2
            generalize r.wt[k]=l at *
            generalize lvTop h g 0 gs (r.wt.take k)=B at *
            have HO2:=hide own2
            have HK2:=hide kp2
            have BX:=box_own wr l 40
            have kb:Kep non wr (wr.alloc (.cells #[.int .i64 l.id,.int .i64 l.t,.int .i64 l.h,.int .i64 l.g,.int .i64 l.s,.int .i64 l.p,.int .i64 l.q,.int .i64 l.w] 40)):=(Kep.refl _ _).alloc _
            have HBX:=hide BX
            have HKB:=hide kb
            clear BX kb
            go_upto_region 10 with fail
            clear q0 q1 q2 q3 q4 q5 q6 q7 c5
            generalize wr.alloc (.cells #[.int .i64 l.id,.int .i64 l.t,.int .i64 l.h,.int .i64 l.g,.int .i64 l.s,.int .i64 l.p,.int .i64 l.q,.int .i64 l.w] 40)=W3 at *
            generalize wr.heap.size=ob at *
            obtain ⟨y2,_⟩:=HBX.out 2 _ rfl
            obtain ⟨y3,_⟩:=HBX.out 3 _ rfl
            obtain ⟨y4,_⟩:=HBX.out 4 _ rfl
            obtain ⟨y5,_⟩:=HBX.out 5 _ rfl
            go_cut [14] (fun v wx=>v = .bool (lvLater 0 gs l)∧Kep non W3 wx)
            case first =>
              rcases List.eq_nil_or_concat gs with e | ⟨g0,z,e⟩
              · have f0:((gs.length:Int) == 0)=true:=by rw [e];rfl
                have HL:Hid (lvLater 0 gs l=true):=hide (by rw [e];rfl)
                clear e
                go_quiet (fail)
                go_step
                go_step
                go_meet
                exact ⟨by rw [HL.out],by first | exact (Kep.refl _ _).drewN _ | exact Kep.refl _ _⟩
              · rw [List.concat_eq_append] at e
                have HL:Hid (lvLater 0 gs l=decide (l.p<z.p)):=hide (by rw [e];simp [lvLater])
                obtain ⟨gb,vc',hf⟩:=row_some HO2.out (by rw [e];simp)
                simp only [Value.slice.injEq,true_and] at hf
                obtain ⟨rfl,rfl⟩:=hf
                obtain ⟨n,hn⟩ : ∃ n,gs.length=n+1:=⟨g0.length,by rw [e];simp⟩
                have hc:W3.cell? ⟨gb,n * 3,none⟩=some (.int .i64 z.p):=by
                  have row:=ownsRow_kep HO2.out HKB.out (fun b _ q=>q)
                  have:=row.cellAt (n * 3) (by rw [hn];omega)
                  rw [this,e]
                  have hn':n=g0.length:=by rw [e] at hn;simp at hn;omega
                  rw [hn']
                  exact lvCells_at g0 z [] 0 (by decide)
                have f0:((gs.length:Int) == 0)=false:=by simp only [beq_eq_false_iff_ne,ne_eq];omega
                have hw:IntKind.i64.wrap ((gs.length:Int) - 1)=(n:Int):=by simp only [IntKind.wrap_i64];omega
                have f2:(n:Int)<(gs.length:Int):=by omega
                clear e hn
                by_cases hp:l.p<z.p
                · go_quiet (simp only [hw])
                  go_step
                  go_step
                  go_meet
                  exact ⟨by rw [HL.out];simp [hp],by first | exact (Kep.refl _ _).drewN _ | exact Kep.refl _ _⟩
                · go_quiet (simp only [hw])
                  go_step
                  go_step
                  go_meet
                  exact ⟨by rw [HL.out];simp [hp],by first | exact (Kep.refl _ _).drewN _ | exact Kep.refl _ _⟩
            case rest =>
              obtain ⟨rfl,k4⟩:=hcut
              have y2:=k4.cell y2 (fun q=>q)
              have y3:=k4.cell y3 (fun q=>q)
              have y4:=k4.cell y4 (fun q=>q)
              have y5:=k4.cell y5 (fun q=>q)
              have K4:=hide (show Kep non w wc from (HK2.out.trans HKB.out).trans k4)
              have O4:=hide (show wc.ownsRow w.heap.size 72 3 (.slice va gs.length vc) gs.length (lvCells gs) from ownsRow_kep HO2.out (HKB.out.trans k4) (fun b _ q=>q))
              have HNX:Hid (∀ X,X=lvTop h g 0 gs (r.wt.take (k+1))→∃ j:Nat,j≤r.wt.length∧(Value.int .i64 ((k:Int)+1)) = .int .i64 j∧(Value.int .i64 X) = .int .i64 (lvTop h g 0 gs (r.wt.take j))∧Kep non w wc∧wc.ownsRow w.heap.size 72 3 (.slice va gs.length vc) gs.length (lvCells gs)):=hide fun X hX=>⟨k+1,by omega,by simp,by rw [hX],K4.out,O4.out⟩
              clear k4 HBX HKB HO2 HK2
              by_cases c1:l.h=(h:Int)
              · have f1:(l.h == (h:Int))=true:=by simpa using c1
                by_cases c2:l.g=(g:Int)
                · have f2:(l.g == (g:Int))=true:=by simpa using c2
                  by_cases c3:l.s=0
                  · have f3:(l.s == 0)=true:=by simpa using c3
                    have hin:lvIn h g 0 l=true:=by simp [lvIn,c1,c2,c3]
                    clear c1 c2 c3
                    by_cases c4:lvLater 0 gs l=true
                    · by_cases c5:B=0
                      · have f5:(B == 0)=true:=by simpa using c5
                        have hS:l.p=lvTop h g 0 gs (r.wt.take (k+1)):=by
                          rw [HS.out,lvBst,if_pos ⟨hin,c4,by simp [lvNext,c5]⟩]
                        have HD:=hide (HNX.out l.p hS)
                        clear hS c5 HS HNX
                        go_wp2
                        exact ⟨by first | exact HD.out | simpa using HD.out,by simp [intOf];omega⟩
                      · have f5:(B == 0)=false:=by simpa using c5
                        by_cases c6:B<l.p
                        · have hS:l.p=lvTop h g 0 gs (r.wt.take (k+1)):=by
                            rw [HS.out,lvBst]
                            rw [if_pos ⟨hin,c4,by simp [lvNext];omega⟩]
                          have HD:=hide (HNX.out _ hS)
                          clear hS c5 HS HNX
                          go_wp2
                          exact ⟨by first | exact HD.out | simpa using HD.out,by simp [intOf];omega⟩
                        · have hS:B=lvTop h g 0 gs (r.wt.take (k+1)):=by
                            rw [HS.out,lvBst]
                            rw [if_neg (fun f=>by have:=f.2.2;simp [lvNext] at this;omega)]
                          have HD:=hide (HNX.out _ hS)
                          clear hS c5 HS HNX
                          go_wp2
                          exact ⟨by first | exact HD.out | simpa using HD.out,by simp [intOf];omega⟩
                    · have f4:lvLater 0 gs l=false:=by simpa using c4
                      have hS:B=lvTop h g 0 gs (r.wt.take (k+1)):=by
                        rw [HS.out,lvBst,if_neg (fun f=>c4 f.2.1)]
                      have HD:=hide (HNX.out B hS)
                      clear c4 hS HS HNX
                      go_wp2
                      exact ⟨by first | exact HD.out | simpa using HD.out,by simp [intOf];omega⟩
                  · have f3:(l.s == 0)=false:=by simpa using c3
                    have hS:B=lvTop h g 0 gs (r.wt.take (k+1)):=by
                      rw [HS.out,lvBst,if_neg (fun f=>by simp [lvIn,c3] at f)]
                    have HD:=hide (HNX.out B hS)
                    clear c1 c2 c3 hS
                    go_wp2
                    exact ⟨by first | exact HD.out | simpa using HD.out,by simp [intOf];omega⟩
                · have f2:(l.g == (g:Int))=false:=by simpa using c2
                  have hS:B=lvTop h g 0 gs (r.wt.take (k+1)):=by
                    rw [HS.out,lvBst,if_neg (fun f=>by simp [lvIn,c2] at f)]
                  have HD:=hide (HNX.out B hS)
                  clear c1 c2 hS
                  go_wp2
                  exact ⟨by first | exact HD.out | simpa using HD.out,by simp [intOf];omega⟩
              · have f1:(l.h == (h:Int))=false:=by simpa using c1
                have hS:B=lvTop h g 0 gs (r.wt.take (k+1)):=by
                  rw [HS.out,lvBst,if_neg (fun f=>by simp [lvIn,c1] at f)]
                have HD:=hide (HNX.out B hS)
                clear c1 hS
                go_wp2
                exact ⟨by first | exact HD.out | simpa using HD.out,by simp [intOf];omega⟩
          · go_wp2
            go_meet
            rw [List.take_of_length_le (by omega)]
            exact ⟨rfl,kp2,own2⟩
      case rest =>
        obtain ⟨rfl,k2,own2⟩:=hcut
        generalize hT:lvTop h g 0 gs r.wt=T at *
        have HTP:=hide hT
        have K2:=hide k2
        have O2:=hide own2
        have HKQ:=hide (fun (x:Od) (hx:x∈r.wt)=>(HK.out.wt x hx).2.2.2.2.2)
        clear hT k2 own2 c5
        by_cases c:T=0
        · have f:(T == 0)=true:=by simpa using c
          have hrun:rlv h g 0 r.wt r.wt.length []=gs:=by
            rw [HRUN.out,show r.wt.length - gs.length=(r.wt.length - gs.length - 1)+1 by omega,rlv,HTP.out,if_pos c]
          have HRN:=hide hrun
          clear hrun c
          go_wp2
          exact bodyPost_ret (v:=.slice va gs.length vc) (by simp [results,Tryz.results112,go_sem]) rfl ⟨_,rfl,by rw [HRN.out];exact O2.out,K2.out⟩
        · have f:(T == 0)=false:=by simpa using c
          have hrun:rlv h g 0 r.wt r.wt.length []=rlv h g 0 r.wt (r.wt.length - (gs.length+1)) (gs ++ [lvOf h g 0 T r.wt]):=by
            rw [HRUN.out,show r.wt.length - gs.length=(r.wt.length - (gs.length+1))+1 by omega,rlv,HTP.out,if_neg c]
          have HRN:=hide hrun
          have HSN:=hide (LvSum.new (T:=T) K2.out O2.out 72)
          clear hrun c HRUN HTP HOWN HKP
          go_upto_block 4 with fail
          generalize wc.alloc (.cells #[.int .i64 T,.int .i64 0,.int .i64 0] 72)=W5 at *
          generalize wc.heap.size=xb at *
          clear K2 O2
          go_cut [] (fun wx=>LvSum w xb T (sumQ T (r.wt.filter (lvIn h g 0))) (cntP T (r.wt.filter (lvIn h g 0))) (.slice va gs.length vc) gs wx)
          case first =>
            go_wp2_with fail
            go_loopw [16] (fun i wr=>∃ k:Nat,k≤r.wt.length∧i = .int .i64 k∧LvSum w xb T (sumQ T ((r.wt.take k).filter (lvIn h g 0))) (cntP T ((r.wt.take k).filter (lvIn h g 0))) (.slice va gs.length vc) gs wr) (fun i _=>r.wt.length - (intOf i).toNat)
            case atStart=>exact ⟨0,Nat.zero_le _,rfl,HSN.out⟩
            case round =>
              obtain ⟨k,hk,rfl,S⟩:=hrel
              have Rr:=HR.out.later S.kp
              have c5:=Rr.c.cW.cell
              rw [HV.out] at c5
              by_cases hlk:k<r.wt.length
              · obtain ⟨lb,cap',hv,hc⟩:=ord_cells Rr.wt k hlk
                rw [HV.out] at hv
                simp only [Value.slice.injEq,true_and] at hv
                obtain ⟨rfl,rfl⟩:=hv
                obtain ⟨q0,q1,q2,q3,q4,q5,q6,q7⟩:=ord_eight hc
                obtain ⟨hs1,hs2⟩:=sum_take (p:=lvIn h g 0) (T:=T) hlk
                obtain ⟨⟨b0,b1⟩,b2,b3⟩:=sum_bd (p:=lvIn h g 0) T w60 HKQ.out k
                obtain ⟨lq0,lq1⟩:=HKQ.out r.wt[k] (List.getElem_mem hlk)
                have HS1:=hide hs1
                have HS2:=hide hs2
                have HSS:=hide S
                clear hc Rr hs1 hs2 S HSN
                generalize r.wt[k]=l at *
                generalize sumQ T ((r.wt.take k).filter (lvIn h g 0))=sq at *
                generalize cntP T ((r.wt.take k).filter (lvIn h g 0))=sn at *
                have HBX:=hide (box_own wr l 40)
                have HS3:=hide (HSS.out.later ((Kep.refl non wr).alloc (.cells #[.int .i64 l.id,.int .i64 l.t,.int .i64 l.h,.int .i64 l.g,.int .i64 l.s,.int .i64 l.p,.int .i64 l.q,.int .i64 l.w] 40)))
                have xlo:xb<wr.heap.size:=World.block_lt_of_cell? _ _ HSS.out.a0.cell
                go_upto_region 19 with fail
                clear q0 q1 q2 q3 q4 q5 q6 q7 c5 HSS
                generalize wr.alloc (.cells #[.int .i64 l.id,.int .i64 l.t,.int .i64 l.h,.int .i64 l.g,.int .i64 l.s,.int .i64 l.p,.int .i64 l.q,.int .i64 l.w] 40)=W3 at *
                generalize wr.heap.size=ob at *
                obtain ⟨y2,_⟩:=HBX.out 2 _ rfl
                obtain ⟨y3,_⟩:=HBX.out 3 _ rfl
                obtain ⟨y4,_⟩:=HBX.out 4 _ rfl
                obtain ⟨y5,_⟩:=HBX.out 5 _ rfl
                obtain ⟨y6,_⟩:=HBX.out 6 _ rfl
                obtain ⟨x1,z1⟩:=HS3.out.a1
                obtain ⟨x2,z2⟩:=HS3.out.a2
                have nob:ob≠xb:=by omega
                have nxb:xb≠ob:=by omega
                have HNO:Hid (¬ (lvIn h g 0 l=true∧l.p=T)→∃ j:Nat,j≤r.wt.length∧(Value.int .i64 ((k:Int)+1)) = .int .i64 j∧LvSum w xb T (sumQ T ((r.wt.take j).filter (lvIn h g 0))) (cntP T ((r.wt.take j).filter (lvIn h g 0))) (.slice va gs.length vc) gs W3):=hide fun hn=>⟨k+1,by omega,by simp,by rw [HS1.out,HS2.out,if_neg hn,if_neg hn,Int.add_zero,Int.add_zero];exact HS3.out⟩
                by_cases c1:l.h=(h:Int)
                · have f1:(l.h == (h:Int))=true:=by simpa using c1
                  by_cases c2:l.g=(g:Int)
                  · have f2:(l.g == (g:Int))=true:=by simpa using c2
                    by_cases c3:l.s=0
                    · have f3:(l.s == 0)=true:=by simpa using c3
                      by_cases c4:l.p=T
                      · have f4:(l.p == T)=true:=by simpa using c4
                        have HD:Hid (∃ j:Nat,j≤r.wt.length∧(Value.int .i64 ((k:Int)+1)) = .int .i64 j∧LvSum w xb T (sumQ T ((r.wt.take j).filter (lvIn h g 0))) (cntP T ((r.wt.take j).filter (lvIn h g 0))) (.slice va gs.length vc) gs ((W3.setCell ⟨xb,1,none⟩ (.int .i64 (sq+l.q))).setCell ⟨xb,2,none⟩ (.int .i64 (sn+1)))):=hide (by
                          have hy:lvIn h g 0 l=true∧l.p=T:=⟨by simp [lvIn,c1,c2,c3],c4⟩
                          refine ⟨k+1,by omega,by simp,?_⟩
                          rw [HS1.out,HS2.out,if_pos hy,if_pos hy]
                          exact HS3.out.add _ _)
                        clear c1 c2 c3 c4 HNO HS1 HS2
                        go_wp2
                        exact ⟨by first | exact HD.out | simpa using HD.out,by simp [intOf];omega⟩
                      · have f4:(l.p == T)=false:=by simpa using c4
                        have HD:=hide (HNO.out (fun f=>c4 f.2))
                        clear c1 c2 c3 c4 HNO HS1 HS2
                        go_wp2
                        exact ⟨by first | exact HD.out | simpa using HD.out,by simp [intOf];omega⟩
                    · have f3:(l.s == 0)=false:=by simpa using c3
                      have HD:=hide (HNO.out (fun f=>by simp [lvIn,c3] at f))
                      clear c1 c2 c3 HNO HS1 HS2
                      go_wp2
                      exact ⟨by first | exact HD.out | simpa using HD.out,by simp [intOf];omega⟩
                  · have f2:(l.g == (g:Int))=false:=by simpa using c2
                    have HD:=hide (HNO.out (fun f=>by simp [lvIn,c2] at f))
                    clear c1 c2 HNO HS1 HS2
                    go_wp2
                    exact ⟨by first | exact HD.out | simpa using HD.out,by simp [intOf];omega⟩
                · have f1:(l.h == (h:Int))=false:=by simpa using c1
                  have HD:=hide (HNO.out (fun f=>by simp [lvIn,c1] at f))
                  clear c1 HNO HS1 HS2
                  go_wp2
                  exact ⟨by first | exact HD.out | simpa using HD.out,by simp [intOf];omega⟩
              · rw [List.take_of_length_le (by omega)] at S
                go_wp2
                go_meet
                exact S
          case rest =>
            have S:=hcut
            obtain ⟨x0,_⟩:=S.a0
            obtain ⟨x1,_⟩:=S.a1
            obtain ⟨x2,_⟩:=S.a2
            have hown:=S.row
            have kpc:=S.kp
            have lw:=kpc.size
            have HOF:Hid (lvOf h g 0 T r.wt=⟨T,sumQ T (r.wt.filter (lvIn h g 0)),cntP T (r.wt.filter (lvIn h g 0))⟩):=hide rfl
            clear hcut S HSN
            generalize sumQ T (r.wt.filter (lvIn h g 0))=sq at *
            generalize cntP T (r.wt.filter (lvIn h g 0))=sn at *
            generalize lvOf h g 0 T r.wt=nl at *
            obtain ⟨i0,hi0,hz0,hz1,hz2⟩:=info_parts infoLevel
            go_wp2_with (at_builtin;refine wpList_append_lies _ rfl _ _ _ rfl w.heap.size 72 i0 _ 3 24 Tryz.underlying70 hi0 hz0 hz1 hz2 rfl (by omega) _ gs.length (lvCells gs) rfl (by exact hown.alloc _) ⟨wc.heap.size,0,none⟩ 1 1 (Lv.cells ⟨T,sq,sn⟩) rfl rfl ?hnews ?h1 (by omega) ?h63 (by omega) ?hbase (wc.heap.size+1) (by simp) ?_)
            case hnews =>
              refine World.news_of_block (cs:=#[.int .i64 T,.int .i64 sq,.int .i64 sn]) (t:=72) (fr:=(0,0)) ?_
              have:=heap_alloc_new wc (Obj.cells #[.int .i64 T,.int .i64 sq,.int .i64 sn] 72)
              simpa using this
            case h1=>simp [Lv.cells,Value.oneCell']
            case h63=>simp only [maxLen];omega
            case hbase=>simp;omega
            intro gg cp w2 hown1 hgrow hat hlt1
            go_wp2
            have fresh:∀ b,(Value.slice va gs.length vc).ownBlock=some b→w.heap.size≤b:=fun b hb=>(hown.lt b hb).1
            have k1:Kep (fun b=>(Value.slice va gs.length vc).ownBlock=some b) wc w2:=((Kep.refl _ _).alloc _).grown hgrow (fun b hb=>.inl hb)
            refine ⟨⟨gs ++ [nl],by simp;omega,by simp,?_,kpc.trans' k1 (fun b hb=>.inr (fresh b hb)),?_⟩,by simp [intOf];omega⟩
            · rw [HRN.out]
              simp
            · rw [HOF.out]
              simpa [lvCells_append,lvCells] using hown1
    · have e0:r.wt.length - gs.length=0:=by omega
      have hrun:=HRUN.out
      rw [e0,rlv] at hrun
      go_wp2
      exact bodyPost_ret (v:=.slice va gs.length vc) (by simp [results,Tryz.results112,go_sem]) rfl ⟨_,rfl,by rw [hrun];exact HOWN.out,hkp⟩
end

end Go.Proofs.YtcfoobhihhndjaaGreat
