
import Derived.Deep.RegionWith
import Derived.Test.YtcfoobhihhndjaaGreatB21
import Derived.Test.YtcfoobhihhndjaaGreatB30
import Derived.Test.YtcfoobhihhndjaaGreatB31
namespace Go.Proofs.YtcfoobhihhndjaaGreat

section
open Go.RowKit

theorem info_stocks:(Tryz.prog.info? 60).map (fun i=>(i.zero,i.size,i.bytes))=some (some (.slice none 0 0),1,24):=by kernel_rfl
theorem infoE_stocks:(Tryz.prog.info? 63).map (fun i=>(i.zero,i.size,i.bytes))=some (some (.agg #[.int .i64 0,.int .i64 0,.int .i64 0,.int .i64 0,.int .i64 0]),5,40):=by kernel_rfl

set_option maxRecDepth 100000 in
set_option maxHeartbeats 8000000 in
theorem lay_stocks (w:World) (p B0:Nat) (av:Value) (al:List Value) (l:Value) (n c:Nat) (hc1:Own w ⟨p,1,none⟩ av) (hav:w.ownsRow B0 60 1 av al.length al) (hb0:B0≤w.heap.size) (hl:LRow w l 5 n c) (hbz:∀ b,l.ownBlock=some b→b<w.heap.size) (hlp:l.ownBlock≠some p) (hle:∀ b,l.ownBlock=some b→av.ownBlock≠some b) (hep:av.ownBlock≠some p)
    (hna:al.length≤4000000) (hn:n≤1000) :
    Calls Tryz.prog 25 #[.pointer (some ⟨p,1,none⟩),l] w fun e w'=>e = .returned (.tuple #[])∧Laid 1 60 5 w p B0 av al l w':=by
  obtain ⟨a,rfl⟩:=hl.form
  obtain ⟨aa,ac,hav0⟩:=row_form hav
  subst hav0
  obtain ⟨i3,hi3,hz30,hz31,hz32⟩:=info_parts infoE_stocks
  have c1:=hc1.cell
  have HL:=hide hl
  have H1:=hide hc1
  have HE:=hide hav
  clear hc1 hav
  generalize hnal:al.length=na at *
  have HNA:=hide hnal
  clear hnal
  go_enter Tryz.func25,Tryz.ntmps25
  go_upto_region 1 with fail
  have hl0:LRow (w.alloc (.cells #[.int .i64 (-7070 - (na:Int)),.int .i64 0,.int .i64 0,.int .i64 0,.int .i64 0] 63)) (.slice a n c) 5 n c:=hl.ext (row:=none) (.of_keeps ((Kep.refl _ _).alloc _))
  have z0:=fun j=>cell_of_row _ _ j _ _ _ (heap_alloc_new w (.cells #[.int .i64 (-7070 - (na:Int)),.int .i64 0,.int .i64 0,.int .i64 0,.int .i64 0] 63))
  have hzb:¬ (Value.slice a n c).ownBlock=some w.heap.size:=fun h=>by have:=hbz _ h;omega
  have y0:=z0 0
  have y1:=z0 1
  have y2:=z0 2
  have y3:=z0 3
  have y4:=z0 4
  clear z0
  simp only [List.getElem?_toArray,List.getElem?_cons_zero,List.getElem?_cons_succ] at y0 y1 y2 y3 y4
  have KW:Hid (Kep non w (w.alloc (.cells #[.int .i64 (-7070 - (na:Int)),.int .i64 0,.int .i64 0,.int .i64 0,.int .i64 0] 63))):=hide ((Kep.refl _ _).alloc _)
  have wsz:(w.alloc (.cells #[.int .i64 (-7070 - (na:Int)),.int .i64 0,.int .i64 0,.int .i64 0,.int .i64 0] 63)).heap.size=w.heap.size+1:=World.size_alloc _ _
  generalize w.alloc (.cells #[.int .i64 (-7070 - (na:Int)),.int .i64 0,.int .i64 0,.int .i64 0,.int .i64 0] 63)=W0 at *
  have HZ:=hide wsz
  have HBZ:=hide hbz
  clear wsz
  generalize hzbe:w.heap.size=zb at *
  have HZB:=hide hzbe
  clear hzbe
  have zlt:zb<W0.heap.size:=World.block_lt_of_cell? W0 _ y0
  clear hl c1
  go_cut [5] (fun s5 wx=>∃ nb G C A,s5 = .slice (some ⟨nb,0,none⟩) 4 4∧Four W0 (Value.slice a n c).ownBlock nb n 5 G C A 61 wx)
  case first =>
    have HS:Hid (∀ w',Whence (Value.slice a n c).ownBlock W0 w'→(w'.cell? ⟨zb,0,none⟩=some (.int .i64 (-7070 - (na:Int)))∧w'.cell? ⟨zb,1,none⟩=some (.int .i64 0)∧w'.cell? ⟨zb,2,none⟩=some (.int .i64 0)∧w'.cell? ⟨zb,3,none⟩=some (.int .i64 0)∧w'.cell? ⟨zb,4,none⟩=some (.int .i64 0))) :=
      hide fun w' h=>⟨h.out.kp.cell y0 hzb,h.out.kp.cell y1 hzb,h.out.kp.cell y2 hzb,h.out.kp.cell y3 hzb,h.out.kp.cell y4 hzb⟩
    have hown:∀ b,(Value.slice a n c).ownBlock=some b→b<zb:=hbz
    go_region_held3 (fun w'=>w'.cell? ⟨zb,0,none⟩=some (.int .i64 (-7070 - (na:Int)))∧w'.cell? ⟨zb,1,none⟩=some (.int .i64 0)∧w'.cell? ⟨zb,2,none⟩=some (.int .i64 0)∧w'.cell? ⟨zb,3,none⟩=some (.int .i64 0)∧w'.cell? ⟨zb,4,none⟩=some (.int .i64 0))
      ((refine HS.out _ ?_;(repeat (first | apply Whence.drew | apply Whence.alloc));first | exact Whence.refl _ _ | exact hW1 | exact hW2 | exact hW3))
      ((first
        | (refine step_app' W0 (by rfl) (.tmp 16) (.tmp 18) 61 (by rfl) 63 i3 _ 5 40 Tryz.underlying61 hi3 hz30 hz31 hz32 rfl (by omega) (by omega) (.slice a n c) n c (by rfl) hl0 (by (repeat (first | apply Whence.drew | apply Whence.alloc));first | exact Whence.refl _ _ | exact hW1 | exact hW2 | exact hW3) _ _ _ (by rfl) _ 63 (by repeat (first | exact heap_alloc_new _ _ | (refine blk_new ?_;simp;done) | refine blk_alloc ?_ | refine blk_ext hE1 (fun b hb=>by have:=hown b hb;omega) ?_ | refine blk_ext hE2 (fun b hb=>by have:=hown b hb;omega) ?_ | refine blk_ext hE3 (fun b hb=>by have:=hown b hb;omega) ?_)) (by rfl) (by simp [Value.oneCell']) (by omega) (by omega) ?_;intro g1 d1 w1 hg1 ht1 hE1 hW1;have hs1:=hW1.size)
        | (refine step_app' W0 (by rfl) (.tmp 20) (.tmp 23) 61 (by rfl) 63 i3 _ 5 40 Tryz.underlying61 hi3 hz30 hz31 hz32 rfl (by omega) (by omega) (.slice a n c) n c (by rfl) hl0 (by (repeat (first | apply Whence.drew | apply Whence.alloc));first | exact Whence.refl _ _ | exact hW1 | exact hW2 | exact hW3) _ _ _ (by rfl) _ 63 (by repeat (first | exact heap_alloc_new _ _ | (refine blk_new ?_;simp;done) | refine blk_alloc ?_ | refine blk_ext hE1 (fun b hb=>by have:=hown b hb;omega) ?_ | refine blk_ext hE2 (fun b hb=>by have:=hown b hb;omega) ?_ | refine blk_ext hE3 (fun b hb=>by have:=hown b hb;omega) ?_)) (by rfl) (by simp [Value.oneCell']) (by omega) (by omega) ?_;intro g2 d2 w2 hg2 ht2 hE2 hW2;have hs2:=hW2.size)
        | (refine step_app' W0 (by rfl) (.tmp 25) (.tmp 29) 61 (by rfl) 63 i3 _ 5 40 Tryz.underlying61 hi3 hz30 hz31 hz32 rfl (by omega) (by omega) (.slice a n c) n c (by rfl) hl0 (by (repeat (first | apply Whence.drew | apply Whence.alloc));first | exact Whence.refl _ _ | exact hW1 | exact hW2 | exact hW3) _ _ _ (by rfl) _ 63 (by repeat (first | exact heap_alloc_new _ _ | (refine blk_new ?_;simp;done) | refine blk_alloc ?_ | refine blk_ext hE1 (fun b hb=>by have:=hown b hb;omega) ?_ | refine blk_ext hE2 (fun b hb=>by have:=hown b hb;omega) ?_ | refine blk_ext hE3 (fun b hb=>by have:=hown b hb;omega) ?_)) (by rfl) (by simp [Value.oneCell']) (by omega) (by omega) ?_;intro g3 d3 w3 hg3 ht3 hE3 hW3;have hs3:=hW3.size)))
    all_goals go_step
    all_goals go_step
    all_goals go_meet
    all_goals refine ⟨_,_,_,_,rfl,four_any (g1:=g1) (g2:=g2) (g3:=g3) (by omega) hl0 ?_ hg1 ?_ hg2 ?_ hg3 ?_⟩
    all_goals first | with_reducible exact hW1.out | with_reducible exact hW2.out | with_reducible exact hW3.out | (repeat (first | with_reducible exact ht1 | with_reducible exact ht2 | with_reducible exact ht3 | with_reducible refine There.alloc ?_ _ | with_reducible refine There.dr ?_ | with_reducible refine hE1.th _ _ ?_ | with_reducible refine hE2.th _ _ ?_ | with_reducible refine hE3.th _ _ ?_))
  case rest =>
    obtain ⟨nb,G,C,A,rfl,F0⟩:=hcut
    clear hl0
    go_wp2
    go_loopw [6] (fun i wr=>∃ k:Nat,k≤4∧i = .int .i64 k∧Four W0 (Value.slice a n c).ownBlock nb n 5 G C A 61 wr∧Done n 5 G [Value.int .i64 (-7070 - (na:Int)),.int .i64 0,.int .i64 0,.int .i64 0,.int .i64 0] k wr) (fun i _=>4 - (intOf i).toNat)
    case atStart=>exact ⟨0,by omega,rfl,F0,fun q hq=>by omega⟩
    case round =>
      clear F0
      obtain ⟨k,hk,rfl,F,hdone⟩:=hrel
      by_cases hlt:k<4
      · go_wp2
        go_loopw [7] (fun i wr=>∃ j:Nat,j≤n+k∧i = .int .i64 j∧Four W0 (Value.slice a n c).ownBlock nb n 5 G C A 61 wr∧Done n 5 G [Value.int .i64 (-7070 - (na:Int)),.int .i64 0,.int .i64 0,.int .i64 0,.int .i64 0] k wr∧∀ x,x<j→∀ i u,[Value.int .i64 (-7070 - (na:Int)),.int .i64 0,.int .i64 0,.int .i64 0,.int .i64 0][i]? = some u→wr.cell? ⟨G k,x * 5+i,none⟩=some u) (fun i _=>n+k - (intOf i).toNat)
        case atStart=>exact ⟨0,by omega,rfl,F,hdone,fun i hi=>by omega⟩
        case round =>
          clear F hdone
          obtain ⟨j,hj,rfl,F,hdone,hrow⟩:=hrel
          have cl:=F.at k hlt
          have hk4:(k:Int)<4:=by omega
          by_cases hjk:j<n+k
          · have ha:=F.adr k hlt (by omega)
            rw [ha] at cl
            have th:=F.th k hlt (by omega)
            obtain ⟨u0,v0,f0⟩:=th.at (j * 5) (by omega)
            obtain ⟨u1,v1,f1⟩:=th.at (j * 5+1) (by omega)
            obtain ⟨u2,v2,f2⟩:=th.at (j * 5+2) (by omega)
            obtain ⟨u3,v3,f3⟩:=th.at (j * 5+3) (by omega)
            obtain ⟨u4,v4,f4⟩:=th.at (j * 5+4) (by omega)
            have x0:=F.ex.cell y0 hzb
            have x1:=F.ex.cell y1 hzb
            have x2:=F.ex.cell y2 hzb
            have x3:=F.ex.cell y3 hzb
            have x4:=F.ex.cell y4 hzb
            have HF:=hide F
            have HD:=hide hdone
            have HRW:=hide hrow
            have HTH:=hide th
            clear F hdone hrow ha th y0 y1 y2 y3 y4
            go_wp2
            go_region
            all_goals go_wp2
            have hth:∀ x,x<5→(wr.cell? ⟨G k,j * 5+x,none⟩).isSome=true:=fun x hx=>(HTH.out _ (by omega)).1
            have F5:=HF.out.setCells k hlt (by omega) (j * 5) [Value.int .i64 (-7070 - (na:Int)),.int .i64 0,.int .i64 0,.int .i64 0,.int .i64 0]
            have st:∀ (g x i:Nat) (u:Value),[Value.int .i64 (-7070 - (na:Int)),.int .i64 0,.int .i64 0,.int .i64 0,.int .i64 0][i]? = some u→wr.cell? ⟨g,x * 5+i,none⟩=some u→(wr.setCells (G k) (j * 5) [Value.int .i64 (-7070 - (na:Int)),.int .i64 0,.int .i64 0,.int .i64 0,.int .i64 0]).cell? ⟨g,x * 5+i,none⟩=some u:=fun g x i u hu h=>mark_stays rfl hth hu h
            have nw:∀ (i:Nat) (u:Value),[Value.int .i64 (-7070 - (na:Int)),.int .i64 0,.int .i64 0,.int .i64 0,.int .i64 0][i]? = some u→(wr.setCells (G k) (j * 5) [Value.int .i64 (-7070 - (na:Int)),.int .i64 0,.int .i64 0,.int .i64 0,.int .i64 0]).cell? ⟨G k,j * 5+i,none⟩=some u:=fun i u hu=>mark_new rfl hth hu
            have eW:((((wr.setCell ⟨G k,j * 5,none⟩ (.int .i64 (-7070 - (na:Int)))).setCell ⟨G k,j * 5+1,none⟩ (.int .i64 0)).setCell ⟨G k,j * 5+2,none⟩ (.int .i64 0)).setCell ⟨G k,j * 5+3,none⟩ (.int .i64 0)).setCell ⟨G k,j * 5+4,none⟩ (.int .i64 0)=wr.setCells (G k) (j * 5) [Value.int .i64 (-7070 - (na:Int)),.int .i64 0,.int .i64 0,.int .i64 0,.int .i64 0]:=rfl
            rw [eW]
            generalize wr.setCells (G k) (j * 5) [Value.int .i64 (-7070 - (na:Int)),.int .i64 0,.int .i64 0,.int .i64 0,.int .i64 0]=W5 at *
            have F6:=F5.later ((Kep.refl non _).drew) (Array.getElem?_eq_some_iff.1 F5.row).1
            refine ⟨⟨j+1,by omega,by go_num,F6,?_,?_⟩,by simp [intOf];omega⟩
            · intro q hq x hx i u hu
              exact st (G q) x i u hu (HD.out q hq x hx i u hu)
            · intro x hx i u hu
              by_cases e:x=j
              · subst e
                exact nw i u hu
              · exact st (G k) x i u hu (HRW.out x (by omega) i u hu)
          · go_wp2
            refine ⟨⟨k+1,by omega,by go_num,F,?_⟩,by simp [intOf];omega⟩
            intro q hq x hx i u hu
            by_cases eq:q=k
            · subst eq
              exact hrow x (by omega) i u hu
            · exact hdone q (by omega) x hx i u hu
      · have e4:k=4:=by omega
        subst e4
        obtain ⟨i0,hi0,hz0,hz1,hz2⟩:=info_parts info_stocks
        have hW:=KW.out
        have exw:Kep (fun b=>(Value.slice a n c).ownBlock=some b) w wr:=hW.none.trans F.ex
        have o1:=H1.out.kep exw hlp
        have rav:=ownsRow_kep HE.out exw (fun b hb hb'=>hle b hb' hb)
        have sz:=exw.size
        have hzb':=HZB.out
        have c1:=o1.cell
        have HF:=hide F
        have HD:=hide hdone
        have HO:=hide o1
        have HX:=hide exw
        have HRV:=hide rav
        clear F hdone o1 hW exw y0 y1 y2 y3 y4
        have hnl:al.length=na:=HNA.out
        have hbb:B0≤wr.heap.size:=by omega
        clear hzb'
        go_wp2_with (at_builtin;(refine wpList_append_lies _ rfl _ _ _ rfl B0 60 i0 _ 1 24 Tryz.underlying27 hi0 hz0 hz1 hz2 rfl (by omega) _ na al rfl (by exact HRV.out.alloc _) ⟨wr.heap.size,0,none⟩ 1 1 [_] rfl rfl (by exact cell_one_new _ _ _) (by simp [Value.oneCell']) (by omega) (by simp only [maxLen];omega) (by omega) (by simp;omega) (wr.heap.size+1) (by simp) ?_))
        intro gg cap w1 hown1 hgrow hat hlt1
        have k1:Kep (fun b=>(Value.slice aa na ac).ownBlock=some b) wr w1:=((Kep.refl _ _).alloc _).grown hgrow (fun b hb=>.inl hb)
        have o2:=HO.out.kep k1 hep
        obtain ⟨z6,z7⟩:=o2
        go_wp2
        go_end0
        refine ⟨rfl,?_⟩
        have wz:=HZ.out
        have zz:=HZB.out
        exact book_end HNA.out (H1.out.lt) (fun b hb=>(HE.out.lt b hb).2) hlp hle hep HX.out (by omega) HO.out k1 hown1 hat (HF.out.marked (D:=fun b=>(Value.slice a n c).ownBlock=some b∨W0.heap.size≤b) HD.out (by omega) (fun b hb=>hb))
end

section
open Go.RowKit

def LaidAt (i:Nat) (T:TypeId) (z:Nat) (w:World) (p B0:Nat) (v:Value) (vs:List Value) (w':World):Prop :=
  ∃ W l,Kep non w W∧(∀ b,l.ownBlock=some b→w.heap.size≤b∧b<W.heap.size)∧Laid i T z W p B0 v vs l w'

theorem Stands.laid {B0 p:Nat} {K:Int} {s:Sta} {w w':World} (h:Stands B0 p K s w) (i:Nat) (hi:i<5) (P:LaidAt (i+1) (bT i) (bZ i) w p B0 (s.bv i) (s.bl i) w'):∃ s',Stands B0 p K s' w'∧Goes B0 0 0 1 s w s' w':=by
  obtain ⟨W,l,k,hl,P⟩:=P
  obtain ⟨s',h1,h2,_⟩:=(h.later k).entry i hi (fun b hb=>⟨by have:=(hl b hb).1;have:=h.b0;omega,(hl b hb).2,fun q=>by have:=h.dlt b q;have:=(hl b hb).1;omega,fun ix q=>by have:=h.lt ix b q;have:=(hl b hb).1;omega⟩) P
  exact ⟨s',h1,((h.goes k).trans h2).wide (by omega) (by omega) (by omega)⟩

theorem sk_at:∀ (l:List Sk) (k j:Nat) (hk:k<l.length),j<5→(skCells l)[k * 5+j]? = l[k].cells[j]?
  | [],k,j,hk,_=>by simp at hk
  | x :: r,0,j,_,hj=>by
    simp only [skCells,List.flatMap_cons,Nat.zero_mul,Nat.zero_add,List.getElem_cons_zero]
    rw [List.getElem?_append_left (by simp [Sk.cells];omega)]
  | x :: r,k+1,j,hk,hj=>by
    have ih:=sk_at r k j (by simpa using hk) hj
    simp only [skCells,List.flatMap_cons,List.getElem_cons_succ] at ih ⊢
    rw [List.getElem?_append_right (by simp [Sk.cells];omega),← ih]
    congr 1
    simp [Sk.cells]
    omega
theorem sk_cells {w:World} {e:TypeId} {lv:Value} {ls:List Sk} (h:w.ownsRow 0 e 5 lv ls.length (skCells ls)) (k:Nat) (hk:k<ls.length):∃ lb cap,lv = .slice (some ⟨lb,0,none⟩) ls.length cap∧∀ j v,ls[k].cells[j]? = some v→w.cell? ⟨lb,k * 5+j,none⟩=some v:=by
  rcases h.2 with ⟨_,hn⟩ | ⟨g,cap,cur,rfl,hb,hgg,rest⟩
  · omega
  · refine ⟨g,cap,rfl,fun j u hu=>?_⟩
    have hj:j<5:=by have:=(List.getElem?_eq_some_iff.1 hu).1;simpa [Sk.cells] using this
    rw [h.cellAt (k * 5+j) (by omega),sk_at ls k j hk hj]
    exact hu

theorem refAccount_fit (w:World) (R:RL) (m:Mt) (r:Rm) (t:Nat) (hr:RRep w R r) (F:Fit m r) (ht:t<m.T) :
    Calls Tryz.prog 24 #[.pointer (some ⟨R.c,0,none⟩),.int .i64 t] w fun e w'=>∃ v,e = .returned (.tuple #[.agg #[.int .i64 (m.mo t),.int .i64 (m.held t),v],.int .i64 0])∧Kep non w w' ∧
      w'.ownsRow w.heap.size 63 5 v (stkTo m t m.H).length (skCells (stkTo m t m.H)):=by
  have h:=refAccount_yes w R r 0 t hr F.rok (by rw [F.rel.T];exact ht)
  rw [F.rel.held,F.rel.mo t ht,F.rel.H,F.rel.aTo F.inv.ok ht m.H (Nat.le_refl _),show m.mo t+m.held t - m.held t=m.mo t by omega] at h
  exact h

set_option maxRecDepth 100000 in
set_option maxHeartbeats 1000000 in
theorem lacc_no (w:World) (p B0:Nat) (av:Value) (al:List Value) (L:PL) (R:RL) (m:Mt) (r:Rm) (t:Int) (hp:PRep w L m) (hr:RRep w R r) (F:Fit m r) (ht:¬ okI m.T t)
    (hS:∀ W l n c,Kep non w W→LRow W l 5 n c→n≤16→(∀ b,l.ownBlock=some b→w.heap.size≤b∧b<W.heap.size)→Calls Tryz.prog 25 #[.pointer (some ⟨p,1,none⟩),l] W fun e w'=>e = .returned (.tuple #[])∧Laid 1 60 5 W p B0 av al l w') :
    Calls Tryz.prog 10 #[.pointer (some ⟨p,0,none⟩),.agg #[.pointer (some ⟨L.x,0,none⟩),.pointer (some ⟨R.c,0,none⟩)],.int .i64 t] w fun e w'=>e = .returned (.bool true)∧LaidAt 1 60 5 w p B0 av al w':=by
  have HP:=hide hp
  have HR:=hide hr
  have HS:=hide hS
  have htr:¬ okI r.T t:=by rw [F.rel.T];exact ht
  have HF:=hide F
  clear hp hr hS F
  go_enter Tryz.func10,Tryz.ntmps10
  go_wp2_with fail
  have kb:Kep non w (w.alloc (.cells #[.pointer (some ⟨L.x,0,none⟩),.pointer (some ⟨R.c,0,none⟩)] 48)):=(Kep.refl _ _).alloc _
  have hb:=heap_alloc_new w (.cells #[.pointer (some ⟨L.x,0,none⟩),.pointer (some ⟨R.c,0,none⟩)] 48)
  refine (account_no _ L m _ t (HP.out.later kb) HF.out.inv.ok ht).mono ?_
  rintro e w1 ⟨rfl,k1⟩
  have b1:∀ o,(w1.alloc o).cell? ⟨w.heap.size,1,none⟩=some (.pointer (some ⟨R.c,0,none⟩)):=fun o=>cell_al (k1.cell (show (w.alloc _).cell? ⟨w.heap.size,1,none⟩=some _ from cell_of_row _ _ 1 _ _ _ hb) (fun q=>q))
  clear hb
  go_wp2_with fail
  refine (refAccount_no _ R r t ((HR.out.later (kb.trans k1)).later ((Kep.refl _ _).alloc _)) htr).mono ?_
  rintro e w2 ⟨rfl,k2⟩
  have ha:=fun j=>cell_of_row _ _ j _ _ _ (heap_alloc_new w1 (.cells #[.int .i64 0,.int .i64 0,.slice none 0 0] 74))
  have a0:∀ o,(w2.alloc o).cell? ⟨w1.heap.size,0,none⟩=some (.int .i64 0):=fun o=>cell_al (k2.cell (ha 0) (fun q=>q))
  have a1:∀ o,(w2.alloc o).cell? ⟨w1.heap.size,1,none⟩=some (.int .i64 0):=fun o=>cell_al (k2.cell (ha 1) (fun q=>q))
  have a2:∀ o,(w2.alloc o).cell? ⟨w1.heap.size,2,none⟩=some (.slice none 0 0):=fun o=>cell_al (k2.cell (ha 2) (fun q=>q))
  have kk:Kep non w w2:=((kb.trans k1).alloc _).trans k2
  clear ha kb k1 k2 b1
  go_wp2
  go_loop [11,12] (fun o i=>o = .bool true∧i = .int .i64 0) (fun _ _=>0)
  case atStart=>exact ⟨by simp,rfl⟩
  case round =>
    obtain ⟨rfl,rfl⟩:=hrel
    go_wp2
    go_region_with (go_at_call 25;refine (HS.out _ _ 0 0 ?_ (.inl ⟨rfl,rfl,rfl⟩) (by omega) (by simp [Value.ownBlock])).mono ?_;exact (kk.alloc _).drew;rintro e w3 ⟨rfl,hsp⟩)
    all_goals go_wp2
    go_ret
    exact ⟨rfl,_,_,(kk.alloc _).drew,by simp [Value.ownBlock],hsp⟩

set_option maxRecDepth 100000 in
set_option maxHeartbeats 1000000 in
theorem lacc_yes (w:World) (p B0:Nat) (av:Value) (al:List Value) (L:PL) (R:RL) (m:Mt) (r:Rm) (t:Nat) (hp:PRep w L m) (hr:RRep w R r) (F:Fit m r) (ht:t<m.T)
    (hS:∀ W l n c,Kep non w W→LRow W l 5 n c→n≤16→(∀ b,l.ownBlock=some b→w.heap.size≤b∧b<W.heap.size)→Calls Tryz.prog 25 #[.pointer (some ⟨p,1,none⟩),l] W fun e w'=>e = .returned (.tuple #[])∧Laid 1 60 5 W p B0 av al l w') :
    Calls Tryz.prog 10 #[.pointer (some ⟨p,0,none⟩),.agg #[.pointer (some ⟨L.x,0,none⟩),.pointer (some ⟨R.c,0,none⟩)],.int .i64 t] w fun e w'=>e = .returned (.bool true)∧LaidAt 1 60 5 w p B0 av al w':=by
  have HP:=hide hp
  have HR:=hide hr
  have HS:=hide hS
  have HF:=hide F
  have hgl:(stkTo m t m.H).length≤16:=by have:=stkTo_len m t m.H F.inv.ok.G4;have:=F.inv.ok.H4;omega
  clear hp hr hS F
  go_enter Tryz.func10,Tryz.ntmps10
  go_wp2_with fail
  have kb:Kep non w (w.alloc (.cells #[.pointer (some ⟨L.x,0,none⟩),.pointer (some ⟨R.c,0,none⟩)] 48)):=(Kep.refl _ _).alloc _
  have hb:=heap_alloc_new w (.cells #[.pointer (some ⟨L.x,0,none⟩),.pointer (some ⟨R.c,0,none⟩)] 48)
  refine (account_yes _ L m _ t (HP.out.later kb) HF.out.inv.ok ht).mono ?_
  rintro e w1 ⟨v1,rfl,k1,r1⟩
  have b1:∀ o,(w1.alloc o).cell? ⟨w.heap.size,1,none⟩=some (.pointer (some ⟨R.c,0,none⟩)):=fun o=>cell_al (k1.cell (show (w.alloc _).cell? ⟨w.heap.size,1,none⟩=some _ from cell_of_row _ _ 1 _ _ _ hb) (fun q=>q))
  clear hb
  obtain ⟨a1,c1,hv1⟩:=row_form r1
  subst hv1
  go_wp2_with fail
  refine (refAccount_fit _ R m r t ((HR.out.later (kb.trans k1)).later ((Kep.refl _ _).alloc _)) HF.out ht).mono ?_
  rintro e w2 ⟨v2,rfl,k2,r2⟩
  obtain ⟨a2,c2,hv2⟩:=row_form r2
  subst hv2
  have ha:=fun j=>cell_of_row _ _ j _ _ _ (heap_alloc_new w1 (.cells #[.int .i64 (m.mo t),.int .i64 (m.held t),.slice a1 (stkTo m t m.H).length c1] 74))
  have q0:∀ o,(w2.alloc o).cell? ⟨w1.heap.size,0,none⟩=some (.int .i64 (m.mo t)):=fun o=>cell_al (k2.cell (ha 0) (fun q=>q))
  have q1:∀ o,(w2.alloc o).cell? ⟨w1.heap.size,1,none⟩=some (.int .i64 (m.held t)):=fun o=>cell_al (k2.cell (ha 1) (fun q=>q))
  have q2:∀ o,(w2.alloc o).cell? ⟨w1.heap.size,2,none⟩=some (.slice a1 (stkTo m t m.H).length c1):=fun o=>cell_al (k2.cell (ha 2) (fun q=>q))
  have kk:Kep non w w2:=((kb.trans k1).alloc _).trans k2
  have x1:Hid (∀ o,(w2.alloc o).ownsRow 0 63 5 (.slice a1 (stkTo m t m.H).length c1) (stkTo m t m.H).length (skCells (stkTo m t m.H))):=hide fun o=>ownsRow_kep (ownsRow_mono r1 (Nat.zero_le _)) ((((Kep.refl non _).alloc _).trans k2).alloc o) (fun _ _ q=>q)
  have x2:Hid (∀ o,(w2.alloc o).ownsRow 0 63 5 (.slice a2 (stkTo m t m.H).length c2) (stkTo m t m.H).length (skCells (stkTo m t m.H))):=hide fun o=>(ownsRow_mono r2 (Nat.zero_le _)).alloc o
  have o1:Hid (∀ b,(Value.slice a1 (stkTo m t m.H).length c1).ownBlock=some b→w.heap.size≤b∧b<w2.heap.size):=hide fun b hb=>by
    have h1:=r1.lt b hb
    have h2:w1.heap.size+1≤w2.heap.size:=by have:=k2.size;simpa using this
    have h3:=kb.size
    simp only [World.size_alloc] at h1 h3
    omega
  have hlr:Hid (∃ c,LRow w2 (.slice a1 (stkTo m t m.H).length c1) 5 (stkTo m t m.H).length c):=hide (LRow.of_row (ownsRow_kep r1 (((Kep.refl non _).alloc _).trans k2) (fun _ _ q=>q)))
  clear ha kb k1 k2 b1 r1 r2
  generalize stkTo m t m.H=gs at *
  generalize m.mo t=X at *
  generalize m.held t=Y at *
  go_wp2
  obtain ⟨W,hW⟩ : ∃ W,W=w2.alloc (.cells #[.int .i64 X,.int .i64 Y,.slice a2 gs.length c2] 74):=⟨_,rfl⟩
  rw [← hW]
  have f1:W.cell? ⟨w1.heap.size,2,none⟩=some (.slice a1 gs.length c1):=hW ▸ q2 _
  have f2:W.cell? ⟨w2.heap.size,2,none⟩=some (.slice a2 gs.length c2):=by rw [hW];exact cell_of_row _ _ 2 _ _ _ (heap_alloc_new w2 _)
  have X1:=hide (show W.ownsRow 0 63 5 (.slice a1 gs.length c1) gs.length (skCells gs) from hW ▸ x1.out _)
  have X2:=hide (show W.ownsRow 0 63 5 (.slice a2 gs.length c2) gs.length (skCells gs) from hW ▸ x2.out _)
  have kW:Kep non w2 W:=by rw [hW];exact (Kep.refl _ _).alloc _
  have sz:=kW.size
  clear hW q0 q1 q2 x1 x2
  go_loopw [11,12] (fun o i wr=>∃ k:Nat,k≤gs.length∧i = .int .i64 k∧o = .bool true∧∃ nd,wr=W.drewN nd) (fun _ i _=>gs.length - (intOf i).toNat)
  case atStart=>exact ⟨0,by omega,rfl,by simp,0,rfl⟩
  case round =>
    obtain ⟨k,hk,rfl,rfl,nd,rfl⟩:=hrel
    by_cases hlt:k<gs.length
    · obtain ⟨g1,d1,e1,yc⟩:=sk_cells X1.out k hlt
      obtain ⟨g2,d2,e2,zc⟩:=sk_cells X2.out k hlt
      simp only [Value.slice.injEq,true_and] at e1 e2
      obtain ⟨rfl,rfl⟩:=e1
      obtain ⟨rfl,rfl⟩:=e2
      have y0:W.cell? ⟨g1,k * 5,none⟩=some (.int .i64 gs[k].h):=yc 0 _ rfl
      have y1:=yc 1 _ rfl
      have y2:=yc 2 _ rfl
      have y3:=yc 3 _ rfl
      have y4:=yc 4 _ rfl
      have z0:W.cell? ⟨g2,k * 5,none⟩=some (.int .i64 gs[k].h):=zc 0 _ rfl
      have z1:=zc 1 _ rfl
      have z2:=zc 2 _ rfl
      have z3:=zc 3 _ rfl
      have z4:=zc 4 _ rfl
      clear yc zc
      generalize gs[k]=l at *
      go_wp2
      go_quiet (fail)
      go_wp2
      exact ⟨⟨k+1,by omega,by go_num,rfl,_,rfl⟩,by simp [intOf];omega⟩
    · obtain ⟨cc,hcl⟩:=hlr.out
      have HCL:=hide hcl
      clear hcl
      go_wp2
      go_region_with (go_at_call 25;refine (HS.out _ _ gs.length cc ?_ ?_ hgl ?_).mono ?_;exact ((kk.trans kW).drewN _);exact HCL.out.ext (row:=none) (.of_keeps (kW.drewN _));exact (fun b hb=>⟨(o1.out b hb).1,Nat.lt_of_lt_of_le (o1.out b hb).2 sz⟩);rintro e w3 ⟨rfl,hsp⟩)
      all_goals go_wp2
      go_ret
      exact ⟨rfl,_,_,(kk.trans kW).drewN _,fun b hb=>⟨(o1.out b hb).1,Nat.lt_of_lt_of_le (o1.out b hb).2 sz⟩,hsp⟩

theorem acc_at (w:World) (B0 p:Nat) (K:Int) (s:Sta) (h:Stands B0 p K s w) (k:Nat) (hkn:k<s.n) (A:Int) (hal:(s.bl 0).length≤4000000) :
    Calls Tryz.prog 10 #[.pointer (some ⟨p,0,none⟩),.agg #[.pointer (some ⟨(s.L k).x,0,none⟩),.pointer (some ⟨(s.R k).c,0,none⟩)],.int .i64 A] w fun e w'=>e = .returned (.bool true)∧∃ s',Stands B0 p K s' w'∧Goes B0 0 0 1 s w s' w':=by
  have hS:∀ V l n c,Kep non w V→LRow V l 5 n c→n≤16→(∀ b,l.ownBlock=some b→w.heap.size≤b∧b<V.heap.size)→Calls Tryz.prog 25 #[.pointer (some ⟨p,1,none⟩),l] V fun e w'=>e = .returned (.tuple #[])∧Laid 1 60 5 V p B0 (s.bv 0) (s.bl 0) l w':=fun V l n c kV hl hn hb=>by
    have hV:=h.later kV
    refine lay_stocks V p B0 (s.bv 0) (s.bl 0) l n c (hV.cb 0 (by omega)) (hV.rb 0 (by omega)) hV.b0 hl (fun b q=>(hb b q).2) (fun q=>?_) (fun b q q'=>?_) (fun q=>?_) hal (by omega)
    · have:=(hb p q).1;have:=h.lt .p p rfl;omega
    · have:=(hb b q).1;have:=h.lt (.b 0) b ⟨by omega,q'⟩;omega
    · exact hV.sep (.b 0) .p p (by simp) ⟨by omega,q⟩ rfl
  by_cases ht:okI (s.m k).T A
  · obtain ⟨t,rfl⟩:=Int.eq_ofNat_of_zero_le ht.1
    refine (lacc_yes w p B0 (s.bv 0) (s.bl 0) (s.L k) (s.R k) (s.m k) (s.r k) t (h.rx k hkn) (h.rc k hkn) (h.fit k hkn) (by have:=ht.2;omega) hS).mono ?_
    rintro e w' ⟨rfl,P⟩
    exact ⟨rfl,h.laid 0 (by omega) P⟩
  · refine (lacc_no w p B0 (s.bv 0) (s.bl 0) (s.L k) (s.R k) (s.m k) (s.r k) A (h.rx k hkn) (h.rc k hkn) (h.fit k hkn) ht hS).mono ?_
    rintro e w' ⟨rfl,P⟩
    exact ⟨rfl,h.laid 0 (by omega) P⟩
end

section
open Go.RowKit

theorem info_ints:(Tryz.prog.info? 126).map (fun i=>(i.zero,i.size,i.bytes))=some (some (.slice none 0 0),1,24):=by kernel_rfl

set_option maxRecDepth 100000 in
set_option maxHeartbeats 1000000 in
theorem lay_ints (w:World) (p B0:Nat) (ev:Value) (es:List Value) (l:Value) (n c:Nat) (hc5:Own w ⟨p,5,none⟩ ev) (hev:w.ownsRow B0 126 1 ev es.length es) (hb0:B0≤w.heap.size) (hl:LRow w l 1 n c) (hlp:l.ownBlock≠some p) (hle:∀ b,l.ownBlock=some b→ev.ownBlock≠some b) (hep:ev.ownBlock≠some p)
    (hne:es.length≤4000000) (hn:n≤2000000) :
    Calls Tryz.prog 82 #[.pointer (some ⟨p,1,none⟩),l] w fun e w'=>e = .returned (.tuple #[])∧Laid 5 126 1 w p B0 ev es l w':=by
  obtain ⟨a,rfl⟩:=hl.form
  obtain ⟨ea,ec,hev0⟩:=row_form hev
  subst hev0
  obtain ⟨i3,hi3,hz30,hz31,hz32⟩:=info_parts infoInt
  have c5:=hc5.cell
  go_enter Tryz.func82,Tryz.ntmps82
  go_wp2_with (at_builtin;(refine wpList_app rfl _ _ _ rfl 3 i3 _ 1 8 Tryz.underlying38 hi3 hz30 hz31 hz32 rfl (by omega) (by omega) _ n c rfl (hl.ext (row:=none) (.of_keeps ((Kep.refl _ _).alloc _))) ⟨w.heap.size,0,none⟩ 1 1 [_] rfl rfl (by exact cell_one_new _ _ _) (by simp [Value.oneCell']) (by omega) (by omega) ?_))
  intro g1 c1 w1 hg1 hlt1 th1 ex1
  have e1:Ext (Value.slice a n c).ownBlock w w1:=((Ext.refl _ _).alloc _).trans ex1
  have hg1:(Value.slice a n c).ownBlock=some g1∨w.heap.size≤g1:=hg1.imp id (fun h=>by omega)
  have z1:=e1.kp.size
  have L1:=hl.ext e1
  go_wp2_with (at_builtin;(refine wpList_app rfl _ _ _ rfl 3 i3 _ 1 8 Tryz.underlying38 hi3 hz30 hz31 hz32 rfl (by omega) (by omega) _ n c rfl (L1.ext (row:=none) (.of_keeps ((Kep.refl _ _).alloc _))) ⟨w1.heap.size,0,none⟩ 2 2 [_,_] rfl rfl (by exact cell_two_new _ _ _ _) (by simp [Value.oneCell']) (by omega) (by omega) ?_))
  intro g2 c2 w2 hg2 hlt2 th2 ex2
  have e2:Ext (Value.slice a n c).ownBlock w1 w2:=((Ext.refl _ _).alloc _).trans ex2
  have hg2:(Value.slice a n c).ownBlock=some g2∨w.heap.size≤g2:=hg2.imp id (fun h=>by omega)
  have z2:=e2.kp.size
  have L2:=L1.ext e2
  go_wp2_with (at_builtin;(refine wpList_app rfl _ _ _ rfl 3 i3 _ 1 8 Tryz.underlying38 hi3 hz30 hz31 hz32 rfl (by omega) (by omega) _ n c rfl (L2.ext (row:=none) (.of_keeps ((Kep.refl _ _).alloc _))) ⟨w2.heap.size,0,none⟩ 3 3 [_,_,_] rfl rfl (by exact World.news_of_block (cs:=#[_,_,_]) (heap_alloc_new w2 _)) (by simp [Value.oneCell']) (by omega) (by omega) ?_))
  intro g3 c3 w3 hg3 hlt3 th3 ex3
  have e3:Ext (Value.slice a n c).ownBlock w2 w3:=((Ext.refl _ _).alloc _).trans ex3
  have hg3:(Value.slice a n c).ownBlock=some g3∨w.heap.size≤g3:=hg3.imp id (fun h=>by omega)
  have F0:=four_made (c1:=c1) (c2:=c2) (c3:=c3) (et:=38) (by omega) hl e1 hg1 hlt1 (by simpa using th1) e2 hg2 hlt2 (by simpa using th2) e3 hg3 hlt3 (by simpa using th3)
  clear ex1 ex2 ex3 hg1 hg2 hg3 th1 th2 th3 e1 e2 e3 L1 L2
  go_wp2
  generalize w3.alloc (.cells #[.slice a n c,.slice (some ⟨g1,0,none⟩) (n+1) c1,.slice (some ⟨g2,0,none⟩) (n+2) c2,.slice (some ⟨g3,0,none⟩) (n+3) c3] 38)=W4 at *
  generalize w3.heap.size=nb at *
  generalize pick4 ((Value.slice a n c).ownBlock.getD 0) g1 g2 g3=G at *
  generalize pick4 c c1 c2 c3=C at *
  generalize pick4 a (some ⟨g1,0,none⟩) (some ⟨g2,0,none⟩) (some ⟨g3,0,none⟩)=A at *
  have HL:=hide hl
  have H5:=hide hc5
  have HE:=hide hev
  clear hl hc5 hev c5 hlt1 hlt2 hlt3 z1 z2
  go_loopw [6] (fun i wr=>∃ k:Nat,k≤4∧i = .int .i64 k∧Four w (Value.slice a n c).ownBlock nb n 1 G C A 38 wr∧Done n 1 G [.int .i64 (-7070 - (es.length:Int))] k wr) (fun i _=>4 - (intOf i).toNat)
  case atStart=>exact ⟨0,by omega,rfl,F0,fun q hq=>by omega⟩
  case round =>
    clear F0
    obtain ⟨k,hk,rfl,F,hdone⟩:=hrel
    by_cases hlt:k<4
    · go_wp2
      go_loopw [7] (fun i wr=>∃ j:Nat,j≤n+k∧i = .int .i64 j∧Four w (Value.slice a n c).ownBlock nb n 1 G C A 38 wr∧Done n 1 G [.int .i64 (-7070 - (es.length:Int))] k wr∧∀ i,i<j→wr.cell? ⟨G k,i,none⟩=some (.int .i64 (-7070 - (es.length:Int)))) (fun i _=>n+k - (intOf i).toNat)
      case atStart=>exact ⟨0,by omega,rfl,F,hdone,fun i hi=>by omega⟩
      case round =>
        clear F hdone
        obtain ⟨j,hj,rfl,F,hdone,hrow⟩:=hrel
        have cl:=F.at k hlt
        have hk4:(k:Int)<4:=by omega
        by_cases hjk:j<n+k
        · have ha:=F.adr k hlt (by omega)
          rw [ha] at cl
          obtain ⟨u,hu⟩:=(F.th k hlt (by omega)).at j (by omega)
          obtain ⟨cu,fu⟩:=hu
          have HF:=hide F
          have HD:=hide hdone
          have HR:=hide hrow
          clear F hdone hrow ha
          go_wp2
          refine ⟨⟨j+1,by omega,by go_num,HF.out.set k hlt (by omega) j _,?_,?_⟩,by simp [intOf];omega⟩
          · intro q hq i hi e u' hu'
            obtain rfl:e=0:=by rcases e with _ | e;rfl;simp at hu'
            obtain rfl:.int .i64 (-7070 - (es.length:Int))=u':=by simpa using hu'
            exact cell_set_same (HD.out q hq i hi 0 _ rfl)
          · intro i hi
            by_cases e:i=j
            · subst e
              exact World.cell?_setCell_same _ _ _ cu
            · exact cell_set_same (HR.out i (by omega))
        · go_wp2
          refine ⟨⟨k+1,by omega,by go_num,F,?_⟩,by simp [intOf];omega⟩
          intro q hq i hi e u' hu'
          by_cases eq:q=k
          · subst eq
            obtain rfl:e=0:=by rcases e with _ | e;rfl;simp at hu'
            obtain rfl:.int .i64 (-7070 - (es.length:Int))=u':=by simpa using hu'
            simpa using hrow i (by omega)
          · exact hdone q (by omega) i hi e u' hu'
    · have e4:k=4:=by omega
      subst e4
      obtain ⟨i0,hi0,hz0,hz1,hz2⟩:=info_parts info_ints
      have o5:=H5.out.kep F.ex hlp
      have rev:=ownsRow_kep HE.out F.ex (fun b hb hb'=>hle b hb' hb)
      have sz:=F.ex.size
      have c5:=o5.cell
      have HF:=hide F
      have HD:=hide hdone
      have HO:=hide o5
      clear F hdone o5
      go_wp2_with (at_builtin;(refine wpList_append_lies _ rfl _ _ _ rfl B0 126 i0 _ 1 24 Tryz.underlying31 hi0 hz0 hz1 hz2 rfl (by omega) _ es.length es rfl (by exact rev.alloc _) ⟨wr.heap.size,0,none⟩ 1 1 [_] rfl rfl (by exact cell_one_new _ _ _) (by simp [Value.oneCell']) (by omega) (by simp only [maxLen];omega) (by omega) (by simp;omega) (wr.heap.size+1) (by simp) ?_))
      intro gg cap w1 hown1 hgrow hat hlt1
      have k1:Kep (fun b=>(Value.slice ea es.length ec).ownBlock=some b) wr w1:=((Kep.refl _ _).alloc _).grown hgrow (fun b hb=>.inl hb)
      have o1:=HO.out.kep k1 hep
      obtain ⟨z6,z7⟩:=o1
      go_wp2
      go_end0
      exact ⟨rfl,book_end rfl (H5.out.lt) (fun b hb=>(HE.out.lt b hb).2) hlp hle hep HF.out.ex (Nat.le_refl _) HO.out k1 hown1 hat (HF.out.marked (D:=fun b=>(Value.slice a n c).ownBlock=some b∨w.heap.size≤b) HD.out (by omega) (fun b hb=>hb))⟩
end

end Go.Proofs.YtcfoobhihhndjaaGreat
