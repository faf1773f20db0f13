
import Derived.Test.YtcfoobhihhndjaaGreatB30
namespace Go.Proofs.YtcfoobhihhndjaaGreat

section
open Go.RowKit

theorem info_levels:(Tryz.prog.info? 69).map (fun i=>(i.zero,i.size,i.bytes))=some (some (.slice none 0 0),1,24):=by kernel_rfl
theorem infoE_levels:(Tryz.prog.info? 72).map (fun i=>(i.zero,i.size,i.bytes))=some (some (.agg #[.int .i64 0,.int .i64 0,.int .i64 0]),3,24):=by kernel_rfl

set_option maxRecDepth 100000 in
set_option maxHeartbeats 8000000 in
theorem lay_levels (w:World) (p B0:Nat) (av:Value) (al:List Value) (l:Value) (n c:Nat) (hc1:Own w ⟨p,3,none⟩ av) (hav:w.ownsRow B0 69 1 av al.length al) (hb0:B0≤w.heap.size) (hl:LRow w l 3 n c) (hbz:∀ b,l.ownBlock=some b→b<w.heap.size) (hlp:l.ownBlock≠some p) (hle:∀ b,l.ownBlock=some b→av.ownBlock≠some b) (hep:av.ownBlock≠some p)
    (hna:al.length≤4000000) (hn:n≤1000) :
    Calls Tryz.prog 113 #[.pointer (some ⟨p,1,none⟩),l] w fun e w'=>e = .returned (.tuple #[])∧Laid 3 69 3 w p B0 av al l w':=by
  obtain ⟨a,rfl⟩:=hl.form
  obtain ⟨aa,ac,hav0⟩:=row_form hav
  subst hav0
  obtain ⟨i3,hi3,hz30,hz31,hz32⟩:=info_parts infoE_levels
  have c1:=hc1.cell
  have HL:=hide hl
  have H1:=hide hc1
  have HE:=hide hav
  clear hc1 hav
  generalize hnal:al.length=na at *
  have HNA:=hide hnal
  clear hnal
  go_enter Tryz.func113,Tryz.ntmps113
  go_upto_region 1 with fail
  have hl0:LRow (w.alloc (.cells #[.int .i64 (-7070 - (na:Int)),.int .i64 0,.int .i64 0] 72)) (.slice a n c) 3 n c:=hl.ext (row:=none) (.of_keeps ((Kep.refl _ _).alloc _))
  have z0:=fun j=>cell_of_row _ _ j _ _ _ (heap_alloc_new w (.cells #[.int .i64 (-7070 - (na:Int)),.int .i64 0,.int .i64 0] 72))
  have hzb:¬ (Value.slice a n c).ownBlock=some w.heap.size:=fun h=>by have:=hbz _ h;omega
  have y0:=z0 0
  have y1:=z0 1
  have y2:=z0 2
  clear z0
  simp only [List.getElem?_toArray,List.getElem?_cons_zero,List.getElem?_cons_succ] at y0 y1 y2
  have KW:Hid (Kep non w (w.alloc (.cells #[.int .i64 (-7070 - (na:Int)),.int .i64 0,.int .i64 0] 72))):=hide ((Kep.refl _ _).alloc _)
  have wsz:(w.alloc (.cells #[.int .i64 (-7070 - (na:Int)),.int .i64 0,.int .i64 0] 72)).heap.size=w.heap.size+1:=World.size_alloc _ _
  generalize w.alloc (.cells #[.int .i64 (-7070 - (na:Int)),.int .i64 0,.int .i64 0] 72)=W0 at *
  have HZ:=hide wsz
  have HBZ:=hide hbz
  clear wsz
  generalize hzbe:w.heap.size=zb at *
  have HZB:=hide hzbe
  clear hzbe
  have zlt:zb<W0.heap.size:=World.block_lt_of_cell? W0 _ y0
  clear hl c1
  go_cut [5] (fun s5 wx=>∃ nb G C A,s5 = .slice (some ⟨nb,0,none⟩) 4 4∧Four W0 (Value.slice a n c).ownBlock nb n 3 G C A 70 wx)
  case first =>
    have HS:Hid (∀ w',Whence (Value.slice a n c).ownBlock W0 w'→(w'.cell? ⟨zb,0,none⟩=some (.int .i64 (-7070 - (na:Int)))∧w'.cell? ⟨zb,1,none⟩=some (.int .i64 0)∧w'.cell? ⟨zb,2,none⟩=some (.int .i64 0))) :=
      hide fun w' h=>⟨h.out.kp.cell y0 hzb,h.out.kp.cell y1 hzb,h.out.kp.cell y2 hzb⟩
    have hown:∀ b,(Value.slice a n c).ownBlock=some b→b<zb:=hbz
    go_region_held3 (fun w'=>w'.cell? ⟨zb,0,none⟩=some (.int .i64 (-7070 - (na:Int)))∧w'.cell? ⟨zb,1,none⟩=some (.int .i64 0)∧w'.cell? ⟨zb,2,none⟩=some (.int .i64 0))
      ((refine HS.out _ ?_;(repeat (first | apply Whence.drew | apply Whence.alloc));first | exact Whence.refl _ _ | exact hW1 | exact hW2 | exact hW3))
      ((first
        | (refine step_app' W0 (by rfl) (.tmp 16) (.tmp 18) 70 (by rfl) 72 i3 _ 3 24 Tryz.underlying70 hi3 hz30 hz31 hz32 rfl (by omega) (by omega) (.slice a n c) n c (by rfl) hl0 (by (repeat (first | apply Whence.drew | apply Whence.alloc));first | exact Whence.refl _ _ | exact hW1 | exact hW2 | exact hW3) _ _ _ (by rfl) _ 72 (by repeat (first | exact heap_alloc_new _ _ | (refine blk_new ?_;simp;done) | refine blk_alloc ?_ | refine blk_ext hE1 (fun b hb=>by have:=hown b hb;omega) ?_ | refine blk_ext hE2 (fun b hb=>by have:=hown b hb;omega) ?_ | refine blk_ext hE3 (fun b hb=>by have:=hown b hb;omega) ?_)) (by rfl) (by simp [Value.oneCell']) (by omega) (by omega) ?_;intro g1 d1 w1 hg1 ht1 hE1 hW1;have hs1:=hW1.size)
        | (refine step_app' W0 (by rfl) (.tmp 20) (.tmp 23) 70 (by rfl) 72 i3 _ 3 24 Tryz.underlying70 hi3 hz30 hz31 hz32 rfl (by omega) (by omega) (.slice a n c) n c (by rfl) hl0 (by (repeat (first | apply Whence.drew | apply Whence.alloc));first | exact Whence.refl _ _ | exact hW1 | exact hW2 | exact hW3) _ _ _ (by rfl) _ 72 (by repeat (first | exact heap_alloc_new _ _ | (refine blk_new ?_;simp;done) | refine blk_alloc ?_ | refine blk_ext hE1 (fun b hb=>by have:=hown b hb;omega) ?_ | refine blk_ext hE2 (fun b hb=>by have:=hown b hb;omega) ?_ | refine blk_ext hE3 (fun b hb=>by have:=hown b hb;omega) ?_)) (by rfl) (by simp [Value.oneCell']) (by omega) (by omega) ?_;intro g2 d2 w2 hg2 ht2 hE2 hW2;have hs2:=hW2.size)
        | (refine step_app' W0 (by rfl) (.tmp 25) (.tmp 29) 70 (by rfl) 72 i3 _ 3 24 Tryz.underlying70 hi3 hz30 hz31 hz32 rfl (by omega) (by omega) (.slice a n c) n c (by rfl) hl0 (by (repeat (first | apply Whence.drew | apply Whence.alloc));first | exact Whence.refl _ _ | exact hW1 | exact hW2 | exact hW3) _ _ _ (by rfl) _ 72 (by repeat (first | exact heap_alloc_new _ _ | (refine blk_new ?_;simp;done) | refine blk_alloc ?_ | refine blk_ext hE1 (fun b hb=>by have:=hown b hb;omega) ?_ | refine blk_ext hE2 (fun b hb=>by have:=hown b hb;omega) ?_ | refine blk_ext hE3 (fun b hb=>by have:=hown b hb;omega) ?_)) (by rfl) (by simp [Value.oneCell']) (by omega) (by omega) ?_;intro g3 d3 w3 hg3 ht3 hE3 hW3;have hs3:=hW3.size)))
    all_goals go_step
    all_goals go_step
    all_goals go_meet
    all_goals refine ⟨_,_,_,_,rfl,four_any (g1:=g1) (g2:=g2) (g3:=g3) (by omega) hl0 ?_ hg1 ?_ hg2 ?_ hg3 ?_⟩
    all_goals first | with_reducible exact hW1.out | with_reducible exact hW2.out | with_reducible exact hW3.out | (repeat (first | with_reducible exact ht1 | with_reducible exact ht2 | with_reducible exact ht3 | with_reducible refine There.alloc ?_ _ | with_reducible refine There.dr ?_ | with_reducible refine hE1.th _ _ ?_ | with_reducible refine hE2.th _ _ ?_ | with_reducible refine hE3.th _ _ ?_))
  case rest =>
    obtain ⟨nb,G,C,A,rfl,F0⟩:=hcut
    clear hl0
    go_wp2
    go_loopw [6] (fun i wr=>∃ k:Nat,k≤4∧i = .int .i64 k∧Four W0 (Value.slice a n c).ownBlock nb n 3 G C A 70 wr∧Done n 3 G [Value.int .i64 (-7070 - (na:Int)),.int .i64 0,.int .i64 0] k wr) (fun i _=>4 - (intOf i).toNat)
    case atStart=>exact ⟨0,by omega,rfl,F0,fun q hq=>by omega⟩
    case round =>
      clear F0
      obtain ⟨k,hk,rfl,F,hdone⟩:=hrel
      by_cases hlt:k<4
      · go_wp2
        go_loopw [7] (fun i wr=>∃ j:Nat,j≤n+k∧i = .int .i64 j∧Four W0 (Value.slice a n c).ownBlock nb n 3 G C A 70 wr∧Done n 3 G [Value.int .i64 (-7070 - (na:Int)),.int .i64 0,.int .i64 0] k wr∧∀ x,x<j→∀ i u,[Value.int .i64 (-7070 - (na:Int)),.int .i64 0,.int .i64 0][i]? = some u→wr.cell? ⟨G k,x * 3+i,none⟩=some u) (fun i _=>n+k - (intOf i).toNat)
        case atStart=>exact ⟨0,by omega,rfl,F,hdone,fun i hi=>by omega⟩
        case round =>
          clear F hdone
          obtain ⟨j,hj,rfl,F,hdone,hrow⟩:=hrel
          have cl:=F.at k hlt
          have hk4:(k:Int)<4:=by omega
          by_cases hjk:j<n+k
          · have ha:=F.adr k hlt (by omega)
            rw [ha] at cl
            have th:=F.th k hlt (by omega)
            obtain ⟨u0,v0,f0⟩:=th.at (j * 3) (by omega)
            obtain ⟨u1,v1,f1⟩:=th.at (j * 3+1) (by omega)
            obtain ⟨u2,v2,f2⟩:=th.at (j * 3+2) (by omega)
            have x0:=F.ex.cell y0 hzb
            have x1:=F.ex.cell y1 hzb
            have x2:=F.ex.cell y2 hzb
            have HF:=hide F
            have HD:=hide hdone
            have HRW:=hide hrow
            have HTH:=hide th
            clear F hdone hrow ha th y0 y1 y2
            go_wp2
            go_region
            all_goals go_wp2
            have hth:∀ x,x<3→(wr.cell? ⟨G k,j * 3+x,none⟩).isSome=true:=fun x hx=>(HTH.out _ (by omega)).1
            have F5:=HF.out.setCells k hlt (by omega) (j * 3) [Value.int .i64 (-7070 - (na:Int)),.int .i64 0,.int .i64 0]
            have st:∀ (g x i:Nat) (u:Value),[Value.int .i64 (-7070 - (na:Int)),.int .i64 0,.int .i64 0][i]? = some u→wr.cell? ⟨g,x * 3+i,none⟩=some u→(wr.setCells (G k) (j * 3) [Value.int .i64 (-7070 - (na:Int)),.int .i64 0,.int .i64 0]).cell? ⟨g,x * 3+i,none⟩=some u:=fun g x i u hu h=>mark_stays rfl hth hu h
            have nw:∀ (i:Nat) (u:Value),[Value.int .i64 (-7070 - (na:Int)),.int .i64 0,.int .i64 0][i]? = some u→(wr.setCells (G k) (j * 3) [Value.int .i64 (-7070 - (na:Int)),.int .i64 0,.int .i64 0]).cell? ⟨G k,j * 3+i,none⟩=some u:=fun i u hu=>mark_new rfl hth hu
            have eW:((wr.setCell ⟨G k,j * 3,none⟩ (.int .i64 (-7070 - (na:Int)))).setCell ⟨G k,j * 3+1,none⟩ (.int .i64 0)).setCell ⟨G k,j * 3+2,none⟩ (.int .i64 0)=wr.setCells (G k) (j * 3) [Value.int .i64 (-7070 - (na:Int)),.int .i64 0,.int .i64 0]:=rfl
            rw [eW]
            generalize wr.setCells (G k) (j * 3) [Value.int .i64 (-7070 - (na:Int)),.int .i64 0,.int .i64 0]=W5 at *
            have F6:=F5.later ((Kep.refl non _).drew) (Array.getElem?_eq_some_iff.1 F5.row).1
            refine ⟨⟨j+1,by omega,by go_num,F6,?_,?_⟩,by simp [intOf];omega⟩
            · intro q hq x hx i u hu
              exact st (G q) x i u hu (HD.out q hq x hx i u hu)
            · intro x hx i u hu
              by_cases e:x=j
              · subst e
                exact nw i u hu
              · exact st (G k) x i u hu (HRW.out x (by omega) i u hu)
          · go_wp2
            refine ⟨⟨k+1,by omega,by go_num,F,?_⟩,by simp [intOf];omega⟩
            intro q hq x hx i u hu
            by_cases eq:q=k
            · subst eq
              exact hrow x (by omega) i u hu
            · exact hdone q (by omega) x hx i u hu
      · have e4:k=4:=by omega
        subst e4
        obtain ⟨i0,hi0,hz0,hz1,hz2⟩:=info_parts info_levels
        have hW:=KW.out
        have exw:Kep (fun b=>(Value.slice a n c).ownBlock=some b) w wr:=hW.none.trans F.ex
        have o1:=H1.out.kep exw hlp
        have rav:=ownsRow_kep HE.out exw (fun b hb hb'=>hle b hb' hb)
        have sz:=exw.size
        have hzb':=HZB.out
        have c1:=o1.cell
        have HF:=hide F
        have HD:=hide hdone
        have HO:=hide o1
        have HX:=hide exw
        have HRV:=hide rav
        clear F hdone o1 hW exw y0 y1 y2
        have hnl:al.length=na:=HNA.out
        have hbb:B0≤wr.heap.size:=by omega
        clear hzb'
        go_wp2_with (at_builtin;(refine wpList_append_lies _ rfl _ _ _ rfl B0 69 i0 _ 1 24 Tryz.underlying29 hi0 hz0 hz1 hz2 rfl (by omega) _ na al rfl (by exact HRV.out.alloc _) ⟨wr.heap.size,0,none⟩ 1 1 [_] rfl rfl (by exact cell_one_new _ _ _) (by simp [Value.oneCell']) (by omega) (by simp only [maxLen];omega) (by omega) (by simp;omega) (wr.heap.size+1) (by simp) ?_))
        intro gg cap w1 hown1 hgrow hat hlt1
        have k1:Kep (fun b=>(Value.slice aa na ac).ownBlock=some b) wr w1:=((Kep.refl _ _).alloc _).grown hgrow (fun b hb=>.inl hb)
        have o2:=HO.out.kep k1 hep
        obtain ⟨z6,z7⟩:=o2
        go_wp2
        go_end0
        refine ⟨rfl,?_⟩
        have wz:=HZ.out
        have zz:=HZB.out
        exact book_end HNA.out (H1.out.lt) (fun b hb=>(HE.out.lt b hb).2) hlp hle hep HX.out (by omega) HO.out k1 hown1 hat (HF.out.marked (D:=fun b=>(Value.slice a n c).ownBlock=some b∨W0.heap.size≤b) HD.out (by omega) (fun b hb=>hb))
end

end Go.Proofs.YtcfoobhihhndjaaGreat
