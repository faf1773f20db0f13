
import Derived.Test.YtcfoobhihhndjaaGreatB11
import Derived.Test.YtcfoobhihhndjaaGreatB20
import Derived.Test.YtcfoobhihhndjaaGreatB21
import Derived.Test.YtcfoobhihhndjaaGreatB22
namespace Go.Proofs.YtcfoobhihhndjaaGreat

section
open Go.RowKit Go.Sort

def newR (T G:Nat) (rs:List Int):Rm:=⟨T,G,rs.length,fun h=>rs.getD h 0,fun _=>0,fun _ _ _=>0,[],[],fun _ _=>0,fun _ _=>0,fun _ _=>0,1,0,0⟩

def size1 (t g:Int) (n:Nat):Bool:=decide (1≤t) && decide (t≤8) && decide (1≤g) && decide (g≤4) && decide (1≤n) && decide (n≤4)
theorem sizeOk_eq (t g:Int) (rs:List Int):sizeOk t g rs=(size1 t g rs.length && rs.all rateOk):=by
  rw [Bool.eq_iff_iff]
  simp only [sizeOk,size1,inR,fitB,Bool.and_eq_true,decide_eq_true_eq]
  constructor
  · rintro ⟨⟨⟨a,b⟩,⟨c,d⟩⟩,⟨e,f⟩,k⟩
    exact ⟨⟨⟨⟨⟨⟨a,b⟩,c⟩,d⟩,e⟩,f⟩,k⟩
  · rintro ⟨⟨⟨⟨⟨⟨a,b⟩,c⟩,d⟩,e⟩,f⟩,k⟩
    exact ⟨⟨⟨a,b⟩,⟨c,d⟩⟩,⟨e,f⟩,k⟩

set_option maxRecDepth 100000 in
set_option maxHeartbeats 1000000 in
theorem refNew_no (w:World) (t g:Int) (v:Value) (rs:List Int) (hr:IntsAt w v rs) (hl:rs.length≤1048576) (hn:sizeOk t g rs=false) :
    Calls Tryz.prog 28 #[.int .i64 t,.int .i64 g,v] w fun e w'=>e = .returned (.tuple #[.pointer none,.int .i64 1])∧w'=w:=by
  obtain ⟨a,c,rfl⟩:=hr.form
  rw [sizeOk_eq] at hn
  have HN:=hide hn
  have HR:=hide hr
  clear hn hr
  go_enter Tryz.func28,Tryz.ntmps28
  go_wp2
  all_goals
    go_loop [8,9] (fun ok i=>∃ (j:Nat) (b:Bool),j≤rs.length∧i = .int .i64 j∧ok = .bool b∧b=(size1 t g rs.length && (rs.take j).all rateOk)) (fun _ i=>rs.length - (intOf i).toNat)
    case atStart=>exact ⟨0,_,Nat.zero_le _,rfl,rfl,by rw [Bool.eq_iff_iff];simp [size1];omega⟩
    case round =>
      obtain ⟨j,b,hj,rfl,rfl,hb⟩:=hrel
      have HB:=hide hb
      clear hb
      by_cases hlt:j<rs.length
      · have HA:=hide (all_snoc rs j hlt)
        rcases HR.out with ⟨_,h⟩ | ⟨rb,off,cap,h,hc⟩
        · subst h;simp at hlt
        · simp only [Value.slice.injEq,true_and] at h
          obtain ⟨rfl,rfl⟩:=h
          have q:=hc j rs[j] (by simp)
          have hq:Hid (rateOk rs[j]=(decide (0≤rs[j]) && decide (rs[j]≤100))):=hide rfl
          clear hc
          generalize rs[j]=x at *
          cases b
          · go_wp2
            refine ⟨⟨j+1,_,by omega,by go_num,rfl,?_⟩,by simp [intOf];omega⟩
            rw [HA.out,← Bool.and_assoc,← HB.out]
            simp
          · by_cases h0:0≤x
            · go_wp2
              refine ⟨⟨j+1,_,by omega,by go_num,rfl,?_⟩,by simp [intOf];omega⟩
              rw [HA.out,← Bool.and_assoc,← HB.out,hq.out]
              simp [h0]
            · go_wp2
              refine ⟨⟨j+1,_,by omega,by go_num,rfl,?_⟩,by simp [intOf];omega⟩
              rw [HA.out,← Bool.and_assoc,← HB.out,hq.out]
              simp [h0]
      · have e1:j=rs.length:=by omega
        subst e1
        have hb:b=false:=by
          rw [HB.out,List.take_of_length_le (Nat.le_refl _)]
          exact HN.out
        subst hb
        go_wp2
        go_ret2
        exact ⟨rfl,rfl⟩

def Thirteen (wr:World) (c:Nat) (f:Nat→Value):Prop:=∀ j,j<13→Own wr ⟨c,j,none⟩ (f j)
def upd (f:Nat→Value) (j:Nat) (v:Value):Nat→Value:=fun i=>if i=j then v else f i
theorem Thirteen.later {wr wr':World} {c:Nat} {f:Nat→Value} (h:Thirteen wr c f) (k:Kep non wr wr'):Thirteen wr' c f:=fun j hj=>(h j hj).kep k (fun q=>q)
theorem Thirteen.set {wr:World} {c:Nat} {f:Nat→Value} (h:Thirteen wr c f) (j:Nat) (v:Value):Thirteen (wr.setCell ⟨c,j,none⟩ v) c (upd f j v):=fun i hi=>by
  by_cases e:i=j
  · subst e
    simpa [upd] using (h i hi).set rfl v
  · simpa [upd,e] using (h i hi).set_other (q:=⟨c,j,none⟩) (by intro q;injection q with _ q _;exact e q) rfl rfl v

theorem made_at {w:World} {B n:Nat} {cap:Nat} (h:w.ownsRow 0 3 1 (.slice (some ⟨B,0,none⟩) n cap) n (madeCells #[.int .i64 0] n).toList) (k:Nat) (hk:k<n):Own w ⟨B,k,none⟩ (.int .i64 0):=by
  refine ⟨?_,h.frozenAt k⟩
  rw [h.cellAt k (by omega),toList_madeCells_one]
  simp [hk]

theorem thirteen0 (w:World) (T G:Nat):Thirteen (w.alloc (.cells #[.int .i64 T,.int .i64 G,.slice none 0 0,.slice none 0 0,.slice none 0 0,.slice none 0 0,.slice none 0 0,.slice none 0 0,.slice none 0 0,.slice none 0 0,.int .i64 1,.int .i64 0,.int .i64 0] 101)) w.heap.size
    (fun j=>if j=0 then .int .i64 T else if j=1 then .int .i64 G else if j=10 then .int .i64 1 else if j=11 then .int .i64 0 else if j=12 then .int .i64 0 else .slice none 0 0):=by
  intro j hj
  have h:=heap_alloc_new w (.cells #[.int .i64 T,.int .i64 G,.slice none 0 0,.slice none 0 0,.slice none 0 0,.slice none 0 0,.slice none 0 0,.slice none 0 0,.slice none 0 0,.slice none 0 0,.int .i64 1,.int .i64 0,.int .i64 0] 101)
  refine ⟨?_,frozen_of_row _ _ j _ _ h⟩
  rw [cell_of_row _ _ j _ _ _ h]
  rcases j with _ | _ | _ | _ | _ | _ | _ | _ | _ | _ | _ | _ | _ | j
  all_goals first | rfl | omega

theorem rnew_end {Wf:World} {T G:Nat} {rs:List Int} {c rb rcap mb pb lab pib amb:Nat} {f:Nat→Value} (S:Thirteen Wf c f)
    (hf:f 0 = .int .i64 T∧f 1 = .int .i64 G∧f 2 = .slice (some ⟨rb,0,none⟩) rs.length rcap∧f 3 = .slice (some ⟨mb,0,none⟩) T T∧f 4 = .slice (some ⟨pb,0,none⟩) (T * G * rs.length) (T * G * rs.length)∧f 5 = .slice none 0 0∧f 6 = .slice none 0 0∧f 7 = .slice (some ⟨lab,0,none⟩) (G * rs.length) (G * rs.length)∧f 8 = .slice (some ⟨pib,0,none⟩) (G * rs.length) (G * rs.length)∧f 9 = .slice (some ⟨amb,0,none⟩) (G * rs.length) (G * rs.length)∧f 10 = .int .i64 1∧f 11 = .int .i64 0∧f 12 = .int .i64 0)
    (h1:∀ k,k<T→Own Wf ⟨mb,k,none⟩ (.int .i64 0)) (h2:∀ k,k<T * G * rs.length→Own Wf ⟨pb,k,none⟩ (.int .i64 0)) (h3:∀ k,k<G * rs.length→Own Wf ⟨lab,k,none⟩ (.int .i64 0)) (h4:∀ k,k<G * rs.length→Own Wf ⟨pib,k,none⟩ (.int .i64 0)) (h5:∀ k,k<G * rs.length→Own Wf ⟨amb,k,none⟩ (.int .i64 0))
    (h8:∀ h,h<rs.length→Wf.cell? ⟨rb,h,none⟩=some (.int .i64 (rs.getD h 0))) (ho:c<rb∧rb<mb∧mb<pb∧pb<lab∧lab<pib∧pib<amb) :
    RRep Wf ⟨c,rb,rcap,mb,pb,.slice none 0 0,.slice none 0 0,lab,pib,amb⟩ (newR T G rs):=by
  obtain ⟨f0,f1,f2,f3,f4,f5,f6,f7,f8,f9,f10,f11,f12⟩:=hf
  obtain ⟨o1,o2,o3,o4,o5,o6⟩:=ho
  refine ⟨fun i=>?_,fun i j b hi hj=>?_⟩
  · rcases i with _ | _ | _ | _ | _ | _ | _ | _ | _ | i
    · exact ⟨f0 ▸ S 0 (by decide),f1 ▸ S 1 (by decide),f2 ▸ S 2 (by decide),f3 ▸ S 3 (by decide),f4 ▸ S 4 (by decide),f5 ▸ S 5 (by decide),f6 ▸ S 6 (by decide),f7 ▸ S 7 (by decide),f8 ▸ S 8 (by decide),f9 ▸ S 9 (by decide),f10 ▸ S 10 (by decide),f11 ▸ S 11 (by decide),f12 ▸ S 12 (by decide)⟩
    · exact h1
    · exact fun t h g ht hh hg=>h2 _ (lot_lt ht hh hg)
    · exact fun h g hh hg=>h3 _ (spot_lt hh hg)
    · exact fun h g hh hg=>h4 _ (spot_lt hh hg)
    · exact fun h g hh hg=>h5 _ (spot_lt hh hg)
    · exact World.ownsRow_nil _ _ _ _
    · exact World.ownsRow_nil _ _ _ _
    · exact h8
    · trivial
  · have H:∀ i,RL.F ⟨c,rb,rcap,mb,pb,.slice none 0 0,.slice none 0 0,lab,pib,amb⟩ i=some b→(i=0∧c=b)∨(i=1∧mb=b)∨(i=2∧pb=b)∨(i=3∧lab=b)∨(i=4∧pib=b)∨(i=5∧amb=b)∨(i=8∧rb=b):=by
      intro i hi
      rcases i with _ | _ | _ | _ | _ | _ | _ | _ | _ | i
      all_goals first
        | (simp only [RL.F,Option.some.injEq] at hi;omega)
        | (simp [RL.F,Value.ownBlock] at hi)
    have a:=H i hi
    have b:=H j hj
    omega

set_option maxRecDepth 100000 in
set_option maxHeartbeats 1000000 in
theorem refNew_yes (w:World) (T G:Nat) (v:Value) (rs:List Int) (hr:IntsAt w v rs) (hn:sizeOk T G rs=true) :
    Calls Tryz.prog 28 #[.int .i64 T,.int .i64 G,v] w fun e w'=>∃ L:RL,e = .returned (.tuple #[.pointer (some ⟨L.c,0,none⟩),.int .i64 0])∧RRep w' L (newR T G rs)∧Kep non w w'∧∀ b,L.S b→w.heap.size≤b:=by
  rw [sizeOk_eq] at hn
  simp only [size1,Bool.and_eq_true,decide_eq_true_eq] at hn
  obtain ⟨⟨⟨⟨⟨⟨t1,t8⟩,g1⟩,g4⟩,n1⟩,n4⟩,hall⟩:=hn
  rcases hr with ⟨_,h⟩ | ⟨rb,off,rc,rfl,hc⟩
  · subst h;simp at n1
  have HC:=hide hc
  have HA:=hide hall
  clear hc hall
  have b1:=mul_le' (a:=T) (A:=8) (b:=G) (B:=4) (by omega) (by omega) (by omega) (by omega)
  obtain ⟨b1,b1'⟩:=b1
  have b2:=mul_le' (a:=T * G) (A:=32) (b:=rs.length) (B:=4) (by omega) (by omega) (by omega) (by omega)
  obtain ⟨b2,b2'⟩:=b2
  have b3:=mul_le' (a:=G) (A:=4) (b:=rs.length) (B:=4) (by omega) (by omega) (by omega) (by omega)
  obtain ⟨b3,b3'⟩:=b3
  have p1:T * G * rs.length≤128:=by
    have:((T * G * rs.length:Nat):Int)≤128:=by rw [Int.natCast_mul,Int.natCast_mul];omega
    omega
  have p2:G * rs.length≤16:=by
    have:((G * rs.length:Nat):Int)≤16:=by rw [Int.natCast_mul];omega
    omega
  have n1':(1:Int)≤rs.length:=by omega
  have n4':(rs.length:Int)≤4:=by omega
  obtain ⟨i0,hi0,hz0,hz1,hz2⟩:=info_parts infoInt
  go_enter Tryz.func28,Tryz.ntmps28
  go_wp2
  go_loop [8,9] (fun ok i=>∃ (j:Nat),j≤rs.length∧i = .int .i64 j∧ok = .bool true) (fun _ i=>rs.length - (intOf i).toNat)
  case atStart=>exact ⟨0,Nat.zero_le _,rfl,by simp⟩
  case round =>
    obtain ⟨j,hj,rfl,rfl⟩:=hrel
    by_cases hlt:j<rs.length
    · have q:=HC.out j rs[j] (by simp)
      have hq:=List.all_eq_true.1 HA.out rs[j] (by simp)
      simp only [rateOk,Bool.and_eq_true,decide_eq_true_eq] at hq
      obtain ⟨q0,q1⟩:=hq
      generalize rs[j]=x at *
      go_wp2
      go_round
      case rel=>exact ⟨j+1,by omega,by go_num,by simp⟩
      case measure=>simp [intOf];omega
    · have T0:=thirteen0 w T G
      go_wp2_with (at_builtin;refine wpList_append_lies _ rfl _ _ _ rfl 0 3 i0 _ 1 8 Tryz.underlying38 hi0 hz0 hz1 hz2 rfl (by omega) _ 0 [] rfl (World.ownsRow_nil _ _ _ _) ⟨rb,off,none⟩ rs.length rc (rs.map (.int .i64)) rfl (by simp) (by exact ints_news HC.out _) (ints_one rs) (by omega) (by simp only [maxLen];omega) (by omega) (by simp) (w.heap.size+1) (by simp) ?_)
      intro gg rcap w1 hown1 hgrow1 hat1 hlt1
      obtain rfl:gg=w.heap.size+1:=by simpa [Value.ownBlock] using hat1
      have k1:Kep non _ w1:=(Kep.refl _ _).grown hgrow1 (by simp [Value.ownBlock])
      have s1:=k1.size
      simp only [World.size_alloc] at s1
      have T1:=T0.later k1
      obtain ⟨z1,y1⟩:=T1 2 (by decide)
      have K1:Kep non w w1:=((Kep.refl _ _).alloc _).trans k1
      have S1:=T1.set 2 (.slice (some ⟨w.heap.size+1,0,none⟩) rs.length rcap)
      have M1:Hid (∀ h,h<rs.length→w1.cell? ⟨w.heap.size+1,h,none⟩=some (.int .i64 (rs.getD h 0))):=hide fun h hh=>by
        rw [hown1.cellAt h (by simp;omega)]
        simp [hh]
      clear hat1 hgrow1 T0 k1 hown1
      go_wp2_with (at_make;refine wpList_make_full _ rfl _ _ 38 rfl 0 3 i0 _ 1 Tryz.underlying38 hi0 hz0 hz1 _ _ _ _ T rfl rfl rfl rfl (by rw [hz2];omega) (by simp only [maxLen];omega) (Nat.zero_le _) ?_)
      intro w2 hown2 hgrow2
      have k2:Kep non _ w2:=(Kep.refl _ _).grown hgrow2 (by simp)
      have T2:=S1.later k2
      have K2:Kep non w w2:=(K1.setCell (p:=⟨w.heap.size,2,none⟩) (.inr (by simp)) _).trans k2
      obtain ⟨z2,y2⟩:=T2 3 (by decide)
      have M2:Hid (∀ k,k<T→Own w2 ⟨w1.heap.size,k,none⟩ (.int .i64 0)):=hide fun k hk=>made_at hown2 k hk
      clear hown2 hgrow2
      have S2:=T2.set 3 (.slice (some ⟨w1.heap.size,0,none⟩) T T)
      go_wp2_with (at_make;refine wpList_make_full _ rfl _ _ 38 rfl 0 3 i0 _ 1 Tryz.underlying38 hi0 hz0 hz1 _ _ _ _ (T * G * rs.length) rfl rfl (by simp only [Int.natCast_mul]) (by simp only [Int.natCast_mul]) (by rw [hz2];omega) (by simp only [maxLen];omega) (Nat.zero_le _) ?_)
      intro w3 hown3 hgrow3
      have k3:Kep non _ w3:=(Kep.refl _ _).grown hgrow3 (by simp)
      have T3:=S2.later k3
      have K3:Kep non w w3:=(K2.setCell (p:=⟨w.heap.size,3,none⟩) (.inr (by simp)) _).trans k3
      obtain ⟨z3,y3⟩:=T3 4 (by decide)
      have M3:Hid (∀ k,k<T * G * rs.length→Own w3 ⟨w2.heap.size,k,none⟩ (.int .i64 0)):=hide fun k hk=>made_at hown3 k hk
      clear hown3 hgrow3
      have S3:=T3.set 4 (.slice (some ⟨w2.heap.size,0,none⟩) (T * G * rs.length) (T * G * rs.length))
      go_wp2_with (at_make;refine wpList_make_full _ rfl _ _ 38 rfl 0 3 i0 _ 1 Tryz.underlying38 hi0 hz0 hz1 _ _ _ _ (G * rs.length) rfl rfl (by simp only [Int.natCast_mul]) (by simp only [Int.natCast_mul]) (by rw [hz2];omega) (by simp only [maxLen];omega) (Nat.zero_le _) ?_)
      intro w4 hown4 hgrow4
      have k4:Kep non _ w4:=(Kep.refl _ _).grown hgrow4 (by simp)
      have T4:=S3.later k4
      have K4:Kep non w w4:=(K3.setCell (p:=⟨w.heap.size,4,none⟩) (.inr (by simp)) _).trans k4
      obtain ⟨z4,y4⟩:=T4 7 (by decide)
      have M4:Hid (∀ k,k<G * rs.length→Own w4 ⟨w3.heap.size,k,none⟩ (.int .i64 0)):=hide fun k hk=>made_at hown4 k hk
      clear hown4 hgrow4
      have S4:=T4.set 7 (.slice (some ⟨w3.heap.size,0,none⟩) (G * rs.length) (G * rs.length))
      go_wp2_with (at_make;refine wpList_make_full _ rfl _ _ 38 rfl 0 3 i0 _ 1 Tryz.underlying38 hi0 hz0 hz1 _ _ _ _ (G * rs.length) rfl rfl (by simp only [Int.natCast_mul]) (by simp only [Int.natCast_mul]) (by rw [hz2];omega) (by simp only [maxLen];omega) (Nat.zero_le _) ?_)
      intro w5 hown5 hgrow5
      have k5:Kep non _ w5:=(Kep.refl _ _).grown hgrow5 (by simp)
      have T5:=S4.later k5
      have K5:Kep non w w5:=(K4.setCell (p:=⟨w.heap.size,7,none⟩) (.inr (by simp)) _).trans k5
      obtain ⟨z5,y5⟩:=T5 8 (by decide)
      have M5:Hid (∀ k,k<G * rs.length→Own w5 ⟨w4.heap.size,k,none⟩ (.int .i64 0)):=hide fun k hk=>made_at hown5 k hk
      clear hown5 hgrow5
      have S5:=T5.set 8 (.slice (some ⟨w4.heap.size,0,none⟩) (G * rs.length) (G * rs.length))
      go_wp2_with (at_make;refine wpList_make_full _ rfl _ _ 38 rfl 0 3 i0 _ 1 Tryz.underlying38 hi0 hz0 hz1 _ _ _ _ (G * rs.length) rfl rfl (by simp only [Int.natCast_mul]) (by simp only [Int.natCast_mul]) (by rw [hz2];omega) (by simp only [maxLen];omega) (Nat.zero_le _) ?_)
      intro w6 hown6 hgrow6
      have k6:Kep non _ w6:=(Kep.refl _ _).grown hgrow6 (by simp)
      have T6:=S5.later k6
      have K6:Kep non w w6:=(K5.setCell (p:=⟨w.heap.size,8,none⟩) (.inr (by simp)) _).trans k6
      obtain ⟨z6,y6⟩:=T6 9 (by decide)
      have M6:Hid (∀ k,k<G * rs.length→Own w6 ⟨w5.heap.size,k,none⟩ (.int .i64 0)):=hide fun k hk=>made_at hown6 k hk
      clear hown6 hgrow6
      have S6:=T6.set 9 (.slice (some ⟨w5.heap.size,0,none⟩) (G * rs.length) (G * rs.length))
      go_wp2
      go_ret2
      have q2:=k2.size
      have q3:=k3.size
      have q4:=k4.size
      have q5:=k5.size
      have q6:=k6.size
      simp only [World.size_setCell] at q2 q3 q4 q5 q6
      have gr:0<G * rs.length:=Nat.mul_pos (by omega) (by omega)
      have tgr:0<T * G * rs.length:=by rw [Nat.mul_assoc];exact Nat.mul_pos (by omega) gr
      have l2:w1.heap.size<w2.heap.size:=(M2.out 0 (by omega)).lt
      have l3:w2.heap.size<w3.heap.size:=(M3.out 0 tgr).lt
      have l4:w3.heap.size<w4.heap.size:=(M4.out 0 gr).lt
      have l5:w4.heap.size<w5.heap.size:=(M5.out 0 gr).lt
      have l1:w.heap.size+1<w1.heap.size:=World.block_lt_of_cell? _ _ (M1.out 0 (by omega))
      have n6:Kep (fun b=>b=w.heap.size) w6 (w6.setCell ⟨w.heap.size,9,none⟩ (.slice (some ⟨w5.heap.size,0,none⟩) (G * rs.length) (G * rs.length))):=(Kep.refl (fun b=>b=w.heap.size) w6).setCell (p:=⟨w.heap.size,9,none⟩) (.inl rfl) _
      have n5:=(((Kep.refl (fun b=>b=w.heap.size) w5).setCell (p:=⟨w.heap.size,8,none⟩) (.inl rfl) (.slice (some ⟨w4.heap.size,0,none⟩) (G * rs.length) (G * rs.length))).trans k6.none).trans n6
      have n4:=(((Kep.refl (fun b=>b=w.heap.size) w4).setCell (p:=⟨w.heap.size,7,none⟩) (.inl rfl) (.slice (some ⟨w3.heap.size,0,none⟩) (G * rs.length) (G * rs.length))).trans k5.none).trans n5
      have n3:=(((Kep.refl (fun b=>b=w.heap.size) w3).setCell (p:=⟨w.heap.size,4,none⟩) (.inl rfl) (.slice (some ⟨w2.heap.size,0,none⟩) (T * G * rs.length) (T * G * rs.length))).trans k4.none).trans n4
      have n2:=(((Kep.refl (fun b=>b=w.heap.size) w2).setCell (p:=⟨w.heap.size,3,none⟩) (.inl rfl) (.slice (some ⟨w1.heap.size,0,none⟩) T T)).trans k3.none).trans n3
      have n1:=(((Kep.refl (fun b=>b=w.heap.size) w1).setCell (p:=⟨w.heap.size,2,none⟩) (.inl rfl) (.slice (some ⟨w.heap.size+1,0,none⟩) rs.length rcap)).trans k2.none).trans n2
      refine ⟨⟨w.heap.size,w.heap.size+1,rcap,w1.heap.size,w2.heap.size,.slice none 0 0,.slice none 0 0,w3.heap.size,w4.heap.size,w5.heap.size⟩,by simp,?_,K6.setCell (p:=⟨w.heap.size,9,none⟩) (.inr (by simp)) _,?_⟩
      · exact rnew_end S6 ⟨rfl,rfl,rfl,rfl,rfl,rfl,rfl,rfl,rfl,rfl,rfl,rfl,rfl⟩ (fun k hk=>(M2.out k hk).kep n2 (by simp only [];omega)) (fun k hk=>(M3.out k hk).kep n3 (by simp only [];omega)) (fun k hk=>(M4.out k hk).kep n4 (by simp only [];omega)) (fun k hk=>(M5.out k hk).kep n5 (by simp only [];omega)) (fun k hk=>(M6.out k hk).kep n6 (by simp only [];omega)) (fun h hh=>n1.cell (M1.out h hh) (by simp only [];omega)) ⟨by omega,by omega,by omega,by omega,by omega,by omega⟩
      · rintro b ⟨i,hi⟩
        rcases i with _ | _ | _ | _ | _ | _ | _ | _ | _ | i
        all_goals first
          | (simp only [RL.F,Option.some.injEq] at hi;omega)
          | (simp [RL.F,Value.ownBlock] at hi)
end

section
theorem heldL_perm {t:Int} {a b:List Od} (h:a.Perm b):heldL t a=heldL t b:=by
  induction h with
  | nil=>rfl
  | cons x _ ih=>simp only [heldL,ih]
  | swap x y l=>simp only [heldL];omega
  | trans _ _ ih1 ih2=>rw [ih1,ih2]
theorem keptA_perm {t h g:Int} {a b:List Od} (p:a.Perm b):keptA t h g a=keptA t h g b:=by
  induction p with
  | nil=>rfl
  | cons x _ ih=>simp only [keptA,ih]
  | swap x y l=>simp only [keptA];omega
  | trans _ _ ih1 ih2=>rw [ih1,ih2]

theorem keptA_none {t h g:Int}:∀ {l:List Od},(∀ o∈l,¬ (o.s=1∧o.h=h∧o.g=g))→keptA t h g l=0
  | [],_=>rfl
  | o :: r,k=>by
    have ih:=keptA_none (t:=t) (h:=h) (g:=g) (l:=r) fun x hx=>k x (List.mem_cons_of_mem _ hx)
    have:=k o List.mem_cons_self
    simp only [keptA,ih]
    rw [if_neg (fun f=>this f.2)]
    omega
theorem keptA_all {t h g:Int}:∀ {l:List Od},(∀ o∈l,o.s=1∧o.h=h∧o.g=g)→keptA t h g l=keptL t l
  | [],_=>rfl
  | o :: r,k=>by
    have ih:=keptA_all (t:=t) (h:=h) (g:=g) (l:=r) fun x hx=>k x (List.mem_cons_of_mem _ hx)
    have:=k o List.mem_cons_self
    simp only [keptA,keptL,ih]
    by_cases e:o.t=t
    · rw [if_pos ⟨e,this⟩,if_pos e]
    · rw [if_neg (fun f=>e f.1),if_neg e]

theorem keptA_upG {t:Int} {h:Int} {g:Nat} {f:Nat→Nat→List Od}:∀ G,(∀ a s o,a<G→s<2→o∈f a s→o.h=h∧o.g=a∧o.s=s)→keptA t h g (upG f G)=if g<G then keptL t (f g 1) else 0
  | 0,_=>by simp [upG,keptA]
  | G+1,k=>by
    have ih:=keptA_upG (t:=t) (h:=h) (g:=g) (f:=f) G fun a s o ha=>k a s o (by omega)
    have z0:keptA t h g (f G 0)=0:=keptA_none fun o ho q=>by have:=(k G 0 o (by omega) (by omega) ho).2.2;omega
    simp only [upG,two,keptA_append,ih,z0]
    by_cases e:g=G
    · subst e
      have z1:keptA t h g (f g 1)=keptL t (f g 1):=keptA_all fun o ho=>by
        have:=k g 1 o (by omega) (by omega) ho
        exact ⟨this.2.2,this.1,this.2.1⟩
      rw [z1,if_neg (by omega),if_pos (by omega)]
      omega
    · have z1:keptA t h g (f G 1)=0:=keptA_none fun o ho q=>by have:=(k G 1 o (by omega) (by omega) ho).2.1;omega
      rw [z1]
      by_cases e2:g<G
      · rw [if_pos e2,if_pos (by omega)];omega
      · rw [if_neg e2,if_neg (by omega)];omega
theorem keptA_upH {t:Int} {h g G:Nat} {f:Nat→Nat→Nat→List Od} (hg:g<G):∀ H,(∀ i a s o,i<H→a<G→s<2→o∈f i a s→o.h=i∧o.g=a∧o.s=s)→keptA t h g (upH G f H)=if h<H then keptL t (f h g 1) else 0
  | 0,_=>by simp [upH,keptA]
  | H+1,k=>by
    have ih:=keptA_upH (t:=t) (h:=h) hg H fun i a s o hi=>k i a s o (by omega)
    simp only [upH,keptA_append,ih]
    by_cases e:h=H
    · subst e
      have:=keptA_upG (t:=t) (h:=h) (g:=g) (f:=f h) G fun a s o ha hs ho=>by
        have:=k h a s o (by omega) ha hs ho
        exact this
      rw [this,if_pos hg,if_neg (by omega),if_pos (by omega)]
      omega
    · have z:keptA t h g (upG (f H) G)=0:=keptA_none fun o ho q=>by
        obtain ⟨a,s,ha,hs,hm⟩:=mem_upG.1 ho
        have:=(k H a s o (by omega) ha hs hm).1
        omega
      rw [z]
      by_cases e2:h<H
      · rw [if_pos e2,if_pos (by omega)];omega
      · rw [if_neg e2,if_neg (by omega)];omega

structure Rel (m:Mt) (r:Rm):Prop where
  T:r.T=m.T
  G:r.G=m.G
  H:r.H=m.H
  rt:r.rt=m.rt
  mo:∀ t,t<m.T→r.mo t=m.mo t+m.held t
  pc:∀ t h g,t<m.T→h<m.H→g<m.G→r.pc t h g=m.pc t h g+m.kept t h g
  wt:r.wt.Perm m.all
  srt:r.wt.Pairwise fun a b=>a.id<b.id
  ld:r.ld=m.ld
  la:∀ h g,h<m.H→g<m.G→r.la h g=m.la h g
  pi:∀ h g,h<m.H→g<m.G→r.pi h g=m.pi h g
  am:∀ h g,h<m.H→g<m.G→r.am h g=m.am h g
  nx:r.nx=m.nu+1
  ho:r.ho=m.ho
  tm:r.tm=m.tm

section
variable {m:Mt} {r:Rm} {N:Int}

theorem Rel.held (R:Rel m r) (t:Int):r.held t=m.held t:=heldL_perm R.wt
theorem Rel.kept (R:Rel m r) (ok:m.Ok N) (t:Int) {h g:Nat} (hh:h<m.H) (hg:g<m.G):r.kept t h g=m.kept t h g:=by
  have e:=keptA_upH (t:=t) (h:=h) (f:=m.bk) hg m.H fun i a s o hi ha hs ho=>by
    have:=ok.od i a s o hi ha hs ho
    exact ⟨this.h,this.g,this.s⟩
  rw [if_pos hh] at e
  unfold Rm.kept
  rw [keptA_perm R.wt]
  exact e
theorem Rel.come (R:Rel m r) (t h g:Int):r.come t h g=m.come t h g:=by unfold Rm.come Mt.come;rw [R.ld]

theorem Rel.ok (R:Rel m r) (I:m.Inv N):r.Ok 0:=by
  have ok:=I.ok
  have nu:=ok.nu
  have bN:=I.bN
  refine ⟨by omega,by omega,?_,?_,?_,?_,?_,?_,?_,?_,?_,?_,?_,?_,?_,?_,?_,?_,?_,?_⟩
  · rw [R.T];exact ok.T1
  · rw [R.T];exact ok.T8
  · rw [R.G];exact ok.G1
  · rw [R.G];exact ok.G4
  · rw [R.H];exact ok.H1
  · rw [R.H];exact ok.H4
  · rw [R.H,R.rt];exact ok.rt
  · intro t ht
    rw [R.T] at ht
    have:=ok.mo t ht
    have:=held_bd ok t
    rw [R.mo t ht]
    omega
  · intro t h g ht hh hg
    rw [R.T] at ht;rw [R.H] at hh;rw [R.G] at hg
    have:=ok.pc t h g ht hh hg
    have:=kept_ok ok t hh hg
    rw [R.pc t h g ht hh hg]
    omega
  · rw [R.ld];exact ok.l20
  · rw [R.ld,R.T,R.H,R.G];exact ok.ld
  · rw [R.wt.length_eq];exact ok.a60
  · intro o ho
    have ho':=R.wt.mem_iff.1 ho
    obtain ⟨h,g,s,hh,hg,hs,hm⟩:=mem_upH.1 ho'
    have q:=ok.od h g s o hh hg hs hm
    rw [R.T,R.H,R.G]
    exact ⟨q.t,by rw [q.h];omega,by rw [q.g];omega,by rw [q.s];omega,q.p,q.q⟩
  · intro h g hh hg
    rw [R.H] at hh;rw [R.G] at hg
    have:=I.pi h g hh hg
    rw [R.pi h g hh hg]
    omega
  · intro h g hh hg
    rw [R.H] at hh;rw [R.G] at hg
    have:=I.am h g hh hg
    rw [R.am h g hh hg]
    omega
  · rw [R.nx];omega
  · have:=ok.ho;rw [R.ho];omega
  · rw [R.tm];exact ok.tm

theorem Rel.sum (R:Rel m r):∀ j,j≤m.T→r.ho+sumTo r.mo j=m.sumM j
  | 0,_=>by simp [sumTo,Mt.sumM,R.ho]
  | j+1,h=>by
    have ih:=R.sum j (by omega)
    have e:=R.mo j (by omega)
    simp only [sumTo,Mt.sumM]
    omega

theorem Rel.setMo (R:Rel m r) {t:Nat} (ht:t<m.T) (x y:Int) (h:y=x+m.held t):Rel (m.setMo t x) (r.setMo t y) :=
  ⟨R.T,R.G,R.H,R.rt,fun k hk=>by
    by_cases e:k=t
    · subst e
      show (if k=k then y else _)=(if k=k then x else _)+m.held k
      rw [if_pos rfl,if_pos rfl,h]
    · show (if k=t then y else r.mo k)=(if k=t then x else m.mo k)+m.held k
      rw [if_neg e,if_neg e]
      exact R.mo k hk,R.pc,R.wt,R.srt,R.ld,R.la,R.pi,R.am,R.nx,R.ho,R.tm⟩
theorem Rel.setPc (R:Rel m r) {t h g:Nat} (x y:Int) (e:y=x+m.kept t h g):Rel (m.setPc t h g x) (r.setPc t h g y) :=
  ⟨R.T,R.G,R.H,R.rt,R.mo,fun a b c ha hb hc=>by
    by_cases q:a=t∧b=h∧c=g
    · obtain ⟨rfl,rfl,rfl⟩:=q
      show (if _ then y else _)=(if _ then x else _)+m.kept a b c
      rw [if_pos ⟨rfl,rfl,rfl⟩,if_pos ⟨rfl,rfl,rfl⟩,e]
    · show (if _ then y else r.pc a b c)=(if _ then x else m.pc a b c)+m.kept a b c
      rw [if_neg q,if_neg q]
      exact R.pc a b c ha hb hc,R.wt,R.srt,R.ld,R.la,R.pi,R.am,R.nx,R.ho,R.tm⟩

theorem Rel.pay (R:Rel m r) (t x:Int):rpayE r t x=payE m t x∧Rel (payM m t x) (rpayM r t x):=by
  have e:rpayE r t x=payE m t x:=by
    unfold rpayE payE
    have:=R.sum m.T (Nat.le_refl _)
    rw [R.T]
    have q:(1000000000000<r.ho+x+sumTo r.mo m.T)=(1000000000000<m.sumM m.T+x):=by rw [← this];congr 1;omega
    simp only [q]
  refine ⟨e,?_⟩
  unfold payM rpayM
  rw [e]
  split
  · rename_i h
    have ht:okI m.T t:=by
      unfold payE at h
      by_cases q:okI m.T t
      · exact q
      · simp [q] at h
    have hk:t.toNat<m.T:=by have:=ht.1;have:=ht.2;omega
    exact R.setMo hk _ _ (by rw [R.mo _ hk];omega)
  · exact R

theorem toNat_cast {t:Int} (h:0≤t):((t.toNat:Nat):Int)=t:=Int.toNat_of_nonneg h

theorem Rel.draw (R:Rel m r) (t x:Int):rdrawE r t x=drawE m t x∧Rel (drawM m t x) (rdrawM r t x):=by
  have e:rdrawE r t x=drawE m t x:=by
    unfold rdrawE drawE
    rw [R.T]
    by_cases ht:okI m.T t
    · have hk:t.toNat<m.T:=by have:=ht.1;have:=ht.2;omega
      have q:=R.mo _ hk
      rw [toNat_cast ht.1] at q
      rw [q,R.held,show m.mo t.toNat+m.held t - m.held t=m.mo t.toNat by omega]
    · simp [ht]
  refine ⟨e,?_⟩
  unfold drawM rdrawM
  rw [e]
  split
  · rename_i h
    have ht:okI m.T t:=by
      unfold drawE at h
      by_cases q:okI m.T t
      · exact q
      · simp [q] at h
    have hk:t.toNat<m.T:=by have:=ht.1;have:=ht.2;omega
    exact R.setMo hk _ _ (by rw [R.mo _ hk];omega)
  · exact R

theorem Rel.lots (R:Rel m r) (t h g n:Int):rlotsE r t h g n=lotsE m t h g n:=by
  unfold rlotsE lotsE
  rw [R.T,R.H,R.G]

theorem Rel.row (R:Rel m r) {i g:Nat} (hi:i<m.T) (hg:g<m.G):∀ k,k≤m.H→rrowTo r g i k=rowTo m g i k
  | 0,_=>rfl
  | k+1,h=>by
    have ih:=R.row hi hg k (by omega)
    have e:=R.pc i k g hi (by omega) hg
    have c:=R.come i k g
    simp only [rrowTo,rowTo]
    omega
theorem Rel.tot (R:Rel m r) {g:Nat} (hg:g<m.G):∀ i,i≤m.T→rtotTo r g i=totTo m g i
  | 0,_=>rfl
  | i+1,h=>by
    have ih:=R.tot hg i (by omega)
    have e:=R.row (i:=i) (by omega) hg m.H (Nat.le_refl _)
    simp only [rtotTo,totTo]
    rw [R.H]
    omega

theorem Rel.bring (R:Rel m r) (t h g n:Int):rbringE r t h g n=bringE m t h g n∧Rel (bringM m t h g n) (rbringM r t h g n):=by
  have e:rbringE r t h g n=bringE m t h g n:=by
    unfold rbringE bringE
    rw [R.lots]
    by_cases hl:lotsE m t h g n=0
    · obtain ⟨_,_,hg,_⟩:=lotsE_zero hl
      have hk:g.toNat<m.G:=by have:=hg.1;have:=hg.2;omega
      rw [R.T,R.tot hk m.T (Nat.le_refl _),Int.add_comm n]
    · simp [hl]
  refine ⟨e,?_⟩
  unfold bringM rbringM
  rw [e]
  split
  · rename_i hz
    obtain ⟨hl,_⟩:=bringE_zero hz
    obtain ⟨k1,k2,k3,_⟩:=lotsE_zero hl
    exact R.setPc _ _ (by rw [R.pc _ _ _ (by have:=k1.1;have:=k1.2;omega) (by have:=k2.1;have:=k2.2;omega) (by have:=k3.1;have:=k3.2;omega)];omega)
  · exact R

theorem Rel.spare (R:Rel m r) (ok:m.Ok N) {t h g n:Int} (hl:lotsE m t h g n=0):r.pc t.toNat h.toNat g.toNat - r.kept t h g=m.pc t.toNat h.toNat g.toNat:=by
  obtain ⟨k1,k2,k3,_⟩:=lotsE_zero hl
  have b1:t.toNat<m.T:=by have:=k1.1;have:=k1.2;omega
  have b2:h.toNat<m.H:=by have:=k2.1;have:=k2.2;omega
  have b3:g.toNat<m.G:=by have:=k3.1;have:=k3.2;omega
  have e:=R.pc _ _ _ b1 b2 b3
  have q:=R.kept ok t b2 b3
  rw [toNat_cast k2.1,toNat_cast k3.1] at q
  rw [toNat_cast k1.1] at e
  omega

theorem Rel.take (R:Rel m r) (ok:m.Ok N) (t h g n:Int):rtakeE r t h g n=takeE m t h g n∧Rel (takeM m t h g n) (rtakeM r t h g n):=by
  have e:rtakeE r t h g n=takeE m t h g n:=by
    unfold rtakeE takeE
    rw [R.lots]
    by_cases hl:lotsE m t h g n=0
    · rw [R.spare ok hl]
    · simp [hl]
  refine ⟨e,?_⟩
  unfold takeM rtakeM
  rw [e]
  split
  · rename_i hz
    obtain ⟨hl,_⟩:=takeE_zero hz
    obtain ⟨k1,k2,k3,_⟩:=lotsE_zero hl
    exact R.setPc _ _ (by rw [R.pc _ _ _ (by have:=k1.1;have:=k1.2;omega) (by have:=k2.1;have:=k2.2;omega) (by have:=k3.1;have:=k3.2;omega)];omega)
  · exact R

theorem shipE_lots (m:Mt) (t f o g n:Int):shipE m t f o g n=if ¬ okI m.T t then 2 else if ¬ okI m.H o∨f=o then 3 else if lotsE m t f g n≠0 then lotsE m t f g n else if m.pc t.toNat f.toNat g.toNat<n then 7 else if 20≤m.ld.length then 8 else 0:=by
  unfold shipE lotsE
  by_cases h1:okI m.T t <;> by_cases h2:okI m.H o <;> by_cases h3:f=o <;> by_cases h4:okI m.H f <;> by_cases h5:okI m.G g <;> by_cases h6:okN n 10000 <;> simp_all

theorem Rel.ship (R:Rel m r) (ok:m.Ok N) (t f o g n:Int):rshipE r t f o g n=shipE m t f o g n∧Rel (shipM m t f o g n) (rshipM r t f o g n):=by
  have e:rshipE r t f o g n=shipE m t f o g n:=by
    rw [shipE_lots]
    unfold rshipE
    rw [R.lots,R.T,R.H,R.ld]
    by_cases hl:lotsE m t f g n=0
    · rw [R.spare ok hl]
    · simp [hl]
  refine ⟨e,?_⟩
  unfold shipM rshipM
  rw [e]
  split
  · rename_i hz
    obtain ⟨k1,k2,_,_,k3,k4,_⟩:=shipE_zero hz
    have P:=R.setPc (t:=t.toNat) (h:=f.toNat) (g:=g.toNat) (m.pc t.toNat f.toNat g.toNat - n) (r.pc t.toNat f.toNat g.toNat - n) (by rw [R.pc _ _ _ (by have:=k1.1;have:=k1.2;omega) (by have:=k2.1;have:=k2.2;omega) (by have:=k3.1;have:=k3.2;omega)];omega)
    exact ⟨P.T,P.G,P.H,P.rt,P.mo,P.pc,P.wt,P.srt,by show r.ld ++ _=m.ld ++ _;rw [R.ld,R.tm],P.la,P.pi,P.am,P.nx,P.ho,P.tm⟩
  · exact R

theorem Rel.land (now:Int):∀ (ls:List Lo) (m:Mt) (r:Rm),Rel m r→(∀ l∈ls,(0≤l.t∧l.t<m.T)∧(0≤l.h∧l.h<m.H)∧(0≤l.g∧l.g<m.G))→Rel (landM m now ls) (rlandM r now ls)
  | [],_,_,R,_=>R
  | l :: ls,m,r,R,k=>by
    simp only [landM,rlandM]
    split
    · exact Rel.land now ls m r R fun x hx=>k x (List.mem_cons_of_mem _ hx)
    · obtain ⟨k1,k2,k3⟩:=k l List.mem_cons_self
      have P:=R.setPc (t:=l.t.toNat) (h:=l.h.toNat) (g:=l.g.toNat) (m.pc l.t.toNat l.h.toNat l.g.toNat+l.n) (r.pc l.t.toNat l.h.toNat l.g.toNat+l.n) (by rw [R.pc _ _ _ (by omega) (by omega) (by omega)];omega)
      exact Rel.land now ls _ _ P fun x hx=>k x (List.mem_cons_of_mem _ hx)

theorem Rel.tick (R:Rel m r) (ok:m.Ok N):rtickE r=tickE m∧Rel (tickM m) (rtickM r):=by
  have e:rtickE r=tickE m:=by unfold rtickE tickE;rw [R.tm]
  refine ⟨e,?_⟩
  unfold tickM rtickM
  rw [e]
  split
  · rw [R.tm,R.ld]
    have P:=Rel.land (m.tm+1) m.ld m r R fun l hl=>by have:=ok.ld l hl;exact ⟨this.1,this.2.1,this.2.2.1⟩
    exact ⟨P.T,P.G,P.H,P.rt,P.mo,P.pc,P.wt,P.srt,rfl,P.la,P.pi,P.am,P.nx,P.ho,rfl⟩
  · exact R

theorem Rel.aStk (R:Rel m r) (ok:m.Ok N) {t h g:Nat} (ht:t<m.T) (hh:h<m.H) (hg:g<m.G):rstk r t h g=stk m t h g:=by
  unfold rstk stk
  have e:=R.pc t h g ht hh hg
  have q:=R.kept ok t hh hg
  have c:=R.come t h g
  rw [q,c,show r.pc t h g - m.kept t h g=m.pc t h g by omega]
theorem Rel.aRow (R:Rel m r) (ok:m.Ok N) {t h:Nat} (ht:t<m.T) (hh:h<m.H):∀ k,k≤m.G→rstkRow r t h k=stkRow m t h k
  | 0,_=>rfl
  | k+1,hk=>by simp only [rstkRow,stkRow];rw [R.aRow ok ht hh k (by omega),R.aStk ok ht hh (by omega)]
theorem Rel.aTo (R:Rel m r) (ok:m.Ok N) {t:Nat} (ht:t<m.T):∀ i,i≤m.H→rstkTo r t i=stkTo m t i
  | 0,_=>rfl
  | i+1,hi=>by simp only [rstkTo,stkTo];rw [R.aTo ok ht i (by omega),R.G,R.aRow ok ht (by omega) m.G (Nat.le_refl _)]

theorem newM_all (T G:Nat) (rs:List Int):(newM T G rs).all=[]:=by
  rw [List.eq_nil_iff_forall_not_mem]
  intro o ho
  obtain ⟨h,g,s,_,_,_,hm⟩:=mem_upH.1 ho
  exact absurd hm (by simp [newM])
theorem Rel.new (T G:Nat) (rs:List Int):Rel (newM T G rs) (newR T G rs):=by
  have e:=newM_all T G rs
  refine ⟨rfl,rfl,rfl,rfl,fun t _=>?_,fun t h g _ _ _=>?_,by rw [e];exact List.Perm.refl _,List.Pairwise.nil,rfl,fun _ _ _ _=>rfl,fun _ _ _ _=>rfl,fun _ _ _ _=>rfl,rfl,rfl,rfl⟩
  · unfold Mt.held
    rw [e]
    rfl
  · rfl
end
end

end Go.Proofs.YtcfoobhihhndjaaGreat
